/-
  My own text: SN8, SN9 in one.
-/
import Derived.Test.YtehacdijleommaaGreatDoorJN7
import Derived.Test.YtehacdijleommaaGreatDoorSN9
namespace Go.Proofs.YtehacdijleommaaGreatDoor.CI
open Go.RowKit Go.Extern Go.MapKept Go.ChangeMaps

set_option maxRecDepth 100000 in
set_option maxHeartbeats 2000000 in
theorem putS_new2 (k : Ky) (N : Int) (V : Int) (sb n : Nat) (m : Nat → Nat × List (Ky × Nat)) (w : World) (h : ST w sb n m) (hk : KOK k) (hc : lk (m (si k n)).2 k = none) (hN : 0 ≤ N) :
    Calls Tryz.prog 30 #[.pointer (some ⟨sb, 0, none⟩), .agg #[.int .i64 k.1, .int .i64 k.2], .int .i64 N, .int .i64 V] w fun e w' => ∃ c, e = .returned .nilIface ∧ ST w' sb n (upm m (si k n) (k, c)) ∧ CH w' c c [(N, V)] ∧ w.heap.size ≤ c ∧ NF (fun y => y = (m (si k n)).1) w.heap.size w w' := by
  obtain ⟨W1, hW1⟩ : ∃ W1, w.alloc (.cells #[.int .i64 k.1, .int .i64 k.2] 29) = W1 := ⟨_, rfl⟩
  have hb1 : Below w.heap.size w W1 := by rw [← hW1]; exact (Below.refl _ _).alloc (Nat.le_refl _) _
  have hk1 : W1.heap[w.heap.size]? = some (.cells #[.int .i64 k.1, .int .i64 k.2] 29 (0, 0)) := by rw [← hW1]; exact alloc_newV w _
  have d0 : W1.cell? ⟨w.heap.size, 0, none⟩ = some (.int .i64 k.1) := by rw [cell_of_row _ _ 0 _ _ _ hk1]; rfl
  have d1 : W1.cell? ⟨w.heap.size, 1, none⟩ = some (.int .i64 k.2) := by rw [cell_of_row _ _ 1 _ _ _ hk1]; rfl
  have HK1 := hide hk1
  have HB1 := hide hb1
  have H1 := hide (h.later hb1)
  have HL := hide (si_lt k h.lo h.hi)
  have HU := hide (under_no k sb n m W1 H1.out hk hc)
  have HZ := hide (show w.heap.size < W1.heap.size from (Array.getElem?_eq_some_iff.1 hk1).1)
  have HKK := hide hk
  have HCC := hide hc
  clear h hk1 hb1 hk hc
  go_enter Tryz.func30, Tryz.ntmps30
  go_wp2_with fail
  refine HU.out.mono ?_
  rintro e w2 ⟨c, hcl, rfl, hc2, hb2⟩
  have HCL := hide hcl
  have C2 := hide hc2
  have B2 := hide hb2
  clear hcl hc2 hb2 HU
  go_wp2_with fail
  refine (put_yes N V c c [] w2 C2.out trivial (fun p hp => by cases hp) (by simp) hN (fun p hp => by simp at hp)).mono ?_
  rintro e w3 ⟨rfl, hc3, hf3⟩
  have C3 : Hid (CH w3 c c [(N, V)]) := hide hc3
  have B3 : Hid (Below W1.heap.size W1 w3) := hide (B2.out.trans ((hf3.below C2.out).mono HCL.out))
  clear hc3 hf3 C2
  have S3 := hide (H1.out.later B3.out)
  have K3 := hide ((B3.out.block _ HZ.out).trans HK1.out)
  have HX0 := hide ((Below.refl w3.heap.size w3).drew)
  haveI : Nonempty (Gr w3) := ⟨⟨_, HX0.out⟩⟩
  have y0 : ∀ x : Gr w3, x.1.cell? ⟨w.heap.size, 0, none⟩ = some (.int .i64 k.1) := fun x => by rw [cell_of_row x.1 _ 0 _ _ _ ((x.2.block _ (Array.getElem?_eq_some_iff.1 K3.out).1).trans K3.out)]; rfl
  have y1 : ∀ x : Gr w3, x.1.cell? ⟨w.heap.size, 1, none⟩ = some (.int .i64 k.2) := fun x => by rw [cell_of_row x.1 _ 1 _ _ _ ((x.2.block _ (Array.getElem?_eq_some_iff.1 K3.out).1).trans K3.out)]; rfl
  have HSH := hide (fun W : Gr w3 => shardOf_any k sb n m W.1 (S3.out.later W.2))
  clear d0 d1
  go_wp2_with fail
  refine region_qtails (C := fun w' => ∃ x : Gr w3, w' = x.1) 5 0 rfl (by kernel_rfl) (by kernel_rfl) ⟨⟨_, HX0.out⟩, rfl⟩ ?_
  simp only [List.take_succ_cons, List.take_zero, List.drop_succ_cons, List.drop_zero]
  repeat (first
    | go_big_quiet_skip
    | (go_big_quiet_want; (go_big_quiet_op; first
        | go_big_quiet_on
        | (apply Exists.intro; refine ⟨fun x => ?_, ?_⟩; (go_at_call 58; exact x.call (HSH.out x)); go_big_quiet_on))))
  refine wpQuiet_nil ?_
  rintro w4 ⟨x, rfl⟩
  obtain ⟨w4, hx⟩ := x
  dsimp only
  have S4 := hide (S3.out.later hx)
  have C4 := hide (C3.out.later hx)
  have B4 := hide (B3.out.trans (hx.mono B3.out.size))
  obtain ⟨w5, r5, m5, g5⟩ := (S4.out.mb _ HL.out).put_new c HKK.out HCC.out
  have R5 : Hid ((Instr.mapUpdate 51 (.map (some (m (si k n)).1)) (.agg #[.int .i64 k.1, .int .i64 k.2]) (.pointer (some ⟨c, 0, none⟩))).run Tryz.prog w4 = .ok () w5) := hide r5
  have S5 := hide (S4.out.put HL.out m5 g5)
  have C5 : Hid (CH w5 c c [(N, V)]) := hide (by
    obtain ⟨es, clock, hb, _⟩ := S4.out.mb _ HL.out
    obtain ⟨q1, v, em, hh, ho, hn⟩ := C4.out
    have nc : ∀ (x : Nat) (c : Array Value) (t : TypeId) (fz : Nat × Nat), w4.heap[x]? = some (Obj.cells c t fz) → w5.heap[x]? = w4.heap[x]? := fun x c t fz hx => g5.block x (Array.getElem?_eq_some_iff.1 hx).1 (fun e => by cases e; rw [hb] at hx; cases hx)
    refine ⟨q1, v, em, (nc _ _ _ _ hh).trans hh, ho.kept (fun g hg => ?_), hn⟩
    rcases ho.2 with ⟨rfl, _⟩ | ⟨g', off, cap, cur, rfl, _, h2, _⟩
    · cases hg
    · obtain rfl : g' = g := Option.some.inj hg
      exact nc _ _ _ _ h2)
  have B5 : Hid (NF (fun y => y = (m (si k n)).1) w.heap.size w w5) := hide (by
    have a1 : Below w.heap.size w w4 := HB1.out.trans (B4.out.mono HB1.out.size)
    exact (NF.of_below a1 (Nat.le_refl _)).trans (NF.grown g5 a1.size (fun j e => .inl (Option.some.inj e).symm)))
  clear hx y0 y1 HSH this HX0 r5 m5 g5
  generalize hmi : (m (si k n)).1 = mi at *
  have HMI := hide hmi
  clear hmi
  refine wp_mapUpdate rfl _ _ _ 51 rfl _ _ _ rfl rfl rfl R5.out ?_
  go_wp2_with fail
  go_ret
  exact ⟨c, rfl, S5.out, C5.out, by have := HCL.out; have := HZ.out; omega, by rw [HMI.out]; exact B5.out⟩
set_option maxRecDepth 100000 in
set_option maxHeartbeats 1000000 in
theorem putS_nn (k : Ky) (N : Int) (V : Int) (sb n : Nat) (m : Nat → Nat × List (Ky × Nat)) (w : World) (h : ST w sb n m) (hk : KOK k) (hc : lk (m (si k n)).2 k = none) (hN : N < 0) :
    Calls Tryz.prog 30 #[.pointer (some ⟨sb, 0, none⟩), .agg #[.int .i64 k.1, .int .i64 k.2], .int .i64 N, .int .i64 V] w fun e w' => e = .returned (errV 1) ∧ Below w.heap.size w w' := by
  obtain ⟨W1, hW1⟩ : ∃ W1, w.alloc (.cells #[.int .i64 k.1, .int .i64 k.2] 29) = W1 := ⟨_, rfl⟩
  have hb1 : Below w.heap.size w W1 := by rw [← hW1]; exact (Below.refl _ _).alloc (Nat.le_refl _) _
  have hk1 : W1.heap[w.heap.size]? = some (.cells #[.int .i64 k.1, .int .i64 k.2] 29 (0, 0)) := by rw [← hW1]; exact alloc_newV w _
  have d0 : W1.cell? ⟨w.heap.size, 0, none⟩ = some (.int .i64 k.1) := by rw [cell_of_row _ _ 0 _ _ _ hk1]; rfl
  have d1 : W1.cell? ⟨w.heap.size, 1, none⟩ = some (.int .i64 k.2) := by rw [cell_of_row _ _ 1 _ _ _ hk1]; rfl
  have HB1 := hide hb1
  have HU := hide (under_no k sb n m W1 (h.later hb1) hk hc)
  have HP := hide (fun (W : World) (c : Nat) (hC : CH W c c []) => put_no N V c c [] W hC trivial (fun p hp => by cases hp) (by simp) (.inl hN))
  rw [errV_pos (show (1 : Int) ≤ 1 by omega)] at HP ⊢
  clear h hk1 hb1 hk hc hN
  go_enter Tryz.func30, Tryz.ntmps30
  go_wp2_with fail
  refine HU.out.mono ?_
  rintro e w2 ⟨c, hcl, rfl, hc2, hb2⟩
  have C2 := hide hc2
  have B2 := hide (HB1.out.trans (hb2.mono HB1.out.size))
  clear hb2 HU hcl hc2 d0 d1
  go_wp2_with fail
  refine (HP.out _ _ C2.out).mono ?_
  rintro e w3 ⟨rfl, hb3⟩
  have B3 := hide (B2.out.trans (hb3.mono B2.out.size))
  clear hb3 HP C2
  go_wp2_with fail
  go_ret
  exact ⟨rfl, B3.out⟩
end Go.Proofs.YtehacdijleommaaGreatDoor.CI
namespace Go.Proofs.YtehacdijleommaaGreatDoor.CI
open Go.RowKit Go.Extern Go.MapKept Go.ChangeMaps

theorem LK.mono {L : List Ver} {k k' : Nat} (h : LK L k) (hk : k ≤ k') : LK L k' := ⟨h.ris, h.pos, h.max, Nat.le_trans h.len hk⟩
/-- One chain has changed. -/
theorem SW.chain {B : Nat} {W w' : World} {sb n : Nat} {X : Sx} {kk : Nat} {F : Nat → Prop} {m : Nat → Nat × List (Ky × Nat)} {g rb : Nat} {v : Value} {k : Ky} {c kk' : Nat} {l : List Ver} (h : SW B W sb n X kk F m g rb v) (hc : lk (m (si k n)).2 k = some c)
    (hC' : CH w' c c l) (hf : Fr W w' c) (hl : LK l kk') (hne : l ≠ []) (hkk : kk ≤ kk') : SW B w' sb n ⟨upK X.K k l, X.bg, X.R, X.L⟩ kk' (gw F W w') m g rb v ∧ FB W w' F (gw F W w') := by
  have hC := h.sv.ch k c hc
  have hF : ∀ x, F x → gw F W w' x := fun x hx => .inl hx
  have oth : ∀ j d, j ≠ k → lk (m (si j n)).2 j = some d → c ≠ d ∧ CH w' d d (X.K j) ∧ w'.cell? ⟨d, 0, none⟩ = W.cell? ⟨d, 0, none⟩ ∧ Ap c d w' := fun j d hj hd => by
    have e := h.sv.ne k j c d (fun e => hj e.symm) hc hd
    have o := CH.other hf hC (h.sv.ch j d hd) e.1 e.2
    exact ⟨e.1, o⟩
  have hrb : w'.heap[rb]? = W.heap[rb]? := by
    obtain ⟨es, clock, hb⟩ := h.rp.rm.map
    obtain ⟨cs, hcb⟩ := hC.blk
    exact hf.block _ h.rp.rm.lt (fun e => by rw [e, hcb] at hb; cases hb) (hC.row_no hb rfl)
  refine ⟨⟨⟨h.sv.st.fr hf hC, fun j d hd => ?_, fun j hj => ?_, fun j => ?_, fun j j' d d' hne h1 h2 => ?_⟩, ⟨hf.blk hC h.rp.hdr (by decide) (by decide), h.rp.row.frI hf hC (by decide) (by decide), h.rp.rm.kept hrb, h.rp.rs, h.rp.bgl⟩, h.rbne, Nat.le_trans h.bgk hkk, Nat.le_trans h.len hkk, hF _ h.fs, hF _ h.fg, fun i hi => hF _ (h.fm i hi), hF _ h.fr, fun x hx => hF _ (h.fv x hx), fun j d hd => ?_, fun x hx => ?_, h.sh, fun j d hd => ?_, Nat.le_trans h.tot hkk⟩, ⟨hf.os, hf.tape, hf.output, hf.size, fun x hx hnf => ?_, gw_grow⟩⟩
  · by_cases e : j = k
    · subst e
      rw [hc] at hd
      cases hd
      show CH w' c c (upK X.K j l j)
      rw [upK_same]; exact hC'
    · show CH w' d d (upK X.K k l j)
      rw [upK_other e]; exact (oth j d e hd).2.1
  · show upK X.K k l j = []
    by_cases e : j = k
    · subst e; rw [hc] at hj; cases hj
    · rw [upK_other e]; exact h.sv.no j hj
  · show LK (upK X.K k l j) kk'
    by_cases e : j = k
    · subst e; rw [upK_same]; exact hl
    · rw [upK_other e]; exact (h.sv.lv j).mono hkk
  · by_cases e1 : j = k
    · subst e1
      rw [hc] at h1
      cases h1
      have o := oth j' d' (fun e => hne e.symm) h2
      exact ⟨o.1, o.2.2.2⟩
    · have o1 := oth j d e1 h1
      by_cases e2 : j' = k
      · subst e2
        rw [hc] at h2
        cases h2
        exact ⟨fun e => o1.1 e.symm, o1.2.2.2.symm⟩
      · have o2 := oth j' d' e2 h2
        exact ⟨(h.sv.ne j j' d d' hne h1 h2).1, (h.sv.ne j j' d d' hne h1 h2).2.same o1.2.2.1 o2.2.2.1⟩
  · by_cases e : j = k
    · subst e
      rw [hc] at hd
      cases hd
      refine ⟨hF _ (h.fc j c hc).1, fun u hu x hx => ?_⟩
      rcases hf.row u hu x hx with h3 | ⟨u0, h3, h4⟩
      · exact .inr ⟨h3, (hC'.row_in u hu x hx).2⟩
      · exact hF _ ((h.fc j c hc).2 u0 h3 x h4)
    · have o := oth j d e hd
      exact ⟨hF _ (h.fc j d hd).1, fun u hu x hx => hF _ ((h.fc j d hd).2 u (by rw [← o.2.2.1]; exact hu) x hx)⟩
  · rcases hx with h3 | h3
    · have := h.fb x h3; have := hf.size; omega
    · have := h.fb sb h.fs; omega
  · show upK X.K k l j ≠ []
    by_cases e : j = k
    · rw [e, upK_same]; exact hne
    · rw [upK_other e]; exact h.nn j d hd
  · exact hf.block x hx (fun e => hnf (by rw [e]; exact (h.fc k c hc).1)) (fun u hu e => hnf ((h.fc k c hc).2 u hu x e))
/-- A map's own block alone has changed; what it holds hasn't. -/
theorem SW.again {B : Nat} {W w' : World} {sb n i : Nat} {X : Sx} {kk : Nat} {F : Nat → Prop} {m : Nat → Nat × List (Ky × Nat)} {g rb : Nat} {v : Value} (h : SW B W sb n X kk F m g rb v) (hi : i < n) (hst : ST w' sb n m) (hg : W.grownBy w' (some (m i).1)) : SW B w' sb n X kk F m g rb v ∧ FB W w' F F := by
  obtain ⟨es, clock, hmb, _⟩ := h.sv.st.mb i hi
  have keep : ∀ y, F y → y ≠ (m i).1 → w'.heap[y]? = W.heap[y]? := fun y hy hne => hg.block y (h.fb y hy).2 (fun e => hne (Option.some.inj e))
  have nc : ∀ (x : Nat) (c : Array Value) (t : TypeId) (fz : Nat × Nat), W.heap[x]? = some (Obj.cells c t fz) → w'.heap[x]? = W.heap[x]? := fun x c t fz hx => hg.block x (Array.getElem?_eq_some_iff.1 hx).1 (fun e => by obtain rfl := Option.some.inj e; rw [hmb] at hx; cases hx)
  have hch : ∀ k c, lk (m (si k n)).2 k = some c → CH w' c c (X.K k) ∧ w'.cell? ⟨c, 0, none⟩ = W.cell? ⟨c, 0, none⟩ := fun k c hc => (h.sv.ch k c hc).keptT (fun y cs t fz hy _ _ => nc y cs t fz hy)
  refine ⟨⟨⟨hst, fun k c hc => (hch k c hc).1, h.sv.no, h.sv.lv, fun k k' c c' e h1 h2 => ⟨(h.sv.ne k k' c c' e h1 h2).1, (h.sv.ne k k' c c' e h1 h2).2.same (hch k c h1).2 (hch k' c' h2).2⟩⟩, ⟨(nc _ _ _ _ h.rp.hdr).trans h.rp.hdr, h.rp.row.kept (fun x hx => ?_), h.rp.rm.kept (keep rb h.fr (fun e => h.rbne i hi e.symm)), h.rp.rs, h.rp.bgl⟩, h.rbne, h.bgk, h.len, h.fs, h.fg, h.fm, h.fr, h.fv, fun k c hc => ⟨(h.fc k c hc).1, fun u hu => (h.fc k c hc).2 u (by rw [← (hch k c hc).2]; exact hu)⟩, fun x hx => ⟨(h.fb x hx).1, Nat.lt_of_lt_of_le (h.fb x hx).2 hg.size⟩, h.sh, h.nn, h.tot⟩,
    ⟨hg.os, hg.tape, hg.output, hg.size, fun x hx hnf => hg.block x hx (fun e => hnf (by rw [Option.some.inj e]; exact h.fm i hi)), fun x hx => .inl hx⟩⟩
  rcases h.rp.row.getI with ⟨rfl, _⟩ | ⟨g', off, cap, cur, rfl, _, hh, _⟩
  · cases hx
  · obtain rfl : g' = x := Option.some.inj hx
    exact nc _ _ _ _ hh
/-- A new key. -/
theorem SW.fresh {B : Nat} {W w' : World} {sb n : Nat} {X : Sx} {kk : Nat} {F : Nat → Prop} {m : Nat → Nat × List (Ky × Nat)} {g rb : Nat} {v : Value} {k : Ky} {c : Nat} {l : List Ver} (h : SW B W sb n X kk F m g rb v) (hc : lk (m (si k n)).2 k = none)
    (hst : ST w' sb n (upm m (si k n) (k, c))) (hC' : CH w' c c l) (hn : W.heap.size ≤ c) (hg : NF (fun y => y = (m (si k n)).1) W.heap.size W w') (hl : LK l (kk + 1)) (hnn : l ≠ []) : SW B w' sb n ⟨upK X.K k l, X.bg, X.R, X.L⟩ (kk + 1) (gw F W w') (upm m (si k n) (k, c)) g rb v ∧ FB W w' F (gw F W w') := by
  have hi := si_lt k h.sv.st.lo h.sv.st.hi
  obtain ⟨es, clock, hmb, _⟩ := h.sv.st.mb _ hi
  have hF : ∀ x, F x → gw F W w' x := fun x hx => .inl hx
  have e1 : ∀ j, (upm m (si k n) (k, c) j).1 = (m j).1 := fun j => by unfold upm; split <;> simp_all
  have keep : ∀ y, F y → y ≠ (m (si k n)).1 → w'.heap[y]? = W.heap[y]? := fun y hy hne => hg.block y (h.fb y hy).2 hne
  have nc : ∀ (x : Nat) (c : Array Value) (t : TypeId) (fz : Nat × Nat), W.heap[x]? = some (Obj.cells c t fz) → w'.heap[x]? = W.heap[x]? := fun x c t fz hx => hg.block x (Array.getElem?_eq_some_iff.1 hx).1 (fun e => by rw [e, hmb] at hx; cases hx)
  have hch : ∀ k c, lk (m (si k n)).2 k = some c → CH w' c c (X.K k) ∧ w'.cell? ⟨c, 0, none⟩ = W.cell? ⟨c, 0, none⟩ := fun k c hc => (h.sv.ch k c hc).keptT (fun y cs t fz hy _ _ => nc y cs t fz hy)
  have hsh : ∀ i, i < n → ∀ p ∈ (upm m (si k n) (k, c) i).2, si p.1 n = i := fun i hi' p hp => by
    unfold upm at hp
    by_cases e : i = si k n
    · rw [if_pos e] at hp
      rcases List.mem_append.1 hp with hp | hp
      · rw [e]; exact h.sh _ hi p hp
      · rw [List.mem_singleton.1 hp, e]
    · rw [if_neg e] at hp; exact h.sh i hi' p hp
  have hrow : ∀ j d, lk (m (si j n)).2 j = some d → c ≠ d ∧ Ap c d w' := fun j d hd => by
    have hdl := (h.sv.ch j d hd).lt
    refine ⟨by omega, fun u u' hu hu' x hx hx' => ?_⟩
    have a1 := (hC'.row_in u hu x hx).1
    have a2 := (h.fc j d hd).2 u' (by rw [← (hch j d hd).2]; exact hu') x hx'
    have := (h.fb x a2).2
    omega
  refine ⟨⟨⟨hst, fun j d hd => ?_, fun j hj => ?_, fun j => ?_, fun j j' d d' hne h1 h2 => ?_⟩, ⟨(nc _ _ _ _ h.rp.hdr).trans h.rp.hdr, h.rp.row.kept (fun x hx => ?_), h.rp.rm.kept (keep rb h.fr (fun e => h.rbne _ hi e.symm)), h.rp.rs, h.rp.bgl⟩, fun j hj => by rw [e1]; exact h.rbne j hj, Nat.le_succ_of_le h.bgk, Nat.le_succ_of_le h.len, hF _ h.fs, hF _ h.fg, fun j hj => by rw [e1]; exact hF _ (h.fm j hj), hF _ h.fr, fun x hx => hF _ (h.fv x hx), fun j d hd => ?_, fun x hx => ?_, hsh, fun j d hd => ?_, by rw [sum_upm m (si k n) (k, c) n hi]; have := h.tot; omega⟩, ⟨hg.os, hg.tape, hg.output, hg.size, fun x hx hnf => hg.block x hx (fun e => hnf (by rw [e]; exact h.fm _ hi)), gw_grow⟩⟩
  · rw [lk_upm m k j c n hc] at hd
    show CH w' d d (upK X.K k l j)
    by_cases e : j = k
    · rw [if_pos e] at hd
      cases hd
      rw [e, upK_same]; exact hC'
    · rw [if_neg e] at hd
      rw [upK_other e]; exact (hch j d hd).1
  · rw [lk_upm m k j c n hc] at hj
    show upK X.K k l j = []
    by_cases e : j = k
    · rw [if_pos e] at hj; cases hj
    · rw [if_neg e] at hj
      rw [upK_other e]; exact h.sv.no j hj
  · show LK (upK X.K k l j) (kk + 1)
    by_cases e : j = k
    · rw [e, upK_same]; exact hl
    · rw [upK_other e]; exact (h.sv.lv j).up
  · rw [lk_upm m k _ c n hc] at h1 h2
    by_cases e1 : j = k
    · rw [if_pos e1] at h1
      cases h1
      rw [if_neg (fun e2 => hne (by rw [e1, e2]))] at h2
      exact hrow j' d' h2
    · rw [if_neg e1] at h1
      by_cases e2 : j' = k
      · rw [if_pos e2] at h2
        cases h2
        have o := hrow j d h1
        exact ⟨fun e => o.1 e.symm, o.2.symm⟩
      · rw [if_neg e2] at h2
        exact ⟨(h.sv.ne j j' d d' hne h1 h2).1, (h.sv.ne j j' d d' hne h1 h2).2.same (hch j d h1).2 (hch j' d' h2).2⟩
  · rcases h.rp.row.getI with ⟨rfl, _⟩ | ⟨g', off, cap, cur, rfl, _, hh, _⟩
    · cases hx
    · obtain rfl : g' = x := Option.some.inj hx
      exact nc _ _ _ _ hh
  · rw [lk_upm m k j c n hc] at hd
    by_cases e : j = k
    · rw [if_pos e] at hd
      cases hd
      refine ⟨.inr ⟨hn, hC'.lt⟩, fun u hu x hx => ?_⟩
      have a1 := hC'.row_in u hu x hx
      exact .inr ⟨by omega, a1.2⟩
    · rw [if_neg e] at hd
      exact ⟨hF _ (h.fc j d hd).1, fun u hu x hx => hF _ ((h.fc j d hd).2 u (by rw [← (hch j d hd).2]; exact hu) x hx)⟩
  · rcases hx with h3 | h3
    · have := h.fb x h3; have := hg.size; omega
    · have := h.fb sb h.fs; omega
  · rw [lk_upm m k j c n hc] at hd
    show upK X.K k l j ≠ []
    by_cases e : j = k
    · rw [e, upK_same]; exact hnn
    · rw [if_neg e] at hd
      rw [upK_other e]; exact h.nn j d hd
/-- Nothing has changed. -/
theorem SO.idle {B : Nat} {W w' : World} {sb n : Nat} {X : Sx} {kk : Nat} {F : Nat → Prop} (h : SO B W sb n X kk F) (hb : Below W.heap.size W w') : SO B w' sb n X (kk + 1) (gw F W w') ∧ FB W w' F (gw F W w') := by
  have hs := h.size
  obtain ⟨m, g, rb, v, h2⟩ := (h.later hb).up
  exact ⟨⟨m, g, rb, v, h2.more (fun x hx => .inl hx) (fun x hx => by
    rcases hx with h3 | h3
    · exact h2.fb x h3
    · omega)⟩, ⟨hb.os, hb.tape, hb.output, hb.size, fun x hx _ => hb.block x hx, gw_grow⟩⟩
theorem SO.idle0 {B : Nat} {W w' : World} {sb n : Nat} {X : Sx} {kk : Nat} {F : Nat → Prop} (h : SO B W sb n X kk F) (hb : Below W.heap.size W w') : SO B w' sb n X kk (gw F W w') ∧ FB W w' F (gw F W w') := by
  have hs := h.size
  obtain ⟨m, g, rb, v, h2⟩ := h.later hb
  exact ⟨⟨m, g, rb, v, h2.more (fun x hx => .inl hx) (fun x hx => by
    rcases hx with h3 | h3
    · exact h2.fb x h3
    · omega)⟩, ⟨hb.os, hb.tape, hb.output, hb.size, fun x hx _ => hb.block x hx, gw_grow⟩⟩
theorem SW.wide {B : Nat} {A W w' : World} {sb n : Nat} {X : Sx} {kk : Nat} {F : Nat → Prop} {m : Nat → Nat × List (Ky × Nat)} {g rb : Nat} {v : Value} (h : SW B w' sb n X kk (gw F W w') m g rb v) (hs : A.heap.size ≤ W.heap.size) (hB : B ≤ A.heap.size) : SW B w' sb n X kk (gw F A w') m g rb v :=
  h.more (fun x hx => by
    rcases hx with h1 | h1
    · exact .inl h1
    · exact .inr ⟨by omega, h1.2⟩) (fun x hx => by
    rcases hx with h1 | h1
    · exact h.fb x (.inl h1)
    · omega)
def Sx.pru (X : Sx) (k : Ky) (q : Int) : Sx := ⟨upK X.K k ((X.K k).drop (ab (oldR q X.L) (X.K k) - 1)), X.bg, X.R, X.L⟩
theorem upK_self (K : Ky → List Ver) (k : Ky) : upK K k (K k) = K := by
  funext j
  by_cases e : j = k
  · rw [e, upK_same]
  · rw [upK_other e]
theorem pruneO_any (k : Ky) (q : Int) (B sb n kk : Nat) (X : Sx) (F : Nat → Prop) (w : World) (h : SO B w sb n X kk F) (hk : KOK k) (hl : kk ≤ 5864062014803) :
    Calls Tryz.prog 36 #[.pointer (some ⟨sb, 0, none⟩), .agg #[.int .i64 k.1, .int .i64 k.2], .int .i64 q] w fun e w' => e = .returned (.int .i64 ((ab (oldR q X.L) (X.K k) - 1 : Nat) : Int)) ∧ SO B w' sb n (X.pru k q) (kk + 1) (gw F w w') ∧ FB w w' F (gw F w w') := by
  have h' := h
  have hs := h.size
  obtain ⟨m, g, rb, v, h⟩ := h
  refine (pruneSt_in k q sb n kk B m X.K v X.L w h.sv hk (by omega) (Hd.c3 h.rp.hdr) h.rp.row (by have := h.len; omega)).mono ?_
  rintro e w' ⟨c, W2, hb2, hwh, hC, rfl, hC', hf⟩
  refine ⟨rfl, ?_⟩
  have h2 := h.kept (fun x hx => hb2.block x (h.fb x hx).2) hb2.size
  rcases hwh with hc | ⟨hc, hcl⟩
  · have a := h2.chain hc hC' hf (((h.sv.lv k).drop _).up) (by
      have h1 := List.length_pos_iff.2 (h.nn k c hc)
      have h2 := ab_le (oldR q X.L) (X.K k)
      rw [← List.length_pos_iff, List.length_drop]; omega) (Nat.le_succ kk)
    exact ⟨⟨m, g, rb, v, a.1.wide hb2.size hs⟩, (a.2.front hb2).wide⟩
  · have e0 : X.pru k q = X := by
      have e1 := h.sv.no k hc
      unfold Sx.pru
      rw [e1]
      have : upK X.K k [] = X.K := by rw [← e1]; exact upK_self _ _
      simp only [List.drop_nil, this]
    rw [e0]
    exact h'.idle (hb2.trans ((hf.below hC).mono hcl))
theorem pruneP_any (k : Ky) (q : Int) (B sb n kk : Nat) (X : Sx) (F : Nat → Prop) (w : World) (h : SO B w sb n X kk F) (hk : KOK k) (hl : kk ≤ 5864062014803) :
    Calls Tryz.prog 36 #[.pointer (some ⟨sb, 0, none⟩), .agg #[.int .i64 k.1, .int .i64 k.2], .int .i64 q] w fun e w' => e = .returned (.int .i64 ((ab (oldR q X.L) (X.K k) - 1 : Nat) : Int)) ∧ SO B w' sb n (X.pru k q) kk (gw F w w') ∧ FB w w' F (gw F w w') := by
  have h' := h
  have hs := h.size
  obtain ⟨m, g, rb, v, h⟩ := h
  refine (pruneSt_in k q sb n kk B m X.K v X.L w h.sv hk (by omega) (Hd.c3 h.rp.hdr) h.rp.row (by have := h.len; omega)).mono ?_
  rintro e w' ⟨c, W2, hb2, hwh, hC, rfl, hC', hf⟩
  refine ⟨rfl, ?_⟩
  have h2 := h.kept (fun x hx => hb2.block x (h.fb x hx).2) hb2.size
  rcases hwh with hc | ⟨hc, hcl⟩
  · have a := h2.chain hc hC' hf ((h.sv.lv k).drop _) (by
      have h1 := List.length_pos_iff.2 (h.nn k c hc)
      have h2 := ab_le (oldR q X.L) (X.K k)
      rw [← List.length_pos_iff, List.length_drop]; omega) (Nat.le_refl kk)
    exact ⟨⟨m, g, rb, v, a.1.wide hb2.size hs⟩, (a.2.front hb2).wide⟩
  · have e0 : X.pru k q = X := by
      have e1 := h.sv.no k hc
      unfold Sx.pru
      rw [e1]
      have : upK X.K k [] = X.K := by rw [← e1]; exact upK_self _ _
      simp only [List.drop_nil, this]
    rw [e0]
    exact h'.idle0 (hb2.trans ((hf.below hC).mono hcl))
/-- What Put answers. -/
def peR (N : Int) (L : List Ver) : Int := if lastN L < N then 0 else 1
def Sx.put (X : Sx) (k : Ky) (N : Int) (V : Int) : Sx := ⟨upK X.K k (ptL N V (X.K k)), X.bg, X.R, X.L⟩
theorem Sx.put_no {X : Sx} {k : Ky} {N : Int} {V : Int} (h : ¬ lastN (X.K k) < N) : X.put k N V = X := by
  unfold Sx.put ptL
  rw [if_neg h, upK_self]
theorem putO_any (k : Ky) (N : Int) (V : Int) (B sb n kk : Nat) (X : Sx) (F : Nat → Prop) (w : World) (h : SO B w sb n X kk F) (hk : KOK k) (hN : N ≤ 9223372036854775807) (hl : kk ≤ 5864062014803) :
    Calls Tryz.prog 30 #[.pointer (some ⟨sb, 0, none⟩), .agg #[.int .i64 k.1, .int .i64 k.2], .int .i64 N, .int .i64 V] w fun e w' => e = .returned (errV (peR N (X.K k))) ∧ SO B w' sb n (X.put k N V) (kk + 1) (gw F w w') ∧ FB w w' F (gw F w w') := by
  have h' := h
  have hs := h.size
  obtain ⟨m, g, rb, v, h⟩ := h
  have hlv := h.sv.lv k
  cases hc : lk (m (si k n)).2 k with
  | none =>
    have e1 := h.sv.no k hc
    by_cases h0 : 0 ≤ N
    · have hlt : lastN (X.K k) < N := by rw [e1, lastN_nil]; omega
      have e0 : X.put k N V = ⟨upK X.K k [(N, V)], X.bg, X.R, X.L⟩ := by
        unfold Sx.put ptL
        rw [if_pos hlt, e1]; rfl
      rw [e0]
      refine (putS_new2 k N V sb n m w h.sv.st hk hc h0).mono ?_
      rintro e w' ⟨c, rfl, h1, h2, h3, h4⟩
      have hlk := ptL_LK hlv N V hN
      unfold ptL at hlk
      rw [if_pos hlt, e1] at hlk
      have a := h.fresh hc h1 h2 h3 h4 hlk (by simp)
      refine ⟨by unfold peR; rw [if_pos hlt, errV_zero], ⟨_, g, rb, v, a.1⟩, a.2⟩
    · have hlt : ¬ lastN (X.K k) < N := by rw [e1, lastN_nil]; omega
      rw [Sx.put_no hlt]
      refine (putS_nn k N V sb n m w h.sv.st hk hc (by omega)).mono ?_
      rintro e w' ⟨rfl, hb⟩
      exact ⟨by unfold peR; rw [if_neg hlt], h'.idle hb⟩
  | some c =>
    have hC := h.sv.ch k c hc
    by_cases hlt : lastN (X.K k) < N
    · have e0 : X.put k N V = ⟨upK X.K k (X.K k ++ [(N, V)]), X.bg, X.R, X.L⟩ := by
        unfold Sx.put ptL
        rw [if_pos hlt]
      rw [e0]
      refine (putS_old k N V c sb n kk m (X.K k) w h.sv.st hk hc hC hlv (by omega) hlt).mono ?_
      rintro e w' ⟨rfl, h1, h2, Wa, Wb, Wc, q1, q2, q3, q4, q5, q6⟩
      have hlk := ptL_LK hlv N V hN
      unfold ptL at hlk
      rw [if_pos hlt] at hlk
      have ha := h.kept (fun x hx => q1.block x (h.fb x hx).2) q1.size
      have hb := ha.chain hc q4 q3 hlk (by simp) (Nat.le_succ kk)
      have hcw := hb.1.kept (fun x hx => q5.block x (hb.1.fb x hx).2) q5.size
      have hd := hcw.again (si_lt k h.sv.st.lo h.sv.st.hi) h1 q6
      have hsz := hd.2.size
      have hq5 := q5.size
      refine ⟨by unfold peR; rw [if_pos hlt, errV_zero], ⟨m, g, rb, v, hd.1.more (fun x hx => ?_) (fun x hx => ?_)⟩, ?_⟩
      · rcases hx with h3 | h3
        · exact .inl h3
        · have := q1.size; exact .inr ⟨by omega, by omega⟩
      · rcases hx with h3 | h3
        · exact hd.1.fb x (.inl h3)
        · omega
      · have f1 := (hb.2.front q1).trans ((FB.of_below q5 _).trans hd.2)
        exact ⟨f1.os, f1.tape, f1.output, f1.size, f1.block, gw_grow⟩
    · rw [Sx.put_no hlt]
      have hnn : N < 0 ∨ ∃ p, (X.K k)[(X.K k).length - 1]? = some p ∧ N ≤ p.1 := by
        rcases snoc_cases (X.K k) with e | ⟨K, p, e⟩
        · rw [e, lastN_nil] at hlt; exact .inl (by omega)
        · rw [e, lastN_snoc] at hlt
          exact .inr ⟨p, by rw [e]; simp, by omega⟩
      refine (putS_no k N V c c sb n m (X.K k) w h.sv.st hk hc hC hlv.ris hlv.max (by have := hlv.len; omega) hnn).mono ?_
      rintro e w' ⟨rfl, hb⟩
      exact ⟨by unfold peR; rw [if_neg hlt], h'.idle hb⟩
end Go.Proofs.YtehacdijleommaaGreatDoor.CI
