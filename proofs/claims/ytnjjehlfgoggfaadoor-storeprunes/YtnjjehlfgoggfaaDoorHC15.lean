/-
  My own text: Prune of a chain.
-/
import Derived.Test.YtnjjehlfgoggfaaDoorHC14
namespace Go.Proofs.YtnjjehlfgoggfaaDoor
open Go.RowKit Go.Shelf

attribute [local go_sem] Oper.semAt_some

theorem Fr.refl (W : World) (cb : Nat) : Fr W W cb := ⟨rfl, rfl, rfl, Nat.le_refl _, fun _ _ _ _ => rfl, fun v' hv' _ hg => .inr ⟨v', hv', hg⟩⟩
theorem Fr.trans {A B C : World} {cb : Nat} (h : Fr A B cb) (k : Fr B C cb) : Fr A C cb := by
  refine ⟨k.os.trans h.os, k.tape.trans h.tape, k.output.trans h.output, Nat.le_trans h.size k.size, fun g hg h1 h2 => (k.block g (Nat.lt_of_lt_of_le hg h.size) h1 (fun v hv e => ?_)).trans (h.block g hg h1 h2), fun v' hv' g hg => ?_⟩
  · rcases h.row v hv g e with q | ⟨u, hu, q⟩
    · omega
    · exact h2 u hu q
  · rcases k.row v' hv' g hg with q | ⟨u, hu, q⟩
    · exact .inl (Nat.le_trans h.size q)
    · exact h.row u hu g q
/-- What leaves all old blocks alone. -/
theorem Fr.grow {A B C : World} {cb : Nat} (h : Fr A B cb) (hcb : cb < A.heap.size) (e1 : C.os = B.os) (e2 : C.tape = B.tape) (e3 : C.output = B.output) (e4 : B.heap.size ≤ C.heap.size) (hb : ∀ g, g < A.heap.size → C.heap[g]? = B.heap[g]?) : Fr A C cb := by
  have hc : C.cell? ⟨cb, 0, none⟩ = B.cell? ⟨cb, 0, none⟩ := by unfold World.cell?; rw [hb cb hcb]
  exact ⟨e1.trans h.os, e2.trans h.tape, e3.trans h.output, Nat.le_trans h.size e4, fun g hg h1 h2 => (hb g hg).trans (h.block g hg h1 h2), fun v' hv' g hg => h.row v' (by rw [← hc]; exact hv') g hg⟩
theorem Fr.later {A B C : World} {cb : Nat} (h : Fr A B cb) (hcb : cb < A.heap.size) (hb : Below B.heap.size B C) : Fr A C cb :=
  h.grow hcb hb.os hb.tape hb.output hb.size (fun g hg => hb.block g (Nat.lt_of_lt_of_le hg h.size))
theorem Fr.set {A B : World} {cb b : Nat} (h : Fr A B cb) (hcb : cb < A.heap.size) (hb : A.heap.size ≤ b) (u : Value) : Fr A (B.setCell ⟨b, 0, none⟩ u) cb :=
  h.grow hcb rfl rfl rfl (Nat.le_of_eq (size_set _ _ _).symm) (fun g hg => Below.heap_setCell _ _ _ g (show g ≠ b by omega))
/-- What the rounds of Prune leave. -/
structure PI (w : World) (bx bk bf bc B cb : Nat) (L : List Ver) (p : Ver) (k : Nat) (V : World) : Prop where
  ch : CH V B cb (L.drop k)
  box : Box V bx 66 (.pointer (some ⟨cb, 0, none⟩))
  keep : V.heap[bk]? = some (.cells #[.int .i64 p.1, .string ⟨p.2.toArray⟩] 92 (0, 0))
  krow : ∀ v, V.cell? ⟨cb, 0, none⟩ = some v → v.ownBlock ≠ some bk
  cnt : Box V bf 3 (.int .i64 (k : Int))
  bxc : Box V bc 66 (.pointer (some ⟨cb, 0, none⟩))
  fr : Fr w V cb
  ne : cb < w.heap.size ∧ w.heap.size ≤ bx ∧ w.heap.size ≤ bk ∧ w.heap.size ≤ bf ∧ w.heap.size ≤ bc ∧ bx ≠ bf ∧ bk ≠ bf ∧ bc ≠ bf
theorem PI.later {w V V' : World} {bx bk bf bc B cb k : Nat} {L : List Ver} {p : Ver} (h : PI w bx bk bf bc B cb L p k V) (hb : Below V.heap.size V V') : PI w bx bk bf bc B cb L p k V' :=
  ⟨h.ch.later hb, h.box.later hb, (hb.block bk (Array.getElem?_eq_some_iff.1 h.keep).1).trans h.keep, fun v hv => h.krow v (by rw [← hb.cell (p := ⟨cb, 0, none⟩) h.ch.lt]; exact hv), h.cnt.later hb, h.bxc.later hb, h.fr.later h.ne.1 hb, h.ne⟩
theorem PI.grown {w V V' : World} {bx bk bf bc B cb k D : Nat} {L : List Ver} {p : Ver} {row : Option Nat} (h : PI w bx bk bf bc B cb L p k V) (hD : w.heap.size ≤ D) (hg : V.grownBy V' row) (hr : ∀ r, row = some r → D ≤ r ∧ ∃ o : Obj, V.heap[r]? = some o ∧ o.isCells = false) : PI w bx bk bf bc B cb L p k V' := by
  have hr' : ∀ r, row = some r → ∃ o : Obj, V.heap[r]? = some o ∧ o.isCells = false := fun r e => (hr r e).2
  have hfr : Fr w V' cb := h.fr.grow h.ne.1 hg.os hg.tape hg.output hg.size (fun g hgw => hg.block g (Nat.lt_of_lt_of_le hgw h.fr.size) (fun e => by have := (hr g e.symm).1; omega))
  have hc : V'.cell? ⟨cb, 0, none⟩ = V.cell? ⟨cb, 0, none⟩ := by
    unfold World.cell?
    rw [hg.block cb h.ch.lt (fun e => by have := (hr cb e.symm).1; have := h.ne.1; omega)]
  exact ⟨h.ch.grown hg hr', grown_cells hg hr' h.box, grown_cells hg hr' h.keep, fun v hv => h.krow v (by rw [← hc]; exact hv), grown_cells hg hr' h.cnt, grown_cells hg hr' h.bxc, hfr, h.ne⟩
theorem CH.row_no {W : World} {B cb b : Nat} {L : List Ver} {o : Obj} (h : CH W B cb L) (hb : W.heap[b]? = some o) (ho : o.isCells = false) : ∀ v, W.cell? ⟨cb, 0, none⟩ = some v → v.ownBlock ≠ some b := by
  obtain ⟨_, v, em, hh, hor, _⟩ := h
  intro v' hv' e
  have hc : W.cell? ⟨cb, 0, none⟩ = some v := by rw [cell_of_row W cb 0 _ _ _ hh]; rfl
  rw [hc] at hv'
  cases hv'
  rcases hor.2 with ⟨rfl, _⟩ | ⟨g, off, cap, cur, rfl, _, hg, _⟩
  · cases e
  · cases e
    rw [hb] at hg
    cases hg
    cases ho
/-- One version is forgotten, and counted. -/
theorem PI.pop {w V V' : World} {bx bk bf bc B cb k : Nat} {L : List Ver} {p : Ver} (h : PI w bx bk bf bc B cb L p k V) (hc : CH V' B cb (L.drop (k + 1))) (hf : Fr V V' cb) (hkl : bk < V.heap.size) :
    Box V' bf 3 (.int .i64 (k : Int)) ∧ PI w bx bk bf bc B cb L p (k + 1) (V'.setCell ⟨bf, 0, none⟩ (.int .i64 ((k : Int) + 1))) ∧ KpP cb bf V (V'.setCell ⟨bf, 0, none⟩ (.int .i64 ((k : Int) + 1))) := by
  obtain ⟨n1, n2, n3, n4, n5, n6, n7, n8⟩ := h.ne
  have r1 := hf.box h.ch h.box (by decide) (by omega)
  have r2 := (hf.block bk hkl (by omega) h.krow).trans h.keep
  have r3 := hf.box h.ch h.cnt (by decide) (by omega)
  have r4 := hf.box h.ch h.bxc (by decide) (by omega)
  have hce : (V'.setCell ⟨bf, 0, none⟩ (.int .i64 ((k : Int) + 1))).cell? ⟨cb, 0, none⟩ = V'.cell? ⟨cb, 0, none⟩ := by
    have hne : cb ≠ bf := by omega
    unfold World.cell?
    rw [Below.heap_setCell _ _ _ cb hne]
  refine ⟨r3, ⟨hc.set r3 (by decide) (by omega) _, r1.other n6 _, (Below.heap_setCell _ _ _ bk n7).trans r2, fun v hv e => ?_, r3.set _, r4.other n8 _, (h.fr.trans hf).set n1 n4 _, h.ne⟩, ⟨Nat.le_trans hf.size (Nat.le_of_eq (size_set _ _ _).symm), fun g c t fz hg h1 h2 h3 => (Below.heap_setCell _ _ _ g h2).trans ((hf.block g (Array.getElem?_eq_some_iff.1 hg).1 h1 h3).trans hg), fun v' hv' g hg => hf.row v' (by rw [← hce]; exact hv') g hg⟩⟩
  rw [hce] at hv
  rcases hf.row v hv bk e with q | ⟨u, hu, q⟩
  · omega
  · exact h.krow u hu q
theorem Ris.inj {L : List Ver} (hr : Ris L) {i j : Nat} {p q : Ver} (hi : L[i]? = some p) (hj : L[j]? = some q) (e : p.1 = q.1) : i = j := by
  have a := ab_self L i p hr hi
  have b := ab_self L j q hr hj
  rw [e] at a
  omega
set_option maxRecDepth 100000 in
set_option maxHeartbeats 4000000 in
theorem prune_in (n : Int) (B cb m : Nat) (L : List Ver) (p : Ver) (w : World) (h : CH w B cb L) (hr : Ris L) (hpos : ∀ p ∈ L, 0 ≤ p.1) (hl : L.length ≤ 5864062014804) (h0 : ab n L = m + 1) (hp : L[m]? = some p) :
    CallsIn Fence.wide 9 Tryd.prog 31 #[.pointer (some ⟨cb, 0, none⟩), .int .i64 n] w fun e w' => e = .returned (.int .i64 (m : Int)) ∧ CH w' B cb (L.drop m) ∧ Fr w w' cb := by
  have HML : Hid (m < L.length) := hide (List.getElem?_eq_some_iff.1 hp).1
  have HCL := hide h.lt
  obtain ⟨W1, hW1⟩ : ∃ W1, w.alloc (.cells #[.pointer (some ⟨cb, 0, none⟩)] 66) = W1 := ⟨_, rfl⟩
  have hb1 : Below w.heap.size w W1 := by rw [← hW1]; exact (Below.refl _ _).alloc (Nat.le_refl _) _
  have X1 : Hid (Box W1 w.heap.size 66 (.pointer (some ⟨cb, 0, none⟩))) := hide (by rw [← hW1]; exact Box.new w _ _)
  have x1 := X1.out.cell
  have HB1 := hide hb1
  have C1 := hide (h.later hb1)
  have HK := hide (counts_yes n B cb m L p W1 C1.out hr (by omega) h0 hp)
  have HRI := hide hr
  have HPO := hide hpos
  have HLL := hide hl
  have HPP := hide hp
  clear h hr hpos hl h0 hp hb1
  refine callsIn_of_wp_marks Tryd.func31 rfl trivial ?_ rfl
  simp only [Tryd.ntmps31, List.size_toArray, List.length_cons, List.length_nil, Nat.reduceAdd, Nat.reduceSub, Array.replicate_succ, Array.replicate_zero, List.push_toArray, List.append_toArray, List.nil_append, List.cons_append]
  refine wpIn_wide.2 ?_
  go_wp2_with fail
  refine HK.out.mono ?_
  rintro e w2 ⟨rfl, hb2⟩
  have HB2 := hide hb2
  have C2 := hide (C1.out.later hb2)
  have X2 := hide (X1.out.later hb2)
  clear hb2 HK x1
  obtain ⟨W3, hW3⟩ : ∃ W3, w2.alloc (.cells #[.int .i64 p.1, .string ⟨p.2.toArray⟩] 92) = W3 := ⟨_, rfl⟩
  have B3 : Hid (Below w2.heap.size w2 W3) := hide (by rw [← hW3]; exact (Below.refl _ _).alloc (Nat.le_refl _) _)
  have K3 : Hid (W3.heap[w2.heap.size]? = some (.cells #[.int .i64 p.1, .string ⟨p.2.toArray⟩] 92 (0, 0))) := hide (by rw [← hW3]; exact alloc_newV w2 _)
  have Z3 : Hid (W3.heap.size = w2.heap.size + 1) := hide (by rw [← hW3]; simp)
  obtain ⟨W4, hW4⟩ : ∃ W4, W3.alloc (.cells #[.int .i64 0] 3) = W4 := ⟨_, rfl⟩
  have B4 : Hid (Below W3.heap.size W3 W4) := hide (by rw [← hW4]; exact (Below.refl _ _).alloc (Nat.le_refl _) _)
  have F4 : Hid (Box W4 W3.heap.size 3 (.int .i64 0)) := hide (by rw [← hW4]; exact Box.new W3 _ _)
  have X4 := hide ((X2.out.later B3.out).later B4.out)
  have x4 : (W3.alloc (.cells #[.int .i64 0] 3)).cell? ⟨w.heap.size, 0, none⟩ = some (.pointer (some ⟨cb, 0, none⟩)) := by rw [hW4]; exact X4.out.cell
  have HW4 := hide hW4
  clear hW4
  have KR3 : Hid (∀ v, W3.cell? ⟨cb, 0, none⟩ = some v → v.ownBlock ≠ some w2.heap.size) := hide (fun v hv e => by
    rw [B3.out.cell (p := ⟨cb, 0, none⟩) C2.out.lt] at hv
    obtain ⟨_, v', em, hh, ho, _⟩ := C2.out
    have : w2.cell? ⟨cb, 0, none⟩ = some v' := by rw [cell_of_row w2 cb 0 _ _ _ hh]; rfl
    rw [this] at hv
    cases hv
    have := (ho.lt e).2
    omega)
  go_wp2_with (refine wpList_store_row rfl 92 _ _ rfl w2.heap.size #[.int .i64 p.1, .string ⟨p.2.toArray⟩] rfl rfl _ _ (alloc_newV w2 _) Tryd.sizeVer rfl (by simp [Value.oneCell']) ?_; rw [World.setRow_alloc_new])
  refine (all_any cb _).mono ?_
  rintro e w5 ⟨rfl, rfl⟩
  rw [HW4.out]
  have B5 : Hid (Below W4.heap.size W4 (W4.alloc (.cells #[.pointer (some ⟨cb, 0, none⟩)] 66))) := hide ((Below.refl _ _).alloc (Nat.le_refl _) _)
  have BC5 := hide (Box.new W4 66 (.pointer (some ⟨cb, 0, none⟩)))
  have Z1 := hide HB1.out.size
  have Z2 := hide HB2.out.size
  have X1L := hide X1.out.lt
  have P5 : Hid (PI w w.heap.size w2.heap.size W3.heap.size W4.heap.size B cb L p 0 (W4.alloc (.cells #[.pointer (some ⟨cb, 0, none⟩)] 66))) := hide (by
    have b14 : Below w2.heap.size w2 W4 := B3.out.trans (B4.out.mono B3.out.size)
    have b15 := b14.trans (B5.out.mono b14.size)
    have bw : Below w.heap.size w (W4.alloc (.cells #[.pointer (some ⟨cb, 0, none⟩)] 66)) := (HB1.out.trans (HB2.out.mono HB1.out.size)).trans (b15.mono (Nat.le_trans HB1.out.size HB2.out.size))
    have b35 := B4.out.trans (B5.out.mono B4.out.size)
    have l4 := F4.out.lt
    have l1 := X1L.out
    have z3 := Z3.out
    have z1 := Z1.out
    have z2 := Z2.out
    have hcl := HCL.out
    refine ⟨C2.out.later b15, X2.out.later b15, (b35.block _ (by omega)).trans K3.out, fun v hv => KR3.out v (by rw [← b35.cell (p := ⟨cb, 0, none⟩) (show cb < _ by omega)]; exact hv), F4.out.later B5.out, BC5.out, (Fr.refl w cb).later HCL.out bw, ?_⟩
    omega)
  have ZL : Hid (w.heap.size ≤ (W4.alloc (.cells #[.pointer (some ⟨cb, 0, none⟩)] 66)).heap.size ∧ w2.heap.size < (W4.alloc (.cells #[.pointer (some ⟨cb, 0, none⟩)] 66)).heap.size ∧ W3.heap.size < (W4.alloc (.cells #[.pointer (some ⟨cb, 0, none⟩)] 66)).heap.size ∧ cb < (W4.alloc (.cells #[.pointer (some ⟨cb, 0, none⟩)] 66)).heap.size) := hide (by
    have l4 := F4.out.lt
    have l1 := X1L.out
    have z3 := Z3.out
    have z1 := Z1.out
    have z2 := Z2.out
    have hcl := HCL.out
    have z5 : (W4.alloc (.cells #[.pointer (some ⟨cb, 0, none⟩)] 66)).heap.size = W4.heap.size + 1 := by simp
    omega)
  clear B5 BC5 x4 X4 F4 B4 K3 KR3 B3 X2 C2 HB2 HB1 C1 X1 Z1 Z2 X1L Z3 HW4 hW3 hW1
  generalize W4.alloc (.cells #[.pointer (some ⟨cb, 0, none⟩)] 66) = W5 at *
  obtain ⟨bx, hbx⟩ : ∃ bx, bx = w.heap.size := ⟨_, rfl⟩
  rw [← hbx] at P5 ⊢
  have HBX := hide hbx
  clear hbx
  obtain ⟨bk, hbk⟩ : ∃ bk, bk = w2.heap.size := ⟨_, rfl⟩
  rw [← hbk] at P5 ZL ⊢
  clear hbk
  obtain ⟨bf, hbf⟩ : ∃ bf, bf = W3.heap.size := ⟨_, rfl⟩
  rw [← hbf] at P5 ZL ⊢
  clear hbf
  obtain ⟨bc, hbc⟩ : ∃ bc, bc = W4.heap.size := ⟨_, rfl⟩
  rw [← hbc] at P5 ⊢
  clear hbc
  go_wp2_with fail
  have HSQ := hide (all_leans 8 (by omega) bc bf B cb L HRI.out HPO.out (by have := HLL.out; omega) W5 ZL.out.2.2.2 ZL.out.2.2.1)
  refine (wpIn_wide (n := 9)).1 ?_
  refine' loop_leans (F := Fence.wide) (n := 9) rfl (by omega) (gf := 73) (lb := #[.pointer (some ⟨bc, 0, none⟩)]) rfl trivial (enters_of Tryd.func73 (by kernel_rfl) rfl) HSQ.out (fun h k => h.trans k) (fun W l o o' hl h ho _ => KpP.put h ho (by have := ZL.out; omega) o') (fun _ => rfl)
    (fun s V => s.length ≤ m ∧ bk < V.heap.size ∧ PI w bx bk bf bc B cb L p s.length V)
    (fun c _ V => c = .exit 0 ∧ PI w bx bk bf bc B cb L p m V)
    (fun s V hs => ⟨hs.2.2.ch, hs.2.2.bxc.cell⟩)
    (fun s A C row hs hg hr => ⟨hs.1, Nat.lt_of_lt_of_le hs.2.1 hg.size, hs.2.2.grown ZL.out.1 hg hr⟩)
    (fun _ s A C row hs hg hr => ⟨hs.1, hs.2.grown ZL.out.1 hg hr⟩)
    ⟨Nat.zero_le _, ZL.out.2.1, P5.out⟩ _ ?assign ?body ?done ?stop
  case assign =>
    intro l x W K hK
    dsimp only [encP]
    gi_wp2
    exact hK
  case body =>
    rintro l s x W ⟨hs1, hs2, hP⟩ ⟨_, hx⟩
    have P0 := hide hP
    have c0 := hP.box.cell
    have c1 : W.cell? ⟨bk, 0, none⟩ = some (.int .i64 p.1) := by rw [cell_of_row W bk 0 _ _ _ hP.keep]; rfl
    have HX := hide hx
    have HS1 := hide hs1
    have HS2 := hide hs2
    clear hP hx hs1 hs2
    by_cases hxp : x.1 = p.1
    · have hkm : s.length = m := HRI.out.inj HX.out HPP.out hxp
      have P1 : Hid (PI w bx bk bf bc B cb L p m W) := hide (by rw [← hkm]; exact P0.out)
      have d1 : (x.1 == p.1) = true := by rw [hxp]; simp
      clear hkm P0
      gi_wp2
      exact ⟨KeepsFrom.refl _ _, rfl, P1.out⟩
    · have d1 : (x.1 == p.1) = false := by simp [hxp]
      have hkm : s.length < m := by
        rcases Nat.lt_or_ge s.length m with h | h
        · exact h
        · have e : s.length = m := Nat.le_antisymm HS1.out h
          have h1 := HX.out
          rw [e, HPP.out] at h1
          cases h1
          exact absurd rfl hxp
      have HKM := hide hkm
      have HFG := hide (forget_any B cb x (L.drop (s.length + 1)) W (by rw [← drop_step HX.out]; exact P0.out.ch) (by rw [List.length_drop]; have := HML.out; omega) (by rw [List.length_drop]; have := HLL.out; omega))
      clear hkm hxp
      gi_wp2
      refine ⟨trivial, (CallsIn.inRound l (callsIn_wide.2 HFG.out)).mono ?_⟩
      rintro e W6 ⟨⟨v6, rfl⟩, hc6, hf6⟩
      obtain ⟨r6, p6, k6⟩ := P0.out.pop hc6 hf6 HS2.out
      have HKF : Hid (KeepsFrom W5.heap.size W (W6.setCell ⟨bf, 0, none⟩ (.int .i64 ((s.length : Int) + 1)))) := hide ⟨k6.size, fun g o _ hg ho => by
        have hcb : g ≠ cb := fun e => by
          obtain ⟨_, v, em, hh, _⟩ := P0.out.ch
          rw [e, hh] at hg; cases hg; cases ho
        have hrow := P0.out.ch.row_no hg ho
        have h6 := (hf6.block g (Array.getElem?_eq_some_iff.1 hg).1 hcb hrow).trans hg
        refine (Below.heap_setCell _ _ _ g (fun e => ?_)).trans h6
        have r6' : W6.heap[bf]? = some (.cells #[.int .i64 (s.length : Int)] 3 (0, 0)) := r6
        rw [show g = bf from e, r6'] at h6
        cases h6; cases ho⟩
      have P6 := hide p6
      have K6 := hide k6
      have e0 := r6.cell
      have e1 := r6.frozen
      have HZ6 : Hid (bk < (W6.setCell ⟨bf, 0, none⟩ (.int .i64 ((s.length : Int) + 1))).heap.size) := hide (by rw [size_set]; exact Nat.lt_of_lt_of_le HS2.out hf6.size)
      have wk : wrap64 ((s.length : Int) + 1) = (s.length : Int) + 1 := by have := HLL.out; have := HML.out; have := HKM.out; unfold wrap64; omega
      obtain ⟨ki, hki⟩ : ∃ ki, ki = (s.length : Int) := ⟨_, rfl⟩
      rw [← hki] at P6 K6 HKF e0 HZ6 wk
      clear r6 p6 k6 hc6 hf6 c0 c1 hki HFG
      gi_wp2
      exact ⟨HKF.out, K6.out, by rw [List.length_append]; exact HKM.out, HZ6.out, by rw [List.length_append]; exact P6.out⟩
  case done =>
    rintro D s W hD rfl ⟨hs1, _, _⟩ hK
    have := HML.out
    omega
  case stop =>
    rintro D c s W hD _ ⟨rfl, hP⟩ hK
    have c0 := hP.cnt.cell
    have P7 := hide hP
    have HKD := hide hK
    have HDD := hide hD
    clear hP hK hD P5 HSQ
    refine wpIn_wide.2 ?_
    go_wp2_with fail
    have PZ := P7.out.grown (D := W5.heap.size) ZL.out.1 (grownBy_putObj' W D (.deferred none)) (fun r e => by cases e; exact ⟨HDD.out, _, HKD.out, rfl⟩)
    refine ⟨by simp, .inl ⟨_, _, rfl, run_takeDeferred HKD.out, ?_⟩⟩
    exact ⟨.int .i64 (m : Int), results_tmp (fn := Tryd.f31) (t := 4) rfl _ _ _, rfl, PZ.ch, PZ.fr⟩
/-- A pruning that forgets what is below what counts at n. -/
theorem prune_yes (n : Int) (B cb m : Nat) (L : List Ver) (p : Ver) (w : World) (h : CH w B cb L) (hr : Ris L) (hpos : ∀ p ∈ L, 0 ≤ p.1) (hl : L.length ≤ 5864062014804) (h0 : ab n L = m + 1) (hp : L[m]? = some p) :
    Calls Tryd.prog 31 #[.pointer (some ⟨cb, 0, none⟩), .int .i64 n] w fun e w' => e = .returned (.int .i64 (m : Int)) ∧ CH w' B cb (L.drop m) ∧ Fr w w' cb :=
  callsIn_wide.1 (prune_in n B cb m L p w h hr hpos hl h0 hp)
set_option maxRecDepth 100000 in
set_option maxHeartbeats 1000000 in
/-- Nothing counts at n. -/
theorem prune_no (n : Int) (B cb : Nat) (L : List Ver) (w : World) (h : CH w B cb L) (hr : Ris L) (hl : L.length ≤ 4611686018427387904) (h0 : ab n L = 0) :
    Calls Tryd.prog 31 #[.pointer (some ⟨cb, 0, none⟩), .int .i64 n] w fun e w' => e = .returned (.int .i64 0) ∧ Below w.heap.size w w' := by
  obtain ⟨W1, hW1⟩ : ∃ W1, w.alloc (.cells #[.pointer (some ⟨cb, 0, none⟩)] 66) = W1 := ⟨_, rfl⟩
  have hb1 : Below w.heap.size w W1 := by rw [← hW1]; exact (Below.refl _ _).alloc (Nat.le_refl _) _
  have x1 : W1.cell? ⟨w.heap.size, 0, none⟩ = some (.pointer (some ⟨cb, 0, none⟩)) := by rw [← hW1]; exact (Box.new w _ _).cell
  have HB1 := hide hb1
  have HK := hide (counts_no n B cb L W1 (h.later hb1) hr hl h0)
  clear h hr hl h0 hb1
  go_enter Tryd.func31, Tryd.ntmps31
  go_wp2_with fail
  refine HK.out.mono ?_
  rintro e w2 ⟨rfl, hb2⟩
  have B3 : Hid (Below w.heap.size w (w2.alloc (.cells #[.int .i64 0, .string ⟨#[]⟩] 92))) := hide ((HB1.out.trans (hb2.mono HB1.out.size)).alloc (by have := HB1.out.size; have := hb2.size; omega) _)
  clear hb2 HK x1
  go_wp2_with (refine wpList_store_row rfl 92 _ _ rfl w2.heap.size #[.int .i64 0, .string ⟨#[]⟩] rfl rfl _ _ (alloc_newV w2 _) Tryd.sizeVer rfl (by simp [Value.oneCell']) ?_; rw [World.setRow_alloc_new])
  go_ret
  exact ⟨rfl, B3.out⟩
end Go.Proofs.YtnjjehlfgoggfaaDoor
