/-
  My own text: SN5, SN6, SN7 in one.
-/
import Derived.Test.YtehacdijleommaaGreatDoorSN4
namespace Go.Proofs.YtehacdijleommaaGreatDoor
open Go.RowKit Go.Extern Go.MapKept Go.ChangeMaps

def Hd (W : World) (sb : Nat) (x b r v : Value) : Prop := W.heap[sb]? = some (.cells #[x, b, r, v] 46 (0, 0))
theorem Hd.c1 {W : World} {sb : Nat} {x b r v : Value} (h : Hd W sb x b r v) : W.cell? ⟨sb, 1, none⟩ = some b := by rw [cell_of_row W sb 1 _ _ _ h]; rfl
theorem Hd.c2 {W : World} {sb : Nat} {x b r v : Value} (h : Hd W sb x b r v) : W.cell? ⟨sb, 2, none⟩ = some r := by rw [cell_of_row W sb 2 _ _ _ h]; rfl
theorem Hd.c3 {W : World} {sb : Nat} {x b r v : Value} (h : Hd W sb x b r v) : W.cell? ⟨sb, 3, none⟩ = some v := by rw [cell_of_row W sb 3 _ _ _ h]; rfl
theorem Hd.fz {W : World} {sb : Nat} {x b r v : Value} (h : Hd W sb x b r v) (j : Nat) : W.frozen? ⟨sb, j, none⟩ = false := by
  have h' : W.heap[sb]? = _ := h
  unfold World.frozen?; simp [h']
theorem Hd.set1 {W : World} {sb : Nat} {x b r v : Value} (h : Hd W sb x b r v) (u : Value) : Hd (W.setCell ⟨sb, 1, none⟩ u) sb x u r v := by
  unfold Hd; rw [setCell_eq_setRow W sb 1 _ _ _ u h]; exact setRow_heap W sb _ _ _ _ h
theorem Hd.set3 {W : World} {sb : Nat} {x b r v : Value} (h : Hd W sb x b r v) (u : Value) : Hd (W.setCell ⟨sb, 3, none⟩ u) sb x b r u := by
  unfold Hd; rw [setCell_eq_setRow W sb 3 _ _ _ u h]; exact setRow_heap W sb _ _ _ _ h
theorem Hd.lt {W : World} {sb : Nat} {x b r v : Value} (h : Hd W sb x b r v) : sb < W.heap.size := (Array.getElem?_eq_some_iff.1 h).1
theorem Hd.kept {W W' : World} {sb : Nat} {x b r v : Value} (h : Hd W sb x b r v) (e : W'.heap[sb]? = W.heap[sb]?) : Hd W' sb x b r v := e.trans h
theorem Hd.later {W W' : World} {sb : Nat} {x b r v : Value} (h : Hd W sb x b r v) (hb : Below W.heap.size W W') : Hd W' sb x b r v := (hb.block sb h.lt).trans h
/-- What changed below n: blocks of S alone. -/
structure NF (S : Nat → Prop) (n : Nat) (W W' : World) : Prop where
  os : W'.os = W.os
  tape : W'.tape = W.tape
  output : W'.output = W.output
  size : W.heap.size ≤ W'.heap.size
  block : ∀ y, y < n → ¬ S y → W'.heap[y]? = W.heap[y]?
theorem NF.trans {S : Nat → Prop} {n : Nat} {A B C : World} (h : NF S n A B) (k : NF S n B C) : NF S n A C :=
  ⟨k.os.trans h.os, k.tape.trans h.tape, k.output.trans h.output, Nat.le_trans h.size k.size, fun y hy hs => (k.block y hy hs).trans (h.block y hy hs)⟩
theorem NF.of_below {S : Nat → Prop} {n : Nat} {A B : World} (h : Below A.heap.size A B) (hn : n ≤ A.heap.size) : NF S n A B := ⟨h.os, h.tape, h.output, h.size, fun y hy _ => h.block y (by omega)⟩
theorem NF.grown {S : Nat → Prop} {n : Nat} {A B : World} {r : Option Nat} (h : A.grownBy B r) (hn : n ≤ A.heap.size) (hr : ∀ j, r = some j → S j ∨ n ≤ j) : NF S n A B :=
  ⟨h.os, h.tape, h.output, h.size, fun y hy hs => h.block y (by omega) (fun e => by rcases hr y e.symm with h1 | h1; exact hs h1; omega)⟩
theorem NF.set {S : Nat → Prop} {n : Nat} (A : World) (b off : Nat) (u : Value) (hb : S b) : NF S n A (A.setCell ⟨b, off, none⟩ u) :=
  ⟨rfl, rfl, rfl, by simp [World.setCell], fun y _ hs => Below.heap_setCell _ _ _ y (fun e => hs (by rw [e]; exact hb))⟩
theorem OR.grownM {W W' : World} {B : Nat} {v : Value} {L : List Int} {b : Nat} (h : OR W B 3 1 v L.length (ic L)) (hm : ∃ es clock, W.heap[b]? = some (.map es clock)) (hg : W.grownBy W' (some b)) : OR W' B 3 1 v L.length (ic L) := by
  obtain ⟨es, clock, hb⟩ := hm
  refine h.kept (fun g hgv => hg.block g (h.lt hgv).2 (fun e => ?_))
  rcases h.getI with ⟨rfl, _⟩ | ⟨g', off, cap, cur, rfl, _, hh, _⟩
  · cases hgv
  · obtain rfl : g' = g := Option.some.inj hgv
    obtain rfl := Option.some.inj e
    rw [hb] at hh; cases hh
theorem iok_of {x : Int} (h1 : -9223372036854775808 ≤ x) (h2 : x ≤ 9223372036854775807) : IOK x := by
  unfold IOK Lit.wf
  have a1 : IntKind.i64.min = -9223372036854775808 := by decide
  have a2 : IntKind.i64.max = 9223372036854775807 := by decide
  simp [a1, a2, h1, h2]
set_option maxRecDepth 100000 in
set_option maxHeartbeats 1000000 in
theorem open_raw (q : Int) (B sb bg rb : Nat) (x v : Value) (R : List (Int × Int)) (L : List Int) (w : World) (hd : Hd w sb x (.int .i64 (bg : Int)) (.map (some rb)) v) (hr : RM w rb R) (ho : OR w B 3 1 v L.length (ic L)) (hs : Srt L) (hl : L.length ≤ 5864062014804) (hbg : bg ≤ 5864062014804) (hR : ∀ p ∈ R, p.1 ≤ (bg : Int)) (hB : B ≤ w.heap.size) :
    Calls Tryz.prog 26 #[.pointer (some ⟨sb, 0, none⟩), .int .i64 q] w fun e w' => e = .returned (.int .i64 ((bg : Int) + 1)) ∧ ∃ v', Hd w' sb x (.int .i64 ((bg : Int) + 1)) (.map (some rb)) v' ∧ RM w' rb (((bg : Int) + 1, q) :: R) ∧ OR w' B 3 1 v' (insR q L).length (ic (insR q L)) ∧ NF (fun y => y = sb ∨ y = rb ∨ v.ownBlock = some y) w.heap.size w w' ∧ (∀ g, v'.ownBlock = some g → v.ownBlock = some g ∨ w.heap.size ≤ g) := by
  have c1 := hd.c1
  have f1 := hd.fz 1
  have wb : wrap64 ((bg : Int) + 1) = (bg : Int) + 1 := by unfold wrap64; omega
  have hlt := hr.lt
  have hdl := hd.lt
  obtain ⟨es, clock, hmb⟩ := hr.map
  have hne : rb ≠ sb := fun e => by rw [e, hd] at hmb; cases hmb
  obtain ⟨w1, hw1⟩ : ∃ w1, w.setCell ⟨sb, 1, none⟩ (.int .i64 ((bg : Int) + 1)) = w1 := ⟨_, rfl⟩
  have hd1 : Hd w1 sb x (.int .i64 ((bg : Int) + 1)) (.map (some rb)) v := by rw [← hw1]; exact hd.set1 _
  have hr1 : RM w1 rb R := by rw [← hw1]; exact hr.kept (Below.heap_setCell _ _ _ rb hne)
  have ho1 : OR w1 B 3 1 v L.length (ic L) := by rw [← hw1]; exact ho.setB hd (by decide)
  have hn1 : NF (fun y => y = sb ∨ y = rb ∨ v.ownBlock = some y) w.heap.size w w1 := by rw [← hw1]; exact NF.set w sb 1 _ (.inl rfl)
  have HX0 := hide ((Below.refl w1.heap.size w1).drew)
  haveI : Nonempty (Gr w1) := ⟨⟨_, HX0.out⟩⟩
  have y1 : ∀ x : Gr w1, x.1.cell? ⟨sb, 1, none⟩ = some (.int .i64 ((bg : Int) + 1)) := fun x => (hd1.later x.2).c1
  have y2 : ∀ x : Gr w1, x.1.cell? ⟨sb, 2, none⟩ = some (.map (some rb)) := fun x => (hd1.later x.2).c2
  have HD := hide hd1
  have HR := hide hr1
  have HO := hide ho1
  have HN := hide hn1
  have HLT := hide hlt
  have HNE := hide hne
  have HVL := hide (fun g (e : v.ownBlock = some g) => (ho.lt e).2)
  clear hd hd1 hr hr1 ho ho1 hn1 hlt hmb hdl hne
  go_enter Tryz.func26, Tryz.ntmps26
  go_wp2_with fail
  refine region_qtails (C := fun w' => ∃ x : Gr w1, w' = x.1) 9 0 rfl (by kernel_rfl) (by kernel_rfl) ⟨⟨_, HX0.out⟩, rfl⟩ ?_
  simp only [List.take_succ_cons, List.take_zero, List.drop_succ_cons, List.drop_zero]
  repeat (first
    | go_big_quiet_skip
    | (go_big_quiet_want; (go_big_quiet_op; go_big_quiet_on)))
  refine wpQuiet_nil ?_
  rintro w2 ⟨x2, rfl⟩
  obtain ⟨w2, hx⟩ := x2
  dsimp only
  have HD2 := hide (HD.out.later hx)
  have HO2 := hide (HO.out.later hx)
  have HR2 := hide (HR.out.later hx)
  have HN2 := hide (HN.out.trans (NF.of_below hx HN.out.size))
  obtain ⟨w3, r3, m3, g3, s3⟩ := HR2.out.put (x := (bg : Int) + 1) q (iok_of (by omega) (by omega)) (fun p hp => by have := hR p hp; omega)
  have R3 := hide r3
  have M3 := hide m3
  have HD3 := hide (HD2.out.kept (g3.block sb HD2.out.lt (fun e => HNE.out (Option.some.inj e).symm)))
  have HO3 := hide (HO2.out.grownM HR2.out.map g3)
  have HN3 := hide (HN2.out.trans (NF.grown g3 HN2.out.size (fun j e => .inl (.inr (.inl (Option.some.inj e).symm)))))
  clear hx y1 y2 this HX0 r3 m3 g3 s3 HD HR HO HN HD2 HO2 HR2 HN2 hw1 c1 f1
  refine wp_mapUpdate rfl _ _ _ 43 rfl _ _ _ rfl rfl rfl R3.out ?_
  have e3 := HD3.out.c3
  have HBS := hide (bs_any v q B L w3 HO3.out hs (by omega))
  go_wp2_with fail
  refine HBS.out.mono ?_
  rintro e w4 ⟨bb, rfl, hb4, hh4⟩
  have HD4 := hide (HD3.out.later hb4)
  have HO4 := hide (HO3.out.later hb4)
  have M4 := hide (M3.out.later hb4)
  have HN4 := hide (HN3.out.trans (NF.of_below hb4 HN3.out.size))
  clear hb4 hh4 HBS HD3 HO3 M3 HN3 e3 R3
  have d3 := HD4.out.c3
  obtain ⟨w5, hw5⟩ : ∃ w5, w4.alloc (.cells #[.int .i64 q] 3) = w5 := ⟨_, rfl⟩
  have hb5 : Below w4.heap.size w4 w5 := by rw [← hw5]; exact (Below.refl _ _).alloc (Nat.le_refl _) _
  have hq5 : w5.heap[w4.heap.size]? = some (.cells #[.int .i64 q] 3 (0, 0)) := by rw [← hw5]; exact alloc_newV w4 _
  have HD5 := hide (HD4.out.later hb5)
  have HO5 := hide (HO4.out.later hb5)
  have M5 := hide (M4.out.later hb5)
  have HN5 := hide (HN4.out.trans (NF.of_below hb5 HN4.out.size))
  have HIN := hide (ins_any v q B w4.heap.size 1 L w5 HO5.out hq5 (fun e => by have := (HO4.out.lt e).2; omega) hl (by have := HN5.out.size; omega))
  clear hb5 hq5 HO4 M4 HN4
  generalize hlq : lo q L = lq at *
  have HLQ := hide hlq
  clear hlq
  go_wp2_with fail
  refine HIN.out.mono ?_
  rintro e w6 ⟨v', rfl, ho6, hg6, hv6⟩
  have hnv : v.ownBlock ≠ some sb := fun e => by
    rcases HO5.out.getI with ⟨rfl, _⟩ | ⟨g', off, cap, cur, rfl, _, hh, _⟩
    · cases e
    · obtain rfl := Option.some.inj e
      have := HD5.out
      unfold Hd at this
      rw [this] at hh; cases hh
  have hnr : v.ownBlock ≠ some rb := fun e => by
    obtain ⟨es, clock, hm⟩ := M5.out.map
    rcases HO5.out.getI with ⟨rfl, _⟩ | ⟨g', off, cap, cur, rfl, _, hh, _⟩
    · cases e
    · obtain rfl := Option.some.inj e
      rw [hm] at hh; cases hh
  have hd6 : Hd w6 sb x (.int .i64 ((bg : Int) + 1)) (.map (some rb)) v := HD5.out.kept (hg6.block sb HD5.out.lt (fun e => hnv e.symm))
  have hr6 : RM w6 rb (((bg : Int) + 1, q) :: R) := M5.out.kept (hg6.block rb M5.out.lt (fun e => hnr e.symm))
  have hn6 := HN5.out.trans (NF.grown hg6 HN5.out.size (fun j e => .inl (.inr (.inr e))))
  obtain ⟨a', n', c', rfl⟩ : ∃ a' n' c', v' = .slice a' n' c' := by
    rcases ho6.2 with ⟨rfl, _⟩ | ⟨g', off, cap, cur, rfl, _⟩
    · exact ⟨_, _, _, rfl⟩
    · exact ⟨_, _, _, rfl⟩
  have f3 := hd6.fz 3
  have d3' := hd6.c3
  obtain ⟨w7, hw7⟩ : ∃ w7, w6.setCell ⟨sb, 3, none⟩ (.slice a' n' c') = w7 := ⟨_, rfl⟩
  have HD7 : Hid (Hd w7 sb x (.int .i64 ((bg : Int) + 1)) (.map (some rb)) (.slice a' n' c')) := hide (by rw [← hw7]; exact hd6.set3 _)
  have HR7 : Hid (RM w7 rb (((bg : Int) + 1, q) :: R)) := hide (by rw [← hw7]; exact hr6.kept (Below.heap_setCell _ _ _ rb HNE.out))
  have HO7 : Hid (OR w7 B 3 1 (.slice a' n' c') (insR q L).length (ic (insR q L))) := hide (by rw [← hw7]; exact ho6.setB hd6 (by decide))
  have HN7 : Hid (NF (fun y => y = sb ∨ y = rb ∨ v.ownBlock = some y) w.heap.size w w7) := hide (by rw [← hw7]; exact hn6.trans (NF.set w6 sb 3 _ (.inl rfl)))
  have HV7 : Hid (∀ g, (Value.slice a' n' c').ownBlock = some g → v.ownBlock = some g ∨ w.heap.size ≤ g) := hide (fun g e => by
    rcases hv6 g e with h1 | h1
    · exact .inl h1
    · have := HN5.out.size; exact .inr (by omega))
  have k1 := HD7.out.c1
  clear ho6 hg6 hv6 hnv hnr hd6 hr6 hn6 HD5 HO5 M5 HN5 HIN hw5 d3 HD4
  go_wp2_with fail
  go_ret
  exact ⟨rfl, _, HD7.out, HR7.out, HO7.out, HN7.out, HV7.out⟩
end Go.Proofs.YtehacdijleommaaGreatDoor
namespace Go.Proofs.YtehacdijleommaaGreatDoor
open Go.RowKit Go.Extern Go.MapKept Go.ChangeMaps

set_option maxRecDepth 100000 in
set_option maxHeartbeats 1000000 in
theorem close_no (r : Int) (sb rb : Nat) (x b v : Value) (R : List (Int × Int)) (w : World) (hd : Hd w sb x b (.map (some rb)) v) (hr : RM w rb R) (hI : IOK r) (h0 : ∀ p ∈ R, p.1 ≠ r) :
    Calls Tryz.prog 27 #[.pointer (some ⟨sb, 0, none⟩), .int .i64 r] w fun e w' => e = .returned (.bool false) ∧ Below w.heap.size w w' := by
  have c2 := hd.c2
  have HL := hr.look_no hI h0
  clear hd hr hI h0
  go_enter Tryz.func27, Tryz.ntmps27
  go_wp2_with fail
  go_ret
  exact ⟨rfl, Below.refl _ _⟩
set_option maxRecDepth 100000 in
set_option maxHeartbeats 1000000 in
theorem close_yes (r q : Int) (B sb rb : Nat) (x b v : Value) (R : List (Int × Int)) (L : List Int) (w : World) (hd : Hd w sb x b (.map (some rb)) v) (hr : RM w rb R) (ho : OR w B 3 1 v L.length (ic L)) (hs : Srt L) (hI : IOK r) (h0 : (r, q) ∈ R) (hq : q ∈ L) (hl : L.length ≤ 5864062014804) :
    Calls Tryz.prog 27 #[.pointer (some ⟨sb, 0, none⟩), .int .i64 r] w fun e w' => e = .returned (.bool true) ∧ ∃ v', Hd w' sb x b (.map (some rb)) v' ∧ RM w' rb (endR r R) ∧ OR w' B 3 1 v' (delR q L).length (ic (delR q L)) ∧ NF (fun y => y = sb ∨ y = rb ∨ v.ownBlock = some y) w.heap.size w w' ∧ v'.ownBlock = v.ownBlock := by
  have c2 := hd.c2
  have HL := hr.look_yes hI h0
  obtain ⟨es, clock, hmb⟩ := hr.map
  have hne : rb ≠ sb := fun e => by rw [e, hd] at hmb; cases hmb
  obtain ⟨w3, r3, m3, g3, s3⟩ := hr.del hI h0 0
  have hd3 := hd.kept (g3.block sb hd.lt (fun e => hne (Option.some.inj e).symm))
  have ho3 := ho.grownM hr.map g3
  have hn3 : NF (fun y => y = sb ∨ y = rb ∨ v.ownBlock = some y) w.heap.size w w3 := NF.grown g3 (Nat.le_refl _) (fun j e => .inl (.inr (.inl (Option.some.inj e).symm)))
  have e3 := hd3.c3
  have HD3 := hide hd3
  have HO3 := hide ho3
  have M3 := hide m3
  have HN3 := hide hn3
  have HNE := hide hne
  have HBS := hide (bs_any v q B L w3 ho3 hs (by omega))
  have hll := lo_le q L
  clear hd hr ho hd3 ho3 m3 g3 s3 hn3 hne hmb
  have HSR := hide hs
  have HQL := hide hq
  generalize hlq : lo q L = lq at *
  have wl : wrap64 ((lq : Int) + 1) = (lq : Int) + 1 := by unfold wrap64; omega
  have HLQ := hide hlq
  clear hlq hll hl hs hq hI h0
  go_enter Tryz.func27, Tryz.ntmps27
  go_wp2_with fail
  refine HBS.out.mono ?_
  rintro e w4 ⟨bb, rfl, hb4, hh4⟩
  have HD4 := hide (HD3.out.later hb4)
  have HO4 := hide (HO3.out.later hb4)
  have M4 := hide (M3.out.later hb4)
  have HN4 := hide (HN3.out.trans (NF.of_below hb4 HN3.out.size))
  clear hb4 hh4 HBS HD3 HO3 M3 HN3 e3
  have d3 := HD4.out.c3
  have HDL := hide (del_any v q B L w4 HO4.out HSR.out HQL.out)
  rw [HLQ.out] at HDL
  go_wp2_with fail
  refine HDL.out.mono ?_
  rintro e w6 ⟨v', rfl, ho6, hg6, hv6⟩
  have hnv : v.ownBlock ≠ some sb := fun e => by
    rcases HO4.out.getI with ⟨rfl, _⟩ | ⟨g', off, cap, cur, rfl, _, hh, _⟩
    · cases e
    · obtain rfl := Option.some.inj e
      have := HD4.out
      unfold Hd at this
      rw [this] at hh; cases hh
  have hnr : v.ownBlock ≠ some rb := fun e => by
    obtain ⟨es, clock, hm⟩ := M4.out.map
    rcases HO4.out.getI with ⟨rfl, _⟩ | ⟨g', off, cap, cur, rfl, _, hh, _⟩
    · cases e
    · obtain rfl := Option.some.inj e
      rw [hm] at hh; cases hh
  have hd6 : Hd w6 sb x b (.map (some rb)) v := HD4.out.kept (hg6.block sb HD4.out.lt (fun e => hnv e.symm))
  have hr6 : RM w6 rb (endR r R) := M4.out.kept (hg6.block rb M4.out.lt (fun e => hnr e.symm))
  have hn6 := HN4.out.trans (NF.grown hg6 HN4.out.size (fun j e => .inl (.inr (.inr e))))
  obtain ⟨a', n', c', rfl⟩ : ∃ a' n' c', v' = .slice a' n' c' := by
    rcases ho6.2 with ⟨rfl, _⟩ | ⟨g', off, cap, cur, rfl, _⟩
    · exact ⟨_, _, _, rfl⟩
    · exact ⟨_, _, _, rfl⟩
  have f3 := hd6.fz 3
  have d3' := hd6.c3
  obtain ⟨w7, hw7⟩ : ∃ w7, w6.setCell ⟨sb, 3, none⟩ (.slice a' n' c') = w7 := ⟨_, rfl⟩
  have HD7 : Hid (Hd w7 sb x b (.map (some rb)) (.slice a' n' c')) := hide (by rw [← hw7]; exact hd6.set3 _)
  have HR7 : Hid (RM w7 rb (endR r R)) := hide (by rw [← hw7]; exact hr6.kept (Below.heap_setCell _ _ _ rb HNE.out))
  have HO7 : Hid (OR w7 B 3 1 (.slice a' n' c') (delR q L).length (ic (delR q L))) := hide (by rw [← hw7]; exact ho6.setB hd6 (by decide))
  have HN7 : Hid (NF (fun y => y = sb ∨ y = rb ∨ v.ownBlock = some y) w.heap.size w w7) := hide (by rw [← hw7]; exact hn6.trans (NF.set w6 sb 3 _ (.inl rfl)))
  have HV7 := hide hv6
  clear ho6 hg6 hv6 hnv hnr hd6 hr6 hn6 HO4 M4 HN4 HDL d3 HD4
  go_wp2_with fail
  go_ret
  exact ⟨rfl, _, HD7.out, HR7.out, HO7.out, HN7.out, HV7.out⟩
end Go.Proofs.YtehacdijleommaaGreatDoor
namespace Go.Proofs.YtehacdijleommaaGreatDoor
open Go.RowKit Go.Extern Go.MapKept Go.ChangeMaps

theorem CH.keptT {W W' : World} {B c : Nat} {L : List Ver} (h : CH W B c L) (hk : ∀ (y : Nat) (cs : Array Value) (t : TypeId) (fz : Nat × Nat), W.heap[y]? = some (Obj.cells cs t fz) → t ≠ 46 → t ≠ 3 → W'.heap[y]? = W.heap[y]?) : CH W' B c L ∧ W'.cell? ⟨c, 0, none⟩ = W.cell? ⟨c, 0, none⟩ := by
  obtain ⟨q1, u, em, hh, ho, hn⟩ := h
  have e1 := hk _ _ _ _ hh (by decide) (by decide)
  refine ⟨⟨q1, u, em, e1.trans hh, ho.kept (fun x hx => ?_), hn⟩, World.cell?_of_block e1⟩
  rcases ho.2 with ⟨rfl, _⟩ | ⟨g', off, cap, cur, rfl, _, h2, _⟩
  · cases hx
  · obtain rfl : g' = x := Option.some.inj hx
    exact hk _ _ _ _ h2 (by decide) (by decide)
/-- The readers' part has changed. -/
theorem SW.readers {B : Nat} {W w' : World} {sb n : Nat} {X : Sx} {kk bg' : Nat} {F : Nat → Prop} {m : Nat → Nat × List (Ky × Nat)} {g rb : Nat} {v v' : Value} {R' : List (Int × Int)} {L' : List Int} (h : SW B W sb n X kk F m g rb v)
    (hd : Hd w' sb (.slice (some ⟨g, 0, none⟩) n n) (.int .i64 (bg' : Int)) (.map (some rb)) v') (rm : RM w' rb R') (row : OR w' B 3 1 v' L'.length (ic L')) (rs : RS R' L') (bgl : ∀ p ∈ R', 1 ≤ p.1 ∧ p.1 ≤ (bg' : Int)) (nf : NF (fun y => y = sb ∨ y = rb ∨ v.ownBlock = some y) W.heap.size W w')
    (hv : ∀ g, v'.ownBlock = some g → v.ownBlock = some g ∨ W.heap.size ≤ g) (h1 : bg' ≤ kk + 1) (h2 : L'.length ≤ kk + 1) : SW B w' sb n ⟨X.K, bg', R', L'⟩ (kk + 1) (gw F W w') m g rb v' ∧ FB W w' F (gw F W w') := by
  have hh := h.rp.hdr
  obtain ⟨es, clock, hrb⟩ := h.rp.rm.map
  have hvt : ∀ y, v.ownBlock = some y → ∃ cur, W.heap[y]? = some (.cells cur 3 (0, 0)) := fun y hy => by
    rcases h.rp.row.getI with ⟨rfl, _⟩ | ⟨g', off, cap, cur, rfl, _, q, _⟩
    · cases hy
    · obtain rfl : g' = y := Option.some.inj hy
      exact ⟨_, q⟩
  have keepC : ∀ (y : Nat) (cs : Array Value) (t : TypeId) (fz : Nat × Nat), W.heap[y]? = some (Obj.cells cs t fz) → t ≠ 46 → t ≠ 3 → w'.heap[y]? = W.heap[y]? := fun y cs t fz hy t1 t2 => by
    refine nf.block y (Array.getElem?_eq_some_iff.1 hy).1 (fun hS => ?_)
    rcases hS with rfl | rfl | hS
    · rw [hh] at hy; cases hy; exact t1 rfl
    · rw [hrb] at hy; cases hy
    · obtain ⟨cur, q⟩ := hvt y hS
      rw [q] at hy; cases hy; exact t2 rfl
  have keepM : ∀ i, i < n → w'.heap[(m i).1]? = W.heap[(m i).1]? := fun i hi => by
    obtain ⟨es', clock', hb, _⟩ := h.sv.st.mb i hi
    refine nf.block _ (Array.getElem?_eq_some_iff.1 hb).1 (fun hS => ?_)
    rcases hS with e | e | hS
    · rw [e, hh] at hb; cases hb
    · exact h.rbne i hi e
    · obtain ⟨cur, q⟩ := hvt _ hS
      rw [q] at hb; cases hb
  obtain ⟨arr, q2, q3⟩ := h.arr
  have hch : ∀ k c, lk (m (si k n)).2 k = some c → CH w' c c (X.K k) ∧ w'.cell? ⟨c, 0, none⟩ = W.cell? ⟨c, 0, none⟩ := fun k c hc => (h.sv.ch k c hc).keptT keepC
  have hF : ∀ x, F x → gw F W w' x := fun x hx => .inl hx
  refine ⟨⟨⟨⟨⟨g, _, _, _, hd, arr, (keepC _ _ _ _ q2 (by decide) (by decide)).trans q2, q3⟩, fun i hi => (h.sv.st.mb i hi).kept (keepM i hi), h.sv.st.ne, h.sv.st.lo, h.sv.st.hi⟩, fun k c hc => (hch k c hc).1, h.sv.no, fun k => (h.sv.lv k).up, fun k k' c c' e h1 h2 => ⟨(h.sv.ne k k' c c' e h1 h2).1, (h.sv.ne k k' c c' e h1 h2).2.same (hch k c h1).2 (hch k' c' h2).2⟩⟩,
    ⟨hd, row, rm, rs, bgl⟩, h.rbne, h1, h2, hF _ h.fs, hF _ h.fg, fun i hi => hF _ (h.fm i hi), hF _ h.fr, fun x hx => ?_, fun k c hc => ⟨hF _ (h.fc k c hc).1, fun u hu x hx => hF _ ((h.fc k c hc).2 u (by rw [← (hch k c hc).2]; exact hu) x hx)⟩, fun x hx => ?_, h.sh, h.nn, Nat.le_succ_of_le h.tot⟩, ⟨nf.os, nf.tape, nf.output, nf.size, fun x hx hf => nf.block x hx (fun hS => ?_), gw_grow⟩⟩
  · rcases hv x hx with h3 | h3
    · exact hF _ (h.fv x h3)
    · exact .inr ⟨h3, (row.lt hx).2⟩
  · rcases hx with h3 | h3
    · have := h.fb x h3; have := nf.size; omega
    · have := h.fb sb h.fs; omega
  · rcases hS with rfl | rfl | hS
    · exact hf h.fs
    · exact hf h.fr
    · exact hf (h.fv x hS)
def Sx.opn (X : Sx) (q : Int) : Sx := ⟨X.K, X.bg + 1, (((X.bg : Int) + 1, q) :: X.R), insR q X.L⟩
theorem openO_any (q : Int) (B sb n kk : Nat) (X : Sx) (F : Nat → Prop) (w : World) (h : SO B w sb n X kk F) (hk : kk ≤ 5864062014803) :
    Calls Tryz.prog 26 #[.pointer (some ⟨sb, 0, none⟩), .int .i64 q] w fun e w' => e = .returned (.int .i64 ((X.bg : Int) + 1)) ∧ SO B w' sb n (X.opn q) (kk + 1) (gw F w w') ∧ FB w w' F (gw F w w') := by
  have hBs := h.size
  obtain ⟨m, g, rb, v, h⟩ := h
  refine (open_raw q B sb X.bg rb _ v X.R X.L w h.rp.hdr h.rp.rm h.rp.row h.rp.rs.srt (by have := h.len; omega) (by have := h.bgk; omega) (fun p hp => (h.rp.bgl p hp).2) hBs).mono ?_
  rintro e w' ⟨rfl, v', h1, h2, h3, h4, h5⟩
  have a1 := h.readers (bg' := X.bg + 1) (R' := ((X.bg : Int) + 1, q) :: X.R) (L' := insR q X.L) h1 h2 h3 (h.rp.rs.opens _ _ (fun p hp => by have := (h.rp.bgl p hp).2; omega)) (fun p hp => by
    rcases List.mem_cons.1 hp with rfl | hp
    · dsimp only; omega
    · have := h.rp.bgl p hp; omega) h4 h5 (by have := h.bgk; omega) (by rw [insR_len]; have := h.len; omega)
  exact ⟨rfl, ⟨m, g, rb, v', a1.1⟩, a1.2⟩
def Sx.cls (X : Sx) (r : Int) : Sx := match X.R.find? fun p => p.1 == r with
  | some p => ⟨X.K, X.bg, endR r X.R, delR p.2 X.L⟩
  | none => X
theorem closeO_any (r : Int) (B sb n kk : Nat) (X : Sx) (F : Nat → Prop) (w : World) (h : SO B w sb n X kk F) (hk : kk ≤ 5864062014803) (hI : IOK r) :
    Calls Tryz.prog 27 #[.pointer (some ⟨sb, 0, none⟩), .int .i64 r] w fun e w' => e = .returned (.bool (X.R.find? fun p => p.1 == r).isSome) ∧ SO B w' sb n (X.cls r) (kk + 1) (gw F w w') ∧ FB w w' F (gw F w w') := by
  have h' := h
  obtain ⟨m, g, rb, v, h⟩ := h
  obtain ⟨fi, hfi⟩ : ∃ fi, (X.R.find? fun p => p.1 == r) = fi := ⟨_, rfl⟩
  have hf := hfi
  cases fi with
  | none =>
    have e0 : X.cls r = X := by unfold Sx.cls; rw [hf]
    rw [e0]
    rw [List.find?_eq_none] at hf
    refine (close_no r sb rb _ _ v X.R w h.rp.hdr h.rp.rm hI (fun p hp e => hf p hp (by simpa using e))).mono ?_
    rintro e w' ⟨rfl, hb⟩
    obtain ⟨m2, g2, rb2, v2, h2⟩ := (h'.later hb).up
    exact ⟨by rw [hfi]; rfl, ⟨m2, g2, rb2, v2, h2.more (fun x hx => .inl hx) (fun x hx => by
      rcases hx with h3 | h3
      · exact h2.fb x h3
      · have := h.fb sb h.fs; omega)⟩, ⟨hb.os, hb.tape, hb.output, hb.size, fun x hx _ => hb.block x hx, gw_grow⟩⟩
  | some p =>
    have e0 : X.cls r = ⟨X.K, X.bg, endR r X.R, delR p.2 X.L⟩ := by unfold Sx.cls; rw [hf]
    rw [e0]
    have hp1 : p.1 = r := by simpa using List.find?_some hf
    have hpm := List.mem_of_find?_eq_some hf
    obtain ⟨a, q⟩ := p
    dsimp only at hp1 ⊢
    subst hp1
    have hq := h.rp.rs.has hpm
    refine (close_yes a q B sb rb _ _ v X.R X.L w h.rp.hdr h.rp.rm h.rp.row h.rp.rs.srt hI hpm hq (by have := h.len; omega)).mono ?_
    rintro e w' ⟨rfl, v', h1, h2, h3, h4, h5⟩
    have a1 := h.readers (bg' := X.bg) (R' := endR a X.R) (L' := delR q X.L) h1 h2 h3 (h.rp.rs.ends hpm) (fun p hp => h.rp.bgl p (endR_mem.1 hp).1) h4 (fun g hg => .inl (by rw [← h5]; exact hg)) (by have := h.bgk; omega) (by rw [delR_len (List.getElem?_eq_some_iff.1 (del_at h.rp.rs.srt hq)).1]; have := h.len; omega)
    exact ⟨by rw [hfi]; rfl, ⟨m, g, rb, v', a1.1⟩, a1.2⟩
theorem oldO_any (q : Int) (B sb n kk : Nat) (X : Sx) (F : Nat → Prop) (w : World) (h : SO B w sb n X kk F) (hk : kk ≤ 5864062014803) :
    Calls Tryz.prog 28 #[.pointer (some ⟨sb, 0, none⟩), .int .i64 q] w fun e w' => e = .returned (.int .i64 (oldR q X.L)) ∧ Below w.heap.size w w' := by
  obtain ⟨m, g, rb, v, h⟩ := h
  exact oldSt_any q sb B v X.L w (Hd.c3 h.rp.hdr) h.rp.row (by have := h.len; omega)
theorem atO_any (k : Ky) (q : Int) (B sb n kk : Nat) (X : Sx) (F : Nat → Prop) (w : World) (h : SO B w sb n X kk F) (hk : KOK k) (hl : kk ≤ 5864062014803) :
    Calls Tryz.prog 25 #[.pointer (some ⟨sb, 0, none⟩), .agg #[.int .i64 k.1, .int .i64 k.2], .int .i64 q] w fun e w' => e = .returned (.tuple #[.string ⟨(atS q (X.K k)).toArray⟩, .bool (atB q (X.K k))]) ∧ Below w.heap.size w w' := by
  obtain ⟨m, g, rb, v, h⟩ := h
  exact atSt_any k q sb n kk m X.K w h.sv hk (by omega)
theorem lastO_any (k : Ky) (B sb n kk : Nat) (X : Sx) (F : Nat → Prop) (w : World) (h : SO B w sb n X kk F) (hk : KOK k) (hl : kk ≤ 5864062014803) :
    Calls Tryz.prog 17 #[.pointer (some ⟨sb, 0, none⟩), .agg #[.int .i64 k.1, .int .i64 k.2]] w fun e w' => e = .returned (.tuple #[.string ⟨(laP (X.K k)).2.toArray⟩, .int .i64 (laP (X.K k)).1, .bool (laB (X.K k))]) ∧ Below w.heap.size w w' := by
  obtain ⟨m, g, rb, v, h⟩ := h
  exact lastSt_any k sb n kk m X.K w h.sv hk (by omega)
end Go.Proofs.YtehacdijleommaaGreatDoor
