/-
  My own text: layer 22: the law MatchFit (printed by mkmfe.py).
-/
import Derived.Test.YtdfhfjkcafchiaaDoorMFd
import Derived.Test.YtdfhfjkcafchiaaDoorG0
namespace Go.Proofs.YtdfhfjkcafchiaaDoor
open Go.RowKit LC

theorem Tryd.sizeSide : (Tryd.prog.info? 28).map (·.size) = some 28 := by kernel_rfl
theorem sC_size (p : Int) (n : Ntc) (v : Value) (h : n.code.length = 12) : (sC p n v).size = 28 := by
  have := nC_size n v h
  unfold sC
  rw [List.size_toArray, List.length_cons, Array.length_toList, this]
theorem sC_one (p : Int) (n : Ntc) (v : Value) (hv : v.oneCell' = true) : (sC p n v).all (·.oneCell') = true := by
  have h := nC_one n v hv
  rw [Array.all_eq_true_iff_forall_mem] at h ⊢
  intro x hx
  unfold sC at hx
  rw [List.mem_toArray, List.mem_cons] at hx
  rcases hx with rfl | hx
  · rfl
  · exact h x (by simpa using hx)
theorem sC_set (p : Int) (n : Ntc) (v v' : Value) (hc : n.code.length = 12) : (sC p n v).setIfInBounds 27 v' = sC p n v' := by
  obtain ⟨c0, c1, c2, c3, c4, c5, c6, c7, c8, c9, c10, c11, he⟩ := nC_cases hc
  unfold sC nC nb; rw [he]; rfl
theorem SB.set {w : World} {g : Nat} {p : Int} {n : Ntc} {v : Value} (h : SB w g p n v) (hc : n.code.length = 12) (v' : Value) : SB (w.setCell ⟨g, 27, none⟩ v') g p n v' := by
  have e := setCell_eq_setRow w g 27 _ _ _ v' h
  rw [sC_set p n v v' hc] at e
  unfold SB
  rw [e]
  exact setRow_heap w g _ (sC p n v') _ _ h
theorem SB.other {w : World} {g b : Nat} {p : Int} {n : Ntc} {v v' : Value} (h : SB w b p n v) (hn : b ≠ g) : SB (w.setCell ⟨g, 27, none⟩ v') b p n v := (Below.heap_setCell _ _ _ b hn).trans h
theorem SB.lt {w : World} {b : Nat} {p : Int} {n : Ntc} {v : Value} (h : SB w b p n v) : b < w.heap.size := (Array.getElem?_eq_some_iff.1 h).1
theorem SB.later {w w' : World} {b : Nat} {p : Int} {n : Ntc} {v : Value} (h : SB w b p n v) (hb : Below w.heap.size w w') : SB w' b p n v := (hb.block b h.lt).trans h
theorem SB.link {w : World} {b : Nat} {p : Int} {n : Ntc} {v : Value} (h : SB w b p n v) (hc : n.code.length = 12) : w.cell? ⟨b, 27, none⟩ = some v := by
  obtain ⟨c0, c1, c2, c3, c4, c5, c6, c7, c8, c9, c10, c11, he⟩ := nC_cases hc
  unfold SB sC nC nb at h
  rw [he] at h
  rw [cell_of_row _ _ 27 _ _ _ h]
  rfl
theorem SB.frozen {W : World} {b : Nat} {p : Int} {n : Ntc} {v : Value} (h : SB W b p n v) (j : Nat) : W.frozen? ⟨b, j, none⟩ = false := by unfold SB at h; unfold World.frozen?; simp [h]
theorem SB.range0 {W : World} {b : Nat} {p : Int} {n : Ntc} {v : Value} (h : SB W b p n v) : W.rangeAt b 0 (sC p n v).toList := fun j u hj => by
  rw [Nat.zero_add, cell_of_row _ _ j _ _ _ h]; simpa using hj
theorem lentL_other {w : World} {B g b c : Nat} {l : List Lnk} {x : Value} (h : LentL w B g c l) (hn : g ≠ b) : LentL (w.setCell ⟨b, 27, none⟩ x) B g c l :=
  ⟨h.base, owns_blk h.own fun k hk => Below.heap_setCell _ _ _ k (fun e => hn (by injection hk with hk; exact hk.trans e))⟩
set_option maxRecDepth 100000 in
set_option maxHeartbeats 4000000 in
theorem matchFit_law (p q : Int) (n m : Ntc) (v u bv : Value) (L1 L2 : List Lnk) (bs : List (List UInt8)) (t : Int) (w : World) (hn : NOk n) (hm : NOk m) (ha : I64 n.amt) (hb : I64 m.amt) (ht : I64 t) (hni : I64 n.tr ∧ I64 n.st ∧ I64 n.qty) (hmi : I64 m.tr ∧ I64 m.st ∧ I64 m.qty)
    (h1 : RL w v L1) (h2 : RL w u L2) (hl1 : L1.length ≤ 5864062014805) (hl2 : L2.length ≤ 5864062014805) (hv : RT w bv bs) (hbl : bs.length ≤ 8796093022000) (hs : ∀ s ∈ bs, s.length ≤ 140737488355328) (hO : LC.HeadOffice w) :
    Calls Tryd.prog 3 #[.agg (sC p n v), .agg (sC q m u), bv, .int .i64 t] w fun e w' => e = .returned (.bool true) ∧ Below w.heap.size w w' := by
  have hvo : v.oneCell' = true := by obtain ⟨a, c, rfl, _⟩ := h1; rfl
  have huo : u.oneCell' = true := by obtain ⟨a, c, rfl, _⟩ := h2; rfl
  obtain ⟨W1, hW1⟩ : ∃ W, w.alloc (.cells (sC p n v) 28) = W := ⟨_, rfl⟩
  have s1 : SB W1 w.heap.size p n v := by rw [← hW1]; exact LC.alloc_new w _
  obtain ⟨W2, hW2⟩ : ∃ W, W1.alloc (.cells (sC q m u) 28) = W := ⟨_, rfl⟩
  have s2 : SB W2 w.heap.size p n v := by rw [← hW2]; exact LC.alloc_block s1
  have r2 : SB W2 W1.heap.size q m u := by rw [← hW2]; exact LC.alloc_new W1 _
  have b2 : Below w.heap.size w W2 := by rw [← hW2, ← hW1]; exact ((Below.refl _ _).alloc (Nat.le_refl _) _).alloc (by simp) _
  obtain ⟨B1, hB1⟩ : ∃ B, W1.heap.size = B := ⟨_, rfl⟩
  rw [hB1] at r2
  have HLT : Hid (w.heap.size < B1) := hide (by rw [← hB1]; exact s1.lt)
  have hF := rFit_any p q n m v u bv bs t W2 hn hm ha hb ht hvo huo (hv.later b2) hs
  rw [fit_same] at hF
  obtain ⟨⟨A1, A2⟩, hAN⟩ : ∃ x, mfV p n q m bs t = x := ⟨_, rfl⟩
  rw [hAN] at hF
  dsimp only at hF
  have HAN := hide hAN
  have HN := hide hn
  have HM := hide hm
  have HC1 : Hid (n.code.length = 12) := hide hn.code
  have HC2 : Hid (m.code.length = 12) := hide hm.code
  have HV := hide hv
  have HH1 := hide h1
  have HH2 := hide h2
  have HO := hide hO
  have HFX := hide (fun (v1 u1 bv1 : Value) (W : World) (o1 : v1.oneCell' = true) (o2 : u1.oneCell' = true) (hv1 : RT W bv1 bs) (hO1 : LC.HeadOffice W) => matchFit_any p q n m v1 u1 bv1 bs t W hn hm ha hb ht o1 o2 hv1 hs hO1 hni hmi)
  rw [hAN] at HFX
  dsimp only at HFX
  have HL1 := hide hl1
  have HL2 := hide hl2
  have HBL := hide hbl
  have HSZ : Hid ((Tryd.prog.info? 28).map (·.size) = some 28) := hide Tryd.sizeSide
  have HRA := hide s2.range0
  have HI1 : Hid ((Tryd.prog.info? 28).map (·.size) = some (sC p n v).size) := by show _ = _; rw [sC_size _ _ _ hn.code]; exact Tryd.sizeSide
  have HI2 : Hid ((Tryd.prog.info? 28).map (·.size) = some (sC q m u).size) := by show _ = _; rw [sC_size _ _ _ hm.code]; exact Tryd.sizeSide
  have HRB := hide r2.range0
  have HF := hide hF
  have HS2 := hide s2
  have HR2 := hide r2
  have HB2 := hide b2
  have HV1 := hide hvo
  have HU1 := hide huo
  obtain ⟨SN, hSN⟩ : ∃ x, sC p n v = x := ⟨_, rfl⟩
  obtain ⟨SM, hSM⟩ : ∃ x, sC q m u = x := ⟨_, rfl⟩
  rw [hSN] at hW1 HRA HI1 HF ⊢
  rw [hSM] at hW2 HRB HI2 HF ⊢
  have HSN := hide hSN
  have HSM := hide hSM
  clear hAN hSN hSM hn hm ha hb ht hni hmi h1 h2 hl1 hl2 hv hbl hs hO hvo huo s1 s2 r2 b2 hF
  go_enter Tryd.func3, Tryd.ntmps3
  go_upto_region 1 with fail
  try rw [hB1]
  clear hW1 hW2 hB1
  go_wp2_with (first
    | (refine wpList_load_mid rfl 28 (.tmp 4) rfl w.heap.size 0 rfl SN.toList _ HRA.out Tryd.underlying28 rfl (by rw [Array.length_toList]; exact HI1.out) ?_; rw [Array.toArray_toList])
    | (refine wpList_load_mid rfl 28 (.tmp 5) rfl B1 0 rfl SM.toList _ HRB.out Tryd.underlying28 rfl (by rw [Array.length_toList]; exact HI2.out) ?_; rw [Array.toArray_toList])
    | fail)
  refine HF.out.mono ?_
  rintro e w3 ⟨rfl, hb3⟩
  have HB3 := hide (HB2.out.trans (hb3.mono HB2.out.size))
  have HS3 := hide (HS2.out.later hb3)
  have HR3 := hide (HR2.out.later hb3)
  obtain ⟨b11, hb11⟩ : ∃ b, w3.heap.size = b := ⟨_, rfl⟩
  obtain ⟨W4, hW4⟩ : ∃ W, w3.alloc (.cells SN 28) = W := ⟨_, rfl⟩
  have x4 : SB W4 b11 p n v := by rw [← hW4, ← hb11, ← HSN.out]; exact LC.alloc_new w3 _
  have s4 : SB W4 w.heap.size p n v := by rw [← hW4]; exact LC.alloc_block HS3.out
  have r4 : SB W4 B1 q m u := by rw [← hW4]; exact LC.alloc_block HR3.out
  have HB4 : Hid (Below w.heap.size w W4) := hide (by rw [← hW4]; exact HB3.out.alloc HB3.out.size _)
  have HG11 : Hid (w.heap.size < b11 ∧ B1 < b11 ∧ b11 < W4.heap.size) := hide ⟨by rw [← hb11]; exact HS3.out.lt, by rw [← hb11]; exact HR3.out.lt, x4.lt⟩
  have HX4 := hide x4
  have HS4 := hide s4
  have HR4 := hide r4
  have c27 := s4.link HC1.out
  have HRC := hide HS3.out.range0
  rw [HSN.out] at HRC
  have HLE := hide (lentLinks_any v L1 W4 (HH1.out.later HB4.out) HL1.out)
  have HON1 : Hid (SN.all (·.oneCell') = true) := hide (by rw [← HSN.out]; exact sC_one p n v HV1.out)
  have HZ28 : Hid (28 = SN.size) := hide (by rw [← HSN.out, sC_size _ _ _ HC1.out])
  clear hb3 HF HRA HRB HS2 HR2 HB2 x4 s4 r4
  go_wp2_with (first
    | (refine wpList_load_mid rfl 28 (.tmp 4) rfl w.heap.size 0 rfl SN.toList _ HRC.out Tryd.underlying28 rfl (by rw [Array.length_toList]; exact HI1.out) ?_; rw [Array.toArray_toList])
    | (refine wpList_store_row rfl 28 (.tmp 11) _ rfl b11 SN rfl rfl _ _ (by rw [← hb11]; exact LC.alloc_new w3 _) HI1.out (by rw [← HZ28.out]; rfl) HON1.out ?_; rw [← hb11, World.setRow_alloc_new])
    | fail)
  try rw [hb11]
  clear hb11 hW4
  refine HLE.out.mono ?_
  rintro e w5 ⟨g1, q1, rfl, hL1, hb5⟩
  have HB5 := hide (HB4.out.trans (hb5.mono HB4.out.size))
  have HX5 := hide (HX4.out.later hb5)
  have HS5 := hide (HS4.out.later hb5)
  have HR5 := hide (HR4.out.later hb5)
  have z27 := HX5.out.link HC1.out
  have f27 := HX5.out.frozen 27
  obtain ⟨W6, hW6⟩ : ∃ W, w5.setCell ⟨b11, 27, none⟩ (.slice (some ⟨g1, 0, none⟩) L1.length q1) = W := ⟨_, rfl⟩
  have HX6 : Hid (SB W6 b11 p n (.slice (some ⟨g1, 0, none⟩) L1.length q1)) := hide (by rw [← hW6]; exact HX5.out.set HC1.out _)
  have HS6 : Hid (SB W6 w.heap.size p n v) := hide (by rw [← hW6]; exact HS5.out.other (by have := HG11.out; omega))
  have HR6 : Hid (SB W6 B1 q m u) := hide (by rw [← hW6]; exact HR5.out.other (by have := HG11.out; omega))
  have HB6 : Hid (Below w.heap.size w W6) := hide (by rw [← hW6]; exact HB5.out.setCell (p := ⟨b11, 27, none⟩) (by have := HG11.out; show w.heap.size ≤ b11; omega) _)
  have HLL1 : Hid (LentL W6 W4.heap.size g1 q1 L1) := hide (by rw [← hW6]; exact lentL_other hL1 (by have := hL1.base; have := HG11.out; omega))
  obtain ⟨b12, hb12⟩ : ∃ b, W6.heap.size = b := ⟨_, rfl⟩
  have HB12 := hide hb12
  obtain ⟨W7, hW7⟩ : ∃ W, W6.alloc (.cells SM 28) = W := ⟨_, rfl⟩
  have y7 : SB W7 b12 q m u := by rw [← hW7, ← hb12, ← HSM.out]; exact LC.alloc_new W6 _
  have x7 : SB W7 b11 p n (.slice (some ⟨g1, 0, none⟩) L1.length q1) := by rw [← hW7]; exact LC.alloc_block HX6.out
  have s7 : SB W7 w.heap.size p n v := by rw [← hW7]; exact LC.alloc_block HS6.out
  have r7 : SB W7 B1 q m u := by rw [← hW7]; exact LC.alloc_block HR6.out
  have HB7 : Hid (Below w.heap.size w W7) := hide (by rw [← hW7]; exact HB6.out.alloc HB6.out.size _)
  have HLL7 : Hid (LentL W7 W4.heap.size g1 q1 L1) := hide (by rw [← hW7]; exact HLL1.out.later ((Below.refl _ _).alloc (Nat.le_refl _) _))
  have HG12 : Hid (w.heap.size < b12 ∧ B1 < b12 ∧ b11 < b12 ∧ b12 < W7.heap.size) := hide ⟨by rw [← hb12]; exact HS6.out.lt, by rw [← hb12]; exact HR6.out.lt, by rw [← hb12]; exact HX6.out.lt, y7.lt⟩
  have HRD := hide HR6.out.range0
  rw [HSM.out] at HRD
  have HX7 := hide x7
  have HY7 := hide y7
  have HS7 := hide s7
  have HR7 := hide r7
  have k27 := r7.link HC2.out
  have HLE2 := hide (lentLinks_any u L2 W7 (HH2.out.later HB7.out) HL2.out)
  have HON2 : Hid (SM.all (·.oneCell') = true) := hide (by rw [← HSM.out]; exact sC_one q m u HU1.out)
  have HZ28' : Hid (28 = SM.size) := hide (by rw [← HSM.out, sC_size _ _ _ HC2.out])
  clear hb5 hL1 HLE HB4 HX4 HS4 HR4 HX5 HS5 HR5 HB5 c27 x7 y7 s7 r7 HRC
  go_wp2_with (first
    | (refine wpList_load_mid rfl 28 (.tmp 5) rfl B1 0 rfl SM.toList _ HRD.out Tryd.underlying28 rfl (by rw [Array.length_toList]; exact HI2.out) ?_; rw [Array.toArray_toList])
    | (refine wpList_store_row rfl 28 (.tmp 12) _ rfl b12 SM rfl rfl _ _ (by rw [← hb12]; exact LC.alloc_new W6 _) HI2.out (by rw [← HZ28'.out]; rfl) HON2.out ?_; rw [← hb12, World.setRow_alloc_new])
    | fail)
  try rw [hb12]
  clear hb12 hW7 hW6 z27 f27
  refine HLE2.out.mono ?_
  rintro e w8 ⟨g2, q2, rfl, hL2, hb8⟩
  have HB8 := hide (HB7.out.trans (hb8.mono HB7.out.size))
  have HX8 := hide (HX7.out.later hb8)
  have HY8 := hide (HY7.out.later hb8)
  have HS8 := hide (HS7.out.later hb8)
  have HR8 := hide (HR7.out.later hb8)
  have z27 := HY8.out.link HC2.out
  have f27 := HY8.out.frozen 27
  have lg1 := (HLL7.out.parts).1
  obtain ⟨W9, hW9⟩ : ∃ W, w8.setCell ⟨b12, 27, none⟩ (.slice (some ⟨g2, 0, none⟩) L2.length q2) = W := ⟨_, rfl⟩
  have HX9 : Hid (SB W9 b11 p n (.slice (some ⟨g1, 0, none⟩) L1.length q1)) := hide (by rw [← hW9]; exact HX8.out.other (by have := HG12.out; omega))
  have HY9 : Hid (SB W9 b12 q m (.slice (some ⟨g2, 0, none⟩) L2.length q2)) := hide (by rw [← hW9]; exact HY8.out.set HC2.out _)
  have HS9 : Hid (SB W9 w.heap.size p n v) := hide (by rw [← hW9]; exact HS8.out.other (by have := HG12.out; omega))
  have HR9 : Hid (SB W9 B1 q m u) := hide (by rw [← hW9]; exact HR8.out.other (by have := HG12.out; omega))
  have HB9 : Hid (Below w.heap.size w W9) := hide (by rw [← hW9]; exact HB8.out.setCell (p := ⟨b12, 27, none⟩) (by have := HG12.out; show w.heap.size ≤ b12; omega) _)
  have lg1' := HLL1.out.parts.1
  have HLL9 : Hid (LentL W9 W4.heap.size g1 q1 L1) := hide (by rw [← hW9]; exact lentL_other (HLL7.out.later hb8) (by have := HG12.out; have h9 : g1 < W7.heap.size := lg1; have h8 : g1 < W6.heap.size := lg1'; have h7 : W6.heap.size ≤ b12 := Nat.le_of_eq HB12.out; omega))
  have HLM9 : Hid (LentL W9 W7.heap.size g2 q2 L2) := hide (by rw [← hW9]; exact lentL_other hL2 (by have := hL2.base; have := HG12.out; omega))
  have HLT9 := hide (lentTexts_any bv bs W9 (HV.out.later HB9.out) HBL.out)
  clear hb8 hL2 HLE2 HB7 HX7 HY7 HS7 HR7 HX8 HY8 HS8 HR8 HB8 HLL7 HLL1 k27 HRD lg1 lg1' HX6 HS6 HR6 HB6
  go_wp2_with fail
  clear hW9 z27 f27
  refine HLT9.out.mono ?_
  rintro e w10 ⟨g3, q3, rfl, hLT, hb10⟩
  have HBX := hide (HB9.out.trans (hb10.mono HB9.out.size))
  have HXA := hide (HX9.out.later hb10)
  have HYA := hide (HY9.out.later hb10)
  have HSA := hide (HS9.out.later hb10)
  have HRX := hide (HR9.out.later hb10)
  have HLA := hide (HLL9.out.later hb10)
  have HLB := hide (HLM9.out.later hb10)
  have HLT := hide hLT
  have hf := HFX.out _ _ _ w10 (rfl : (Value.slice (some ⟨g1, 0, none⟩) L1.length q1).oneCell' = true) (rfl : (Value.slice (some ⟨g2, 0, none⟩) L2.length q2).oneCell' = true) hLT.rt (HO.out.below HBX.out)
  have RA := hide HXA.out.range0
  have RB := hide HYA.out.range0
  have J1 : Hid ((Tryd.prog.info? 28).map (·.size) = some (sC p n (.slice (some ⟨g1, 0, none⟩) L1.length q1)).size) := by show _ = _; rw [sC_size _ _ _ HC1.out]; exact HSZ.out
  have J2 : Hid ((Tryd.prog.info? 28).map (·.size) = some (sC q m (.slice (some ⟨g2, 0, none⟩) L2.length q2)).size) := by show _ = _; rw [sC_size _ _ _ HC2.out]; exact HSZ.out
  obtain ⟨SN1, hSN1⟩ : ∃ x, sC p n (.slice (some ⟨g1, 0, none⟩) L1.length q1) = x := ⟨_, rfl⟩
  obtain ⟨SM1, hSM1⟩ : ∃ x, sC q m (.slice (some ⟨g2, 0, none⟩) L2.length q2) = x := ⟨_, rfl⟩
  rw [hSN1] at hf RA J1
  rw [hSM1] at hf RB J2
  have HFF := hide hf
  clear hb10 hLT HLT9 HX9 HY9 HS9 HR9 HB9 HLL9 HLM9 hf hSN1 hSM1 HFX
  go_wp2_with (first
    | (refine wpList_load_mid rfl 28 (.tmp 11) rfl b11 0 rfl SN1.toList _ RA.out Tryd.underlying28 rfl (by rw [Array.length_toList]; exact J1.out) ?_; rw [Array.toArray_toList])
    | (refine wpList_load_mid rfl 28 (.tmp 12) rfl b12 0 rfl SM1.toList _ RB.out Tryd.underlying28 rfl (by rw [Array.length_toList]; exact J2.out) ?_; rw [Array.toArray_toList])
    | fail)
  refine HFF.out.mono ?_
  rintro e w11 ⟨rfl, hb11'⟩
  have HBY := hide (HBX.out.trans (hb11'.mono HBX.out.size))
  have HKT := hide (keptTexts_any bv bs _ g3 q3 w11 (HV.out.later HBY.out) (HLT.out.later hb11') HBL.out)
  have HXB := hide (HXA.out.later hb11')
  have HYB := hide (HYA.out.later hb11')
  have HSB := hide (HSA.out.later hb11')
  have HRB2 := hide (HRX.out.later hb11')
  have HLA2 := hide (HLA.out.later hb11')
  have HLB2 := hide (HLB.out.later hb11')
  clear hb11' HFF RA RB J1 J2 HXA HYA HSA HRX HLA HLB HLT
  go_wp2_with fail
  refine HKT.out.mono ?_
  rintro e w12 ⟨rfl, hb12'⟩
  have HBZ := hide (HBY.out.trans (hb12'.mono HBY.out.size))
  have e1 := (HXB.out.later hb12').link HC1.out
  have e2 := (HSB.out.later hb12').link HC1.out
  have HYC := hide (HYB.out.later hb12')
  have HRC2 := hide (HRB2.out.later hb12')
  have HK1 := hide (keptLinks_any v L1 _ g1 q1 w12 (HH1.out.later HBZ.out) (HLA2.out.later hb12') HL1.out)
  have HLB3 := hide (HLB2.out.later hb12')
  clear hb12' HKT HXB HYB HSB HRB2 HLA2 HLB2
  go_wp2_with fail
  refine HK1.out.mono ?_
  rintro e w13 ⟨rfl, hb13⟩
  have HBW := hide (HBZ.out.trans (hb13.mono HBZ.out.size))
  have e3 := (HYC.out.later hb13).link HC2.out
  have e4 := (HRC2.out.later hb13).link HC2.out
  have HK2 := hide (keptLinks_any u L2 _ g2 q2 w13 (HH2.out.later HBW.out) (HLB3.out.later hb13) HL2.out)
  clear hb13 HK1 e1 e2
  go_wp2_with fail
  refine HK2.out.mono ?_
  rintro e w14 ⟨rfl, hb14⟩
  have HBE := hide (HBW.out.trans (hb14.mono HBW.out.size))
  clear hb14 HK2 e3 e4
  go_wp2_with fail
  go_ret
  exact ⟨rfl, HBE.out⟩
end Go.Proofs.YtdfhfjkcafchiaaDoor
