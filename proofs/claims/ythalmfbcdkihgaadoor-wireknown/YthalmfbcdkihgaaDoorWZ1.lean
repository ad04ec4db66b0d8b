/-
  My own text: what the document's own calls write.
-/
import Derived.Test.YthalmfbcdkihgaaDoorWP1
import Derived.Test.YthalmfbcdkihgaaDoorWPut
namespace Go.Proofs.YthalmfbcdkihgaaDoor
open Go.RowKit Go.Extern

theorem ret_u64 {a b : Int} (h : a = b) : Ending.returned (.int .u64 a) = .returned (.int .u64 b) := by rw [h]
theorem refFolded_any (x : Int) (w : World) (h1 : -9223372036854775808 ≤ x) (h2 : x ≤ 9223372036854775807) :
    Calls Tryd.prog 80 #[.int .i64 x] w fun en w' => en = .returned (.int .u64 (foldI x)) ∧ w' = w := by
  by_cases h : x < 0
  · have e : foldI x = 2 * (-x - 1) + 1 := by unfold foldI; rw [if_pos h]; omega
    rw [e]
    have hd : decide (0 ≤ x) = false := by rw [decide_eq_false_iff_not]; omega
    go_enter Tryd.func80, Tryd.ntmps80
    go_wp2
    go_ret
    exact ⟨ret_u64 (by omega), rfl⟩
  · have e : foldI x = 2 * x := by unfold foldI; rw [if_neg h]
    rw [e]
    have hd : decide (0 ≤ x) = true := by rw [decide_eq_true_eq]; omega
    go_enter Tryd.func80, Tryd.ntmps80
    go_wp2
    go_ret
    exact ⟨ret_u64 (by omega), rfl⟩
set_option maxRecDepth 100000 in
theorem refPutInt_any (x : Int) (B : Nat) (v : Value) (l : List UInt8) (w : World) (h1 : -9223372036854775808 ≤ x) (h2 : x ≤ 9223372036854775807) (ho : Own w B v l) (hB : B ≤ w.heap.size) (hl : l.length ≤ 140737488355200) :
    Calls Tryd.prog 63 #[v, .int .i64 x] w fun e w' => ∃ v', e = .returned v' ∧ Own w' B v' (l ++ form (foldI x)) ∧ Grew w v w' v' := by
  obtain ⟨f0, f1⟩ := fold_rng h1 h2
  have HF := hide (refFolded_any x w h1 h2)
  have HP := hide (refPutUint_any (foldI x) B v l w f0 f1 ho hB hl)
  obtain ⟨y, hy⟩ : ∃ y, Hid (foldI x = y) := ⟨_, hide rfl⟩
  rw [hy.out] at HF HP ⊢
  obtain ⟨a0, c0, rfl⟩ := ho.slice
  clear ho
  go_enter Tryd.func63, Tryd.ntmps63
  go_wp2_with fail
  refine HF.out.mono ?_
  rintro e w1 ⟨rfl, hw⟩
  obtain rfl := hw.symm
  go_wp2_with fail
  refine HP.out.mono ?_
  rintro e w2 ⟨v2, rfl, ho2, hg2⟩
  have HO := hide ho2
  have HG := hide hg2
  obtain ⟨a2, c2, rfl⟩ := ho2.slice
  obtain ⟨M, hM⟩ : ∃ M, Hid (l ++ form y = M) := ⟨_, hide rfl⟩
  rw [hM.out] at HO HG ⊢
  clear ho2 hg2
  go_wp2_with fail
  go_ret
  exact ⟨_, rfl, by rw [hM.out]; exact HO.out, HG.out⟩
set_option maxRecDepth 100000 in
set_option maxHeartbeats 1000000 in
theorem refPutText_any (s : List UInt8) (B : Nat) (v : Value) (l : List UInt8) (w : World) (ho : Own w B v l) (hB : B ≤ w.heap.size) (hl : l.length + s.length ≤ 140737488355000) :
    Calls Tryd.prog 64 #[v, .string ⟨s.toArray⟩] w fun e w' => ∃ v', e = .returned v' ∧ Own w' B v' (l ++ (form (s.length : Int) ++ s)) ∧ Grew w v w' v' := by
  obtain ⟨i0, hi, hz0, hz1, hz2⟩ := info_parts Tryd.infoB
  have HP := hide (refPutUint_any (s.length : Int) B v l w (by omega) (by omega) ho hB (by omega))
  have hsz := bytes_size' s
  have hfl := form_le (s.length : Int)
  obtain ⟨F, hF⟩ : ∃ F, Hid (form (s.length : Int) = F) := ⟨_, hide rfl⟩
  rw [hF.out] at HP hfl ⊢
  obtain ⟨a0, c0, rfl⟩ := ho.slice
  obtain ⟨Z, hZ⟩ : ∃ Z, Hid (l ++ (F ++ s) = Z) := ⟨_, hide rfl⟩
  rw [hZ.out]
  clear ho
  go_enter Tryd.func64, Tryd.ntmps64
  go_wp2_with fail
  refine HP.out.mono ?_
  rintro e w1 ⟨v1, rfl, ho1, hg1⟩
  have HO1 := hide ho1
  have HG1 := hide hg1
  have hs1 := hg1.grown.size
  have hLM : (l ++ F).length ≤ l.length + 9 := by rw [List.length_append]; omega
  obtain ⟨M, hM⟩ : ∃ M, Hid (l ++ F = M) := ⟨_, hide rfl⟩
  have HFIN : Hid (M ++ s = Z) := hide (by rw [← hM.out, ← hZ.out, List.append_assoc])
  rw [hM.out] at HO1 hLM
  obtain ⟨a1, c1, rfl⟩ := HO1.out.slice
  clear ho1 hg1 HP
  go_wp2_with fail
  go_loopw [0, 5] (fun u i wr => ∃ (k : Nat) (v' : Value), k ≤ s.length ∧ i = .int .i64 k ∧ u = v' ∧ Hid (Own wr B v' (M ++ s.take k)) ∧ Hid (Grew w (.slice a0 l.length c0) wr v')) (fun _ i _ => s.length - (intOf i).toNat)
  case atStart => exact ⟨0, _, Nat.zero_le _, rfl, rfl, by rw [List.take_zero, List.append_nil]; exact HO1, HG1⟩
  case round =>
    clear HO1 HG1
    obtain ⟨k, v', hk, rfl, rfl, HO, HG⟩ := hrel
    by_cases hlt : k < s.length
    · obtain ⟨a1, c1, rfl⟩ := HO.out.slice
      have hs1 : k < (⟨s.toArray⟩ : ByteArray).size := by rw [hsz]; exact hlt
      obtain ⟨c, hc, Hc⟩ : ∃ c, (⟨s.toArray⟩ : ByteArray)[k]'hs1 = c ∧ Hid (s[k]? = some c) := ⟨_, rfl, hide (List.getElem?_eq_getElem hlt)⟩
      have HT : Hid (M ++ s.take (k + 1) = (M ++ s.take k) ++ [c]) := hide (by rw [List.take_add_one, Hc.out, List.append_assoc]; rfl)
      have hws : w.heap.size ≤ wr.heap.size := HG.out.grown.size
      have HLN : Hid ((M ++ s.take k).length = M.length + k) := hide (by rw [List.length_append, List.length_take]; omega)
      obtain ⟨m, hm⟩ : ∃ m, Hid (M ++ s.take k = m) := ⟨_, hide rfl⟩
      rw [hm.out] at HLN HO HG HT ⊢
      go_wp2_with (first
        | (at_builtin; refine wpList_append_lies _ rfl _ _ 29 rfl B 5 i0 (.int .u8 0) 1 1 Tryd.underlying29 hi hz0 hz1 hz2 rfl (by decide) _ _ _ rfl (HO.out.alloc _) ⟨_, 0, none⟩ 1 1 [.int .u8 (c.toNat : Int)] rfl rfl ?d1 ?d2 (by decide) ?d3 ?d4 ?d5 _ rfl ?_)
        | go_in)
      case d1 =>
        intro j u hj
        match j, hj with
        | 0, hj => simp at hj; subst hj; simp [Addr.add]
      case d2 => intro u hu; simp at hu; subst hu; rfl
      case d3 => have := HLN.out; unfold maxLen; omega
      case d4 => have := HLN.out; omega
      case d5 => simp; omega
      intro g cap w2 hown' hgrow hat hlt'
      have HO1 : Hid (Own w2 B (.slice (some ⟨g, 0, none⟩) (m.length + 1) cap) (M ++ s.take (k + 1))) := hide (by rw [HT.out]; exact own_snoc hown' rfl)
      have HG1 := hide (HG.out.trans (grew_lies (n := m.length + 1) (cap := cap) hgrow hat))
      clear HO HG hown' hgrow hat
      go_wp2_with fail
      go_roundw
      case rel => exact ⟨k + 1, _, by omega, by go_num, rfl, HO1, HG1⟩
      case measure => simp [intOf]; omega
    · have hk' : k = s.length := by omega
      subst hk'
      rw [List.take_length, HFIN.out] at HO
      obtain ⟨a1, c1, rfl⟩ := HO.out.slice
      go_wp2_with fail
      go_ret
      exact ⟨_, rfl, HO.out, HG.out⟩
set_option maxRecDepth 100000 in
set_option maxHeartbeats 1000000 in
theorem laid_any (p : Pt) (B : Nat) (v : Value) (l : List UInt8) (w : World) (hp : okP p) (ho : Own w B v l) (hB : B ≤ w.heap.size) (hl : l.length + p.s.length ≤ 140737488355000) :
    Calls Tryd.prog 43 #[v, ptV p] w fun e w' => ∃ v', e = .returned v' ∧ Own w' B v' (l ++ encP p) ∧ Grew w v w' v' := by
  obtain ⟨x0, x1, _⟩ := hp
  obtain ⟨on, kd, x, s⟩ := p
  unfold ptV
  simp only [] at x0 x1 hl ⊢
  obtain ⟨o, ho'⟩ : ∃ o, Hid (Obj.cells #[.int .i64 on, .int .i64 kd, .int .u64 x, .string ⟨s.toArray⟩] 54 = o) := ⟨_, hide rfl⟩
  have hb : Below w.heap.size w (w.alloc (.cells #[.int .i64 on, .int .i64 kd, .int .u64 x, .string ⟨s.toArray⟩] 54)) := (Below.refl _ _).alloc (Nat.le_refl _) _
  have hB1 : B ≤ (w.alloc (.cells #[.int .i64 on, .int .i64 kd, .int .u64 x, .string ⟨s.toArray⟩] 54)).heap.size := Nat.le_trans hB hb.size
  have HO := hide (ho.later hb)
  have HG : Hid (∀ w' v', Grew (w.alloc (.cells #[.int .i64 on, .int .i64 kd, .int .u64 x, .string ⟨s.toArray⟩] 54)) v w' v' → Grew w v w' v') := hide fun w' v' h => Grew.ofBelow hb h
  obtain ⟨a0, c0, rfl⟩ := ho.slice
  clear ho hb ho'
  have FIN : Hid (∀ (c : FuncId) (args : Array Value) (K : List UInt8), (Calls Tryd.prog c args (w.alloc (.cells #[.int .i64 on, .int .i64 kd, .int .u64 x, .string ⟨s.toArray⟩] 54)) fun e w' => ∃ v', e = .returned v' ∧ Own w' B v' (l ++ K) ∧ Grew (w.alloc (.cells #[.int .i64 on, .int .i64 kd, .int .u64 x, .string ⟨s.toArray⟩] 54)) (.slice a0 l.length c0) w' v') →
      Calls Tryd.prog c args (w.alloc (.cells #[.int .i64 on, .int .i64 kd, .int .u64 x, .string ⟨s.toArray⟩] 54)) fun e w' => ∃ a n cc, e = .returned (.slice a n cc) ∧ Own w' B (.slice a n cc) (l ++ K) ∧ Grew w (.slice a0 l.length c0) w' (.slice a n cc)) := hide (fun c args K h => h.mono fun e w' hh => by
    obtain ⟨v', h1, h2, h3⟩ := hh
    obtain ⟨a2, c2, rfl⟩ := h2.slice
    exact ⟨a2, _, c2, h1, h2, HG.out _ _ h3⟩)
  by_cases k0 : kd = 0
  · subst k0
    have HE : Hid (encP ⟨on, 0, x, s⟩ = form x) := hide (by unfold encP; rw [if_pos rfl])
    rw [HE.out]
    have HU := hide (FIN.out _ _ _ (refPutUint_any x B _ l _ x0 x1 HO.out hB1 (by omega)))
    go_enter Tryd.func43, Tryd.ntmps43
    go_wp2_with fail
    refine HU.out.mono ?_
    rintro en w2 ⟨a2, n2, c2, rfl, h2, h3⟩
    have H2 := hide h2
    have H3 := hide h3
    clear h2 h3
    go_wp2_with fail
    go_ret
    exact ⟨_, rfl, H2.out, H3.out⟩
  have d0 : (kd == 0) = false := by simpa using k0
  by_cases k1 : kd = 1
  · subst k1
    have HE : Hid (encP ⟨on, 1, x, s⟩ = form (foldI (sgn x))) := hide (by unfold encP; rw [if_neg (by simp), if_pos rfl])
    rw [HE.out]
    obtain ⟨g0, g1⟩ := sgn_rng x0 x1
    have HS := hide (sgn_wrap x0 x1)
    have HU := hide (FIN.out _ _ _ (refPutInt_any (sgn x) B _ l _ g0 g1 HO.out hB1 (by omega)))
    obtain ⟨J, hJ⟩ : ∃ J, Hid (form (foldI (sgn x)) = J) := ⟨_, hide rfl⟩
    rw [hJ.out] at HU
    rw [hJ.out]
    rw [← HS.out] at HU
    go_enter Tryd.func43, Tryd.ntmps43
    go_wp2_with fail
    refine HU.out.mono ?_
    rintro en w2 ⟨a2, n2, c2, rfl, h2, h3⟩
    have H2 := hide h2
    have H3 := hide h3
    clear h2 h3
    go_wp2_with fail
    go_ret
    exact ⟨_, rfl, H2.out, H3.out⟩
  have d1 : (kd == 1) = false := by simpa using k1
  by_cases k2 : kd = 2
  · subst k2
    have HE : Hid (encP ⟨on, 2, x, s⟩ = form (s.length : Int) ++ s) := hide (by unfold encP; rw [if_neg (by simp), if_neg (by simp), if_pos rfl])
    rw [HE.out]
    have HU := hide (FIN.out _ _ _ (refPutText_any s B _ l _ HO.out hB1 hl))
    obtain ⟨J, hJ⟩ : ∃ J, Hid (form (s.length : Int) ++ s = J) := ⟨_, hide rfl⟩
    rw [hJ.out] at HU
    rw [hJ.out]
    go_enter Tryd.func43, Tryd.ntmps43
    go_wp2_with fail
    refine HU.out.mono ?_
    rintro en w2 ⟨a2, n2, c2, rfl, h2, h3⟩
    have H2 := hide h2
    have H3 := hide h3
    clear h2 h3
    go_wp2_with fail
    go_ret
    exact ⟨_, rfl, H2.out, H3.out⟩
  have d2 : (kd == 2) = false := by simpa using k2
  have HE : Hid (encP ⟨on, kd, x, s⟩ = []) := hide (by unfold encP; rw [if_neg k0, if_neg k1, if_neg k2])
  rw [HE.out, List.append_nil]
  clear k0 k1 k2
  go_enter Tryd.func43, Tryd.ntmps43
  go_wp2_with fail
  go_ret
  exact ⟨_, rfl, HO.out, HG.out _ _ (Grew.refl _ _)⟩
end Go.Proofs.YthalmfbcdkihgaaDoor
