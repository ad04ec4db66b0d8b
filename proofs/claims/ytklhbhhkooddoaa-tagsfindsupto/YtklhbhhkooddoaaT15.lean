/-
  My own text: what a sheet says; the program's Print.
-/
import Derived.Test.YtklhbhhkooddoaaT14
namespace Go.Proofs.Ytklhbhhkooddoaa
open Go.RowKit

theorem Try.cellsBy : Try.prog.cellsOf 5 = 1 := by kernel_rfl
set_option maxRecDepth 100000 in
set_option maxHeartbeats 2000000 in
theorem string_any (B b : Nat) (l : List UInt8) (n : Int) (w : World) (h : Sh w B b l n) (hl : l.length ≤ 1048576) :
    Calls Try.prog 33 #[.pointer (some ⟨b, 0, none⟩)] w fun e w' => e = .returned (.string ⟨l.toArray⟩) ∧ Below B w w' := by
  obtain ⟨hB, p, v, hp, hnil, hbk, hown⟩ := h
  by_cases h0 : l = []
  · have hv := hnil h0
    subst hv h0
    have c1 : w.drew.cell? ⟨b, 1, none⟩ = some (.slice none 0 0) := by
      have : w.drew.heap[b]? = some (.cells #[p, .slice none 0 0, .int .i64 n] 56 (0, 0)) := hbk
      rw [cell_of_row _ _ 1 _ _ _ this]; rfl
    have c1' : w.cell? ⟨b, 1, none⟩ = some (.slice none 0 0) := c1
    have hSD : (Builtin.unsafeSliceData_ #[51] 64 #[.slice none 0 0]).run Try.prog w.drew = .ok (.pointer none) w.drew := rfl
    have hUS := Lib.run_unsafeString_none (P := Try.prog) w.drew 64 3 9 none
    have HB := hide (Below.drew (Below.refl B w))
    clear hbk hown hnil hp
    go_enter Try.func33, Try.ntmps33
    go_wp2_with fail
    go_region
    all_goals (go_wp2_with fail; go_ret; exact ⟨rfl, HB.out⟩)
  · have hl0 : l.length ≠ 0 := by simpa using h0
    obtain ⟨g, cap, cur, rfl, hbg, hg, hnc, hcm, hcs, htake⟩ : ∃ g cap cur, v = .slice (some ⟨g, 0, none⟩) l.length cap ∧ B ≤ g ∧ w.heap[g]? = some (.cells cur 5 (0, 0)) ∧ l.length ≤ cap ∧ cap ≤ maxLen ∧ cur.size = cap * 1 ∧ cur.toList.take (l.length * 1) = Lib.byteCells l := by
      rcases hown.2 with ⟨_, hz⟩ | ⟨g, cap, cur, hv, r⟩
      · exact absurd hz hl0
      · exact ⟨g, cap, cur, hv, r⟩
    have c1 : w.drew.cell? ⟨b, 1, none⟩ = some (.slice (some ⟨g, 0, none⟩) l.length cap) := by
      have : w.drew.heap[b]? = some (.cells #[p, .slice (some ⟨g, 0, none⟩) l.length cap, .int .i64 n] 56 (0, 0)) := hbk
      rw [cell_of_row _ _ 1 _ _ _ this]; rfl
    have c1' : w.cell? ⟨b, 1, none⟩ = some (.slice (some ⟨g, 0, none⟩) l.length cap) := c1
    have hSD : (Builtin.unsafeSliceData_ #[51] 64 #[.slice (some ⟨g, 0, none⟩) l.length cap]).run Try.prog w.drew = .ok (.pointer (some ⟨g, 0, none⟩)) w.drew :=
      Lib.run_unsafeSliceData_row _ _ _ _ _ _ (by omega)
    have hUS : (Builtin.unsafeString_ #[64, 3] 9 #[.pointer (some ⟨g, 0, none⟩), .int .i64 l.length]).run Try.prog w.drew = .ok (.string ⟨l.toArray⟩) (w.drew.freeze ⟨g, 0, none⟩ l.length) := by
      refine Lib.run_unsafeString_row w.drew 64 3 9 5 Try.underlying64 Try.cellsBy g cur.size (by have hg' : w.drew.heap[g]? = some (.cells cur 5 (0, 0)) := hg; simp [World.shape?, hg']) l h0 (by omega) (by unfold maxLen at hcm; omega) ?_
      intro j x hx
      have hj : j < l.length := (List.getElem?_eq_some_iff.1 hx).1
      have := hown.cellAt j (by omega)
      have e : w.drew.cell? ((⟨g, 0, none⟩ : Addr).add j) = w.cell? ⟨g, j, none⟩ := by
        have : (⟨g, 0, none⟩ : Addr).add j = ⟨g, j, none⟩ := by rw [Addr.add_mid, Nat.zero_add]
        rw [this]; rfl
      rw [e, this]; simp [Lib.byteCells, hx]
    have HB := hide (Lib.below_freeze (Below.drew (Below.refl B w)) (p := ⟨g, 0, none⟩) hbg l.length)
    clear hbk hown hnil hp hg hcs htake
    go_enter Try.func33, Try.ntmps33
    go_wp2_with fail
    go_region
    all_goals (go_wp2_with fail; go_ret; exact ⟨rfl, HB.out⟩)
set_option maxRecDepth 100000 in
set_option maxHeartbeats 4000000 in
theorem tPrint_any (l : List Tr) (v : Value) (w : World) (hD : 14 * wts l ≤ 1099511627776) (hv : RT w v l) :
    Calls Try.prog 29 #[v] w fun e w' => e = .returned (.tuple #[.string ⟨(prT l).toArray⟩, errV (prE l)]) ∧ Below w.heap.size w w' := by
  have HSN : Hid (ShT (w.alloc (.cells #[.pointer none, .slice none 0 0, .int .i64 0] 56)) w.heap.size w.heap.size []) := hide ⟨[], ⟨Nat.le_refl _, _, _, .inl rfl, fun _ => rfl, alloc_new w _, World.ownsRow_nil _ _ _ _⟩, fun _ => rfl, by simp⟩
  have HB0 := hide ((Below.refl w.heap.size w).alloc (Nat.le_refl _) (.cells #[.pointer none, .slice none 0 0, .int .i64 0] 56))
  have HIT := hide (items_any w w.heap.size (wts l) l v 0 [] _ (Nat.le_refl _) (by simpa using hD) (by omega) (by omega) hv HB0.out HSN.out)
  clear hv
  by_cases he : errL l 0 = 0
  · rw [he, errV_zero] at HIT
    by_cases hm : 1048576 < (txtL l).length
    · have HE : Hid (prE l = 5) := by show _ = _; unfold prE; rw [if_neg (by simp [he]), if_pos hm]
      have HT : Hid (prT l = []) := by show _ = _; unfold prT; rw [HE.out]; rfl
      clear he
      go_enter Try.func29, Try.ntmps29
      go_wp2_with fail
      refine HIT.out.mono ?_
      rintro e w1 ⟨rfl, ⟨T', hs, hT⟩, hk⟩
      have hT' := hT trivial
      rw [List.nil_append] at hT'
      subst hT'
      obtain ⟨s, ⟨_, p, u, _, _, hb, _⟩, _, _⟩ := hs
      have c2 : w1.cell? ⟨w.heap.size, 2, none⟩ = some (.int .i64 ((txtL l).length : Int)) := by rw [cell_of_row _ _ 2 _ _ _ hb]; rfl
      have HK := hide (HB0.out.trans hk.1)
      clear hb hk hT
      generalize txtL l = X at *
      go_wp2_with fail
      go_ret2
      exact ⟨by rw [HT.out, HE.out]; rfl, HK.out⟩
    · have HE : Hid (prE l = 0) := by show _ = _; unfold prE; rw [if_neg (by simp [he]), if_neg hm]
      have HT : Hid (prT l = txtL l) := by show _ = _; unfold prT; rw [HE.out]; rfl
      clear he
      go_enter Try.func29, Try.ntmps29
      go_wp2_with fail
      refine HIT.out.mono ?_
      rintro e w1 ⟨rfl, ⟨T', hs, hT⟩, hk⟩
      have hT' := hT trivial
      rw [List.nil_append] at hT'
      subst hT'
      obtain ⟨s, hsh, hsl, hsm⟩ := hs
      have hse := hsl (by omega)
      subst hse
      have HST := hide (string_any _ _ _ _ w1 hsh hsm)
      obtain ⟨_, p, u, _, _, hb, _⟩ := hsh
      have c2 : w1.cell? ⟨w.heap.size, 2, none⟩ = some (.int .i64 ((txtL l).length : Int)) := by rw [cell_of_row _ _ 2 _ _ _ hb]; rfl
      have HK := hide (HB0.out.trans hk.1)
      clear hb hk hT hsl hsm
      generalize txtL l = X at *
      go_wp2_with fail
      refine HST.out.mono ?_
      rintro e w2 ⟨rfl, hb2⟩
      have HK2 := hide (HK.out.trans hb2)
      clear hb2
      go_wp2_with fail
      go_ret2
      exact ⟨by rw [HT.out, HE.out]; rfl, HK2.out⟩
  · have HE : Hid (prE l = errL l 0) := by show _ = _; unfold prE; rw [if_pos he]
    have HT : Hid (prT l = []) := by show _ = _; unfold prT; rw [HE.out, if_neg he]
    obtain ⟨u, hu⟩ := errV_iface he
    rw [hu] at HIT
    have HRV : Hid (errV (prE l) = .iface 58 u) := by show _ = _; rw [HE.out, hu]
    clear he hu
    go_enter Try.func29, Try.ntmps29
    go_wp2_with fail
    refine HIT.out.mono ?_
    rintro e w1 ⟨rfl, _, hk⟩
    have HK := hide (HB0.out.trans hk.1)
    clear hk
    go_wp2_with fail
    go_ret2
    exact ⟨by rw [HT.out, HRV.out]; rfl, HK.out⟩
end Go.Proofs.Ytklhbhhkooddoaa
