/-
  My own text: texts read and written; a number written and read.
-/
import Derived.Test.YthalmfbcdkihgaaDoorW8
namespace Go.Proofs.YthalmfbcdkihgaaDoor
open Go.RowKit Go.Extern

theorem conv_rg {w : World} {g : Nat} {v : Value} {l : List UInt8} (h : RG w g v l) : (convert 29 9 v).run Tryd.prog w = .ok (.string ⟨l.toArray⟩) w := by
  obtain ⟨a, cap, rfl, _, hr⟩ := h
  rcases hr with rfl | ⟨off, rfl, _, hc⟩
  · cases a with
    | none => exact run_convert_bytes_nil w 29 5 Tryd.underlying29 Tryd.underlying5 _ _ 9 Tryd.underlying9
    | some ad => exact run_convert_bytes_back (P := Tryd.prog) w 29 9 5 ad cap [] Tryd.underlying29 Tryd.underlying5 Tryd.underlying9 (fun j hj => by simp at hj)
  · exact run_convert_bytes_back (P := Tryd.prog) w 29 9 5 ⟨g, off, none⟩ cap l Tryd.underlying29 Tryd.underlying5 Tryd.underlying9 (fun j hj => by
      have := hc j l[j] (List.getElem?_eq_getElem hj)
      have e1 : (⟨g, off, none⟩ : Addr).add j = ⟨g, off + j, none⟩ := by unfold Addr.add; split <;> simp_all
      rw [e1]; exact this)

/-- A text read. -/
def mostOf (most : Int) : Int := if most < 0 then 0 else most
def rdY (M : Int) (l : List UInt8) (e : Int) : List UInt8 × List UInt8 × Int :=
  if (rdT (rdU M l e).1 (rdU M l e).2.1 (rdU M l e).2.2).2.2 ≠ 0 then ([], l, (rdT (rdU M l e).1 (rdU M l e).2.1 (rdU M l e).2.2).2.2) else rdT (rdU M l e).1 (rdU M l e).2.1 (rdU M l e).2.2
def rdX (most : Int) (l : List UInt8) (e : Int) : List UInt8 × List UInt8 × Int := rdY (mostOf most) l e
theorem rdT_rng (size : Int) (l : List UInt8) (e : Int) (he : 0 ≤ e) (h24 : e ≤ 24) : 0 ≤ (rdT size l e).2.2 ∧ (rdT size l e).2.2 ≤ 24 ∧ ((rdT size l e).2.2 ≠ 0 → (rdT size l e).1 = []) ∧ (rdT size l e).2.1.length ≤ l.length := by
  unfold rdT
  split
  · exact ⟨he, h24, fun _ => rfl, Nat.le_refl _⟩
  · split
    · exact ⟨by show (0 : Int) ≤ 2; omega, by show (2 : Int) ≤ 24; omega, fun _ => rfl, Nat.le_refl _⟩
    · exact ⟨by show (0 : Int) ≤ 0; omega, by show (0 : Int) ≤ 24; omega, fun h => absurd rfl h, by show (l.drop _).length ≤ _; rw [List.length_drop]; omega⟩
theorem rdX_rng (most : Int) (l : List UInt8) (e : Int) (he : 0 ≤ e) (h24 : e ≤ 24) : 0 ≤ (rdX most l e).2.2 ∧ (rdX most l e).2.2 ≤ 24 ∧ (rdX most l e).2.1.length ≤ l.length := by
  unfold rdX rdY
  obtain ⟨_, _, u0, u24, ul⟩ := rdU_rng (mostOf most) l e he h24
  obtain ⟨k0, k24, _, kl⟩ := rdT_rng (rdU (mostOf most) l e).1 (rdU (mostOf most) l e).2.1 (rdU (mostOf most) l e).2.2 u0 u24
  split
  · exact ⟨k0, k24, Nat.le_refl _⟩
  · exact ⟨k0, k24, Nat.le_trans kl ul⟩

set_option maxRecDepth 100000 in
set_option maxHeartbeats 1000000 in
theorem readText_of (most M : Int) (t r g : Nat) (l : List UInt8) (e : Int) (w : World) (hM : (most < 0 ∧ M = 0) ∨ (0 ≤ most ∧ M = most)) (m2 : most ≤ 9223372036854775807) (hd : Rd w t r g l e) (he : 0 ≤ e) (h24 : e ≤ 24) (hl : l.length ≤ 140737488355328) :
    Calls Tryd.prog 13 #[.pointer (some ⟨r, 0, none⟩), .int .i64 most] w fun en w' => en = .returned (.string ⟨(rdY M l e).1.toArray⟩) ∧ Rd w' t r g (rdY M l e).2.1 (rdY M l e).2.2 ∧ Only r w w' := by
  have HU := hide (srcUint_any M t r g l e w hd he hl)
  obtain ⟨x0, x1, u0, u24, ul⟩ := rdU_rng M l e he h24
  have HX : Hid (rdY M l e = if (rdT (rdU M l e).1 (rdU M l e).2.1 (rdU M l e).2.2).2.2 ≠ 0 then ([], l, (rdT (rdU M l e).1 (rdU M l e).2.1 (rdU M l e).2.2).2.2) else rdT (rdU M l e).1 (rdU M l e).2.1 (rdU M l e).2.2) := hide rfl
  obtain ⟨k0, k24, knil, kl⟩ := rdT_rng (rdU M l e).1 (rdU M l e).2.1 (rdU M l e).2.2 u0 u24
  have HT := hide (fun (W : World) (h : Rd W t r g (rdU M l e).2.1 (rdU M l e).2.2) => take_any (rdU M l e).1 t r g (rdU M l e).2.1 (rdU M l e).2.2 W x0 h u0 (by omega))
  obtain ⟨⟨v, hb, hg⟩, hne⟩ := hd
  have c0 : w.cell? ⟨r, 0, none⟩ = some v := hb.cell 0
  have HRG := hide hg
  have HLT := hide hb.lt
  obtain ⟨a, cap, rfl, hcap, hr⟩ := hg
  clear hb hr
  have nG := Tryd.nilNeqG
  have nN := Tryd.nilNeq
  obtain ⟨X, hX⟩ : ∃ X, Hid ((rdU M l e).1 = X) := ⟨_, hide rfl⟩
  obtain ⟨l1, hl1⟩ : ∃ l1, Hid ((rdU M l e).2.1 = l1) := ⟨_, hide rfl⟩
  obtain ⟨e1, he1⟩ : ∃ e1, Hid ((rdU M l e).2.2 = e1) := ⟨_, hide rfl⟩
  rw [hX.out, hl1.out, he1.out] at HU HX HT
  rw [hX.out, hl1.out, he1.out] at k0 k24 knil kl
  rw [hX.out] at x0 x1
  obtain ⟨k1, hk1⟩ : ∃ k1, Hid ((rdT X l1 e1).1 = k1) := ⟨_, hide rfl⟩
  obtain ⟨l2, hl2⟩ : ∃ l2, Hid ((rdT X l1 e1).2.1 = l2) := ⟨_, hide rfl⟩
  obtain ⟨e2, he2⟩ : ∃ e2, Hid ((rdT X l1 e1).2.2 = e2) := ⟨_, hide rfl⟩
  rw [hk1.out, hl2.out, he2.out] at HT
  rw [he2.out] at k0 k24
  rw [he2.out, hk1.out] at knil
  have HX0 : Hid (e2 ≠ 0 → rdY M l e = ([], l, e2)) := hide fun h => by rw [HX.out, he2.out, if_pos h]
  have HX1 : Hid (e2 = 0 → (rdY M l e).1 = k1 ∧ (rdY M l e).2.1 = l2 ∧ (rdY M l e).2.2 = 0) := hide fun h => by
    rw [HX.out, he2.out, if_neg (by simp [h])]; exact ⟨hk1.out, hl2.out, he2.out.trans h⟩
  have HNIL := hide knil
  clear kl ul u0 u24 HX knil hX hl1 he1 hk1 hl2 he2
  by_cases h2 : e2 = 0
  · obtain ⟨q1, q2, q3⟩ := HX1.out h2
    rw [q1, q2, q3]
    subst h2
    clear HX0 HX1 HNIL q1 q2 q3
    rcases hM with ⟨hm, rfl⟩ | ⟨hm, rfl⟩
    all_goals
      go_enter Tryd.func13, Tryd.ntmps13
      go_wp2_with fail
      refine HU.out.mono ?_
      rintro en w1 ⟨rfl, hd1, ho1⟩
      have HT1 := hide (HT.out w1 hd1)
      have HO1 := hide ho1
      clear hd1 ho1
      go_wp2_with fail
      refine HT1.out.mono ?_
      rintro en w2 ⟨⟨v2, rfl, hv2⟩, hd2, ho2⟩
      have hcv := conv_rg hv2
      obtain ⟨⟨u2, hb2, hg2⟩, _⟩ := hd2
      have HO2 := hide (HO1.out.trans ho2)
      have HB2 := hide hb2
      have HG2 := hide hg2
      have d1 : w2.cell? ⟨r, 1, none⟩ = some .nilIface := hb2.cell 1
      obtain ⟨a2, cap2, rfl, _, _⟩ := hv2
      clear hb2 hg2 ho2 HT1 HO1
      go_wp2_with fail
      go_ret
      exact ⟨rfl, ⟨⟨_, HB2.out, HG2.out⟩, hne⟩, HO2.out⟩
  · rw [HX0.out h2]
    have hk := HNIL.out h2
    subst hk
    have k1 : 1 ≤ e2 := by omega
    clear HX0 HX1 HNIL h2
    rcases hM with ⟨hm, rfl⟩ | ⟨hm, rfl⟩
    all_goals
      go_enter Tryd.func13, Tryd.ntmps13
      go_wp2_with fail
      refine HU.out.mono ?_
      rintro en w1 ⟨rfl, hd1, ho1⟩
      have HT1 := hide (HT.out w1 hd1)
      have HO1 := hide ho1
      clear hd1 ho1
      go_wp2_with fail
      refine HT1.out.mono ?_
      rintro en w2 ⟨⟨v2, rfl, hv2⟩, hd2, ho2⟩
      have hcv := conv_rg hv2
      obtain ⟨⟨u2, hb2, hg2⟩, _⟩ := hd2
      have HO2 := hide (HO1.out.trans ho2)
      have HB2 := hide hb2
      have HG2 := hide hg2
      have d1 : w2.cell? ⟨r, 1, none⟩ = some (errV e2) := hb2.cell 1
      have d0 : w2.cell? ⟨r, 0, none⟩ = some u2 := hb2.cell 0
      have f0 := hb2.free 0
      obtain ⟨a2, cap2, rfl, _, _⟩ := hv2
      have hcv' : (convert 29 9 (.slice a2 0 cap2)).run Tryd.prog w2 = .ok (.string ⟨#[]⟩) w2 := hcv
      clear hcv
      have HD := hide (Rd.setRest (v' := .slice a l.length cap) (l' := l) HB2.out (HRG.out.keep HO2.out.size (fun _ h => HO2.out.block g h hne)) hne)
      rw [errV_pos k1] at d1
      clear hb2 hg2 ho2 HT1 HO1
      go_wp2_with fail
      go_ret
      exact ⟨rfl, HD.out, HO2.out.trans (Only.set _ _ _ _)⟩
theorem readText_any (most : Int) (t r g : Nat) (l : List UInt8) (e : Int) (w : World) (m2 : most ≤ 9223372036854775807) (hd : Rd w t r g l e) (he : 0 ≤ e) (h24 : e ≤ 24) (hl : l.length ≤ 140737488355328) :
    Calls Tryd.prog 13 #[.pointer (some ⟨r, 0, none⟩), .int .i64 most] w fun en w' => en = .returned (.string ⟨(rdX most l e).1.toArray⟩) ∧ Rd w' t r g (rdX most l e).2.1 (rdX most l e).2.2 ∧ Only r w w' := by
  unfold rdX
  refine readText_of most (mostOf most) t r g l e w ?_ m2 hd he h24 hl
  unfold mostOf
  by_cases h : most < 0
  · exact .inl ⟨h, if_pos h⟩
  · exact .inr ⟨by omega, if_neg h⟩
end Go.Proofs.YthalmfbcdkihgaaDoor
