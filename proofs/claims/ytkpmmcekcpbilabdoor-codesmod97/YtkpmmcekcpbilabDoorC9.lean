/-
  My own text: heads, and what stands behind them: plain facts.
-/
import Derived.Test.YtkpmmcekcpbilabDoorC8a
import Derived.Test.YtkpmmcekcpbilabDoorWorks
namespace Go.Proofs.YtkpmmcekcpbilabDoor
open Go.RowKit

theorem getD_left {l p : List UInt8} {j : Nat} (h : j < l.length) : (l ++ p).getD j 0 = l.getD j 0 := by
  rw [List.getD_eq_getElem?_getD, List.getElem?_append_left h, ← List.getD_eq_getElem?_getD]
theorem getD_right {l p : List UInt8} (j : Nat) : (l ++ p).getD (l.length + j) 0 = p.getD j 0 := by
  rw [List.getD_eq_getElem?_getD, List.getElem?_append_right (by omega), Nat.add_sub_cancel_left, ← List.getD_eq_getElem?_getD]
theorem form_app {l p f g : List UInt8} (hp : p.length = g.length) : Form (l ++ p) (f ++ g) ↔ Form l f ∧ Form p g := by
  constructor
  · rintro ⟨h1, h2⟩
    have hl : l.length = f.length := by rw [List.length_append, List.length_append] at h1; omega
    refine ⟨⟨hl, fun j hj => ?_⟩, ⟨hp, fun j hj => ?_⟩⟩
    · have h := h2 j (by rw [List.length_append]; omega)
      rw [getD_left hj, getD_left (by omega)] at h; exact h
    · have h := h2 (l.length + j) (by rw [List.length_append]; omega)
      rw [getD_right, hl, getD_right] at h; exact h
  · rintro ⟨⟨h1, h2⟩, ⟨h3, h4⟩⟩
    refine ⟨by rw [List.length_append, List.length_append]; omega, fun j hj => ?_⟩
    by_cases h : j < l.length
    · rw [getD_left h, getD_left (by omega)]; exact h2 j h
    · obtain ⟨i, rfl⟩ : ∃ i, j = l.length + i := ⟨j - l.length, by omega⟩
      rw [getD_right, h1, getD_right]
      exact h4 i (by rw [List.length_append] at hj; omega)
theorem form_d1 {x : UInt8} : Form [x] [68] ↔ isDg x = true := by
  constructor
  · intro h; exact h.2 0 (by simp)
  · intro h; exact ⟨rfl, fun j hj => by
      have : j = 0 := by simp at hj; omega
      subst this; exact h⟩
theorem form_d2 {x y : UInt8} : Form [x, y] [68, 68] ↔ isDg x = true ∧ isDg y = true := by
  constructor
  · intro h; exact ⟨h.2 0 (by simp), h.2 1 (by simp)⟩
  · rintro ⟨h1, h2⟩; exact ⟨rfl, fun j hj => by
      have : j = 0 ∨ j = 1 := by simp at hj; omega
      rcases this with rfl | rfl
      · exact h1
      · exact h2⟩
theorem isinF_app : isinF = isinH ++ [68] := rfl
theorem leiF_app : leiF = leiH ++ [68, 68] := rfl
theorem isin_head {l : List UInt8} {x : UInt8} (h : isDg x = true) : Form (l ++ [x]) isinF ↔ Form l isinH := by
  rw [isinF_app, form_app (p := [x]) (g := [68]) rfl, form_d1]; exact ⟨fun h => h.1, fun h2 => ⟨h2, h⟩⟩
theorem lei_head {l : List UInt8} {x y : UInt8} (h : isDg x = true) (h' : isDg y = true) : Form (l ++ [x, y]) leiF ↔ Form l leiH := by
  rw [leiF_app, form_app (p := [x, y]) (g := [68, 68]) rfl, form_d2]; exact ⟨fun h => h.1, fun h2 => ⟨h2, h, h'⟩⟩
theorem isin_take {l : List UInt8} {k : Nat} (hk : k ≤ 9) (hf : Form l isinH) : (isinR (l ++ [UInt8.ofNat (48 + k)])).1 = 0 ↔ (k : Int) = chk (spr l) := by
  obtain ⟨hd, hs⟩ := dg_of hk
  have hF := (isin_head hd).2 hf
  have hspr : spr (l ++ [UInt8.ofNat (48 + k)]) = spr l ++ [(k : Int)] := by rw [spr_app]; congr 1; rw [← hs]; simp [spr]
  have hi := chk_iff (spr l) (k := (k : Int)) (by omega) (by omega)
  by_cases h : lsum (spr (l ++ [UInt8.ofNat (48 + k)])) % 10 = 0
  · rw [isinR_ok hF h]
    rw [hspr] at h
    exact ⟨fun _ => hi.1 h, fun _ => rfl⟩
  · rw [isinR_sum hF h]
    rw [hspr] at h
    exact ⟨fun e => absurd e (by decide), fun e => absurd (hi.2 e) h⟩
theorem isin_none {l : List UInt8} {x : UInt8} (h : isDg x = true) (hf : ¬ Form l isinH) : (isinR (l ++ [x])).1 ≠ 0 := by
  have hF : ¬ Form (l ++ [x]) isinF := fun h2 => hf ((isin_head h).1 h2)
  rw [isinR_bad hF]; exact form_ne hF
theorem lei_take {l : List UInt8} {x y : UInt8} (hx : isDg x = true) (hy : isDg y = true) (hf : Form l leiH) : (leiR (l ++ [x, y])).1 = 0 ↔ [x, y] = two (spr l) := by
  have hF := (lei_head hx hy).2 hf
  have hl : l.length = 18 := hf.1
  have ht : (l ++ [x, y]).take 18 = l := by rw [← hl, List.take_left]
  have hd : (l ++ [x, y]).drop 18 = [x, y] := by rw [← hl, List.drop_left]
  by_cases h : [x, y] = two (spr l)
  · rw [leiR_ok hF (by rw [ht, hd]; exact h)]; exact ⟨fun _ => h, fun _ => rfl⟩
  · rw [leiR_sum hF (by rw [ht, hd]; exact h)]; exact ⟨fun e => absurd e (by decide), fun e => absurd e h⟩
theorem lei_none {l : List UInt8} {x y : UInt8} (hx : isDg x = true) (hy : isDg y = true) (hf : ¬ Form l leiH) : (leiR (l ++ [x, y])).1 ≠ 0 := by
  have hF : ¬ Form (l ++ [x, y]) leiF := fun h2 => hf ((lei_head hx hy).1 h2)
  rw [leiR_bad hF]; exact form_ne hF
theorem errF_zero {r : Int × Int} (h : r.1 = 0) : errF r = .nilIface := by unfold errF; rw [if_pos h]
end Go.Proofs.YtkpmmcekcpbilabDoor
