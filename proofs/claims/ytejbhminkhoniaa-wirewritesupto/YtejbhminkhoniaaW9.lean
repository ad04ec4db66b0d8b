/-
  My own text: texts read and written; a number written and read.
-/
import Derived.Test.YtejbhminkhoniaaW8
namespace Go.Proofs.Ytejbhminkhoniaa
open Go.RowKit Go.Extern

theorem conv_rg {w : World} {g : Nat} {v : Value} {l : List UInt8} (h : RG w g v l) : (convert 28 9 v).run Try.prog w = .ok (.string ⟨l.toArray⟩) w := by
  obtain ⟨a, cap, rfl, _, hr⟩ := h
  rcases hr with rfl | ⟨off, rfl, _, hc⟩
  · cases a with
    | none => exact run_convert_bytes_nil w 28 5 Try.underlying28 Try.underlying5 _ _ 9 Try.underlying9
    | some ad => exact run_convert_bytes_back (P := Try.prog) w 28 9 5 ad cap [] Try.underlying28 Try.underlying5 Try.underlying9 (fun j hj => by simp at hj)
  · exact run_convert_bytes_back (P := Try.prog) w 28 9 5 ⟨g, off, none⟩ cap l Try.underlying28 Try.underlying5 Try.underlying9 (fun j hj => by
      have := hc j l[j] (List.getElem?_eq_getElem hj)
      have e1 : (⟨g, off, none⟩ : Addr).add j = ⟨g, off + j, none⟩ := by unfold Addr.add; split <;> simp_all
      rw [e1]; exact this)

/-- A text read. -/
def mostOf (most : Int) : Int := if most < 0 then 0 else most
def rdY (M : Int) (l : List UInt8) (e : Int) : List UInt8 × List UInt8 × Int :=
  if (rdT (rdU M l e).1 (rdU M l e).2.1 (rdU M l e).2.2).2.2 ≠ 0 then ([], l, (rdT (rdU M l e).1 (rdU M l e).2.1 (rdU M l e).2.2).2.2) else rdT (rdU M l e).1 (rdU M l e).2.1 (rdU M l e).2.2
def rdX (most : Int) (l : List UInt8) (e : Int) : List UInt8 × List UInt8 × Int := rdY (mostOf most) l e
theorem rdT_rng (size : Int) (l : List UInt8) (e : Int) (he : 0 ≤ e) (h24 : e ≤ 24) : 0 ≤ (rdT size l e).2.2 ∧ (rdT size l e).2.2 ≤ 24 ∧ ((rdT size l e).2.2 ≠ 0 → (rdT size l e).1 = []) ∧ (rdT size l e).2.1.length ≤ l.length := by
  unfold rdT
  split
  · exact ⟨he, h24, fun _ => rfl, Nat.le_refl _⟩
  · split
    · exact ⟨by show (0 : Int) ≤ 2; omega, by show (2 : Int) ≤ 24; omega, fun _ => rfl, Nat.le_refl _⟩
    · exact ⟨by show (0 : Int) ≤ 0; omega, by show (0 : Int) ≤ 24; omega, fun h => absurd rfl h, by show (l.drop _).length ≤ _; rw [List.length_drop]; omega⟩
theorem rdX_rng (most : Int) (l : List UInt8) (e : Int) (he : 0 ≤ e) (h24 : e ≤ 24) : 0 ≤ (rdX most l e).2.2 ∧ (rdX most l e).2.2 ≤ 24 ∧ (rdX most l e).2.1.length ≤ l.length := by
  unfold rdX rdY
  obtain ⟨_, _, u0, u24, ul⟩ := rdU_rng (mostOf most) l e he h24
  obtain ⟨k0, k24, _, kl⟩ := rdT_rng (rdU (mostOf most) l e).1 (rdU (mostOf most) l e).2.1 (rdU (mostOf most) l e).2.2 u0 u24
  split
  · exact ⟨k0, k24, Nat.le_refl _⟩
  · exact ⟨k0, k24, Nat.le_trans kl ul⟩

end Go.Proofs.Ytejbhminkhoniaa
