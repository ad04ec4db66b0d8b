/-
  My own text: the calls of Easter: the program's and the document's.
-/
import Derived.Test.YtiajkglpmpemaabDoorD7
namespace Go.Proofs.YtiajkglpmpemaabDoor
open Go.RowKit

def eaV (y : Int) : Int := if yearB y then easterI y else 0
def eaE (y : Int) : Int := if yearB y then 0 else 8
theorem ea_bad {y : Int} (h : yearB y = false) : eaV y = 0 ∧ eaE y = 8 := by unfold eaV eaE; rw [h]; exact ⟨rfl, rfl⟩
theorem ea_ok {y : Int} (h : yearB y = true) : eaV y = easterI y ∧ eaE y = 0 := by unfold eaV eaE; rw [h]; exact ⟨rfl, rfl⟩
theorem yearB_iff (n : Int) : yearB n = true ↔ 1 ≤ n ∧ n ≤ 9999 := by unfold yearB; rw [decide_eq_true_iff]
theorem Easter_any (y : Int) (w : World) (HM : Hid (MDays w)) :
    Calls Tryd.prog 21 #[.int .i64 y] w fun e w' => e = .returned (.tuple #[.int .i64 (eaV y), errV (eaE y)]) ∧ Below w.heap.size w w' := by
  have HI := hide (fun W : World => isYear_any y W)
  cases hd : yearB y
  · rw [hd] at HI
    rw [(ea_bad hd).1, (ea_bad hd).2]
    clear hd
    go_enter Tryd.func21, Tryd.ntmps21
    go_wp2_with (go_at_call 33; refine (HI.out _).mono ?_; rintro e w' ⟨rfl, rfl⟩)
    go_ret2
    exact ⟨rfl, Below.refl _ _⟩
  · rw [hd] at HI
    rw [(ea_ok hd).1, (ea_ok hd).2]
    obtain ⟨y1, y2⟩ := (yearB_iff y).1 hd
    clear hd
    have HC := hide (easter_any y w HM y1 y2)
    generalize easterI y = v at *
    go_enter Tryd.func21, Tryd.ntmps21
    go_wp2_with (first
      | (go_at_call 33; refine (HI.out _).mono ?_; rintro e w' ⟨rfl, rfl⟩)
      | (go_at_call 34; refine (HC.out).mono ?_; rintro e w1 ⟨rfl, hb1⟩))
    go_ret2
    exact ⟨rfl, hb1⟩
end Go.Proofs.YtiajkglpmpemaabDoor
