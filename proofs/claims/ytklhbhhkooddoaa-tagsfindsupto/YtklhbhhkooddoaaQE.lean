/-
  My own text: Parse, given what the reading of the items comes to.
-/
import Derived.Test.YtklhbhhkooddoaaQD
namespace Go.Proofs.Ytklhbhhkooddoaa
open Go.RowKit

theorem clone_any (T : List UInt8) (w : World) (hT : T.length ≤ 1048576) :
    Calls Try.prog 31 #[.string ⟨T.toArray⟩] w fun e w' => e = .returned (.string ⟨T.toArray⟩) ∧ Below w.heap.size w w' := by
  have HC := hide (Try.stringslite_Clone ⟨T.toArray⟩ w (by rw [bytes_size]; omega))
  go_enter Try.func31, Try.ntmps31
  go_wp2_with fail
  refine HC.out.mono ?_
  rintro e w1 ⟨rfl, hb1⟩
  go_wp2_with fail
  go_ret
  exact ⟨rfl, hb1⟩
theorem parse_big (T : List UInt8) (w : World) (hT : 1048576 < T.length) (hT2 : T.length ≤ 140737488355328) :
    Calls Try.prog 30 #[.string ⟨T.toArray⟩] w fun e w' => e = .returned (.tuple #[.slice none 0 0, errV 5]) ∧ Below w.heap.size w w' := by
  go_enter Try.func30, Try.ntmps30
  go_wp2_with fail
  go_ret2
  exact ⟨rfl, Below.refl _ _⟩
theorem parse_bad (T : List UInt8) (no n at_ : Int) (w : World) (hT : T.length ≤ 1048576) (hR : ReadsBad T no n at_) (hm : ML w) :
    Calls Try.prog 30 #[.string ⟨T.toArray⟩] w fun e w' => e = .returned (.tuple #[.slice none 0 0, fltV no n at_]) ∧ Below w.heap.size w w' := by
  have HC := hide (clone_any T w hT)
  have HR := hide (fun W h => read_bad T no n at_ W hR h)
  have HM := hide hm
  clear hR hm
  go_enter Try.func30, Try.ntmps30
  go_wp2_with fail
  refine HC.out.mono ?_
  rintro e w1 ⟨rfl, hb1⟩
  have B1 := hide hb1
  clear hb1
  go_wp2_with fail
  refine (HR.out w1 (HM.out.later B1.out)).mono ?_
  rintro e w2 ⟨rfl, hb2⟩
  have B2 := hide (B1.out.trans (hb2.mono B1.out.size))
  clear hb2
  go_wp2_with fail
  go_ret2
  exact ⟨rfl, B2.out⟩
theorem parse_okA (T : List UInt8) (l : List Tr) (w : World) (hT : T.length ≤ 1048576) (hR : ReadsOk T l) (hm : ML w) :
    Calls Try.prog 30 #[.string ⟨T.toArray⟩] w fun e w' => (∃ a cap, e = .returned (.tuple #[.slice a l.length cap, .nilIface]) ∧ PA w' (fun x => w.heap.size ≤ x ∧ x < w'.heap.size) (.slice a l.length cap) l) ∧ Below w.heap.size w w' := by
  have HC := hide (clone_any T w hT)
  have HR := hide (fun W h => read_ok T l W hR h)
  have HM := hide hm
  clear hR hm
  go_enter Try.func30, Try.ntmps30
  go_wp2_with fail
  refine HC.out.mono ?_
  rintro e w1 ⟨rfl, hb1⟩
  have B1 := hide hb1
  clear hb1
  go_wp2_with fail
  refine (HR.out w1 (HM.out.later B1.out)).mono ?_
  rintro e w2 ⟨⟨a, cap, rfl, hpt⟩, hb2⟩
  have HP : Hid (PA w2 (fun x => w.heap.size ≤ x ∧ x < w2.heap.size) (.slice a l.length cap) l) := hide (PA_kept (fun _ _ _ => rfl) (Nat.le_refl _) (fun x hx _ => ⟨by have := B1.out.size; omega, hx.2⟩) _ _ _ (Nat.le_refl _) hpt)
  have B2 := hide (B1.out.trans (hb2.mono B1.out.size))
  clear hb2 hpt
  go_wp2_with fail
  go_ret2
  exact ⟨⟨a, cap, rfl, HP.out⟩, B2.out⟩
theorem parse_ok (T : List UInt8) (l : List Tr) (w : World) (hT : T.length ≤ 1048576) (hR : ReadsOk T l) (hm : ML w) :
    Calls Try.prog 30 #[.string ⟨T.toArray⟩] w fun e w' => (∃ a cap, e = .returned (.tuple #[.slice a l.length cap, .nilIface]) ∧ PT w' (fun x => w.heap.size ≤ x ∧ x < w'.heap.size) (.slice a l.length cap) l) ∧ Below w.heap.size w w' :=
  (parse_okA T l w hT hR hm).mono (fun _ _ ⟨⟨a, cap, h1, h2⟩, h3⟩ => ⟨⟨a, cap, h1, h2.1⟩, h3⟩)
end Go.Proofs.Ytklhbhhkooddoaa
