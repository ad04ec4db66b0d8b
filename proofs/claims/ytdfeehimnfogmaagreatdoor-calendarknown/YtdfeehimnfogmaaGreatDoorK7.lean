/-
  My own text: the chapter's examples of calendars: plain values.
-/
import Derived.Test.YtdfeehimnfogmaaGreatDoorK6
namespace Go.Proofs.YtdfeehimnfogmaaGreatDoor
open Go.RowKit

theorem lawDay_any (y m d v : Int) (w : World) (hL : Lies w) (hv : numV y m d = v) :
    Calls Tryz.prog 11 #[.int .i64 y, .int .i64 m, .int .i64 d] w fun e w' => e = .returned (.int .i64 v) ∧ Below w.heap.size w w' := by
  have HN := hide (Number_any y m d w (hide hL.m))
  rw [hv] at HN
  unfold dateV at HN
  clear hv hL
  go_enter Tryz.func11, Tryz.ntmps11
  go_wp2_with fail
  refine HN.out.mono ?_
  rintro e w1 ⟨rfl, hb1⟩
  go_wp2_with fail
  go_ret
  exact ⟨rfl, hb1⟩
def F24 : Int → Bool := tF 2024 2024
def g24 : Int → Bool := bizB tw F24
theorem F24_we : ∀ x, F24 x = true → weB tw x = false := by
  intro x hx
  have h : ((tlist 2024 (2024 - 2024 + 1 : Int).toNat).contains x && (dayB x && !weB tw x)) = true := hx
  cases hw : weB tw x
  · rfl
  · rw [hw] at h; simp at h
theorem add24R : AddR g24 738973 1 738978 0 := .inr (.inl ⟨by omega, .inl ⟨rfl, by omega, by omega, by decide, by decide⟩⟩)
theorem adj24U : AddR g24 738976 1 738978 0 := .inr (.inl ⟨by omega, .inl ⟨rfl, by omega, by omega, by decide, by decide⟩⟩)
theorem adj24D : AddR g24 738976 (-1) 738973 0 := .inr (.inr ⟨by omega, .inl ⟨rfl, by omega, by omega, by decide, by decide⟩⟩)
theorem addIs24 (p b : Nat) (w : World) (HC : Hid (Cal w p b tw F24)) :
    Calls Tryz.prog 19 #[.pointer (some ⟨p, 0, none⟩), .int .i64 738973, .int .i64 1] w fun e w' => e = .returned (.tuple #[.int .i64 738978, .nilIface]) ∧ Below w.heap.size w w' := by
  refine (Add_any p b tw F24 738973 1 w HC (hide F24_we) (by omega) (by omega)).mono ?_
  rintro e w' ⟨⟨v, x, rfl, h⟩, hb⟩
  rcases h with ⟨h0, _⟩ | ⟨_, h⟩
  · exact absurd h0 (by decide)
  · obtain ⟨rfl, rfl⟩ := AddR.unique (by omega) (by omega) h add24R
    exact ⟨rfl, hb⟩
theorem adjust24 (p b : Nat) (w : World) (hL : Lies w) (HC : Hid (Cal w p b tw F24)) :
    Calls Tryz.prog 20 #[.pointer (some ⟨p, 0, none⟩), .int .i64 738976, .int .i64 1] w fun e w' => e = .returned (.tuple #[.int .i64 738973, .nilIface]) ∧ Below w.heap.size w w' := by
  refine (Adjust_any p b tw F24 738976 1 w (hide hL.m) HC (hide F24_we)).mono ?_
  rintro e w' ⟨⟨v, x, rfl, h⟩, hb⟩
  rcases h with ⟨h0, _⟩ | ⟨_, h0, _⟩ | ⟨_, _, _, ⟨h0, _⟩ | ⟨_, v1, e1, h1, h2⟩⟩
  · exact absurd h0 (by decide)
  · omega
  · exact absurd h0 (by decide)
  · obtain ⟨rfl, rfl⟩ := AddR.unique (by omega) (by omega) (show AddR g24 738976 1 v1 e1 from h1) adj24U
    rcases h2 with ⟨_, _, h3⟩ | ⟨h3, _⟩
    · obtain ⟨rfl, rfl⟩ := AddR.unique (by omega) (by omega) (show AddR g24 738976 (-1) v x from h3) adj24D
      exact ⟨rfl, hb⟩
    · exact absurd ⟨Or.inl rfl, Or.inr (by decide)⟩ h3
theorem count24 (p b : Nat) (w : World) (HC : Hid (Cal w p b tw F24)) :
    Calls Tryz.prog 21 #[.pointer (some ⟨p, 0, none⟩), .int .i64 738970, .int .i64 738984] w fun e w' => e = .returned (.tuple #[.int .i64 8, .nilIface]) ∧ Below w.heap.size w w' := by
  have h := Count_any p b tw F24 738970 738984 w HC (hide F24_we)
  rw [show coV (bizB tw F24) 738970 738984 = 8 from by decide, show errV (coE 738970 738984) = .nilIface from rfl] at h
  exact h
theorem business24 (p b : Nat) (w : World) (HC : Hid (Cal w p b tw F24)) :
    Calls Tryz.prog 22 #[.pointer (some ⟨p, 0, none⟩), .int .i64 738978] w fun e w' => e = .returned (.bool true) ∧ Below w.heap.size w w' := by
  have h := Business_any p b tw F24 738978 w HC
  rw [show busB tw F24 738978 = true from by decide] at h
  exact h
theorem business24n (p b : Nat) (w : World) (HC : Hid (Cal w p b tw F24)) :
    Calls Tryz.prog 22 #[.pointer (some ⟨p, 0, none⟩), .int .i64 738977] w fun e w' => e = .returned (.bool false) ∧ Below w.heap.size w w' := by
  have h := Business_any p b tw F24 738977 w HC
  rw [show busB tw F24 738977 = false from by decide] at h
  exact h
theorem of21 (w : World) (hL : Lies w) : Calls Tryz.prog 12 #[.int .i64 738521] w fun e w' => e = .returned (.tuple #[.agg #[.int .i64 2023, .int .i64 1, .int .i64 1], .nilIface]) ∧ Below w.heap.size w w' := by
  have h := Of_any 738521 w (hide hL.m)
  have hd : dayB 738521 = true := by decide
  rw [(of_ok hd).1, (of_ok hd).2, show yearI 738521 = 2023 from by decide, show monthI 738521 = 1 from by decide, show dayI 738521 = 1 from by decide] at h
  exact h
theorem weekday21 (w : World) : Calls Tryz.prog 13 #[.int .i64 738521] w fun e w' => e = .returned (.tuple #[.int .i64 6, .nilIface]) ∧ w' = w := by
  have h := Weekday_any 738521 w
  rw [show wdV 738521 = 6 from by decide, show errV (ofE 738521) = .nilIface from rfl] at h
  exact h
theorem week21 (w : World) (hL : Lies w) : Calls Tryz.prog 14 #[.int .i64 737793] w fun e w' => e = .returned (.tuple #[.int .i64 2020, .int .i64 53, .nilIface]) ∧ Below w.heap.size w w' := by
  have h := Week_any 737793 w (hide hL.m)
  rw [show wyV 737793 = 2020 from by decide, show wkV 737793 = 53 from by decide, show errV (ofE 737793) = .nilIface from rfl] at h
  exact h
theorem easter24 (w : World) (hL : Lies w) : Calls Tryz.prog 15 #[.int .i64 2024] w fun e w' => e = .returned (.tuple #[.int .i64 738976, .nilIface]) ∧ Below w.heap.size w w' := by
  have h := Easter_any 2024 w (hide hL.m)
  rw [show eaV 2024 = 738976 from by decide, show errV (eaE 2024) = .nilIface from rfl] at h
  exact h
theorem months24 (w : World) (hL : Lies w) : Calls Tryz.prog 16 #[.int .i64 738916, .int .i64 1] w fun e w' => e = .returned (.tuple #[.int .i64 738945, .nilIface]) ∧ Below w.heap.size w w' := by
  have h := Months_any 738916 1 w (hide hL.m)
  rw [show moV 738916 1 = 738945 from by decide, show errV (moE 738916 1) = .nilIface from rfl] at h
  exact h
theorem fraction24 (w : World) (hL : Lies w) : Calls Tryz.prog 17 #[.int .i64 738900, .int .i64 738976, .int .i64 2] w fun e w' => e = .returned (.tuple #[.int .i64 76, .int .i64 360, .nilIface]) ∧ Below w.heap.size w w' := by
  have h := Fraction_any 738900 738976 2 w (hide hL.m)
  rw [show frA 738900 738976 2 = 76 from by decide, show frW 738900 738976 2 = 360 from by decide, show errV (frE 738900 738976 2) = .nilIface from rfl] at h
  exact h
theorem target24 (w : World) (hL : Lies w) : Calls Tryz.prog 18 #[.int .i64 2024, .int .i64 2024] w fun e w' => (∃ p b, e = .returned (.tuple #[.pointer (some ⟨p, 0, none⟩), .nilIface]) ∧ Cal w' p b tw F24) ∧ Below w.heap.size w w' := by
  refine (Target_any 2024 2024 w (hide hL.m)).mono ?_
  rintro e w' ⟨⟨h0, _⟩ | ⟨_, p, b, he, hc⟩, hb⟩
  · exact absurd (show taE 2024 2024 = 0 by decide) h0
  · exact ⟨⟨p, b, he, hc⟩, hb⟩
end Go.Proofs.YtdfeehimnfogmaaGreatDoor
