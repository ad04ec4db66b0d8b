/-
  My own text: parts of a year: the program's and the document's.
-/
import Derived.Test.YtdfeehimnfogmaaGreatDoorD12
namespace Go.Proofs.YtdfeehimnfogmaaGreatDoor
open Go.RowKit

def frE (a b s : Int) : Int := if dayB a = false ∨ dayB b = false then 8 else if s < 0 ∨ 3 < s ∨ b < a then 1 else 0
def frA (a b s : Int) : Int := if frE a b s = 0 then (if s = 0 ∨ s = 1 then b - a else th (yearI a) (monthI a) (dayI a) (yearI b) (monthI b) (dayI b) (s == 3)) else 0
def frW (a b s : Int) : Int := if frE a b s = 0 then (if s = 1 then 365 else 360) else 0
theorem frE_b (a b s : Int) : 0 ≤ frE a b s ∧ frE a b s ≤ 24 := by unfold frE; split <;> (try split) <;> omega
theorem fr_date {a b s : Int} (h : dayB a = false ∨ dayB b = false) : frA a b s = 0 ∧ frW a b s = 0 ∧ frE a b s = 8 := by
  have e : frE a b s = 8 := if_pos h
  unfold frA frW; rw [e]; exact ⟨rfl, rfl, rfl⟩
theorem fr_arg {a b s : Int} (ha : dayB a = true) (hb : dayB b = true) (h : s < 0 ∨ 3 < s ∨ b < a) : frA a b s = 0 ∧ frW a b s = 0 ∧ frE a b s = 1 := by
  have e : frE a b s = 1 := by unfold frE; rw [if_neg (by rw [ha, hb]; simp), if_pos h]
  unfold frA frW; rw [e]; exact ⟨rfl, rfl, rfl⟩
theorem fr_ok {a b s : Int} (ha : dayB a = true) (hb : dayB b = true) (h : ¬ (s < 0 ∨ 3 < s ∨ b < a)) :
    frA a b s = (if s = 0 ∨ s = 1 then b - a else th (yearI a) (monthI a) (dayI a) (yearI b) (monthI b) (dayI b) (s == 3)) ∧ frW a b s = (if s = 1 then 365 else 360) ∧ frE a b s = 0 := by
  have e : frE a b s = 0 := by unfold frE; rw [if_neg (by rw [ha, hb]; simp), if_neg h]
  unfold frA frW; rw [e]; exact ⟨rfl, rfl, rfl⟩
theorem bases {s : Int} (h0 : 0 ≤ s) (h3 : s ≤ 3) : s = 0 ∨ s = 1 ∨ s = 2 ∨ s = 3 := by omega

set_option maxRecDepth 100000 in
set_option maxHeartbeats 4000000 in
theorem Fraction_any (a b s : Int) (w : World) (HM : Hid (MDays w)) :
    Calls Tryz.prog 17 #[.int .i64 a, .int .i64 b, .int .i64 s] w fun e w' => e = .returned (.tuple #[.int .i64 (frA a b s), .int .i64 (frW a b s), errV (frE a b s)]) ∧ Below w.heap.size w w' := by
  have HA := hide (fun W : World => isDay_any a W)
  have HB := hide (fun W : World => isDay_any b W)
  cases ha : dayB a
  · rw [(fr_date (b := b) (s := s) (.inl ha)).1, (fr_date (b := b) (s := s) (.inl ha)).2.1, (fr_date (b := b) (s := s) (.inl ha)).2.2]
    rw [ha] at HA
    clear ha
    go_enter Tryz.func17, Tryz.ntmps17
    go_wp2_with (first
      | (go_at_call 32; refine (HA.out _).mono ?_; rintro e w' ⟨rfl, hw'⟩; have hw' := hw'.symm; subst hw'))
    go_ret3
    exact ⟨rfl, Below.refl _ _⟩
  cases hb : dayB b
  · rw [(fr_date (a := a) (s := s) (.inr hb)).1, (fr_date (a := a) (s := s) (.inr hb)).2.1, (fr_date (a := a) (s := s) (.inr hb)).2.2]
    rw [ha] at HA
    rw [hb] at HB
    clear ha hb
    go_enter Tryz.func17, Tryz.ntmps17
    go_wp2_with fail
    refine (HA.out _).mono ?_
    rintro e w' ⟨rfl, hw'⟩
    have hw' := hw'.symm
    subst hw'
    go_wp2_with fail
    refine (HB.out _).mono ?_
    rintro e w' ⟨rfl, hw'⟩
    have hw' := hw'.symm
    subst hw'
    go_wp2_with fail
    go_ret3
    exact ⟨rfl, Below.refl _ _⟩
  have HE := hide (fun h => fr_arg (s := s) ha hb h)
  have HO := hide (fun h => fr_ok (s := s) ha hb h)
  rw [ha] at HA
  rw [hb] at HB
  obtain ⟨a1, a2⟩ := (dayB_iff a).1 ha
  obtain ⟨b1, b2⟩ := (dayB_iff b).1 hb
  clear ha hb
  by_cases hc : s < 0
  · have h := HE.out (.inl hc)
    rw [h.1, h.2.1, h.2.2]
    clear h HE HO
    have hcd : decide (s < 0) = true := decide_eq_true hc
    go_enter Tryz.func17, Tryz.ntmps17
    go_wp2_with fail
    refine (HA.out _).mono ?_
    rintro e w' ⟨rfl, hw'⟩
    have hw' := hw'.symm
    subst hw'
    go_wp2_with fail
    refine (HB.out _).mono ?_
    rintro e w' ⟨rfl, hw'⟩
    have hw' := hw'.symm
    subst hw'
    go_wp2_with fail
    go_ret3
    exact ⟨rfl, Below.refl _ _⟩
  have hs0 := hc
  clear hc
  by_cases hc : 3 < s
  · have h := HE.out (.inr (.inl hc))
    rw [h.1, h.2.1, h.2.2]
    clear h HE HO
    have hcd : decide (3 < s) = true := decide_eq_true hc
    go_enter Tryz.func17, Tryz.ntmps17
    go_wp2_with fail
    refine (HA.out _).mono ?_
    rintro e w' ⟨rfl, hw'⟩
    have hw' := hw'.symm
    subst hw'
    go_wp2_with fail
    refine (HB.out _).mono ?_
    rintro e w' ⟨rfl, hw'⟩
    have hw' := hw'.symm
    subst hw'
    go_wp2_with fail
    go_ret3
    exact ⟨rfl, Below.refl _ _⟩
  have h3s := hc
  clear hc
  by_cases hc : b < a
  · have h := HE.out (.inr (.inr hc))
    rw [h.1, h.2.1, h.2.2]
    clear h HE HO
    have hcd : decide (b < a) = true := decide_eq_true hc
    go_enter Tryz.func17, Tryz.ntmps17
    go_wp2_with fail
    refine (HA.out _).mono ?_
    rintro e w' ⟨rfl, hw'⟩
    have hw' := hw'.symm
    subst hw'
    go_wp2_with fail
    refine (HB.out _).mono ?_
    rintro e w' ⟨rfl, hw'⟩
    have hw' := hw'.symm
    subst hw'
    go_wp2_with fail
    go_ret3
    exact ⟨rfl, Below.refl _ _⟩
  have hba := hc
  clear hc
  obtain ⟨hA, hW, hE0⟩ := HO.out (by omega)
  rw [hA, hW, hE0]
  clear hA hW hE0 HO HE
  have hdc : decide (b < a) = false := decide_eq_false hba
  have HDA := hide (fun (W : World) (h : MDays W) => dateOf_any a W (hide h) a1 a2)
  have HDB := hide (fun (W : World) (h : MDays W) => dateOf_any b W (hide h) b1 b2)
  have qa := yearI_b a1 a2
  have qb := yearI_b b1 b2
  have ra := monthI_b a1
  have rb := monthI_b b1
  have sa := dayI_b a1
  have sb := dayI_b b1
  have HT := hide (fun (W : World) (eu : Bool) => thirties_any (yearI a) (monthI a) (dayI a) (yearI b) (monthI b) (dayI b) eu W qa.1 qa.2 ra.1 ra.2 sa.1 sa.2 qb.1 qb.2 rb.1 rb.2 sb.1 sb.2)
  unfold dateV at HDA HDB HT
  clear qa qb ra rb sa sb
  generalize yearI a = ya at *
  generalize monthI a = ma at *
  generalize dayI a = da at *
  generalize yearI b = yb at *
  generalize monthI b = mb at *
  generalize dayI b = db at *
  rcases bases (s := s) (by omega) (by omega) with rfl | rfl | rfl | rfl
  · rw [if_pos (by omega), if_neg (by omega)]
    go_enter Tryz.func17, Tryz.ntmps17
    go_wp2_with fail
    refine (HA.out _).mono ?_
    rintro e w' ⟨rfl, hw'⟩
    have hw' := hw'.symm
    subst hw'
    go_wp2_with fail
    refine (HB.out _).mono ?_
    rintro e w' ⟨rfl, hw'⟩
    have hw' := hw'.symm
    subst hw'
    go_wp2_with fail
    go_ret3
    exact ⟨rfl, Below.refl _ _⟩
  · rw [if_pos (by omega), if_pos (by omega)]
    go_enter Tryz.func17, Tryz.ntmps17
    go_wp2_with fail
    refine (HA.out _).mono ?_
    rintro e w' ⟨rfl, hw'⟩
    have hw' := hw'.symm
    subst hw'
    go_wp2_with fail
    refine (HB.out _).mono ?_
    rintro e w' ⟨rfl, hw'⟩
    have hw' := hw'.symm
    subst hw'
    go_wp2_with fail
    go_ret3
    exact ⟨rfl, Below.refl _ _⟩
  · rw [if_neg (by omega), if_neg (by omega), show (((2 : Int)) == 3) = false from rfl]
    have HTV := hide (fun W : World => HT.out W false)
    obtain ⟨v, HV⟩ : ∃ v, Hid (th ya ma da yb mb db false = v) := ⟨_, hide rfl⟩
    rw [HV.out] at HTV ⊢
    go_enter Tryz.func17, Tryz.ntmps17
    go_wp2_with fail
    refine (HA.out _).mono ?_
    rintro e w' ⟨rfl, hw'⟩
    have hw' := hw'.symm
    subst hw'
    go_wp2_with fail
    refine (HB.out _).mono ?_
    rintro e w' ⟨rfl, hw'⟩
    have hw' := hw'.symm
    subst hw'
    go_wp2_with fail
    refine (HDA.out _ HM.out).mono ?_
    rintro e w1 ⟨rfl, hb1⟩
    go_wp2_with fail
    refine (HDB.out _ (HM.out.below hb1)).mono ?_
    rintro e w2 ⟨rfl, hb2⟩
    have hB2 := hb1.trans (hb2.mono hb1.size)
    go_wp2_with fail
    refine (HTV.out _).mono ?_
    rintro e w3 ⟨rfl, hb3⟩
    go_wp2_with fail
    go_ret3
    exact ⟨rfl, hB2.trans (hb3.mono hB2.size)⟩
  · rw [if_neg (by omega), if_neg (by omega), show (((3 : Int)) == 3) = true from rfl]
    have HTV := hide (fun W : World => HT.out W true)
    obtain ⟨v, HV⟩ : ∃ v, Hid (th ya ma da yb mb db true = v) := ⟨_, hide rfl⟩
    rw [HV.out] at HTV ⊢
    go_enter Tryz.func17, Tryz.ntmps17
    go_wp2_with fail
    refine (HA.out _).mono ?_
    rintro e w' ⟨rfl, hw'⟩
    have hw' := hw'.symm
    subst hw'
    go_wp2_with fail
    refine (HB.out _).mono ?_
    rintro e w' ⟨rfl, hw'⟩
    have hw' := hw'.symm
    subst hw'
    go_wp2_with fail
    refine (HDA.out _ HM.out).mono ?_
    rintro e w1 ⟨rfl, hb1⟩
    go_wp2_with fail
    refine (HDB.out _ (HM.out.below hb1)).mono ?_
    rintro e w2 ⟨rfl, hb2⟩
    have hB2 := hb1.trans (hb2.mono hb1.size)
    go_wp2_with fail
    refine (HTV.out _).mono ?_
    rintro e w3 ⟨rfl, hb3⟩
    go_wp2_with fail
    go_ret3
    exact ⟨rfl, hB2.trans (hb3.mono hB2.size)⟩
end Go.Proofs.YtdfeehimnfogmaaGreatDoor
