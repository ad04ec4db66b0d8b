/-
  My own text: check digits of numbers of securities: the program's and the document's.
-/
import Derived.Test.YtbpdjjihimplaaaDoorC3
namespace Go.Proofs.YtbpdjjihimplaaaDoor.LC
open Go.RowKit

/-- The check digit's byte, 0 beside an error. -/
def digV (l : List UInt8) : Int := if (formR l isinH).1 = 0 then 48 + chk (spr l) else 0
theorem digV_bad {l : List UInt8} (h : ¬ Form l isinH) : digV l = 0 := by unfold digV; rw [if_neg (form_ne h)]
theorem digV_ok {l : List UInt8} (h : Form l isinH) : digV l = 48 + chk (spr l) := by unfold digV; rw [form_eq h]; rfl
theorem ret_bv {a c : Int} {b d : Value} (h : a = c) (h2 : b = d) : Ending.returned (.tuple #[.int .u8 a, b]) = .returned (.tuple #[.int .u8 c, d]) := by rw [h, h2]

theorem isin_any (l : List UInt8) (w : World) (hl : l.length ≤ 140737488355328) :
    Calls Tryd.prog 43 #[.string ⟨l.toArray⟩] w fun e w' => e = .returned (.tuple #[arr (if (isinR l).1 = 0 then l else zer 12), errF (isinR l)]) ∧ Below w.heap.size w w' := by
  by_cases h : Form l isinF
  · by_cases hs : lsum (spr l) % 10 = 0
    · rw [if_pos (by rw [isinR_ok h hs])]; exact isin_ok l w h hs
    · rw [if_neg (by rw [isinR_sum h hs]; decide)]; exact isin_sum l w h hs
  · rw [if_neg (by rw [isinR_bad h]; exact form_ne h)]; exact isin_bad l w hl h
set_option maxHeartbeats 1000000 in
theorem refIsin_any (l : List UInt8) (w : World) (hl : l.length ≤ 140737488355328) :
    Calls Tryd.prog 31 #[.string ⟨l.toArray⟩] w fun e w' => e = .returned (.tuple #[.int .i64 (isinR l).1, .int .i64 (isinR l).2]) ∧ Below w.heap.size w w' := by
  have HC := hide (has_any l isinF w hl)
  by_cases h : Form l isinF
  · rw [form_eq h] at HC
    have hlen : l.length = 12 := h.1
    have HSG := hide (form_signs h)
    have HSL := hide (spr_len l)
    have HLEN := hide hlen
    have HRS := hide (fun hs => isinR_sum h hs)
    have HRO := hide (fun hs => isinR_ok h hs)
    clear h hlen
    obtain ⟨S, HS⟩ : ∃ S, Hid (lsum (spr l) = S) := ⟨_, hide rfl⟩
    have HSB := hide (lsum_b (spr_dig HSG.out))
    rw [HS.out] at HSB HRS HRO
    cases hq : (S % 10 != 0)
    · have HR := hide (HRO.out (by simpa using hq))
      go_enter Tryd.func31, Tryd.ntmps31
      go_wp2_with fail
      refine HC.out.mono ?_
      rintro e w1 ⟨rfl, hb1⟩
      go_wp2_with fail
      refine (refSpread_any l _ HSG.out (by have := HLEN.out; omega)).mono ?_
      rintro e w2 ⟨v, rfl, hown, hb2⟩
      have hri := hide (ri_of_owns hown)
      have hB2 := hide (hb1.trans (hb2.mono hb1.size))
      clear hown hb1 hb2
      go_wp2_with fail
      refine (refLuhn_any v (spr l) _ hri.out (spr_dig HSG.out) (by have := HSL.out; have := HLEN.out; omega)).mono ?_
      rintro e w3 ⟨rfl, rfl⟩
      rw [HS.out]
      have hS0 : 0 ≤ S := HSB.out.1
      go_wp2_with fail
      go_ret2
      exact ⟨ret_ii HR.out.symm, hB2.out⟩
    · have HR := hide (HRS.out (by simpa using hq))
      go_enter Tryd.func31, Tryd.ntmps31
      go_wp2_with fail
      refine HC.out.mono ?_
      rintro e w1 ⟨rfl, hb1⟩
      go_wp2_with fail
      refine (refSpread_any l _ HSG.out (by have := HLEN.out; omega)).mono ?_
      rintro e w2 ⟨v, rfl, hown, hb2⟩
      have hri := hide (ri_of_owns hown)
      have hB2 := hide (hb1.trans (hb2.mono hb1.size))
      clear hown hb1 hb2
      go_wp2_with fail
      refine (refLuhn_any v (spr l) _ hri.out (spr_dig HSG.out) (by have := HSL.out; have := HLEN.out; omega)).mono ?_
      rintro e w3 ⟨rfl, rfl⟩
      rw [HS.out]
      have hS0 : 0 ≤ S := HSB.out.1
      go_wp2_with fail
      go_ret2
      exact ⟨ret_ii HR.out.symm, hB2.out⟩
  · have HR := hide (isinR_bad h)
    have HN := hide (form_ne h)
    obtain ⟨a, b, hab⟩ : ∃ a b, formR l isinF = (a, b) := ⟨_, _, rfl⟩
    rw [hab] at HC HR HN
    have hq : (a == 0) = false := by simpa using HN.out
    clear hab h HN
    go_enter Tryd.func31, Tryd.ntmps31
    go_wp2_with fail
    refine HC.out.mono ?_
    rintro e w1 ⟨rfl, hb1⟩
    go_wp2_with fail
    go_ret2
    exact ⟨ret_ii HR.out.symm, hb1⟩
theorem isinF_dg {l : List UInt8} {c : UInt8} (h : Form l isinH) (hc : isDg c = true) : Form (l ++ [c]) isinF := by
  have hl : l.length = 11 := h.1
  refine ⟨by rw [List.length_append, hl]; rfl, fun j hj => ?_⟩
  rw [List.length_append, hl] at hj
  by_cases e : j = 11
  · subst e
    rw [List.getD_eq_getElem?_getD, List.getElem?_append_right (by omega), hl]
    exact hc
  · have hj' : j < l.length := by simp at hj; omega
    have h2 := h.2 j hj'
    rw [List.getD_eq_getElem?_getD, List.getElem?_append_left hj', ← List.getD_eq_getElem?_getD]
    rw [show isinF.getD j 0 = isinH.getD j 0 by
      have : ∀ j, j < 11 → isinF.getD j 0 = isinH.getD j 0 := by decide
      exact this j (by omega)]
    exact h2
theorem sign_snoc {l : List UInt8} {c : UInt8} (h : ∀ x ∈ l, Sign x) (hc : isDg c = true) : ∀ x ∈ l ++ [c], Sign x := by
  intro x hx
  rcases List.mem_append.1 hx with h1 | h1
  · exact h x h1
  · simp at h1; subst h1; exact .inl hc
theorem dg_of {k : Nat} (h : k ≤ 9) : isDg (UInt8.ofNat (48 + k)) = true ∧ sprc (UInt8.ofNat (48 + k)) = [(k : Int)] := by
  have e : (UInt8.ofNat (48 + k)).toNat = 48 + k := by rw [UInt8.toNat_ofNat']; omega
  refine ⟨isDg_yes e (by omega) (by omega), ?_⟩
  rw [sprc_d e (by omega)]; congr 1; omega
theorem ret_bii {a : Int} {b c : Int} {a' b' c' : Int} (h : a = a') (h2 : b = b') (h3 : c = c') : Ending.returned (.tuple #[.int .u8 a, .int .i64 b, .int .i64 c]) = .returned (.tuple #[.int .u8 a', .int .i64 b', .int .i64 c']) := by rw [h, h2, h3]
end Go.Proofs.YtbpdjjihimplaaaDoor.LC
