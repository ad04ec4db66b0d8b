/-
  My own text: check digits of numbers of securities: the program's and the document's.
-/
import Derived.Test.YtkpmmcekcpbilaaDoorC3
namespace Go.Proofs.YtkpmmcekcpbilaaDoor
open Go.RowKit

/-- The check digit's byte, 0 beside an error. -/
def digV (l : List UInt8) : Int := if (formR l isinH).1 = 0 then 48 + chk (spr l) else 0
theorem digV_bad {l : List UInt8} (h : ¬ Form l isinH) : digV l = 0 := by unfold digV; rw [if_neg (form_ne h)]
theorem digV_ok {l : List UInt8} (h : Form l isinH) : digV l = 48 + chk (spr l) := by unfold digV; rw [form_eq h]; rfl
theorem ret_bv {a c : Int} {b d : Value} (h : a = c) (h2 : b = d) : Ending.returned (.tuple #[.int .u8 a, b]) = .returned (.tuple #[.int .u8 c, d]) := by rw [h, h2]

set_option maxHeartbeats 1000000 in
theorem isinDigit_any (l : List UInt8) (w : World) (hl : l.length ≤ 140737488355328) :
    Calls Tryd.prog 13 #[.string ⟨l.toArray⟩] w fun e w' => e = .returned (.tuple #[.int .u8 (digV l), errF (formR l isinH)]) ∧ Below w.heap.size w w' := by
  have HC := hide (check_any l isinH w hl)
  by_cases h : Form l isinH
  · rw [form_eq h, errF_ok] at HC ⊢
    have HV := hide (digV_ok h)
    have hlen : l.length = 11 := h.1
    have HSG := hide (form_signs h)
    have HSL := hide (spr_len l)
    have HLEN := hide hlen
    clear h hlen
    have HSB := hide (lsum_b (l := spr l ++ [0]) (fun d hd => by
      rcases List.mem_append.1 hd with h | h
      · exact spr_dig HSG.out d h
      · simp at h; subst h; omega))
    have HDG : Hid (∀ d ∈ spr l ++ [0], 0 ≤ d ∧ d ≤ 9) := hide (fun d hd => by
      rcases List.mem_append.1 hd with h | h
      · exact spr_dig HSG.out d h
      · simp at h; subst h; omega)
    obtain ⟨S, HS⟩ : ∃ S, Hid (lsum (spr l ++ [0]) = S) := ⟨_, hide rfl⟩
    rw [HS.out] at HSB
    obtain ⟨i0, hi, hz0, hz1, hz2⟩ := info_parts Tryd.infoInt
    go_enter Tryd.func13, Tryd.ntmps13
    go_wp2_with fail
    refine HC.out.mono ?_
    rintro e w1 ⟨rfl, hb1⟩
    go_wp2_with fail
    refine (spread_any l _ HSG.out (by have := HLEN.out; omega)).mono ?_
    rintro e w2 ⟨v, rfl, hown, hb2⟩
    have hB2 := hide (hb1.trans (hb2.mono hb1.size))
    have hsl : (spr l).length ≤ 22 := by have := HSL.out; have := HLEN.out; omega
    have hsz : w1.heap.size ≤ w2.heap.size := hb2.size
    have HSZ := hide hb1.size
    clear hb1 hb2
    go_wp2_with (first
      | (at_builtin; refine wpList_append_own _ rfl _ _ 58 rfl w1.heap.size 3 i0 (.int .i64 0) 1 8 Tryd.underlying58 hi hz0 hz1 hz2 rfl (by decide) _ _ _ rfl (hown.alloc _) ⟨_, 0, none⟩ 1 1 [.int .i64 0] rfl rfl ?c1 ?c2 ?c3 ?c4 ?c5 ?_)
      | go_in)
    case c1 =>
      intro j u hj
      match j, hj with
      | 0, hj => simp at hj; subst hj; simp [Addr.add]
    case c2 => first | exact rfl | (intro u hu; simp at hu; subst hu; rfl)
    case c3 => unfold maxLen; omega
    case c4 => omega
    case c5 => simp; omega
    intro v' w3 hown' hgrow _
    have hB3 := hide ((hB2.out.alloc hB2.out.size (.cells #[.int .i64 0] 3)).grown hgrow (by have := hB2.out.size; simp; omega) (fun k hk => Nat.le_trans HSZ.out (hown.lt k hk).1))
    have hri : Hid (RI w3 .i64 v' (spr l ++ [0])) := hide (ri_of_owns (e := 3) (n := (spr l).length + 1) (B := w1.heap.size) (by rw [lv_app]; exact hown'))
    clear hown hgrow hown'
    go_wp2_with fail
    refine (luhn_any v' (spr l ++ [0]) _ hri.out HDG.out (by simp; omega)).mono ?_
    rintro e w4 ⟨rfl, rfl⟩
    rw [HS.out]
    have hS0 : 0 ≤ S := HSB.out.1
    go_wp2_with fail
    go_ret2
    refine ⟨ret_bv ?_ rfl, hB3.out⟩
    rw [HV.out]; unfold chk; rw [HS.out]; omega
  · have HV := hide (digV_bad h)
    obtain ⟨t, u, hev⟩ := errF_iface (form_ne h)
    rw [hev] at HC ⊢
    clear hev h
    go_enter Tryd.func13, Tryd.ntmps13
    go_wp2_with fail
    refine HC.out.mono ?_
    rintro e w1 ⟨rfl, hb1⟩
    go_wp2_with fail
    go_ret2
    exact ⟨ret_bv HV.out.symm rfl, hb1⟩
theorem isin_any (l : List UInt8) (w : World) (hl : l.length ≤ 140737488355328) :
    Calls Tryd.prog 9 #[.string ⟨l.toArray⟩] w fun e w' => e = .returned (.tuple #[arr (if (isinR l).1 = 0 then l else zer 12), errF (isinR l)]) ∧ Below w.heap.size w w' := by
  by_cases h : Form l isinF
  · by_cases hs : lsum (spr l) % 10 = 0
    · rw [if_pos (by rw [isinR_ok h hs])]; exact isin_ok l w h hs
    · rw [if_neg (by rw [isinR_sum h hs]; decide)]; exact isin_sum l w h hs
  · rw [if_neg (by rw [isinR_bad h]; exact form_ne h)]; exact isin_bad l w hl h
set_option maxHeartbeats 1000000 in
theorem refIsin_any (l : List UInt8) (w : World) (hl : l.length ≤ 140737488355328) :
    Calls Tryd.prog 8 #[.string ⟨l.toArray⟩] w fun e w' => e = .returned (.tuple #[.int .i64 (isinR l).1, .int .i64 (isinR l).2]) ∧ Below w.heap.size w w' := by
  have HC := hide (has_any l isinF w hl)
  by_cases h : Form l isinF
  · rw [form_eq h] at HC
    have hlen : l.length = 12 := h.1
    have HSG := hide (form_signs h)
    have HSL := hide (spr_len l)
    have HLEN := hide hlen
    have HRS := hide (fun hs => isinR_sum h hs)
    have HRO := hide (fun hs => isinR_ok h hs)
    clear h hlen
    obtain ⟨S, HS⟩ : ∃ S, Hid (lsum (spr l) = S) := ⟨_, hide rfl⟩
    have HSB := hide (lsum_b (spr_dig HSG.out))
    rw [HS.out] at HSB HRS HRO
    cases hq : (S % 10 != 0)
    · have HR := hide (HRO.out (by simpa using hq))
      go_enter Tryd.func8, Tryd.ntmps8
      go_wp2_with fail
      refine HC.out.mono ?_
      rintro e w1 ⟨rfl, hb1⟩
      go_wp2_with fail
      refine (refSpread_any l _ HSG.out (by have := HLEN.out; omega)).mono ?_
      rintro e w2 ⟨v, rfl, hown, hb2⟩
      have hri := hide (ri_of_owns hown)
      have hB2 := hide (hb1.trans (hb2.mono hb1.size))
      clear hown hb1 hb2
      go_wp2_with fail
      refine (refLuhn_any v (spr l) _ hri.out (spr_dig HSG.out) (by have := HSL.out; have := HLEN.out; omega)).mono ?_
      rintro e w3 ⟨rfl, rfl⟩
      rw [HS.out]
      have hS0 : 0 ≤ S := HSB.out.1
      go_wp2_with fail
      go_ret2
      exact ⟨ret_ii HR.out.symm, hB2.out⟩
    · have HR := hide (HRS.out (by simpa using hq))
      go_enter Tryd.func8, Tryd.ntmps8
      go_wp2_with fail
      refine HC.out.mono ?_
      rintro e w1 ⟨rfl, hb1⟩
      go_wp2_with fail
      refine (refSpread_any l _ HSG.out (by have := HLEN.out; omega)).mono ?_
      rintro e w2 ⟨v, rfl, hown, hb2⟩
      have hri := hide (ri_of_owns hown)
      have hB2 := hide (hb1.trans (hb2.mono hb1.size))
      clear hown hb1 hb2
      go_wp2_with fail
      refine (refLuhn_any v (spr l) _ hri.out (spr_dig HSG.out) (by have := HSL.out; have := HLEN.out; omega)).mono ?_
      rintro e w3 ⟨rfl, rfl⟩
      rw [HS.out]
      have hS0 : 0 ≤ S := HSB.out.1
      go_wp2_with fail
      go_ret2
      exact ⟨ret_ii HR.out.symm, hB2.out⟩
  · have HR := hide (isinR_bad h)
    have HN := hide (form_ne h)
    obtain ⟨a, b, hab⟩ : ∃ a b, formR l isinF = (a, b) := ⟨_, _, rfl⟩
    rw [hab] at HC HR HN
    have hq : (a == 0) = false := by simpa using HN.out
    clear hab h HN
    go_enter Tryd.func8, Tryd.ntmps8
    go_wp2_with fail
    refine HC.out.mono ?_
    rintro e w1 ⟨rfl, hb1⟩
    go_wp2_with fail
    go_ret2
    exact ⟨ret_ii HR.out.symm, hb1⟩
theorem isinF_dg {l : List UInt8} {c : UInt8} (h : Form l isinH) (hc : isDg c = true) : Form (l ++ [c]) isinF := by
  have hl : l.length = 11 := h.1
  refine ⟨by rw [List.length_append, hl]; rfl, fun j hj => ?_⟩
  rw [List.length_append, hl] at hj
  by_cases e : j = 11
  · subst e
    rw [List.getD_eq_getElem?_getD, List.getElem?_append_right (by omega), hl]
    exact hc
  · have hj' : j < l.length := by simp at hj; omega
    have h2 := h.2 j hj'
    rw [List.getD_eq_getElem?_getD, List.getElem?_append_left hj', ← List.getD_eq_getElem?_getD]
    rw [show isinF.getD j 0 = isinH.getD j 0 by
      have : ∀ j, j < 11 → isinF.getD j 0 = isinH.getD j 0 := by decide
      exact this j (by omega)]
    exact h2
theorem sign_snoc {l : List UInt8} {c : UInt8} (h : ∀ x ∈ l, Sign x) (hc : isDg c = true) : ∀ x ∈ l ++ [c], Sign x := by
  intro x hx
  rcases List.mem_append.1 hx with h1 | h1
  · exact h x h1
  · simp at h1; subst h1; exact .inl hc
theorem dg_of {k : Nat} (h : k ≤ 9) : isDg (UInt8.ofNat (48 + k)) = true ∧ sprc (UInt8.ofNat (48 + k)) = [(k : Int)] := by
  have e : (UInt8.ofNat (48 + k)).toNat = 48 + k := by rw [UInt8.toNat_ofNat']; omega
  refine ⟨isDg_yes e (by omega) (by omega), ?_⟩
  rw [sprc_d e (by omega)]; congr 1; omega
theorem ret_bii {a : Int} {b c : Int} {a' b' c' : Int} (h : a = a') (h2 : b = b') (h3 : c = c') : Ending.returned (.tuple #[.int .u8 a, .int .i64 b, .int .i64 c]) = .returned (.tuple #[.int .u8 a', .int .i64 b', .int .i64 c']) := by rw [h, h2, h3]
set_option maxRecDepth 100000 in
set_option maxHeartbeats 2000000 in
theorem refIsinDigit_any (l : List UInt8) (w : World) (hl : l.length ≤ 140737488355328) :
    Calls Tryd.prog 12 #[.string ⟨l.toArray⟩] w fun e w' => e = .returned (.tuple #[.int .u8 (digV l), .int .i64 (formR l isinH).1, .int .i64 (formR l isinH).2]) ∧ Below w.heap.size w w' := by
  have HC := hide (has_any l isinH w hl)
  by_cases h : Form l isinH
  · rw [form_eq h] at HC ⊢
    have HV := hide (digV_ok h)
    have hlen : l.length = 11 := h.1
    have HSG := hide (form_signs h)
    have HLEN := hide hlen
    have HCB := hide (chk_b (spr l))
    clear h hlen
    go_enter Tryd.func12, Tryd.ntmps12
    go_wp2_with fail
    refine HC.out.mono ?_
    rintro e w1 ⟨rfl, hb1⟩
    go_wp2_with fail
    go_loopw [7] (fun c wr => ∃ k : Nat, (k : Int) ≤ chk (spr l) ∧ c = .int .u8 (48 + (k : Int)) ∧ Below w.heap.size w wr) (fun c _ => 58 - (intOf c).toNat)
    case atStart => exact ⟨0, by have := HCB.out; omega, rfl, hb1⟩
    case round =>
      clear hb1
      obtain ⟨k, hk, rfl, hB⟩ := hrel
      have hk9 : k ≤ 9 := by have := HCB.out; omega
      obtain ⟨hdg, hsp⟩ := dg_of hk9
      have hxn : (UInt8.ofNat (48 + k)).toNat = 48 + k := by rw [UInt8.toNat_ofNat']; omega
      generalize UInt8.ofNat (48 + k) = x at hdg hsp hxn
      have HDG := hide hdg
      have HSP := hide hsp
      have HL2 : Hid ((l ++ [x]).length = 12) := by show _ = _; rw [List.length_append, HLEN.out]; rfl
      have hcv : (convert 53 9 (.slice (some ⟨wr.heap.size, 0, none⟩) 1 1)).run Tryd.prog (wr.alloc (.cells #[.int .u8 (48 + (k : Int))] 5)) = .ok (.string ⟨#[x]⟩) (wr.alloc (.cells #[.int .u8 (48 + (k : Int))] 5)) :=
        run_convert_bytes_back (P := Tryd.prog) (wr.alloc (.cells #[.int .u8 (48 + (k : Int))] 5)) 53 9 5 ⟨wr.heap.size, 0, none⟩ 1 [x] Tryd.underlying53 Tryd.underlying5 Tryd.underlying9 (fun j hj => by
          match j, hj with
          | 0, _ => simp [Addr.add]; omega)
      have happ : (⟨l.toArray⟩ : ByteArray) ++ ⟨#[x]⟩ = ⟨(l ++ [x]).toArray⟩ := bytes_app l [x]
      have HB := hide (hB.alloc hB.size (.cells #[.int .u8 (48 + (k : Int))] 5))
      have HSS := hide (sign_snoc HSG.out HDG.out)
      have HE : Hid (spr (l ++ [x]) = spr l ++ [(k : Int)]) := by
        show _ = _
        rw [spr_app]; congr 1; rw [← HSP.out]; simp [spr]
      have HIF := hide (chk_iff (spr l) (k := (k : Int)) (by omega) (by omega))
      rw [← HE.out] at HIF
      have HSL := hide (spr_len (l ++ [x]))
      have HSB := hide (lsum_b (spr_dig HSS.out))
      clear hdg hsp hxn
      generalize hL : l ++ [x] = L at *
      obtain ⟨S, HS⟩ : ∃ S, Hid (lsum (spr L) = S) := ⟨_, hide rfl⟩
      rw [HS.out] at HIF HSB
      clear hL
      cases hq : (S % 10 == 0)
      · have HN : Hid ((k : Int) < chk (spr l)) := by
          show _ < _
          have h1 : ¬ S % 10 = 0 := by simpa using hq
          have h2 : ¬ (k : Int) = chk (spr l) := fun e => h1 (HIF.out.2 e)
          omega
        go_wp2_with fail
        refine (refSpread_any L _ HSS.out (by have := HL2.out; omega)).mono ?_
        rintro e w2 ⟨v, rfl, hown, hb2⟩
        have hri := hide (ri_of_owns hown)
        have hB2 := hide (HB.out.trans (hb2.mono HB.out.size))
        clear hown hb2
        go_wp2_with fail
        refine (refLuhn_any v (spr L) _ hri.out (spr_dig HSS.out) (by have := HSL.out; have := HL2.out; omega)).mono ?_
        rintro e w3 ⟨rfl, rfl⟩
        rw [HS.out]
        have hS0 : 0 ≤ S := HSB.out.1
        go_wp2_with fail
        go_roundw
        case rel => exact ⟨k + 1, by have := HN.out; omega, by go_num, hB2.out⟩
        case measure => simp [intOf]; omega
      · have HN : Hid ((k : Int) = chk (spr l)) := HIF.out.1 (by simpa using hq)
        go_wp2_with fail
        refine (refSpread_any L _ HSS.out (by have := HL2.out; omega)).mono ?_
        rintro e w2 ⟨v, rfl, hown, hb2⟩
        have hri := hide (ri_of_owns hown)
        have hB2 := hide (HB.out.trans (hb2.mono HB.out.size))
        clear hown hb2
        go_wp2_with fail
        refine (refLuhn_any v (spr L) _ hri.out (spr_dig HSS.out) (by have := HSL.out; have := HL2.out; omega)).mono ?_
        rintro e w3 ⟨rfl, rfl⟩
        rw [HS.out]
        have hS0 : 0 ≤ S := HSB.out.1
        go_wp2_with fail
        go_ret3
        exact ⟨ret_bii (by rw [HV.out, ← HN.out]) rfl rfl, hB2.out⟩
  · have HV := hide (digV_bad h)
    have HN := hide (form_ne h)
    obtain ⟨a, b, hab⟩ : ∃ a b, formR l isinH = (a, b) := ⟨_, _, rfl⟩
    rw [hab] at HC HN ⊢
    have hq : (a != 0) = true := by simpa using HN.out
    clear hab h HN
    go_enter Tryd.func12, Tryd.ntmps12
    go_wp2_with fail
    refine HC.out.mono ?_
    rintro e w1 ⟨rfl, hb1⟩
    go_wp2_with fail
    go_ret3
    exact ⟨ret_bii HV.out.symm rfl rfl, hb1⟩
end Go.Proofs.YtkpmmcekcpbilaaDoor
