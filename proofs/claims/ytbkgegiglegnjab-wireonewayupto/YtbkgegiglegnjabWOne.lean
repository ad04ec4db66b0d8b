/-
  My own text: the law that bytes read to their end are those that are written.
-/
import Derived.Test.YtbkgegiglegnjabWM2
import Derived.Test.YtbkgegiglegnjabRows
import Derived.ProofKit
import Derived.OpenShut
import Derived.ChangeSame
import Derived.JoinedOf
import Derived.HandedShaped
import Derived.SizedLaws
namespace Go.Proofs.Ytbkgegiglegnjab
open Go.ChangeShapes Go.WideShapes Go.ChangeAt Go.RowKit

theorem pick_eq (k : Int) {n : Int} (h : 0 < n) : -n < k.tmod n ∧ k.tmod n < n ∧ k % n = if k.tmod n < 0 then k.tmod n + n else k.tmod n := by
  have h1 := Int.lt_tmod_of_pos k h
  have h2 := Int.tmod_lt_of_pos k h
  refine ⟨h1, h2, ?_⟩
  have e : (k.tmod n) % n = k % n := by rw [Int.tmod_def, Int.sub_mul_emod_self_left]
  rw [← e]
  split
  · rw [← Int.add_emod_right, Int.emod_eq_of_lt (by omega) (by omega)]
  · rw [Int.emod_eq_of_lt (by omega) (by omega)]
theorem pick_any (k n : Int) (w : World) (h1 : 0 < n) (h2 : n ≤ 4000000) :
    Calls Try.prog 17 #[.int .i64 k, .int .i64 n] w fun e w' => e = .returned (.int .i64 (k % n)) ∧ w' = w := by
  obtain ⟨t0, t1, t2⟩ := pick_eq k h1
  have H := hide t2
  clear t2
  have hn : ¬ n < 1 := by omega
  have hz : (n == 0) = false := by simp; omega
  have hz2 : ¬ n = 0 := by omega
  by_cases hneg : k.tmod n < 0
  · rw [if_pos hneg] at H
    go_enter Try.func17, Try.ntmps17
    go_wp2
    go_ret
    exact ⟨ret_i H.out.symm, rfl⟩
  · rw [if_neg hneg] at H
    go_enter Try.func17, Try.ntmps17
    go_wp2
    go_ret
    exact ⟨ret_i H.out.symm, rfl⟩

/-- Whole numbers in a slice. -/
def RI (w : World) (v : Value) (l : List Int) : Prop :=
  ∃ a cap, v = .slice a l.length cap ∧ (l = [] ∨ ∃ b off, a = some ⟨b, off, none⟩ ∧ b < w.heap.size ∧ ∀ j x, l[j]? = some x → w.cell? ⟨b, off + j, none⟩ = some (.int .i64 x))
theorem int_at {l : List Int} {k : Nat} (h : k < l.length) : ∃ x, l[k]? = some x := ⟨l[k], List.getElem?_eq_getElem h⟩

/-! ### what stays true -/
structure Inv (l : List UInt8) (k : Nat) (L lr : List UInt8) (e : Int) : Prop where
  left : lr.length ≤ l.length
  len : L.length ≤ l.length + k
  e0 : 0 ≤ e
  e24 : e ≤ 24
  whole : e = 0 → L ++ lr = l
theorem form0 : form 0 = [0] := by decide
theorem rdU_zero {most : Int} {l : List UInt8} {e : Int} (h : (rdU most l e).2.2 ≠ 0) : (rdU most l e).1 = 0 := by
  unfold rdU at h ⊢
  split
  · rfl
  · split
    · rfl
    · split
      · rfl
      · rename_i h1 h2 h3
        rw [if_neg h1, if_neg h2, if_neg h3] at h; exact absurd rfl h
theorem rdU_was {most : Int} {l : List UInt8} {e : Int} (h : (rdU most l e).2.2 = 0) : e = 0 := by
  by_cases he : e = 0
  · exact he
  · rw [rdU_err he] at h; exact absurd h he
theorem inv_len {l L lr m : List UInt8} {k : Nat} {e : Int} (hk : L.length ≤ l.length + k) (hw : e = 0 → L ++ m ++ lr = l) (he : e ≠ 0 → m.length ≤ 1) : (L ++ m).length ≤ l.length + (k + 1) := by
  by_cases h0 : e = 0
  · have := congrArg List.length (hw h0)
    rw [List.length_append] at this; omega
  · have := he h0; rw [List.length_append]; omega
theorem Inv.uint {l L lr : List UInt8} {k : Nat} {e : Int} (h : Inv l k L lr e) : Inv l (k + 1) (L ++ form (rdU 18446744073709551615 lr e).1) (rdU 18446744073709551615 lr e).2.1 (rdU 18446744073709551615 lr e).2.2 := by
  obtain ⟨x0, x1, u0, u24, ul⟩ := rdU_rng 18446744073709551615 lr e h.e0 h.e24
  have hw : (rdU 18446744073709551615 lr e).2.2 = 0 → L ++ form (rdU 18446744073709551615 lr e).1 ++ (rdU 18446744073709551615 lr e).2.1 = l := by
    intro h0
    have he := rdU_was h0
    subst he
    rw [List.append_assoc, rdU_back h0]; exact h.whole rfl
  exact ⟨Nat.le_trans ul h.left, inv_len h.len hw (fun h0 => by rw [rdU_zero h0, form0]; exact Nat.le_refl _), u0, u24, hw⟩
theorem Inv.int {l L lr : List UInt8} {k : Nat} {e : Int} (h : Inv l k L lr e) : Inv l (k + 1) (L ++ form (foldI (rdI lr e).1)) (rdI lr e).2.1 (rdI lr e).2.2 := by
  have hu := h.uint
  obtain ⟨x0, x1, _⟩ := rdU_rng 18446744073709551615 lr e h.e0 h.e24
  unfold rdI
  show Inv l (k + 1) (L ++ form (foldI (unfI _))) _ _
  rw [fold_unf x0]
  exact hu
theorem rdX_nil {most : Int} {l : List UInt8} {e : Int} (h : (rdX most l e).2.2 ≠ 0) : (rdX most l e).1 = [] := by
  unfold rdX rdY at h ⊢
  split
  · rfl
  · rename_i h1; rw [if_neg h1] at h; exact absurd h h1
theorem rdX_was {most : Int} {l : List UInt8} {e : Int} (h : (rdX most l e).2.2 = 0) : e = 0 := by
  by_cases he : e = 0
  · exact he
  · exfalso
    unfold rdX rdY at h
    have hu : rdU (mostOf most) l e = (0, l, e) := rdU_err he
    rw [hu] at h
    have hT : rdT 0 l e = ([], l, e) := by unfold rdT; rw [if_pos he]
    rw [hT, if_pos he] at h
    exact he h
theorem rdX_len (most : Int) (l : List UInt8) (e : Int) (he : 0 ≤ e) (h24 : e ≤ 24) : (rdX most l e).1.length ≤ l.length := by
  unfold rdX rdY
  obtain ⟨_, _, _, _, ul⟩ := rdU_rng (mostOf most) l e he h24
  split
  · exact Nat.zero_le _
  · unfold rdT
    split
    · exact Nat.zero_le _
    · split
      · exact Nat.zero_le _
      · show (List.take _ _).length ≤ _
        rw [List.length_take]; omega
theorem Inv.text {l L lr : List UInt8} {k : Nat} {e most : Int} (h : Inv l k L lr e) : Inv l (k + 1) (L ++ (form ((rdX most lr e).1.length : Int) ++ (rdX most lr e).1)) (rdX most lr e).2.1 (rdX most lr e).2.2 := by
  obtain ⟨u0, u24, ul⟩ := rdX_rng most lr e h.e0 h.e24
  have hw : (rdX most lr e).2.2 = 0 → L ++ (form ((rdX most lr e).1.length : Int) ++ (rdX most lr e).1) ++ (rdX most lr e).2.1 = l := by
    intro h0
    have he := rdX_was h0
    subst he
    rw [List.append_assoc, rdX_back h0]; exact h.whole rfl
  exact ⟨Nat.le_trans ul h.left, inv_len h.len hw (fun h0 => by rw [rdX_nil h0]; show (form (0 : Int) ++ []).length ≤ 1; rw [form0]; exact Nat.le_refl _), u0, u24, hw⟩

set_option maxRecDepth 100000 in
set_option maxHeartbeats 2000000 in
theorem oneway_law (v u : Value) (l : List UInt8) (row : List Int) (w : World) (hv : RB w v l) (hu : RI w u row) (hs : l.length + row.length ≤ 2097152) :
    Calls Try.prog 4 #[v, u] w fun e w' => e = .returned (.bool true) ∧ Below w.heap.size w w' := by
  have HR := hide (newReader_any v l w hv (by omega))
  have HV := hide hv
  obtain ⟨gv, av, cv, rfl, _, _⟩ := hv
  obtain ⟨au, cu, rfl, hr⟩ := hu
  have nG := Try.nilNeqG
  have nN := Try.nilNeq
  go_enter Try.func4, Try.ntmps4
  go_wp2_with fail
  refine HR.out.mono ?_
  rintro en w1 ⟨r, g, rfl, hd, hr1, hg1, hb1⟩
  have HN := hide (newWriter_any w1)
  go_wp2_with fail
  refine HN.out.mono ?_
  rintro en w2 ⟨rfl, rfl⟩
  have HB2 := hide (hb1.alloc hb1.size (.cells #[.slice none 0 0] 56))
  have HW2 := hide (wr_new w1)
  have HD2 := hide (hd.later ((Below.refl w1.heap.size w1).alloc (Nat.le_refl _) (.cells #[.slice none 0 0] 56)))
  have hrB : r < w1.heap.size := hd.lt
  have HGB : Hid (l ≠ [] → g < w1.heap.size) := hide fun h => hd.glt h
  have hwr : w.heap.size ≤ r := hr1
  have hww : w.heap.size ≤ w1.heap.size := hb1.size
  have HK := hide (works_any (w1.alloc (.cells #[.slice none 0 0] 56)))
  obtain ⟨B, hB⟩ : ∃ B, Hid (w1.heap.size = B) := ⟨_, hide rfl⟩
  rw [hB.out] at HW2 HGB hrB hww ⊢
  clear hd hb1 hg1 HR HN
  go_wp2_with fail
  refine HK.out.mono ?_
  rintro en w3 ⟨rfl, hb3⟩
  have HB3 := hide (HB2.out.trans (hb3.mono HB2.out.size))
  have HW3 := hide (HW2.out.later hb3)
  have HD3 := hide (HD2.out.later hb3)
  clear hb3 HB2 HW2 HD2 HK
  go_wp2_with fail
  go_loopw [7] (fun i wr => ∃ (k : Nat) (L lr : List UInt8) (e : Int) (q : Value), k ≤ row.length ∧ i = .int .i64 k ∧ Hid (Inv l k L lr e) ∧ Hid (Wr wr B B q L) ∧ Hid (Rd wr 41 r g lr e) ∧ Hid (Below w.heap.size w wr)) (fun i _ => row.length - (intOf i).toNat)
  case atStart => exact ⟨0, [], l, 0, _, Nat.zero_le _, rfl, hide ⟨Nat.le_refl _, by simp, by decide, by decide, fun _ => rfl⟩, HW3, HD3, HB3⟩
  case round =>
    clear HW3 HD3 HB3
    obtain ⟨k, L, lr, e, q, hk, rfl, HI, HW, HD, HB⟩ := hrel
    have HLL : Hid (lr ≠ [] → g < B) := hide fun h => HGB.out fun h0 => by
      have := HI.out.left; rw [h0] at this; exact h (List.length_eq_zero_iff.1 (by simpa using this))
    have e0 := HI.out.e0
    have e24 := HI.out.e24
    have hlr : lr.length ≤ l.length := HI.out.left
    have hLL : L.length ≤ l.length + k := HI.out.len
    by_cases hlt : k < row.length
    · obtain ⟨x, hx⟩ := int_at hlt
      rcases hr with h0 | ⟨b, off, rfl, hbl, hc⟩
      · rw [h0] at hlt; simp at hlt
      have hcell := (HB.out.cell (p := ⟨b, off + k, none⟩) hbl).trans (hc k x hx)
      clear hc hx
      have HP := hide (fun W : World => pick_any x 3 W (by decide) (by decide))
      have p0 := Int.emod_nonneg x (show (3 : Int) ≠ 0 by decide)
      have p1 := Int.emod_lt_of_pos x (show (0 : Int) < 3 by decide)
      obtain ⟨p, hp⟩ : ∃ p, Hid (x % 3 = p) := ⟨_, hide rfl⟩
      rw [hp.out] at HP p0 p1
      have hcase : p = 0 ∨ p = 1 ∨ p = 2 := by omega
      rcases hcase with rfl | rfl | rfl
      · have HU := hide (srcUint_any 18446744073709551615 _ _ _ _ _ _ HD.out e0 (by omega))
        have HI1 := hide HI.out.uint
        obtain ⟨x0, x1, _⟩ := rdU_rng 18446744073709551615 lr e e0 e24
        obtain ⟨U, hU⟩ : ∃ U, Hid (rdU 18446744073709551615 lr e = U) := ⟨_, hide rfl⟩
        rw [hU.out] at HU HI1 x0 x1
        obtain ⟨X, l1, e1⟩ := U
        go_wp2_with fail
        refine (HP.out _).mono ?_
        rintro en w4 ⟨rfl, hw⟩
        obtain rfl := hw.symm
        go_wp2_with fail
        refine HU.out.mono ?_
        rintro en w4 ⟨rfl, hd4, ho4⟩
        have HB4 := hide (ho4.toBelow HB.out HB.out.size hwr)
        have HW4 := hide (HW.out.only ho4 hrB)
        have HU2 := hide (writeUint_any X B B q L w4 x0 x1 HW4.out (by omega))
        have HD4 := hide hd4
        clear hd4 ho4 HB HW HD HU
        go_wp2_with fail
        refine HU2.out.mono ?_
        rintro en w5 ⟨rfl, v5, hw5, hm5⟩
        have HB5 := hide (hm5.toBelow HB4.out hww HB4.out.size (fun g hg => Nat.le_trans hww (HW4.out.2.1.at g hg)))
        have HD5 := hide (HD4.out.moved HW4.out hm5 hrB (fun h => HGB.out fun h0 => by have := HI1.out.left; rw [h0] at this; exact h (List.length_eq_zero_iff.1 (by simpa using this))))
        have HW5 := hide hw5
        clear hw5 hm5 HU2 HB4 HW4 HD4
        go_wp2_with fail
        go_roundw
        case rel => exact ⟨k + 1, _, _, _, _, by omega, by go_num, HI1, HW5, HD5, HB5⟩
        case measure => simp [intOf]; omega
      · have HU := hide (readInt_any _ _ _ _ _ _ HD.out e0 e24 (by omega))
        have HI1 := hide HI.out.int
        have hx2 : -9223372036854775808 ≤ (rdI lr e).1 ∧ (rdI lr e).1 ≤ 9223372036854775807 := by
          obtain ⟨x0, x1, _⟩ := rdU_rng 18446744073709551615 lr e e0 e24
          exact unf_rng x0 x1
        obtain ⟨x0, x1⟩ := hx2
        obtain ⟨U, hU⟩ : ∃ U, Hid (rdI lr e = U) := ⟨_, hide rfl⟩
        rw [hU.out] at HU HI1 x0 x1
        obtain ⟨X, l1, e1⟩ := U
        go_wp2_with fail
        refine (HP.out _).mono ?_
        rintro en w4 ⟨rfl, hw⟩
        obtain rfl := hw.symm
        go_wp2_with fail
        refine HU.out.mono ?_
        rintro en w4 ⟨rfl, hd4, ho4⟩
        have HB4 := hide (ho4.toBelow HB.out HB.out.size hwr)
        have HW4 := hide (HW.out.only ho4 hrB)
        have HU2 := hide (writeInt_any X B B q L w4 x0 x1 HW4.out (by omega))
        have HD4 := hide hd4
        clear hd4 ho4 HB HW HD HU
        go_wp2_with fail
        refine HU2.out.mono ?_
        rintro en w5 ⟨rfl, v5, hw5, hm5⟩
        have HB5 := hide (hm5.toBelow HB4.out hww HB4.out.size (fun g hg => Nat.le_trans hww (HW4.out.2.1.at g hg)))
        have HD5 := hide (HD4.out.moved HW4.out hm5 hrB (fun h => HGB.out fun h0 => by have := HI1.out.left; rw [h0] at this; exact h (List.length_eq_zero_iff.1 (by simpa using this))))
        have HW5 := hide hw5
        clear hw5 hm5 HU2 HB4 HW4 HD4
        go_wp2_with fail
        go_roundw
        case rel => exact ⟨k + 1, _, _, _, _, by omega, by go_num, HI1, HW5, HD5, HB5⟩
        case measure => simp [intOf]; omega
      · have HU := hide (readText_any 1073741824 _ _ _ _ _ _ (by decide) HD.out e0 e24 (by omega))
        have HI1 := hide (HI.out.text (most := 1073741824))
        have x0 := rdX_len 1073741824 lr e e0 e24
        obtain ⟨U, hU⟩ : ∃ U, Hid (rdX 1073741824 lr e = U) := ⟨_, hide rfl⟩
        rw [hU.out] at HU HI1 x0
        obtain ⟨X, l1, e1⟩ := U
        have x1 : X.length ≤ lr.length := x0
        clear x0
        go_wp2_with fail
        refine (HP.out _).mono ?_
        rintro en w4 ⟨rfl, hw⟩
        obtain rfl := hw.symm
        go_wp2_with fail
        refine HU.out.mono ?_
        rintro en w4 ⟨rfl, hd4, ho4⟩
        have HB4 := hide (ho4.toBelow HB.out HB.out.size hwr)
        have HW4 := hide (HW.out.only ho4 hrB)
        have HU2 := hide (writeText_any X B B q L w4 HW4.out (by omega))
        have HD4 := hide hd4
        clear hd4 ho4 HB HW HD HU
        go_wp2_with fail
        refine HU2.out.mono ?_
        rintro en w5 ⟨rfl, v5, hw5, hm5⟩
        have HB5 := hide (hm5.toBelow HB4.out hww HB4.out.size (fun g hg => Nat.le_trans hww (HW4.out.2.1.at g hg)))
        have HD5 := hide (HD4.out.moved HW4.out hm5 hrB (fun h => HGB.out fun h0 => by have := HI1.out.left; rw [h0] at this; exact h (List.length_eq_zero_iff.1 (by simpa using this))))
        have HW5 := hide hw5
        clear hw5 hm5 HU2 HB4 HW4 HD4
        go_wp2_with fail
        go_roundw
        case rel => exact ⟨k + 1, _, _, _, _, by omega, by go_num, HI1, HW5, HD5, HB5⟩
        case measure => simp [intOf]; omega
    · have HE := hide (end_any _ _ _ _ _ _ HD.out e0)
      have HDn := hide (done_any B B q L wr HW.out (by omega))
      have HIW := hide HI.out.whole
      clear hr
      by_cases hend : endE lr e = 0
      · have he : e = 0 := by
          unfold endE at hend
          split at hend
          · omega
          · exact hend
        have hlr0 : lr = [] := by
          subst he
          unfold endE at hend
          by_cases hl0 : lr = []
          · exact hl0
          · rw [if_pos ⟨rfl, hl0⟩] at hend; omega
        have hL : L = l := by have := HIW.out he; rw [hlr0, List.append_nil] at this; exact this
        rw [hend] at HE
        rw [hL] at HDn
        have hll : l.length ≤ 140737488355328 := by omega
        clear hL hlr0 he hend HIW HI HW HD
        go_wp2_with fail
        refine HE.out.mono ?_
        rintro en w4 ⟨hen, hw⟩
        obtain rfl := hw.symm
        have hen' : en = .returned .nilIface := hen
        subst hen'
        go_wp2_with fail
        refine HDn.out.mono ?_
        rintro en w5 ⟨v5, rfl, ho5, hb5⟩
        have HB5 := hide (HB.out.trans (hb5.mono HB.out.size))
        have HS := hide (sameBytes_any v5 _ l l w5 ho5.rb (HV.out.later HB5.out) hll)
        obtain ⟨a5, c5, rfl⟩ := ho5.slice
        clear ho5 hb5 HDn
        rw [show decide (l = l) = true by simp] at HS
        go_wp2_with fail
        refine HS.out.mono ?_
        rintro en w6 ⟨rfl, hb6⟩
        have HB6 := hide (HB5.out.trans (hb6.mono HB5.out.size))
        clear hb6
        go_wp2_with fail
        go_ret
        exact ⟨rfl, HB6.out⟩
      · have h1 : 1 ≤ endE lr e := by
          have : 0 ≤ endE lr e := by unfold endE; split <;> omega
          omega
        rw [errV_pos h1] at HE
        clear hend h1 HDn HIW HI HW HD
        go_wp2_with fail
        refine HE.out.mono ?_
        rintro en w4 ⟨rfl, hw⟩
        obtain rfl := hw.symm
        go_wp2_with fail
        go_ret
        exact ⟨rfl, HB.out⟩
end Go.Proofs.Ytbkgegiglegnjab
