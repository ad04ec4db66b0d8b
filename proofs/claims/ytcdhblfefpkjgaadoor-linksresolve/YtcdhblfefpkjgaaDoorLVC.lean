/-
  My own text: LK2, LVB, LVC in one.
-/
import Derived.Test.YtcdhblfefpkjgaaDoorLK1
import Derived.Test.YtcdhblfefpkjgaaDoorHeld
import Derived.Test.YtcdhblfefpkjgaaDoorLVA
namespace Go.Proofs.YtcdhblfefpkjgaaDoor
open Go.RowKit

/-- Does a pair name things? -/
def namB (n : Int) (p : Int × Int) : Bool := decide (0 ≤ min p.1 p.2) && decide (max p.1 p.2 < n)
theorem namB_iff {n : Int} {p : Int × Int} : namB n p = true ↔ (0 ≤ p.1 ∧ 0 ≤ p.2) ∧ (p.1 < n ∧ p.2 < n) := by
  unfold namB
  rw [Bool.and_eq_true, decide_eq_true_eq, decide_eq_true_eq]
  omega
set_option maxRecDepth 100000 in
theorem names_any (n a b : Int) (w : World) :
    Calls Tryd.prog 45 #[.int .i64 n, .agg #[.int .i64 a, .int .i64 b]] w fun e w' => e = .returned (.bool (namB n (a, b))) ∧ Below w.heap.size w w' := by
  have B0 := hide ((Below.refl w.heap.size w).alloc (Nat.le_refl _) (.cells #[.int .i64 a, .int .i64 b] 46))
  have N1 := alloc_new w (.cells #[.int .i64 a, .int .i64 b] 46)
  obtain ⟨d0, d1⟩ := TW.cellsA N1 rfl
  clear N1
  have HB : ∀ r : Bool, (r = true ↔ (0 ≤ a ∧ 0 ≤ b) ∧ (a < n ∧ b < n)) → namB n (a, b) = r := fun r hr => by
    rw [Bool.eq_iff_iff, namB_iff, hr]
  have HB := hide HB
  go_enter Tryd.func45, Tryd.ntmps45
  by_cases h0 : a < b
  · have g0 : ¬ b < a := by omega
    by_cases h1 : 0 ≤ a
    · by_cases h2 : b < n
      · go_wp2_with fail
        go_ret
        exact ⟨by first | exact ret_b (HB.out true (by constructor <;> intro _ <;> first | rfl | omega)).symm | rfl, B0.out⟩
      · go_wp2_with fail
        go_ret
        exact ⟨by first | exact ret_b (HB.out false (by constructor <;> intro _ <;> first | (exfalso; omega) | (rename_i q; cases q))).symm | rfl, B0.out⟩
    · go_wp2_with fail
      go_ret
      exact ⟨by first | exact ret_b (HB.out false (by constructor <;> intro _ <;> first | (exfalso; omega) | (rename_i q; cases q))).symm | rfl, B0.out⟩
  · by_cases g0 : b < a
    · by_cases h1 : 0 ≤ b
      · by_cases h2 : a < n
        · go_wp2_with fail
          go_ret
          exact ⟨by first | exact ret_b (HB.out true (by constructor <;> intro _ <;> first | rfl | omega)).symm | rfl, B0.out⟩
        · go_wp2_with fail
          go_ret
          exact ⟨by first | exact ret_b (HB.out false (by constructor <;> intro _ <;> first | (exfalso; omega) | (rename_i q; cases q))).symm | rfl, B0.out⟩
      · go_wp2_with fail
        go_ret
        exact ⟨by first | exact ret_b (HB.out false (by constructor <;> intro _ <;> first | (exfalso; omega) | (rename_i q; cases q))).symm | rfl, B0.out⟩
    · have e : a = b := by omega
      subst e
      by_cases h1 : 0 ≤ a
      · by_cases h2 : a < n
        · go_wp2_with fail
          go_ret
          exact ⟨by first | exact ret_b (HB.out true (by constructor <;> intro _ <;> first | rfl | omega)).symm | rfl, B0.out⟩
        · go_wp2_with fail
          go_ret
          exact ⟨by first | exact ret_b (HB.out false (by constructor <;> intro _ <;> first | (exfalso; omega) | (rename_i q; cases q))).symm | rfl, B0.out⟩
      · go_wp2_with fail
        go_ret
        exact ⟨by first | exact ret_b (HB.out false (by constructor <;> intro _ <;> first | (exfalso; omega) | (rename_i q; cases q))).symm | rfl, B0.out⟩
/-- A number of things. -/
def cntE (n : Int) : Int := if n < 0 then 1 else if n > 4096 then 5 else 0
theorem checkCount_any (n : Int) (w : World) :
    Calls Tryd.prog 36 #[.int .i64 n] w fun e w' => e = .returned (errV (cntE n)) ∧ w' = w := by
  by_cases h : n < 0
  · rw [show cntE n = 1 from if_pos h, errV_pos (by omega)]
    go_enter Tryd.func36, Tryd.ntmps36
    go_wp2_with fail
    go_ret
    exact ⟨rfl, rfl⟩
  · by_cases h2 : n > 4096
    · rw [show cntE n = 5 by unfold cntE; rw [if_neg h, if_pos h2], errV_pos (by omega)]
      go_enter Tryd.func36, Tryd.ntmps36
      go_wp2_with fail
      go_ret
      exact ⟨rfl, rfl⟩
    · rw [show cntE n = 0 by unfold cntE; rw [if_neg h, if_neg h2], errV_zero]
      go_enter Tryd.func36, Tryd.ntmps36
      go_wp2_with fail
      go_ret
      exact ⟨rfl, rfl⟩
/-- A fault's value, its line 0. -/
def ltV (no k : Int) : Value := .iface 80 (.agg #[.int .i64 no, .int .i64 0, .int .i64 k])
/-- The first pair that names no things. -/
def lostP (n : Int) (L : List (Int × Int)) : Option Nat := L.findIdx? fun p => !namB n p
def lostV (n : Int) (L : List (Int × Int)) : Value := match lostP n L with | none => .nilIface | some k => ltV 10 k
theorem lost_none {n : Int} {L : List (Int × Int)} (h : ∀ (j : Nat) (p : Int × Int), L[j]? = some p → namB n p = true) : lostP n L = none := by
  unfold lostP
  rw [List.findIdx?_eq_none_iff]
  intro p hp
  obtain ⟨j, hj⟩ := List.getElem?_of_mem hp
  rw [h j p hj]; rfl
theorem lost_some {n : Int} {L : List (Int × Int)} {k : Nat} {p : Int × Int} (h : ∀ (j : Nat) (p : Int × Int), j < k → L[j]? = some p → namB n p = true) (hp : L[k]? = some p) (hk : namB n p = false) : lostP n L = some k := by
  unfold lostP
  rw [List.findIdx?_eq_some_iff_getElem]
  obtain ⟨hlt, e⟩ := List.getElem?_eq_some_iff.1 hp
  refine ⟨hlt, by rw [e, hk]; rfl, fun j hj => ?_⟩
  rw [h j _ hj (List.getElem?_eq_getElem (by omega))]; simp
set_option maxRecDepth 100000 in
set_option maxHeartbeats 1000000 in
theorem checkPairs_any (n : Int) (v : Value) (L : List (Int × Int)) (w : World) (hv : TW.RM w v L) (hl : L.length ≤ 8796093022200) :
    Calls Tryd.prog 37 #[.int .i64 n, v] w fun e w' => e = .returned (lostV n L) ∧ Below w.heap.size w w' := by
  obtain ⟨a, cap, rfl, _, hr⟩ := hv
  have HR := hide hr
  have HL := hide hl
  have HNA := hide (fun x y W => names_any n x y W)
  clear hr hl
  go_enter Tryd.func37, Tryd.ntmps37
  go_wp2_with fail
  go_loopw [8] (fun i wr => ∃ k : Nat, k ≤ L.length ∧ i = .int .i64 (k : Int) ∧ Hid (∀ (j : Nat) (p : Int × Int), j < k → L[j]? = some p → namB n p = true) ∧ Hid (Below w.heap.size w wr)) (fun i _ => L.length - (intOf i).toNat)
  case atStart => exact ⟨0, Nat.zero_le _, rfl, hide (fun j p hj => by omega), hide (Below.refl _ _)⟩
  case round =>
    obtain ⟨k, hk, rfl, HI, HW⟩ := hrel
    by_cases hlt : k < L.length
    · obtain ⟨⟨q0, q1⟩, hp⟩ : ∃ p, L[k]? = some p := ⟨_, List.getElem?_eq_getElem hlt⟩
      obtain ⟨b, off, rfl, hgl, hc⟩ := HR.out.resolve_left (fun h => by rw [h] at hlt; simp at hlt)
      have z0 : wr.cell? ⟨b, off + k * 2, none⟩ = some (.int .i64 q0) := (HW.out.cell (p := ⟨b, _, none⟩) hgl).trans (hc k _ hp).1
      have z1 : wr.cell? ⟨b, off + k * 2 + 1, none⟩ = some (.int .i64 q1) := (HW.out.cell (p := ⟨b, _, none⟩) hgl).trans (hc k _ hp).2
      have z1' : wr.cell? ⟨b, off + (k * 2 + 1), none⟩ = some (.int .i64 q1) := z1
      have hd1 : decide ((k : Int) < (L.length : Int)) = true := by rw [decide_eq_true_eq]; omega
      have k0 : (0 : Int) ≤ (k : Int) := by omega
      have k1 : (k : Int) < (L.length : Int) := by omega
      have wk : wrap64 ((k : Int) + 1) = (k : Int) + 1 := by have := HL.out; unfold wrap64; omega
      have HP := hide hp
      clear hp hc
      cases hE : namB n (q0, q1) with
      | true =>
        have HX := hide (fun W => HNA.out q0 q1 W)
        rw [hE] at HX
        go_wp2_with fail
        refine (HX.out _).mono ?_
        rintro e w1 ⟨rfl, hb⟩
        have HW2 := hide (HW.out.trans (hb.mono HW.out.size))
        clear hb
        go_wp2_with fail
        go_roundw
        case rel =>
          refine ⟨k + 1, by omega, by go_num, hide (fun j p hj hp => ?_), HW2⟩
          by_cases e : j = k
          · subst e; rw [HP.out] at hp; cases hp; exact hE
          · exact HI.out j p (by omega) hp
        case measure => first | (rw [wk]; simp [intOf]; omega) | (simp [intOf]; omega)
      | false =>
        have HX := hide (fun W => HNA.out q0 q1 W)
        rw [hE] at HX
        have HF : Hid (lostV n L = ltV 10 (k : Int)) := hide (by unfold lostV; rw [lost_some HI.out HP.out hE])
        go_wp2_with fail
        refine (HX.out _).mono ?_
        rintro e w1 ⟨rfl, hb⟩
        have HW2 := hide (HW.out.trans (hb.mono HW.out.size))
        clear hb
        go_wp2_with fail
        go_ret
        exact ⟨by rw [HF.out]; rfl, HW2.out⟩
    · have e : k = L.length := by omega
      subst e
      have HF : Hid (lostV n L = .nilIface) := hide (by unfold lostV; rw [lost_none (fun j p hp => HI.out j p (List.getElem?_eq_some_iff.1 hp).1 hp)])
      go_wp2_with fail
      go_ret
      exact ⟨by rw [HF.out]; rfl, HW.out⟩
end Go.Proofs.YtcdhblfefpkjgaaDoor
namespace Go.Proofs.YtcdhblfefpkjgaaDoor
open Go.RowKit

/-- A row of notices of these references. -/
def NF (w : World) (v : Value) (R : List (List UInt8)) : Prop := ∃ a cap, v = .slice a R.length cap ∧ (R = [] ∨ ∃ b off, a = some ⟨b, off, none⟩ ∧ b < w.heap.size ∧ ∀ (x : Nat) (k : List UInt8), R[x]? = some k → w.cell? ⟨b, off + x * 27, none⟩ = some (tx k))
/-- No reference of the first k stands twice. -/
def Once (R : List (List UInt8)) (k : Nat) : Prop := ∀ x p, x < k → R[x]? = some p → p ∉ R.take x
theorem plR_in {R : List (List UInt8)} {k : List UInt8} (h : k ∈ R) : plR R k = some (.int .i64 ((R.idxOf k : Nat) : Int)) := if_pos h
theorem plR_out {R : List (List UInt8)} {k : List UInt8} (h : k ∉ R) : plR R k = none := if_neg h
set_option maxRecDepth 100000 in
set_option maxHeartbeats 2000000 in
theorem places_any (v : Value) (R : List (List UInt8)) (w : World) (hv : NF w v R) (hn : R.length ≤ 1000000) (hk : ∀ k ∈ R, TOK k) :
    Calls Tryd.prog 23 #[v] w fun e w' => Below w.heap.size w w' ∧
      ((∃ (x : Nat) (p : List UInt8), e = .returned (.tuple #[.map none, ltV 11 (x : Int)]) ∧ R[x]? = some p ∧ p ∈ R.take x ∧ Once R x) ∨
        (∃ m, e = .returned (.tuple #[.map (some m), .nilIface]) ∧ w.heap.size ≤ m ∧ MP tx TOK w' m (plR R) ∧ Once R R.length)) := by
  obtain ⟨a, cap, rfl, hr⟩ := hv
  have HR := hide hr
  have HN := hide hn
  have HT := hide hk
  have HE0 : Hid (MP tx TOK (w.alloc (.map #[] 0)) w.heap.size (plR (R.take 0))) := hide (by rw [List.take_zero, plR_nil]; exact MP.made w)
  have HB0 := hide ((Below.refl w.heap.size w).alloc (Nat.le_refl _) (.map #[] 0))
  have hmk : (Instr.makeMap 58 none).run Tryd.prog w = .ok (.map (some w.heap.size)) (w.alloc (.map #[] 0)) := run_makeMap _ w
  obtain ⟨n, hnn⟩ : ∃ n, R.length = n := ⟨_, rfl⟩
  have HL := hide hnn
  rw [hnn]
  clear hr hn hk hnn
  go_enter Tryd.func23, Tryd.ntmps23
  go_wp2_with fail
  generalize (w.alloc (.map #[] 0)) = w1 at *
  obtain ⟨m, hm⟩ : ∃ m, Hid (w.heap.size = m) := ⟨_, hide rfl⟩
  rw [hm.out] at HE0 HB0 ⊢
  clear hmk
  go_loopw [11] (fun i wr => ∃ k : Nat, k ≤ n ∧ i = .int .i64 (k : Int) ∧ Hid (Once R k) ∧ Hid (MP tx TOK wr m (plR (R.take k))) ∧ Hid (Below m w wr)) (fun i _ => n - (intOf i).toNat)
  case atStart => exact ⟨0, Nat.zero_le _, rfl, hide (fun x _ h => absurd h (Nat.not_lt_zero x)), HE0, HB0⟩
  case round =>
    clear HE0 HB0
    obtain ⟨k, hkle, rfl, HO, HE0, HB0⟩ := hrel
    by_cases hkn : k < n
    · obtain ⟨p, hp⟩ : ∃ p, R[k]? = some p := ⟨_, List.getElem?_eq_getElem (by rw [HL.out]; exact hkn)⟩
      obtain ⟨b, off, rfl, hgl, hc⟩ := HR.out.resolve_left (fun h => by rw [h] at hp; simp at hp)
      have hpk := HT.out p (List.mem_of_getElem? hp)
      have wk : wrap64 ((k : Int) + 1) = (k : Int) + 1 := by have := HN.out; have := HL.out; unfold wrap64; omega
      have k0 : (0 : Int) ≤ (k : Int) := by omega
      have k1 : (k : Int) < (n : Int) := by omega
      obtain ⟨t, ht⟩ : ∃ t, tx p = t := ⟨_, rfl⟩
      have c0 : wr.cell? ⟨b, off + k * 27, none⟩ = some t := by rw [← ht]; exact (HB0.out.cell (p := ⟨b, _, none⟩) (by rw [← hm.out]; exact hgl)).trans (hc k p hp)
      have hlk := tx_look (k := p) HE0.out hpk
      have HP := hide (And.intro hp hpk)
      rw [ht] at hlk
      by_cases hin : p ∈ R.take k
      · rw [plR_in hin] at hlk
        have HIN := hide hin
        clear hin hp hc hgl ht hpk
        dsimp only [Option.getD_some, Option.isSome_some] at hlk
        go_wp2_with fail
        go_ret2
        exact ⟨by rw [hm.out]; exact HB0.out, .inl ⟨k, p, rfl, HP.out.1, HIN.out, HO.out⟩⟩
      · rw [plR_out hin] at hlk
        dsimp only [Option.getD_none, Option.isSome_none] at hlk
        obtain ⟨w2, h1, h2, h3⟩ := tx_put HE0.out hpk hin
        rw [ht, List.length_take, HL.out, Nat.min_eq_left hkle] at h1
        have HE2 : Hid (MP tx TOK w2 m (plR (R.take (k + 1)))) := hide (by rw [List.take_add_one, hp]; exact h2)
        have HB2 : Hid (Below m w w2) := hide (HB0.out.grown h3 (by rw [← hm.out]; exact HB0.out.size) (fun q e => by injection e with e; omega))
        have HO2 : Hid (Once R (k + 1)) := hide (fun x q hx hq => by
          by_cases e : x = k
          · subst e; rw [hp] at hq; injection hq with hq; rw [← hq]; exact hin
          · exact HO.out x q (by omega) hq)
        clear hin hp hc hgl ht hpk h2 h3 HE0 HB0 HO
        go_wp2_with fail
        go_roundw
        case rel => exact ⟨k + 1, hkn, by go_num, HO2, HE2, HB2⟩
        case measure => first | (rw [wk]; simp [intOf]; omega) | (simp [intOf]; omega)
    · obtain rfl : k = n := by omega
      have HZ : Hid (MP tx TOK wr m (plR R)) := hide (by have h := HE0.out; rw [List.take_of_length_le (by rw [HL.out]; exact Nat.le_refl _)] at h; exact h)
      go_wp2_with fail
      go_ret2
      exact ⟨by rw [hm.out]; exact HB0.out, .inr ⟨m, rfl, Nat.le_of_eq hm.out, HZ.out, HO.out⟩⟩
end Go.Proofs.YtcdhblfefpkjgaaDoor
namespace Go.Proofs.YtcdhblfefpkjgaaDoor
open Go.RowKit

abbrev Lk := Int × List UInt8
/-- A row of notices of these links. -/
def NL (w : World) (v : Value) (T : List (List Lk)) : Prop := ∃ a cap, v = .slice a T.length cap ∧ (T = [] ∨ ∃ b off, a = some ⟨b, off, none⟩ ∧ b < w.heap.size ∧ ∀ (x : Nat) (l : List Lk), T[x]? = some l →
  ∃ la lc, w.cell? ⟨b, off + x * 27 + 26, none⟩ = some (.slice la l.length lc) ∧ (l = [] ∨ ∃ b2 o2, la = some ⟨b2, o2, none⟩ ∧ b2 < w.heap.size ∧ ∀ (i : Nat) (q : Lk), l[i]? = some q → w.cell? ⟨b2, o2 + i * 2, none⟩ = some (.int .i64 q.1) ∧ w.cell? ⟨b2, o2 + i * 2 + 1, none⟩ = some (tx q.2)))
theorem NL.later {w w' : World} {v : Value} {T : List (List Lk)} (h : NL w v T) (hb : Below w.heap.size w w') : NL w' v T := by
  obtain ⟨a, cap, hv, hr⟩ := h
  refine ⟨a, cap, hv, ?_⟩
  rcases hr with hr | ⟨b, off, ha, hl, hx⟩
  · exact .inl hr
  · refine .inr ⟨b, off, ha, Nat.lt_of_lt_of_le hl hb.size, fun x l h => ?_⟩
    obtain ⟨la, lc, h1, h2⟩ := hx x l h
    refine ⟨la, lc, (hb.cell (p := ⟨b, _, none⟩) hl).trans h1, ?_⟩
    rcases h2 with h2 | ⟨b2, o2, h3, h4, h5⟩
    · exact .inl h2
    · exact .inr ⟨b2, o2, h3, Nat.lt_of_lt_of_le h4 hb.size, fun i q h6 => ⟨(hb.cell (p := ⟨b2, _, none⟩) h4).trans (h5 i q h6).1, (hb.cell (p := ⟨b2, _, none⟩) h4).trans (h5 i q h6).2⟩⟩
/-- A link is right: its kind is one, its reference is there. -/
def LkK (q : Lk) : Prop := 1 ≤ q.1 ∧ q.1 ≤ 3
def LkOk (R : List (List UInt8)) (q : Lk) : Prop := LkK q ∧ q.2 ∈ R
/-- What a link of notice x tells. -/
def wOf (R : List (List UInt8)) (x : Nat) (q : Lk) : List (Int × Int) := if q.1 = 1 then [((x : Int), ((R.idxOf q.2 : Nat) : Int))] else []
def bOf (R : List (List UInt8)) (x : Nat) (q : Lk) : List (Int × Int) := if q.1 = 2 then [((x : Int), ((R.idxOf q.2 : Nat) : Int))] else if q.1 = 3 then [(((R.idxOf q.2 : Nat) : Int), (x : Int))] else []
/-- What the links of the first x notices tell; and the first i of notice x. -/
def tU (f : Nat → Lk → List (Int × Int)) (T : List (List Lk)) (x : Nat) : List (Int × Int) := (List.range x).flatMap fun y => (T.getD y []).flatMap (f y)
def tI (f : Nat → Lk → List (Int × Int)) (T : List (List Lk)) (x i : Nat) : List (Int × Int) := tU f T x ++ ((T.getD x []).take i).flatMap (f x)
theorem tU_zero (f : Nat → Lk → List (Int × Int)) (T : List (List Lk)) : tU f T 0 = [] := rfl
theorem tI_zero (f : Nat → Lk → List (Int × Int)) (T : List (List Lk)) (x : Nat) : tI f T x 0 = tU f T x := by simp [tI]
theorem tI_succ {f : Nat → Lk → List (Int × Int)} {T : List (List Lk)} {x i : Nat} {l : List Lk} {q : Lk} (hl : T[x]? = some l) (hq : l[i]? = some q) : tI f T x (i + 1) = tI f T x i ++ f x q := by
  have e : T.getD x [] = l := by rw [List.getD_eq_getElem?_getD, hl]; rfl
  unfold tI
  rw [e, List.take_add_one, hq, List.flatMap_append, List.append_assoc]
  simp
theorem tI_all {f : Nat → Lk → List (Int × Int)} {T : List (List Lk)} {x : Nat} {l : List Lk} (hl : T[x]? = some l) : tI f T x l.length = tU f T (x + 1) := by
  have e : T.getD x [] = l := by rw [List.getD_eq_getElem?_getD, hl]; rfl
  unfold tI tU
  rw [List.range_succ, List.flatMap_append, e, List.take_length, List.flatMap_singleton, e]
theorem wOf_len (R : List (List UInt8)) (x : Nat) (q : Lk) : (wOf R x q).length ≤ 1 := by unfold wOf; split <;> simp
theorem bOf_len (R : List (List UInt8)) (x : Nat) (q : Lk) : (bOf R x q).length ≤ 1 := by
  unfold bOf
  split
  · simp
  · split <;> simp
/-- Each pair names notices. -/
theorem wOf_nam {R : List (List UInt8)} {x : Nat} {q : Lk} (hx : x < R.length) (hq : q.2 ∈ R) : ∀ p ∈ wOf R x q, namB (R.length : Int) p = true := by
  have hi := List.idxOf_lt_length_of_mem hq
  intro p hp
  unfold wOf at hp
  split at hp
  · rw [List.mem_singleton] at hp
    subst hp
    rw [namB_iff]
    dsimp only
    omega
  · cases hp
theorem bOf_nam {R : List (List UInt8)} {x : Nat} {q : Lk} (hx : x < R.length) (hq : q.2 ∈ R) : ∀ p ∈ bOf R x q, namB (R.length : Int) p = true := by
  have hi := List.idxOf_lt_length_of_mem hq
  intro p hp
  unfold bOf at hp
  split at hp
  · rw [List.mem_singleton] at hp
    subst hp
    rw [namB_iff]
    dsimp only
    omega
  · split at hp
    · rw [List.mem_singleton] at hp
      subst hp
      rw [namB_iff]
      dsimp only
      omega
    · cases hp
/-- All links of the first x notices, and the first i of notice x, are right. -/
def Rgt (R : List (List UInt8)) (T : List (List Lk)) (x i : Nat) : Prop := (∀ y l, y < x → T[y]? = some l → ∀ q ∈ l, LkOk R q) ∧ ∀ l j q, T[x]? = some l → j < i → l[j]? = some q → LkOk R q
theorem Rgt.zero (R : List (List UInt8)) (T : List (List Lk)) : Rgt R T 0 0 := ⟨fun _ _ h => absurd h (Nat.not_lt_zero _), fun _ _ _ _ h => absurd h (Nat.not_lt_zero _)⟩
theorem Rgt.step {R : List (List UInt8)} {T : List (List Lk)} {x i : Nat} {l : List Lk} {q : Lk} (h : Rgt R T x i) (hl : T[x]? = some l) (hq : l[i]? = some q) (ho : LkOk R q) : Rgt R T x (i + 1) := by
  refine ⟨h.1, fun l' j q' h1 h2 h3 => ?_⟩
  rw [hl] at h1
  obtain rfl : l = l' := Option.some.inj h1
  by_cases e : j = i
  · subst e; rw [hq] at h3; obtain rfl := Option.some.inj h3; exact ho
  · exact h.2 l j q' hl (by omega) h3
theorem Rgt.next {R : List (List UInt8)} {T : List (List Lk)} {x : Nat} {l : List Lk} (h : Rgt R T x l.length) (hl : T[x]? = some l) : Rgt R T (x + 1) 0 := by
  refine ⟨fun y l' hy h1 q hq => ?_, fun _ _ _ _ h => absurd h (Nat.not_lt_zero _)⟩
  by_cases e : y = x
  · subst e
    rw [hl] at h1
    obtain rfl : l = l' := Option.some.inj h1
    obtain ⟨j, hj⟩ := List.getElem?_of_mem hq
    exact h.2 l j q hl (List.getElem?_eq_some_iff.1 hj).1 hj
  · exact h.1 y l' (by omega) h1 q hq
end Go.Proofs.YtcdhblfefpkjgaaDoor
