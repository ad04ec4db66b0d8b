/-
  My own text: BM1, BE1 in one.
-/
import Derived.Test.YtdjhbecbbmdimaaGreatDoorErrV
import Derived.Deep.RegionWith
import Derived.BigRegion
import Derived.Laws.CopyOwn
namespace Go.Proofs.YtdjhbecbbmdimaaGreatDoor.BL
/-- A mark: its name, its quantity. -/
abbrev Mk := Int × Int
abbrev top : Int := 9223372036854775807
/-- The first mark that is wrong by itself. -/
def wrg : Int → Nat → List Mk → Option Nat
  | _, _, [] => none
  | last, i, m :: r => if m.1 ≤ last ∨ 65536 < m.1 ∨ m.2 < 1 then some i else wrg m.1 (i + 1) r
/-- The first mark with which the sum is past the greatest amount. -/
def ovr : Int → Nat → List Mk → Option Nat
  | _, _, [] => none
  | s, i, m :: r => if top < s + m.2 then some i else ovr (s + m.2) (i + 1) r
/-- All marks together. -/
def sm : List Mk → Int
  | [] => 0
  | m :: r => m.2 + sm r
/-- What is wrong with a position: the number, the place. -/
def ck (av : Int) (L : List Mk) : Int × Int :=
  if av < 0 then (1, -1) else if 8 < L.length then (5, 8) else match wrg 0 0 L with
    | some i => (1, (i : Int))
    | none => match ovr av 0 L with
      | some i => (9, (i : Int))
      | none => (0, 0)
/-- Names that rise from above a number on, quantities from 1 on. -/
def Ri : Int → List Mk → Prop
  | _, [] => True
  | last, m :: r => last < m.1 ∧ m.1 ≤ 65536 ∧ 1 ≤ m.2 ∧ Ri m.1 r
theorem wrg_none : ∀ {L : List Mk} {last : Int} {i : Nat}, wrg last i L = none ↔ Ri last L
  | [], _, _ => by simp [wrg, Ri]
  | m :: r, last, i => by
    unfold wrg Ri
    by_cases h : m.1 ≤ last ∨ 65536 < m.1 ∨ m.2 < 1
    · rw [if_pos h]; constructor
      · intro e; cases e
      · rintro ⟨h1, h2, h3, _⟩; omega
    · rw [if_neg h, wrg_none]; constructor
      · intro e; exact ⟨by omega, by omega, by omega, e⟩
      · rintro ⟨_, _, _, e⟩; exact e
theorem Ri.low {a b : Int} (h : a ≤ b) : ∀ {L : List Mk}, Ri b L → Ri a L
  | [], _ => trivial
  | _ :: _, ⟨h1, h2, h3, h4⟩ => ⟨by omega, h2, h3, h4⟩
theorem sm_pos : ∀ {L : List Mk} {a : Int}, Ri a L → 0 ≤ sm L
  | [], _, _ => Int.le_refl 0
  | m :: r, _, ⟨_, _, h3, h4⟩ => by have := sm_pos h4; unfold sm; omega
theorem ovr_none : ∀ {L : List Mk} {s a : Int} {i : Nat}, Ri a L → s ≤ top → (ovr s i L = none ↔ s + sm L ≤ top)
  | [], s, _, i, _, h => by unfold ovr sm; exact ⟨fun _ => by omega, fun _ => rfl⟩
  | m :: r, s, a, i, hr, h => by
    have h0 := sm_pos hr.2.2.2
    unfold ovr sm
    by_cases hc : top < s + m.2
    · rw [if_pos hc]; constructor
      · intro e; cases e
      · intro e; omega
    · rw [if_neg hc, ovr_none hr.2.2.2 (by omega)]; constructor <;> intro e <;> omega
/-- A position that is right. -/
structure Rt (av : Int) (L : List Mk) : Prop where
  av0 : 0 ≤ av
  few : L.length ≤ 8
  ri : Ri 0 L
  all : av + sm L ≤ top
theorem ck_right {av : Int} {L : List Mk} (h1 : av ≤ top) : (ck av L).1 = 0 ↔ Rt av L := by
  unfold ck
  by_cases h : av < 0
  · rw [if_pos h]; constructor
    · intro e; simp at e
    · intro e; have := e.av0; omega
  rw [if_neg h]
  by_cases h2 : 8 < L.length
  · rw [if_pos h2]; constructor
    · intro e; simp at e
    · intro e; have := e.few; omega
  rw [if_neg h2]
  cases hw : wrg 0 0 L with
  | some i =>
    constructor
    · intro e; simp at e
    · intro e; rw [wrg_none.2 e.ri] at hw; cases hw
  | none =>
    have hr := wrg_none.1 hw
    cases ho : ovr av 0 L with
    | some i =>
      constructor
      · intro e; simp at e
      · intro e; rw [(ovr_none hr h1).2 e.all] at ho; cases ho
    | none => exact ⟨fun _ => ⟨by omega, by omega, hr, (ovr_none hr h1).1 ho⟩, fun _ => rfl⟩
theorem wrg_lt : ∀ {L : List Mk} {last : Int} {i k : Nat}, wrg last i L = some k → i ≤ k ∧ k < i + L.length
  | m :: r, last, i, k, h => by
    unfold wrg at h
    split at h
    · cases h; simp
    · have := wrg_lt h; simp only [List.length_cons]; omega
theorem ovr_lt : ∀ {L : List Mk} {s : Int} {i k : Nat}, ovr s i L = some k → i ≤ k ∧ k < i + L.length
  | m :: r, s, i, k, h => by
    unfold ovr at h
    split at h
    · cases h; simp
    · have := ovr_lt h; simp only [List.length_cons]; omega
/-- What the number and the place may be. -/
theorem ck_lo (av : Int) (L : List Mk) : (ck av L = (0, 0)) ∨ (1 ≤ (ck av L).1 ∧ (ck av L).1 ≤ 24 ∧ -1 ≤ (ck av L).2 ∧ (ck av L).2 ≤ 8) := by
  unfold ck
  split
  · right; simp
  split
  · right; simp
  cases hw : wrg 0 0 L with
  | some i => have := wrg_lt hw; right; simp; omega
  | none =>
    cases ho : ovr av 0 L with
    | some i => have := ovr_lt ho; right; simp; omega
    | none => left; rfl
theorem ck_ok {av : Int} {L : List Mk} (h1 : av ≤ top) (h : Rt av L) : ck av L = (0, 0) := by
  rcases ck_lo av L with e | ⟨e, _⟩
  · exact e
  · have := (ck_right h1).2 h; omega
/-- How many names are below n. -/
def lo (n : Int) : List Mk → Nat
  | [] => 0
  | m :: r => if m.1 < n then lo n r + 1 else 0
/-- The quantity under a name. -/
def mq (n : Int) : List Mk → Int
  | [] => 0
  | m :: r => if m.1 = n then m.2 else mq n r
/-- Marks of no name n, from n on. -/
def hasN (n : Int) : List Mk → Bool
  | [] => false
  | m :: r => if m.1 = n then true else hasN n r
/-- So much under a name; with 0 no such mark. -/
def putM (n q : Int) : List Mk := if 0 < q then [(n, q)] else []
def setM (n q : Int) : List Mk → List Mk
  | [] => putM n q
  | m :: r => if m.1 < n then m :: setM n q r else if m.1 = n then putM n q ++ r else putM n q ++ m :: r
theorem setM_lt {n q : Int} {m : Mk} {r : List Mk} (h : m.1 < n) : setM n q (m :: r) = m :: setM n q r := if_pos h
theorem setM_eq {n q : Int} {m : Mk} {r : List Mk} (h : m.1 = n) : setM n q (m :: r) = putM n q ++ r := (if_neg (by omega)).trans (if_pos h)
theorem setM_gt {n q : Int} {m : Mk} {r : List Mk} (h : n < m.1) : setM n q (m :: r) = putM n q ++ m :: r := (if_neg (by omega)).trans (if_neg (by omega))
theorem mq_eq {n : Int} {m : Mk} {r : List Mk} (h : m.1 = n) : mq n (m :: r) = m.2 := if_pos h
theorem mq_ne {n : Int} {m : Mk} {r : List Mk} (h : ¬ m.1 = n) : mq n (m :: r) = mq n r := if_neg h
theorem hasN_eq {n : Int} {m : Mk} {r : List Mk} (h : m.1 = n) : hasN n (m :: r) = true := if_pos h
theorem hasN_ne {n : Int} {m : Mk} {r : List Mk} (h : ¬ m.1 = n) : hasN n (m :: r) = hasN n r := if_neg h
theorem sm_cons (m : Mk) (r : List Mk) : sm (m :: r) = m.2 + sm r := rfl
theorem lo_le (n : Int) : ∀ L : List Mk, lo n L ≤ L.length
  | [] => Nat.le_refl _
  | m :: r => by have := lo_le n r; unfold lo; split <;> simp only [List.length_cons] <;> omega
theorem lo_lo {n : Int} : ∀ {L : List Mk} {i : Nat} {p : Mk}, i < lo n L → L[i]? = some p → p.1 < n
  | q :: r, i, p, h, hp => by
    unfold lo at h
    split at h
    · match i, h, hp with
      | 0, _, hp => obtain rfl : q = p := Option.some.inj hp; assumption
      | i + 1, h, hp => exact lo_lo (L := r) (by omega) hp
    · omega
theorem Ri.gt : ∀ {L : List Mk} {a : Int}, Ri a L → ∀ p ∈ L, a < p.1
  | q :: r, a, ⟨h1, _, _, h4⟩, p, hp => by
    rcases List.mem_cons.1 hp with rfl | hp
    · exact h1
    · have := Ri.gt h4 p hp; omega
theorem lo_hi {n : Int} : ∀ {L : List Mk} {a : Int} {i : Nat} {p : Mk}, Ri a L → lo n L ≤ i → L[i]? = some p → n ≤ p.1
  | q :: r, a, i, p, hr, h, hp => by
    unfold lo at h
    split at h
    · match i, h, hp with
      | 0, h, _ => omega
      | i + 1, h, hp => exact lo_hi (L := r) hr.2.2.2 (by omega) hp
    · match i, hp with
      | 0, hp => obtain rfl : q = p := Option.some.inj hp; omega
      | i + 1, hp =>
        have := Ri.gt hr.2.2.2 p (List.mem_of_getElem? hp)
        omega
theorem mq_gt : ∀ {L : List Mk} {a n : Int}, Ri a L → n ≤ a → mq n L = 0 ∧ hasN n L = false
  | [], _, _, _, _ => ⟨rfl, rfl⟩
  | q :: r, a, n, ⟨h1, _, _, h4⟩, hn => by
    unfold mq hasN
    rw [if_neg (by omega), if_neg (by omega)]
    exact mq_gt h4 (by omega)
theorem mq_ge : ∀ {L : List Mk} {a n : Int}, Ri a L → 0 ≤ mq n L ∧ (hasN n L = true ↔ 1 ≤ mq n L) ∧ mq n L ≤ sm L
  | [], _, _, _ => by simp [mq, hasN, sm]
  | q :: r, a, n, ⟨h1, h2, h3, h4⟩ => by
    have hs := sm_pos h4
    unfold mq hasN sm
    by_cases h : q.1 = n
    · rw [if_pos h, if_pos h]; exact ⟨by omega, by simp [h3], by omega⟩
    · rw [if_neg h, if_neg h]
      have ⟨i1, i2, i3⟩ := mq_ge (n := n) h4
      exact ⟨i1, i2, by omega⟩
/-- What stands at the place. -/
theorem lo_at {n : Int} : ∀ {L : List Mk} {a : Int}, Ri a L → (hasN n L = true → L[lo n L]? = some (n, mq n L)) ∧ (hasN n L = false → ∀ p, L[lo n L]? = some p → n < p.1)
  | [], _, _ => ⟨fun h => by simp [hasN] at h, fun _ p h => by simp at h⟩
  | q :: r, a, ⟨h1, h2, h3, h4⟩ => by
    have ⟨i1, i2⟩ := lo_at (n := n) h4
    unfold lo mq hasN
    by_cases hlt : q.1 < n
    · rw [if_pos hlt, if_neg (by omega), if_neg (by omega)]
      exact ⟨fun h => by rw [List.getElem?_cons_succ]; exact i1 h, fun h p hp => by rw [List.getElem?_cons_succ] at hp; exact i2 h p hp⟩
    · rw [if_neg hlt]
      by_cases he : q.1 = n
      · rw [if_pos he, if_pos he]; subst he; exact ⟨fun _ => rfl, fun h => by cases h⟩
      · rw [if_neg he, if_neg he]
        have hn := (mq_gt (n := n) h4 (by omega)).2
        refine ⟨fun h => ?_, fun _ p hp => ?_⟩
        · rw [hn] at h; cases h
        · rw [List.getElem?_cons_zero] at hp; obtain rfl := Option.some.inj hp; omega
/-- By places. -/
theorem setM_cut {n q : Int} : ∀ {L : List Mk} {a : Int}, Ri a L → setM n q L = L.take (lo n L) ++ putM n q ++ L.drop (lo n L + if hasN n L then 1 else 0)
  | [], _, _ => by simp [setM, lo]
  | m :: r, a, ⟨h1, h2, h3, h4⟩ => by
    have ih := setM_cut (n := n) (q := q) h4
    unfold setM lo hasN
    by_cases hlt : m.1 < n
    · rw [if_pos hlt, if_pos hlt, if_neg (by omega : ¬ m.1 = n), ih, show lo n r + 1 + (if hasN n r = true then 1 else 0) = (lo n r + if hasN n r = true then 1 else 0) + 1 by omega]
      rfl
    · rw [if_neg hlt, if_neg hlt]
      by_cases he : m.1 = n
      · rw [if_pos he, if_pos he]; simp
      · rw [if_neg he, if_neg he, (mq_gt (n := n) h4 (by omega)).2]; simp
theorem setM_Ri {n q : Int} (hq : 0 ≤ q) (hn : n ≤ 65536) : ∀ {L : List Mk} {a : Int}, Ri a L → (0 < q → a < n) → Ri a (setM n q L)
  | [], a, _, h => by
    unfold setM putM
    split
    · rename_i hp; exact ⟨h hp, hn, by omega, trivial⟩
    · trivial
  | m :: r, a, ⟨h1, h2, h3, h4⟩, h => by
    unfold setM
    by_cases hlt : m.1 < n
    · rw [if_pos hlt]; exact ⟨h1, h2, h3, setM_Ri hq hn h4 (fun _ => hlt)⟩
    · rw [if_neg hlt]
      by_cases he : m.1 = n
      · rw [if_pos he]
        unfold putM
        split
        · rename_i hp; subst he; exact ⟨h1, h2, hp, h4⟩
        · exact h4.low (by omega)
      · rw [if_neg he]
        unfold putM
        split
        · rename_i hp; exact ⟨h hp, hn, hp, by show n < m.1; omega, h2, h3, h4⟩
        · exact ⟨h1, h2, h3, h4⟩
theorem sm_putM {n q : Int} (hq : 0 ≤ q) (r : List Mk) : sm (putM n q ++ r) = q + sm r := by
  unfold putM; split
  · simp [sm]
  · simp; omega
theorem setM_sm {n q : Int} (hq : 0 ≤ q) : ∀ {L : List Mk} {a : Int}, Ri a L → sm (setM n q L) = sm L - mq n L + q
  | [], _, _ => by have := sm_putM (n := n) hq []; rw [List.append_nil] at this; unfold setM; rw [this]; simp [sm, mq]
  | m :: r, a, ⟨h1, h2, h3, h4⟩ => by
    by_cases hlt : m.1 < n
    · rw [setM_lt hlt, sm_cons, sm_cons, mq_ne (by omega), setM_sm hq h4]; omega
    · by_cases he : m.1 = n
      · rw [setM_eq he, sm_putM hq, sm_cons, mq_eq he]; omega
      · rw [setM_gt (by omega), sm_putM hq, mq_ne he, (mq_gt h4 (by omega)).1]; omega
theorem putM_len (n q : Int) : (putM n q).length ≤ 1 := by unfold putM; split <;> simp
theorem putM_len0 {n q : Int} (h : ¬ 0 < q) : putM n q = [] := if_neg h
theorem setM_len {n q : Int} : ∀ {L : List Mk} {a : Int}, Ri a L → (setM n q L).length + (if hasN n L then 1 else 0) = L.length + (putM n q).length
  | [], _, _ => by simp [setM, hasN]
  | m :: r, a, ⟨h1, h2, h3, h4⟩ => by
    have ih := setM_len (n := n) (q := q) h4
    by_cases hlt : m.1 < n
    · rw [setM_lt hlt, hasN_ne (by omega)]; simp only [List.length_cons]; omega
    · by_cases he : m.1 = n
      · rw [setM_eq he, hasN_eq he]; simp [List.length_append]; omega
      · rw [setM_gt (by omega), hasN_ne he, (mq_gt (n := n) h4 (by omega)).2]; simp [List.length_append]; omega
theorem mq_putM (x n q : Int) (r : List Mk) : mq x (putM n q ++ r) = if 0 < q ∧ n = x then q else mq x r := by
  unfold putM; split
  · rename_i h
    simp only [List.cons_append, List.nil_append, mq]
    by_cases he : n = x
    · rw [if_pos he, if_pos ⟨h, he⟩]
    · rw [if_neg he, if_neg (fun e => he e.2)]
  · rename_i h; rw [if_neg (fun e => h e.1)]; rfl
theorem setM_mq {n q x : Int} (hq : 0 ≤ q) : ∀ {L : List Mk} {a : Int}, Ri a L → mq x (setM n q L) = if x = n then q else mq x L
  | [], _, _ => by
    have := mq_putM x n q []; rw [List.append_nil] at this
    unfold setM; rw [this]
    by_cases he : x = n
    · rw [if_pos he]; by_cases h : 0 < q
      · rw [if_pos ⟨h, he.symm⟩]
      · rw [if_neg (fun e => h e.1)]; simp [mq]; omega
    · rw [if_neg he, if_neg (fun e => he e.2.symm)]
  | m :: r, a, ⟨h1, h2, h3, h4⟩ => by
    unfold setM
    by_cases hlt : m.1 < n
    · rw [if_pos hlt]
      unfold mq
      by_cases hm : m.1 = x
      · rw [if_pos hm, if_neg (by omega), if_pos hm]
      · rw [if_neg hm, setM_mq hq h4, if_neg hm]
    · rw [if_neg hlt]
      by_cases he : m.1 = n
      · rw [if_pos he, mq_putM]
        by_cases hx : x = n
        · rw [if_pos hx]
          by_cases h : 0 < q
          · rw [if_pos ⟨h, hx.symm⟩]
          · rw [if_neg (fun e => h e.1), (mq_gt h4 (by omega)).1]; omega
        · rw [if_neg hx, if_neg (fun e => hx e.2.symm)]
          conv => rhs; unfold mq
          rw [if_neg (by omega)]
      · rw [if_neg he, mq_putM]
        by_cases hx : x = n
        · rw [if_pos hx]
          by_cases h : 0 < q
          · rw [if_pos ⟨h, hx.symm⟩]
          · rw [if_neg (fun e => h e.1)]; unfold mq; rw [if_neg (by omega), (mq_gt h4 (by omega)).1]; omega
        · rw [if_neg hx, if_neg (fun e => hx e.2.symm)]
theorem setM_same {n : Int} : ∀ {L : List Mk} {a : Int}, Ri a L → setM n (mq n L) L = L
  | [], _, _ => by simp [setM, mq, putM]
  | m :: r, a, ⟨h1, h2, h3, h4⟩ => by
    unfold setM mq
    by_cases hlt : m.1 < n
    · rw [if_pos hlt, if_neg (by omega), setM_same h4]
    · rw [if_neg hlt]
      by_cases he : m.1 = n
      · rw [if_pos he, if_pos he]; unfold putM; rw [if_pos (by omega), ← he]; rfl
      · rw [if_neg he, if_neg he, (mq_gt h4 (by omega)).1, putM_len0 (by omega)]; rfl
theorem setM_low {n q : Int} : ∀ {r : List Mk}, Ri n r → setM n q r = putM n q ++ r
  | [], _ => by simp [setM]
  | x :: t, ⟨k1, _⟩ => setM_gt k1
theorem setM_twice {n p q : Int} : ∀ {L : List Mk} {a : Int}, Ri a L → setM n q (setM n p L) = setM n q L
  | [], _, _ => by
    show setM n q (putM n p) = putM n q
    unfold putM
    by_cases h : 0 < p
    · rw [if_pos h]; exact (setM_eq (m := (n, p)) rfl).trans (List.append_nil _)
    · rw [if_neg h]; rfl
  | m :: r, a, ⟨h1, h2, h3, h4⟩ => by
    by_cases hlt : m.1 < n
    · rw [setM_lt hlt, setM_lt hlt, setM_lt hlt, setM_twice h4]
    · by_cases he : m.1 = n
      · rw [setM_eq he, setM_eq he]
        subst he
        by_cases h : 0 < p
        · rw [show putM m.1 p = [(m.1, p)] from if_pos h]; exact setM_eq rfl
        · rw [putM_len0 h]; exact setM_low h4
      · rw [setM_gt (by omega), setM_gt (by omega)]
        by_cases h : 0 < p
        · rw [show putM n p = [(n, p)] from if_pos h]; exact setM_eq rfl
        · rw [putM_len0 h]; exact setM_gt (by omega)
/-- The document's way: mark by mark. -/
def wth (n q : Int) : Bool → List Mk → List Mk
  | put, [] => if put then [] else [(n, q)]
  | put, m :: r => (if !put && decide (n ≤ m.1) then [(n, q)] else []) ++ (if m.1 = n then [] else [m]) ++ wth n q (put || decide (n ≤ m.1)) r
theorem wth_true {n q : Int} : ∀ {L : List Mk} {a : Int}, Ri a L → n ≤ a → wth n q true L = L
  | [], _, _, _ => rfl
  | m :: r, a, ⟨h1, h2, h3, h4⟩, h => by
    unfold wth
    rw [if_neg (by omega : ¬ m.1 = n)]
    simp only [Bool.not_true, Bool.false_and, Bool.true_or]
    rw [wth_true h4 (by omega)]; rfl
theorem wth_set {n q : Int} (hq : 0 < q) : ∀ {L : List Mk} {a : Int}, Ri a L → wth n q false L = setM n q L
  | [], _, _ => by simp [wth, setM, putM, hq]
  | m :: r, a, ⟨h1, h2, h3, h4⟩ => by
    unfold wth setM
    by_cases hlt : m.1 < n
    · have hd : decide (n ≤ m.1) = false := decide_eq_false (by omega)
      rw [if_pos hlt, if_neg (by omega : ¬ m.1 = n), hd]
      simp only [Bool.not_false, Bool.and_false, Bool.false_or]
      rw [wth_set hq h4]; rfl
    · have hd : decide (n ≤ m.1) = true := decide_eq_true (by omega)
      rw [if_neg hlt, hd]
      simp only [Bool.not_false, Bool.and_true, Bool.false_or]
      unfold putM
      rw [if_pos hq, wth_true h4 (by omega)]
      by_cases he : m.1 = n
      · rw [if_pos he, if_pos he]; rfl
      · rw [if_neg he, if_neg he]; rfl
theorem wth_zero {n : Int} : ∀ {L : List Mk} {a : Int}, Ri a L → wth n 0 true L = setM n 0 L
  | [], _, _ => by simp [wth, setM, putM]
  | m :: r, a, ⟨h1, h2, h3, h4⟩ => by
    unfold wth setM
    simp only [Bool.not_true, Bool.false_and, Bool.true_or]
    rw [putM_len0 (by omega)]
    by_cases hlt : m.1 < n
    · rw [if_pos hlt, if_neg (by omega : ¬ m.1 = n), wth_zero h4]; rfl
    · rw [if_neg hlt]
      by_cases he : m.1 = n
      · rw [if_pos he, if_pos he, wth_true h4 (by omega)]; rfl
      · rw [if_neg he, if_neg he, wth_true h4 (by omega)]; rfl
theorem wth_eq {n q : Int} {L : List Mk} {a : Int} (hq : 0 ≤ q) (h : Ri a L) : wth n q (decide (q = 0)) L = setM n q L := by
  by_cases h0 : q = 0
  · subst h0; exact wth_zero h
  · rw [decide_eq_false h0]; exact wth_set (by omega) h
end Go.Proofs.YtdjhbecbbmdimaaGreatDoor.BL
namespace Go.Proofs.YtdjhbecbbmdimaaGreatDoor.BL
open Go.RowKit Go.Extern.Stop Go.Stop Go.Extern

/-- A fault as an error. -/
def fltV (no n at_ : Int) : Value := .iface 201 (.agg #[.int .i64 no, .int .i64 n, .int .i64 at_])
theorem alloc_block {w : World} {b : Nat} {o x : Obj} (hh : w.heap[b]? = some x) : (w.alloc o).heap[b]? = some x := by
  have hlt : b < w.heap.size := by
    by_cases hc : b < w.heap.size
    · exact hc
    · rw [Array.getElem?_eq_none (by omega)] at hh; cases hh
  rw [Below.heap_alloc _ _ _ hlt]; exact hh
theorem alloc_new (w : World) (o : Obj) : (w.alloc o).heap[w.heap.size]? = some o := (MapKept.heap_alloc w o).1

theorem Tryz.fNoIs (v : Value) (xT : TypeId) (w : World) : (Instr.typeAssert (.iface 201 v) xT 192 true).run Tryz.prog w = .ok (.tuple #[.nilIface, .bool false]) w := run_typeAssert_lacksB Tryz.underlying192 (by kernel_rfl) (by kernel_rfl) v xT w
theorem Tryz.fUnwrap (v : Value) (xT : TypeId) (w : World) : (Instr.typeAssert (.iface 201 v) xT 172 true).run Tryz.prog w = .ok (.tuple #[.iface 201 v, .bool true]) w := run_typeAssert_hasB Tryz.underlying172 (by kernel_rfl) v xT w
theorem Tryz.fMethodUnwrap (v : Value) (w : World) : (Go.method 338 201 v "Unwrap").run Tryz.prog w = .ok (181, v) w := by kernel_rfl
theorem Tryz.fEql (v u : Value) (w : World) : (binOp .eql 74 (.iface 201 v) (.iface 52 u)).run Tryz.prog w = .ok (.bool false) w := run_eql_iface_types 201 52 v u Tryz.underlying74 (by decide) w

set_option maxHeartbeats 4000000 in
theorem is_fault (no ln k b : Int) (w : World) :
    Calls Tryz.prog 77 #[fltV no ln k, .iface 52 (.int .i64 b)] w fun e w' => e = .returned (.bool (no == b)) ∧ w' = w.alloc (.cells #[.int .i64 no, .int .i64 ln, .int .i64 k] 201) := by
  obtain ⟨i, hi, hcmp⟩ := Option.map_eq_some_iff.1 Tryz.eComp
  have h8 := @run_callFunc_extern Tryz.prog 104 _ ReflectliteType.typeOf Tryz.func104 (by kernel_rfl) (by kernel_rfl) (by kernel_rfl) (by kernel_rfl)
  have tT := Tryz.eTypeOf
  have cT := Tryz.eComparable
  have mR := Tryz.eMethodComparable
  have nE := Tryz.noIs
  have uE := Tryz.noUnwrap
  have vE := Tryz.noUnwraps
  have nF := Tryz.fNoIs
  have uF := Tryz.fUnwrap
  have mF := Tryz.fMethodUnwrap
  have qF := Tryz.fEql
  have heq := fun W : World => run_eql_iface_int (P := Tryz.prog) W no b Tryz.underlying74 Tryz.underlying52 hi hcmp
  unfold fltV
  cases hab : (no == b)
  all_goals
    rw [hab] at heq
    clear hab
    go_enter Tryz.func77, Tryz.ntmps77
    go_wp2
    refine wp_loop_rounds 2 ?_
    rw [rounds_succ]
    go_wp2
    rw [rounds_succ]
    go_wp2
    go_ret
    exact ⟨rfl, rfl⟩

/-! ### errors.As of such an error at a target of its own type: a hit -/
theorem Tryz.fTypeOf (v : Value) (w : World) : (ReflectliteType.typeOf #[.iface 201 v]).run Tryz.prog w = .ok (.iface 164 (.agg #[.pointer (some ⟨1, 201, none⟩)])) w := by kernel_rfl
theorem Tryz.assignableFF (w : World) : (ReflectliteType.relation "AssignableTo" ReflectliteType.assignableTo #[.agg #[.pointer (some ⟨1, 201, none⟩)], .iface 164 (.agg #[.pointer (some ⟨1, 201, none⟩)])]).run Tryz.prog w = .ok (.bool true) w := by kernel_rfl
theorem Tryz.partsF (a : Addr) (w : World) : (ReflectliteValue.parts (.agg #[.pointer (some ⟨1, 201, none⟩), .pointer (some a), .int .u64 409])).run Tryz.prog w = .ok (some (201, a, 409)) w := by kernel_rfl
theorem Tryz.partsG (a : Addr) (w : World) : (ReflectliteValue.parts (.agg #[.pointer (some ⟨1, 201, none⟩), .pointer (some a), .int .u64 153])).run Tryz.prog w = .ok (some (201, a, 153)) w := by kernel_rfl
theorem Tryz.mkF (a : Addr) (w : World) : (ReflectliteValue.mk 201 a ReflectliteValue.flagAddr).run Tryz.prog w = .ok (.agg #[.pointer (some ⟨1, 201, none⟩), .pointer (some a), .int .u64 409]) w := by kernel_rfl
theorem Tryz.valueOfG (v0 v1 v2 : Value) (w : World) : (ReflectliteValue.unpack (.iface 201 (.agg #[v0, v1, v2]))).run Tryz.prog w
    = .ok (.agg #[.pointer (some ⟨1, 201, none⟩), .pointer (some ⟨w.heap.size, 0, none⟩), .int .u64 153]) (w.alloc (.cells #[v0, v1, v2] 201)) := by kernel_rfl
theorem Tryz.directF (w : World) : (Rtype.directlyAssignable 201 201).run Tryz.prog w = .ok true w := by kernel_rfl
theorem Tryz.sizeF : (Tryz.prog.info? 201).map (·.size) = some 3 := by kernel_rfl
theorem Tryz.setF (W : World) (g b : Nat) (old cs : Array Value) (hg : W.heap[g]? = some (.cells old 201 (0, 0))) (ho : old.size = 3) (hb : W.heap[b]? = some (.cells cs 201 (0, 0))) (hc : cs.size = 3) (h1 : cs.all (·.oneCell') = true) :
    (ReflectliteValue.set #[.agg #[.pointer (some ⟨1, 201, none⟩), .pointer (some ⟨g, 0, none⟩), .int .u64 409], .agg #[.pointer (some ⟨1, 201, none⟩), .pointer (some ⟨b, 0, none⟩), .int .u64 153]]).run Tryz.prog W = .ok (.tuple #[]) (W.setRow g cs) := by
  have hl := run_loadVar_row (P := Tryz.prog) W b 201 201 cs (0, 0) _ hb Tryz.underlying201 rfl (by rw [hc]; exact Tryz.sizeF)
  have hs := run_storeVar_row (P := Tryz.prog) W g 201 201 old cs hg (by rw [hc]; exact Tryz.sizeF) (by rw [ho, hc]) h1
  have p1 := Tryz.partsF ⟨g, 0, none⟩ W
  have p2 := Tryz.partsG ⟨b, 0, none⟩ W
  have d1 := Tryz.directF W
  refine (show _ = (ReflectliteValue.parts (.agg #[.pointer (some ⟨1, 201, none⟩), .pointer (some ⟨g, 0, none⟩), .int .u64 409]) >>= _).run Tryz.prog W from rfl).trans ?_
  simp [p1, p2, hl, hs, d1, Result.andThen, ReflectliteValue.flagAddr, Array.getLit]
theorem ret_place {a b : Int} {c : Bool} {a' b' : Int} {c' : Bool} (h : a = a') (h2 : b = b') (h3 : c = c') : Ending.returned (.tuple #[.int .i64 a, .int .i64 b, .bool c]) = .returned (.tuple #[.int .i64 a', .int .i64 b', .bool c']) := by rw [h, h2, h3]
end Go.Proofs.YtdjhbecbbmdimaaGreatDoor.BL
