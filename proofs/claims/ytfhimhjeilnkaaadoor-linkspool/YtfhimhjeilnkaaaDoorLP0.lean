/-
  My own text: layer 23: the mathematics of legs that are joined.
-/
import Derived.Test.YtfhimhjeilnkaaaDoorGLR
namespace Go.Proofs.YtfhimhjeilnkaaaDoor
open Go.RowKit

/-- A leg but for its quantity. -/
def wayE (p : LG.El) : LG.El := (p.1, p.2.1, p.2.2.1, 0, p.2.2.2.2)
def qE (p : LG.El) : Int := p.2.2.2.1
def addE (p : LG.El) (q : Int) : LG.El := (p.1, p.2.1, p.2.2.1, q, p.2.2.2.2)
theorem way_add (p : LG.El) (q : Int) : wayE (addE p q) = wayE p := rfl
theorem q_add (p : LG.El) (q : Int) : qE (addE p q) = q := rfl
theorem way_same {y p : LG.El} : wayE y = wayE p ↔ addE y (qE p) = p := by
  obtain ⟨a, b, c, d, e⟩ := y
  obtain ⟨a', b', c', d', e'⟩ := p
  simp [wayE, addE, qE]
/-- Where a way stands. -/
def fndK (out : List LG.El) (k : LG.El) : Option Nat := (out.map wayE).findIdx? fun z => decide (z = k)
def Uq (out : List LG.El) : Prop := ∀ (i j : Nat) (y z : LG.El), out[i]? = some y → out[j]? = some z → wayE y = wayE z → i = j
theorem fndK_none {out : List LG.El} {k : LG.El} : fndK out k = none ↔ ∀ (i : Nat) (y : LG.El), out[i]? = some y → wayE y ≠ k := by
  unfold fndK
  rw [List.findIdx?_eq_none_iff]
  constructor
  · intro h i y hi e
    have := h (wayE y) (List.mem_map.2 ⟨y, List.mem_of_getElem? hi, rfl⟩)
    rw [e] at this; simp at this
  · intro h z hz
    obtain ⟨y, hy, rfl⟩ := List.mem_map.1 hz
    obtain ⟨i, hi⟩ := List.getElem?_of_mem hy
    rw [decide_eq_false_iff_not]
    exact h i y hi
theorem fndK_some {out : List LG.El} {k : LG.El} {j : Nat} (h : fndK out k = some j) : ∃ y, out[j]? = some y ∧ wayE y = k := by
  unfold fndK at h
  rw [List.findIdx?_eq_some_iff_getElem] at h
  obtain ⟨hj, h1, _⟩ := h
  rw [List.length_map] at hj
  refine ⟨out[j], List.getElem?_eq_getElem hj, ?_⟩
  rw [List.getElem_map, decide_eq_true_eq] at h1
  exact h1
theorem fndK_of {out : List LG.El} (hu : Uq out) {k y : LG.El} {j : Nat} (hj : out[j]? = some y) (hk : wayE y = k) : fndK out k = some j := by
  cases h : fndK out k with
  | none => exact absurd hk (fndK_none.1 h j y hj)
  | some i =>
    obtain ⟨z, hz, hzk⟩ := fndK_some h
    rw [hu i j z y hz hj (by rw [hzk, hk])]
theorem Uq.nil : Uq [] := fun i j y z h => by simp at h
theorem Uq.snoc {out : List LG.El} (hu : Uq out) {p : LG.El} (h : fndK out (wayE p) = none) : Uq (out ++ [p]) := by
  have hn := fndK_none.1 h
  intro i j y z hi hj hyz
  rw [List.getElem?_append] at hi hj
  split at hi
  · split at hj
    · exact hu i j y z hi hj hyz
    · rename_i h1 h2
      rw [List.getElem?_singleton] at hj
      split at hj
      · injection hj with hj; subst hj; exact absurd hyz (hn i y hi)
      · cases hj
  · rw [List.getElem?_singleton] at hi
    split at hi
    · injection hi with hi; subst hi
      split at hj
      · exact absurd hyz.symm (hn j z hj)
      · rw [List.getElem?_singleton] at hj
        split at hj
        · omega
        · cases hj
    · cases hi
theorem map_set {out : List LG.El} {j : Nat} {y z : LG.El} (hj : out[j]? = some y) (hw : wayE z = wayE y) : (out.set j z).map wayE = out.map wayE := by
  apply List.ext_getElem?
  intro i
  rw [List.getElem?_map, List.getElem?_map]
  by_cases e : j = i
  · subst e
    rw [List.getElem?_set_self (List.getElem?_eq_some_iff.1 hj).1, hj]
    simp [hw]
  · rw [List.getElem?_set_ne e]
theorem fndK_set {out : List LG.El} {j : Nat} {y z : LG.El} (hj : out[j]? = some y) (hw : wayE z = wayE y) (k : LG.El) : fndK (out.set j z) k = fndK out k := by
  unfold fndK; rw [map_set hj hw]
theorem Uq.set {out : List LG.El} (hu : Uq out) {j : Nat} {y z : LG.El} (hj : out[j]? = some y) (hw : wayE z = wayE y) : Uq (out.set j z) := by
  intro i k a b hi hk hab
  have h1 : ∀ (m : Nat) (c : LG.El), (out.set j z)[m]? = some c → ∃ d, out[m]? = some d ∧ wayE d = wayE c := by
    intro m c hm
    by_cases e : j = m
    · subst e
      rw [List.getElem?_set_self (List.getElem?_eq_some_iff.1 hj).1] at hm
      injection hm with hm; subst hm
      exact ⟨y, hj, hw.symm⟩
    · rw [List.getElem?_set_ne e] at hm
      exact ⟨c, hm, rfl⟩
  obtain ⟨d, hd, hdw⟩ := h1 i a hi
  obtain ⟨e, he, hew⟩ := h1 k b hk
  exact hu i k d e hd he (by rw [hdw, hew, hab])
theorem fndK_snoc {out : List LG.El} {p : LG.El} (h : fndK out (wayE p) = none) (k : LG.El) : fndK (out ++ [p]) k = if k = wayE p then some out.length else fndK out k := by
  by_cases e : k = wayE p
  · rw [if_pos e]
    unfold fndK at h ⊢
    rw [List.map_append, List.findIdx?_append]
    rw [← e] at h
    rw [h]
    simp [List.findIdx?_cons, e]
  · rw [if_neg e]
    unfold fndK
    rw [List.map_append, List.findIdx?_append]
    have : ¬ wayE p = k := fun q => e q.symm
    simp [List.findIdx?_cons, this]
/-- One leg joins. -/
def pstep (out : List LG.El) (p : LG.El) : Except Int (List LG.El) :=
  if qE p < 1 then .error 16 else match fndK out (wayE p) with
  | none => .ok (out ++ [p])
  | some j => match out[j]? with
    | none => .ok out
    | some y => if 9223372036854775807 < qE y + qE p then .error 9 else .ok (out.set j (addE y (qE y + qE p)))
def WOK (p : LG.El) : Prop := (Lit.int .i64 p.1).wf = true ∧ (Lit.int .i64 p.2.1).wf = true ∧ (Lit.int .i64 p.2.2.1).wf = true ∧ (Lit.int .i64 p.2.2.2.1).wf = true ∧ (Lit.int .i64 p.2.2.2.2).wf = true
theorem wf_rng {x : Int} (h : (Lit.int .i64 x).wf = true) : -9223372036854775808 ≤ x ∧ x ≤ 9223372036854775807 := by
  simp [Lit.wf, IntKind.min, IntKind.max, IntKind.signed, IntKind.bits] at h
  omega
theorem WOK.q {p : LG.El} (h : WOK p) : -9223372036854775808 ≤ qE p ∧ qE p ≤ 9223372036854775807 := wf_rng h.2.2.2.1
theorem WOK.way {p : LG.El} (h : WOK p) : WOK (wayE p) := ⟨h.1, h.2.1, h.2.2.1, (by decide : (Lit.int .i64 0).wf = true), h.2.2.2.2⟩
/-- What is known of the legs that are joined of a row. -/
structure PI (F out : List LG.El) : Prop where
  run : F.foldlM pstep [] = .ok out
  uq : Uq out
  rng : ∀ (j : Nat) (y : LG.El), out[j]? = some y → 1 ≤ qE y ∧ qE y ≤ 9223372036854775807
  len : out.length ≤ F.length
theorem PI.nil : PI [] [] := ⟨rfl, Uq.nil, fun j y h => by simp at h, Nat.le_refl _⟩
theorem foldlM_snoc (F : List LG.El) (p : LG.El) : (F ++ [p]).foldlM pstep [] = (F.foldlM pstep []) >>= fun o => pstep o p := by
  rw [List.foldlM_append]
  congr 1
  funext o
  simp
theorem PI.fresh {F out : List LG.El} (h : PI F out) {p : LG.El} (hp : WOK p) (hq : ¬ qE p < 1) (hn : fndK out (wayE p) = none) : PI (F ++ [p]) (out ++ [p]) := by
  refine ⟨?_, h.uq.snoc hn, fun j y hj => ?_, by simp; have := h.len; omega⟩
  · rw [foldlM_snoc, h.run]
    show pstep out p = _
    unfold pstep
    rw [if_neg hq, hn]
  · rw [List.getElem?_append] at hj
    split at hj
    · exact h.rng j y hj
    · rw [List.getElem?_singleton] at hj
      split at hj
      · injection hj with hj; subst hj; have := hp.q; omega
      · cases hj
theorem PI.more {F out : List LG.El} (h : PI F out) {p y : LG.El} {j : Nat} (hq : ¬ qE p < 1) (hn : fndK out (wayE p) = some j) (hj : out[j]? = some y) (ho : ¬ 9223372036854775807 < qE y + qE p) : PI (F ++ [p]) (out.set j (addE y (qE y + qE p))) := by
  refine ⟨?_, h.uq.set hj (way_add _ _), fun i z hi => ?_, by simp; have := h.len; omega⟩
  · rw [foldlM_snoc, h.run]
    show pstep out p = _
    unfold pstep
    rw [if_neg hq, hn]
    dsimp only
    rw [hj]
    dsimp only
    rw [if_neg ho]
  · by_cases e : j = i
    · subst e
      rw [List.getElem?_set_self (List.getElem?_eq_some_iff.1 hj).1] at hi
      injection hi with hi; subst hi
      rw [q_add]
      have := h.rng j y hj
      omega
    · rw [List.getElem?_set_ne e] at hi
      exact h.rng i z hi
/-- What all legs come to. -/
def poolF (F : List LG.El) : List LG.El × Int :=
  match F.foldlM pstep [] with
  | .error e => ([], e)
  | .ok out => if out.length = 0 then ([], 2) else if 4 < out.length then ([], 5) else (out, 0)
theorem poolF_err {F out : List LG.El} (h : PI F out) {p : LG.El} {e : Int} (he : pstep out p = .error e) (G : List LG.El) : poolF (F ++ p :: G) = ([], e) := by
  unfold poolF
  have : (F ++ p :: G).foldlM pstep [] = .error e := by
    rw [List.foldlM_append, h.run]
    show (p :: G).foldlM pstep out = _
    rw [List.foldlM_cons, he]
    rfl
  rw [this]
theorem PI.low {F out : List LG.El} (h : PI F out) {p : LG.El} (hq : qE p < 1) (G : List LG.El) : poolF (F ++ p :: G) = ([], 16) := poolF_err h (by unfold pstep; rw [if_pos hq]) G
theorem PI.over {F out : List LG.El} (h : PI F out) {p y : LG.El} {j : Nat} (hq : ¬ qE p < 1) (hn : fndK out (wayE p) = some j) (hj : out[j]? = some y) (ho : 9223372036854775807 < qE y + qE p) (G : List LG.El) : poolF (F ++ p :: G) = ([], 9) := poolF_err h (by
  unfold pstep
  rw [if_neg hq, hn]
  dsimp only
  rw [hj]
  dsimp only
  rw [if_pos ho]) G
theorem PI.is0 {F out : List LG.El} (h : PI F out) (h0 : out.length = 0) : poolF F = ([], 2) := by unfold poolF; rw [h.run]; dsimp only; rw [if_pos h0]
theorem PI.is4 {F out : List LG.El} (h : PI F out) (h0 : ¬ out.length = 0) (h4 : 4 < out.length) : poolF F = ([], 5) := by unfold poolF; rw [h.run]; dsimp only; rw [if_neg h0, if_pos h4]
theorem PI.is {F out : List LG.El} (h : PI F out) (h0 : ¬ out.length = 0) (h4 : ¬ 4 < out.length) : poolF F = (out, 0) := by unfold poolF; rw [h.run]; dsimp only; rw [if_neg h0, if_neg h4]
end Go.Proofs.YtfhimhjeilnkaaaDoor
