/-
  My own text: the mathematics of layer 16: what is wrong with an operation, and its row.
-/
import Derived.Test.YtdjhbecbbmdimaaGreatDoorGKR
import Derived.Test.YtdjhbecbbmdimaaGreatDoorGLR
import Derived.Test.YtdjhbecbbmdimaaGreatDoorGIR
namespace Go.Proofs.YtdjhbecbbmdimaaGreatDoor
open Go.RowKit

/-- The first that isn't zero. -/
def fst0 : List Int → Int
  | [] => 0
  | x :: t => if x = 0 then fst0 t else x
theorem fst0_app : ∀ (a b : List Int), fst0 (a ++ b) = if fst0 a = 0 then fst0 b else fst0 a
  | [], b => by simp [fst0]
  | x :: t, b => by
    by_cases h : x = 0
    · show (if x = 0 then fst0 (t ++ b) else x) = if (if x = 0 then fst0 t else x) = 0 then _ else (if x = 0 then fst0 t else x)
      rw [if_pos h, if_pos h, fst0_app t b]
    · show (if x = 0 then fst0 (t ++ b) else x) = if (if x = 0 then fst0 t else x) = 0 then _ else (if x = 0 then fst0 t else x)
      rw [if_neg h, if_neg h, if_neg h]
theorem fst0_take {L : List Int} {k : Nat} {x : Int} (h0 : fst0 (L.take k) = 0) (hx : L[k]? = some x) : fst0 (L.take (k + 1)) = x := by
  rw [List.take_add_one, hx, fst0_app, if_pos h0]
  by_cases h : x = 0
  · simp [fst0, h]
  · simp [fst0, h]
theorem fst0_hit {L : List Int} {k : Nat} {x : Int} (h0 : fst0 (L.take k) = 0) (hx : L[k]? = some x) (hn : ¬ x = 0) : fst0 L = x := by
  have h := fst0_take h0 hx
  rw [← List.take_append_drop (k + 1) L, fst0_app, h, if_neg hn]
theorem fst0_mem : ∀ (L : List Int), fst0 L = 0 ∨ fst0 L ∈ L
  | [] => .inl rfl
  | x :: t => by
    by_cases h : x = 0
    · have e : fst0 (x :: t) = fst0 t := by show (if x = 0 then fst0 t else x) = _; rw [if_pos h]
      rw [e]
      rcases fst0_mem t with h1 | h1
      · exact .inl h1
      · exact .inr (List.mem_cons_of_mem _ h1)
    · have e : fst0 (x :: t) = x := by show (if x = 0 then fst0 t else x) = _; rw [if_neg h]
      rw [e]; exact .inr List.mem_cons_self
/-- What is wrong with an account and an asset. -/
def kyE (A S a s : Int) : Int := if 0 ≤ a ∧ a < A then (if 0 ≤ s ∧ s < S then 0 else 15) else 14
/-- .. with an amount of them. -/
def hdE (A S a s q : Int) : Int := if kyE A S a s = 0 then (if q < 1 then 16 else 0) else kyE A S a s
/-- .. under a name. -/
def mkE (A S a s q n : Int) : Int := if hdE A S a s q = 0 then (if 1 ≤ n ∧ n ≤ 65536 then 0 else 19) else hdE A S a s q
def idE (i : Int) : Int := if 1 ≤ i ∧ i ≤ 1099511627776 then 0 else 1
/-- .. with a leg. -/
def lgE (A S : Int) (l : LG.El) : Int :=
  if 0 ≤ l.1 ∧ l.1 < A then (if 0 ≤ l.2.1 ∧ l.2.1 < A then (if l.1 = l.2.1 then 17 else if 0 ≤ l.2.2.1 ∧ l.2.2.1 < S then (if l.2.2.2.1 < 1 then 16 else if 0 ≤ l.2.2.2.2 ∧ l.2.2.2.2 ≤ 65536 then 0 else 19) else 15) else 14) else 14
def lgsE (A S : Int) (L : List LG.El) : Int := fst0 (L.map (lgE A S))
def sbE (A S i : Int) (L : List LG.El) : Int := if idE i = 0 then (if L.length = 0 then 2 else if 4 < L.length then 5 else lgsE A S L) else 1
def prsE (A S : Int) (L : List KY.El) : Int := fst0 (L.map fun p => kyE A S p.1 p.2)
def snE (A S : Int) (L : List KY.El) : Int := if 64 < L.length then 5 else prsE A S L
/-- An operation. -/
structure OpX where
  code : Int
  acc : Int
  ass : Int
  qty : Int
  name : Int
  id : Int
  legs : List LG.El
  pairs : List KY.El
/-- What is wrong with an operation. -/
def chk (A S : Int) (o : OpX) : Int :=
  if o.code = 1 ∨ o.code = 2 then hdE A S o.acc o.ass o.qty
  else if o.code = 3 ∨ o.code = 4 then mkE A S o.acc o.ass o.qty o.name
  else if o.code = 5 then sbE A S o.id o.legs
  else if o.code = 6 ∨ o.code = 7 then idE o.id
  else if o.code = 8 then snE A S o.pairs
  else 13
theorem kyE_rng (A S a s : Int) : 0 ≤ kyE A S a s ∧ kyE A S a s ≤ 24 := by unfold kyE; repeat' split <;> omega
theorem hdE_rng (A S a s q : Int) : 0 ≤ hdE A S a s q ∧ hdE A S a s q ≤ 24 := by have := kyE_rng A S a s; unfold hdE; repeat' split <;> omega
theorem mkE_rng (A S a s q n : Int) : 0 ≤ mkE A S a s q n ∧ mkE A S a s q n ≤ 24 := by have := hdE_rng A S a s q; unfold mkE; repeat' split <;> omega
theorem idE_rng (i : Int) : 0 ≤ idE i ∧ idE i ≤ 24 := by unfold idE; split <;> omega
theorem lgE_rng (A S : Int) (l : LG.El) : 0 ≤ lgE A S l ∧ lgE A S l ≤ 24 := by unfold lgE; repeat' split <;> omega
theorem fst0_rng {L : List Int} (h : ∀ x ∈ L, 0 ≤ x ∧ x ≤ 24) : 0 ≤ fst0 L ∧ fst0 L ≤ 24 := by
  rcases fst0_mem L with e | e
  · rw [e]; omega
  · exact h _ e
theorem lgsE_rng (A S : Int) (L : List LG.El) : 0 ≤ lgsE A S L ∧ lgsE A S L ≤ 24 := fst0_rng (fun x hx => by
  obtain ⟨l, _, rfl⟩ := List.mem_map.1 hx; exact lgE_rng A S l)
theorem prsE_rng (A S : Int) (L : List KY.El) : 0 ≤ prsE A S L ∧ prsE A S L ≤ 24 := fst0_rng (fun x hx => by
  obtain ⟨l, _, rfl⟩ := List.mem_map.1 hx; exact kyE_rng A S l.1 l.2)
theorem sbE_rng (A S i : Int) (L : List LG.El) : 0 ≤ sbE A S i L ∧ sbE A S i L ≤ 24 := by have := lgsE_rng A S L; unfold sbE; repeat' split <;> omega
theorem snE_rng (A S : Int) (L : List KY.El) : 0 ≤ snE A S L ∧ snE A S L ≤ 24 := by have := prsE_rng A S L; unfold snE; repeat' split <;> omega
theorem chk_rng (A S : Int) (o : OpX) : 0 ≤ chk A S o ∧ chk A S o ≤ 24 := by
  unfold chk
  repeat' split
  · exact hdE_rng _ _ _ _ _
  · exact mkE_rng _ _ _ _ _ _
  · exact sbE_rng _ _ _ _
  · exact idE_rng _
  · exact snE_rng _ _ _
  · omega
end Go.Proofs.YtdjhbecbbmdimaaGreatDoor
