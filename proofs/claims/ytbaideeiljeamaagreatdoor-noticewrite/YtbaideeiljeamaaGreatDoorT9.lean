/-
  My own text: T8, T9 in one.
-/
import Derived.Test.YtbaideeiljeamaaGreatDoorT7
import Derived.Deep.Draws
namespace Go.Proofs.YtbaideeiljeamaaGreatDoor.TG
open Go.RowKit

mutual
def paI : Tr → Int → Int
  | .mk _ l, m => paL l m 0
def paL : List Tr → Int → Int → Int
  | [], _, n => n
  | a :: r, m, n => if n < m then paL r m (n + 1 + paI a (m - n)) else n
end
mutual
def szI : Tr → Nat
  | .mk i l => i.tag.length + i.qual.length + i.text.length + i.name.length + szL l 0
def szL : List Tr → Nat → Nat
  | [], n => n
  | a :: r, n => if n ≤ 16777216 then szL r (n + szI a) else n
end
theorem paI_eq (a : Tr) (m : Int) : paI a m = paL a.kids m 0 := by cases a; simp [paI, Tr.kids]
theorem szI_eq (a : Tr) : szI a = a.itm.tag.length + a.itm.qual.length + a.itm.text.length + a.itm.name.length + szL a.kids 0 := by cases a; simp [szI, Tr.itm, Tr.kids]
theorem paL_cons (a : Tr) (r : List Tr) (m n : Int) : paL (a :: r) m n = if n < m then paL r m (n + 1 + paI a (m - n)) else n := by rw [paL]
theorem szL_cons (a : Tr) (r : List Tr) (n : Nat) : szL (a :: r) n = if n ≤ 16777216 then szL r (n + szI a) else n := by rw [szL]
theorem paL_le : ∀ (d : Nat) (l : List Tr), wts l ≤ d → ∀ m n : Int, n ≤ paL l m n ∧ paL l m n ≤ n + wts l := by
  intro d
  induction d using Nat.strongRecOn with
  | ind d ih =>
    intro l
    induction l with
    | nil => intro _ m n; simp [paL, wts]
    | cons a r ihr =>
      intro hd m n
      rw [wts_cons] at hd ⊢
      have hw := wt_eq a
      rw [paL_cons]
      split
      · have h1 := ih (wts a.kids) (by omega) a.kids (Nat.le_refl _) (m - n) 0
        rw [← paI_eq] at h1
        have h2 := ihr (by omega) m (n + 1 + paI a (m - n))
        omega
      · omega
theorem szL_le : ∀ (d : Nat) (l : List Tr), wts l ≤ d → ∀ n : Nat, n ≤ szL l n ∧ szL l n ≤ n + wts l := by
  intro d
  induction d using Nat.strongRecOn with
  | ind d ih =>
    intro l
    induction l with
    | nil => intro _ n; simp [szL, wts]
    | cons a r ihr =>
      intro hd n
      rw [wts_cons] at hd ⊢
      have hw := wt_eq a
      rw [szL_cons]
      split
      · have h1 := ih (wts a.kids) (by omega) a.kids (Nat.le_refl _) 0
        have h3 := szI_eq a
        have h2 := ihr (by omega) (n + szI a)
        omega
      · omega
theorem paL_step {l : List Tr} {k : Nat} {a : Tr} {m n : Int} (h : l[k]? = some a) : paL (l.drop k) m n = if n < m then paL (l.drop (k + 1)) m (n + 1 + paI a (m - n)) else n := by rw [drop_cons h, paL_cons]
theorem szL_step {l : List Tr} {k : Nat} {a : Tr} {n : Nat} (h : l[k]? = some a) : szL (l.drop k) n = if n ≤ 16777216 then szL (l.drop (k + 1)) (n + szI a) else n := by rw [drop_cons h, szL_cons]
end Go.Proofs.YtbaideeiljeamaaGreatDoor.TG
namespace Go.Proofs.YtbaideeiljeamaaGreatDoor.TG
open Go.RowKit

theorem RT_drew {w : World} {v : Value} {l : List Tr} (h : RT w v l) (q : Nat) : RT (w.drewN q) v l := RT_later h ⟨rfl, rfl, rfl, Nat.le_refl _, fun _ _ => rfl⟩
end Go.Proofs.YtbaideeiljeamaaGreatDoor.TG
