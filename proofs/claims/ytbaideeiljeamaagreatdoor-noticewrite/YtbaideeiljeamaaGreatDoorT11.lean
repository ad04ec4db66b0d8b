/-
  My own text: T10, T11 in one.
-/
import Derived.Test.YtbaideeiljeamaaGreatDoorT9
import Derived.Lib.Builder
import Derived.Lib.OthersKept
namespace Go.Proofs.YtbaideeiljeamaaGreatDoor.TG
open Go.RowKit

def fT (i : Itm) : List UInt8 := [58] ++ i.tag ++ [58] ++ (if i.qual.isEmpty then [] else [58] ++ i.qual ++ [47, 47]) ++ i.text ++ [10]
def bO (n : List UInt8) : List UInt8 := [58, 49, 54, 82, 58] ++ n ++ [10]
def bC (n : List UInt8) : List UInt8 := [58, 49, 54, 83, 58] ++ n ++ [10]
mutual
def errI : Tr → Int → Int
  | .mk i l, d => if itemE i l.length d ≠ 0 then itemE i l.length d else if !i.tag.isEmpty then 0 else errL l (d + 1)
def errL : List Tr → Int → Int
  | [], _ => 0
  | a :: r, d => if errI a d ≠ 0 then errI a d else errL r d
end
mutual
def txtI : Tr → List UInt8
  | .mk i l => if !i.tag.isEmpty then fT i else bO i.name ++ txtL l ++ bC i.name
def txtL : List Tr → List UInt8
  | [] => []
  | a :: r => txtI a ++ txtL r
end
theorem errI_eq (a : Tr) (d : Int) : errI a d = if itemE a.itm a.kids.length d ≠ 0 then itemE a.itm a.kids.length d else if !a.itm.tag.isEmpty then 0 else errL a.kids (d + 1) := by cases a; rw [errI]; rfl
theorem txtI_eq (a : Tr) : txtI a = if !a.itm.tag.isEmpty then fT a.itm else bO a.itm.name ++ txtL a.kids ++ bC a.itm.name := by cases a; rw [txtI]; rfl
theorem errL_step {l : List Tr} {k : Nat} {a : Tr} {d : Int} (h : l[k]? = some a) : errL (l.drop k) d = if errI a d ≠ 0 then errI a d else errL (l.drop (k + 1)) d := by rw [drop_cons h, errL]
theorem txtL_app (a b : List Tr) : txtL (a ++ b) = txtL a ++ txtL b := by
  induction a with
  | nil => simp [txtL]
  | cons c r ih => rw [List.cons_append, txtL, ih, txtL, List.append_assoc]
theorem txtL_take {l : List Tr} {k : Nat} {a : Tr} (h : l[k]? = some a) : txtL (l.take (k + 1)) = txtL (l.take k) ++ txtI a := by
  rw [List.take_add_one, h, txtL_app]; simp [txtL]
theorem fT_len (i : Itm) : (fT i).length ≤ 6 + i.tag.length + i.qual.length + i.text.length := by
  unfold fT
  split <;> simp <;> omega
theorem txtL_len : ∀ (d : Nat) (l : List Tr), wts l ≤ d → (txtL l).length ≤ 14 * wts l := by
  intro d
  induction d using Nat.strongRecOn with
  | ind d ih =>
    intro l
    induction l with
    | nil => intro _; simp [txtL, wts]
    | cons a r ihr =>
      intro hd
      rw [wts_cons] at hd ⊢
      have hw := wt_eq a
      have h2 := ihr (by omega)
      rw [txtL, List.length_append, txtI_eq]
      split
      · have := fT_len a.itm; omega
      · have := ih (wts a.kids) (by omega) a.kids (Nat.le_refl _)
        simp only [List.length_append, bO, bC, List.length_cons, List.length_nil]
        omega
theorem wts_take_le (l : List Tr) (k : Nat) : wts (l.take k) ≤ wts l := by
  induction l generalizing k with
  | nil => simp
  | cons a r ih =>
    cases k with
    | zero => simp [wts]
    | succ k => have := ih k; rw [List.take_succ_cons, wts_cons, wts_cons]; omega
theorem cat (a b : List UInt8) (n : Nat) (h : a.length + b.length ≤ n) : ∃ P : List UInt8, (⟨a.toArray⟩ : ByteArray) ++ ⟨b.toArray⟩ = ⟨P.toArray⟩ ∧ Hid (P = a ++ b) ∧ P.length ≤ n :=
  ⟨a ++ b, by apply ByteArray.ext; simp, hide rfl, by simpa using h⟩
theorem ret_ti {a b : List UInt8} {x y : Int} (h : a = b) (h2 : x = y) : Ending.returned (.tuple #[.string ⟨a.toArray⟩, .int .i64 x]) = .returned (.tuple #[.string ⟨b.toArray⟩, .int .i64 y]) := by rw [h, h2]
def lnT (l : List Tr) (d : Int) : List UInt8 := if errL l d = 0 then txtL l else []
end Go.Proofs.YtbaideeiljeamaaGreatDoor.TG
namespace Go.Proofs.YtbaideeiljeamaaGreatDoor.TG
open Go.RowKit

def prE (l : List Tr) : Int := if errL l 0 ≠ 0 then errL l 0 else if 1048576 < (txtL l).length then 5 else 0
def prT (l : List Tr) : List UInt8 := if prE l = 0 then txtL l else []
theorem Tryz.sizeBld : (Tryz.prog.info? 171).map (·.size) = some 2 := by kernel_rfl
end Go.Proofs.YtbaideeiljeamaaGreatDoor.TG
