/-
  My own text: T6, T7 in one.
-/
import Derived.Test.YtbaideeiljeamaaGreatDoorT5
namespace Go.Proofs.YtbaideeiljeamaaGreatDoor.TG
open Go.RowKit

theorem Tryz.sizeItm : (Tryz.prog.info? 58).map (·.size) = some 5 := by kernel_rfl
theorem itemE_field {i : Itm} {n : Nat} {d : Int} (h : i.tag.isEmpty = false) : itemE i n d = fieldE i n := by unfold itemE; rw [h]; rfl
theorem itemE_none {i : Itm} {n : Nat} {d : Int} (h : i.tag.isEmpty = true) (h2 : i.name.isEmpty = true) : itemE i n d = 24 := by unfold itemE; rw [h, h2]; rfl
theorem itemE_block {i : Itm} {n : Nat} {d : Int} (h : i.tag.isEmpty = true) (h2 : i.name.isEmpty = false) : itemE i n d = blockE i d := by unfold itemE; rw [h, h2]; rfl
end Go.Proofs.YtbaideeiljeamaaGreatDoor.TG
namespace Go.Proofs.YtbaideeiljeamaaGreatDoor.TG
open Go.RowKit

/-- An item with what it holds. -/
inductive Tr where
  | mk (i : Itm) (l : List Tr)
def Tr.itm : Tr → Itm
  | .mk i _ => i
def Tr.kids : Tr → List Tr
  | .mk _ l => l
mutual
/-- How much an item weighs. -/
def Tr.wt : Tr → Nat
  | .mk i l => 1 + i.tag.length + i.qual.length + i.text.length + i.name.length + wts l
def wts : List Tr → Nat
  | [] => 0
  | a :: r => a.wt + wts r
end
theorem wt_eq (a : Tr) : a.wt = 1 + a.itm.tag.length + a.itm.qual.length + a.itm.text.length + a.itm.name.length + wts a.kids := by
  cases a; simp [Tr.wt, Tr.itm, Tr.kids]
theorem wts_cons (a : Tr) (r : List Tr) : wts (a :: r) = a.wt + wts r := by simp [wts]
theorem wts_at : ∀ {l : List Tr} {k : Nat} {a : Tr}, l[k]? = some a → a.wt ≤ wts l
  | b :: r, 0, a, h => by simp at h; subst h; rw [wts_cons]; omega
  | b :: r, k + 1, a, h => by
    have := wts_at (l := r) (k := k) (a := a) (by simpa using h)
    rw [wts_cons]; omega
theorem wts_len : ∀ l : List Tr, l.length ≤ wts l
  | [] => by simp [wts]
  | a :: r => by
    have h1 := wts_len r
    have h2 := wt_eq a
    rw [wts_cons]; simp; omega
theorem wts_drop {l : List Tr} {k : Nat} {a : Tr} (h : l[k]? = some a) : wts (l.drop k) = a.wt + wts (l.drop (k + 1)) := by
  have hj : k < l.length := (List.getElem?_eq_some_iff.1 h).1
  rw [List.drop_eq_getElem_cons hj, wts_cons]; congr 2; exact (List.getElem?_eq_some_iff.1 h).2
theorem wts_drop_le (l : List Tr) (k : Nat) : wts (l.drop k) ≤ wts l := by
  induction l generalizing k with
  | nil => simp
  | cons a r ih =>
    cases k with
    | zero => simp
    | succ k => have := ih k; rw [List.drop_succ_cons, wts_cons]; omega
theorem drop_cons {l : List Tr} {k : Nat} {a : Tr} (h : l[k]? = some a) : l.drop k = a :: l.drop (k + 1) := by
  have hj : k < l.length := (List.getElem?_eq_some_iff.1 h).1
  rw [List.drop_eq_getElem_cons hj]; congr 1; exact (List.getElem?_eq_some_iff.1 h).2
mutual
/-- An item in memory. -/
def RI (w : World) : Tr → Nat → Nat → Prop
  | .mk i l, b, off => w.cell? ⟨b, off, none⟩ = some (.string ⟨i.tag.toArray⟩) ∧ w.cell? ⟨b, off + 1, none⟩ = some (.string ⟨i.qual.toArray⟩) ∧ w.cell? ⟨b, off + 2, none⟩ = some (.string ⟨i.text.toArray⟩) ∧ w.cell? ⟨b, off + 3, none⟩ = some (.string ⟨i.name.toArray⟩) ∧ ∃ a cap, w.cell? ⟨b, off + 4, none⟩ = some (.slice a l.length cap) ∧ (l = [] ∨ ∃ b' off', a = some ⟨b', off', none⟩ ∧ b' < w.heap.size ∧ RR w l b' off')
def RR (w : World) : List Tr → Nat → Nat → Prop
  | [], _, _ => True
  | a :: r, b, off => RI w a b off ∧ RR w r b (off + 5)
end
/-- A list of items in memory. -/
def RT (w : World) (v : Value) (l : List Tr) : Prop := ∃ a cap, v = .slice a l.length cap ∧ (l = [] ∨ ∃ b off, a = some ⟨b, off, none⟩ ∧ b < w.heap.size ∧ RR w l b off)
theorem RI_iff {w : World} {a : Tr} {b off : Nat} : RI w a b off ↔ w.cell? ⟨b, off, none⟩ = some (.string ⟨a.itm.tag.toArray⟩) ∧ w.cell? ⟨b, off + 1, none⟩ = some (.string ⟨a.itm.qual.toArray⟩) ∧ w.cell? ⟨b, off + 2, none⟩ = some (.string ⟨a.itm.text.toArray⟩) ∧ w.cell? ⟨b, off + 3, none⟩ = some (.string ⟨a.itm.name.toArray⟩) ∧ ∃ v, w.cell? ⟨b, off + 4, none⟩ = some v ∧ RT w v a.kids := by
  obtain ⟨i, l⟩ := a
  unfold RI RT Tr.itm Tr.kids
  constructor
  · rintro ⟨h1, h2, h3, h4, a, cap, h5, h6⟩
    exact ⟨h1, h2, h3, h4, _, h5, a, cap, rfl, h6⟩
  · rintro ⟨h1, h2, h3, h4, v, h5, a, cap, rfl, h6⟩
    exact ⟨h1, h2, h3, h4, a, cap, h5, h6⟩
theorem RR_cons {w : World} {a : Tr} {r : List Tr} {b off : Nat} : RR w (a :: r) b off ↔ RI w a b off ∧ RR w r b (off + 5) := by rw [RR]
theorem RR_at {w : World} : ∀ {l : List Tr} {b off k : Nat} {a : Tr}, RR w l b off → l[k]? = some a → RI w a b (off + k * 5)
  | c :: r, b, off, 0, a, h, hk => by simp at hk; subst hk; exact (RR_cons.1 h).1
  | c :: r, b, off, k + 1, a, h, hk => by
    have := RR_at (RR_cons.1 h).2 (k := k) (a := a) (by simpa using hk)
    rw [show off + (k + 1) * 5 = off + 5 + k * 5 by omega]; exact this
theorem RR_mk {w : World} : ∀ {l : List Tr} {b off : Nat}, (∀ k a, l[k]? = some a → RI w a b (off + k * 5)) → RR w l b off
  | [], b, off, _ => by rw [RR]; trivial
  | c :: r, b, off, h => RR_cons.2 ⟨by have := h 0 c rfl; simpa using this, RR_mk (fun k a hk => by
      have := h (k + 1) a (by simpa using hk)
      rw [show off + (k + 1) * 5 = off + 5 + k * 5 by omega] at this; exact this)⟩
theorem RR_later {w w' : World} (hb : ∀ g, g < w.heap.size → w'.heap[g]? = w.heap[g]?) (hs : w.heap.size ≤ w'.heap.size) : ∀ (d : Nat) (l : List Tr) (b off : Nat), wts l ≤ d → b < w.heap.size → RR w l b off → RR w' l b off := by
  have hc : ∀ {b o : Nat} {v : Value}, b < w.heap.size → w.cell? ⟨b, o, none⟩ = some v → w'.cell? ⟨b, o, none⟩ = some v := by
    intro b o v hlt h
    rw [← h]; unfold World.cell?; rw [hb b hlt]
  intro d
  induction d using Nat.strongRecOn with
  | ind d ih =>
    intro l b off hd hlt h
    refine RR_mk (fun k a hk => ?_)
    obtain ⟨h1, h2, h3, h4, v, h5, ad, cap, rfl, h6⟩ := RI_iff.1 (RR_at h hk)
    refine RI_iff.2 ⟨hc hlt h1, hc hlt h2, hc hlt h3, hc hlt h4, _, hc hlt h5, ad, cap, rfl, ?_⟩
    rcases h6 with h6 | ⟨b', off', e, hlt', h6⟩
    · exact .inl h6
    · have hw := wts_at hk
      have he := wt_eq a
      exact .inr ⟨b', off', e, Nat.lt_of_lt_of_le hlt' hs, ih (wts a.kids) (by omega) a.kids b' off' (Nat.le_refl _) hlt' h6⟩
theorem RT_later {w w' : World} {v : Value} {l : List Tr} (h : RT w v l) (hb : Below w.heap.size w w') : RT w' v l := by
  obtain ⟨a, cap, rfl, h⟩ := h
  refine ⟨a, cap, rfl, ?_⟩
  rcases h with h | ⟨b, off, e, hlt, h⟩
  · exact .inl h
  · exact .inr ⟨b, off, e, Nat.lt_of_lt_of_le hlt hb.size, RR_later (fun g hg => hb.block g hg) hb.size (wts l) l b off (Nat.le_refl _) hlt h⟩
/-- What a place of a row of items holds. -/
theorem RT_at {w : World} {a : Option Addr} {l : List Tr} {k : Nat} {t : Tr} (h : l = [] ∨ ∃ b off, a = some ⟨b, off, none⟩ ∧ b < w.heap.size ∧ RR w l b off) (hk : l[k]? = some t) :
    ∃ b off v, a = some ⟨b, off, none⟩ ∧ b < w.heap.size ∧ w.cell? ⟨b, off + k * 5, none⟩ = some (.string ⟨t.itm.tag.toArray⟩) ∧ w.cell? ⟨b, off + k * 5 + 1, none⟩ = some (.string ⟨t.itm.qual.toArray⟩) ∧ w.cell? ⟨b, off + k * 5 + 2, none⟩ = some (.string ⟨t.itm.text.toArray⟩) ∧ w.cell? ⟨b, off + k * 5 + 3, none⟩ = some (.string ⟨t.itm.name.toArray⟩) ∧ w.cell? ⟨b, off + k * 5 + 4, none⟩ = some v ∧ RT w v t.kids := by
  rcases h with h | ⟨b, off, e, hlt, h⟩
  · subst h; simp at hk
  · obtain ⟨h1, h2, h3, h4, v, h5, h6⟩ := RI_iff.1 (RR_at h hk)
    exact ⟨b, off, v, e, hlt, h1, h2, h3, h4, h5, h6⟩
theorem iok_of {a : Tr} {d : Nat} (h : a.wt ≤ d) (hd : d ≤ 140737488355328) : IOk a.itm := by
  have := wt_eq a
  exact ⟨by omega, by omega, by omega, by omega⟩
end Go.Proofs.YtbaideeiljeamaaGreatDoor.TG
