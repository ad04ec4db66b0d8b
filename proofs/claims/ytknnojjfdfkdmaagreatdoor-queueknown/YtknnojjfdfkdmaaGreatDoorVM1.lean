/-
  My own text: layer 17: the mathematics of keys: their order, rising rows, each once.
-/
import Derived.Test.YtknnojjfdfkdmaaGreatDoorGKR
import Derived.Test.YtknnojjfdfkdmaaGreatDoorGLR
namespace Go.Proofs.YtknnojjfdfkdmaaGreatDoor
open Go.RowKit

abbrev Ky := KY.El
def ltK (a b : Ky) : Prop := a.1 < b.1 ∨ (a.1 = b.1 ∧ a.2 < b.2)
instance (a b : Ky) : Decidable (ltK a b) := by unfold ltK; infer_instance
theorem ltK_irr (a : Ky) : ¬ ltK a a := by unfold ltK; omega
theorem ltK_trans {a b c : Ky} (h : ltK a b) (k : ltK b c) : ltK a c := by unfold ltK at *; omega
theorem ltK_tri (a b : Ky) : ltK a b ∨ a = b ∨ ltK b a := by
  unfold ltK
  by_cases h : a.1 = b.1
  · by_cases k : a.2 = b.2
    · exact .inr (.inl (Prod.ext h k))
    · omega
  · omega
theorem ltK_ne {a b : Ky} (h : ltK a b) : a ≠ b := fun e => ltK_irr b (by rw [e] at h; exact h)
theorem ltK_asym {a b : Ky} (h : ltK a b) : ¬ ltK b a := fun k => ltK_irr a (ltK_trans h k)
/-- Rising, none twice. -/
def Inc (L : List Ky) : Prop := L.Pairwise ltK
theorem inc_nil : Inc [] := List.Pairwise.nil
theorem inc_one (k : Ky) : Inc [k] := List.pairwise_singleton _ _
theorem inc_uniq : ∀ {L M : List Ky}, Inc L → Inc M → (∀ x, x ∈ L ↔ x ∈ M) → L = M
  | [], [], _, _, _ => rfl
  | [], b :: M, _, _, h => by have := (h b).2 (by simp); cases this
  | a :: L, [], _, _, h => by have := (h a).1 (by simp); cases this
  | a :: L, b :: M, hL, hM, h => by
    obtain ⟨hL1, hL2⟩ := List.pairwise_cons.1 hL
    obtain ⟨hM1, hM2⟩ := List.pairwise_cons.1 hM
    have hab : a = b := by
      have h1 := (h a).1 (by simp)
      have h2 := (h b).2 (by simp)
      rcases List.mem_cons.1 h1 with e | e
      · exact e
      · rcases List.mem_cons.1 h2 with f | f
        · exact f.symm
        · exact absurd (hL1 b f) (ltK_asym (hM1 a e))
    subst hab
    have : L = M := inc_uniq hL2 hM2 (fun x => by
      constructor
      · intro hx
        rcases List.mem_cons.1 ((h x).1 (List.mem_cons_of_mem _ hx)) with e | e
        · exact absurd e.symm (ltK_ne (hL1 x hx))
        · exact e
      · intro hx
        rcases List.mem_cons.1 ((h x).2 (List.mem_cons_of_mem _ hx)) with e | e
        · exact absurd e.symm (ltK_ne (hM1 x hx))
        · exact e)
    rw [this]
/-- A key put where it belongs. -/
def insK (x : Ky) : List Ky → List Ky
  | [] => [x]
  | y :: t => if x = y then y :: t else if ltK x y then x :: y :: t else y :: insK x t
theorem mem_insK (x z : Ky) : ∀ (L : List Ky), z ∈ insK x L ↔ z = x ∨ z ∈ L
  | [] => by simp [insK]
  | y :: t => by
    unfold insK
    split
    · next h => subst h; simp
    · split
      · simp
      · have ih := mem_insK x z t
        simp only [List.mem_cons, ih]
        constructor
        · rintro (h | h | h) <;> simp [h]
        · rintro (h | h | h) <;> simp [h]
theorem inc_insK (x : Ky) : ∀ {L : List Ky}, Inc L → Inc (insK x L)
  | [], _ => inc_one x
  | y :: t, h => by
    obtain ⟨h1, h2⟩ := List.pairwise_cons.1 h
    unfold insK
    split
    · exact h
    · next hne =>
      split
      · next hlt => exact List.pairwise_cons.2 ⟨fun z hz => by
          rcases List.mem_cons.1 hz with e | e
          · rw [e]; exact hlt
          · exact ltK_trans hlt (h1 z e), h⟩
      · next hnl => exact List.pairwise_cons.2 ⟨fun z hz => by
          rcases (mem_insK x z t).1 hz with e | e
          · rw [e]
            rcases ltK_tri x y with k | k | k
            · exact absurd k hnl
            · exact absurd k hne
            · exact k
          · exact h1 z e, inc_insK x h2⟩
/-- Keys put one behind the other. -/
def ksF (A : List Ky) : List Ky → List Ky
  | [] => A
  | x :: t => ksF (insK x A) t
/-- Keys, rising, each once. -/
def ks (L : List Ky) : List Ky := ksF [] L
theorem ksF_inc : ∀ (L : List Ky) {A : List Ky}, Inc A → Inc (ksF A L)
  | [], _, h => h
  | x :: t, _, h => ksF_inc t (inc_insK x h)
theorem ksF_mem (z : Ky) : ∀ (L : List Ky) (A : List Ky), z ∈ ksF A L ↔ z ∈ A ∨ z ∈ L
  | [], A => by simp [ksF]
  | x :: t, A => by
    rw [show ksF A (x :: t) = ksF (insK x A) t from rfl, ksF_mem z t, mem_insK]
    simp only [List.mem_cons]
    constructor
    · rintro ((h | h) | h) <;> simp [h]
    · rintro (h | h | h) <;> simp [h]
theorem ksF_app (A : List Ky) : ∀ (L M : List Ky), ksF A (L ++ M) = ksF (ksF A L) M := by
  intro L
  induction L generalizing A with
  | nil => intro M; rfl
  | cons x t ih => intro M; exact ih (insK x A) M
theorem ks_inc (L : List Ky) : Inc (ks L) := ksF_inc L inc_nil
theorem ks_mem (z : Ky) (L : List Ky) : z ∈ ks L ↔ z ∈ L := by unfold ks; rw [ksF_mem]; simp
theorem ks_eq {L M : List Ky} (hM : Inc M) (h : ∀ z, z ∈ M ↔ z ∈ L) : M = ks L := inc_uniq hM (ks_inc L) (fun z => by rw [ks_mem]; exact h z)
theorem insK_len (x : Ky) : ∀ (L : List Ky), (insK x L).length ≤ L.length + 1
  | [] => by simp [insK]
  | y :: t => by
    unfold insK
    have := insK_len x t
    split
    · simp
    · split
      · simp
      · simp; omega
theorem ksF_len : ∀ (L A : List Ky), (ksF A L).length ≤ A.length + L.length
  | [], A => by simp [ksF]
  | x :: t, A => by
    rw [show ksF A (x :: t) = ksF (insK x A) t from rfl]
    have h1 := ksF_len t (insK x A)
    have h2 := insK_len x A
    simp only [List.length_cons]
    omega
theorem ks_len (L : List Ky) : (ks L).length ≤ L.length := by have := ksF_len L []; unfold ks; simpa using this
/-- Not falling. -/
def SrtK (L : List Ky) : Prop := L.Pairwise fun a b => ¬ ltK b a
/-- Neighbours that are the same, once. -/
def dd : List Ky → List Ky
  | [] => []
  | [x] => [x]
  | x :: y :: t => if x = y then dd (y :: t) else x :: dd (y :: t)
theorem dd_mem (z : Ky) : ∀ (L : List Ky), z ∈ dd L ↔ z ∈ L
  | [] => by simp [dd]
  | [x] => by simp [dd]
  | x :: y :: t => by
    have ih := dd_mem z (y :: t)
    unfold dd
    split
    · next h => subst h; rw [ih]; simp
    · simp only [List.mem_cons] at ih ⊢; rw [ih]
theorem dd_inc : ∀ {L : List Ky}, SrtK L → Inc (dd L)
  | [], _ => inc_nil
  | [x], _ => inc_one x
  | x :: y :: t, h => by
    obtain ⟨h1, h2⟩ := List.pairwise_cons.1 h
    have ih := dd_inc (L := y :: t) h2
    unfold dd
    split
    · exact ih
    · next hne =>
      refine List.pairwise_cons.2 ⟨fun z hz => ?_, ih⟩
      have hz' := (dd_mem z (y :: t)).1 hz
      have hxy : ltK x y := by
        rcases ltK_tri x y with k | k | k
        · exact k
        · exact absurd k hne
        · exact absurd k (h1 y (by simp))
      rcases List.mem_cons.1 hz' with e | e
      · rw [e]; exact hxy
      · have h3 := (List.pairwise_cons.1 h2).1 z e
        rcases ltK_tri y z with k | k | k
        · exact ltK_trans hxy k
        · rw [← k]; exact hxy
        · exact absurd k h3
theorem dd_len : ∀ (L : List Ky), (dd L).length ≤ L.length
  | [] => by simp [dd]
  | [x] => by simp [dd]
  | x :: y :: t => by
    have := dd_len (y :: t)
    unfold dd
    split
    · simp at *; omega
    · simp at *; omega
theorem dd_cc (x y : Ky) (t : List Ky) : dd (x :: y :: t) = if x = y then dd (y :: t) else x :: dd (y :: t) := by rw [dd]
/-- One more behind: the same as the last, or not. -/
theorem dd_snoc : ∀ (L : List Ky) (x y : Ky), dd (L ++ [x, y]) = if x = y then dd (L ++ [x]) else dd (L ++ [x]) ++ [y]
  | [], x, y => by
    simp only [List.nil_append]
    unfold dd
    split
    · next h => subst h; rfl
    · rfl
  | [a], x, y => by
    have ih := dd_snoc [] x y
    simp only [List.nil_append] at ih
    show dd (a :: x :: [y]) = if x = y then dd (a :: x :: []) else dd (a :: x :: []) ++ [y]
    rw [dd_cc a x [y], dd_cc a x [], ih]
    split <;> split <;> rfl
  | a :: b :: L, x, y => by
    have ih := dd_snoc (b :: L) x y
    show dd (a :: b :: (L ++ [x, y])) = if x = y then dd (a :: b :: (L ++ [x])) else dd (a :: b :: (L ++ [x])) ++ [y]
    rw [dd_cc a b (L ++ [x, y]), dd_cc a b (L ++ [x])]
    simp only [List.cons_append] at ih
    rw [ih]
    split <;> split <;> rfl
theorem dd_take {L : List Ky} {p : Nat} {x y : Ky} (hx : L[p]? = some x) (hy : L[p + 1]? = some y) : dd (L.take (p + 2)) = if x = y then dd (L.take (p + 1)) else dd (L.take (p + 1)) ++ [y] := by
  have e1 : L.take (p + 1) = L.take p ++ [x] := by rw [List.take_add_one, hx]; rfl
  have e2 : L.take (p + 2) = L.take p ++ [x, y] := by rw [show p + 2 = p + 1 + 1 from rfl, List.take_add_one, hy, e1]; simp
  rw [e2, e1, dd_snoc]
/-- What legs name, and their record. -/
def lgK (L : List LG.El) : List Ky := L.flatMap fun l => [(l.1, l.2.2.1), (l.2.1, l.2.2.1)]
theorem lgK_len (L : List LG.El) : (lgK L).length = L.length * 2 := by
  unfold lgK
  induction L with
  | nil => rfl
  | cons l t ih => rw [List.flatMap_cons, List.length_append, ih]; simp; omega
theorem lgK_take {L : List LG.El} {k : Nat} {l : LG.El} (h : L[k]? = some l) : lgK (L.take (k + 1)) = lgK (L.take k) ++ [(l.1, l.2.2.1), (l.2.1, l.2.2.1)] := by
  unfold lgK
  rw [List.take_add_one, h, List.flatMap_append]; rfl
def lkK (id : Int) (L : List LG.El) : List Ky := ks ((-1, id) :: lgK L)
end Go.Proofs.YtknnojjfdfkdmaaGreatDoor
