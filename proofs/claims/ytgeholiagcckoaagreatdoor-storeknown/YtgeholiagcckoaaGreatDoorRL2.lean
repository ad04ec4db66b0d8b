/-
  My own text: RL1, RL2 in one.
-/
import Derived.Test.YtgeholiagcckoaaGreatDoorRF7
import Derived.Test.YtgeholiagcckoaaGreatDoorSR1
import Derived.Test.YtgeholiagcckoaaGreatDoorSN9
import Derived.Test.YtgeholiagcckoaaGreatDoorTL2
namespace Go.Proofs.YtgeholiagcckoaaGreatDoor
open Go.RowKit

/-- R, L, bg: the program's readers; D: the document's. -/
structure RDl (R : List (Int × Int)) (L : List Int) (bg : Nat) (D : List (Int × Bool)) : Prop where
  rs : RS R L
  len : bg = D.length
  at' : ∀ (b n : Int), (b, n) ∈ R ↔ ∃ j : Nat, b = (j : Int) + 1 ∧ D[j]? = some (n, false)
theorem RDl.nil : RDl [] [] 0 [] := ⟨RS.nil, rfl, fun b n => ⟨fun h => (by cases h), fun ⟨j, _, h⟩ => (by simp at h)⟩⟩
theorem oldD_low : ∀ (D : List (Int × Bool)) (m : Int), oldD m D ≤ m ∧ (∀ n, (n, false) ∈ D → oldD m D ≤ n) ∧ (oldD m D = m ∨ ∃ n, (n, false) ∈ D ∧ oldD m D = n)
  | [], m => ⟨Int.le_refl _, fun n h => (by cases h), .inl rfl⟩
  | p :: r, m => by
    obtain ⟨h1, h2, h3⟩ := oldD_low r (if p.2 = false ∧ p.1 < m then p.1 else m)
    have hle : (if p.2 = false ∧ p.1 < m then p.1 else m) ≤ m := by split <;> omega
    refine ⟨Int.le_trans h1 hle, fun n hn => ?_, ?_⟩
    · rcases List.mem_cons.1 hn with e | hn
      · subst e
        refine Int.le_trans h1 ?_
        by_cases hc : n < m
        · rw [if_pos ⟨rfl, hc⟩]; exact Int.le_refl _
        · rw [if_neg (fun e => hc e.2)]; omega
      · exact h2 n hn
    · show oldD (if p.2 = false ∧ p.1 < m then p.1 else m) r = m ∨ _
      rcases h3 with h3 | ⟨n, hn, h3⟩
      · by_cases hc : p.2 = false ∧ p.1 < m
        · rw [if_pos hc] at h3
          refine .inr ⟨p.1, by rw [show p = (p.1, false) from Prod.ext rfl hc.1]; simp, ?_⟩
          show oldD (if p.2 = false ∧ p.1 < m then p.1 else m) r = p.1
          rw [if_pos hc]; exact h3
        · rw [if_neg hc] at h3 ⊢
          exact .inl h3
      · exact .inr ⟨n, List.mem_cons_of_mem _ hn, h3⟩
theorem oldR_is (m : Int) : ∀ L : List Int, oldR m L = m ∨ ∃ n ∈ L, oldR m L = n
  | [] => .inl rfl
  | x :: r => by
    show min m x = m ∨ _
    rcases Int.le_total m x with h | h
    · exact .inl (Int.min_eq_left h)
    · exact .inr ⟨x, by simp, Int.min_eq_right h⟩
theorem RDl.open_in {R : List (Int × Int)} {L : List Int} {bg : Nat} {D : List (Int × Bool)} (h : RDl R L bg D) (n : Int) : n ∈ L ↔ (n, false) ∈ D := by
  rw [h.rs.perm.mem_iff, List.mem_map]
  constructor
  · rintro ⟨⟨b, n'⟩, hm, rfl⟩
    obtain ⟨j, _, hj⟩ := (h.at' b n').1 hm
    exact List.mem_of_getElem? hj
  · intro hm
    obtain ⟨j, hj⟩ := List.getElem?_of_mem hm
    exact ⟨((j : Int) + 1, n), (h.at' _ n).2 ⟨j, rfl, hj⟩, rfl⟩
theorem RDl.old {R : List (Int × Int)} {L : List Int} {bg : Nat} {D : List (Int × Bool)} (h : RDl R L bg D) (m : Int) : oldR m L = oldD m D := by
  obtain ⟨d1, d2, d3⟩ := oldD_low D m
  have r1 := oldR_le m L
  have r2 : ∀ n, n ∈ L → oldR m L ≤ n := fun n hn => oldR_mem h.rs.srt hn
  refine Int.le_antisymm ?_ ?_
  · rcases d3 with e | ⟨n, hn, e⟩
    · rw [e]; exact r1
    · rw [e]; exact r2 n ((h.open_in n).2 hn)
  · rcases oldR_is m L with e | ⟨n, hn, e⟩
    · rw [e]; exact d1
    · rw [e]; exact d2 n ((h.open_in n).1 hn)
theorem find_in {R : List (Int × Int)} {N : Int} : (R.find? fun p => p.1 == N).isSome = true ↔ ∃ n, (N, n) ∈ R := by
  rw [List.find?_isSome]
  constructor
  · rintro ⟨p, hp, e⟩
    have e' : p.1 = N := by simpa using e
    exact ⟨p.2, by rw [← e']; exact hp⟩
  · rintro ⟨n, hn⟩
    exact ⟨_, hn, by simp⟩
theorem RDl.has {R : List (Int × Int)} {L : List Int} {bg : Nat} {D : List (Int × Bool)} (h : RDl R L bg D) (N : Int) : (R.find? fun p => p.1 == N).isSome = clB D N := by
  rw [Bool.eq_iff_iff, find_in]
  constructor
  · rintro ⟨n, hn⟩
    obtain ⟨j, rfl, hj⟩ := (h.at' _ n).1 hn
    unfold clB
    rw [show ((j : Int) + 1 - 1).toNat = j by omega, hj]
    simp
    omega
  · intro hc
    obtain ⟨j, n, rfl, hj, _⟩ := clB_at hc
    exact ⟨n, (h.at' _ n).2 ⟨j, rfl, hj⟩⟩
theorem RDl.opens {R : List (Int × Int)} {L : List Int} {bg : Nat} {D : List (Int × Bool)} (h : RDl R L bg D) (q : Int) : RDl (((bg : Int) + 1, q) :: R) (insR q L) (bg + 1) (D ++ [(q, false)]) := by
  refine ⟨h.rs.opens _ q (fun p hp e => ?_), by rw [List.length_append, h.len]; rfl, fun b n => ?_⟩
  · obtain ⟨j, hj1, hj2⟩ := (h.at' p.1 p.2).1 hp
    have := (List.getElem?_eq_some_iff.1 hj2).1
    have := h.len
    omega
  · rw [List.mem_cons]
    constructor
    · rintro (e | hm)
      · injection e with e1 e2
        subst e1 e2
        exact ⟨bg, rfl, by rw [h.len]; simp⟩
      · obtain ⟨j, hj1, hj2⟩ := (h.at' b n).1 hm
        exact ⟨j, hj1, by rw [List.getElem?_append_left (List.getElem?_eq_some_iff.1 hj2).1]; exact hj2⟩
    · rintro ⟨j, rfl, hj⟩
      by_cases hl : j < D.length
      · rw [List.getElem?_append_left hl] at hj
        exact .inr ((h.at' _ n).2 ⟨j, rfl, hj⟩)
      · have e : j = D.length := by have := (List.getElem?_eq_some_iff.1 hj).1; simp at this; omega
        subst e
        simp at hj
        rw [hj, h.len]
        exact .inl rfl
theorem RDl.ends {R : List (Int × Int)} {L : List Int} {bg : Nat} {D : List (Int × Bool)} (h : RDl R L bg D) {j : Nat} {n : Int} (hj : D[j]? = some (n, false)) : RDl (endR ((j : Int) + 1) R) (delR n L) bg (D.set j (n, true)) := by
  have hm : ((j : Int) + 1, n) ∈ R := (h.at' _ n).2 ⟨j, rfl, hj⟩
  have hl := (List.getElem?_eq_some_iff.1 hj).1
  refine ⟨h.rs.ends hm, by rw [List.length_set]; exact h.len, fun b m => ?_⟩
  unfold endR
  rw [List.mem_filter]
  constructor
  · rintro ⟨h1, h2⟩
    obtain ⟨i, hi1, hi2⟩ := (h.at' b m).1 h1
    refine ⟨i, hi1, ?_⟩
    have hne : j ≠ i := fun e => by
      subst e
      simp [hi1] at h2
    rw [List.getElem?_set_ne hne]
    exact hi2
  · rintro ⟨i, rfl, hi⟩
    by_cases e : j = i
    · subst e
      rw [List.getElem?_set_self hl] at hi
      injection hi with hi
      injection hi with _ hi
      cases hi
    · rw [List.getElem?_set_ne e] at hi
      exact ⟨(h.at' _ m).2 ⟨i, rfl, hi⟩, by simp; omega⟩
end Go.Proofs.YtgeholiagcckoaaGreatDoor
namespace Go.Proofs.YtgeholiagcckoaaGreatDoor
open Go.RowKit

structure StR (X : Sx) (R : List Rw) (D : List (Int × Bool)) : Prop where
  kk : ∀ k, X.K k = rgo R k
  rd : RDl X.R X.L X.bg D
theorem StR.put {X : Sx} {R R2 : List Rw} {D : List (Int × Bool)} {k : Ky} {N : Int} {V : List UInt8} (h : StR X R D) (hs : RsT R2 R k (ptL N V (rgo R k)) (decide (lastN (rgo R k) < N))) : StR (X.put k N V) R2 D := by
  refine ⟨fun j => ?_, h.rd⟩
  show upK X.K k (ptL N V (X.K k)) j = _
  unfold RsT at hs
  by_cases hc : lastN (rgo R k) < N
  · rw [decide_eq_true hc, if_pos rfl] at hs
    obtain ⟨v, rfl⟩ := hs
    rw [rgo_set, h.kk k]
    unfold upK
    split
    · rfl
    · exact h.kk j
  · rw [decide_eq_false hc, if_neg (by simp)] at hs
    rw [hs, h.kk k, (ptL_no (s := V) hc).1, ← h.kk k, upK_self]
    exact h.kk j
theorem StR.pru {X : Sx} {R R2 : List Rw} {D : List (Int × Bool)} {k : Ky} {N : Int} (h : StR X R D) (hs : RsT R2 R k ((rgo R k).drop (ab (oldD N D) (rgo R k) - 1)) (decide (0 < ab (oldD N D) (rgo R k) - 1))) : StR (X.pru k N) R2 D := by
  refine ⟨fun j => ?_, h.rd⟩
  show upK X.K k ((X.K k).drop (ab (oldR N X.L) (X.K k) - 1)) j = _
  rw [h.rd.old N, h.kk k]
  unfold RsT at hs
  by_cases hc : 0 < ab (oldD N D) (rgo R k) - 1
  · rw [decide_eq_true hc, if_pos rfl] at hs
    obtain ⟨v, rfl⟩ := hs
    rw [rgo_set]
    unfold upK
    split
    · rfl
    · exact h.kk j
  · rw [decide_eq_false hc, if_neg (by simp)] at hs
    rw [hs, show ab (oldD N D) (rgo R k) - 1 = 0 by omega, List.drop_zero, ← h.kk k, upK_self]
    exact h.kk j
theorem StR.opn {X : Sx} {R : List Rw} {D : List (Int × Bool)} (h : StR X R D) (N : Int) : StR (X.opn N) R (D ++ [(N, false)]) := ⟨h.kk, h.rd.opens N⟩
theorem StR.clsNo {X : Sx} {R : List Rw} {D : List (Int × Bool)} (h : StR X R D) {N : Int} (hc : clB D N = false) : StR (X.cls N) R D := by
  have hf := h.rd.has N
  rw [hc] at hf
  unfold Sx.cls
  cases hx : X.R.find? fun p => p.1 == N with
  | none => exact h
  | some p => rw [hx] at hf; cases hf
theorem StR.clsYes {X : Sx} {R : List Rw} {D : List (Int × Bool)} (h : StR X R D) {N : Int} (hc : clB D N = true) : StR (X.cls N) R (clD D N) := by
  obtain ⟨j, n, rfl, hj, hD⟩ := clB_at hc
  rw [hD]
  have hm : ((j : Int) + 1, n) ∈ X.R := (h.rd.at' _ n).2 ⟨j, rfl, hj⟩
  unfold Sx.cls
  cases hx : X.R.find? fun p => p.1 == (j : Int) + 1 with
  | none =>
    have := List.find?_eq_none.1 hx _ hm
    simp at this
  | some p =>
    have hp := List.mem_of_find?_eq_some hx
    have he : p.1 = (j : Int) + 1 := by have := List.find?_some hx; simpa using this
    obtain ⟨i, hi1, hi2⟩ := (h.rd.at' p.1 p.2).1 hp
    have hij : i = j := by omega
    subst hij
    rw [hj] at hi2
    injection hi2 with hi2
    injection hi2 with hi2 _
    show StR ⟨X.K, X.bg, endR ((i : Int) + 1) X.R, delR p.2 X.L⟩ R (D.set i (n, true))
    rw [← hi2]
    exact ⟨h.kk, h.rd.ends hj⟩
theorem StR.ans0 {X : Sx} {R : List Rw} {D : List (Int × Bool)} (h : StR X R D) (k : Ky) (N : Int) : peR N (X.K k) = ptE N (rgo R k) := by rw [h.kk k]; rfl
theorem StR.new (K : Ky → List Ver) (hK : ∀ k, K k = []) : StR ⟨K, 0, [], []⟩ [] [] := ⟨fun k => by show K k = _; rw [hK k]; rfl, RDl.nil⟩
end Go.Proofs.YtgeholiagcckoaaGreatDoor
