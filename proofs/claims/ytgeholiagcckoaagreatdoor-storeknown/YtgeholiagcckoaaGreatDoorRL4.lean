/-
  My own text: RL3, RL4 in one.
-/
import Derived.Test.YtgeholiagcckoaaGreatDoorRL2
import Derived.Test.YtgeholiagcckoaaGreatDoorSK6
import Derived.Test.YtgeholiagcckoaaGreatDoorRK2
namespace Go.Proofs.YtgeholiagcckoaaGreatDoor
open Go.RowKit Go.Sort

theorem rgo_mem {R : List Rw} (hne : ∀ p ∈ R, p.2.1 ≠ []) (k : Ky) : k ∈ R.map (·.1) ↔ rgo R k ≠ [] := by
  unfold rgo
  rw [List.mem_map]
  cases hx : R.find? fun p => decide (p.1 = k) with
  | none =>
    refine ⟨fun ⟨p, hp, e⟩ => ?_, fun h => absurd rfl h⟩
    have := List.find?_eq_none.1 hx p hp
    simp [e] at this
  | some q =>
    have hq := List.mem_of_find?_eq_some hx
    have he : q.1 = k := by have := List.find?_some hx; simpa using this
    exact ⟨fun _ => hne q hq, fun _ => ⟨q, hq, he⟩⟩
theorem rset_ne {R : List Rw} (hne : ∀ p ∈ R, p.2.1 ≠ []) (k : Ky) {L : List Ver} (hL : L ≠ []) (v : Value) : ∀ p ∈ rset R k L v, p.2.1 ≠ [] := by
  intro p hp
  unfold rset at hp
  split at hp
  · rcases List.mem_or_eq_of_mem_set hp with h | h
    · exact hne p h
    · rw [h]; exact hL
  · rcases List.mem_append.1 hp with h | h
    · exact hne p h
    · rw [List.mem_singleton.1 h]; exact hL
theorem srtK_R {L : List Ky} (h : SrtK L) : SrR L := by
  unfold SrtK at h
  unfold SrR
  refine List.Pairwise.imp (fun {a b} hab => ?_) h
  rw [ltK] at hab
  unfold ltR
  simp at hab
  omega
theorem keys_same {X : Sx} {R : List Rw} {D : List (Int × Bool)} {L M : List Ky} (h : StR X R D) (hne : ∀ p ∈ R, p.2.1 ≠ []) (hnd : (R.map (·.1)).Nodup) (hK : KL X L) (hS : SrR M) (hP : M.Perm (R.map (·.1))) : L = M := by
  have hnM : M.Nodup := hP.nodup_iff.2 hnd
  refine srt_same (srtK_R hK.srt) hS ((List.perm_ext_iff_of_nodup hK.nd hnM).2 (fun k => ?_))
  rw [hK.mem k, hP.mem_iff, rgo_mem hne k, h.kk k]
end Go.Proofs.YtgeholiagcckoaaGreatDoor
namespace Go.Proofs.YtgeholiagcckoaaGreatDoor
open Go.RowKit

theorem rgo_self : ∀ {R : List Rw} {p : Rw}, (R.map (·.1)).Nodup → p ∈ R → rgo R p.1 = p.2.1
  | q :: r, p, hn, hp => by
    rw [List.map_cons, List.nodup_cons] at hn
    unfold rgo
    by_cases e : q.1 = p.1
    · rw [List.find?_cons_of_pos (by simpa using e)]
      rcases List.mem_cons.1 hp with rfl | hp
      · rfl
      · exact absurd (by rw [e]; exact List.mem_map.2 ⟨p, hp, rfl⟩) hn.1
    · rw [List.find?_cons_of_neg (by simpa using e)]
      rcases List.mem_cons.1 hp with rfl | hp
      · exact absurd rfl e
      · exact rgo_self hn.2 hp
theorem rwl_sum : ∀ R : List Rw, rwl R = (R.map fun p => p.2.1.length).sum
  | [] => rfl
  | p :: r => by rw [List.map_cons, List.sum_cons, ← rwl_sum r]; rfl
theorem len_same {X : Sx} {R : List Rw} {D : List (Int × Bool)} {L : List Ky} (h : StR X R D) (hnd : (R.map (·.1)).Nodup) (hP : L.Perm (R.map (·.1))) : lenS X L = rwl R := by
  unfold lenS
  rw [(hP.map fun k => (X.K k).length).sum_nat, rwl_sum, List.map_map]
  congr 1
  refine List.map_congr_left (fun p hp => ?_)
  show (X.K p.1).length = _
  rw [h.kk, rgo_self hnd hp]
end Go.Proofs.YtgeholiagcckoaaGreatDoor
