/-
  My own text: the order of the rests is the order that dealing out asks for.
-/
import Derived.Test.YthmbfdjbjljaiaaGreatDoorByRest
import Derived.Test.YthmbfdjbjljaiaaGreatDoorSelMath
namespace Go.Proofs.YthmbfdjbjljaiaaGreatDoor
open Go.RowKit Go.Sort Go.Lib Go.Shelf

/-- The places below n, in the order of their rests. -/
def ordN (r : Nat → Int) (n : Nat) : List Nat := (ordF (fun i : Fin n => r i.val)).map Fin.val
theorem ordF_perm {n : Nat} (R : Fin n → Int) : (ordF R).Perm (List.ofFn fun i : Fin n => i) := by
  unfold ordF; rw [Array.toList_ofFn]; exact List.mergeSort_perm _ _
theorem ordF_nodup {n : Nat} (R : Fin n → Int) : (ordF R).Nodup := by
  refine (ordF_perm R).nodup_iff.2 ?_
  rw [List.nodup_iff_pairwise_ne, List.pairwise_iff_getElem]
  intro i j hi hj hij e
  simp at e
  omega
theorem ordF_mem {n : Nat} (R : Fin n → Int) (x : Fin n) : x ∈ ordF R := by
  refine (ordF_perm R).mem_iff.2 ?_
  rw [List.mem_ofFn]; exact ⟨x, rfl⟩
theorem ordF_sorted {n : Nat} (R : Fin n → Int) : (ordF R).Pairwise fun x y => (!ltOf (cfR R) y x) = true := by
  unfold ordF
  refine List.pairwise_mergeSort ?_ ?_ _
  · intro a b c h1 h2
    simp only [Bool.not_eq_true'] at *
    exact (swoR R).ntrans c b a h2 h1
  · intro a b
    rw [ltR, ltR]; simp; omega
theorem ordr_ordN (r : Nat → Int) (n : Nat) : Ordr (ordN r n) r n := by
  refine ⟨by unfold ordN; rw [List.length_map, ordF_len], ?_, ?_, ?_⟩
  · intro c hc
    obtain ⟨x, _, rfl⟩ := List.mem_map.1 hc
    exact x.isLt
  · intro j hj
    exact List.mem_map.2 ⟨⟨j, hj⟩, ordF_mem _ _, rfl⟩
  · unfold ordN
    rw [List.pairwise_map]
    refine ((ordF_sorted _).and (List.nodup_iff_pairwise_ne.1 (ordF_nodup fun i : Fin n => r i.val))).imp ?_
    intro a b h
    obtain ⟨h1, h2⟩ := h
    rw [ltR] at h1
    simp at h1
    have h3 : a.val ≠ b.val := fun e => h2 (Fin.ext e)
    unfold ahd
    omega
/-- The program's order of the rests, as dealing out asks for it. -/
theorem orders_any (r : Nat → Int) (n : Nat) (h0 : 0 < n) (hn : n ≤ 17592186044416) : Orders (ordN r n) r n := by
  intro b cap w hb hc
  haveI : NeZero n := ⟨by omega⟩
  refine (byRest_any (fun i : Fin n => r i.val) b 0 cap w hn hb (fun i => by rw [Nat.zero_add]; exact hc i.val i.isLt)).mono ?_
  rintro e w' ⟨g, he, hg, hrow, hB⟩
  refine ⟨g, he, hg, fun j c hjc => ?_, hrow.1, hB⟩
  unfold ordN at hjc
  rw [List.getElem?_map] at hjc
  obtain ⟨x, hx, rfl⟩ := Option.map_eq_some_iff.1 hjc
  exact (hrow.2 j x hx).1
end Go.Proofs.YthmbfdjbjljaiaaGreatDoor
