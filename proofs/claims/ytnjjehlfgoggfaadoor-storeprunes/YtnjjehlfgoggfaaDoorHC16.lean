/-
  My own text: acts done to a chain.
-/
import Derived.Test.YtnjjehlfgoggfaaDoorHC15
namespace Go.Proofs.YtnjjehlfgoggfaaDoor
open Go.RowKit Go.Shelf

/-- What an act makes of the versions. -/
def doAc (a : Ac) (L : List Ver) : List Ver := if a.1 = true then L.drop (ab a.2.1 L - 1) else if lastN L < a.2.1 then L ++ [(a.2.1, a.2.2)] else L
def bld (ps : List Ac) : List Ver := ps.foldl (fun L a => doAc a L) []
theorem bld_snoc (ps : List Ac) (a : Ac) : bld (ps ++ [a]) = doAc a (bld ps) := by unfold bld; rw [List.foldl_append]; rfl
/-- What is known of the versions behind k acts. -/
structure LK (L : List Ver) (k : Nat) : Prop where
  ris : Ris L
  pos : ∀ p ∈ L, 0 ≤ p.1
  max : ∀ p ∈ L, p.1 ≤ 9223372036854775807
  len : L.length ≤ k
theorem LK.nil : LK [] 0 := ⟨trivial, fun p hp => (by cases hp), fun p hp => (by cases hp), Nat.le_refl _⟩
theorem LK.drop {L : List Ver} {k : Nat} (h : LK L k) (j : Nat) : LK (L.drop j) k :=
  ⟨h.ris.drop j, fun p hp => h.pos p (List.mem_of_mem_drop hp), fun p hp => h.max p (List.mem_of_mem_drop hp), by rw [List.length_drop]; have := h.len; omega⟩
theorem lastN_lo {L : List Ver} (h : ∀ p ∈ L, 0 ≤ p.1) : -1 ≤ lastN L := by
  rcases snoc_cases L with rfl | ⟨K, p, rfl⟩
  · rw [lastN_nil]; omega
  · rw [lastN_snoc]; have := h p (List.mem_append.2 (.inr (List.mem_singleton.2 rfl))); omega
theorem LK.act {L : List Ver} {k : Nat} (h : LK L k) (a : Ac) (ha : a.2.1 ≤ 9223372036854775807) : LK (doAc a L) (k + 1) := by
  unfold doAc
  by_cases h1 : a.1 = true
  · rw [if_pos h1]
    have := h.drop (ab a.2.1 L - 1)
    exact ⟨this.ris, this.pos, this.max, Nat.le_succ_of_le this.len⟩
  · rw [if_neg h1]
    by_cases h2 : lastN L < a.2.1
    · rw [if_pos h2]
      refine ⟨ris_snoc L _ h.ris (fun q hq => by have := ris_last L h.ris q hq; dsimp only; omega), fun p hp => ?_, fun p hp => ?_, by rw [List.length_append]; have := h.len; simp; omega⟩
      · rcases List.mem_append.1 hp with hp | hp
        · exact h.pos p hp
        · rw [List.mem_singleton.1 hp]; have := lastN_lo h.pos; dsimp only; omega
      · rcases List.mem_append.1 hp with hp | hp
        · exact h.max p hp
        · rw [List.mem_singleton.1 hp]; exact ha
    · rw [if_neg h2]
      exact ⟨h.ris, h.pos, h.max, Nat.le_succ_of_le h.len⟩
/-- Any pruning. -/
theorem prune_any (n : Int) (B cb k : Nat) (L : List Ver) (w : World) (h : CH w B cb L) (hk : LK L k) (hl : k ≤ 5864062014804) :
    Calls Tryd.prog 31 #[.pointer (some ⟨cb, 0, none⟩), .int .i64 n] w fun e w' => e = .returned (.int .i64 ((ab n L - 1 : Nat) : Int)) ∧ CH w' B cb (L.drop (ab n L - 1)) ∧ Fr w w' cb := by
  have hlen := hk.len
  rcases Nat.eq_zero_or_pos (ab n L) with h0 | h0
  · refine (prune_no n B cb L w h hk.ris (by omega) h0).mono ?_
    rintro e w' ⟨rfl, hb⟩
    rw [h0]
    exact ⟨rfl, by rw [show 0 - 1 = 0 from rfl, List.drop_zero]; exact h.later hb, (Fr.refl w cb).later h.lt hb⟩
  · obtain ⟨m, hm⟩ : ∃ m, ab n L = m + 1 := ⟨ab n L - 1, by omega⟩
    have hlt : m < L.length := by have := ab_le n L; omega
    obtain ⟨p, hp⟩ : ∃ p, L[m]? = some p := ⟨_, List.getElem?_eq_getElem hlt⟩
    refine (prune_yes n B cb m L p w h hk.ris hk.pos (by omega) hm hp).mono ?_
    rintro e w' ⟨rfl, hc, hf⟩
    rw [hm, Nat.add_sub_cancel]
    exact ⟨rfl, hc, hf⟩
/-- Any Put. -/
theorem put_any (n : Int) (s : List UInt8) (B cb k : Nat) (L : List Ver) (w : World) (h : CH w B cb L) (hk : LK L k) (hl : k ≤ 5864062014804) :
    Calls Tryd.prog 34 #[.pointer (some ⟨cb, 0, none⟩), .int .i64 n, .string ⟨s.toArray⟩] w fun e w' => e = .returned (errV (if lastN L < n then 0 else 1)) ∧ CH w' B cb (if lastN L < n then L ++ [(n, s)] else L) ∧ Fr w w' cb := by
  have hlen := hk.len
  by_cases h0 : lastN L < n
  · rw [if_pos h0, if_pos h0, errV_zero]
    exact put_yes n s B cb L w h hk.ris hk.max (by omega) (by have := lastN_lo hk.pos; omega) (fun p hp => by rw [← lastN_at hp]; exact h0)
  · rw [if_neg h0, if_neg h0]
    refine (put_no n s B cb L w h hk.ris hk.max (by omega) ?_).mono ?_
    · rcases snoc_cases L with rfl | ⟨K, p, rfl⟩
      · rw [lastN_nil] at h0; exact .inl (by omega)
      · rw [lastN_snoc] at h0
        exact .inr ⟨p, by rw [List.length_append]; simp, by omega⟩
    · rintro e w' ⟨rfl, hb⟩
      exact ⟨rfl, h.later hb, (Fr.refl w cb).later h.lt hb⟩
theorem bld_LK (ps : List Ac) (h : ∀ p ∈ ps, p.2.1 ≤ 9223372036854775807) : ∀ k, k ≤ ps.length → LK (bld (ps.take k)) k
  | 0, _ => by rw [List.take_zero]; exact LK.nil
  | k + 1, hk => by
    obtain ⟨p, hp⟩ : ∃ p, ps[k]? = some p := ⟨_, List.getElem?_eq_getElem hk⟩
    rw [List.take_add_one, hp]
    show LK (bld (ps.take k ++ [p])) (k + 1)
    rw [bld_snoc]
    exact (bld_LK ps h k (by omega)).act p (h p (List.mem_of_getElem? hp))
end Go.Proofs.YtnjjehlfgoggfaaDoor
