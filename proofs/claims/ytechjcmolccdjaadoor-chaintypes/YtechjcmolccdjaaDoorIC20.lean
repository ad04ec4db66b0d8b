/-
  My own text: IC16, IC20 in one.
-/
import Derived.Test.YtechjcmolccdjaaDoorIC15
namespace Go.Proofs.YtechjcmolccdjaaDoor.CI
open Go.RowKit Go.Shelf

/-- What is known of the versions behind k acts. -/
structure LK (L : List Ver) (k : Nat) : Prop where
  ris : Ris L
  pos : ∀ p ∈ L, 0 ≤ p.1
  max : ∀ p ∈ L, p.1 ≤ 9223372036854775807
  len : L.length ≤ k
theorem LK.nil : LK [] 0 := ⟨trivial, fun p hp => (by cases hp), fun p hp => (by cases hp), Nat.le_refl _⟩
theorem LK.drop {L : List Ver} {k : Nat} (h : LK L k) (j : Nat) : LK (L.drop j) k :=
  ⟨h.ris.drop j, fun p hp => h.pos p (List.mem_of_mem_drop hp), fun p hp => h.max p (List.mem_of_mem_drop hp), by rw [List.length_drop]; have := h.len; omega⟩
theorem lastN_lo {L : List Ver} (h : ∀ p ∈ L, 0 ≤ p.1) : -1 ≤ lastN L := by
  rcases snoc_cases L with rfl | ⟨K, p, rfl⟩
  · rw [lastN_nil]; omega
  · rw [lastN_snoc]; have := h p (List.mem_append.2 (.inr (List.mem_singleton.2 rfl))); omega
/-- Any pruning. -/
theorem prune_any (n : Int) (B cb k : Nat) (L : List Ver) (w : World) (h : CH w B cb L) (hk : LK L k) (hl : k ≤ 5864062014804) :
    Calls Tryd.prog 20 #[.pointer (some ⟨cb, 0, none⟩), .int .i64 n] w fun e w' => e = .returned (.int .i64 ((ab n L - 1 : Nat) : Int)) ∧ CH w' B cb (L.drop (ab n L - 1)) ∧ Fr w w' cb := by
  have hlen := hk.len
  rcases Nat.eq_zero_or_pos (ab n L) with h0 | h0
  · refine (prune_no n B cb L w h hk.ris (by omega) h0).mono ?_
    rintro e w' ⟨rfl, hb⟩
    rw [h0]
    exact ⟨rfl, by rw [show 0 - 1 = 0 from rfl, List.drop_zero]; exact h.later hb, (Fr.refl w cb).later h.lt hb⟩
  · obtain ⟨m, hm⟩ : ∃ m, ab n L = m + 1 := ⟨ab n L - 1, by omega⟩
    have hlt : m < L.length := by have := ab_le n L; omega
    obtain ⟨p, hp⟩ : ∃ p, L[m]? = some p := ⟨_, List.getElem?_eq_getElem hlt⟩
    refine (prune_yes n B cb m L p w h hk.ris hk.pos (by omega) hm hp).mono ?_
    rintro e w' ⟨rfl, hc, hf⟩
    rw [hm, Nat.add_sub_cancel]
    exact ⟨rfl, hc, hf⟩
/-- Any Put. -/
theorem put_any (n : Int) (s : Int) (B cb k : Nat) (L : List Ver) (w : World) (h : CH w B cb L) (hk : LK L k) (hl : k ≤ 5864062014804) :
    Calls Tryd.prog 16 #[.pointer (some ⟨cb, 0, none⟩), .int .i64 n, .int .i64 s] w fun e w' => e = .returned (errV (if lastN L < n then 0 else 1)) ∧ CH w' B cb (if lastN L < n then L ++ [(n, s)] else L) ∧ Fr w w' cb := by
  have hlen := hk.len
  by_cases h0 : lastN L < n
  · rw [if_pos h0, if_pos h0, errV_zero]
    exact put_yes n s B cb L w h hk.ris hk.max (by omega) (by have := lastN_lo hk.pos; omega) (fun p hp => by rw [← lastN_at hp]; exact h0)
  · rw [if_neg h0, if_neg h0]
    refine (put_no n s B cb L w h hk.ris hk.max (by omega) ?_).mono ?_
    · rcases snoc_cases L with rfl | ⟨K, p, rfl⟩
      · rw [lastN_nil] at h0; exact .inl (by omega)
      · rw [lastN_snoc] at h0
        exact .inr ⟨p, by rw [List.length_append]; simp, by omega⟩
    · rintro e w' ⟨rfl, hb⟩
      exact ⟨rfl, h.later hb, (Fr.refl w cb).later h.lt hb⟩
end Go.Proofs.YtechjcmolccdjaaDoor.CI
namespace Go.Proofs.YtechjcmolccdjaaDoor.CI
open Go.RowKit Go.Shelf

theorem ab_none (q : Int) : ∀ (L : List Ver), (∀ p ∈ L, q < p.1) → ab q L = 0
  | [], _ => rfl
  | p :: r, h => by unfold ab; rw [if_pos (h p (List.mem_cons_self ..))]
theorem ab_drop (q : Int) : ∀ (L : List Ver) (m : Nat), Ris L → ab q (L.drop m) = ab q L - m
  | [], m, _ => by rw [List.drop_nil]; show 0 = 0 - m; omega
  | _ :: _, 0, _ => rfl
  | p :: r, m + 1, h => by
    have ih := ab_drop q r m h.2
    rw [List.drop_succ_cons, ih]
    by_cases hq : q < p.1
    · have h0 : ab q r = 0 := ab_none q r (fun a ha => by have := h.1 a ha; omega)
      have e : ab q (p :: r) = 0 := by rw [ab, if_pos hq]
      rw [e, h0]; omega
    · have e : ab q (p :: r) = ab q r + 1 := by rw [ab, if_neg hq]
      rw [e]; omega
theorem ab_mono {n q : Int} (h : n ≤ q) : ∀ L : List Ver, ab n L ≤ ab q L
  | [] => Nat.le_refl _
  | p :: r => by
    have ih := ab_mono h r
    by_cases h1 : n < p.1
    · rw [ab, if_pos h1]; exact Nat.zero_le _
    · rw [ab, if_neg h1, ab, if_neg (by omega)]; omega
/-- What counts at q, its text, and whether there is one. -/
def atS (q : Int) (L : List Ver) : Int := if ab q L = 0 then 0 else match L[ab q L - 1]? with | some p => p.2 | none => 0
def atB (q : Int) (L : List Ver) : Bool := decide (0 < ab q L)
theorem atq_any (q : Int) (B cb : Nat) (L : List Ver) (w : World) (h : CH w B cb L) (hr : Ris L) (hl : L.length ≤ 4611686018427387904) :
    Calls Tryd.prog 44 #[.pointer (some ⟨cb, 0, none⟩), .int .i64 q] w fun e w' => e = .returned (.tuple #[.int .i64 (atS q L), .bool (atB q L)]) ∧ Below w.heap.size w w' := by
  by_cases h0 : ab q L = 0
  · have e1 : atS q L = 0 := by unfold atS; rw [if_pos h0]
    have e2 : atB q L = false := by unfold atB; rw [h0]; rfl
    rw [e1, e2]
    exact at_no q B cb L w h hr hl h0
  · obtain ⟨k, hk⟩ : ∃ k, ab q L = k + 1 := ⟨ab q L - 1, by omega⟩
    have hlt : k < L.length := by have := ab_le q L; omega
    obtain ⟨p, hp⟩ : ∃ p, L[k]? = some p := ⟨_, List.getElem?_eq_getElem hlt⟩
    have e1 : atS q L = p.2 := by unfold atS; rw [if_neg h0, hk, Nat.add_sub_cancel, hp]
    have e2 : atB q L = true := by unfold atB; rw [hk]; simp
    rw [e1, e2]
    exact at_yes q B cb L k p w h hr hl hk hp
theorem atS_pr {n q : Int} {L : List Ver} (hr : Ris L) (h : n ≤ q) : atS q (L.drop (ab n L - 1)) = atS q L ∧ atB q (L.drop (ab n L - 1)) = atB q L := by
  have h1 := ab_mono h L
  have h2 := ab_drop q L (ab n L - 1) hr
  rcases Nat.eq_zero_or_pos (ab n L) with h0 | h0
  · rw [h0, show 0 - 1 = 0 from rfl, List.drop_zero]; exact ⟨rfl, rfl⟩
  · unfold atS atB
    rw [h2, if_neg (show ¬ ab q L - (ab n L - 1) = 0 by omega), if_neg (show ¬ ab q L = 0 by omega), List.getElem?_drop, show ab n L - 1 + (ab q L - (ab n L - 1) - 1) = ab q L - 1 by omega]
    exact ⟨rfl, by rw [decide_eq_true (show 0 < ab q L - (ab n L - 1) by omega), decide_eq_true (show 0 < ab q L by omega)]⟩
theorem atB_pr {q : Int} {L : List Ver} (hr : Ris L) (m : Nat) (h : atB q (L.drop m) = true) : atB q L = true := by
  unfold atB at h ⊢
  rw [ab_drop q L m hr] at h
  have := of_decide_eq_true h
  exact decide_eq_true (by omega)
/-- The last one. -/
def laP (L : List Ver) : Ver := match L[L.length - 1]? with | some p => p | none => (0, 0)
def laB (L : List Ver) : Bool := decide (0 < L.length)
theorem lastq_any (B cb : Nat) (L : List Ver) (w : World) (h : CH w B cb L) (hr : Ris L) (hm : ∀ p ∈ L, p.1 ≤ 9223372036854775807) (hl : L.length ≤ 4611686018427387904) :
    Calls Tryd.prog 33 #[.pointer (some ⟨cb, 0, none⟩)] w fun e w' => e = .returned (.tuple #[.int .i64 (laP L).2, .int .i64 (laP L).1, .bool (laB L)]) ∧ Below w.heap.size w w' := by
  rcases Nat.eq_zero_or_pos L.length with h0 | h0
  · obtain rfl := List.eq_nil_of_length_eq_zero h0
    exact last_no B cb [] w h hr hl rfl
  · obtain ⟨k, hk⟩ : ∃ k, L.length = k + 1 := ⟨L.length - 1, by omega⟩
    obtain ⟨p, hp⟩ : ∃ p, L[k]? = some p := ⟨_, List.getElem?_eq_getElem (by omega)⟩
    have e1 : laP L = p := by unfold laP; rw [hk, Nat.add_sub_cancel, hp]
    have e2 : laB L = true := decide_eq_true h0
    rw [e1, e2]
    exact last_yes B cb L k p w h hr hl (by rw [ab_max L hm]; exact hk) hp
theorem la_pr {L : List Ver} {m : Nat} (h : m = 0 ∨ m < L.length) : laP (L.drop m) = laP L ∧ laB (L.drop m) = laB L := by
  rcases h with rfl | h
  · rw [List.drop_zero]; exact ⟨rfl, rfl⟩
  · unfold laP laB
    rw [List.getElem?_drop, List.length_drop, show m + (L.length - m - 1) = L.length - 1 by omega]
    exact ⟨rfl, by rw [decide_eq_true (show 0 < L.length - m by omega), decide_eq_true (show 0 < L.length by omega)]⟩
theorem m_ok (n : Int) (L : List Ver) : ab n L - 1 = 0 ∨ ab n L - 1 < L.length := by have := ab_le n L; omega
/-- Rows of two chains are not one. -/
def Ap (c d : Nat) (W : World) : Prop := ∀ v v', W.cell? ⟨c, 0, none⟩ = some v → W.cell? ⟨d, 0, none⟩ = some v' → ∀ g, v.ownBlock = some g → v'.ownBlock ≠ some g
theorem Ap.symm {c d : Nat} {W : World} (h : Ap c d W) : Ap d c W := fun v v' hv hv' g hg e => h v' v hv' hv g e hg
theorem Ap.same {c d : Nat} {W W' : World} (h : Ap c d W) (e1 : W'.cell? ⟨c, 0, none⟩ = W.cell? ⟨c, 0, none⟩) (e2 : W'.cell? ⟨d, 0, none⟩ = W.cell? ⟨d, 0, none⟩) : Ap c d W' := fun v v' hv hv' => h v v' (by rw [← e1]; exact hv) (by rw [← e2]; exact hv')
theorem CH.row_in {W : World} {B cb : Nat} {L : List Ver} (h : CH W B cb L) : ∀ v, W.cell? ⟨cb, 0, none⟩ = some v → ∀ g, v.ownBlock = some g → B ≤ g ∧ g < W.heap.size := by
  intro v hv g hg
  obtain ⟨_, v', em, hh, ho, _⟩ := h
  have : W.cell? ⟨cb, 0, none⟩ = some v' := by rw [cell_of_row W cb 0 _ _ _ hh]; rfl
  rw [this] at hv
  cases hv
  exact ho.lt hg
/-- Another chain than the one that is changed. -/
theorem CH.other {W W' : World} {B B' c d : Nat} {X Y : List Ver} (hf : Fr W W' c) (hx : CH W B c X) (hy : CH W B' d Y) (hne : c ≠ d) (hap : Ap c d W) : CH W' B' d Y ∧ W'.cell? ⟨d, 0, none⟩ = W.cell? ⟨d, 0, none⟩ ∧ Ap c d W' := by
  have hin := hy.row_in
  obtain ⟨q1, v, em, hh, ho, hn⟩ := id hy
  obtain ⟨_, vx, ex, hxx, _, _⟩ := id hx
  have hd : W'.heap[d]? = W.heap[d]? := hf.block d hy.lt (Ne.symm hne) (hx.row_ne hh (by decide))
  have hc : W.cell? ⟨d, 0, none⟩ = some v := by rw [cell_of_row W d 0 _ _ _ hh]; rfl
  have hcd : W'.cell? ⟨d, 0, none⟩ = W.cell? ⟨d, 0, none⟩ := by unfold World.cell?; rw [hd]
  refine ⟨⟨q1, v, em, hd.trans hh, ho.kept (fun g hg => hf.block g (hin v hc g hg).2 (fun e => ?_) (fun u hu e => hap u v hu hc g e hg)), hn⟩, hcd, fun u u' hu hu' g hg e => ?_⟩
  · exact hy.row_ne hxx (by decide) v hc (by rw [← e]; exact hg)
  · rw [hcd] at hu'
    rcases hf.row u hu g hg with q | ⟨u0, hu0, q⟩
    · have := (hin u' hu' g e).2; omega
    · exact hap u0 u' hu0 hu' g q e
theorem cell_set {W : World} {b c : Nat} (hne : c ≠ b) (u : Value) : (W.setCell ⟨b, 0, none⟩ u).cell? ⟨c, 0, none⟩ = W.cell? ⟨c, 0, none⟩ := by unfold World.cell?; rw [Below.heap_setCell _ _ _ c hne]
end Go.Proofs.YtechjcmolccdjaaDoor.CI
