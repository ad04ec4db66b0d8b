/-
  My own text: a position that is turned into another one, by the program.
-/
import Derived.Test.YtdjhbecbbmdimaaGreatDoorB4
import Derived.Deep.RegionHeld3
import Derived.StillTailTactics
import Derived.Deep.Onto
namespace Go.Proofs.YtdjhbecbbmdimaaGreatDoor.BL
open Go.RowKit

/-- The first marks of a row. -/
theorem RM.take {w : World} {a : Option Addr} {cap : Nat} {L : List Mk} (h : RM w (.slice a L.length cap) L) {k : Nat} (hk : k ≤ L.length) : RM w (.slice a k cap) (L.take k) := by
  obtain ⟨a', cap', e, hcap, hc⟩ := h
  cases e
  refine ⟨a, cap, by rw [List.length_take, Nat.min_eq_left hk], by rw [List.length_take]; omega, ?_⟩
  rcases hc with h0 | ⟨b, off, ha, hlt, hcc⟩
  · exact .inl (by rw [h0]; simp)
  · refine .inr ⟨b, off, ha, hlt, fun j p hj => hcc j p ?_⟩
    rw [List.getElem?_take] at hj
    split at hj
    · exact hj
    · cases hj
/-- The marks behind a place. -/
theorem RM.drop {w : World} {b off cap : Nat} {L : List Mk} (h : RM w (.slice (some ⟨b, off, none⟩) L.length cap) L) {k m c' : Nat} (hk : k ≤ L.length) (hm : m = L.length - k) (hc' : c' = cap - k) : RM w (.slice (some ⟨b, off + k * 2, none⟩) m c') (L.drop k) := by
  obtain ⟨a', cap', e, hcap, hc⟩ := h
  cases e
  refine ⟨_, c', by rw [List.length_drop, hm], by rw [List.length_drop]; omega, ?_⟩
  rcases hc with h0 | ⟨b', off', ha, hlt, hcc⟩
  · exact .inl (by rw [h0]; simp)
  · cases ha
    refine .inr ⟨b, off + k * 2, rfl, hlt, fun j p hj => ?_⟩
    rw [List.getElem?_drop] at hj
    have := hcc _ p hj
    rw [show off + (k + j) * 2 = off + k * 2 + j * 2 by omega] at this
    exact this
theorem RM.none {w : World} {a : Option Addr} {c : Nat} : RM w (.slice a 0 c) [] := ⟨a, c, rfl, Nat.zero_le _, .inl rfl⟩
theorem set2 {w : World} {g : Nat} {x y a b : Value} {t : TypeId} (h : w.heap[g]? = some (.cells #[x, y] t (0, 0))) : ((w.setCell ⟨g, 0, none⟩ a).setCell ⟨g, 1, none⟩ b).heap[g]? = some (.cells #[a, b] t (0, 0)) := by
  have e1 := setCell_eq_setRow w g 0 _ t (0, 0) a h
  have h1 := setRow_heap w g _ ((#[x, y] : Array Value).setIfInBounds 0 a) t (0, 0) h
  rw [← e1] at h1
  have e2 := setCell_eq_setRow _ g 1 _ t (0, 0) b h1
  rw [e2]
  exact setRow_heap _ g _ _ t (0, 0) h1
theorem own_blk {w w' : World} {B : Nat} {e : TypeId} {k : Nat} {v : Value} {n : Nat} {xs : List Value} (h : w.ownsRow B e k v n xs) (hb : ∀ (g : Nat) (c : Array Value), w.heap[g]? = some (.cells c e (0, 0)) → w'.heap[g]? = w.heap[g]?) : w'.ownsRow B e k v n xs := by
  refine ⟨h.1, ?_⟩
  rcases h.2 with h2 | ⟨g, cap, cur, hv, hg, hh, h3⟩
  · exact .inl h2
  · exact .inr ⟨g, cap, cur, hv, hg, (hb g cur hh).trans hh, h3⟩
/-- What is left when a position has been laid into its box. -/
theorem turn_end {w w' : World} {g B : Nat} {a2 : Int} {v x y : Value} {R : List Mk} (hY : w'.heap[g]? = some (.cells #[x, y] 60 (0, 0))) (hO : OM w' B v R) (hB : Below B w w') (hBg : B ≤ g) :
    ((w'.setCell ⟨g, 0, none⟩ (.int .i64 a2)).setCell ⟨g, 1, none⟩ v).heap[g]? = some (.cells #[.int .i64 a2, v] 60 (0, 0)) ∧ OM ((w'.setCell ⟨g, 0, none⟩ (.int .i64 a2)).setCell ⟨g, 1, none⟩ v) B v R ∧ Below B w ((w'.setCell ⟨g, 0, none⟩ (.int .i64 a2)).setCell ⟨g, 1, none⟩ v) := by
  refine ⟨set2 hY, own_blk hO (fun g' c hc => ?_), (hB.setCell (p := ⟨g, 0, none⟩) hBg _).setCell (p := ⟨g, 1, none⟩) hBg _⟩
  have hne : g' ≠ g := fun e => by
    rw [e, hY] at hc
    injection hc with hc
    injection hc with _ hc _
    exact absurd hc (by decide)
  rw [Below.heap_setCell _ _ _ g' hne, Below.heap_setCell _ _ _ g' hne]
set_option maxRecDepth 100000 in
set_option maxHeartbeats 4000000 in
theorem turned_n00 (av a2 : Int) (cap : Nat) (L : List Mk) (n q : Int) (w : World) (h : RM w (.slice Option.none L.length cap) L) (hr : Ri 0 L) (h8 : L.length ≤ 8) (hq : ¬ 0 < q) (hn : hasN n L = false) :
    Calls Tryz.prog 116 #[.agg #[.int .i64 av, .slice Option.none L.length cap], .int .i64 a2, .int .i64 n, .int .i64 q] w fun e w' => ∃ v', e = .returned (.agg #[.int .i64 a2, v']) ∧ OM w' w.heap.size v' (setM n q L) ∧ Below w.heap.size w w' := by
  have HP := hide (fun (W : World) (hb : Below w.heap.size w W) => placeM_any _ L n W (h.later hb) hr h8)
  rw [hn] at HP
  have B0 := hide (((Below.refl w.heap.size w).alloc (Nat.le_refl _) (.cells #[.int .i64 av, .slice Option.none L.length cap] 60)).alloc (by simp) (.cells #[.int .i64 0, .slice Option.none 0 0] 60))
  have X0 := hide (alloc_block (o := .cells #[.int .i64 0, .slice Option.none 0 0] 60) (Px.new w av (.slice Option.none L.length cap)))
  have Y0 := hide (alloc_new (w.alloc (.cells #[.int .i64 av, .slice Option.none L.length cap] 60)) (.cells #[.int .i64 0, .slice Option.none 0 0] 60))
  rw [show (w.alloc (.cells #[.int .i64 av, .slice Option.none L.length cap] 60)).heap.size = w.heap.size + 1 by simp] at Y0
  obtain ⟨x0, x1⟩ := pair_cells X0.out rfl
  have HLE := hide (lo_le n L)
  have HCAP : Hid (L.length ≤ cap) := by obtain ⟨_, _, e, hc, _⟩ := h; cases e; exact hide hc
  have HSET : Hid (L.take (lo n L) ++ putM n q ++ L.drop (lo n L + 0) = setM n q L) := hide (by rw [setM_cut hr, hn]; rfl)
  have HRM := hide h
  have hd : decide (0 < q) = false := decide_eq_false hq
  have hnil : L = [] := by obtain ⟨_, _, e, _, hc⟩ := h; cases e; exact hc.resolve_right (fun ⟨_, _, e, _⟩ => by cases e)
  subst hnil
  rw [show lo n ([] : List Mk) = 0 from rfl] at HP HSET HLE
  rw [show ([] : List Mk).length = 0 from rfl] at HP HRM B0 X0 Y0 x0 x1 ⊢
  have HPQ : Hid (putM n q = []) := hide (if_neg hq)
  obtain ⟨R, hR⟩ : ∃ R, setM n q [] = R := ⟨_, rfl⟩
  rw [hR] at HSET ⊢
  clear hR
  clear h hr hn hq
  go_enter Tryz.func116, Tryz.ntmps116
  go_wp2_with fail
  refine (HP.out _ B0.out).mono ?_
  rintro e w1 ⟨rfl, hb1⟩
  have X1 := hide (blk_later X0.out hb1)
  have Y1 := hide (blk_later Y0.out hb1)
  have B1 := hide (B0.out.trans (hb1.mono B0.out.size))
  obtain ⟨x0, x1⟩ := pair_cells X1.out rfl
  clear hb1 X0 Y0 B0
  go_wp2_with fail
  obtain ⟨W2, hW2⟩ : ∃ W2, w1 = W2 := ⟨_, rfl⟩
  rw [hW2] at B1 Y1 X1 ⊢
  have B2 := B1
  have Y2 := Y1
  have X2 := X1
  have HMV : Hid (RM W2 (.slice Option.none 0 0) (putM n q)) := hide (by rw [HPQ.out]; exact RM.none)
  clear hW2
  have x2 : W2.cell? ⟨w.heap.size, 1, none⟩ = some (.slice Option.none 0 cap) := (pair_cells X2.out rfl).2
  clear x0 x1 X1 Y1 B1
  have HS1 : Hid (RM W2 (.slice Option.none 0 cap) ([].take 0)) := hide RM.none
  have HS3 : Hid (∀ (x : Option Addr) (c : Nat), RM W2 (.slice x 0 c) ([].drop (0 + 0))) := hide (fun x c => RM.none)
  have HLN3 : Hid ((([] : List Mk).take 0).length + (putM n q).length + (([] : List Mk).drop (0 + 0)).length ≤ 1000) := hide (by rw [HPQ.out]; simp)
  have HCC : Hid (∀ (s1 mv s3 : Value), RM W2 s1 (([] : List Mk).take 0) → RM W2 mv (putM n q) → RM W2 s3 (([] : List Mk).drop (0 + 0)) → Calls Tryz.prog 125 #[.slice (some ⟨W2.heap.size, 0, none⟩) 3 3] (W2.alloc (.cells #[s1, mv, s3] 58)).drew fun e w' => ∃ v, e = .returned v ∧ OM w' w.heap.size v R ∧ Below W2.heap.size W2 w') := hide (fun s1 mv s3 r1 r2 r3 => by
    have hb : Below W2.heap.size W2 (W2.alloc (.cells #[s1, mv, s3] 58)).drew := ((Below.refl W2.heap.size W2).alloc (Nat.le_refl _) _).trans drew_below
    refine (concat_any W2.heap.size s1 mv s3 _ _ _ _ (r1.later hb) (r2.later hb) (r3.later hb) (alloc_new W2 _) HLN3.out).mono ?_
    rintro e w' ⟨v, rfl, hO, hbb⟩
    refine ⟨v, rfl, ?_, hb.trans (hbb.mono hb.size)⟩
    rw [← HSET.out]; exact World.ownsRow.mono hO (Nat.le_trans B2.out.size hb.size))
  have HXL := hide (blk_lt X2.out)
  clear HP HRM HLE HSET HPQ HLN3 h8
  clear HCAP
  go_region_held3 (fun W => W.cell? ⟨w.heap.size, 1, none⟩ = some (.slice Option.none 0 cap)) (go_keep) ((go_at_call 125; refine (HCC.out _ _ _ HS1.out HMV.out (HS3.out _ _)).mono ?_; rintro e w' ⟨v', rfl, hO, hbb⟩; obtain ⟨a4, c4, hv4⟩ := rm_lt (OM.rm hO); subst hv4; have y2 := (hbb.cell (p := ⟨w.heap.size, 1, none⟩) HXL.out).trans x2; have Y3 := blk_later Y2.out hbb; obtain ⟨yy0, yy1⟩ := pair_cells Y3 rfl; have f0 : w'.frozen? ⟨w.heap.size + 1, 0, none⟩ = false := (by unfold World.frozen?; simp [Y3]); have f1 : w'.frozen? ⟨w.heap.size + 1, 1, none⟩ = false := (by unfold World.frozen?; simp [Y3]); have HO := hide hO; have HBB := hide hbb; have HY3 := hide Y3; clear hO hbb Y3))
  obtain ⟨e1, e2, e3⟩ := turn_end (a2 := a2) HY3.out HO.out (B2.out.trans (HBB.out.mono B2.out.size)) (Nat.le_succ _)
  generalize ((w'.setCell ⟨w.heap.size + 1, 0, none⟩ (.int .i64 a2)).setCell ⟨w.heap.size + 1, 1, none⟩ (.slice a4 R.length c4)) = X at *
  obtain ⟨dd0, dd1⟩ := pair_cells e1 rfl
  have HE2 := hide e2
  have HE3 := hide e3
  clear e1 e2 e3 HO HBB HY3 HCC
  go_wp2_with fail
  exact bodyPost_ret (v := .agg #[.int .i64 a2, .slice a4 R.length c4]) (by simp [results, Tryz.results116, go_sem, dd0, dd1]) rfl ⟨_, rfl, HE2.out, HE3.out⟩
set_option maxRecDepth 100000 in
set_option maxHeartbeats 4000000 in
theorem turned_n01 (av a2 : Int) (cap : Nat) (L : List Mk) (n q : Int) (w : World) (h : RM w (.slice Option.none L.length cap) L) (hr : Ri 0 L) (h8 : L.length ≤ 8) (hq : 0 < q) (hn : hasN n L = false) :
    Calls Tryz.prog 116 #[.agg #[.int .i64 av, .slice Option.none L.length cap], .int .i64 a2, .int .i64 n, .int .i64 q] w fun e w' => ∃ v', e = .returned (.agg #[.int .i64 a2, v']) ∧ OM w' w.heap.size v' (setM n q L) ∧ Below w.heap.size w w' := by
  have HP := hide (fun (W : World) (hb : Below w.heap.size w W) => placeM_any _ L n W (h.later hb) hr h8)
  rw [hn] at HP
  have B0 := hide (((Below.refl w.heap.size w).alloc (Nat.le_refl _) (.cells #[.int .i64 av, .slice Option.none L.length cap] 60)).alloc (by simp) (.cells #[.int .i64 0, .slice Option.none 0 0] 60))
  have X0 := hide (alloc_block (o := .cells #[.int .i64 0, .slice Option.none 0 0] 60) (Px.new w av (.slice Option.none L.length cap)))
  have Y0 := hide (alloc_new (w.alloc (.cells #[.int .i64 av, .slice Option.none L.length cap] 60)) (.cells #[.int .i64 0, .slice Option.none 0 0] 60))
  rw [show (w.alloc (.cells #[.int .i64 av, .slice Option.none L.length cap] 60)).heap.size = w.heap.size + 1 by simp] at Y0
  obtain ⟨x0, x1⟩ := pair_cells X0.out rfl
  have HLE := hide (lo_le n L)
  have HCAP : Hid (L.length ≤ cap) := by obtain ⟨_, _, e, hc, _⟩ := h; cases e; exact hide hc
  have HSET : Hid (L.take (lo n L) ++ putM n q ++ L.drop (lo n L + 0) = setM n q L) := hide (by rw [setM_cut hr, hn]; rfl)
  have HRM := hide h
  have hd : decide (0 < q) = true := decide_eq_true hq
  have hnil : L = [] := by obtain ⟨_, _, e, _, hc⟩ := h; cases e; exact hc.resolve_right (fun ⟨_, _, e, _⟩ => by cases e)
  subst hnil
  rw [show lo n ([] : List Mk) = 0 from rfl] at HP HSET HLE
  rw [show ([] : List Mk).length = 0 from rfl] at HP HRM B0 X0 Y0 x0 x1 ⊢
  have HPQ : Hid (putM n q = [(n, q)]) := hide (if_pos hq)
  obtain ⟨R, hR⟩ : ∃ R, setM n q [] = R := ⟨_, rfl⟩
  rw [hR] at HSET ⊢
  clear hR
  clear h hr hn hq
  go_enter Tryz.func116, Tryz.ntmps116
  go_wp2_with fail
  refine (HP.out _ B0.out).mono ?_
  rintro e w1 ⟨rfl, hb1⟩
  have X1 := hide (blk_later X0.out hb1)
  have Y1 := hide (blk_later Y0.out hb1)
  have B1 := hide (B0.out.trans (hb1.mono B0.out.size))
  obtain ⟨x0, x1⟩ := pair_cells X1.out rfl
  clear hb1 X0 Y0 B0
  go_wp2_with fail
  obtain ⟨W2, hW2⟩ : ∃ W2, w1.alloc (.cells #[.int .i64 n, .int .i64 q] 142) = W2 := ⟨_, rfl⟩
  have B2 := hide (show Below w.heap.size w W2 by rw [← hW2]; exact B1.out.alloc B1.out.size _)
  have Y2 := hide (show W2.heap[w.heap.size + 1]? = some (.cells #[.int .i64 0, .slice Option.none 0 0] 60) from by rw [← hW2]; exact alloc_block Y1.out)
  have X2 := hide (show W2.heap[w.heap.size]? = some (.cells #[.int .i64 av, .slice Option.none 0 cap] 60) from by rw [← hW2]; exact alloc_block X1.out)
  have HMV : Hid (RM W2 (.slice (some ⟨w1.heap.size, 0, none⟩) 1 1) (putM n q)) := hide (by
    rw [HPQ.out]
    refine ⟨_, _, rfl, Nat.le_refl _, .inr ⟨w1.heap.size, 0, rfl, by rw [← hW2]; simp, fun j p hj => ?_⟩⟩
    obtain ⟨rfl, rfl⟩ : j = 0 ∧ p = (n, q) := by
      match j, hj with
      | 0, hj => exact ⟨rfl, (Option.some.inj hj).symm⟩
    rw [← hW2]; exact pair_cells (alloc_new w1 _) rfl)
  rw [hW2]
  clear hW2
  have x2 : W2.cell? ⟨w.heap.size, 1, none⟩ = some (.slice Option.none 0 cap) := (pair_cells X2.out rfl).2
  clear x0 x1 X1 Y1 B1
  have HS1 : Hid (RM W2 (.slice Option.none 0 cap) ([].take 0)) := hide RM.none
  have HS3 : Hid (∀ (x : Option Addr) (c : Nat), RM W2 (.slice x 0 c) ([].drop (0 + 0))) := hide (fun x c => RM.none)
  have HLN3 : Hid ((([] : List Mk).take 0).length + (putM n q).length + (([] : List Mk).drop (0 + 0)).length ≤ 1000) := hide (by rw [HPQ.out]; simp)
  have HCC : Hid (∀ (s1 mv s3 : Value), RM W2 s1 (([] : List Mk).take 0) → RM W2 mv (putM n q) → RM W2 s3 (([] : List Mk).drop (0 + 0)) → Calls Tryz.prog 125 #[.slice (some ⟨W2.heap.size, 0, none⟩) 3 3] (W2.alloc (.cells #[s1, mv, s3] 58)).drew fun e w' => ∃ v, e = .returned v ∧ OM w' w.heap.size v R ∧ Below W2.heap.size W2 w') := hide (fun s1 mv s3 r1 r2 r3 => by
    have hb : Below W2.heap.size W2 (W2.alloc (.cells #[s1, mv, s3] 58)).drew := ((Below.refl W2.heap.size W2).alloc (Nat.le_refl _) _).trans drew_below
    refine (concat_any W2.heap.size s1 mv s3 _ _ _ _ (r1.later hb) (r2.later hb) (r3.later hb) (alloc_new W2 _) HLN3.out).mono ?_
    rintro e w' ⟨v, rfl, hO, hbb⟩
    refine ⟨v, rfl, ?_, hb.trans (hbb.mono hb.size)⟩
    rw [← HSET.out]; exact World.ownsRow.mono hO (Nat.le_trans B2.out.size hb.size))
  have HXL := hide (blk_lt X2.out)
  clear HP HRM HLE HSET HPQ HLN3 h8
  clear HCAP
  go_region_held3 (fun W => W.cell? ⟨w.heap.size, 1, none⟩ = some (.slice Option.none 0 cap)) (go_keep) ((go_at_call 125; refine (HCC.out _ _ _ HS1.out HMV.out (HS3.out _ _)).mono ?_; rintro e w' ⟨v', rfl, hO, hbb⟩; obtain ⟨a4, c4, hv4⟩ := rm_lt (OM.rm hO); subst hv4; have y2 := (hbb.cell (p := ⟨w.heap.size, 1, none⟩) HXL.out).trans x2; have Y3 := blk_later Y2.out hbb; obtain ⟨yy0, yy1⟩ := pair_cells Y3 rfl; have f0 : w'.frozen? ⟨w.heap.size + 1, 0, none⟩ = false := (by unfold World.frozen?; simp [Y3]); have f1 : w'.frozen? ⟨w.heap.size + 1, 1, none⟩ = false := (by unfold World.frozen?; simp [Y3]); have HO := hide hO; have HBB := hide hbb; have HY3 := hide Y3; clear hO hbb Y3))
  obtain ⟨e1, e2, e3⟩ := turn_end (a2 := a2) HY3.out HO.out (B2.out.trans (HBB.out.mono B2.out.size)) (Nat.le_succ _)
  generalize ((w'.setCell ⟨w.heap.size + 1, 0, none⟩ (.int .i64 a2)).setCell ⟨w.heap.size + 1, 1, none⟩ (.slice a4 R.length c4)) = X at *
  obtain ⟨dd0, dd1⟩ := pair_cells e1 rfl
  have HE2 := hide e2
  have HE3 := hide e3
  clear e1 e2 e3 HO HBB HY3 HCC
  go_wp2_with fail
  exact bodyPost_ret (v := .agg #[.int .i64 a2, .slice a4 R.length c4]) (by simp [results, Tryz.results116, go_sem, dd0, dd1]) rfl ⟨_, rfl, HE2.out, HE3.out⟩
set_option maxRecDepth 100000 in
set_option maxHeartbeats 4000000 in
theorem turned_m00 (av a2 : Int) (ad : Addr) (cap : Nat) (L : List Mk) (n q : Int) (w : World) (h : RM w (.slice (some ad) L.length cap) L) (hr : Ri 0 L) (h8 : L.length ≤ 8) (hq : ¬ 0 < q) (hn : hasN n L = false) (hnil : L = []) (hct : ¬ cap = 0) :
    Calls Tryz.prog 116 #[.agg #[.int .i64 av, .slice (some ad) L.length cap], .int .i64 a2, .int .i64 n, .int .i64 q] w fun e w' => ∃ v', e = .returned (.agg #[.int .i64 a2, v']) ∧ OM w' w.heap.size v' (setM n q L) ∧ Below w.heap.size w w' := by
  have HP := hide (fun (W : World) (hb : Below w.heap.size w W) => placeM_any _ L n W (h.later hb) hr h8)
  rw [hn] at HP
  have B0 := hide (((Below.refl w.heap.size w).alloc (Nat.le_refl _) (.cells #[.int .i64 av, .slice (some ad) L.length cap] 60)).alloc (by simp) (.cells #[.int .i64 0, .slice Option.none 0 0] 60))
  have X0 := hide (alloc_block (o := .cells #[.int .i64 0, .slice Option.none 0 0] 60) (Px.new w av (.slice (some ad) L.length cap)))
  have Y0 := hide (alloc_new (w.alloc (.cells #[.int .i64 av, .slice (some ad) L.length cap] 60)) (.cells #[.int .i64 0, .slice Option.none 0 0] 60))
  rw [show (w.alloc (.cells #[.int .i64 av, .slice (some ad) L.length cap] 60)).heap.size = w.heap.size + 1 by simp] at Y0
  obtain ⟨x0, x1⟩ := pair_cells X0.out rfl
  have HLE := hide (lo_le n L)
  have HCAP : Hid (L.length ≤ cap) := by obtain ⟨_, _, e, hc, _⟩ := h; cases e; exact hide hc
  have HSET : Hid (L.take (lo n L) ++ putM n q ++ L.drop (lo n L + 0) = setM n q L) := hide (by rw [setM_cut hr, hn]; rfl)
  have HRM := hide h
  have hd : decide (0 < q) = false := decide_eq_false hq
  subst hnil
  rw [show lo n ([] : List Mk) = 0 from rfl] at HP HSET HLE
  rw [show ([] : List Mk).length = 0 from rfl] at HP HRM B0 X0 Y0 x0 x1 ⊢
  have HPQ : Hid (putM n q = []) := hide (if_neg hq)
  obtain ⟨R, hR⟩ : ∃ R, setM n q [] = R := ⟨_, rfl⟩
  rw [hR] at HSET ⊢
  clear hR
  clear h hr hn hq
  go_enter Tryz.func116, Tryz.ntmps116
  go_wp2_with fail
  refine (HP.out _ B0.out).mono ?_
  rintro e w1 ⟨rfl, hb1⟩
  have X1 := hide (blk_later X0.out hb1)
  have Y1 := hide (blk_later Y0.out hb1)
  have B1 := hide (B0.out.trans (hb1.mono B0.out.size))
  obtain ⟨x0, x1⟩ := pair_cells X1.out rfl
  clear hb1 X0 Y0 B0
  go_wp2_with fail
  obtain ⟨W2, hW2⟩ : ∃ W2, w1 = W2 := ⟨_, rfl⟩
  rw [hW2] at B1 Y1 X1 ⊢
  have B2 := B1
  have Y2 := Y1
  have X2 := X1
  have HMV : Hid (RM W2 (.slice Option.none 0 0) (putM n q)) := hide (by rw [HPQ.out]; exact RM.none)
  clear hW2
  have x2 : W2.cell? ⟨w.heap.size, 1, none⟩ = some (.slice (some ad) 0 cap) := (pair_cells X2.out rfl).2
  clear x0 x1 X1 Y1 B1
  have HS1 : Hid (RM W2 (.slice (some ad) 0 cap) ([].take 0)) := hide RM.none
  have HS3 : Hid (∀ (x : Option Addr) (c : Nat), RM W2 (.slice x 0 c) ([].drop (0 + 0))) := hide (fun x c => RM.none)
  have HLN3 : Hid ((([] : List Mk).take 0).length + (putM n q).length + (([] : List Mk).drop (0 + 0)).length ≤ 1000) := hide (by rw [HPQ.out]; simp)
  have HCC : Hid (∀ (s1 mv s3 : Value), RM W2 s1 (([] : List Mk).take 0) → RM W2 mv (putM n q) → RM W2 s3 (([] : List Mk).drop (0 + 0)) → Calls Tryz.prog 125 #[.slice (some ⟨W2.heap.size, 0, none⟩) 3 3] (W2.alloc (.cells #[s1, mv, s3] 58)).drew fun e w' => ∃ v, e = .returned v ∧ OM w' w.heap.size v R ∧ Below W2.heap.size W2 w') := hide (fun s1 mv s3 r1 r2 r3 => by
    have hb : Below W2.heap.size W2 (W2.alloc (.cells #[s1, mv, s3] 58)).drew := ((Below.refl W2.heap.size W2).alloc (Nat.le_refl _) _).trans drew_below
    refine (concat_any W2.heap.size s1 mv s3 _ _ _ _ (r1.later hb) (r2.later hb) (r3.later hb) (alloc_new W2 _) HLN3.out).mono ?_
    rintro e w' ⟨v, rfl, hO, hbb⟩
    refine ⟨v, rfl, ?_, hb.trans (hbb.mono hb.size)⟩
    rw [← HSET.out]; exact World.ownsRow.mono hO (Nat.le_trans B2.out.size hb.size))
  have HXL := hide (blk_lt X2.out)
  clear HP HRM HLE HSET HPQ HLN3 h8
  clear HCAP
  go_region_held3 (fun W => W.cell? ⟨w.heap.size, 1, none⟩ = some (.slice (some ad) 0 cap)) (go_keep) ((go_at_call 125; refine (HCC.out _ _ _ HS1.out HMV.out (HS3.out _ _)).mono ?_; rintro e w' ⟨v', rfl, hO, hbb⟩; obtain ⟨a4, c4, hv4⟩ := rm_lt (OM.rm hO); subst hv4; have y2 := (hbb.cell (p := ⟨w.heap.size, 1, none⟩) HXL.out).trans x2; have Y3 := blk_later Y2.out hbb; obtain ⟨yy0, yy1⟩ := pair_cells Y3 rfl; have f0 : w'.frozen? ⟨w.heap.size + 1, 0, none⟩ = false := (by unfold World.frozen?; simp [Y3]); have f1 : w'.frozen? ⟨w.heap.size + 1, 1, none⟩ = false := (by unfold World.frozen?; simp [Y3]); have HO := hide hO; have HBB := hide hbb; have HY3 := hide Y3; clear hO hbb Y3))
  obtain ⟨e1, e2, e3⟩ := turn_end (a2 := a2) HY3.out HO.out (B2.out.trans (HBB.out.mono B2.out.size)) (Nat.le_succ _)
  generalize ((w'.setCell ⟨w.heap.size + 1, 0, none⟩ (.int .i64 a2)).setCell ⟨w.heap.size + 1, 1, none⟩ (.slice a4 R.length c4)) = X at *
  obtain ⟨dd0, dd1⟩ := pair_cells e1 rfl
  have HE2 := hide e2
  have HE3 := hide e3
  clear e1 e2 e3 HO HBB HY3 HCC
  go_wp2_with fail
  exact bodyPost_ret (v := .agg #[.int .i64 a2, .slice a4 R.length c4]) (by simp [results, Tryz.results116, go_sem, dd0, dd1]) rfl ⟨_, rfl, HE2.out, HE3.out⟩
set_option maxRecDepth 100000 in
set_option maxHeartbeats 4000000 in
theorem turned_m01 (av a2 : Int) (ad : Addr) (cap : Nat) (L : List Mk) (n q : Int) (w : World) (h : RM w (.slice (some ad) L.length cap) L) (hr : Ri 0 L) (h8 : L.length ≤ 8) (hq : 0 < q) (hn : hasN n L = false) (hnil : L = []) (hct : ¬ cap = 0) :
    Calls Tryz.prog 116 #[.agg #[.int .i64 av, .slice (some ad) L.length cap], .int .i64 a2, .int .i64 n, .int .i64 q] w fun e w' => ∃ v', e = .returned (.agg #[.int .i64 a2, v']) ∧ OM w' w.heap.size v' (setM n q L) ∧ Below w.heap.size w w' := by
  have HP := hide (fun (W : World) (hb : Below w.heap.size w W) => placeM_any _ L n W (h.later hb) hr h8)
  rw [hn] at HP
  have B0 := hide (((Below.refl w.heap.size w).alloc (Nat.le_refl _) (.cells #[.int .i64 av, .slice (some ad) L.length cap] 60)).alloc (by simp) (.cells #[.int .i64 0, .slice Option.none 0 0] 60))
  have X0 := hide (alloc_block (o := .cells #[.int .i64 0, .slice Option.none 0 0] 60) (Px.new w av (.slice (some ad) L.length cap)))
  have Y0 := hide (alloc_new (w.alloc (.cells #[.int .i64 av, .slice (some ad) L.length cap] 60)) (.cells #[.int .i64 0, .slice Option.none 0 0] 60))
  rw [show (w.alloc (.cells #[.int .i64 av, .slice (some ad) L.length cap] 60)).heap.size = w.heap.size + 1 by simp] at Y0
  obtain ⟨x0, x1⟩ := pair_cells X0.out rfl
  have HLE := hide (lo_le n L)
  have HCAP : Hid (L.length ≤ cap) := by obtain ⟨_, _, e, hc, _⟩ := h; cases e; exact hide hc
  have HSET : Hid (L.take (lo n L) ++ putM n q ++ L.drop (lo n L + 0) = setM n q L) := hide (by rw [setM_cut hr, hn]; rfl)
  have HRM := hide h
  have hd : decide (0 < q) = true := decide_eq_true hq
  subst hnil
  rw [show lo n ([] : List Mk) = 0 from rfl] at HP HSET HLE
  rw [show ([] : List Mk).length = 0 from rfl] at HP HRM B0 X0 Y0 x0 x1 ⊢
  have HPQ : Hid (putM n q = [(n, q)]) := hide (if_pos hq)
  obtain ⟨R, hR⟩ : ∃ R, setM n q [] = R := ⟨_, rfl⟩
  rw [hR] at HSET ⊢
  clear hR
  clear h hr hn hq
  go_enter Tryz.func116, Tryz.ntmps116
  go_wp2_with fail
  refine (HP.out _ B0.out).mono ?_
  rintro e w1 ⟨rfl, hb1⟩
  have X1 := hide (blk_later X0.out hb1)
  have Y1 := hide (blk_later Y0.out hb1)
  have B1 := hide (B0.out.trans (hb1.mono B0.out.size))
  obtain ⟨x0, x1⟩ := pair_cells X1.out rfl
  clear hb1 X0 Y0 B0
  go_wp2_with fail
  obtain ⟨W2, hW2⟩ : ∃ W2, w1.alloc (.cells #[.int .i64 n, .int .i64 q] 142) = W2 := ⟨_, rfl⟩
  have B2 := hide (show Below w.heap.size w W2 by rw [← hW2]; exact B1.out.alloc B1.out.size _)
  have Y2 := hide (show W2.heap[w.heap.size + 1]? = some (.cells #[.int .i64 0, .slice Option.none 0 0] 60) from by rw [← hW2]; exact alloc_block Y1.out)
  have X2 := hide (show W2.heap[w.heap.size]? = some (.cells #[.int .i64 av, .slice (some ad) 0 cap] 60) from by rw [← hW2]; exact alloc_block X1.out)
  have HMV : Hid (RM W2 (.slice (some ⟨w1.heap.size, 0, none⟩) 1 1) (putM n q)) := hide (by
    rw [HPQ.out]
    refine ⟨_, _, rfl, Nat.le_refl _, .inr ⟨w1.heap.size, 0, rfl, by rw [← hW2]; simp, fun j p hj => ?_⟩⟩
    obtain ⟨rfl, rfl⟩ : j = 0 ∧ p = (n, q) := by
      match j, hj with
      | 0, hj => exact ⟨rfl, (Option.some.inj hj).symm⟩
    rw [← hW2]; exact pair_cells (alloc_new w1 _) rfl)
  rw [hW2]
  clear hW2
  have x2 : W2.cell? ⟨w.heap.size, 1, none⟩ = some (.slice (some ad) 0 cap) := (pair_cells X2.out rfl).2
  clear x0 x1 X1 Y1 B1
  have HS1 : Hid (RM W2 (.slice (some ad) 0 cap) ([].take 0)) := hide RM.none
  have HS3 : Hid (∀ (x : Option Addr) (c : Nat), RM W2 (.slice x 0 c) ([].drop (0 + 0))) := hide (fun x c => RM.none)
  have HLN3 : Hid ((([] : List Mk).take 0).length + (putM n q).length + (([] : List Mk).drop (0 + 0)).length ≤ 1000) := hide (by rw [HPQ.out]; simp)
  have HCC : Hid (∀ (s1 mv s3 : Value), RM W2 s1 (([] : List Mk).take 0) → RM W2 mv (putM n q) → RM W2 s3 (([] : List Mk).drop (0 + 0)) → Calls Tryz.prog 125 #[.slice (some ⟨W2.heap.size, 0, none⟩) 3 3] (W2.alloc (.cells #[s1, mv, s3] 58)).drew fun e w' => ∃ v, e = .returned v ∧ OM w' w.heap.size v R ∧ Below W2.heap.size W2 w') := hide (fun s1 mv s3 r1 r2 r3 => by
    have hb : Below W2.heap.size W2 (W2.alloc (.cells #[s1, mv, s3] 58)).drew := ((Below.refl W2.heap.size W2).alloc (Nat.le_refl _) _).trans drew_below
    refine (concat_any W2.heap.size s1 mv s3 _ _ _ _ (r1.later hb) (r2.later hb) (r3.later hb) (alloc_new W2 _) HLN3.out).mono ?_
    rintro e w' ⟨v, rfl, hO, hbb⟩
    refine ⟨v, rfl, ?_, hb.trans (hbb.mono hb.size)⟩
    rw [← HSET.out]; exact World.ownsRow.mono hO (Nat.le_trans B2.out.size hb.size))
  have HXL := hide (blk_lt X2.out)
  clear HP HRM HLE HSET HPQ HLN3 h8
  clear HCAP
  go_region_held3 (fun W => W.cell? ⟨w.heap.size, 1, none⟩ = some (.slice (some ad) 0 cap)) (go_keep) ((go_at_call 125; refine (HCC.out _ _ _ HS1.out HMV.out (HS3.out _ _)).mono ?_; rintro e w' ⟨v', rfl, hO, hbb⟩; obtain ⟨a4, c4, hv4⟩ := rm_lt (OM.rm hO); subst hv4; have y2 := (hbb.cell (p := ⟨w.heap.size, 1, none⟩) HXL.out).trans x2; have Y3 := blk_later Y2.out hbb; obtain ⟨yy0, yy1⟩ := pair_cells Y3 rfl; have f0 : w'.frozen? ⟨w.heap.size + 1, 0, none⟩ = false := (by unfold World.frozen?; simp [Y3]); have f1 : w'.frozen? ⟨w.heap.size + 1, 1, none⟩ = false := (by unfold World.frozen?; simp [Y3]); have HO := hide hO; have HBB := hide hbb; have HY3 := hide Y3; clear hO hbb Y3))
  obtain ⟨e1, e2, e3⟩ := turn_end (a2 := a2) HY3.out HO.out (B2.out.trans (HBB.out.mono B2.out.size)) (Nat.le_succ _)
  generalize ((w'.setCell ⟨w.heap.size + 1, 0, none⟩ (.int .i64 a2)).setCell ⟨w.heap.size + 1, 1, none⟩ (.slice a4 R.length c4)) = X at *
  obtain ⟨dd0, dd1⟩ := pair_cells e1 rfl
  have HE2 := hide e2
  have HE3 := hide e3
  clear e1 e2 e3 HO HBB HY3 HCC
  go_wp2_with fail
  exact bodyPost_ret (v := .agg #[.int .i64 a2, .slice a4 R.length c4]) (by simp [results, Tryz.results116, go_sem, dd0, dd1]) rfl ⟨_, rfl, HE2.out, HE3.out⟩
set_option maxRecDepth 100000 in
set_option maxHeartbeats 4000000 in
theorem turned_k00 (av a2 : Int) (ad : Addr) (L : List Mk) (n q : Int) (w : World) (h : RM w (.slice (some ad) L.length 0) L) (hr : Ri 0 L) (h8 : L.length ≤ 8) (hq : ¬ 0 < q) (hn : hasN n L = false) (hnil : L = []) :
    Calls Tryz.prog 116 #[.agg #[.int .i64 av, .slice (some ad) L.length 0], .int .i64 a2, .int .i64 n, .int .i64 q] w fun e w' => ∃ v', e = .returned (.agg #[.int .i64 a2, v']) ∧ OM w' w.heap.size v' (setM n q L) ∧ Below w.heap.size w w' := by
  have HP := hide (fun (W : World) (hb : Below w.heap.size w W) => placeM_any _ L n W (h.later hb) hr h8)
  rw [hn] at HP
  have B0 := hide (((Below.refl w.heap.size w).alloc (Nat.le_refl _) (.cells #[.int .i64 av, .slice (some ad) L.length 0] 60)).alloc (by simp) (.cells #[.int .i64 0, .slice Option.none 0 0] 60))
  have X0 := hide (alloc_block (o := .cells #[.int .i64 0, .slice Option.none 0 0] 60) (Px.new w av (.slice (some ad) L.length 0)))
  have Y0 := hide (alloc_new (w.alloc (.cells #[.int .i64 av, .slice (some ad) L.length 0] 60)) (.cells #[.int .i64 0, .slice Option.none 0 0] 60))
  rw [show (w.alloc (.cells #[.int .i64 av, .slice (some ad) L.length 0] 60)).heap.size = w.heap.size + 1 by simp] at Y0
  obtain ⟨x0, x1⟩ := pair_cells X0.out rfl
  have HLE := hide (lo_le n L)
  have HSET : Hid (L.take (lo n L) ++ putM n q ++ L.drop (lo n L + 0) = setM n q L) := hide (by rw [setM_cut hr, hn]; rfl)
  have HRM := hide h
  have hd : decide (0 < q) = false := decide_eq_false hq
  subst hnil
  rw [show lo n ([] : List Mk) = 0 from rfl] at HP HSET HLE
  rw [show ([] : List Mk).length = 0 from rfl] at HP HRM B0 X0 Y0 x0 x1 ⊢
  have HPQ : Hid (putM n q = []) := hide (if_neg hq)
  obtain ⟨R, hR⟩ : ∃ R, setM n q [] = R := ⟨_, rfl⟩
  rw [hR] at HSET ⊢
  clear hR
  clear h hr hn hq
  go_enter Tryz.func116, Tryz.ntmps116
  go_wp2_with fail
  refine (HP.out _ B0.out).mono ?_
  rintro e w1 ⟨rfl, hb1⟩
  have X1 := hide (blk_later X0.out hb1)
  have Y1 := hide (blk_later Y0.out hb1)
  have B1 := hide (B0.out.trans (hb1.mono B0.out.size))
  obtain ⟨x0, x1⟩ := pair_cells X1.out rfl
  clear hb1 X0 Y0 B0
  go_wp2_with fail
  obtain ⟨W2, hW2⟩ : ∃ W2, w1 = W2 := ⟨_, rfl⟩
  rw [hW2] at B1 Y1 X1 ⊢
  have B2 := B1
  have Y2 := Y1
  have X2 := X1
  have HMV : Hid (RM W2 (.slice Option.none 0 0) (putM n q)) := hide (by rw [HPQ.out]; exact RM.none)
  clear hW2
  have x2 : W2.cell? ⟨w.heap.size, 1, none⟩ = some (.slice (some ad) 0 0) := (pair_cells X2.out rfl).2
  clear x0 x1 X1 Y1 B1
  have HS1 : Hid (RM W2 (.slice (some ad) 0 0) ([].take 0)) := hide RM.none
  have HS3 : Hid (∀ (x : Option Addr) (c : Nat), RM W2 (.slice x 0 c) ([].drop (0 + 0))) := hide (fun x c => RM.none)
  have HLN3 : Hid ((([] : List Mk).take 0).length + (putM n q).length + (([] : List Mk).drop (0 + 0)).length ≤ 1000) := hide (by rw [HPQ.out]; simp)
  have HCC : Hid (∀ (s1 mv s3 : Value), RM W2 s1 (([] : List Mk).take 0) → RM W2 mv (putM n q) → RM W2 s3 (([] : List Mk).drop (0 + 0)) → Calls Tryz.prog 125 #[.slice (some ⟨W2.heap.size, 0, none⟩) 3 3] (W2.alloc (.cells #[s1, mv, s3] 58)).drew fun e w' => ∃ v, e = .returned v ∧ OM w' w.heap.size v R ∧ Below W2.heap.size W2 w') := hide (fun s1 mv s3 r1 r2 r3 => by
    have hb : Below W2.heap.size W2 (W2.alloc (.cells #[s1, mv, s3] 58)).drew := ((Below.refl W2.heap.size W2).alloc (Nat.le_refl _) _).trans drew_below
    refine (concat_any W2.heap.size s1 mv s3 _ _ _ _ (r1.later hb) (r2.later hb) (r3.later hb) (alloc_new W2 _) HLN3.out).mono ?_
    rintro e w' ⟨v, rfl, hO, hbb⟩
    refine ⟨v, rfl, ?_, hb.trans (hbb.mono hb.size)⟩
    rw [← HSET.out]; exact World.ownsRow.mono hO (Nat.le_trans B2.out.size hb.size))
  have HXL := hide (blk_lt X2.out)
  clear HP HRM HLE HSET HPQ HLN3 h8
  go_region_held3 (fun W => W.cell? ⟨w.heap.size, 1, none⟩ = some (.slice (some ad) 0 0)) (go_keep) ((go_at_call 125; refine (HCC.out _ _ _ HS1.out HMV.out (HS3.out _ _)).mono ?_; rintro e w' ⟨v', rfl, hO, hbb⟩; obtain ⟨a4, c4, hv4⟩ := rm_lt (OM.rm hO); subst hv4; have y2 := (hbb.cell (p := ⟨w.heap.size, 1, none⟩) HXL.out).trans x2; have Y3 := blk_later Y2.out hbb; obtain ⟨yy0, yy1⟩ := pair_cells Y3 rfl; have f0 : w'.frozen? ⟨w.heap.size + 1, 0, none⟩ = false := (by unfold World.frozen?; simp [Y3]); have f1 : w'.frozen? ⟨w.heap.size + 1, 1, none⟩ = false := (by unfold World.frozen?; simp [Y3]); have HO := hide hO; have HBB := hide hbb; have HY3 := hide Y3; clear hO hbb Y3))
  obtain ⟨e1, e2, e3⟩ := turn_end (a2 := a2) HY3.out HO.out (B2.out.trans (HBB.out.mono B2.out.size)) (Nat.le_succ _)
  generalize ((w'.setCell ⟨w.heap.size + 1, 0, none⟩ (.int .i64 a2)).setCell ⟨w.heap.size + 1, 1, none⟩ (.slice a4 R.length c4)) = X at *
  obtain ⟨dd0, dd1⟩ := pair_cells e1 rfl
  have HE2 := hide e2
  have HE3 := hide e3
  clear e1 e2 e3 HO HBB HY3 HCC
  go_wp2_with fail
  exact bodyPost_ret (v := .agg #[.int .i64 a2, .slice a4 R.length c4]) (by simp [results, Tryz.results116, go_sem, dd0, dd1]) rfl ⟨_, rfl, HE2.out, HE3.out⟩
set_option maxRecDepth 100000 in
set_option maxHeartbeats 4000000 in
theorem turned_k01 (av a2 : Int) (ad : Addr) (L : List Mk) (n q : Int) (w : World) (h : RM w (.slice (some ad) L.length 0) L) (hr : Ri 0 L) (h8 : L.length ≤ 8) (hq : 0 < q) (hn : hasN n L = false) (hnil : L = []) :
    Calls Tryz.prog 116 #[.agg #[.int .i64 av, .slice (some ad) L.length 0], .int .i64 a2, .int .i64 n, .int .i64 q] w fun e w' => ∃ v', e = .returned (.agg #[.int .i64 a2, v']) ∧ OM w' w.heap.size v' (setM n q L) ∧ Below w.heap.size w w' := by
  have HP := hide (fun (W : World) (hb : Below w.heap.size w W) => placeM_any _ L n W (h.later hb) hr h8)
  rw [hn] at HP
  have B0 := hide (((Below.refl w.heap.size w).alloc (Nat.le_refl _) (.cells #[.int .i64 av, .slice (some ad) L.length 0] 60)).alloc (by simp) (.cells #[.int .i64 0, .slice Option.none 0 0] 60))
  have X0 := hide (alloc_block (o := .cells #[.int .i64 0, .slice Option.none 0 0] 60) (Px.new w av (.slice (some ad) L.length 0)))
  have Y0 := hide (alloc_new (w.alloc (.cells #[.int .i64 av, .slice (some ad) L.length 0] 60)) (.cells #[.int .i64 0, .slice Option.none 0 0] 60))
  rw [show (w.alloc (.cells #[.int .i64 av, .slice (some ad) L.length 0] 60)).heap.size = w.heap.size + 1 by simp] at Y0
  obtain ⟨x0, x1⟩ := pair_cells X0.out rfl
  have HLE := hide (lo_le n L)
  have HSET : Hid (L.take (lo n L) ++ putM n q ++ L.drop (lo n L + 0) = setM n q L) := hide (by rw [setM_cut hr, hn]; rfl)
  have HRM := hide h
  have hd : decide (0 < q) = true := decide_eq_true hq
  subst hnil
  rw [show lo n ([] : List Mk) = 0 from rfl] at HP HSET HLE
  rw [show ([] : List Mk).length = 0 from rfl] at HP HRM B0 X0 Y0 x0 x1 ⊢
  have HPQ : Hid (putM n q = [(n, q)]) := hide (if_pos hq)
  obtain ⟨R, hR⟩ : ∃ R, setM n q [] = R := ⟨_, rfl⟩
  rw [hR] at HSET ⊢
  clear hR
  clear h hr hn hq
  go_enter Tryz.func116, Tryz.ntmps116
  go_wp2_with fail
  refine (HP.out _ B0.out).mono ?_
  rintro e w1 ⟨rfl, hb1⟩
  have X1 := hide (blk_later X0.out hb1)
  have Y1 := hide (blk_later Y0.out hb1)
  have B1 := hide (B0.out.trans (hb1.mono B0.out.size))
  obtain ⟨x0, x1⟩ := pair_cells X1.out rfl
  clear hb1 X0 Y0 B0
  go_wp2_with fail
  obtain ⟨W2, hW2⟩ : ∃ W2, w1.alloc (.cells #[.int .i64 n, .int .i64 q] 142) = W2 := ⟨_, rfl⟩
  have B2 := hide (show Below w.heap.size w W2 by rw [← hW2]; exact B1.out.alloc B1.out.size _)
  have Y2 := hide (show W2.heap[w.heap.size + 1]? = some (.cells #[.int .i64 0, .slice Option.none 0 0] 60) from by rw [← hW2]; exact alloc_block Y1.out)
  have X2 := hide (show W2.heap[w.heap.size]? = some (.cells #[.int .i64 av, .slice (some ad) 0 0] 60) from by rw [← hW2]; exact alloc_block X1.out)
  have HMV : Hid (RM W2 (.slice (some ⟨w1.heap.size, 0, none⟩) 1 1) (putM n q)) := hide (by
    rw [HPQ.out]
    refine ⟨_, _, rfl, Nat.le_refl _, .inr ⟨w1.heap.size, 0, rfl, by rw [← hW2]; simp, fun j p hj => ?_⟩⟩
    obtain ⟨rfl, rfl⟩ : j = 0 ∧ p = (n, q) := by
      match j, hj with
      | 0, hj => exact ⟨rfl, (Option.some.inj hj).symm⟩
    rw [← hW2]; exact pair_cells (alloc_new w1 _) rfl)
  rw [hW2]
  clear hW2
  have x2 : W2.cell? ⟨w.heap.size, 1, none⟩ = some (.slice (some ad) 0 0) := (pair_cells X2.out rfl).2
  clear x0 x1 X1 Y1 B1
  have HS1 : Hid (RM W2 (.slice (some ad) 0 0) ([].take 0)) := hide RM.none
  have HS3 : Hid (∀ (x : Option Addr) (c : Nat), RM W2 (.slice x 0 c) ([].drop (0 + 0))) := hide (fun x c => RM.none)
  have HLN3 : Hid ((([] : List Mk).take 0).length + (putM n q).length + (([] : List Mk).drop (0 + 0)).length ≤ 1000) := hide (by rw [HPQ.out]; simp)
  have HCC : Hid (∀ (s1 mv s3 : Value), RM W2 s1 (([] : List Mk).take 0) → RM W2 mv (putM n q) → RM W2 s3 (([] : List Mk).drop (0 + 0)) → Calls Tryz.prog 125 #[.slice (some ⟨W2.heap.size, 0, none⟩) 3 3] (W2.alloc (.cells #[s1, mv, s3] 58)).drew fun e w' => ∃ v, e = .returned v ∧ OM w' w.heap.size v R ∧ Below W2.heap.size W2 w') := hide (fun s1 mv s3 r1 r2 r3 => by
    have hb : Below W2.heap.size W2 (W2.alloc (.cells #[s1, mv, s3] 58)).drew := ((Below.refl W2.heap.size W2).alloc (Nat.le_refl _) _).trans drew_below
    refine (concat_any W2.heap.size s1 mv s3 _ _ _ _ (r1.later hb) (r2.later hb) (r3.later hb) (alloc_new W2 _) HLN3.out).mono ?_
    rintro e w' ⟨v, rfl, hO, hbb⟩
    refine ⟨v, rfl, ?_, hb.trans (hbb.mono hb.size)⟩
    rw [← HSET.out]; exact World.ownsRow.mono hO (Nat.le_trans B2.out.size hb.size))
  have HXL := hide (blk_lt X2.out)
  clear HP HRM HLE HSET HPQ HLN3 h8
  go_region_held3 (fun W => W.cell? ⟨w.heap.size, 1, none⟩ = some (.slice (some ad) 0 0)) (go_keep) ((go_at_call 125; refine (HCC.out _ _ _ HS1.out HMV.out (HS3.out _ _)).mono ?_; rintro e w' ⟨v', rfl, hO, hbb⟩; obtain ⟨a4, c4, hv4⟩ := rm_lt (OM.rm hO); subst hv4; have y2 := (hbb.cell (p := ⟨w.heap.size, 1, none⟩) HXL.out).trans x2; have Y3 := blk_later Y2.out hbb; obtain ⟨yy0, yy1⟩ := pair_cells Y3 rfl; have f0 : w'.frozen? ⟨w.heap.size + 1, 0, none⟩ = false := (by unfold World.frozen?; simp [Y3]); have f1 : w'.frozen? ⟨w.heap.size + 1, 1, none⟩ = false := (by unfold World.frozen?; simp [Y3]); have HO := hide hO; have HBB := hide hbb; have HY3 := hide Y3; clear hO hbb Y3))
  obtain ⟨e1, e2, e3⟩ := turn_end (a2 := a2) HY3.out HO.out (B2.out.trans (HBB.out.mono B2.out.size)) (Nat.le_succ _)
  generalize ((w'.setCell ⟨w.heap.size + 1, 0, none⟩ (.int .i64 a2)).setCell ⟨w.heap.size + 1, 1, none⟩ (.slice a4 R.length c4)) = X at *
  obtain ⟨dd0, dd1⟩ := pair_cells e1 rfl
  have HE2 := hide e2
  have HE3 := hide e3
  clear e1 e2 e3 HO HBB HY3 HCC
  go_wp2_with fail
  exact bodyPost_ret (v := .agg #[.int .i64 a2, .slice a4 R.length c4]) (by simp [results, Tryz.results116, go_sem, dd0, dd1]) rfl ⟨_, rfl, HE2.out, HE3.out⟩
set_option maxRecDepth 100000 in
set_option maxHeartbeats 4000000 in
theorem turned_e00 (av a2 : Int) (b off : Nat) (cap : Nat) (L : List Mk) (n q : Int) (w : World) (h : RM w (.slice (some ⟨b, off, none⟩) L.length cap) L) (hr : Ri 0 L) (h8 : L.length ≤ 8) (hq : ¬ 0 < q) (hn : hasN n L = false) (hct : cap = lo n L + 0) :
    Calls Tryz.prog 116 #[.agg #[.int .i64 av, .slice (some ⟨b, off, none⟩) L.length cap], .int .i64 a2, .int .i64 n, .int .i64 q] w fun e w' => ∃ v', e = .returned (.agg #[.int .i64 a2, v']) ∧ OM w' w.heap.size v' (setM n q L) ∧ Below w.heap.size w w' := by
  have HP := hide (fun (W : World) (hb : Below w.heap.size w W) => placeM_any _ L n W (h.later hb) hr h8)
  rw [hn] at HP
  have B0 := hide (((Below.refl w.heap.size w).alloc (Nat.le_refl _) (.cells #[.int .i64 av, .slice (some ⟨b, off, none⟩) L.length cap] 60)).alloc (by simp) (.cells #[.int .i64 0, .slice Option.none 0 0] 60))
  have X0 := hide (alloc_block (o := .cells #[.int .i64 0, .slice Option.none 0 0] 60) (Px.new w av (.slice (some ⟨b, off, none⟩) L.length cap)))
  have Y0 := hide (alloc_new (w.alloc (.cells #[.int .i64 av, .slice (some ⟨b, off, none⟩) L.length cap] 60)) (.cells #[.int .i64 0, .slice Option.none 0 0] 60))
  rw [show (w.alloc (.cells #[.int .i64 av, .slice (some ⟨b, off, none⟩) L.length cap] 60)).heap.size = w.heap.size + 1 by simp] at Y0
  obtain ⟨x0, x1⟩ := pair_cells X0.out rfl
  have HLE := hide (lo_le n L)
  have HCAP : Hid (L.length ≤ cap) := by obtain ⟨_, _, e, hc, _⟩ := h; cases e; exact hide hc
  have HSET : Hid (L.take (lo n L) ++ putM n q ++ L.drop (lo n L + 0) = setM n q L) := hide (by rw [setM_cut hr, hn]; rfl)
  have HRM := hide h
  have hd : decide (0 < q) = false := decide_eq_false hq
  have HPQ : Hid (putM n q = []) := hide (if_neg hq)
  generalize hM : lo n L = M at *
  generalize hln : L.length = ln at *
  have HLN := hide hln
  clear hM hln
  obtain ⟨R, hR⟩ : ∃ R, setM n q L = R := ⟨_, rfl⟩
  rw [hR] at HSET ⊢
  clear hR
  clear h hr hn hq
  have HCT := hide hct
  clear hct
  go_enter Tryz.func116, Tryz.ntmps116
  go_wp2_with fail
  refine (HP.out _ B0.out).mono ?_
  rintro e w1 ⟨rfl, hb1⟩
  have X1 := hide (blk_later X0.out hb1)
  have Y1 := hide (blk_later Y0.out hb1)
  have B1 := hide (B0.out.trans (hb1.mono B0.out.size))
  obtain ⟨x0, x1⟩ := pair_cells X1.out rfl
  clear hb1 X0 Y0 B0
  go_wp2_with fail
  obtain ⟨W2, hW2⟩ : ∃ W2, w1 = W2 := ⟨_, rfl⟩
  rw [hW2] at B1 Y1 X1 ⊢
  have B2 := B1
  have Y2 := Y1
  have X2 := X1
  have HMV : Hid (RM W2 (.slice Option.none 0 0) (putM n q)) := hide (by rw [HPQ.out]; exact RM.none)
  clear hW2
  have x2 : W2.cell? ⟨w.heap.size, 1, none⟩ = some (.slice (some ⟨b, off, none⟩) ln cap) := (pair_cells X2.out rfl).2
  clear x0 x1 X1 Y1 B1
  have HT : Hid (M = M + 0) := hide rfl
  have hmc : (M : Int) ≤ (cap : Int) := by have := HCAP.out; have := HLE.out; omega
  have hm0 : (0 : Int) ≤ (M : Int) := by omega
  have hm1 : (M : Int) ≤ (ln : Int) := by have := HLE.out; omega
  have hm2 : (ln : Int) ≤ (cap : Int) := by have := HCAP.out; omega
  have hct2 : M = cap := by have := HT.out; have := HCT.out; omega
  have hct3 : M = ln := by omega
  have HD : Hid (L.drop (M + 0) = []) := hide (List.drop_eq_nil_of_le (by have := HLN.out; have := HT.out; omega))
  have HS1 : Hid (RM W2 (.slice (some ⟨b, off, none⟩) M cap) (L.take M)) := hide (by have hh := HRM.out.later B2.out; rw [← HLN.out] at hh; exact RM.take hh (by have := HLN.out; have := HLE.out; omega))
  have HS3 : Hid (∀ (x : Option Addr) (c : Nat), RM W2 (.slice x 0 c) (L.drop (M + 0))) := hide (fun x c => by rw [HD.out]; exact RM.none)
  have HLN3 : Hid ((L.take M).length + (putM n q).length + (L.drop (M + 0)).length ≤ 1000) := hide (by rw [List.length_take, List.length_drop, HPQ.out]; have := HLN.out; simp; omega)
  have HCC : Hid (∀ (s1 mv s3 : Value), RM W2 s1 (L.take M) → RM W2 mv (putM n q) → RM W2 s3 (L.drop (M + 0)) → Calls Tryz.prog 125 #[.slice (some ⟨W2.heap.size, 0, none⟩) 3 3] (W2.alloc (.cells #[s1, mv, s3] 58)).drew fun e w' => ∃ v, e = .returned v ∧ OM w' w.heap.size v R ∧ Below W2.heap.size W2 w') := hide (fun s1 mv s3 r1 r2 r3 => by
    have hb : Below W2.heap.size W2 (W2.alloc (.cells #[s1, mv, s3] 58)).drew := ((Below.refl W2.heap.size W2).alloc (Nat.le_refl _) _).trans drew_below
    refine (concat_any W2.heap.size s1 mv s3 _ _ _ _ (r1.later hb) (r2.later hb) (r3.later hb) (alloc_new W2 _) HLN3.out).mono ?_
    rintro e w' ⟨v, rfl, hO, hbb⟩
    refine ⟨v, rfl, ?_, hb.trans (hbb.mono hb.size)⟩
    rw [← HSET.out]; exact World.ownsRow.mono hO (Nat.le_trans B2.out.size hb.size))
  have HXL := hide (blk_lt X2.out)
  clear HP HRM HLE HSET HPQ HLN3 h8
  clear HCAP
  clear HLN
  subst hct2
  subst hct3
  go_region_held3 (fun W => W.cell? ⟨w.heap.size, 1, none⟩ = some (.slice (some ⟨b, off, none⟩) M M)) (go_keep) ((go_at_call 125; refine (HCC.out _ _ _ HS1.out HMV.out (HS3.out _ _)).mono ?_; rintro e w' ⟨v', rfl, hO, hbb⟩; obtain ⟨a4, c4, hv4⟩ := rm_lt (OM.rm hO); subst hv4; have y2 := (hbb.cell (p := ⟨w.heap.size, 1, none⟩) HXL.out).trans x2; have Y3 := blk_later Y2.out hbb; obtain ⟨yy0, yy1⟩ := pair_cells Y3 rfl; have f0 : w'.frozen? ⟨w.heap.size + 1, 0, none⟩ = false := (by unfold World.frozen?; simp [Y3]); have f1 : w'.frozen? ⟨w.heap.size + 1, 1, none⟩ = false := (by unfold World.frozen?; simp [Y3]); have HO := hide hO; have HBB := hide hbb; have HY3 := hide Y3; clear hO hbb Y3))
  obtain ⟨e1, e2, e3⟩ := turn_end (a2 := a2) HY3.out HO.out (B2.out.trans (HBB.out.mono B2.out.size)) (Nat.le_succ _)
  generalize ((w'.setCell ⟨w.heap.size + 1, 0, none⟩ (.int .i64 a2)).setCell ⟨w.heap.size + 1, 1, none⟩ (.slice a4 R.length c4)) = X at *
  obtain ⟨dd0, dd1⟩ := pair_cells e1 rfl
  have HE2 := hide e2
  have HE3 := hide e3
  clear e1 e2 e3 HO HBB HY3 HCC
  go_wp2_with fail
  exact bodyPost_ret (v := .agg #[.int .i64 a2, .slice a4 R.length c4]) (by simp [results, Tryz.results116, go_sem, dd0, dd1]) rfl ⟨_, rfl, HE2.out, HE3.out⟩
set_option maxRecDepth 100000 in
set_option maxHeartbeats 4000000 in
theorem turned_e01 (av a2 : Int) (b off : Nat) (cap : Nat) (L : List Mk) (n q : Int) (w : World) (h : RM w (.slice (some ⟨b, off, none⟩) L.length cap) L) (hr : Ri 0 L) (h8 : L.length ≤ 8) (hq : 0 < q) (hn : hasN n L = false) (hct : cap = lo n L + 0) :
    Calls Tryz.prog 116 #[.agg #[.int .i64 av, .slice (some ⟨b, off, none⟩) L.length cap], .int .i64 a2, .int .i64 n, .int .i64 q] w fun e w' => ∃ v', e = .returned (.agg #[.int .i64 a2, v']) ∧ OM w' w.heap.size v' (setM n q L) ∧ Below w.heap.size w w' := by
  have HP := hide (fun (W : World) (hb : Below w.heap.size w W) => placeM_any _ L n W (h.later hb) hr h8)
  rw [hn] at HP
  have B0 := hide (((Below.refl w.heap.size w).alloc (Nat.le_refl _) (.cells #[.int .i64 av, .slice (some ⟨b, off, none⟩) L.length cap] 60)).alloc (by simp) (.cells #[.int .i64 0, .slice Option.none 0 0] 60))
  have X0 := hide (alloc_block (o := .cells #[.int .i64 0, .slice Option.none 0 0] 60) (Px.new w av (.slice (some ⟨b, off, none⟩) L.length cap)))
  have Y0 := hide (alloc_new (w.alloc (.cells #[.int .i64 av, .slice (some ⟨b, off, none⟩) L.length cap] 60)) (.cells #[.int .i64 0, .slice Option.none 0 0] 60))
  rw [show (w.alloc (.cells #[.int .i64 av, .slice (some ⟨b, off, none⟩) L.length cap] 60)).heap.size = w.heap.size + 1 by simp] at Y0
  obtain ⟨x0, x1⟩ := pair_cells X0.out rfl
  have HLE := hide (lo_le n L)
  have HCAP : Hid (L.length ≤ cap) := by obtain ⟨_, _, e, hc, _⟩ := h; cases e; exact hide hc
  have HSET : Hid (L.take (lo n L) ++ putM n q ++ L.drop (lo n L + 0) = setM n q L) := hide (by rw [setM_cut hr, hn]; rfl)
  have HRM := hide h
  have hd : decide (0 < q) = true := decide_eq_true hq
  have HPQ : Hid (putM n q = [(n, q)]) := hide (if_pos hq)
  generalize hM : lo n L = M at *
  generalize hln : L.length = ln at *
  have HLN := hide hln
  clear hM hln
  obtain ⟨R, hR⟩ : ∃ R, setM n q L = R := ⟨_, rfl⟩
  rw [hR] at HSET ⊢
  clear hR
  clear h hr hn hq
  have HCT := hide hct
  clear hct
  go_enter Tryz.func116, Tryz.ntmps116
  go_wp2_with fail
  refine (HP.out _ B0.out).mono ?_
  rintro e w1 ⟨rfl, hb1⟩
  have X1 := hide (blk_later X0.out hb1)
  have Y1 := hide (blk_later Y0.out hb1)
  have B1 := hide (B0.out.trans (hb1.mono B0.out.size))
  obtain ⟨x0, x1⟩ := pair_cells X1.out rfl
  clear hb1 X0 Y0 B0
  go_wp2_with fail
  obtain ⟨W2, hW2⟩ : ∃ W2, w1.alloc (.cells #[.int .i64 n, .int .i64 q] 142) = W2 := ⟨_, rfl⟩
  have B2 := hide (show Below w.heap.size w W2 by rw [← hW2]; exact B1.out.alloc B1.out.size _)
  have Y2 := hide (show W2.heap[w.heap.size + 1]? = some (.cells #[.int .i64 0, .slice Option.none 0 0] 60) from by rw [← hW2]; exact alloc_block Y1.out)
  have X2 := hide (show W2.heap[w.heap.size]? = some (.cells #[.int .i64 av, .slice (some ⟨b, off, none⟩) ln cap] 60) from by rw [← hW2]; exact alloc_block X1.out)
  have HMV : Hid (RM W2 (.slice (some ⟨w1.heap.size, 0, none⟩) 1 1) (putM n q)) := hide (by
    rw [HPQ.out]
    refine ⟨_, _, rfl, Nat.le_refl _, .inr ⟨w1.heap.size, 0, rfl, by rw [← hW2]; simp, fun j p hj => ?_⟩⟩
    obtain ⟨rfl, rfl⟩ : j = 0 ∧ p = (n, q) := by
      match j, hj with
      | 0, hj => exact ⟨rfl, (Option.some.inj hj).symm⟩
    rw [← hW2]; exact pair_cells (alloc_new w1 _) rfl)
  rw [hW2]
  clear hW2
  have x2 : W2.cell? ⟨w.heap.size, 1, none⟩ = some (.slice (some ⟨b, off, none⟩) ln cap) := (pair_cells X2.out rfl).2
  clear x0 x1 X1 Y1 B1
  have HT : Hid (M = M + 0) := hide rfl
  have hmc : (M : Int) ≤ (cap : Int) := by have := HCAP.out; have := HLE.out; omega
  have hm0 : (0 : Int) ≤ (M : Int) := by omega
  have hm1 : (M : Int) ≤ (ln : Int) := by have := HLE.out; omega
  have hm2 : (ln : Int) ≤ (cap : Int) := by have := HCAP.out; omega
  have hct2 : M = cap := by have := HT.out; have := HCT.out; omega
  have hct3 : M = ln := by omega
  have HD : Hid (L.drop (M + 0) = []) := hide (List.drop_eq_nil_of_le (by have := HLN.out; have := HT.out; omega))
  have HS1 : Hid (RM W2 (.slice (some ⟨b, off, none⟩) M cap) (L.take M)) := hide (by have hh := HRM.out.later B2.out; rw [← HLN.out] at hh; exact RM.take hh (by have := HLN.out; have := HLE.out; omega))
  have HS3 : Hid (∀ (x : Option Addr) (c : Nat), RM W2 (.slice x 0 c) (L.drop (M + 0))) := hide (fun x c => by rw [HD.out]; exact RM.none)
  have HLN3 : Hid ((L.take M).length + (putM n q).length + (L.drop (M + 0)).length ≤ 1000) := hide (by rw [List.length_take, List.length_drop, HPQ.out]; have := HLN.out; simp; omega)
  have HCC : Hid (∀ (s1 mv s3 : Value), RM W2 s1 (L.take M) → RM W2 mv (putM n q) → RM W2 s3 (L.drop (M + 0)) → Calls Tryz.prog 125 #[.slice (some ⟨W2.heap.size, 0, none⟩) 3 3] (W2.alloc (.cells #[s1, mv, s3] 58)).drew fun e w' => ∃ v, e = .returned v ∧ OM w' w.heap.size v R ∧ Below W2.heap.size W2 w') := hide (fun s1 mv s3 r1 r2 r3 => by
    have hb : Below W2.heap.size W2 (W2.alloc (.cells #[s1, mv, s3] 58)).drew := ((Below.refl W2.heap.size W2).alloc (Nat.le_refl _) _).trans drew_below
    refine (concat_any W2.heap.size s1 mv s3 _ _ _ _ (r1.later hb) (r2.later hb) (r3.later hb) (alloc_new W2 _) HLN3.out).mono ?_
    rintro e w' ⟨v, rfl, hO, hbb⟩
    refine ⟨v, rfl, ?_, hb.trans (hbb.mono hb.size)⟩
    rw [← HSET.out]; exact World.ownsRow.mono hO (Nat.le_trans B2.out.size hb.size))
  have HXL := hide (blk_lt X2.out)
  clear HP HRM HLE HSET HPQ HLN3 h8
  clear HCAP
  clear HLN
  subst hct2
  subst hct3
  go_region_held3 (fun W => W.cell? ⟨w.heap.size, 1, none⟩ = some (.slice (some ⟨b, off, none⟩) M M)) (go_keep) ((go_at_call 125; refine (HCC.out _ _ _ HS1.out HMV.out (HS3.out _ _)).mono ?_; rintro e w' ⟨v', rfl, hO, hbb⟩; obtain ⟨a4, c4, hv4⟩ := rm_lt (OM.rm hO); subst hv4; have y2 := (hbb.cell (p := ⟨w.heap.size, 1, none⟩) HXL.out).trans x2; have Y3 := blk_later Y2.out hbb; obtain ⟨yy0, yy1⟩ := pair_cells Y3 rfl; have f0 : w'.frozen? ⟨w.heap.size + 1, 0, none⟩ = false := (by unfold World.frozen?; simp [Y3]); have f1 : w'.frozen? ⟨w.heap.size + 1, 1, none⟩ = false := (by unfold World.frozen?; simp [Y3]); have HO := hide hO; have HBB := hide hbb; have HY3 := hide Y3; clear hO hbb Y3))
  obtain ⟨e1, e2, e3⟩ := turn_end (a2 := a2) HY3.out HO.out (B2.out.trans (HBB.out.mono B2.out.size)) (Nat.le_succ _)
  generalize ((w'.setCell ⟨w.heap.size + 1, 0, none⟩ (.int .i64 a2)).setCell ⟨w.heap.size + 1, 1, none⟩ (.slice a4 R.length c4)) = X at *
  obtain ⟨dd0, dd1⟩ := pair_cells e1 rfl
  have HE2 := hide e2
  have HE3 := hide e3
  clear e1 e2 e3 HO HBB HY3 HCC
  go_wp2_with fail
  exact bodyPost_ret (v := .agg #[.int .i64 a2, .slice a4 R.length c4]) (by simp [results, Tryz.results116, go_sem, dd0, dd1]) rfl ⟨_, rfl, HE2.out, HE3.out⟩
set_option maxRecDepth 100000 in
set_option maxHeartbeats 4000000 in
theorem turned_e10 (av a2 : Int) (b off : Nat) (cap : Nat) (L : List Mk) (n q : Int) (w : World) (h : RM w (.slice (some ⟨b, off, none⟩) L.length cap) L) (hr : Ri 0 L) (h8 : L.length ≤ 8) (hq : ¬ 0 < q) (hn : hasN n L = true) (hct : cap = lo n L + 1) :
    Calls Tryz.prog 116 #[.agg #[.int .i64 av, .slice (some ⟨b, off, none⟩) L.length cap], .int .i64 a2, .int .i64 n, .int .i64 q] w fun e w' => ∃ v', e = .returned (.agg #[.int .i64 a2, v']) ∧ OM w' w.heap.size v' (setM n q L) ∧ Below w.heap.size w w' := by
  have HP := hide (fun (W : World) (hb : Below w.heap.size w W) => placeM_any _ L n W (h.later hb) hr h8)
  rw [hn] at HP
  have B0 := hide (((Below.refl w.heap.size w).alloc (Nat.le_refl _) (.cells #[.int .i64 av, .slice (some ⟨b, off, none⟩) L.length cap] 60)).alloc (by simp) (.cells #[.int .i64 0, .slice Option.none 0 0] 60))
  have X0 := hide (alloc_block (o := .cells #[.int .i64 0, .slice Option.none 0 0] 60) (Px.new w av (.slice (some ⟨b, off, none⟩) L.length cap)))
  have Y0 := hide (alloc_new (w.alloc (.cells #[.int .i64 av, .slice (some ⟨b, off, none⟩) L.length cap] 60)) (.cells #[.int .i64 0, .slice Option.none 0 0] 60))
  rw [show (w.alloc (.cells #[.int .i64 av, .slice (some ⟨b, off, none⟩) L.length cap] 60)).heap.size = w.heap.size + 1 by simp] at Y0
  obtain ⟨x0, x1⟩ := pair_cells X0.out rfl
  have HLE := hide (lo_le n L)
  have HLT := hide (List.getElem?_eq_some_iff.1 ((lo_at hr).1 hn)).1
  have HCAP : Hid (L.length ≤ cap) := by obtain ⟨_, _, e, hc, _⟩ := h; cases e; exact hide hc
  have HSET : Hid (L.take (lo n L) ++ putM n q ++ L.drop (lo n L + 1) = setM n q L) := hide (by rw [setM_cut hr, hn]; rfl)
  have HRM := hide h
  have hd : decide (0 < q) = false := decide_eq_false hq
  have HPQ : Hid (putM n q = []) := hide (if_neg hq)
  generalize hM : lo n L = M at *
  generalize hln : L.length = ln at *
  have HLN := hide hln
  clear hM hln
  obtain ⟨R, hR⟩ : ∃ R, setM n q L = R := ⟨_, rfl⟩
  rw [hR] at HSET ⊢
  clear hR
  clear h hr hn hq
  have HCT := hide hct
  clear hct
  go_enter Tryz.func116, Tryz.ntmps116
  go_wp2_with fail
  refine (HP.out _ B0.out).mono ?_
  rintro e w1 ⟨rfl, hb1⟩
  have z1 : wrap64 ((M : Int) + 1) = (M : Int) + 1 := by have := HLT.out; unfold wrap64; omega
  have X1 := hide (blk_later X0.out hb1)
  have Y1 := hide (blk_later Y0.out hb1)
  have B1 := hide (B0.out.trans (hb1.mono B0.out.size))
  obtain ⟨x0, x1⟩ := pair_cells X1.out rfl
  clear hb1 X0 Y0 B0
  go_wp2_with fail
  obtain ⟨W2, hW2⟩ : ∃ W2, w1 = W2 := ⟨_, rfl⟩
  rw [hW2] at B1 Y1 X1 ⊢
  have B2 := B1
  have Y2 := Y1
  have X2 := X1
  have HMV : Hid (RM W2 (.slice Option.none 0 0) (putM n q)) := hide (by rw [HPQ.out]; exact RM.none)
  clear hW2
  have x2 : W2.cell? ⟨w.heap.size, 1, none⟩ = some (.slice (some ⟨b, off, none⟩) ln cap) := (pair_cells X2.out rfl).2
  rw [z1]
  clear x0 x1 X1 Y1 B1
  obtain ⟨T, hT⟩ : ∃ T : Nat, (M : Int) + 1 = (T : Int) := ⟨M + 1, by omega⟩
  rw [hT]
  have HT : Hid (T = M + 1) := hide (by omega)
  clear hT z1
  have hmc : (M : Int) ≤ (cap : Int) := by have := HCAP.out; have := HLE.out; omega
  have hm0 : (0 : Int) ≤ (M : Int) := by omega
  have ht0 : (0 : Int) ≤ (T : Int) := by omega
  have hm1 : (T : Int) ≤ (ln : Int) := by have := HLE.out; have := HLT.out; have := HT.out; omega
  have hm2 : (ln : Int) ≤ (cap : Int) := by have := HCAP.out; omega
  have hct2 : T = cap := by have := HT.out; have := HCT.out; omega
  have hct3 : T = ln := by omega
  have HD : Hid (L.drop (M + 1) = []) := hide (List.drop_eq_nil_of_le (by have := HLN.out; have := HT.out; omega))
  have HS1 : Hid (RM W2 (.slice (some ⟨b, off, none⟩) M cap) (L.take M)) := hide (by have hh := HRM.out.later B2.out; rw [← HLN.out] at hh; exact RM.take hh (by have := HLN.out; have := HLE.out; omega))
  have HS3 : Hid (∀ (x : Option Addr) (c : Nat), RM W2 (.slice x 0 c) (L.drop (M + 1))) := hide (fun x c => by rw [HD.out]; exact RM.none)
  have HLN3 : Hid ((L.take M).length + (putM n q).length + (L.drop (M + 1)).length ≤ 1000) := hide (by rw [List.length_take, List.length_drop, HPQ.out]; have := HLN.out; simp; omega)
  have HCC : Hid (∀ (s1 mv s3 : Value), RM W2 s1 (L.take M) → RM W2 mv (putM n q) → RM W2 s3 (L.drop (M + 1)) → Calls Tryz.prog 125 #[.slice (some ⟨W2.heap.size, 0, none⟩) 3 3] (W2.alloc (.cells #[s1, mv, s3] 58)).drew fun e w' => ∃ v, e = .returned v ∧ OM w' w.heap.size v R ∧ Below W2.heap.size W2 w') := hide (fun s1 mv s3 r1 r2 r3 => by
    have hb : Below W2.heap.size W2 (W2.alloc (.cells #[s1, mv, s3] 58)).drew := ((Below.refl W2.heap.size W2).alloc (Nat.le_refl _) _).trans drew_below
    refine (concat_any W2.heap.size s1 mv s3 _ _ _ _ (r1.later hb) (r2.later hb) (r3.later hb) (alloc_new W2 _) HLN3.out).mono ?_
    rintro e w' ⟨v, rfl, hO, hbb⟩
    refine ⟨v, rfl, ?_, hb.trans (hbb.mono hb.size)⟩
    rw [← HSET.out]; exact World.ownsRow.mono hO (Nat.le_trans B2.out.size hb.size))
  have HXL := hide (blk_lt X2.out)
  clear HP HRM HLE HSET HPQ HLN3 h8
  clear HCAP
  clear HLN
  subst hct2
  subst hct3
  go_region_held3 (fun W => W.cell? ⟨w.heap.size, 1, none⟩ = some (.slice (some ⟨b, off, none⟩) T T)) (go_keep) ((go_at_call 125; refine (HCC.out _ _ _ HS1.out HMV.out (HS3.out _ _)).mono ?_; rintro e w' ⟨v', rfl, hO, hbb⟩; obtain ⟨a4, c4, hv4⟩ := rm_lt (OM.rm hO); subst hv4; have y2 := (hbb.cell (p := ⟨w.heap.size, 1, none⟩) HXL.out).trans x2; have Y3 := blk_later Y2.out hbb; obtain ⟨yy0, yy1⟩ := pair_cells Y3 rfl; have f0 : w'.frozen? ⟨w.heap.size + 1, 0, none⟩ = false := (by unfold World.frozen?; simp [Y3]); have f1 : w'.frozen? ⟨w.heap.size + 1, 1, none⟩ = false := (by unfold World.frozen?; simp [Y3]); have HO := hide hO; have HBB := hide hbb; have HY3 := hide Y3; clear hO hbb Y3))
  obtain ⟨e1, e2, e3⟩ := turn_end (a2 := a2) HY3.out HO.out (B2.out.trans (HBB.out.mono B2.out.size)) (Nat.le_succ _)
  generalize ((w'.setCell ⟨w.heap.size + 1, 0, none⟩ (.int .i64 a2)).setCell ⟨w.heap.size + 1, 1, none⟩ (.slice a4 R.length c4)) = X at *
  obtain ⟨dd0, dd1⟩ := pair_cells e1 rfl
  have HE2 := hide e2
  have HE3 := hide e3
  clear e1 e2 e3 HO HBB HY3 HCC
  go_wp2_with fail
  exact bodyPost_ret (v := .agg #[.int .i64 a2, .slice a4 R.length c4]) (by simp [results, Tryz.results116, go_sem, dd0, dd1]) rfl ⟨_, rfl, HE2.out, HE3.out⟩
set_option maxRecDepth 100000 in
set_option maxHeartbeats 4000000 in
theorem turned_e11 (av a2 : Int) (b off : Nat) (cap : Nat) (L : List Mk) (n q : Int) (w : World) (h : RM w (.slice (some ⟨b, off, none⟩) L.length cap) L) (hr : Ri 0 L) (h8 : L.length ≤ 8) (hq : 0 < q) (hn : hasN n L = true) (hct : cap = lo n L + 1) :
    Calls Tryz.prog 116 #[.agg #[.int .i64 av, .slice (some ⟨b, off, none⟩) L.length cap], .int .i64 a2, .int .i64 n, .int .i64 q] w fun e w' => ∃ v', e = .returned (.agg #[.int .i64 a2, v']) ∧ OM w' w.heap.size v' (setM n q L) ∧ Below w.heap.size w w' := by
  have HP := hide (fun (W : World) (hb : Below w.heap.size w W) => placeM_any _ L n W (h.later hb) hr h8)
  rw [hn] at HP
  have B0 := hide (((Below.refl w.heap.size w).alloc (Nat.le_refl _) (.cells #[.int .i64 av, .slice (some ⟨b, off, none⟩) L.length cap] 60)).alloc (by simp) (.cells #[.int .i64 0, .slice Option.none 0 0] 60))
  have X0 := hide (alloc_block (o := .cells #[.int .i64 0, .slice Option.none 0 0] 60) (Px.new w av (.slice (some ⟨b, off, none⟩) L.length cap)))
  have Y0 := hide (alloc_new (w.alloc (.cells #[.int .i64 av, .slice (some ⟨b, off, none⟩) L.length cap] 60)) (.cells #[.int .i64 0, .slice Option.none 0 0] 60))
  rw [show (w.alloc (.cells #[.int .i64 av, .slice (some ⟨b, off, none⟩) L.length cap] 60)).heap.size = w.heap.size + 1 by simp] at Y0
  obtain ⟨x0, x1⟩ := pair_cells X0.out rfl
  have HLE := hide (lo_le n L)
  have HLT := hide (List.getElem?_eq_some_iff.1 ((lo_at hr).1 hn)).1
  have HCAP : Hid (L.length ≤ cap) := by obtain ⟨_, _, e, hc, _⟩ := h; cases e; exact hide hc
  have HSET : Hid (L.take (lo n L) ++ putM n q ++ L.drop (lo n L + 1) = setM n q L) := hide (by rw [setM_cut hr, hn]; rfl)
  have HRM := hide h
  have hd : decide (0 < q) = true := decide_eq_true hq
  have HPQ : Hid (putM n q = [(n, q)]) := hide (if_pos hq)
  generalize hM : lo n L = M at *
  generalize hln : L.length = ln at *
  have HLN := hide hln
  clear hM hln
  obtain ⟨R, hR⟩ : ∃ R, setM n q L = R := ⟨_, rfl⟩
  rw [hR] at HSET ⊢
  clear hR
  clear h hr hn hq
  have HCT := hide hct
  clear hct
  go_enter Tryz.func116, Tryz.ntmps116
  go_wp2_with fail
  refine (HP.out _ B0.out).mono ?_
  rintro e w1 ⟨rfl, hb1⟩
  have z1 : wrap64 ((M : Int) + 1) = (M : Int) + 1 := by have := HLT.out; unfold wrap64; omega
  have X1 := hide (blk_later X0.out hb1)
  have Y1 := hide (blk_later Y0.out hb1)
  have B1 := hide (B0.out.trans (hb1.mono B0.out.size))
  obtain ⟨x0, x1⟩ := pair_cells X1.out rfl
  clear hb1 X0 Y0 B0
  go_wp2_with fail
  obtain ⟨W2, hW2⟩ : ∃ W2, w1.alloc (.cells #[.int .i64 n, .int .i64 q] 142) = W2 := ⟨_, rfl⟩
  have B2 := hide (show Below w.heap.size w W2 by rw [← hW2]; exact B1.out.alloc B1.out.size _)
  have Y2 := hide (show W2.heap[w.heap.size + 1]? = some (.cells #[.int .i64 0, .slice Option.none 0 0] 60) from by rw [← hW2]; exact alloc_block Y1.out)
  have X2 := hide (show W2.heap[w.heap.size]? = some (.cells #[.int .i64 av, .slice (some ⟨b, off, none⟩) ln cap] 60) from by rw [← hW2]; exact alloc_block X1.out)
  have HMV : Hid (RM W2 (.slice (some ⟨w1.heap.size, 0, none⟩) 1 1) (putM n q)) := hide (by
    rw [HPQ.out]
    refine ⟨_, _, rfl, Nat.le_refl _, .inr ⟨w1.heap.size, 0, rfl, by rw [← hW2]; simp, fun j p hj => ?_⟩⟩
    obtain ⟨rfl, rfl⟩ : j = 0 ∧ p = (n, q) := by
      match j, hj with
      | 0, hj => exact ⟨rfl, (Option.some.inj hj).symm⟩
    rw [← hW2]; exact pair_cells (alloc_new w1 _) rfl)
  rw [hW2]
  clear hW2
  have x2 : W2.cell? ⟨w.heap.size, 1, none⟩ = some (.slice (some ⟨b, off, none⟩) ln cap) := (pair_cells X2.out rfl).2
  rw [z1]
  clear x0 x1 X1 Y1 B1
  obtain ⟨T, hT⟩ : ∃ T : Nat, (M : Int) + 1 = (T : Int) := ⟨M + 1, by omega⟩
  rw [hT]
  have HT : Hid (T = M + 1) := hide (by omega)
  clear hT z1
  have hmc : (M : Int) ≤ (cap : Int) := by have := HCAP.out; have := HLE.out; omega
  have hm0 : (0 : Int) ≤ (M : Int) := by omega
  have ht0 : (0 : Int) ≤ (T : Int) := by omega
  have hm1 : (T : Int) ≤ (ln : Int) := by have := HLE.out; have := HLT.out; have := HT.out; omega
  have hm2 : (ln : Int) ≤ (cap : Int) := by have := HCAP.out; omega
  have hct2 : T = cap := by have := HT.out; have := HCT.out; omega
  have hct3 : T = ln := by omega
  have HD : Hid (L.drop (M + 1) = []) := hide (List.drop_eq_nil_of_le (by have := HLN.out; have := HT.out; omega))
  have HS1 : Hid (RM W2 (.slice (some ⟨b, off, none⟩) M cap) (L.take M)) := hide (by have hh := HRM.out.later B2.out; rw [← HLN.out] at hh; exact RM.take hh (by have := HLN.out; have := HLE.out; omega))
  have HS3 : Hid (∀ (x : Option Addr) (c : Nat), RM W2 (.slice x 0 c) (L.drop (M + 1))) := hide (fun x c => by rw [HD.out]; exact RM.none)
  have HLN3 : Hid ((L.take M).length + (putM n q).length + (L.drop (M + 1)).length ≤ 1000) := hide (by rw [List.length_take, List.length_drop, HPQ.out]; have := HLN.out; simp; omega)
  have HCC : Hid (∀ (s1 mv s3 : Value), RM W2 s1 (L.take M) → RM W2 mv (putM n q) → RM W2 s3 (L.drop (M + 1)) → Calls Tryz.prog 125 #[.slice (some ⟨W2.heap.size, 0, none⟩) 3 3] (W2.alloc (.cells #[s1, mv, s3] 58)).drew fun e w' => ∃ v, e = .returned v ∧ OM w' w.heap.size v R ∧ Below W2.heap.size W2 w') := hide (fun s1 mv s3 r1 r2 r3 => by
    have hb : Below W2.heap.size W2 (W2.alloc (.cells #[s1, mv, s3] 58)).drew := ((Below.refl W2.heap.size W2).alloc (Nat.le_refl _) _).trans drew_below
    refine (concat_any W2.heap.size s1 mv s3 _ _ _ _ (r1.later hb) (r2.later hb) (r3.later hb) (alloc_new W2 _) HLN3.out).mono ?_
    rintro e w' ⟨v, rfl, hO, hbb⟩
    refine ⟨v, rfl, ?_, hb.trans (hbb.mono hb.size)⟩
    rw [← HSET.out]; exact World.ownsRow.mono hO (Nat.le_trans B2.out.size hb.size))
  have HXL := hide (blk_lt X2.out)
  clear HP HRM HLE HSET HPQ HLN3 h8
  clear HCAP
  clear HLN
  subst hct2
  subst hct3
  go_region_held3 (fun W => W.cell? ⟨w.heap.size, 1, none⟩ = some (.slice (some ⟨b, off, none⟩) T T)) (go_keep) ((go_at_call 125; refine (HCC.out _ _ _ HS1.out HMV.out (HS3.out _ _)).mono ?_; rintro e w' ⟨v', rfl, hO, hbb⟩; obtain ⟨a4, c4, hv4⟩ := rm_lt (OM.rm hO); subst hv4; have y2 := (hbb.cell (p := ⟨w.heap.size, 1, none⟩) HXL.out).trans x2; have Y3 := blk_later Y2.out hbb; obtain ⟨yy0, yy1⟩ := pair_cells Y3 rfl; have f0 : w'.frozen? ⟨w.heap.size + 1, 0, none⟩ = false := (by unfold World.frozen?; simp [Y3]); have f1 : w'.frozen? ⟨w.heap.size + 1, 1, none⟩ = false := (by unfold World.frozen?; simp [Y3]); have HO := hide hO; have HBB := hide hbb; have HY3 := hide Y3; clear hO hbb Y3))
  obtain ⟨e1, e2, e3⟩ := turn_end (a2 := a2) HY3.out HO.out (B2.out.trans (HBB.out.mono B2.out.size)) (Nat.le_succ _)
  generalize ((w'.setCell ⟨w.heap.size + 1, 0, none⟩ (.int .i64 a2)).setCell ⟨w.heap.size + 1, 1, none⟩ (.slice a4 R.length c4)) = X at *
  obtain ⟨dd0, dd1⟩ := pair_cells e1 rfl
  have HE2 := hide e2
  have HE3 := hide e3
  clear e1 e2 e3 HO HBB HY3 HCC
  go_wp2_with fail
  exact bodyPost_ret (v := .agg #[.int .i64 a2, .slice a4 R.length c4]) (by simp [results, Tryz.results116, go_sem, dd0, dd1]) rfl ⟨_, rfl, HE2.out, HE3.out⟩
set_option maxRecDepth 100000 in
set_option maxHeartbeats 4000000 in
theorem turned_g00 (av a2 : Int) (b off : Nat) (cap : Nat) (L : List Mk) (n q : Int) (w : World) (h : RM w (.slice (some ⟨b, off, none⟩) L.length cap) L) (hr : Ri 0 L) (h8 : L.length ≤ 8) (hq : ¬ 0 < q) (hn : hasN n L = false) (hct : ¬ cap = lo n L + 0) :
    Calls Tryz.prog 116 #[.agg #[.int .i64 av, .slice (some ⟨b, off, none⟩) L.length cap], .int .i64 a2, .int .i64 n, .int .i64 q] w fun e w' => ∃ v', e = .returned (.agg #[.int .i64 a2, v']) ∧ OM w' w.heap.size v' (setM n q L) ∧ Below w.heap.size w w' := by
  have HP := hide (fun (W : World) (hb : Below w.heap.size w W) => placeM_any _ L n W (h.later hb) hr h8)
  rw [hn] at HP
  have B0 := hide (((Below.refl w.heap.size w).alloc (Nat.le_refl _) (.cells #[.int .i64 av, .slice (some ⟨b, off, none⟩) L.length cap] 60)).alloc (by simp) (.cells #[.int .i64 0, .slice Option.none 0 0] 60))
  have X0 := hide (alloc_block (o := .cells #[.int .i64 0, .slice Option.none 0 0] 60) (Px.new w av (.slice (some ⟨b, off, none⟩) L.length cap)))
  have Y0 := hide (alloc_new (w.alloc (.cells #[.int .i64 av, .slice (some ⟨b, off, none⟩) L.length cap] 60)) (.cells #[.int .i64 0, .slice Option.none 0 0] 60))
  rw [show (w.alloc (.cells #[.int .i64 av, .slice (some ⟨b, off, none⟩) L.length cap] 60)).heap.size = w.heap.size + 1 by simp] at Y0
  obtain ⟨x0, x1⟩ := pair_cells X0.out rfl
  have HLE := hide (lo_le n L)
  have HCAP : Hid (L.length ≤ cap) := by obtain ⟨_, _, e, hc, _⟩ := h; cases e; exact hide hc
  have HSET : Hid (L.take (lo n L) ++ putM n q ++ L.drop (lo n L + 0) = setM n q L) := hide (by rw [setM_cut hr, hn]; rfl)
  have HRM := hide h
  have hd : decide (0 < q) = false := decide_eq_false hq
  have HPQ : Hid (putM n q = []) := hide (if_neg hq)
  generalize hM : lo n L = M at *
  generalize hln : L.length = ln at *
  have HLN := hide hln
  clear hM hln
  obtain ⟨R, hR⟩ : ∃ R, setM n q L = R := ⟨_, rfl⟩
  rw [hR] at HSET ⊢
  clear hR
  clear h hr hn hq
  have HCT := hide hct
  clear hct
  go_enter Tryz.func116, Tryz.ntmps116
  go_wp2_with fail
  refine (HP.out _ B0.out).mono ?_
  rintro e w1 ⟨rfl, hb1⟩
  have X1 := hide (blk_later X0.out hb1)
  have Y1 := hide (blk_later Y0.out hb1)
  have B1 := hide (B0.out.trans (hb1.mono B0.out.size))
  obtain ⟨x0, x1⟩ := pair_cells X1.out rfl
  clear hb1 X0 Y0 B0
  go_wp2_with fail
  obtain ⟨W2, hW2⟩ : ∃ W2, w1 = W2 := ⟨_, rfl⟩
  rw [hW2] at B1 Y1 X1 ⊢
  have B2 := B1
  have Y2 := Y1
  have X2 := X1
  have HMV : Hid (RM W2 (.slice Option.none 0 0) (putM n q)) := hide (by rw [HPQ.out]; exact RM.none)
  clear hW2
  have x2 : W2.cell? ⟨w.heap.size, 1, none⟩ = some (.slice (some ⟨b, off, none⟩) ln cap) := (pair_cells X2.out rfl).2
  clear x0 x1 X1 Y1 B1
  have HT : Hid (M = M + 0) := hide rfl
  have hmc : (M : Int) ≤ (cap : Int) := by have := HCAP.out; have := HLE.out; omega
  have hm0 : (0 : Int) ≤ (M : Int) := by omega
  have hm1 : (M : Int) ≤ (ln : Int) := by have := HLE.out; omega
  have hm2 : (ln : Int) ≤ (cap : Int) := by have := HCAP.out; omega
  have hct2 : ¬ cap = M := by have := HT.out; have := HCT.out; omega
  have HS3 : Hid (RM W2 (.slice (some ⟨b, off + M * 2, none⟩) (ln - M) (cap - M)) (L.drop (M + 0))) := hide (by
    have e := HT.out
    rw [Nat.add_zero]
    have hh := HRM.out.later B2.out
    rw [← HLN.out] at hh ⊢
    exact RM.drop hh (by have := HLN.out; omega) rfl rfl)
  have HS1 : Hid (RM W2 (.slice (some ⟨b, off, none⟩) M cap) (L.take M)) := hide (by have hh := HRM.out.later B2.out; rw [← HLN.out] at hh; exact RM.take hh (by have := HLN.out; have := HLE.out; omega))
  have HLN3 : Hid ((L.take M).length + (putM n q).length + (L.drop (M + 0)).length ≤ 1000) := hide (by rw [List.length_take, List.length_drop, HPQ.out]; have := HLN.out; simp; omega)
  have HCC : Hid (∀ (s1 mv s3 : Value), RM W2 s1 (L.take M) → RM W2 mv (putM n q) → RM W2 s3 (L.drop (M + 0)) → Calls Tryz.prog 125 #[.slice (some ⟨W2.heap.size, 0, none⟩) 3 3] (W2.alloc (.cells #[s1, mv, s3] 58)).drew fun e w' => ∃ v, e = .returned v ∧ OM w' w.heap.size v R ∧ Below W2.heap.size W2 w') := hide (fun s1 mv s3 r1 r2 r3 => by
    have hb : Below W2.heap.size W2 (W2.alloc (.cells #[s1, mv, s3] 58)).drew := ((Below.refl W2.heap.size W2).alloc (Nat.le_refl _) _).trans drew_below
    refine (concat_any W2.heap.size s1 mv s3 _ _ _ _ (r1.later hb) (r2.later hb) (r3.later hb) (alloc_new W2 _) HLN3.out).mono ?_
    rintro e w' ⟨v, rfl, hO, hbb⟩
    refine ⟨v, rfl, ?_, hb.trans (hbb.mono hb.size)⟩
    rw [← HSET.out]; exact World.ownsRow.mono hO (Nat.le_trans B2.out.size hb.size))
  have HXL := hide (blk_lt X2.out)
  clear HP HRM HLE HSET HPQ HLN3 h8
  clear HCAP
  clear HLN
  go_region_held3 (fun W => W.cell? ⟨w.heap.size, 1, none⟩ = some (.slice (some ⟨b, off, none⟩) ln cap)) (go_keep) ((go_at_call 125; refine (HCC.out _ _ _ HS1.out HMV.out HS3.out).mono ?_; rintro e w' ⟨v', rfl, hO, hbb⟩; obtain ⟨a4, c4, hv4⟩ := rm_lt (OM.rm hO); subst hv4; have y2 := (hbb.cell (p := ⟨w.heap.size, 1, none⟩) HXL.out).trans x2; have Y3 := blk_later Y2.out hbb; obtain ⟨yy0, yy1⟩ := pair_cells Y3 rfl; have f0 : w'.frozen? ⟨w.heap.size + 1, 0, none⟩ = false := (by unfold World.frozen?; simp [Y3]); have f1 : w'.frozen? ⟨w.heap.size + 1, 1, none⟩ = false := (by unfold World.frozen?; simp [Y3]); have HO := hide hO; have HBB := hide hbb; have HY3 := hide Y3; clear hO hbb Y3))
  obtain ⟨e1, e2, e3⟩ := turn_end (a2 := a2) HY3.out HO.out (B2.out.trans (HBB.out.mono B2.out.size)) (Nat.le_succ _)
  generalize ((w'.setCell ⟨w.heap.size + 1, 0, none⟩ (.int .i64 a2)).setCell ⟨w.heap.size + 1, 1, none⟩ (.slice a4 R.length c4)) = X at *
  obtain ⟨dd0, dd1⟩ := pair_cells e1 rfl
  have HE2 := hide e2
  have HE3 := hide e3
  clear e1 e2 e3 HO HBB HY3 HCC
  go_wp2_with fail
  exact bodyPost_ret (v := .agg #[.int .i64 a2, .slice a4 R.length c4]) (by simp [results, Tryz.results116, go_sem, dd0, dd1]) rfl ⟨_, rfl, HE2.out, HE3.out⟩
set_option maxRecDepth 100000 in
set_option maxHeartbeats 4000000 in
theorem turned_g01 (av a2 : Int) (b off : Nat) (cap : Nat) (L : List Mk) (n q : Int) (w : World) (h : RM w (.slice (some ⟨b, off, none⟩) L.length cap) L) (hr : Ri 0 L) (h8 : L.length ≤ 8) (hq : 0 < q) (hn : hasN n L = false) (hct : ¬ cap = lo n L + 0) :
    Calls Tryz.prog 116 #[.agg #[.int .i64 av, .slice (some ⟨b, off, none⟩) L.length cap], .int .i64 a2, .int .i64 n, .int .i64 q] w fun e w' => ∃ v', e = .returned (.agg #[.int .i64 a2, v']) ∧ OM w' w.heap.size v' (setM n q L) ∧ Below w.heap.size w w' := by
  have HP := hide (fun (W : World) (hb : Below w.heap.size w W) => placeM_any _ L n W (h.later hb) hr h8)
  rw [hn] at HP
  have B0 := hide (((Below.refl w.heap.size w).alloc (Nat.le_refl _) (.cells #[.int .i64 av, .slice (some ⟨b, off, none⟩) L.length cap] 60)).alloc (by simp) (.cells #[.int .i64 0, .slice Option.none 0 0] 60))
  have X0 := hide (alloc_block (o := .cells #[.int .i64 0, .slice Option.none 0 0] 60) (Px.new w av (.slice (some ⟨b, off, none⟩) L.length cap)))
  have Y0 := hide (alloc_new (w.alloc (.cells #[.int .i64 av, .slice (some ⟨b, off, none⟩) L.length cap] 60)) (.cells #[.int .i64 0, .slice Option.none 0 0] 60))
  rw [show (w.alloc (.cells #[.int .i64 av, .slice (some ⟨b, off, none⟩) L.length cap] 60)).heap.size = w.heap.size + 1 by simp] at Y0
  obtain ⟨x0, x1⟩ := pair_cells X0.out rfl
  have HLE := hide (lo_le n L)
  have HCAP : Hid (L.length ≤ cap) := by obtain ⟨_, _, e, hc, _⟩ := h; cases e; exact hide hc
  have HSET : Hid (L.take (lo n L) ++ putM n q ++ L.drop (lo n L + 0) = setM n q L) := hide (by rw [setM_cut hr, hn]; rfl)
  have HRM := hide h
  have hd : decide (0 < q) = true := decide_eq_true hq
  have HPQ : Hid (putM n q = [(n, q)]) := hide (if_pos hq)
  generalize hM : lo n L = M at *
  generalize hln : L.length = ln at *
  have HLN := hide hln
  clear hM hln
  obtain ⟨R, hR⟩ : ∃ R, setM n q L = R := ⟨_, rfl⟩
  rw [hR] at HSET ⊢
  clear hR
  clear h hr hn hq
  have HCT := hide hct
  clear hct
  go_enter Tryz.func116, Tryz.ntmps116
  go_wp2_with fail
  refine (HP.out _ B0.out).mono ?_
  rintro e w1 ⟨rfl, hb1⟩
  have X1 := hide (blk_later X0.out hb1)
  have Y1 := hide (blk_later Y0.out hb1)
  have B1 := hide (B0.out.trans (hb1.mono B0.out.size))
  obtain ⟨x0, x1⟩ := pair_cells X1.out rfl
  clear hb1 X0 Y0 B0
  go_wp2_with fail
  obtain ⟨W2, hW2⟩ : ∃ W2, w1.alloc (.cells #[.int .i64 n, .int .i64 q] 142) = W2 := ⟨_, rfl⟩
  have B2 := hide (show Below w.heap.size w W2 by rw [← hW2]; exact B1.out.alloc B1.out.size _)
  have Y2 := hide (show W2.heap[w.heap.size + 1]? = some (.cells #[.int .i64 0, .slice Option.none 0 0] 60) from by rw [← hW2]; exact alloc_block Y1.out)
  have X2 := hide (show W2.heap[w.heap.size]? = some (.cells #[.int .i64 av, .slice (some ⟨b, off, none⟩) ln cap] 60) from by rw [← hW2]; exact alloc_block X1.out)
  have HMV : Hid (RM W2 (.slice (some ⟨w1.heap.size, 0, none⟩) 1 1) (putM n q)) := hide (by
    rw [HPQ.out]
    refine ⟨_, _, rfl, Nat.le_refl _, .inr ⟨w1.heap.size, 0, rfl, by rw [← hW2]; simp, fun j p hj => ?_⟩⟩
    obtain ⟨rfl, rfl⟩ : j = 0 ∧ p = (n, q) := by
      match j, hj with
      | 0, hj => exact ⟨rfl, (Option.some.inj hj).symm⟩
    rw [← hW2]; exact pair_cells (alloc_new w1 _) rfl)
  rw [hW2]
  clear hW2
  have x2 : W2.cell? ⟨w.heap.size, 1, none⟩ = some (.slice (some ⟨b, off, none⟩) ln cap) := (pair_cells X2.out rfl).2
  clear x0 x1 X1 Y1 B1
  have HT : Hid (M = M + 0) := hide rfl
  have hmc : (M : Int) ≤ (cap : Int) := by have := HCAP.out; have := HLE.out; omega
  have hm0 : (0 : Int) ≤ (M : Int) := by omega
  have hm1 : (M : Int) ≤ (ln : Int) := by have := HLE.out; omega
  have hm2 : (ln : Int) ≤ (cap : Int) := by have := HCAP.out; omega
  have hct2 : ¬ cap = M := by have := HT.out; have := HCT.out; omega
  have HS3 : Hid (RM W2 (.slice (some ⟨b, off + M * 2, none⟩) (ln - M) (cap - M)) (L.drop (M + 0))) := hide (by
    have e := HT.out
    rw [Nat.add_zero]
    have hh := HRM.out.later B2.out
    rw [← HLN.out] at hh ⊢
    exact RM.drop hh (by have := HLN.out; omega) rfl rfl)
  have HS1 : Hid (RM W2 (.slice (some ⟨b, off, none⟩) M cap) (L.take M)) := hide (by have hh := HRM.out.later B2.out; rw [← HLN.out] at hh; exact RM.take hh (by have := HLN.out; have := HLE.out; omega))
  have HLN3 : Hid ((L.take M).length + (putM n q).length + (L.drop (M + 0)).length ≤ 1000) := hide (by rw [List.length_take, List.length_drop, HPQ.out]; have := HLN.out; simp; omega)
  have HCC : Hid (∀ (s1 mv s3 : Value), RM W2 s1 (L.take M) → RM W2 mv (putM n q) → RM W2 s3 (L.drop (M + 0)) → Calls Tryz.prog 125 #[.slice (some ⟨W2.heap.size, 0, none⟩) 3 3] (W2.alloc (.cells #[s1, mv, s3] 58)).drew fun e w' => ∃ v, e = .returned v ∧ OM w' w.heap.size v R ∧ Below W2.heap.size W2 w') := hide (fun s1 mv s3 r1 r2 r3 => by
    have hb : Below W2.heap.size W2 (W2.alloc (.cells #[s1, mv, s3] 58)).drew := ((Below.refl W2.heap.size W2).alloc (Nat.le_refl _) _).trans drew_below
    refine (concat_any W2.heap.size s1 mv s3 _ _ _ _ (r1.later hb) (r2.later hb) (r3.later hb) (alloc_new W2 _) HLN3.out).mono ?_
    rintro e w' ⟨v, rfl, hO, hbb⟩
    refine ⟨v, rfl, ?_, hb.trans (hbb.mono hb.size)⟩
    rw [← HSET.out]; exact World.ownsRow.mono hO (Nat.le_trans B2.out.size hb.size))
  have HXL := hide (blk_lt X2.out)
  clear HP HRM HLE HSET HPQ HLN3 h8
  clear HCAP
  clear HLN
  go_region_held3 (fun W => W.cell? ⟨w.heap.size, 1, none⟩ = some (.slice (some ⟨b, off, none⟩) ln cap)) (go_keep) ((go_at_call 125; refine (HCC.out _ _ _ HS1.out HMV.out HS3.out).mono ?_; rintro e w' ⟨v', rfl, hO, hbb⟩; obtain ⟨a4, c4, hv4⟩ := rm_lt (OM.rm hO); subst hv4; have y2 := (hbb.cell (p := ⟨w.heap.size, 1, none⟩) HXL.out).trans x2; have Y3 := blk_later Y2.out hbb; obtain ⟨yy0, yy1⟩ := pair_cells Y3 rfl; have f0 : w'.frozen? ⟨w.heap.size + 1, 0, none⟩ = false := (by unfold World.frozen?; simp [Y3]); have f1 : w'.frozen? ⟨w.heap.size + 1, 1, none⟩ = false := (by unfold World.frozen?; simp [Y3]); have HO := hide hO; have HBB := hide hbb; have HY3 := hide Y3; clear hO hbb Y3))
  obtain ⟨e1, e2, e3⟩ := turn_end (a2 := a2) HY3.out HO.out (B2.out.trans (HBB.out.mono B2.out.size)) (Nat.le_succ _)
  generalize ((w'.setCell ⟨w.heap.size + 1, 0, none⟩ (.int .i64 a2)).setCell ⟨w.heap.size + 1, 1, none⟩ (.slice a4 R.length c4)) = X at *
  obtain ⟨dd0, dd1⟩ := pair_cells e1 rfl
  have HE2 := hide e2
  have HE3 := hide e3
  clear e1 e2 e3 HO HBB HY3 HCC
  go_wp2_with fail
  exact bodyPost_ret (v := .agg #[.int .i64 a2, .slice a4 R.length c4]) (by simp [results, Tryz.results116, go_sem, dd0, dd1]) rfl ⟨_, rfl, HE2.out, HE3.out⟩
set_option maxRecDepth 100000 in
set_option maxHeartbeats 4000000 in
theorem turned_g10 (av a2 : Int) (b off : Nat) (cap : Nat) (L : List Mk) (n q : Int) (w : World) (h : RM w (.slice (some ⟨b, off, none⟩) L.length cap) L) (hr : Ri 0 L) (h8 : L.length ≤ 8) (hq : ¬ 0 < q) (hn : hasN n L = true) (hct : ¬ cap = lo n L + 1) :
    Calls Tryz.prog 116 #[.agg #[.int .i64 av, .slice (some ⟨b, off, none⟩) L.length cap], .int .i64 a2, .int .i64 n, .int .i64 q] w fun e w' => ∃ v', e = .returned (.agg #[.int .i64 a2, v']) ∧ OM w' w.heap.size v' (setM n q L) ∧ Below w.heap.size w w' := by
  have HP := hide (fun (W : World) (hb : Below w.heap.size w W) => placeM_any _ L n W (h.later hb) hr h8)
  rw [hn] at HP
  have B0 := hide (((Below.refl w.heap.size w).alloc (Nat.le_refl _) (.cells #[.int .i64 av, .slice (some ⟨b, off, none⟩) L.length cap] 60)).alloc (by simp) (.cells #[.int .i64 0, .slice Option.none 0 0] 60))
  have X0 := hide (alloc_block (o := .cells #[.int .i64 0, .slice Option.none 0 0] 60) (Px.new w av (.slice (some ⟨b, off, none⟩) L.length cap)))
  have Y0 := hide (alloc_new (w.alloc (.cells #[.int .i64 av, .slice (some ⟨b, off, none⟩) L.length cap] 60)) (.cells #[.int .i64 0, .slice Option.none 0 0] 60))
  rw [show (w.alloc (.cells #[.int .i64 av, .slice (some ⟨b, off, none⟩) L.length cap] 60)).heap.size = w.heap.size + 1 by simp] at Y0
  obtain ⟨x0, x1⟩ := pair_cells X0.out rfl
  have HLE := hide (lo_le n L)
  have HLT := hide (List.getElem?_eq_some_iff.1 ((lo_at hr).1 hn)).1
  have HCAP : Hid (L.length ≤ cap) := by obtain ⟨_, _, e, hc, _⟩ := h; cases e; exact hide hc
  have HSET : Hid (L.take (lo n L) ++ putM n q ++ L.drop (lo n L + 1) = setM n q L) := hide (by rw [setM_cut hr, hn]; rfl)
  have HRM := hide h
  have hd : decide (0 < q) = false := decide_eq_false hq
  have HPQ : Hid (putM n q = []) := hide (if_neg hq)
  generalize hM : lo n L = M at *
  generalize hln : L.length = ln at *
  have HLN := hide hln
  clear hM hln
  obtain ⟨R, hR⟩ : ∃ R, setM n q L = R := ⟨_, rfl⟩
  rw [hR] at HSET ⊢
  clear hR
  clear h hr hn hq
  have HCT := hide hct
  clear hct
  go_enter Tryz.func116, Tryz.ntmps116
  go_wp2_with fail
  refine (HP.out _ B0.out).mono ?_
  rintro e w1 ⟨rfl, hb1⟩
  have z1 : wrap64 ((M : Int) + 1) = (M : Int) + 1 := by have := HLT.out; unfold wrap64; omega
  have X1 := hide (blk_later X0.out hb1)
  have Y1 := hide (blk_later Y0.out hb1)
  have B1 := hide (B0.out.trans (hb1.mono B0.out.size))
  obtain ⟨x0, x1⟩ := pair_cells X1.out rfl
  clear hb1 X0 Y0 B0
  go_wp2_with fail
  obtain ⟨W2, hW2⟩ : ∃ W2, w1 = W2 := ⟨_, rfl⟩
  rw [hW2] at B1 Y1 X1 ⊢
  have B2 := B1
  have Y2 := Y1
  have X2 := X1
  have HMV : Hid (RM W2 (.slice Option.none 0 0) (putM n q)) := hide (by rw [HPQ.out]; exact RM.none)
  clear hW2
  have x2 : W2.cell? ⟨w.heap.size, 1, none⟩ = some (.slice (some ⟨b, off, none⟩) ln cap) := (pair_cells X2.out rfl).2
  rw [z1]
  clear x0 x1 X1 Y1 B1
  obtain ⟨T, hT⟩ : ∃ T : Nat, (M : Int) + 1 = (T : Int) := ⟨M + 1, by omega⟩
  rw [hT]
  have HT : Hid (T = M + 1) := hide (by omega)
  clear hT z1
  have hmc : (M : Int) ≤ (cap : Int) := by have := HCAP.out; have := HLE.out; omega
  have hm0 : (0 : Int) ≤ (M : Int) := by omega
  have ht0 : (0 : Int) ≤ (T : Int) := by omega
  have hm1 : (T : Int) ≤ (ln : Int) := by have := HLE.out; have := HLT.out; have := HT.out; omega
  have hm2 : (ln : Int) ≤ (cap : Int) := by have := HCAP.out; omega
  have hct2 : ¬ cap = T := by have := HT.out; have := HCT.out; omega
  have HS3 : Hid (RM W2 (.slice (some ⟨b, off + T * 2, none⟩) (ln - T) (cap - T)) (L.drop (M + 1))) := hide (by
    have e := HT.out
    rw [← e]
    have hh := HRM.out.later B2.out
    rw [← HLN.out] at hh ⊢
    exact RM.drop hh (by have := HLN.out; omega) rfl rfl)
  have HS1 : Hid (RM W2 (.slice (some ⟨b, off, none⟩) M cap) (L.take M)) := hide (by have hh := HRM.out.later B2.out; rw [← HLN.out] at hh; exact RM.take hh (by have := HLN.out; have := HLE.out; omega))
  have HLN3 : Hid ((L.take M).length + (putM n q).length + (L.drop (M + 1)).length ≤ 1000) := hide (by rw [List.length_take, List.length_drop, HPQ.out]; have := HLN.out; simp; omega)
  have HCC : Hid (∀ (s1 mv s3 : Value), RM W2 s1 (L.take M) → RM W2 mv (putM n q) → RM W2 s3 (L.drop (M + 1)) → Calls Tryz.prog 125 #[.slice (some ⟨W2.heap.size, 0, none⟩) 3 3] (W2.alloc (.cells #[s1, mv, s3] 58)).drew fun e w' => ∃ v, e = .returned v ∧ OM w' w.heap.size v R ∧ Below W2.heap.size W2 w') := hide (fun s1 mv s3 r1 r2 r3 => by
    have hb : Below W2.heap.size W2 (W2.alloc (.cells #[s1, mv, s3] 58)).drew := ((Below.refl W2.heap.size W2).alloc (Nat.le_refl _) _).trans drew_below
    refine (concat_any W2.heap.size s1 mv s3 _ _ _ _ (r1.later hb) (r2.later hb) (r3.later hb) (alloc_new W2 _) HLN3.out).mono ?_
    rintro e w' ⟨v, rfl, hO, hbb⟩
    refine ⟨v, rfl, ?_, hb.trans (hbb.mono hb.size)⟩
    rw [← HSET.out]; exact World.ownsRow.mono hO (Nat.le_trans B2.out.size hb.size))
  have HXL := hide (blk_lt X2.out)
  clear HP HRM HLE HSET HPQ HLN3 h8
  clear HCAP
  clear HLN
  go_region_held3 (fun W => W.cell? ⟨w.heap.size, 1, none⟩ = some (.slice (some ⟨b, off, none⟩) ln cap)) (go_keep) ((go_at_call 125; refine (HCC.out _ _ _ HS1.out HMV.out HS3.out).mono ?_; rintro e w' ⟨v', rfl, hO, hbb⟩; obtain ⟨a4, c4, hv4⟩ := rm_lt (OM.rm hO); subst hv4; have y2 := (hbb.cell (p := ⟨w.heap.size, 1, none⟩) HXL.out).trans x2; have Y3 := blk_later Y2.out hbb; obtain ⟨yy0, yy1⟩ := pair_cells Y3 rfl; have f0 : w'.frozen? ⟨w.heap.size + 1, 0, none⟩ = false := (by unfold World.frozen?; simp [Y3]); have f1 : w'.frozen? ⟨w.heap.size + 1, 1, none⟩ = false := (by unfold World.frozen?; simp [Y3]); have HO := hide hO; have HBB := hide hbb; have HY3 := hide Y3; clear hO hbb Y3))
  obtain ⟨e1, e2, e3⟩ := turn_end (a2 := a2) HY3.out HO.out (B2.out.trans (HBB.out.mono B2.out.size)) (Nat.le_succ _)
  generalize ((w'.setCell ⟨w.heap.size + 1, 0, none⟩ (.int .i64 a2)).setCell ⟨w.heap.size + 1, 1, none⟩ (.slice a4 R.length c4)) = X at *
  obtain ⟨dd0, dd1⟩ := pair_cells e1 rfl
  have HE2 := hide e2
  have HE3 := hide e3
  clear e1 e2 e3 HO HBB HY3 HCC
  go_wp2_with fail
  exact bodyPost_ret (v := .agg #[.int .i64 a2, .slice a4 R.length c4]) (by simp [results, Tryz.results116, go_sem, dd0, dd1]) rfl ⟨_, rfl, HE2.out, HE3.out⟩
set_option maxRecDepth 100000 in
set_option maxHeartbeats 4000000 in
theorem turned_g11 (av a2 : Int) (b off : Nat) (cap : Nat) (L : List Mk) (n q : Int) (w : World) (h : RM w (.slice (some ⟨b, off, none⟩) L.length cap) L) (hr : Ri 0 L) (h8 : L.length ≤ 8) (hq : 0 < q) (hn : hasN n L = true) (hct : ¬ cap = lo n L + 1) :
    Calls Tryz.prog 116 #[.agg #[.int .i64 av, .slice (some ⟨b, off, none⟩) L.length cap], .int .i64 a2, .int .i64 n, .int .i64 q] w fun e w' => ∃ v', e = .returned (.agg #[.int .i64 a2, v']) ∧ OM w' w.heap.size v' (setM n q L) ∧ Below w.heap.size w w' := by
  have HP := hide (fun (W : World) (hb : Below w.heap.size w W) => placeM_any _ L n W (h.later hb) hr h8)
  rw [hn] at HP
  have B0 := hide (((Below.refl w.heap.size w).alloc (Nat.le_refl _) (.cells #[.int .i64 av, .slice (some ⟨b, off, none⟩) L.length cap] 60)).alloc (by simp) (.cells #[.int .i64 0, .slice Option.none 0 0] 60))
  have X0 := hide (alloc_block (o := .cells #[.int .i64 0, .slice Option.none 0 0] 60) (Px.new w av (.slice (some ⟨b, off, none⟩) L.length cap)))
  have Y0 := hide (alloc_new (w.alloc (.cells #[.int .i64 av, .slice (some ⟨b, off, none⟩) L.length cap] 60)) (.cells #[.int .i64 0, .slice Option.none 0 0] 60))
  rw [show (w.alloc (.cells #[.int .i64 av, .slice (some ⟨b, off, none⟩) L.length cap] 60)).heap.size = w.heap.size + 1 by simp] at Y0
  obtain ⟨x0, x1⟩ := pair_cells X0.out rfl
  have HLE := hide (lo_le n L)
  have HLT := hide (List.getElem?_eq_some_iff.1 ((lo_at hr).1 hn)).1
  have HCAP : Hid (L.length ≤ cap) := by obtain ⟨_, _, e, hc, _⟩ := h; cases e; exact hide hc
  have HSET : Hid (L.take (lo n L) ++ putM n q ++ L.drop (lo n L + 1) = setM n q L) := hide (by rw [setM_cut hr, hn]; rfl)
  have HRM := hide h
  have hd : decide (0 < q) = true := decide_eq_true hq
  have HPQ : Hid (putM n q = [(n, q)]) := hide (if_pos hq)
  generalize hM : lo n L = M at *
  generalize hln : L.length = ln at *
  have HLN := hide hln
  clear hM hln
  obtain ⟨R, hR⟩ : ∃ R, setM n q L = R := ⟨_, rfl⟩
  rw [hR] at HSET ⊢
  clear hR
  clear h hr hn hq
  have HCT := hide hct
  clear hct
  go_enter Tryz.func116, Tryz.ntmps116
  go_wp2_with fail
  refine (HP.out _ B0.out).mono ?_
  rintro e w1 ⟨rfl, hb1⟩
  have z1 : wrap64 ((M : Int) + 1) = (M : Int) + 1 := by have := HLT.out; unfold wrap64; omega
  have X1 := hide (blk_later X0.out hb1)
  have Y1 := hide (blk_later Y0.out hb1)
  have B1 := hide (B0.out.trans (hb1.mono B0.out.size))
  obtain ⟨x0, x1⟩ := pair_cells X1.out rfl
  clear hb1 X0 Y0 B0
  go_wp2_with fail
  obtain ⟨W2, hW2⟩ : ∃ W2, w1.alloc (.cells #[.int .i64 n, .int .i64 q] 142) = W2 := ⟨_, rfl⟩
  have B2 := hide (show Below w.heap.size w W2 by rw [← hW2]; exact B1.out.alloc B1.out.size _)
  have Y2 := hide (show W2.heap[w.heap.size + 1]? = some (.cells #[.int .i64 0, .slice Option.none 0 0] 60) from by rw [← hW2]; exact alloc_block Y1.out)
  have X2 := hide (show W2.heap[w.heap.size]? = some (.cells #[.int .i64 av, .slice (some ⟨b, off, none⟩) ln cap] 60) from by rw [← hW2]; exact alloc_block X1.out)
  have HMV : Hid (RM W2 (.slice (some ⟨w1.heap.size, 0, none⟩) 1 1) (putM n q)) := hide (by
    rw [HPQ.out]
    refine ⟨_, _, rfl, Nat.le_refl _, .inr ⟨w1.heap.size, 0, rfl, by rw [← hW2]; simp, fun j p hj => ?_⟩⟩
    obtain ⟨rfl, rfl⟩ : j = 0 ∧ p = (n, q) := by
      match j, hj with
      | 0, hj => exact ⟨rfl, (Option.some.inj hj).symm⟩
    rw [← hW2]; exact pair_cells (alloc_new w1 _) rfl)
  rw [hW2]
  clear hW2
  have x2 : W2.cell? ⟨w.heap.size, 1, none⟩ = some (.slice (some ⟨b, off, none⟩) ln cap) := (pair_cells X2.out rfl).2
  rw [z1]
  clear x0 x1 X1 Y1 B1
  obtain ⟨T, hT⟩ : ∃ T : Nat, (M : Int) + 1 = (T : Int) := ⟨M + 1, by omega⟩
  rw [hT]
  have HT : Hid (T = M + 1) := hide (by omega)
  clear hT z1
  have hmc : (M : Int) ≤ (cap : Int) := by have := HCAP.out; have := HLE.out; omega
  have hm0 : (0 : Int) ≤ (M : Int) := by omega
  have ht0 : (0 : Int) ≤ (T : Int) := by omega
  have hm1 : (T : Int) ≤ (ln : Int) := by have := HLE.out; have := HLT.out; have := HT.out; omega
  have hm2 : (ln : Int) ≤ (cap : Int) := by have := HCAP.out; omega
  have hct2 : ¬ cap = T := by have := HT.out; have := HCT.out; omega
  have HS3 : Hid (RM W2 (.slice (some ⟨b, off + T * 2, none⟩) (ln - T) (cap - T)) (L.drop (M + 1))) := hide (by
    have e := HT.out
    rw [← e]
    have hh := HRM.out.later B2.out
    rw [← HLN.out] at hh ⊢
    exact RM.drop hh (by have := HLN.out; omega) rfl rfl)
  have HS1 : Hid (RM W2 (.slice (some ⟨b, off, none⟩) M cap) (L.take M)) := hide (by have hh := HRM.out.later B2.out; rw [← HLN.out] at hh; exact RM.take hh (by have := HLN.out; have := HLE.out; omega))
  have HLN3 : Hid ((L.take M).length + (putM n q).length + (L.drop (M + 1)).length ≤ 1000) := hide (by rw [List.length_take, List.length_drop, HPQ.out]; have := HLN.out; simp; omega)
  have HCC : Hid (∀ (s1 mv s3 : Value), RM W2 s1 (L.take M) → RM W2 mv (putM n q) → RM W2 s3 (L.drop (M + 1)) → Calls Tryz.prog 125 #[.slice (some ⟨W2.heap.size, 0, none⟩) 3 3] (W2.alloc (.cells #[s1, mv, s3] 58)).drew fun e w' => ∃ v, e = .returned v ∧ OM w' w.heap.size v R ∧ Below W2.heap.size W2 w') := hide (fun s1 mv s3 r1 r2 r3 => by
    have hb : Below W2.heap.size W2 (W2.alloc (.cells #[s1, mv, s3] 58)).drew := ((Below.refl W2.heap.size W2).alloc (Nat.le_refl _) _).trans drew_below
    refine (concat_any W2.heap.size s1 mv s3 _ _ _ _ (r1.later hb) (r2.later hb) (r3.later hb) (alloc_new W2 _) HLN3.out).mono ?_
    rintro e w' ⟨v, rfl, hO, hbb⟩
    refine ⟨v, rfl, ?_, hb.trans (hbb.mono hb.size)⟩
    rw [← HSET.out]; exact World.ownsRow.mono hO (Nat.le_trans B2.out.size hb.size))
  have HXL := hide (blk_lt X2.out)
  clear HP HRM HLE HSET HPQ HLN3 h8
  clear HCAP
  clear HLN
  go_region_held3 (fun W => W.cell? ⟨w.heap.size, 1, none⟩ = some (.slice (some ⟨b, off, none⟩) ln cap)) (go_keep) ((go_at_call 125; refine (HCC.out _ _ _ HS1.out HMV.out HS3.out).mono ?_; rintro e w' ⟨v', rfl, hO, hbb⟩; obtain ⟨a4, c4, hv4⟩ := rm_lt (OM.rm hO); subst hv4; have y2 := (hbb.cell (p := ⟨w.heap.size, 1, none⟩) HXL.out).trans x2; have Y3 := blk_later Y2.out hbb; obtain ⟨yy0, yy1⟩ := pair_cells Y3 rfl; have f0 : w'.frozen? ⟨w.heap.size + 1, 0, none⟩ = false := (by unfold World.frozen?; simp [Y3]); have f1 : w'.frozen? ⟨w.heap.size + 1, 1, none⟩ = false := (by unfold World.frozen?; simp [Y3]); have HO := hide hO; have HBB := hide hbb; have HY3 := hide Y3; clear hO hbb Y3))
  obtain ⟨e1, e2, e3⟩ := turn_end (a2 := a2) HY3.out HO.out (B2.out.trans (HBB.out.mono B2.out.size)) (Nat.le_succ _)
  generalize ((w'.setCell ⟨w.heap.size + 1, 0, none⟩ (.int .i64 a2)).setCell ⟨w.heap.size + 1, 1, none⟩ (.slice a4 R.length c4)) = X at *
  obtain ⟨dd0, dd1⟩ := pair_cells e1 rfl
  have HE2 := hide e2
  have HE3 := hide e3
  clear e1 e2 e3 HO HBB HY3 HCC
  go_wp2_with fail
  exact bodyPost_ret (v := .agg #[.int .i64 a2, .slice a4 R.length c4]) (by simp [results, Tryz.results116, go_sem, dd0, dd1]) rfl ⟨_, rfl, HE2.out, HE3.out⟩
end Go.Proofs.YtdjhbecbbmdimaaGreatDoor.BL
