/-
  My own text: refusals: plain ones, and ones that tell a place.
-/
import Derived.Test.YtmebomifakmkbaaDoorBE2
namespace Go.Proofs.YtmebomifakmkbaaDoor
open Go.RowKit Go.Extern.Stop Go.Stop Go.Extern

set_option maxHeartbeats 1000000 in
theorem plain_rn (s : List UInt8) (k n : Int) (w : World) (h1 : 1 ≤ k) (h2 : k ≤ 24) (hE : ErrType w) :
    Calls Tryd.prog 36 #[refV s (.iface 74 (.int .i64 k)), .int .i64 n] w fun e w' => e = .returned (.bool (k == n)) ∧ Below w.heap.size w w' := by
  have HB0 : Hid (Below w.heap.size w (w.alloc (.cells #[.int .i64 0, .int .i64 0, .int .i64 0] 78))) := hide ((Below.refl _ _).alloc (Nat.le_refl _) _)
  have HNF := hide (fun W => num_rn s k W h1 h2)
  have HAS := hide (fun (W : World) (t : Addr) (h : ErrType W) => as_rn s k t W h)
  have HE := hide hE
  unfold refV at HNF HAS ⊢
  clear h1 h2 hE
  cases hb : ((k : Int) == n)
  · go_enter Tryd.func36, Tryd.ntmps36
    go_wp2_with fail
    refine (HNF.out _).mono ?_
    rintro e w1 ⟨rfl, hb1⟩
    have HB1 := hide (HB0.out.trans (hb1.mono HB0.out.size))
    clear hb1
    go_wp2_with fail
    go_ret
    exact ⟨rfl, HB1.out⟩
  · go_enter Tryd.func36, Tryd.ntmps36
    go_wp2_with fail
    refine (HNF.out _).mono ?_
    rintro e w1 ⟨rfl, hb1⟩
    have HB1 := hide (HB0.out.trans (hb1.mono HB0.out.size))
    clear hb1
    go_wp2_with fail
    refine (HAS.out _ _ (HE.out.below HB1.out)).mono ?_
    rintro e w2 ⟨rfl, hw2⟩
    have HB2 : Hid (Below w.heap.size w w2) := hide (by rw [hw2]; exact HB1.out.trans ((asMissR_below _ _ _ _).mono HB1.out.size))
    clear hw2
    go_wp2_with fail
    go_ret
    exact ⟨rfl, HB2.out⟩
set_option maxHeartbeats 4000000 in
theorem place_rf (s : List UInt8) (no ln k : Int) (w : World) (h1 : 1 ≤ no) (h2 : no ≤ 24) (hE : ErrType w) :
    Calls Tryd.prog 58 #[refV s (fltV no ln k)] w fun e w' => e = .returned (.tuple #[.int .i64 ln, .int .i64 k, .bool true]) ∧ Below w.heap.size w w' := by
  have hb0 : Below w.heap.size w (w.alloc (.cells #[.int .i64 0, .int .i64 0, .int .i64 0] 78)) := (Below.refl _ _).alloc (Nat.le_refl _) _
  have HNF := hide (fun W => num_rf s no ln k W h1 h2)
  clear h1 h2
  have HE := hide (hE.below hb0)
  have HA := hide (as_rf s no ln k w.heap.size #[.int .i64 0, .int .i64 0, .int .i64 0] _ HE.out (alloc_new w _) rfl)
  clear hE
  unfold refV fltV at HA HNF ⊢
  have HNN : (no == no) = true := by simp
  go_enter Tryd.func58, Tryd.ntmps58
  go_wp2_with (go_at_call 60; refine HA.out.mono ?_; rintro e w1 ⟨rfl, hw1⟩; replace hw1 := hide hw1)
  replace hw1 := hw1.out
  have hB1 : Below w.heap.size w w1 := by rw [hw1]; exact hb0.trans (asHitR_below (Nat.le_refl _) (by simp))
  have hblk : w1.heap[w.heap.size]? = some (.cells #[.int .i64 no, .int .i64 ln, .int .i64 k] 78 (0, 0)) := by
    rw [hw1]; exact setRow_heap _ _ #[.int .i64 0, .int .i64 0, .int .i64 0] _ _ _ (alloc_block (asMissR_block (alloc_new w _)))
  have c0 : w1.cell? ⟨w.heap.size, 0, none⟩ = some (.int .i64 no) := by simp [World.cell?, hblk]
  have c1 : w1.cell? ⟨w.heap.size, 1, none⟩ = some (.int .i64 ln) := by simp [World.cell?, hblk]
  have c2 : w1.cell? ⟨w.heap.size, 2, none⟩ = some (.int .i64 k) := by simp [World.cell?, hblk]
  have hlt : w.heap.size < w1.heap.size := World.block_lt_of_cell? w1 ⟨w.heap.size, 0, none⟩ c0
  have HB1 := hide hB1
  have HLT := hide hlt
  clear hw1 hblk HA HE hb0 hB1 hlt
  go_region_with (first | (go_at_call 59; refine (HNF.out _).mono ?_; rintro e w2 ⟨rfl, hb2⟩; have d0 : w2.cell? ⟨w.heap.size, 0, none⟩ = some (.int .i64 no) := (hb2.cell (p := ⟨w.heap.size, 0, none⟩) HLT.out).trans c0; have d1 : w2.cell? ⟨w.heap.size, 1, none⟩ = some (.int .i64 ln) := (hb2.cell (p := ⟨w.heap.size, 1, none⟩) HLT.out).trans c1; have d2 : w2.cell? ⟨w.heap.size, 2, none⟩ = some (.int .i64 k) := (hb2.cell (p := ⟨w.heap.size, 2, none⟩) HLT.out).trans c2))
  all_goals
    have HB2 := HB1.out.drew.trans (hb2.mono HB1.out.size)
    go_wp2_with fail
    go_ret3
    exact ⟨ret_place rfl rfl (by simp), HB2⟩
set_option maxHeartbeats 1000000 in
theorem at_rf (s : List UInt8) (no ln k : Int) (w : World) (h1 : 1 ≤ no) (h2 : no ≤ 24) (hE : ErrType w) :
    Calls Tryd.prog 35 #[refV s (fltV no ln k), .int .i64 no, .int .i64 ln, .int .i64 k] w fun e w' => e = .returned (.bool true) ∧ Below w.heap.size w w' := by
  have HP := hide (place_rf s no ln k w h1 h2 hE)
  have HN := hide (fun W => num_rf s no ln k W h1 h2)
  have hz : (no == 0) = false := by rw [beq_eq_false_iff_ne]; omega
  have hy : (no == no) = true := by simp
  have hx : (ln == ln) = true := by simp
  have hw : (k == k) = true := by simp
  clear h1 h2
  unfold refV fltV at HP HN ⊢
  go_enter Tryd.func35, Tryd.ntmps35
  go_wp2_with fail
  refine HP.out.mono ?_
  rintro e w1 ⟨rfl, hb1⟩
  go_wp2_with fail
  refine (HN.out _).mono ?_
  rintro e w2 ⟨rfl, hb2⟩
  go_wp2_with fail
  go_ret
  exact ⟨rfl, hb1.trans (hb2.mono hb1.size)⟩
end Go.Proofs.YtmebomifakmkbaaDoor
