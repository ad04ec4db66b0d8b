/-
  My own text: the laws GuardFits and GuardCheck (printed by mkg8.py).
-/
import Derived.Test.YtdiamlajmcikhaaGreatDoorG7
import Derived.Test.YtdiamlajmcikhaaGreatDoorGKL
import Derived.Test.YtdiamlajmcikhaaGreatDoorGLL
namespace Go.Proofs.YtdiamlajmcikhaaGreatDoor
open Go.RowKit

theorem ftE_rng (A S q h k : Int) : 0 ≤ ftE A S q h k ∧ ftE A S q h k ≤ 24 := by unfold ftE; split <;> omega
theorem set_blk {w : World} {g : Nat} {cs cs' : Array Value} {t : TypeId} (h : w.heap[g]? = some (.cells cs t (0, 0))) (i : Nat) (v : Value) (hc : cs.setIfInBounds i v = cs') : (w.setCell ⟨g, i, none⟩ v).heap[g]? = some (.cells cs' t (0, 0)) := by
  rw [setCell_eq_setRow w g i cs t (0, 0) v h, setRow_heap _ _ _ _ _ _ h, hc]
theorem no_froz {w : World} {g : Nat} {cs : Array Value} {t : TypeId} (h : w.heap[g]? = some (.cells cs t (0, 0))) (i : Nat) : w.frozen? ⟨g, i, none⟩ = false := by unfold World.frozen?; simp [h]
theorem lgM_set {w : World} {B g cap x i : Nat} {l : List LG.El} {v : Value} (h : LG.LentM w B g cap l) (hx : x < B) : LG.LentM (w.setCell ⟨x, i, none⟩ v) B g cap l :=
  ⟨h.base, owns_blk h.own (fun b hb => Below.heap_setCell _ _ _ b (by have := (World.ownsRow.lt h.own b hb).1; show b ≠ x; omega))⟩
theorem kyM_set {w : World} {B g cap x i : Nat} {l : List KY.El} {v : Value} (h : KY.LentM w B g cap l) (hx : x < B) : KY.LentM (w.setCell ⟨x, i, none⟩ v) B g cap l :=
  ⟨h.base, owns_blk h.own (fun b hb => Below.heap_setCell _ _ _ b (by have := (World.ownsRow.lt h.own b hb).1; show b ≠ x; omega))⟩
set_option maxRecDepth 100000 in
set_option maxHeartbeats 4000000 in
theorem guardFits_law (A S q h k : Int) (w : World) (hE : ErrType w) :
    Calls Tryz.prog 19 #[.agg #[.int .i64 A, .int .i64 S, .int .i64 q, .int .i64 h, .int .i64 k]] w fun e w' => e = .returned (.bool true) ∧ Below w.heap.size w w' := by
  have HE := hide hE
  clear hE
  have B0 := hide ((Below.refl w.heap.size w).alloc (Nat.le_refl _) (.cells #[.int .i64 A, .int .i64 S, .int .i64 q, .int .i64 h, .int .i64 k] 34))
  have Z0 := hide (alloc_new w (.cells #[.int .i64 A, .int .i64 S, .int .i64 q, .int .i64 h, .int .i64 k] 34))
  have H1 := hide (fun W : World => fits_any A S q h k W)
  have H2 := hide (fun W : World => rFits_any A S q h k W)
  have hr := ftE_rng A S q h k
  have HP := hide (fun (W : World) (hE : ErrType W) => plain_errV (ftE A S q h k) (ftE A S q h k) W hr.1 hr.2 hE)
  rw [beq_self_eq_true] at HP
  generalize errV (ftE A S q h k) = ev at *
  generalize ftE A S q h k = e0 at *
  go_enter Tryz.func19, Tryz.ntmps19
  go_wp2_with fail
  generalize w.alloc (.cells #[.int .i64 A, .int .i64 S, .int .i64 q, .int .i64 h, .int .i64 k] 34) = V at *
  have HX0 := hide ((Below.refl V.heap.size V).drew)
  haveI : Nonempty (Gr V) := ⟨⟨_, HX0.out⟩⟩
  have zx : ∀ x : Gr V, _ := fun x => five_cells (blk_later Z0.out x.2) rfl
  have zx0 := fun x => (zx x).1
  have zx1 := fun x => (zx x).2.1
  have zx2 := fun x => (zx x).2.2.1
  have zx3 := fun x => (zx x).2.2.2.1
  have zx4 := fun x => (zx x).2.2.2.2
  clear zx
  refine region_class (C := fun w' => ∃ x : Gr V, w' = x.1) (by kernel_rfl) (by kernel_rfl) ⟨⟨_, HX0.out⟩, rfl⟩ ?_
  repeat (first
    | go_big_quiet_skip
    | (go_big_quiet_want; (go_big_quiet_op; first
        | go_big_quiet_on
        | (apply Exists.intro; refine ⟨fun x => ?_, ?_⟩; (first
            | (go_at_call 20; exact x.call (H1.out x.1))
            | (go_at_call 41; exact x.call (H2.out x.1))
            | (go_at_call 12; exact x.call (HP.out x.1 (HE.out.below (B0.out.trans (x.2.mono B0.out.size)))))); go_big_quiet_on))))
  refine wpQuiet_nil ?_
  rintro w5 ⟨x5, rfl⟩
  obtain ⟨w5, hx⟩ := x5
  dsimp only
  have HW2 := hide (B0.out.trans (hx.mono B0.out.size))
  clear hx this zx0 zx1 zx2 zx3 zx4
  go_wp2_with fail
  go_ret
  exact ⟨rfl, HW2.out⟩
set_option maxRecDepth 100000 in
set_option maxHeartbeats 4000000 in
theorem guardCheck_law (A S q h k : Int) (o : OpX) (lv pv : Value) (w : World) (hE : ErrType w) (hL : LG.RM w lv o.legs) (hP : KY.RM w pv o.pairs) (hl : o.legs.length ≤ 3518437208800) (hp : o.pairs.length ≤ 8796093022000) :
    Calls Tryz.prog 16 #[.agg #[.int .i64 A, .int .i64 S, .int .i64 q, .int .i64 h, .int .i64 k], opV o lv pv] w fun e w' => e = .returned (.bool true) ∧ Below w.heap.size w w' := by
  obtain ⟨la, lc, hlv⟩ := LG.rm_lt hL
  subst hlv
  obtain ⟨pa, pc, hpv⟩ := KY.rm_lt hP
  subst hpv
  have HC := hide (fun (W : World) (hb : Below w.heap.size w W) => rCheck_any A S q h k o _ _ W (hL.later hb) (hP.later hb) (by omega) (by omega))
  have HG := hide (fun (W : World) (l1 p1 : Value) (h1 : LG.RM W l1 o.legs) (h2 : KY.RM W p1 o.pairs) => check_any A S q h k o l1 p1 W h1 h2 (by omega) (by omega))
  have HLL := hide (fun (W : World) (hb : Below w.heap.size w W) => LG.lentMarks_any _ o.legs W (hL.later hb) hl)
  have HLP := hide (fun (W : World) (hb : Below w.heap.size w W) => KY.lentMarks_any _ o.pairs W (hP.later hb) hp)
  have HKL := hide (fun (W : World) (B g cap : Nat) (hb : Below w.heap.size w W) (hm : LG.LentM W B g cap o.legs) => LG.keptMarks_any _ o.legs B g cap W (hL.later hb) hm hl)
  have HKP := hide (fun (W : World) (B g cap : Nat) (hb : Below w.heap.size w W) (hm : KY.LentM W B g cap o.pairs) => KY.keptMarks_any _ o.pairs B g cap W (hP.later hb) hm hp)
  have hr := chk_rng A S o
  have HPL := hide (fun (W : World) (hE : ErrType W) => plain_errV (chk A S o) (chk A S o) W hr.1 hr.2 hE)
  rw [beq_self_eq_true] at HPL
  have HE := hide hE
  clear hE hr hL hP
  generalize errV (chk A S o) = ev at *
  generalize chk A S o = e0 at *
  unfold opV at HC HG ⊢
  have B0 := hide (two_below w (.cells #[.int .i64 A, .int .i64 S, .int .i64 q, .int .i64 h, .int .i64 k] 34) (.cells #[.int .i64 o.code, .int .i64 o.acc, .int .i64 o.ass, .int .i64 o.qty, .int .i64 o.name, .int .i64 o.id, .slice la o.legs.length lc, .slice pa o.pairs.length pc] 26))
  have X0 := two_new w (.cells #[.int .i64 A, .int .i64 S, .int .i64 q, .int .i64 h, .int .i64 k] 34) (.cells #[.int .i64 o.code, .int .i64 o.acc, .int .i64 o.ass, .int .i64 o.qty, .int .i64 o.name, .int .i64 o.id, .slice la o.legs.length lc, .slice pa o.pairs.length pc] 26)
  have Z0 := hide X0.1
  have U0 := hide X0.2
  clear X0
  obtain ⟨x0, x1, x2, x3, x4⟩ := five_cells Z0.out rfl
  obtain ⟨y0, y1, y2, y3, y4, y5, y6, y7⟩ := eight_cells U0.out rfl
  go_enter Tryz.func16, Tryz.ntmps16
  go_wp2_with fail
  refine (HC.out _ B0.out).mono ?_
  rintro e w1 ⟨rfl, hb⟩
  have B1 := hide ((B0.out.trans (hb.mono B0.out.size)).alloc (Nat.le_trans B0.out.size hb.size) (.cells #[.int .i64 o.code, .int .i64 o.acc, .int .i64 o.ass, .int .i64 o.qty, .int .i64 o.name, .int .i64 o.id, .slice la o.legs.length lc, .slice pa o.pairs.length pc] 26))
  have Z1 := hide (alloc_block (o := (.cells #[.int .i64 o.code, .int .i64 o.acc, .int .i64 o.ass, .int .i64 o.qty, .int .i64 o.name, .int .i64 o.id, .slice la o.legs.length lc, .slice pa o.pairs.length pc] 26)) (blk_later Z0.out hb))
  have U1 := hide (alloc_block (o := (.cells #[.int .i64 o.code, .int .i64 o.acc, .int .i64 o.ass, .int .i64 o.qty, .int .i64 o.name, .int .i64 o.id, .slice la o.legs.length lc, .slice pa o.pairs.length pc] 26)) (blk_later U0.out hb))
  have V1 := hide (alloc_new w1 (.cells #[.int .i64 o.code, .int .i64 o.acc, .int .i64 o.ass, .int .i64 o.qty, .int .i64 o.name, .int .i64 o.id, .slice la o.legs.length lc, .slice pa o.pairs.length pc] 26))
  have hs2 : w.heap.size + 2 ≤ w1.heap.size := by have := hb.size; simp at this; omega
  have hs1 : w.heap.size ≤ w1.heap.size := by omega
  have U1' := hide (blk_later U0.out hb)
  clear hb x0 x1 x2 x3 x4 y0 y1 y2 y3 y4 y5 y6 y7 HC
  obtain ⟨y0, y1, y2, y3, y4, y5, y6, y7⟩ := eight_cells U1'.out rfl
  obtain ⟨u0, u1, u2, u3, u4, u5, u6, u7⟩ := eight_cells U1.out rfl
  go_wp2_with fail
  refine (HLL.out _ B1.out).mono ?_
  rintro e w2 ⟨g, cap, rfl, hLM, hb⟩
  have hBx : w1.heap.size < (w1.alloc (.cells #[.int .i64 o.code, .int .i64 o.acc, .int .i64 o.ass, .int .i64 o.qty, .int .i64 o.name, .int .i64 o.id, .slice la o.legs.length lc, .slice pa o.pairs.length pc] 26)).heap.size := by simp
  have V2 := hide (blk_later V1.out hb)
  have Z2 := hide (blk_later Z1.out hb)
  have U2 := hide (blk_later U1.out hb)
  have B2 := hide (B1.out.trans (hb.mono B1.out.size))
  have f2 := no_froz V2.out 6
  obtain ⟨v0, v1, v2, v3, v4, v5, v6, v7⟩ := eight_cells V2.out rfl
  obtain ⟨W2, hW2⟩ : ∃ x, w2.setCell ⟨w1.heap.size, 6, none⟩ (.slice (some ⟨g, 0, none⟩) o.legs.length cap) = x := ⟨_, rfl⟩
  have V3 := hide (set_blk V2.out 6 (.slice (some ⟨g, 0, none⟩) o.legs.length cap) rfl)
  have Z3 := hide ((Below.heap_setCell w2 ⟨w1.heap.size, 6, none⟩ (.slice (some ⟨g, 0, none⟩) o.legs.length cap) w.heap.size (by show w.heap.size ≠ w1.heap.size; omega)).trans Z2.out)
  have U3 := hide ((Below.heap_setCell w2 ⟨w1.heap.size, 6, none⟩ (.slice (some ⟨g, 0, none⟩) o.legs.length cap) (w.heap.size + 1) (by show w.heap.size + 1 ≠ w1.heap.size; omega)).trans U2.out)
  have HLM := hide (lgM_set (i := 6) (v := .slice (some ⟨g, 0, none⟩) o.legs.length cap) hLM hBx)
  have B3 := hide (B2.out.setCell (p := ⟨w1.heap.size, 6, none⟩) hs1 (.slice (some ⟨g, 0, none⟩) o.legs.length cap))
  rw [hW2] at V3 Z3 U3 HLM B3
  clear hb hLM y0 y1 y2 y3 y4 y5 y6 y7 u0 u1 u2 u3 u4 u5 u6 u7
  obtain ⟨y0, y1, y2, y3, y4, y5, y6, y7⟩ := eight_cells U3.out rfl
  go_wp2_with fail
  refine (HLP.out _ B3.out).mono ?_
  rintro e w3 ⟨g', cap', rfl, hPM, hb⟩
  have hBy : w1.heap.size < W2.heap.size := (Array.getElem?_eq_some_iff.1 V3.out).1
  have V4 := hide (blk_later V3.out hb)
  have Z4 := hide (blk_later Z3.out hb)
  have U4 := hide (blk_later U3.out hb)
  have B4 := hide (B3.out.trans (hb.mono B3.out.size))
  have f4 := no_froz V4.out 7
  clear v0 v1 v2 v3 v4 v5 v6 v7
  obtain ⟨v0, v1, v2, v3, v4, v5, v6, v7⟩ := eight_cells V4.out rfl
  obtain ⟨W4, hW4⟩ : ∃ x, w3.setCell ⟨w1.heap.size, 7, none⟩ (.slice (some ⟨g', 0, none⟩) o.pairs.length cap') = x := ⟨_, rfl⟩
  have V5 := hide (set_blk V4.out 7 (.slice (some ⟨g', 0, none⟩) o.pairs.length cap') rfl)
  have Z5 := hide ((Below.heap_setCell w3 ⟨w1.heap.size, 7, none⟩ (.slice (some ⟨g', 0, none⟩) o.pairs.length cap') w.heap.size (by show w.heap.size ≠ w1.heap.size; omega)).trans Z4.out)
  have U5 := hide ((Below.heap_setCell w3 ⟨w1.heap.size, 7, none⟩ (.slice (some ⟨g', 0, none⟩) o.pairs.length cap') (w.heap.size + 1) (by show w.heap.size + 1 ≠ w1.heap.size; omega)).trans U4.out)
  have HLM5 := hide (lgM_set (i := 7) (v := .slice (some ⟨g', 0, none⟩) o.pairs.length cap') (HLM.out.later hb) hBx)
  have HPM5 := hide (kyM_set (i := 7) (v := .slice (some ⟨g', 0, none⟩) o.pairs.length cap') hPM hBy)
  have B5 := hide (B4.out.setCell (p := ⟨w1.heap.size, 7, none⟩) hs1 (.slice (some ⟨g', 0, none⟩) o.pairs.length cap'))
  rw [hW4] at V5 Z5 U5 HLM5 HPM5 B5
  clear hb hPM y0 y1 y2 y3 y4 y5 y6 y7 hW2 f2
  obtain ⟨x0, x1, x2, x3, x4⟩ := five_cells Z5.out rfl
  obtain ⟨y0, y1, y2, y3, y4, y5, y6, y7⟩ := eight_cells U5.out rfl
  obtain ⟨u0, u1, u2, u3, u4, u5, u6, u7⟩ := eight_cells V5.out rfl
  go_wp2_with fail
  refine (HG.out _ _ _ HLM5.out.rm HPM5.out.rm).mono ?_
  rintro e w6 ⟨rfl, hb⟩
  have B6 := hide (B5.out.trans (hb.mono B5.out.size))
  have U6 := hide (blk_later U5.out hb)
  have HLM6 := hide (HLM5.out.later hb)
  have HPM6 := hide (HPM5.out.later hb)
  clear hb hW4 f4 v0 v1 v2 v3 v4 v5 v6 v7 x0 x1 x2 x3 x4 y0 y1 y2 y3 y4 y5 y6 y7 u0 u1 u2 u3 u4 u5 u6 u7
  go_wp2_with fail
  refine (HPL.out _ (HE.out.below B6.out)).mono ?_
  rintro e w7 ⟨rfl, hb⟩
  have B7 := hide (B6.out.trans (hb.mono B6.out.size))
  have U7 := hide (blk_later U6.out hb)
  have HLM7 := hide (HLM6.out.later hb)
  have HPM7 := hide (HPM6.out.later hb)
  clear hb
  obtain ⟨y0, y1, y2, y3, y4, y5, y6, y7⟩ := eight_cells U7.out rfl
  go_wp2_with fail
  refine (HKL.out _ _ _ _ B7.out HLM7.out).mono ?_
  rintro e w8 ⟨rfl, hb⟩
  have B8 := hide (B7.out.trans (hb.mono B7.out.size))
  have U8 := hide (blk_later U7.out hb)
  have HPM8 := hide (HPM7.out.later hb)
  clear hb y0 y1 y2 y3 y4 y5 y6 y7
  obtain ⟨y0, y1, y2, y3, y4, y5, y6, y7⟩ := eight_cells U8.out rfl
  go_wp2_with fail
  refine (HKP.out _ _ _ _ B8.out HPM8.out).mono ?_
  rintro e w9 ⟨rfl, hb⟩
  have B9 := hide (B8.out.trans (hb.mono B8.out.size))
  clear hb y0 y1 y2 y3 y4 y5 y6 y7
  go_wp2_with fail
  go_ret
  exact ⟨rfl, B9.out⟩
end Go.Proofs.YtdiamlajmcikhaaGreatDoor
