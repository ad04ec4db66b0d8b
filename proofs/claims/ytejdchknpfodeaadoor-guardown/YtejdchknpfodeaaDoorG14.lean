/-
  My own text: the law GuardOwn.
-/
import Derived.Test.YtejdchknpfodeaaDoorG13
namespace Go.Proofs.YtejdchknpfodeaaDoor
open Go.RowKit

theorem num_errV (k : Int) (w : World) (h1 : 0 ≤ k) (h2 : k ≤ 24) :
    Calls Tryd.prog 31 #[errV k] w fun e w' => e = .returned (.int .i64 k) ∧ w' = w := by
  by_cases h : k = 0
  · subst h; exact num_nil w
  · rw [errV_pos (by omega)]; exact num_errno k w (by omega) h2
theorem kyE_more {A S A' S' a s : Int} (h : kyE A S a s = 0) (hA : A ≤ A') (hS : S ≤ S') : kyE A' S' a s = 0 := by
  unfold kyE at *
  by_cases h1 : 0 ≤ a ∧ a < A
  · rw [if_pos h1] at h
    by_cases h2 : 0 ≤ s ∧ s < S
    · rw [if_pos (by omega), if_pos (by omega)]
    · rw [if_neg h2] at h; omega
  · rw [if_neg h1] at h; omega
theorem hdE_more {A S A' S' a s q : Int} (h : hdE A S a s q = 0) (hA : A ≤ A') (hS : S ≤ S') : hdE A' S' a s q = 0 := by
  unfold hdE at *
  by_cases h1 : kyE A S a s = 0
  · rw [if_pos h1] at h
    rw [if_pos (kyE_more h1 hA hS)]; exact h
  · rw [if_neg h1] at h; exact absurd h h1
theorem mkE_more {A S A' S' a s q n : Int} (h : mkE A S a s q n = 0) (hA : A ≤ A') (hS : S ≤ S') : mkE A' S' a s q n = 0 := by
  unfold mkE at *
  by_cases h1 : hdE A S a s q = 0
  · rw [if_pos h1] at h
    rw [if_pos (hdE_more h1 hA hS)]; exact h
  · rw [if_neg h1] at h; exact absurd h h1
theorem lgE_more {A S A' S' : Int} {l : LG.El} (h : lgE A S l = 0) (hA : A ≤ A') (hS : S ≤ S') : lgE A' S' l = 0 := by
  unfold lgE at *
  by_cases h1 : 0 ≤ l.1 ∧ l.1 < A
  · rw [if_pos h1] at h
    rw [if_pos (by omega)]
    by_cases h2 : 0 ≤ l.2.1 ∧ l.2.1 < A
    · rw [if_pos h2] at h
      rw [if_pos (by omega)]
      by_cases h3 : l.1 = l.2.1
      · rw [if_pos h3] at h; omega
      · rw [if_neg h3] at h ⊢
        by_cases h4 : 0 ≤ l.2.2.1 ∧ l.2.2.1 < S
        · rw [if_pos h4] at h
          rw [if_pos (by omega)]; exact h
        · rw [if_neg h4] at h; omega
    · rw [if_neg h2] at h; omega
  · rw [if_neg h1] at h; omega
theorem fst0_all : ∀ {L : List Int}, fst0 L = 0 → ∀ x ∈ L, x = 0
  | y :: t, h, x, hx => by
    by_cases hy : y = 0
    · have e : fst0 (y :: t) = fst0 t := by show (if y = 0 then fst0 t else y) = _; rw [if_pos hy]
      rcases List.mem_cons.1 hx with rfl | hx
      · exact hy
      · exact fst0_all (e.symm.trans h) x hx
    · have e : fst0 (y :: t) = y := by show (if y = 0 then fst0 t else y) = _; rw [if_neg hy]
      exact absurd (e.symm.trans h) hy
theorem fst0_zero : ∀ {L : List Int}, (∀ x ∈ L, x = 0) → fst0 L = 0
  | [], _ => rfl
  | y :: t, h => by
    show (if y = 0 then fst0 t else y) = 0
    rw [if_pos (h y List.mem_cons_self)]
    exact fst0_zero (fun x hx => h x (List.mem_cons_of_mem _ hx))
theorem chk_more {A S A' S' : Int} {o : OpX} (h : chk A S o = 0) (hA : A ≤ A') (hS : S ≤ S') : chk A' S' o = 0 := by
  by_cases hc : 1 ≤ o.code ∧ o.code ≤ 8
  · obtain e | e | e | e | e | e | e | e : o.code = 1 ∨ o.code = 2 ∨ o.code = 3 ∨ o.code = 4 ∨ o.code = 5 ∨ o.code = 6 ∨ o.code = 7 ∨ o.code = 8 := by omega
    · rw [chk_1 e] at *; exact hdE_more h hA hS
    · rw [chk_2 e] at *; exact hdE_more h hA hS
    · rw [chk_3 e] at *; exact mkE_more h hA hS
    · rw [chk_4 e] at *; exact mkE_more h hA hS
    · rw [chk_5 e] at *
      unfold sbE at *
      by_cases h1 : idE o.id = 0
      · rw [if_pos h1] at h ⊢
        by_cases h2 : o.legs.length = 0
        · rw [if_pos h2] at h; omega
        · rw [if_neg h2] at h ⊢
          by_cases h3 : 4 < o.legs.length
          · rw [if_pos h3] at h; omega
          · rw [if_neg h3] at h ⊢
            exact fst0_zero (fun x hx => by
              obtain ⟨l, hl, rfl⟩ := List.mem_map.1 hx
              exact lgE_more (fst0_all h _ (List.mem_map.2 ⟨l, hl, rfl⟩)) hA hS)
      · rw [if_neg h1] at h; omega
    · rw [chk_6 e] at *; exact h
    · rw [chk_7 e] at *; exact h
    · rw [chk_8 e] at *
      unfold snE at *
      by_cases h3 : 64 < o.pairs.length
      · rw [if_pos h3] at h; omega
      · rw [if_neg h3] at h ⊢
        exact fst0_zero (fun x hx => by
          obtain ⟨l, hl, rfl⟩ := List.mem_map.1 hx
          exact kyE_more (fst0_all h _ (List.mem_map.2 ⟨l, hl, rfl⟩)) hA hS)
  · rw [chk_0 hc] at h; omega
/-- The boxes of two configurations and an operation. -/
structure B3 (A S q h k A' S' q' h' k' : Int) (o : OpX) (lv pv : Value) (b : Nat) (W : World) : Prop where
  c : W.heap[b]? = some (.cells #[.int .i64 A, .int .i64 S, .int .i64 q, .int .i64 h, .int .i64 k] 58 (0, 0))
  d : W.heap[b + 1]? = some (.cells #[.int .i64 A', .int .i64 S', .int .i64 q', .int .i64 h', .int .i64 k'] 58 (0, 0))
  o : W.heap[b + 1 + 1]? = some (.cells #[.int .i64 o.code, .int .i64 o.acc, .int .i64 o.ass, .int .i64 o.qty, .int .i64 o.name, .int .i64 o.id, lv, pv] 26 (0, 0))
theorem B3.later {A S q h k A' S' q' h' k' : Int} {o : OpX} {lv pv : Value} {b : Nat} {W W' : World} (x : B3 A S q h k A' S' q' h' k' o lv pv b W) (hb : Below W.heap.size W W') : B3 A S q h k A' S' q' h' k' o lv pv b W' :=
  ⟨blk_later x.c hb, blk_later x.d hb, blk_later x.o hb⟩
set_option maxRecDepth 100000 in
set_option maxHeartbeats 4000000 in
theorem guardOwn_law (A S q h k A' S' q' h' k' : Int) (o : OpX) (lv pv : Value) (w : World) (hE : ErrType w) (hL : LG.RM w lv o.legs) (hP : KY.RM w pv o.pairs) (hl : o.legs.length ≤ 3518437208800) (hp : o.pairs.length ≤ 8796093022000) :
    Calls Tryd.prog 8 #[.agg #[.int .i64 A, .int .i64 S, .int .i64 q, .int .i64 h, .int .i64 k], .agg #[.int .i64 A', .int .i64 S', .int .i64 q', .int .i64 h', .int .i64 k'], opV o lv pv] w fun e w' => e = .returned (.bool true) ∧ Below w.heap.size w w' := by
  have HC := hide (fun (A S q h k : Int) (W : World) (hb : Below w.heap.size w W) => check_any A S q h k o lv pv W (hL.later hb) (hP.later hb) (by omega) (by omega))
  have HOwn := hide (fun (W : World) (hb : Below w.heap.size w W) => own_any o lv pv W (hL.later hb) (hP.later hb) hl hp)
  have HC2 := hide (fun (W : World) (l1 p1 : Value) (h1 : LG.RM W l1 (ownO o).legs) (h2 : KY.RM W p1 (ownO o).pairs) (h3 : (ownO o).legs.length ≤ 4611686018427387904) (h4 : (ownO o).pairs.length ≤ 4611686018427387904) => check_any A S q' h' k' (ownO o) l1 p1 W h1 h2 h3 h4)
  have HW := hide (fun (W : World) (hb : Below w.heap.size w W) => works_any W (hE.below hb))
  have hr := chk_rng A S o
  have HN := hide (fun W : World => num_errV (chk A S o) W hr.1 hr.2)
  have HMR := hide (fun (A2 S2 : Int) (h0 : chk A S o = 0) (h1 : A ≤ A2) (h2 : S ≤ S2) => chk_more h0 h1 h2)
  have H1 := hide (fun (W : World) (hb : Below w.heap.size w W) => HC.out A S q h k W hb)
  have HSZ : Hid ((ownO o).legs.length ≤ 4611686018427387904 ∧ (ownO o).pairs.length ≤ 4611686018427387904) := hide (by unfold ownO; (repeat' split) <;> (constructor <;> first | (simp; done) | omega | (simp; omega)))
  rw [chk_own] at HC2
  unfold opV at HC HOwn HC2 H1 ⊢
  generalize chk A S o = c0 at *
  have dc1 : decide (c0 < 0) = false := decide_eq_false (by omega)
  have dc2 : (c0 != c0) = false := by simp
  generalize hev : errV c0 = ev at *
  have X0 := three_new w (.cells #[.int .i64 A, .int .i64 S, .int .i64 q, .int .i64 h, .int .i64 k] 58) (.cells #[.int .i64 A', .int .i64 S', .int .i64 q', .int .i64 h', .int .i64 k'] 58) (.cells #[.int .i64 o.code, .int .i64 o.acc, .int .i64 o.ass, .int .i64 o.qty, .int .i64 o.name, .int .i64 o.id, lv, pv] 26)
  have X := hide (show B3 A S q h k A' S' q' h' k' o lv pv w.heap.size _ from ⟨X0.1, X0.2.1, X0.2.2⟩)
  have HB := hide (show Below w.heap.size w _ from (two_below w (.cells #[.int .i64 A, .int .i64 S, .int .i64 q, .int .i64 h, .int .i64 k] 58) (.cells #[.int .i64 A', .int .i64 S', .int .i64 q', .int .i64 h', .int .i64 k'] 58)).alloc (by simp; omega) (.cells #[.int .i64 o.code, .int .i64 o.acc, .int .i64 o.ass, .int .i64 o.qty, .int .i64 o.name, .int .i64 o.id, lv, pv] 26))
  clear X0 hE hL hP
  go_enter Tryd.func8, Tryd.ntmps8
  go_wp2_with fail
  refine (H1.out _ HB.out).mono ?_
  rintro e w1 ⟨rfl, hb⟩
  have X1 := hide (X.out.later hb)
  have HB1 := hide (HB.out.trans (hb.mono HB.out.size))
  clear hb X HB
  go_wp2_with fail
  refine (HN.out _).mono ?_
  rintro e w2 ⟨rfl, rfl⟩
  obtain ⟨x0, x1, x2, x3, x4⟩ := five_cells X1.out.c rfl
  obtain ⟨z0, z1, z2, z3, z4⟩ := five_cells X1.out.d rfl
  obtain ⟨y0, y1, y2, y3, y4, y5, y6, y7⟩ := eight_cells X1.out.o rfl
  go_wp2_with fail
  go_region_held3 (fun W => W.cell? ⟨w.heap.size, 0, none⟩ = some (.int .i64 A) ∧ W.cell? ⟨w.heap.size, 1, none⟩ = some (.int .i64 S) ∧ W.cell? ⟨w.heap.size + 1, 2, none⟩ = some (.int .i64 q') ∧ W.cell? ⟨w.heap.size + 1, 3, none⟩ = some (.int .i64 h') ∧ W.cell? ⟨w.heap.size + 1, 4, none⟩ = some (.int .i64 k') ∧ W.cell? ⟨w.heap.size + 1 + 1, 0, none⟩ = some (.int .i64 o.code) ∧ W.cell? ⟨w.heap.size + 1 + 1, 1, none⟩ = some (.int .i64 o.acc) ∧ W.cell? ⟨w.heap.size + 1 + 1, 2, none⟩ = some (.int .i64 o.ass) ∧ W.cell? ⟨w.heap.size + 1 + 1, 3, none⟩ = some (.int .i64 o.qty) ∧ W.cell? ⟨w.heap.size + 1 + 1, 4, none⟩ = some (.int .i64 o.name) ∧ W.cell? ⟨w.heap.size + 1 + 1, 5, none⟩ = some (.int .i64 o.id) ∧ W.cell? ⟨w.heap.size + 1 + 1, 6, none⟩ = some lv ∧ W.cell? ⟨w.heap.size + 1 + 1, 7, none⟩ = some pv) (go_keep) ((first
    | (go_at_call 30; refine (HOwn.out _ HB1.out.drew).mono ?_; rintro e w3 ⟨l3, p3, rfl, hL3, hP3, hb3⟩; have X3 := X1.out.later (drew_below.trans hb3); obtain ⟨x03, x13, x23, x33, x43⟩ := five_cells X3.c rfl; obtain ⟨z03, z13, z23, z33, z43⟩ := five_cells X3.d rfl; obtain ⟨y03, y13, y23, y33, y43, y53, y63, y73⟩ := eight_cells X3.o rfl; have HX3 := hide X3; have HL3 := hide hL3; have HP3 := hide hP3; have HB3 := hide (HB1.out.drew.trans (hb3.mono HB1.out.drew.size)); clear X3 hL3 hP3 hb3)
    | (go_at_call 26; refine (HC2.out _ l3 p3 HL3.out.rm HP3.out.rm HSZ.out.1 HSZ.out.2).mono ?_; rintro e w4 ⟨rfl, hb4⟩; have X4 := HX3.out.later hb4; obtain ⟨x04, x14, x24, x34, x44⟩ := five_cells X4.c rfl; obtain ⟨z04, z14, z24, z34, z44⟩ := five_cells X4.d rfl; obtain ⟨y04, y14, y24, y34, y44, y54, y64, y74⟩ := eight_cells X4.o rfl; have HX4 := hide X4; have HB4 := hide (HB3.out.trans (hb4.mono HB3.out.size)); clear X4 hb4)
    | (go_at_call 31; refine (HN.out _).mono ?_; rintro e w5 ⟨rfl, hw5⟩; obtain rfl := hw5.symm)))
  go_wp2_with fail
  refine (HW.out _ HB4.out).mono ?_
  rintro e w6 ⟨rfl, hb6⟩
  have X6 := hide (HX4.out.later hb6)
  have HB6 := hide (HB4.out.trans (hb6.mono HB4.out.size))
  clear hb6 x03 x13 x23 x33 x43 z03 z13 z23 z33 z43 y03 y13 y23 y33 y43 y53 y63 y73 x04 x14 x24 x34 x44 z04 z14 z24 z34 z44 y04 y14 y24 y34 y44 y54 y64 y74 HX3 HX4 HL3 HP3 HB3 HB4
  obtain ⟨x06, x16, x26, x36, x46⟩ := five_cells X6.out.c rfl
  obtain ⟨z06, z16, z26, z36, z46⟩ := five_cells X6.out.d rfl
  obtain ⟨y06, y16, y26, y36, y46, y56, y66, y76⟩ := eight_cells X6.out.o rfl
  have hrA : Hid (∀ a b, Below w6.heap.size w6 (w6.alloc (.cells #[.int .i64 a, .int .i64 b, .int .i64 q, .int .i64 h, .int .i64 k] 58))) := hide (fun a b => (Below.refl _ _).alloc (Nat.le_refl _) _)
  cases hA : decide (A < A')
  case false =>
    cases hS : decide (S < S')
    case false =>
      have XX0 := X6.out.later (hrA.out A S)
      obtain ⟨x0p0, x1p0, x2p0, x3p0, x4p0⟩ := five_cells XX0.c rfl
      obtain ⟨z0p0, z1p0, z2p0, z3p0, z4p0⟩ := five_cells XX0.d rfl
      obtain ⟨y0p0, y1p0, y2p0, y3p0, y4p0, y5p0, y6p0, y7p0⟩ := eight_cells XX0.o rfl
      have nn0 := five_cells (alloc_new w6 (.cells #[.int .i64 A, .int .i64 S, .int .i64 q, .int .i64 h, .int .i64 k] 58)) rfl
      obtain ⟨n0p0, n1p0, n2p0, n3p0, n4p0⟩ := nn0
      clear XX0
      have HBZ := hide (HB6.out.trans ((hrA.out A S).mono HB6.out.size))
      by_cases h0 : c0 = 0
      · have HK := hide (HC.out A S q h k _ HBZ.out)
        have hA2 : A ≤ A := by omega
        have hS2 : S ≤ S := by omega
        rw [HMR.out A S h0 hA2 hS2, errV_zero] at HK
        have h0b : (c0 != 0) = false := by rw [h0]; rfl
        clear hA2 hS2 h0
        go_wp2_with fail
        refine HK.out.mono ?_
        rintro e w7 ⟨rfl, hb7⟩
        have HB7 := hide (HBZ.out.trans (hb7.mono HBZ.out.size))
        clear hb7
        go_wp2_with fail
        go_ret
        exact ⟨rfl, HB7.out⟩
      · have h0b : (c0 != 0) = true := by rw [bne_iff_ne]; exact h0
        clear h0
        go_wp2_with fail
        go_ret
        exact ⟨rfl, HBZ.out⟩
    case true =>
      have XX0 := X6.out.later (hrA.out A S)
      obtain ⟨x0p0, x1p0, x2p0, x3p0, x4p0⟩ := five_cells XX0.c rfl
      obtain ⟨z0p0, z1p0, z2p0, z3p0, z4p0⟩ := five_cells XX0.d rfl
      obtain ⟨y0p0, y1p0, y2p0, y3p0, y4p0, y5p0, y6p0, y7p0⟩ := eight_cells XX0.o rfl
      have nn0 := five_cells (alloc_new w6 (.cells #[.int .i64 A, .int .i64 S, .int .i64 q, .int .i64 h, .int .i64 k] 58)) rfl
      obtain ⟨n0p0, n1p0, n2p0, n3p0, n4p0⟩ := nn0
      clear XX0
      have XX1 := X6.out.later (hrA.out A S')
      obtain ⟨x0p1, x1p1, x2p1, x3p1, x4p1⟩ := five_cells XX1.c rfl
      obtain ⟨z0p1, z1p1, z2p1, z3p1, z4p1⟩ := five_cells XX1.d rfl
      obtain ⟨y0p1, y1p1, y2p1, y3p1, y4p1, y5p1, y6p1, y7p1⟩ := eight_cells XX1.o rfl
      have nn1 := five_cells (alloc_new w6 (.cells #[.int .i64 A, .int .i64 S', .int .i64 q, .int .i64 h, .int .i64 k] 58)) rfl
      obtain ⟨n0p1, n1p1, n2p1, n3p1, n4p1⟩ := nn1
      clear XX1
      have HBZ := hide (HB6.out.trans ((hrA.out A S').mono HB6.out.size))
      by_cases h0 : c0 = 0
      · have HK := hide (HC.out A S' q h k _ HBZ.out)
        have hA2 : A ≤ A := by omega
        have hS2 : S ≤ S' := by have := of_decide_eq_true hS; omega
        rw [HMR.out A S' h0 hA2 hS2, errV_zero] at HK
        have h0b : (c0 != 0) = false := by rw [h0]; rfl
        clear hA2 hS2 h0
        go_wp2_with fail
        refine HK.out.mono ?_
        rintro e w7 ⟨rfl, hb7⟩
        have HB7 := hide (HBZ.out.trans (hb7.mono HBZ.out.size))
        clear hb7
        go_wp2_with fail
        go_ret
        exact ⟨rfl, HB7.out⟩
      · have h0b : (c0 != 0) = true := by rw [bne_iff_ne]; exact h0
        clear h0
        go_wp2_with fail
        go_ret
        exact ⟨rfl, HBZ.out⟩
  case true =>
    cases hS : decide (S < S')
    case false =>
      have XX0 := X6.out.later (hrA.out A S)
      obtain ⟨x0p0, x1p0, x2p0, x3p0, x4p0⟩ := five_cells XX0.c rfl
      obtain ⟨z0p0, z1p0, z2p0, z3p0, z4p0⟩ := five_cells XX0.d rfl
      obtain ⟨y0p0, y1p0, y2p0, y3p0, y4p0, y5p0, y6p0, y7p0⟩ := eight_cells XX0.o rfl
      have nn0 := five_cells (alloc_new w6 (.cells #[.int .i64 A, .int .i64 S, .int .i64 q, .int .i64 h, .int .i64 k] 58)) rfl
      obtain ⟨n0p0, n1p0, n2p0, n3p0, n4p0⟩ := nn0
      clear XX0
      have XX1 := X6.out.later (hrA.out A' S)
      obtain ⟨x0p1, x1p1, x2p1, x3p1, x4p1⟩ := five_cells XX1.c rfl
      obtain ⟨z0p1, z1p1, z2p1, z3p1, z4p1⟩ := five_cells XX1.d rfl
      obtain ⟨y0p1, y1p1, y2p1, y3p1, y4p1, y5p1, y6p1, y7p1⟩ := eight_cells XX1.o rfl
      have nn1 := five_cells (alloc_new w6 (.cells #[.int .i64 A', .int .i64 S, .int .i64 q, .int .i64 h, .int .i64 k] 58)) rfl
      obtain ⟨n0p1, n1p1, n2p1, n3p1, n4p1⟩ := nn1
      clear XX1
      have HBZ := hide (HB6.out.trans ((hrA.out A' S).mono HB6.out.size))
      by_cases h0 : c0 = 0
      · have HK := hide (HC.out A' S q h k _ HBZ.out)
        have hA2 : A ≤ A' := by have := of_decide_eq_true hA; omega
        have hS2 : S ≤ S := by omega
        rw [HMR.out A' S h0 hA2 hS2, errV_zero] at HK
        have h0b : (c0 != 0) = false := by rw [h0]; rfl
        clear hA2 hS2 h0
        go_wp2_with fail
        refine HK.out.mono ?_
        rintro e w7 ⟨rfl, hb7⟩
        have HB7 := hide (HBZ.out.trans (hb7.mono HBZ.out.size))
        clear hb7
        go_wp2_with fail
        go_ret
        exact ⟨rfl, HB7.out⟩
      · have h0b : (c0 != 0) = true := by rw [bne_iff_ne]; exact h0
        clear h0
        go_wp2_with fail
        go_ret
        exact ⟨rfl, HBZ.out⟩
    case true =>
      have XX0 := X6.out.later (hrA.out A S)
      obtain ⟨x0p0, x1p0, x2p0, x3p0, x4p0⟩ := five_cells XX0.c rfl
      obtain ⟨z0p0, z1p0, z2p0, z3p0, z4p0⟩ := five_cells XX0.d rfl
      obtain ⟨y0p0, y1p0, y2p0, y3p0, y4p0, y5p0, y6p0, y7p0⟩ := eight_cells XX0.o rfl
      have nn0 := five_cells (alloc_new w6 (.cells #[.int .i64 A, .int .i64 S, .int .i64 q, .int .i64 h, .int .i64 k] 58)) rfl
      obtain ⟨n0p0, n1p0, n2p0, n3p0, n4p0⟩ := nn0
      clear XX0
      have XX1 := X6.out.later (hrA.out A' S)
      obtain ⟨x0p1, x1p1, x2p1, x3p1, x4p1⟩ := five_cells XX1.c rfl
      obtain ⟨z0p1, z1p1, z2p1, z3p1, z4p1⟩ := five_cells XX1.d rfl
      obtain ⟨y0p1, y1p1, y2p1, y3p1, y4p1, y5p1, y6p1, y7p1⟩ := eight_cells XX1.o rfl
      have nn1 := five_cells (alloc_new w6 (.cells #[.int .i64 A', .int .i64 S, .int .i64 q, .int .i64 h, .int .i64 k] 58)) rfl
      obtain ⟨n0p1, n1p1, n2p1, n3p1, n4p1⟩ := nn1
      clear XX1
      have XX2 := X6.out.later (hrA.out A' S')
      obtain ⟨x0p2, x1p2, x2p2, x3p2, x4p2⟩ := five_cells XX2.c rfl
      obtain ⟨z0p2, z1p2, z2p2, z3p2, z4p2⟩ := five_cells XX2.d rfl
      obtain ⟨y0p2, y1p2, y2p2, y3p2, y4p2, y5p2, y6p2, y7p2⟩ := eight_cells XX2.o rfl
      have nn2 := five_cells (alloc_new w6 (.cells #[.int .i64 A', .int .i64 S', .int .i64 q, .int .i64 h, .int .i64 k] 58)) rfl
      obtain ⟨n0p2, n1p2, n2p2, n3p2, n4p2⟩ := nn2
      clear XX2
      have HBZ := hide (HB6.out.trans ((hrA.out A' S').mono HB6.out.size))
      by_cases h0 : c0 = 0
      · have HK := hide (HC.out A' S' q h k _ HBZ.out)
        have hA2 : A ≤ A' := by have := of_decide_eq_true hA; omega
        have hS2 : S ≤ S' := by have := of_decide_eq_true hS; omega
        rw [HMR.out A' S' h0 hA2 hS2, errV_zero] at HK
        have h0b : (c0 != 0) = false := by rw [h0]; rfl
        clear hA2 hS2 h0
        go_wp2_with fail
        refine HK.out.mono ?_
        rintro e w7 ⟨rfl, hb7⟩
        have HB7 := hide (HBZ.out.trans (hb7.mono HBZ.out.size))
        clear hb7
        go_wp2_with fail
        go_ret
        exact ⟨rfl, HB7.out⟩
      · have h0b : (c0 != 0) = true := by rw [bne_iff_ne]; exact h0
        clear h0
        go_wp2_with fail
        go_ret
        exact ⟨rfl, HBZ.out⟩
end Go.Proofs.YtejdchknpfodeaaDoor
