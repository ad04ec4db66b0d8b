/-
  My own text: rows of numbers read as a Submit and a Snapshot (printed by mkg10.py).
-/
import Derived.Test.YtdiamlajmcikhaaGreatDoorG9
import Derived.Test.YtdiamlajmcikhaaGreatDoorQRz
namespace Go.Proofs.YtdiamlajmcikhaaGreatDoor
open Go.RowKit

theorem op_append_gen {P : Program} {o : Oper} {a : Act} {K : Act → World → Prop} {Q : Exit → Act → World → Prop} {w : World} {t : TypeId} (s x : Operand) (ho : o.op = .call { callee := .builtin .append, args := #[s, x], argTypes := #[t, t] }) (v : Value) (b : Addr) (m c : Nat) (hs : a.eval s = v) (hx : a.eval x = .slice (some b) m c)
    (v' : Value) (w' : World) (hr : (Builtin.append_ #[t, t] o.type #[v, .slice (some b) m c]).run P w = .ok v' w') (h : K (a.put o.dst v') w') : o.wp P a w K Q := by
  unfold Oper.wp execOp
  simp only [ho, resolve, invoke, builtin, Sem.run_bind, Sem.run_pure, Result.andThen_ok, List.map_toArray, List.map_cons, List.map_nil, hs, hx, hr]
  exact h
theorem drew_below {w : World} : Below w.heap.size w w.drew := (Below.refl _ _).drew
theorem set_blk0 {w : World} {g : Nat} {cs cs' : Array Value} {t : TypeId} (h : w.heap[g]? = some (.cells cs t (0, 0))) (i : Nat) (v : Value) (hc : cs.setIfInBounds i v = cs') : (w.setCell ⟨g, i, none⟩ v).heap[g]? = some (.cells cs' t (0, 0)) := by
  rw [setCell_eq_setRow w g i cs t (0, 0) v h, setRow_heap _ _ _ _ _ _ h, hc]
theorem no_froz0 {w : World} {g : Nat} {cs : Array Value} {t : TypeId} (h : w.heap[g]? = some (.cells cs t (0, 0))) (i : Nat) : w.frozen? ⟨g, i, none⟩ = false := by unfold World.frozen?; simp [h]
def lenV : Value → Nat
  | .slice _ n _ => n
  | _ => 0
theorem nth_drop (N : List Int) (m j : Nat) : nth (N.drop m) j = nth N (m + j) := by unfold nth; rw [List.getElem?_drop]
theorem rm_cut {w : World} {g off cap : Nat} {N : List Int} (hg : g < w.heap.size) (hcap : N.length ≤ cap) (hc : ∀ j, j < N.length → w.cell? ⟨g, off + j, none⟩ = some (.int .i64 (nth N j))) (m : Nat) : LN.RM w (.slice (some ⟨g, off + m, none⟩) (N.length - m) (cap - m)) (N.drop m) := by
  refine ⟨g, _, _, by rw [List.length_drop], by rw [List.length_drop]; omega, .inr ⟨off + m, rfl, hg, fun j c hj => ?_⟩⟩
  have hlt : j < (N.drop m).length := (List.getElem?_eq_some_iff.1 hj).1
  rw [List.length_drop] at hlt
  rw [nth_at (by rw [List.length_drop]; omega), nth_drop] at hj
  cases hj
  rw [Nat.add_assoc]; exact hc (m + j) (by omega)
theorem rm_end {w : World} {a : Option Addr} {cap : Nat} {N : List Int} (m : Nat) (h : N.length ≤ m) : LN.RM w (.slice a (N.length - m) cap) (N.drop m) :=
  ⟨0, a, cap, by rw [List.length_drop], by rw [List.length_drop]; omega, .inl (List.drop_eq_nil_of_le h)⟩
/-- The legs of a row. -/
def legsOf (M : List Int) : List LG.El := (List.range (M.length / 5)).map fun j => (nth M (5 * j), nth M (5 * j + 1), nth M (5 * j + 2), nth M (5 * j + 3), nth M (5 * j + 4))
theorem legsOf_len (M : List Int) : (legsOf M).length = M.length / 5 := by simp [legsOf]
theorem legsOf_at {M : List Int} {k : Nat} (h : k < M.length / 5) : (legsOf M)[k]? = some (nth M (5 * k), nth M (5 * k + 1), nth M (5 * k + 2), nth M (5 * k + 3), nth M (5 * k + 4)) := by
  unfold legsOf; rw [List.getElem?_map, List.getElem?_range h]; rfl
theorem legsOf_take {M : List Int} {k : Nat} (h : k < M.length / 5) : (legsOf M).take (k + 1) = (legsOf M).take k ++ [(nth M (5 * k), nth M (5 * k + 1), nth M (5 * k + 2), nth M (5 * k + 3), nth M (5 * k + 4))] := by
  rw [List.take_add_one, legsOf_at h]; rfl
/-- While legs are read. -/
structure Rlegs (w W : World) (O : Nat) (id : Int) (lv : Value) (L : List LG.El) : Prop where
  box : W.heap[O]? = some (.cells #[.int .i64 0, .int .i64 0, .int .i64 0, .int .i64 0, .int .i64 0, .int .i64 id, lv, .slice none 0 0] 26 (0, 0))
  own : LG.OM W w.heap.size lv L
  low : Below w.heap.size w W
  base : w.heap.size < O
  res : W.heap[w.heap.size]? = some (.cells #[.int .i64 0, .int .i64 0, .int .i64 0, .int .i64 0, .int .i64 0, .int .i64 0, .slice none 0 0, .slice none 0 0] 26 (0, 0))
theorem Rlegs.later {w W W' : World} {O : Nat} {id : Int} {lv : Value} {L : List LG.El} (h : Rlegs w W O id lv L) (hb : Below W.heap.size W W') : Rlegs w W' O id lv L :=
  ⟨blk_later h.box hb, h.own.later hb, h.low.trans (hb.mono h.low.size), h.base, blk_later h.res hb⟩
theorem Rlegs.grow {w W W' : World} {O : Nat} {id : Int} {lv v' : Value} {L : List LG.El} {p : LG.El} (h : Rlegs w W O id lv L) (ho : LG.OM W' w.heap.size v' (L ++ [p])) (hg : W.grownBy W' lv.ownBlock) :
    Rlegs w (W'.setCell ⟨O, 6, none⟩ v') O id v' (L ++ [p]) ∧ W'.heap[O]? = some (.cells #[.int .i64 0, .int .i64 0, .int .i64 0, .int .i64 0, .int .i64 0, .int .i64 id, lv, .slice none 0 0] 26 (0, 0)) := by
  have hne : ∀ b c, W.heap[b]? = some (.cells c 26 (0, 0)) → ¬ some b = lv.ownBlock := fun b c hb e => by
    obtain ⟨c2, fz, h2⟩ := ownsRow_kind h.own b e.symm
    rw [hb] at h2
    injection h2 with h2
    injection h2 with _ h2 _
    exact absurd h2 (by decide)
  have hlt := fun b o (hb : W.heap[b]? = some o) => (Array.getElem?_eq_some_iff.1 hb).1
  have b1 := (hg.block O (hlt _ _ h.box) (hne _ _ h.box)).trans h.box
  have r1 := (hg.block w.heap.size (hlt _ _ h.res) (hne _ _ h.res)).trans h.res
  have l1 : Below w.heap.size w W' := h.low.grown hg h.low.size (fun k hk => (h.own.lt k hk).1)
  have hb := h.base
  refine ⟨⟨set_blk0 b1 6 v' rfl, owns_blk ho (fun g hgb => Below.heap_setCell _ _ _ g (fun e => ?_)), l1.setCell (p := ⟨O, 6, none⟩) (by show w.heap.size ≤ O; omega) v', h.base, (Below.heap_setCell _ _ _ w.heap.size (by show w.heap.size ≠ O; omega)).trans r1⟩, b1⟩
  obtain ⟨c2, fz, h2⟩ := ownsRow_kind ho g hgb
  rw [show g = O from e, b1] at h2
  injection h2 with h2
  injection h2 with _ h2 _
  exact absurd h2 (by decide)
set_option maxRecDepth 100000 in
set_option maxHeartbeats 4000000 in
theorem legsR_any (v : Value) (N : List Int) (w : World) (hv : LN.RM w v N) (hn : 1 ≤ N.length) (hm : (N.drop 1).length % 5 = 0) (hl : N.length ≤ 17592186044100) :
    Calls Tryz.prog 69 #[v] w fun e w' => ∃ lv, e = .returned (.agg #[.int .i64 0, .int .i64 0, .int .i64 0, .int .i64 0, .int .i64 0, .int .i64 (nth N 0), lv, .slice none 0 0]) ∧ LG.OM w' w.heap.size lv (legsOf (N.drop 1)) ∧ Below w.heap.size w w' := by
  have HI := hide (fun (W : World) (hb : Below w.heap.size w W) => identR_any v N W (hv.later hb) hn (by omega))
  obtain ⟨g0, off0, cap0, rfl, hcap0, hg0, hc0⟩ := row_some hv (by omega)
  obtain ⟨M, hM⟩ : ∃ M, N.drop 1 = M := ⟨_, rfl⟩
  have hML : M.length = N.length - 1 := by rw [← hM, List.length_drop]
  have HC1 := hide (rm_cut hg0 hcap0 hc0 1)
  have HC2 := hide (fun (a : Option Addr) (cap : Nat) (h : N.length ≤ 1) => rm_end (w := w) (a := a) (cap := cap) 1 h)
  rw [hM] at HC1 HC2 hm ⊢
  generalize nth N 0 = id at *
  clear hM hc0 hv
  obtain ⟨i0, hi, hz0, hz1, hz2⟩ := info_parts LG.Tryz.infoMk
  have HII := hide (And.intro hi (And.intro hz0 (And.intro hz1 hz2)))
  clear hi hz0 hz1 hz2
  have HB := hide ((Below.refl w.heap.size w).alloc (Nat.le_refl _) (.cells #[.int .i64 0, .int .i64 0, .int .i64 0, .int .i64 0, .int .i64 0, .int .i64 0, .slice none 0 0, .slice none 0 0] 26))
  have Z0 := hide (alloc_new w (.cells #[.int .i64 0, .int .i64 0, .int .i64 0, .int .i64 0, .int .i64 0, .int .i64 0, .slice none 0 0, .slice none 0 0] 26))
  go_enter Tryz.func69, Tryz.ntmps69
  go_wp2_with fail
  refine (HI.out _ HB.out).mono ?_
  rintro e w1 ⟨rfl, hb⟩
  have HB1 := hide (HB.out.trans (hb.mono HB.out.size))
  have Z1 := hide (blk_later Z0.out hb)
  have hs1 : w.heap.size < w1.heap.size := (Array.getElem?_eq_some_iff.1 Z1.out).1
  have HS0 : Hid (Rlegs w (w1.alloc (.cells #[.int .i64 0, .int .i64 0, .int .i64 0, .int .i64 0, .int .i64 0, .int .i64 id, .slice none 0 0, .slice none 0 0] 26)) w1.heap.size id (.slice none 0 0) ((legsOf M).take 0)) := hide ⟨alloc_new w1 _, by rw [List.take_zero]; exact LG.OM.nil _ _, HB1.out.alloc HB1.out.size _, hs1, alloc_block Z1.out⟩
  obtain ⟨O, hO⟩ : ∃ O, O = w1.heap.size := ⟨_, rfl⟩
  clear hb
  by_cases hc1 : cap0 = 1
  · have HST : Hid (LN.RM w (.slice (some ⟨g0, off0, none⟩) (N.length - 1) 0) (M.drop (5 * 0))) := hide (HC2.out _ _ (by omega))
    rw [show N.length - 1 = 0 by omega] at HST
    clear HC1 HC2
    subst hc1
    go_wp2_with fail
    generalize w1.alloc (.cells #[.int .i64 0, .int .i64 0, .int .i64 0, .int .i64 0, .int .i64 0, .int .i64 id, .slice none 0 0, .slice none 0 0] 26) = W9 at *
    rw [← hO] at HS0 ⊢
    clear hO
    go_loopw [4] (fun u wr => ∃ (k : Nat) (lv : Value), 5 * k ≤ M.length ∧ Hid (LN.RM w u (M.drop (5 * k))) ∧ Hid (Rlegs w wr O id lv ((legsOf M).take k))) (fun u _ => lenV u)
    case atStart => exact ⟨0, .slice none 0 0, by omega, HST, HS0⟩
    case round =>
      clear HST HS0
      obtain ⟨k, lv, hk, HRM, HS⟩ := hrel
      obtain ⟨DD, hDD⟩ : ∃ x, M.drop (5 * k) = x := ⟨_, rfl⟩
      have hDL : DD.length = M.length - 5 * k := by rw [← hDD, List.length_drop]
      have HNT := hide (fun j => nth_drop M (5 * k) j)
      rw [hDD] at HRM HNT
      have HDD := hide hDD
      clear hDD
      by_cases h0 : 0 < DD.length
      · exfalso; omega
      · obtain ⟨_, a, cap, rfl, _, _⟩ := HRM.out
        have hd : decide (0 < (DD.length : Int)) = false := by rw [decide_eq_false_iff_not]; omega
        have hkK : (legsOf M).take k = legsOf M := List.take_of_length_le (by rw [legsOf_len]; omega)
        rw [hkK] at HS
        obtain ⟨la, lc, hlv⟩ := LG.rm_lt HS.out.own.rm
        subst hlv
        have HBX := HS.out.box
        obtain ⟨y0, y1, y2, y3, y4, y5, y6, y7⟩ := eight_cells HBX rfl
        clear HBX
        go_wp2_with (first
          | (refine wpList_store_row rfl 26 (.tmp 2) _ rfl w.heap.size #[.int .i64 0, .int .i64 0, .int .i64 0, .int .i64 0, .int .i64 0, .int .i64 id, .slice la (legsOf M).length lc, .slice none 0 0] rfl rfl 26 _ HS.out.res ?s2 ?s3 ?s4 ?_)
          | go_in)
        case s2 => kernel_rfl
        case s3 => rfl
        case s4 => first | rfl | kernel_rfl | simp [Value.oneCell']
        refine bodyPost_ret (v := .agg #[.int .i64 0, .int .i64 0, .int .i64 0, .int .i64 0, .int .i64 0, .int .i64 id, .slice la (legsOf M).length lc, .slice none 0 0]) ?_ rfl ⟨_, rfl, ?_, below_row HS.out.low (Nat.le_refl _)⟩
        · exact results_cell_row rfl _ _ w.heap.size 26 _ (0, 0) _ rfl (setRow_heap _ _ _ _ _ _ HS.out.res) Tryz.underlying26 rfl (by kernel_rfl)
        · refine owns_blk HS.out.own (fun b hb => setRow_other _ _ _ _ (fun e => ?_))
          obtain ⟨c2, fz, h2⟩ := ownsRow_kind HS.out.own b hb
          rw [e, HS.out.res] at h2
          injection h2 with h2
          injection h2 with _ h2 _
          exact absurd h2 (by decide)
  · have HST : Hid (LN.RM w (.slice (some ⟨g0, off0 + 1, none⟩) (N.length - 1) (cap0 - 1)) (M.drop (5 * 0))) := HC1
    have hle1 : (1 : Int) ≤ (cap0 : Int) := by omega
    clear HC1 HC2
    go_wp2_with fail
    generalize w1.alloc (.cells #[.int .i64 0, .int .i64 0, .int .i64 0, .int .i64 0, .int .i64 0, .int .i64 id, .slice none 0 0, .slice none 0 0] 26) = W9 at *
    rw [← hO] at HS0 ⊢
    clear hO
    go_loopw [4] (fun u wr => ∃ (k : Nat) (lv : Value), 5 * k ≤ M.length ∧ Hid (LN.RM w u (M.drop (5 * k))) ∧ Hid (Rlegs w wr O id lv ((legsOf M).take k))) (fun u _ => lenV u)
    case atStart => exact ⟨0, .slice none 0 0, by omega, HST, HS0⟩
    case round =>
      clear HST HS0
      obtain ⟨k, lv, hk, HRM, HS⟩ := hrel
      obtain ⟨DD, hDD⟩ : ∃ x, M.drop (5 * k) = x := ⟨_, rfl⟩
      have hDL : DD.length = M.length - 5 * k := by rw [← hDD, List.length_drop]
      have HNT := hide (fun j => nth_drop M (5 * k) j)
      rw [hDD] at HRM HNT
      have HDD := hide hDD
      clear hDD
      by_cases h0 : 0 < DD.length
      · have hkK : k < M.length / 5 := by omega
        have h5 : 5 ≤ DD.length := by omega
        obtain ⟨g, off, cap, rfl, hcap, hg, hc⟩ := row_some HRM.out h0
        have HCUT := hide (rm_cut hg hcap hc 5)
        have HEND := hide (fun (a : Option Addr) (cap : Nat) (h : DD.length ≤ 5) => rm_end (w := w) (a := a) (cap := cap) 5 h)
        have HTK := hide (legsOf_take hkK)
        have HNX : Hid (DD.drop 5 = M.drop (5 * (k + 1))) := hide (by rw [← HDD.out, List.drop_drop]; congr 1)
        rw [HNX.out] at HCUT HEND
        have e0 := hc 0 (by omega)
        rw [HNT.out] at e0
        have e1 := hc 1 (by omega)
        rw [HNT.out] at e1
        have e2 := hc 2 (by omega)
        rw [HNT.out] at e2
        have e3 := hc 3 (by omega)
        rw [HNT.out] at e3
        have e4 := hc 4 (by omega)
        rw [HNT.out] at e4
        rw [Nat.add_zero] at e0
        generalize nth M (5 * k) = a0 at *
        generalize nth M (5 * k + 1) = a1 at *
        generalize nth M (5 * k + 2) = a2 at *
        generalize nth M (5 * k + 3) = a3 at *
        generalize nth M (5 * k + 4) = a4 at *
        have HDL := hide hDL
        clear hDL
        have HG := hide hg
        have HLn := hide (legsOf_len M)
        have hlen : ((legsOf M).take k).length = k := by rw [List.length_take, legsOf_len]; omega
        generalize (legsOf M).take k = L at *
        clear hc hg HRM
        obtain ⟨la, lc, hlv⟩ := LG.rm_lt HS.out.own.rm
        rw [hlen] at hlv
        subst hlv
        have hd : decide (0 < (DD.length : Int)) = true := by rw [decide_eq_true_eq]; omega
        have kk0 : (0 : Int) < (DD.length : Int) := by omega
        have kk1 : (1 : Int) < (DD.length : Int) := by omega
        have kk2 : (2 : Int) < (DD.length : Int) := by omega
        have kk3 : (3 : Int) < (DD.length : Int) := by omega
        have kk4 : (4 : Int) < (DD.length : Int) := by omega
        have hS0 : wr.cell? ⟨O, 6, none⟩ = some (.slice la k lc) ∧ wr.cell? ⟨g, off, none⟩ = some (.int .i64 a0) ∧ wr.cell? ⟨g, off + 1, none⟩ = some (.int .i64 a1) ∧ wr.cell? ⟨g, off + 2, none⟩ = some (.int .i64 a2) ∧ wr.cell? ⟨g, off + 3, none⟩ = some (.int .i64 a3) ∧ wr.cell? ⟨g, off + 4, none⟩ = some (.int .i64 a4) := ⟨by rw [cell_of_row _ _ 6 _ _ _ HS.out.box]; rfl, (HS.out.low.cell (p := ⟨g, _, none⟩) HG.out).trans e0, (HS.out.low.cell (p := ⟨g, _, none⟩) HG.out).trans e1, (HS.out.low.cell (p := ⟨g, _, none⟩) HG.out).trans e2, (HS.out.low.cell (p := ⟨g, _, none⟩) HG.out).trans e3, (HS.out.low.cell (p := ⟨g, _, none⟩) HG.out).trans e4⟩
        go_wp2_with fail
        refine z_begins (S := fun W => W.cell? ⟨O, 6, none⟩ = some (.slice la k lc) ∧ W.cell? ⟨g, off, none⟩ = some (.int .i64 a0) ∧ W.cell? ⟨g, off + 1, none⟩ = some (.int .i64 a1) ∧ W.cell? ⟨g, off + 2, none⟩ = some (.int .i64 a2) ∧ W.cell? ⟨g, off + 3, none⟩ = some (.int .i64 a3) ∧ W.cell? ⟨g, off + 4, none⟩ = some (.int .i64 a4)) 21 22 #[false, false, false, false, false, false, false, false, false, false, false, false, false, false, false, false, false, false, false, false, false, false] (by kernel_rfl) (by kernel_rfl) (by kernel_rfl) hS0 (fun hHeld => ?_)
        refine zk (v := ?_) 0 14 #[true, false, false, false, false, false, false, false, false, false, false, false, false, false, false, false, false, false, false, false, false, false] rfl rfl (by kernel_rfl) (by kernel_rfl) (by kernel_rfl) (by kernel_rfl) (fun _ _ _ h => h) (by kernel_rfl) (by rfl) ?hy hHeld ?_
        case hy => rintro W ⟨q0, q1, q2, q3, q4, q5⟩; first | (go_simp; done) | (go_simp; with_reducible rfl)
        simp only [List.setIfInBounds_toArray, List.set_cons_zero, List.set_cons_succ]
        refine zk (v := ?_) 1 15 #[true, true, false, false, false, false, false, false, false, false, false, false, false, false, false, false, false, false, false, false, false, false] rfl rfl (by kernel_rfl) (by kernel_rfl) (by kernel_rfl) (by kernel_rfl) (fun _ _ _ h => h) (by kernel_rfl) (by rfl) ?hy hHeld ?_
        case hy => rintro W ⟨q0, q1, q2, q3, q4, q5⟩; first | (go_simp; done) | (go_simp; with_reducible rfl)
        simp only [List.setIfInBounds_toArray, List.set_cons_zero, List.set_cons_succ]
        refine zk (v := ?_) 2 16 #[true, true, true, false, false, false, false, false, false, false, false, false, false, false, false, false, false, false, false, false, false, false] rfl rfl (by kernel_rfl) (by kernel_rfl) (by kernel_rfl) (by kernel_rfl) (fun _ _ _ h => h) (by kernel_rfl) (by rfl) ?hy hHeld ?_
        case hy => rintro W ⟨q0, q1, q2, q3, q4, q5⟩; first | (go_simp; done) | (go_simp; with_reducible rfl)
        simp only [List.setIfInBounds_toArray, List.set_cons_zero, List.set_cons_succ]
        refine zk (v := ?_) 3 17 #[true, true, true, true, false, false, false, false, false, false, false, false, false, false, false, false, false, false, false, false, false, false] rfl rfl (by kernel_rfl) (by kernel_rfl) (by kernel_rfl) (by kernel_rfl) (fun _ _ _ h => h) (by kernel_rfl) (by rfl) ?hy hHeld ?_
        case hy => rintro W ⟨q0, q1, q2, q3, q4, q5⟩; first | (go_simp; done) | (go_simp; with_reducible rfl)
        simp only [List.setIfInBounds_toArray, List.set_cons_zero, List.set_cons_succ]
        refine zk (v := ?_) 4 18 #[true, true, true, true, true, false, false, false, false, false, false, false, false, false, false, false, false, false, false, false, false, false] rfl rfl (by kernel_rfl) (by kernel_rfl) (by kernel_rfl) (by kernel_rfl) (fun _ _ _ h => h) (by kernel_rfl) (by rfl) ?hy hHeld ?_
        case hy => rintro W ⟨q0, q1, q2, q3, q4, q5⟩; first | (go_simp; done) | (go_simp; with_reducible rfl)
        simp only [List.setIfInBounds_toArray, List.set_cons_zero, List.set_cons_succ]
        refine zk (v := ?_) 5 19 #[true, true, true, true, true, true, false, false, false, false, false, false, false, false, false, false, false, false, false, false, false, false] rfl rfl (by kernel_rfl) (by kernel_rfl) (by kernel_rfl) (by kernel_rfl) (fun _ _ _ h => h) (by kernel_rfl) (by rfl) ?hy hHeld ?_
        case hy => rintro W ⟨q0, q1, q2, q3, q4, q5⟩; first | (go_simp; done) | (go_simp; with_reducible rfl)
        simp only [List.setIfInBounds_toArray, List.set_cons_zero, List.set_cons_succ]
        refine zk (v := ?_) 6 20 #[true, true, true, true, true, true, true, false, false, false, false, false, false, false, false, false, false, false, false, false, false, false] rfl rfl (by kernel_rfl) (by kernel_rfl) (by kernel_rfl) (by kernel_rfl) (fun _ _ _ h => h) (by kernel_rfl) (by rfl) ?hy hHeld ?_
        case hy => rintro W ⟨q0, q1, q2, q3, q4, q5⟩; first | (go_simp; done) | (go_simp; with_reducible rfl)
        simp only [List.setIfInBounds_toArray, List.set_cons_zero, List.set_cons_succ]
        refine zk (v := ?_) 7 21 #[true, true, true, true, true, true, true, true, false, false, false, false, false, false, false, false, false, false, false, false, false, false] rfl rfl (by kernel_rfl) (by kernel_rfl) (by kernel_rfl) (by kernel_rfl) (fun _ _ _ h => h) (by kernel_rfl) (by rfl) ?hy hHeld ?_
        case hy => rintro W ⟨q0, q1, q2, q3, q4, q5⟩; first | (go_simp; done) | (go_simp; with_reducible rfl)
        simp only [List.setIfInBounds_toArray, List.set_cons_zero, List.set_cons_succ]
        refine zk (v := ?_) 8 22 #[true, true, true, true, true, true, true, true, true, false, false, false, false, false, false, false, false, false, false, false, false, false] rfl rfl (by kernel_rfl) (by kernel_rfl) (by kernel_rfl) (by kernel_rfl) (fun _ _ _ h => h) (by kernel_rfl) (by rfl) ?hy hHeld ?_
        case hy => rintro W ⟨q0, q1, q2, q3, q4, q5⟩; first | (go_simp; done) | (go_simp; with_reducible rfl)
        simp only [List.setIfInBounds_toArray, List.set_cons_zero, List.set_cons_succ]
        refine zk (v := ?_) 9 23 #[true, true, true, true, true, true, true, true, true, true, false, false, false, false, false, false, false, false, false, false, false, false] rfl rfl (by kernel_rfl) (by kernel_rfl) (by kernel_rfl) (by kernel_rfl) (fun _ _ _ h => h) (by kernel_rfl) (by rfl) ?hy hHeld ?_
        case hy => rintro W ⟨q0, q1, q2, q3, q4, q5⟩; first | (go_simp; done) | (go_simp; with_reducible rfl)
        simp only [List.setIfInBounds_toArray, List.set_cons_zero, List.set_cons_succ]
        refine zk (v := ?_) 10 24 #[true, true, true, true, true, true, true, true, true, true, true, false, false, false, false, false, false, false, false, false, false, false] rfl rfl (by kernel_rfl) (by kernel_rfl) (by kernel_rfl) (by kernel_rfl) (fun _ _ _ h => h) (by kernel_rfl) (by rfl) ?hy hHeld ?_
        case hy => rintro W ⟨q0, q1, q2, q3, q4, q5⟩; first | (go_simp; done) | (go_simp; with_reducible rfl)
        simp only [List.setIfInBounds_toArray, List.set_cons_zero, List.set_cons_succ]
        refine zk (v := ?_) 11 25 #[true, true, true, true, true, true, true, true, true, true, true, true, false, false, false, false, false, false, false, false, false, false] rfl rfl (by kernel_rfl) (by kernel_rfl) (by kernel_rfl) (by kernel_rfl) (fun _ _ _ h => h) (by kernel_rfl) (by rfl) ?hy hHeld ?_
        case hy => rintro W ⟨q0, q1, q2, q3, q4, q5⟩; first | (go_simp; done) | (go_simp; with_reducible rfl)
        simp only [List.setIfInBounds_toArray, List.set_cons_zero, List.set_cons_succ]
        refine zk (v := ?_) 12 26 #[true, true, true, true, true, true, true, true, true, true, true, true, true, false, false, false, false, false, false, false, false, false] rfl rfl (by kernel_rfl) (by kernel_rfl) (by kernel_rfl) (by kernel_rfl) (fun _ _ _ h => h) (by kernel_rfl) (by rfl) ?hy hHeld ?_
        case hy => rintro W ⟨q0, q1, q2, q3, q4, q5⟩; first | (go_simp; done) | (go_simp; with_reducible rfl)
        simp only [List.setIfInBounds_toArray, List.set_cons_zero, List.set_cons_succ]
        refine zk (v := ?_) 13 27 #[true, true, true, true, true, true, true, true, true, true, true, true, true, true, false, false, false, false, false, false, false, false] rfl rfl (by kernel_rfl) (by kernel_rfl) (by kernel_rfl) (by kernel_rfl) (fun _ _ _ h => h) (by kernel_rfl) (by rfl) ?hy hHeld ?_
        case hy => rintro W ⟨q0, q1, q2, q3, q4, q5⟩; first | (go_simp; done) | (go_simp; with_reducible rfl)
        simp only [List.setIfInBounds_toArray, List.set_cons_zero, List.set_cons_succ]
        refine zk (v := ?_) 14 28 #[true, true, true, true, true, true, true, true, true, true, true, true, true, true, true, false, false, false, false, false, false, false] rfl rfl (by kernel_rfl) (by kernel_rfl) (by kernel_rfl) (by kernel_rfl) (fun _ _ _ h => h) (by kernel_rfl) (by rfl) ?hy hHeld ?_
        case hy => rintro W ⟨q0, q1, q2, q3, q4, q5⟩; first | (go_simp; done) | (go_simp; with_reducible rfl)
        simp only [List.setIfInBounds_toArray, List.set_cons_zero, List.set_cons_succ]
        refine zk (v := ?_) 15 29 #[true, true, true, true, true, true, true, true, true, true, true, true, true, true, true, true, false, false, false, false, false, false] rfl rfl (by kernel_rfl) (by kernel_rfl) (by kernel_rfl) (by kernel_rfl) (fun _ _ _ h => h) (by kernel_rfl) (by rfl) ?hy hHeld ?_
        case hy => rintro W ⟨q0, q1, q2, q3, q4, q5⟩; first | (go_simp; done) | (go_simp; with_reducible rfl)
        simp only [List.setIfInBounds_toArray, List.set_cons_zero, List.set_cons_succ]
        refine zk (v := ?_) 16 30 #[true, true, true, true, true, true, true, true, true, true, true, true, true, true, true, true, true, false, false, false, false, false] rfl rfl (by kernel_rfl) (by kernel_rfl) (by kernel_rfl) (by kernel_rfl) (fun _ _ _ h => h) (by kernel_rfl) (by rfl) ?hy hHeld ?_
        case hy => rintro W ⟨q0, q1, q2, q3, q4, q5⟩; first | (go_simp; done) | (go_simp; with_reducible rfl)
        simp only [List.setIfInBounds_toArray, List.set_cons_zero, List.set_cons_succ]
        refine zk (v := ?_) 17 31 #[true, true, true, true, true, true, true, true, true, true, true, true, true, true, true, true, true, true, false, false, false, false] rfl rfl (by kernel_rfl) (by kernel_rfl) (by kernel_rfl) (by kernel_rfl) (fun _ _ _ h => h) (by kernel_rfl) (by rfl) ?hy hHeld ?_
        case hy => rintro W ⟨q0, q1, q2, q3, q4, q5⟩; first | (go_simp; done) | (go_simp; with_reducible rfl)
        simp only [List.setIfInBounds_toArray, List.set_cons_zero, List.set_cons_succ]
        have HS8 := hide (HS.out.later drew_below)
        obtain ⟨W3, hW3⟩ : ∃ W3, wr.drew.alloc (.cells #[.int .i64 a0, .int .i64 a1, .int .i64 a2, .int .i64 a3, .int .i64 a4] 38) = W3 := ⟨_, rfl⟩
        have b3 : Below wr.drew.heap.size wr.drew W3 := by rw [← hW3]; exact (Below.refl _ _).alloc (Nat.le_refl _) _
        have HS3 := hide (HS8.out.later b3)
        have HN3 : Hid (∀ j u, ([.int .i64 a0, .int .i64 a1, .int .i64 a2, .int .i64 a3, .int .i64 a4] : List Value)[j]? = some u → W3.cell? ((⟨wr.heap.size, 0, none⟩ : Addr).add j) = some u) := hide (fun j u hj => by
          rw [← hW3, Addr.add_lit, show wr.heap.size = wr.drew.heap.size from rfl, cell_of_row _ wr.drew.heap.size _ _ _ _ (alloc_new wr.drew _)]
          match j, hj with
          | 0, hj => cases hj; rfl
          | 1, hj => cases hj; rfl
          | 2, hj => cases hj; rfl
          | 3, hj => cases hj; rfl
          | 4, hj => cases hj; rfl)
        have HSS3 : Hid (W3.cell? ⟨O, 6, none⟩ = some (.slice la k lc) ∧ W3.cell? ⟨g, off, none⟩ = some (.int .i64 a0) ∧ W3.cell? ⟨g, off + 1, none⟩ = some (.int .i64 a1) ∧ W3.cell? ⟨g, off + 2, none⟩ = some (.int .i64 a2) ∧ W3.cell? ⟨g, off + 3, none⟩ = some (.int .i64 a3) ∧ W3.cell? ⟨g, off + 4, none⟩ = some (.int .i64 a4)) := hide ⟨by rw [cell_of_row _ _ 6 _ _ _ HS3.out.box]; rfl, (HS3.out.low.cell (p := ⟨g, _, none⟩) HG.out).trans e0, (HS3.out.low.cell (p := ⟨g, _, none⟩) HG.out).trans e1, (HS3.out.low.cell (p := ⟨g, _, none⟩) HG.out).trans e2, (HS3.out.low.cell (p := ⟨g, _, none⟩) HG.out).trans e3, (HS3.out.low.cell (p := ⟨g, _, none⟩) HG.out).trans e4⟩
        refine z_ready 18 #[true, true, true, true, true, true, true, true, true, true, true, true, true, true, true, true, true, true, true, false, false, false] rfl (by kernel_rfl) (by kernel_rfl) (by rfl) (fun K hK => ?_)
        go_simp
        refine hK.out _ _ (fun _ => HSS3.out) (fun hHeld => ?_)
        clear hK K
        have ho3 := HS3.out.own
        unfold LG.OM at ho3
        rw [hlen] at ho3
        obtain ⟨v9, w9, hrun, hO9, hg9, _⟩ := run_append_own (P := Tryz.prog) W3 w.heap.size 23 23 38 i0 _ 5 40 Tryz.underlying23 HII.out.1 HII.out.2.1 HII.out.2.2.1 HII.out.2.2.2 rfl (by decide) (.slice la k lc) k (LG.mc L) ho3 ⟨wr.heap.size, 0, none⟩ 1 1 [.int .i64 a0, .int .i64 a1, .int .i64 a2, .int .i64 a3, .int .i64 a4] rfl HN3.out (by intro u hu; simp at hu; rcases hu with rfl | rfl | rfl | rfl | rfl <;> rfl) (by unfold maxLen; omega) (by omega) HS3.out.low.size
        have hO9' : LG.OM w9 w.heap.size v9 (L ++ [(a0, a1, a2, a3, a4)]) := by
          unfold LG.OM
          rw [List.length_append, hlen, LG.mc_app]; exact hO9
        obtain ⟨va, vc, hv9⟩ := LG.rm_lt hO9'.rm
        rw [List.length_append, hlen, List.length_singleton] at hv9
        have HE := hide (HS3.out.grow hO9' hg9)
        have HRUN := hide hrun
        refine z_ready 19 #[true, true, true, true, true, true, true, true, true, true, true, true, true, true, true, true, true, true, true, true, false, false] rfl (by kernel_rfl) (by kernel_rfl) (by rfl) (fun K hK => ?_)
        refine op_append_gen _ _ rfl (.slice la k lc) ⟨wr.heap.size, 0, none⟩ 1 1 rfl rfl _ w9 HRUN.out ?_
        simp only [Act.put, List.setIfInBounds_toArray]
        have HL9 : Below w.heap.size w w9 := HS3.out.low.grown hg9 HS3.out.low.size (fun k hk => (ho3.lt k hk).1)
        have HSS9 : Hid (w9.cell? ⟨O, 6, none⟩ = some (.slice la k lc) ∧ w9.cell? ⟨g, off, none⟩ = some (.int .i64 a0) ∧ w9.cell? ⟨g, off + 1, none⟩ = some (.int .i64 a1) ∧ w9.cell? ⟨g, off + 2, none⟩ = some (.int .i64 a2) ∧ w9.cell? ⟨g, off + 3, none⟩ = some (.int .i64 a3) ∧ w9.cell? ⟨g, off + 4, none⟩ = some (.int .i64 a4)) := hide ⟨by rw [cell_of_row _ _ 6 _ _ _ HE.out.2]; rfl, (HL9.cell (p := ⟨g, _, none⟩) HG.out).trans e0, (HL9.cell (p := ⟨g, _, none⟩) HG.out).trans e1, (HL9.cell (p := ⟨g, _, none⟩) HG.out).trans e2, (HL9.cell (p := ⟨g, _, none⟩) HG.out).trans e3, (HL9.cell (p := ⟨g, _, none⟩) HG.out).trans e4⟩
        refine hK.out _ _ (fun _ => HSS9.out) (fun hHeld => ?_)
        clear hK K
        refine z_ready 20 #[true, true, true, true, true, true, true, true, true, true, true, true, true, true, true, true, true, true, true, true, true, false] rfl (by kernel_rfl) (by kernel_rfl) (by rfl) (fun K hK => ?_)
        go_simp
        refine hK.out _ _ (fun _ => HSS9.out) (fun hHeld => ?_)
        clear hK K
        have f9 := no_froz0 HE.out.2 6
        have c9 : w9.cell? ⟨O, 6, none⟩ = some (.slice la k lc) := HSS9.out.1
        subst hv9
        refine z_ready 21 #[true, true, true, true, true, true, true, true, true, true, true, true, true, true, true, true, true, true, true, true, true, true] rfl (by kernel_rfl) (by kernel_rfl) (by rfl) (fun K hK => ?_)
        go_simp
        refine hK.out _ _ (fun h => absurd rfl h) (fun _ => ?_)
        clear hK K
        refine z_done (by kernel_rfl) ?_ _
        have HE2 := hide HE.out.1
        rw [← HTK.out] at HE2
        clear hO9 hO9' hg9 hrun HRUN HSS9 HSS3 HN3 HS3 HS8 hW3 b3 ho3 HL9 HE hHeld hS0 f9 c9 HS HTK e0 e1 e2 e3 e4
        by_cases hcc : cap = 5
        · have hD5 : DD.length = 5 := by omega
          have HX := hide (HEND.out (some ⟨g, off, none⟩) 0 (by omega))
          rw [show DD.length - 5 = 0 by omega] at HX
          have hmm : DD.length - 5 < DD.length := by omega
          clear HCUT HEND
          subst hcc
          go_wp2_with fail
          go_roundw
          case rel => exact ⟨k + 1, _, by have := HDL.out; omega, HX, HE2⟩
          case measure => simp [lenV]; omega
        · have HX := HCUT
          have hle : (5 : Int) ≤ (cap : Int) := by omega
          clear HCUT HEND
          go_wp2_with fail
          go_roundw
          case rel => exact ⟨k + 1, _, by have := HDL.out; omega, HX, HE2⟩
          case measure => simp [lenV]; omega
      · obtain ⟨_, a, cap, rfl, _, _⟩ := HRM.out
        have hd : decide (0 < (DD.length : Int)) = false := by rw [decide_eq_false_iff_not]; omega
        have hkK : (legsOf M).take k = legsOf M := List.take_of_length_le (by rw [legsOf_len]; omega)
        rw [hkK] at HS
        obtain ⟨la, lc, hlv⟩ := LG.rm_lt HS.out.own.rm
        subst hlv
        have HBX := HS.out.box
        obtain ⟨y0, y1, y2, y3, y4, y5, y6, y7⟩ := eight_cells HBX rfl
        clear HBX
        go_wp2_with (first
          | (refine wpList_store_row rfl 26 (.tmp 2) _ rfl w.heap.size #[.int .i64 0, .int .i64 0, .int .i64 0, .int .i64 0, .int .i64 0, .int .i64 id, .slice la (legsOf M).length lc, .slice none 0 0] rfl rfl 26 _ HS.out.res ?s2 ?s3 ?s4 ?_)
          | go_in)
        case s2 => kernel_rfl
        case s3 => rfl
        case s4 => first | rfl | kernel_rfl | simp [Value.oneCell']
        refine bodyPost_ret (v := .agg #[.int .i64 0, .int .i64 0, .int .i64 0, .int .i64 0, .int .i64 0, .int .i64 id, .slice la (legsOf M).length lc, .slice none 0 0]) ?_ rfl ⟨_, rfl, ?_, below_row HS.out.low (Nat.le_refl _)⟩
        · exact results_cell_row rfl _ _ w.heap.size 26 _ (0, 0) _ rfl (setRow_heap _ _ _ _ _ _ HS.out.res) Tryz.underlying26 rfl (by kernel_rfl)
        · refine owns_blk HS.out.own (fun b hb => setRow_other _ _ _ _ (fun e => ?_))
          obtain ⟨c2, fz, h2⟩ := ownsRow_kind HS.out.own b hb
          rw [e, HS.out.res] at h2
          injection h2 with h2
          injection h2 with _ h2 _
          exact absurd h2 (by decide)
/-- The keys of a row. -/
def keysOf (M : List Int) : List KY.El := (List.range (M.length / 2)).map fun j => (nth M (2 * j), nth M (2 * j + 1))
theorem keysOf_len (M : List Int) : (keysOf M).length = M.length / 2 := by simp [keysOf]
theorem keysOf_at {M : List Int} {k : Nat} (h : k < M.length / 2) : (keysOf M)[k]? = some (nth M (2 * k), nth M (2 * k + 1)) := by
  unfold keysOf; rw [List.getElem?_map, List.getElem?_range h]; rfl
theorem keysOf_take {M : List Int} {k : Nat} (h : k < M.length / 2) : (keysOf M).take (k + 1) = (keysOf M).take k ++ [(nth M (2 * k), nth M (2 * k + 1))] := by
  rw [List.take_add_one, keysOf_at h]; rfl
/-- While keys are read. -/
structure Rkeys (w W : World) (O : Nat) (lv : Value) (L : List KY.El) : Prop where
  box : W.heap[O]? = some (.cells #[.int .i64 0, .int .i64 0, .int .i64 0, .int .i64 0, .int .i64 0, .int .i64 0, .slice none 0 0, lv] 26 (0, 0))
  own : KY.OM W w.heap.size lv L
  low : Below w.heap.size w W
  base : w.heap.size < O
  res : W.heap[w.heap.size]? = some (.cells #[.int .i64 0, .int .i64 0, .int .i64 0, .int .i64 0, .int .i64 0, .int .i64 0, .slice none 0 0, .slice none 0 0] 26 (0, 0))
theorem Rkeys.later {w W W' : World} {O : Nat} {lv : Value} {L : List KY.El} (h : Rkeys w W O lv L) (hb : Below W.heap.size W W') : Rkeys w W' O lv L :=
  ⟨blk_later h.box hb, h.own.later hb, h.low.trans (hb.mono h.low.size), h.base, blk_later h.res hb⟩
theorem Rkeys.grow {w W W' : World} {O : Nat} {lv v' : Value} {L : List KY.El} {p : KY.El} (h : Rkeys w W O lv L) (ho : KY.OM W' w.heap.size v' (L ++ [p])) (hg : W.grownBy W' lv.ownBlock) :
    Rkeys w (W'.setCell ⟨O, 7, none⟩ v') O v' (L ++ [p]) ∧ W'.heap[O]? = some (.cells #[.int .i64 0, .int .i64 0, .int .i64 0, .int .i64 0, .int .i64 0, .int .i64 0, .slice none 0 0, lv] 26 (0, 0)) := by
  have hne : ∀ b c, W.heap[b]? = some (.cells c 26 (0, 0)) → ¬ some b = lv.ownBlock := fun b c hb e => by
    obtain ⟨c2, fz, h2⟩ := ownsRow_kind h.own b e.symm
    rw [hb] at h2
    injection h2 with h2
    injection h2 with _ h2 _
    exact absurd h2 (by decide)
  have hlt := fun b o (hb : W.heap[b]? = some o) => (Array.getElem?_eq_some_iff.1 hb).1
  have b1 := (hg.block O (hlt _ _ h.box) (hne _ _ h.box)).trans h.box
  have r1 := (hg.block w.heap.size (hlt _ _ h.res) (hne _ _ h.res)).trans h.res
  have l1 : Below w.heap.size w W' := h.low.grown hg h.low.size (fun k hk => (h.own.lt k hk).1)
  have hb := h.base
  refine ⟨⟨set_blk0 b1 7 v' rfl, owns_blk ho (fun g hgb => Below.heap_setCell _ _ _ g (fun e => ?_)), l1.setCell (p := ⟨O, 7, none⟩) (by show w.heap.size ≤ O; omega) v', h.base, (Below.heap_setCell _ _ _ w.heap.size (by show w.heap.size ≠ O; omega)).trans r1⟩, b1⟩
  obtain ⟨c2, fz, h2⟩ := ownsRow_kind ho g hgb
  rw [show g = O from e, b1] at h2
  injection h2 with h2
  injection h2 with _ h2 _
  exact absurd h2 (by decide)
set_option maxRecDepth 100000 in
set_option maxHeartbeats 4000000 in
theorem keysR_any (v : Value) (N : List Int) (w : World) (hv : LN.RM w v N) (hm : N.length % 2 = 0) (hl : N.length ≤ 17592186044100) :
    Calls Tryz.prog 75 #[v] w fun e w' => ∃ lv, e = .returned (.agg #[.int .i64 0, .int .i64 0, .int .i64 0, .int .i64 0, .int .i64 0, .int .i64 0, .slice none 0 0, lv]) ∧ KY.OM w' w.heap.size lv (keysOf N) ∧ Below w.heap.size w w' := by
  obtain ⟨M, hM⟩ : ∃ M, N = M := ⟨_, rfl⟩
  rw [hM] at hv hm hl ⊢
  clear hM N
  have hML : M.length ≤ 17592186044100 := hl
  obtain ⟨i0, hi, hz0, hz1, hz2⟩ := info_parts KY.Tryz.infoMk
  have HII := hide (And.intro hi (And.intro hz0 (And.intro hz1 hz2)))
  clear hi hz0 hz1 hz2
  have HB := hide ((Below.refl w.heap.size w).alloc (Nat.le_refl _) (.cells #[.int .i64 0, .int .i64 0, .int .i64 0, .int .i64 0, .int .i64 0, .int .i64 0, .slice none 0 0, .slice none 0 0] 26))
  have Z0 := hide (alloc_new w (.cells #[.int .i64 0, .int .i64 0, .int .i64 0, .int .i64 0, .int .i64 0, .int .i64 0, .slice none 0 0, .slice none 0 0] 26))
  have HST0 := hide hv
  obtain ⟨_, a0, cap0, rfl, _, _⟩ := hv
  have Z1 := hide (two_new w (.cells #[.int .i64 0, .int .i64 0, .int .i64 0, .int .i64 0, .int .i64 0, .int .i64 0, .slice none 0 0, .slice none 0 0] 26) (.cells #[.int .i64 0, .int .i64 0, .int .i64 0, .int .i64 0, .int .i64 0, .int .i64 0, .slice none 0 0, .slice none 0 0] 26))
  have HS0 : Hid (Rkeys w ((w.alloc (.cells #[.int .i64 0, .int .i64 0, .int .i64 0, .int .i64 0, .int .i64 0, .int .i64 0, .slice none 0 0, .slice none 0 0] 26)).alloc (.cells #[.int .i64 0, .int .i64 0, .int .i64 0, .int .i64 0, .int .i64 0, .int .i64 0, .slice none 0 0, .slice none 0 0] 26)) (w.heap.size + 1) (.slice none 0 0) ((keysOf M).take 0)) := hide ⟨Z1.out.2, by rw [List.take_zero]; exact KY.OM.nil _ _, two_below w _ _, by omega, Z1.out.1⟩
  have HST : Hid (LN.RM w (.slice a0 M.length cap0) (M.drop (2 * 0))) := HST0
  go_enter Tryz.func75, Tryz.ntmps75
  go_wp2_with fail
  generalize (w.alloc (.cells #[.int .i64 0, .int .i64 0, .int .i64 0, .int .i64 0, .int .i64 0, .int .i64 0, .slice none 0 0, .slice none 0 0] 26)).alloc (.cells #[.int .i64 0, .int .i64 0, .int .i64 0, .int .i64 0, .int .i64 0, .int .i64 0, .slice none 0 0, .slice none 0 0] 26) = W9 at *
  obtain ⟨O, hO⟩ : ∃ O, O = w.heap.size + 1 := ⟨_, rfl⟩
  rw [← hO] at HS0 ⊢
  clear hO
  go_loopw [4] (fun u wr => ∃ (k : Nat) (lv : Value), 2 * k ≤ M.length ∧ Hid (LN.RM w u (M.drop (2 * k))) ∧ Hid (Rkeys w wr O lv ((keysOf M).take k))) (fun u _ => lenV u)
  case atStart => exact ⟨0, .slice none 0 0, by omega, HST, HS0⟩
  case round =>
    clear HST HS0
    obtain ⟨k, lv, hk, HRM, HS⟩ := hrel
    obtain ⟨DD, hDD⟩ : ∃ x, M.drop (2 * k) = x := ⟨_, rfl⟩
    have hDL : DD.length = M.length - 2 * k := by rw [← hDD, List.length_drop]
    have HNT := hide (fun j => nth_drop M (2 * k) j)
    rw [hDD] at HRM HNT
    have HDD := hide hDD
    clear hDD
    by_cases h0 : 0 < DD.length
    · have hkK : k < M.length / 2 := by omega
      have h5 : 2 ≤ DD.length := by omega
      obtain ⟨g, off, cap, rfl, hcap, hg, hc⟩ := row_some HRM.out h0
      have HCUT := hide (rm_cut hg hcap hc 2)
      have HEND := hide (fun (a : Option Addr) (cap : Nat) (h : DD.length ≤ 2) => rm_end (w := w) (a := a) (cap := cap) 2 h)
      have HTK := hide (keysOf_take hkK)
      have HNX : Hid (DD.drop 2 = M.drop (2 * (k + 1))) := hide (by rw [← HDD.out, List.drop_drop]; congr 1)
      rw [HNX.out] at HCUT HEND
      have e0 := hc 0 (by omega)
      rw [HNT.out] at e0
      have e1 := hc 1 (by omega)
      rw [HNT.out] at e1
      rw [Nat.add_zero] at e0
      generalize nth M (2 * k) = a0 at *
      generalize nth M (2 * k + 1) = a1 at *
      have HDL := hide hDL
      clear hDL
      have HG := hide hg
      have HLn := hide (keysOf_len M)
      have hlen : ((keysOf M).take k).length = k := by rw [List.length_take, keysOf_len]; omega
      generalize (keysOf M).take k = L at *
      clear hc hg HRM
      obtain ⟨la, lc, hlv⟩ := KY.rm_lt HS.out.own.rm
      rw [hlen] at hlv
      subst hlv
      have hd : decide (0 < (DD.length : Int)) = true := by rw [decide_eq_true_eq]; omega
      have kk0 : (0 : Int) < (DD.length : Int) := by omega
      have kk1 : (1 : Int) < (DD.length : Int) := by omega
      have hS0 : wr.cell? ⟨O, 7, none⟩ = some (.slice la k lc) ∧ wr.cell? ⟨g, off, none⟩ = some (.int .i64 a0) ∧ wr.cell? ⟨g, off + 1, none⟩ = some (.int .i64 a1) := ⟨by rw [cell_of_row _ _ 7 _ _ _ HS.out.box]; rfl, (HS.out.low.cell (p := ⟨g, _, none⟩) HG.out).trans e0, (HS.out.low.cell (p := ⟨g, _, none⟩) HG.out).trans e1⟩
      go_wp2_with fail
      refine z_begins (S := fun W => W.cell? ⟨O, 7, none⟩ = some (.slice la k lc) ∧ W.cell? ⟨g, off, none⟩ = some (.int .i64 a0) ∧ W.cell? ⟨g, off + 1, none⟩ = some (.int .i64 a1)) 12 13 #[false, false, false, false, false, false, false, false, false, false, false, false, false] (by kernel_rfl) (by kernel_rfl) (by kernel_rfl) hS0 (fun hHeld => ?_)
      refine zk (v := ?_) 0 11 #[true, false, false, false, false, false, false, false, false, false, false, false, false] rfl rfl (by kernel_rfl) (by kernel_rfl) (by kernel_rfl) (by kernel_rfl) (fun _ _ _ h => h) (by kernel_rfl) (by rfl) ?hy hHeld ?_
      case hy => rintro W ⟨q0, q1, q2⟩; first | (go_simp; done) | (go_simp; with_reducible rfl)
      simp only [List.setIfInBounds_toArray, List.set_cons_zero, List.set_cons_succ]
      refine zk (v := ?_) 1 12 #[true, true, false, false, false, false, false, false, false, false, false, false, false] rfl rfl (by kernel_rfl) (by kernel_rfl) (by kernel_rfl) (by kernel_rfl) (fun _ _ _ h => h) (by kernel_rfl) (by rfl) ?hy hHeld ?_
      case hy => rintro W ⟨q0, q1, q2⟩; first | (go_simp; done) | (go_simp; with_reducible rfl)
      simp only [List.setIfInBounds_toArray, List.set_cons_zero, List.set_cons_succ]
      refine zk (v := ?_) 2 13 #[true, true, true, false, false, false, false, false, false, false, false, false, false] rfl rfl (by kernel_rfl) (by kernel_rfl) (by kernel_rfl) (by kernel_rfl) (fun _ _ _ h => h) (by kernel_rfl) (by rfl) ?hy hHeld ?_
      case hy => rintro W ⟨q0, q1, q2⟩; first | (go_simp; done) | (go_simp; with_reducible rfl)
      simp only [List.setIfInBounds_toArray, List.set_cons_zero, List.set_cons_succ]
      refine zk (v := ?_) 3 14 #[true, true, true, true, false, false, false, false, false, false, false, false, false] rfl rfl (by kernel_rfl) (by kernel_rfl) (by kernel_rfl) (by kernel_rfl) (fun _ _ _ h => h) (by kernel_rfl) (by rfl) ?hy hHeld ?_
      case hy => rintro W ⟨q0, q1, q2⟩; first | (go_simp; done) | (go_simp; with_reducible rfl)
      simp only [List.setIfInBounds_toArray, List.set_cons_zero, List.set_cons_succ]
      refine zk (v := ?_) 4 15 #[true, true, true, true, true, false, false, false, false, false, false, false, false] rfl rfl (by kernel_rfl) (by kernel_rfl) (by kernel_rfl) (by kernel_rfl) (fun _ _ _ h => h) (by kernel_rfl) (by rfl) ?hy hHeld ?_
      case hy => rintro W ⟨q0, q1, q2⟩; first | (go_simp; done) | (go_simp; with_reducible rfl)
      simp only [List.setIfInBounds_toArray, List.set_cons_zero, List.set_cons_succ]
      refine zk (v := ?_) 5 16 #[true, true, true, true, true, true, false, false, false, false, false, false, false] rfl rfl (by kernel_rfl) (by kernel_rfl) (by kernel_rfl) (by kernel_rfl) (fun _ _ _ h => h) (by kernel_rfl) (by rfl) ?hy hHeld ?_
      case hy => rintro W ⟨q0, q1, q2⟩; first | (go_simp; done) | (go_simp; with_reducible rfl)
      simp only [List.setIfInBounds_toArray, List.set_cons_zero, List.set_cons_succ]
      refine zk (v := ?_) 6 17 #[true, true, true, true, true, true, true, false, false, false, false, false, false] rfl rfl (by kernel_rfl) (by kernel_rfl) (by kernel_rfl) (by kernel_rfl) (fun _ _ _ h => h) (by kernel_rfl) (by rfl) ?hy hHeld ?_
      case hy => rintro W ⟨q0, q1, q2⟩; first | (go_simp; done) | (go_simp; with_reducible rfl)
      simp only [List.setIfInBounds_toArray, List.set_cons_zero, List.set_cons_succ]
      refine zk (v := ?_) 7 18 #[true, true, true, true, true, true, true, true, false, false, false, false, false] rfl rfl (by kernel_rfl) (by kernel_rfl) (by kernel_rfl) (by kernel_rfl) (fun _ _ _ h => h) (by kernel_rfl) (by rfl) ?hy hHeld ?_
      case hy => rintro W ⟨q0, q1, q2⟩; first | (go_simp; done) | (go_simp; with_reducible rfl)
      simp only [List.setIfInBounds_toArray, List.set_cons_zero, List.set_cons_succ]
      refine zk (v := ?_) 8 19 #[true, true, true, true, true, true, true, true, true, false, false, false, false] rfl rfl (by kernel_rfl) (by kernel_rfl) (by kernel_rfl) (by kernel_rfl) (fun _ _ _ h => h) (by kernel_rfl) (by rfl) ?hy hHeld ?_
      case hy => rintro W ⟨q0, q1, q2⟩; first | (go_simp; done) | (go_simp; with_reducible rfl)
      simp only [List.setIfInBounds_toArray, List.set_cons_zero, List.set_cons_succ]
      have HS8 := hide (HS.out.later drew_below)
      obtain ⟨W3, hW3⟩ : ∃ W3, wr.drew.alloc (.cells #[.int .i64 a0, .int .i64 a1] 40) = W3 := ⟨_, rfl⟩
      have b3 : Below wr.drew.heap.size wr.drew W3 := by rw [← hW3]; exact (Below.refl _ _).alloc (Nat.le_refl _) _
      have HS3 := hide (HS8.out.later b3)
      have HN3 : Hid (∀ j u, ([.int .i64 a0, .int .i64 a1] : List Value)[j]? = some u → W3.cell? ((⟨wr.heap.size, 0, none⟩ : Addr).add j) = some u) := hide (fun j u hj => by
        rw [← hW3, Addr.add_lit, show wr.heap.size = wr.drew.heap.size from rfl, cell_of_row _ wr.drew.heap.size _ _ _ _ (alloc_new wr.drew _)]
        match j, hj with
        | 0, hj => cases hj; rfl
        | 1, hj => cases hj; rfl)
      have HSS3 : Hid (W3.cell? ⟨O, 7, none⟩ = some (.slice la k lc) ∧ W3.cell? ⟨g, off, none⟩ = some (.int .i64 a0) ∧ W3.cell? ⟨g, off + 1, none⟩ = some (.int .i64 a1)) := hide ⟨by rw [cell_of_row _ _ 7 _ _ _ HS3.out.box]; rfl, (HS3.out.low.cell (p := ⟨g, _, none⟩) HG.out).trans e0, (HS3.out.low.cell (p := ⟨g, _, none⟩) HG.out).trans e1⟩
      refine z_ready 9 #[true, true, true, true, true, true, true, true, true, true, false, false, false] rfl (by kernel_rfl) (by kernel_rfl) (by rfl) (fun K hK => ?_)
      go_simp
      refine hK.out _ _ (fun _ => HSS3.out) (fun hHeld => ?_)
      clear hK K
      have ho3 := HS3.out.own
      unfold KY.OM at ho3
      rw [hlen] at ho3
      obtain ⟨v9, w9, hrun, hO9, hg9, _⟩ := run_append_own (P := Tryz.prog) W3 w.heap.size 24 24 40 i0 _ 2 16 Tryz.underlying24 HII.out.1 HII.out.2.1 HII.out.2.2.1 HII.out.2.2.2 rfl (by decide) (.slice la k lc) k (KY.mc L) ho3 ⟨wr.heap.size, 0, none⟩ 1 1 [.int .i64 a0, .int .i64 a1] rfl HN3.out (by intro u hu; simp at hu; rcases hu with rfl | rfl <;> rfl) (by unfold maxLen; omega) (by omega) HS3.out.low.size
      have hO9' : KY.OM w9 w.heap.size v9 (L ++ [(a0, a1)]) := by
        unfold KY.OM
        rw [List.length_append, hlen, KY.mc_app]; exact hO9
      obtain ⟨va, vc, hv9⟩ := KY.rm_lt hO9'.rm
      rw [List.length_append, hlen, List.length_singleton] at hv9
      have HE := hide (HS3.out.grow hO9' hg9)
      have HRUN := hide hrun
      refine z_ready 10 #[true, true, true, true, true, true, true, true, true, true, true, false, false] rfl (by kernel_rfl) (by kernel_rfl) (by rfl) (fun K hK => ?_)
      refine op_append_gen _ _ rfl (.slice la k lc) ⟨wr.heap.size, 0, none⟩ 1 1 rfl rfl _ w9 HRUN.out ?_
      simp only [Act.put, List.setIfInBounds_toArray]
      have HL9 : Below w.heap.size w w9 := HS3.out.low.grown hg9 HS3.out.low.size (fun k hk => (ho3.lt k hk).1)
      have HSS9 : Hid (w9.cell? ⟨O, 7, none⟩ = some (.slice la k lc) ∧ w9.cell? ⟨g, off, none⟩ = some (.int .i64 a0) ∧ w9.cell? ⟨g, off + 1, none⟩ = some (.int .i64 a1)) := hide ⟨by rw [cell_of_row _ _ 7 _ _ _ HE.out.2]; rfl, (HL9.cell (p := ⟨g, _, none⟩) HG.out).trans e0, (HL9.cell (p := ⟨g, _, none⟩) HG.out).trans e1⟩
      refine hK.out _ _ (fun _ => HSS9.out) (fun hHeld => ?_)
      clear hK K
      refine z_ready 11 #[true, true, true, true, true, true, true, true, true, true, true, true, false] rfl (by kernel_rfl) (by kernel_rfl) (by rfl) (fun K hK => ?_)
      go_simp
      refine hK.out _ _ (fun _ => HSS9.out) (fun hHeld => ?_)
      clear hK K
      have f9 := no_froz0 HE.out.2 7
      have c9 : w9.cell? ⟨O, 7, none⟩ = some (.slice la k lc) := HSS9.out.1
      subst hv9
      refine z_ready 12 #[true, true, true, true, true, true, true, true, true, true, true, true, true] rfl (by kernel_rfl) (by kernel_rfl) (by rfl) (fun K hK => ?_)
      go_simp
      refine hK.out _ _ (fun h => absurd rfl h) (fun _ => ?_)
      clear hK K
      refine z_done (by kernel_rfl) ?_ _
      have HE2 := hide HE.out.1
      rw [← HTK.out] at HE2
      clear hO9 hO9' hg9 hrun HRUN HSS9 HSS3 HN3 HS3 HS8 hW3 b3 ho3 HL9 HE hHeld hS0 f9 c9 HS HTK e0 e1
      by_cases hcc : cap = 2
      · have hD5 : DD.length = 2 := by omega
        have HX := hide (HEND.out (some ⟨g, off, none⟩) 0 (by omega))
        rw [show DD.length - 2 = 0 by omega] at HX
        have hmm : DD.length - 2 < DD.length := by omega
        clear HCUT HEND
        subst hcc
        go_wp2_with fail
        go_roundw
        case rel => exact ⟨k + 1, _, by have := HDL.out; omega, HX, HE2⟩
        case measure => simp [lenV]; omega
      · have HX := HCUT
        have hle : (2 : Int) ≤ (cap : Int) := by omega
        clear HCUT HEND
        go_wp2_with fail
        go_roundw
        case rel => exact ⟨k + 1, _, by have := HDL.out; omega, HX, HE2⟩
        case measure => simp [lenV]; omega
    · obtain ⟨_, a, cap, rfl, _, _⟩ := HRM.out
      have hd : decide (0 < (DD.length : Int)) = false := by rw [decide_eq_false_iff_not]; omega
      have hkK : (keysOf M).take k = keysOf M := List.take_of_length_le (by rw [keysOf_len]; omega)
      rw [hkK] at HS
      obtain ⟨la, lc, hlv⟩ := KY.rm_lt HS.out.own.rm
      subst hlv
      have HBX := HS.out.box
      obtain ⟨y0, y1, y2, y3, y4, y5, y6, y7⟩ := eight_cells HBX rfl
      clear HBX
      go_wp2_with (first
        | (refine wpList_store_row rfl 26 (.tmp 2) _ rfl w.heap.size #[.int .i64 0, .int .i64 0, .int .i64 0, .int .i64 0, .int .i64 0, .int .i64 0, .slice none 0 0, .slice la (keysOf M).length lc] rfl rfl 26 _ HS.out.res ?s2 ?s3 ?s4 ?_)
        | go_in)
      case s2 => kernel_rfl
      case s3 => rfl
      case s4 => first | rfl | kernel_rfl | simp [Value.oneCell']
      refine bodyPost_ret (v := .agg #[.int .i64 0, .int .i64 0, .int .i64 0, .int .i64 0, .int .i64 0, .int .i64 0, .slice none 0 0, .slice la (keysOf M).length lc]) ?_ rfl ⟨_, rfl, ?_, below_row HS.out.low (Nat.le_refl _)⟩
      · exact results_cell_row rfl _ _ w.heap.size 26 _ (0, 0) _ rfl (setRow_heap _ _ _ _ _ _ HS.out.res) Tryz.underlying26 rfl (by kernel_rfl)
      · refine owns_blk HS.out.own (fun b hb => setRow_other _ _ _ _ (fun e => ?_))
        obtain ⟨c2, fz, h2⟩ := ownsRow_kind HS.out.own b hb
        rw [e, HS.out.res] at h2
        injection h2 with h2
        injection h2 with _ h2 _
        exact absurd h2 (by decide)
end Go.Proofs.YtdiamlajmcikhaaGreatDoor
