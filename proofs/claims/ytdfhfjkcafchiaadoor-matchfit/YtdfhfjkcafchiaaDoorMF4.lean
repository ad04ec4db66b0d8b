/-
  My own text: layer 22: how near two amounts are: the program's look (printed by mkmf4.py).
-/
import Derived.Test.YtdfhfjkcafchiaaDoorMF3
import Derived.Test.YtdfhfjkcafchiaaDoorQRz
namespace Go.Proofs.YtdfhfjkcafchiaaDoor
open Go.RowKit LC

def neB (n m : Ntc) (t : Int) : Bool := if n.py then nrB n.amt m.amt t else true
set_option maxRecDepth 100000 in
set_option maxHeartbeats 2000000 in
theorem isNear_any (n m : Ntc) (v u : Value) (t : Int) (w : World) (hn : NOk n) (hm : NOk m) (ha : I64 n.amt) (hb : I64 m.amt) (ht : I64 t) :
    Calls Tryd.prog 17 #[.agg (nC n v), .agg (nC m u), .int .i64 t] w fun e w' => e = .returned (.bool (neB n m t)) ∧ Below w.heap.size w w' := by
  obtain ⟨W1, hW1⟩ : ∃ W, w.alloc (.cells (nC n v) 26) = W := ⟨_, rfl⟩
  have hx1 : Bx W1 w.heap.size n v := by rw [← hW1]; exact Bx.new w n v
  have hb1 : Below w.heap.size w W1 := by rw [← hW1]; exact (Below.refl _ _).alloc (Nat.le_refl _) _
  obtain ⟨W2, hW2⟩ : ∃ W, W1.alloc (.cells (nC m u) 26) = W := ⟨_, rfl⟩
  have hx : Bx W2 w.heap.size n v := by rw [← hW2]; exact hx1.alloc _
  have hy : Bx W2 W1.heap.size m u := by rw [← hW2]; exact Bx.new W1 m u
  have HB : Hid (Below w.heap.size w W2) := hide (by rw [← hW2]; exact hb1.alloc hb1.size _)
  have c0 := hx.py hn.code
  have c1 := hx.amt hn.code
  have c2 := hy.amt hm.code
  unfold neB nrB
  obtain ⟨N0, hN0⟩ : ∃ x, nC n v = x := ⟨_, rfl⟩
  obtain ⟨M0, hM0⟩ : ∃ x, nC m u = x := ⟨_, rfl⟩
  rw [hN0] at hW1 ⊢
  rw [hM0] at hW2 ⊢
  clear hx hx1 hy hN0 hM0 hb1
  cases hp : n.py
  · rw [hp] at c0
    go_enter Tryd.func17, Tryd.ntmps17
    go_wp2_with fail
    go_ret
    exact ⟨rfl, HB.out⟩
  · rw [hp] at c0
    obtain ⟨x, hxx⟩ : ∃ x, n.amt = x := ⟨_, rfl⟩
    obtain ⟨y, hyy⟩ : ∃ y, m.amt = y := ⟨_, rfl⟩
    rw [hxx] at c1 ha ⊢
    rw [hyy] at c2 hb ⊢
    have UU := hide (u64_sub (a := max x y) (b := min x y) (by unfold I64 at *; omega) (by unfold I64 at *; omega) (by omega))
    have HT := hide ht
    clear hxx hyy hn hm ha hb ht
    rw [if_pos rfl]
    go_enter Tryd.func17, Tryd.ntmps17
    go_wp2_with fail
    obtain ⟨b4, hb4⟩ : ∃ b, W1.heap.size = b := ⟨_, rfl⟩
    rw [hb4] at c2 ⊢
    obtain ⟨b3, hb3⟩ : ∃ b, w.heap.size = b := ⟨_, rfl⟩
    rw [hb3] at c1 ⊢
    have HS0 : Hid ((fun W : World => W.cell? ⟨b3, 23, none⟩ = some (.int .i64 x) ∧ W.cell? ⟨b4, 23, none⟩ = some (.int .i64 y)) W2.drew) := hide ⟨c1, c2⟩
    clear hb3 hb4 hW1 hW2 c0 c1 c2
    refine z_begins (S := (fun W : World => W.cell? ⟨b3, 23, none⟩ = some (.int .i64 x) ∧ W.cell? ⟨b4, 23, none⟩ = some (.int .i64 y))) 11 12 #[false, false, false, false, false, false, false, false, false, false, false, false] (by kernel_rfl) (by kernel_rfl) (by kernel_rfl) HS0.out (fun hHeld => ?_)
    refine zk (v := ?_) 0 13 #[true, false, false, false, false, false, false, false, false, false, false, false] rfl rfl (by kernel_rfl) (by kernel_rfl) (by kernel_rfl) (by kernel_rfl) (fun _ _ _ h => h) (by kernel_rfl) (by rfl) ?hy hHeld ?_
    case hy => intro W _; first | (go_simp; done) | (go_simp; with_reducible rfl)
    simp only [List.setIfInBounds_toArray, List.set_cons_zero, List.set_cons_succ]
    refine zk (v := ?_) 1 14 #[true, true, false, false, false, false, false, false, false, false, false, false] rfl rfl (by kernel_rfl) (by kernel_rfl) (by kernel_rfl) (by kernel_rfl) (fun _ _ _ h => h) (by kernel_rfl) (by rfl) ?hy hHeld ?_
    case hy => rintro W ⟨r0, r1⟩; first | (go_simp; done) | (go_simp; with_reducible rfl)
    simp only [List.setIfInBounds_toArray, List.set_cons_zero, List.set_cons_succ]
    refine zk (v := ?_) 2 15 #[true, true, true, false, false, false, false, false, false, false, false, false] rfl rfl (by kernel_rfl) (by kernel_rfl) (by kernel_rfl) (by kernel_rfl) (fun _ _ _ h => h) (by kernel_rfl) (by rfl) ?hy hHeld ?_
    case hy => intro W _; first | (go_simp; done) | (go_simp; with_reducible rfl)
    simp only [List.setIfInBounds_toArray, List.set_cons_zero, List.set_cons_succ]
    refine zk (v := ?_) 3 16 #[true, true, true, true, false, false, false, false, false, false, false, false] rfl rfl (by kernel_rfl) (by kernel_rfl) (by kernel_rfl) (by kernel_rfl) (fun _ _ _ h => h) (by kernel_rfl) (by rfl) ?hy hHeld ?_
    case hy => rintro W ⟨r0, r1⟩; first | (go_simp; done) | (go_simp; with_reducible rfl)
    simp only [List.setIfInBounds_toArray, List.set_cons_zero, List.set_cons_succ]
    refine zk (v := ?_) 4 17 #[true, true, true, true, true, false, false, false, false, false, false, false] rfl rfl (by kernel_rfl) (by kernel_rfl) (by kernel_rfl) (by kernel_rfl) (fun _ _ _ h => h) (by kernel_rfl) (by rfl) ?hy hHeld ?_
    case hy => intro W _; first | (go_simp; done) | (go_simp; with_reducible rfl)
    simp only [List.setIfInBounds_toArray, List.set_cons_zero, List.set_cons_succ]
    refine zk (v := ?_) 5 18 #[true, true, true, true, true, true, false, false, false, false, false, false] rfl rfl (by kernel_rfl) (by kernel_rfl) (by kernel_rfl) (by kernel_rfl) (fun _ _ _ h => h) (by kernel_rfl) (by rfl) ?hy hHeld ?_
    case hy => intro W _; first | (go_simp; done) | (go_simp; with_reducible rfl)
    simp only [List.setIfInBounds_toArray, List.set_cons_zero, List.set_cons_succ]
    refine zk (v := ?_) 6 19 #[true, true, true, true, true, true, true, false, false, false, false, false] rfl rfl (by kernel_rfl) (by kernel_rfl) (by kernel_rfl) (by kernel_rfl) (fun _ _ _ h => h) (by kernel_rfl) (by rfl) ?hy hHeld ?_
    case hy => rintro W ⟨r0, r1⟩; first | (go_simp; done) | (go_simp; with_reducible rfl)
    simp only [List.setIfInBounds_toArray, List.set_cons_zero, List.set_cons_succ]
    refine zk (v := ?_) 7 20 #[true, true, true, true, true, true, true, true, false, false, false, false] rfl rfl (by kernel_rfl) (by kernel_rfl) (by kernel_rfl) (by kernel_rfl) (fun _ _ _ h => h) (by kernel_rfl) (by rfl) ?hy hHeld ?_
    case hy => intro W _; first | (go_simp; done) | (go_simp; with_reducible rfl)
    simp only [List.setIfInBounds_toArray, List.set_cons_zero, List.set_cons_succ]
    refine zk (v := ?_) 8 21 #[true, true, true, true, true, true, true, true, true, false, false, false] rfl rfl (by kernel_rfl) (by kernel_rfl) (by kernel_rfl) (by kernel_rfl) (fun _ _ _ h => h) (by kernel_rfl) (by rfl) ?hy hHeld ?_
    case hy => rintro W ⟨r0, r1⟩; first | (go_simp; done) | (go_simp; with_reducible rfl)
    simp only [List.setIfInBounds_toArray, List.set_cons_zero, List.set_cons_succ]
    refine zk (v := ?_) 9 22 #[true, true, true, true, true, true, true, true, true, true, false, false] rfl rfl (by kernel_rfl) (by kernel_rfl) (by kernel_rfl) (by kernel_rfl) (fun _ _ _ h => h) (by kernel_rfl) (by rfl) ?hy hHeld ?_
    case hy => intro W _; first | (go_simp; done) | (go_simp; with_reducible rfl)
    simp only [List.setIfInBounds_toArray, List.set_cons_zero, List.set_cons_succ]
    refine zk (v := ?_) 10 7 #[true, true, true, true, true, true, true, true, true, true, true, false] rfl rfl (by kernel_rfl) (by kernel_rfl) (by kernel_rfl) (by kernel_rfl) (fun _ _ _ h => h) (by kernel_rfl) (by rfl) ?hy hHeld ?_
    case hy => intro W _; first | (go_simp; done) | (go_simp; with_reducible rfl)
    simp only [List.setIfInBounds_toArray, List.set_cons_zero, List.set_cons_succ]
    refine z_ready 11 #[true, true, true, true, true, true, true, true, true, true, true, true] rfl (by kernel_rfl) (by kernel_rfl) (by rfl) (fun K' hK => ?_)
    go_simp
    refine hK.out _ _ (fun h => absurd rfl h) (fun _ => ?_)
    clear hK K'
    refine z_done (by kernel_rfl) ?_ _
    have u1 := UU.out
    have em : (if y < x then y else x) = min x y := by split <;> omega
    have eM : (if x < y then y else x) = max x y := by split <;> omega
    rw [em, eM]
    obtain ⟨lo, hlo⟩ : ∃ z, min x y = z := ⟨_, rfl⟩
    obtain ⟨hi, hhi⟩ : ∃ z, max x y = z := ⟨_, rfl⟩
    have HL := hide (And.intro hlo hhi)
    rw [hlo, hhi] at u1 ⊢
    clear em eM hlo hhi UU
    by_cases h0 : 0 ≤ t
    · have d0 : decide (t ≥ 0) = true := decide_eq_true h0
      have u0 := u64_pos HT.out h0
      go_wp2_with fail
      go_ret
      exact ⟨by rw [HL.out.1, HL.out.2]; simp, HB.out.trans (((Below.refl W2.heap.size W2).drew).mono HB.out.size)⟩
    · have d0 : decide (t ≥ 0) = false := decide_eq_false h0
      go_wp2_with fail
      go_ret
      exact ⟨by simp, HB.out.trans (((Below.refl W2.heap.size W2).drew).mono HB.out.size)⟩
end Go.Proofs.YtdfhfjkcafchiaaDoor
