/-
  My own text: one more line of a field.
-/
import Derived.Test.YtklhbhhkooddoaaQ6
namespace Go.Proofs.Ytklhbhhkooddoaa
open Go.RowKit

/-- Worlds that have grown out of W. -/
def Gq (W : World) : Type := { w' : World // Below W.heap.size W w' }
theorem Gq.call {W : World} (x : Gq W) {P : Program} {f : FuncId} {args : Array Value} {v : Value} (h : Calls P f args x.1 fun e w' => e = .returned v ∧ Below x.1.heap.size x.1 w') :
    Calls P f args x.1 fun e w' => e = .returned v ∧ ∃ y : Gq W, w' = y.1 :=
  h.mono fun _ w' ⟨he, hb⟩ => ⟨he, ⟨w', x.2.trans (hb.mono x.2.size)⟩, rfl⟩
theorem rng_belowq {W w' : World} {b o : Nat} {cs : List Value} (hb : Below W.heap.size W w') (hlt : b < W.heap.size) (h : W.rangeAt b o cs) : w'.rangeAt b o cs := fun j v hv => by
  rw [hb.cell (p := ⟨b, o + j, none⟩) hlt]; exact h j v hv
def rdC (T : List UInt8) (fv : Value) : Array Value := #[.string ⟨T.toArray⟩, fv]
set_option maxRecDepth 100000 in
set_option maxHeartbeats 800000 in
theorem further_dash (T : List UInt8) (fv v : Value) (n : Lin) (w : World) (h0 : 0 < n.tx.length) (hd : n.tx.getD 0 0 = 45) :
    Calls Try.prog 49 #[.agg (rdC T fv), v, .agg (lnC n)] w fun e w' => e = gone 4 n.no 1 ∧ Below w.heap.size w w' := by
  obtain ⟨no, bg, tx, en⟩ := n
  dsimp only at h0 hd
  have hs1 : 0 < (⟨tx.toArray⟩ : ByteArray).size := by rw [bytes_size]; exact h0
  have hc : (⟨tx.toArray⟩ : ByteArray)[0]'hs1 = 45 := by rw [getD_at h0] at hd; exact hd
  have X0 : Hid (Lx ((w.alloc (.cells (rdC T fv) 71)).alloc (.cells (lnC ⟨no, bg, tx, en⟩) 78)) (w.heap.size + 1) ⟨no, bg, tx, en⟩) := hide (alloc2_newq w _ _)
  have B0 := hide (((Below.refl w.heap.size w).alloc (Nat.le_refl _) (.cells (rdC T fv) 71)).alloc (by simp) (.cells (lnC ⟨no, bg, tx, en⟩) 78))
  have HR := hide (fun W : World => refuse_yes ⟨no, bg, tx, en⟩ 4 1 W)
  have c0 := X0.out.num
  have c1 := X0.out.beg
  have c2 := X0.out.text
  have c3 := X0.out.ends
  dsimp only at c0 c1 c2 c3
  go_enter Try.func49, Try.ntmps49
  go_wp2_with fail
  have HG0 := hide ((Below.refl ((w.alloc (.cells (rdC T fv) 71)).alloc (.cells (lnC ⟨no, bg, tx, en⟩) 78)).heap.size ((w.alloc (.cells (rdC T fv) 71)).alloc (.cells (lnC ⟨no, bg, tx, en⟩) 78))).drew)
  have HXL : Hid (w.heap.size + 1 < ((w.alloc (.cells (rdC T fv) 71)).alloc (.cells (lnC ⟨no, bg, tx, en⟩) 78)).heap.size) := hide X0.out.lt
  generalize ((w.alloc (.cells (rdC T fv) 71)).alloc (.cells (lnC ⟨no, bg, tx, en⟩) 78)) = W at *
  haveI : Nonempty (Gq W) := ⟨⟨_, HG0.out⟩⟩
  have q2 : ∀ x : Gq W, x.1.cell? ⟨w.heap.size + 1, 2, none⟩ = some (.string ⟨tx.toArray⟩) := fun x => (x.2.cell (p := ⟨w.heap.size + 1, 2, none⟩) HXL.out).trans c2
  clear c0 c1 c2 c3
  refine region_qtail (C := fun w' => ∃ x : Gq W, w' = x.1) 20 rfl rfl (by kernel_rfl) (by kernel_rfl) ⟨⟨_, HG0.out⟩, rfl⟩ ?_
  simp only [List.take_succ_cons, List.take_zero]
  repeat (first
    | go_big_quiet_skip
    | (go_big_quiet_want; first
        | (refine quiet_load_at 78 (.tmp 5) rfl (w.heap.size + 1) 0 rfl (lnC ⟨no, bg, tx, en⟩).toList _ (fun w' ⟨x, hx⟩ => by subst hx; exact rng_belowq x.2 HXL.out X0.out.range) Try.underlying78 rfl Try.sizeLine ?_; rw [Array.toArray_toList]; simp only [Act.put, List.setIfInBounds_toArray, List.set_cons_zero, List.set_cons_succ]; go_big_quiet_on)
        | (go_big_quiet_op; go_big_quiet_on)))
  refine wpQuiet_nil ?_
  rintro w3 ⟨x, rfl⟩
  have HB3 := hide (B0.out.trans (x.2.mono B0.out.size))
  obtain ⟨w3, hw3⟩ := x
  dsimp only at HB3 ⊢
  go_wp2_with fail
  refine (HR.out _).mono ?_
  rintro e w1 ⟨rfl, hb1⟩
  exact ⟨rfl, rfl, HB3.out.trans (hb1.mono HB3.out.size)⟩
set_option maxRecDepth 100000 in
set_option maxHeartbeats 800000 in
theorem further_none (T : List UInt8) (fv : Value) (a : Option Addr) (cap : Nat) (n : Lin) (w : World) (h0 : 0 < n.tx.length) (hd : n.tx.getD 0 0 ≠ 45) :
    Calls Try.prog 49 #[.agg (rdC T fv), .slice a 0 cap, .agg (lnC n)] w fun e w' => e = gone 4 n.no 1 ∧ Below w.heap.size w w' := by
  obtain ⟨no, bg, tx, en⟩ := n
  dsimp only at h0 hd
  have hs1 : 0 < (⟨tx.toArray⟩ : ByteArray).size := by rw [bytes_size]; exact h0
  obtain ⟨c, hc, Hc⟩ : ∃ c, (⟨tx.toArray⟩ : ByteArray)[0]'hs1 = c ∧ Hid (tx.getD 0 0 = c) := ⟨_, rfl, by rw [getD_at h0]; exact hide rfl⟩
  have hcb : ((c.toNat : Int) == 45) = false := by rw [Hc.out] at hd; exact (u8_lit rfl 45 rfl).trans (beq_eq_false_iff_ne.2 hd)
  have X0 : Hid (Lx ((w.alloc (.cells (rdC T fv) 71)).alloc (.cells (lnC ⟨no, bg, tx, en⟩) 78)) (w.heap.size + 1) ⟨no, bg, tx, en⟩) := hide (alloc2_newq w _ _)
  have B0 := hide (((Below.refl w.heap.size w).alloc (Nat.le_refl _) (.cells (rdC T fv) 71)).alloc (by simp) (.cells (lnC ⟨no, bg, tx, en⟩) 78))
  have HR := hide (fun W : World => refuse_yes ⟨no, bg, tx, en⟩ 4 1 W)
  have c0 := X0.out.num
  have c1 := X0.out.beg
  have c2 := X0.out.text
  have c3 := X0.out.ends
  dsimp only at c0 c1 c2 c3
  go_enter Try.func49, Try.ntmps49
  go_wp2_with fail
  have HG0 := hide ((Below.refl ((w.alloc (.cells (rdC T fv) 71)).alloc (.cells (lnC ⟨no, bg, tx, en⟩) 78)).heap.size ((w.alloc (.cells (rdC T fv) 71)).alloc (.cells (lnC ⟨no, bg, tx, en⟩) 78))).drew)
  have HXL : Hid (w.heap.size + 1 < ((w.alloc (.cells (rdC T fv) 71)).alloc (.cells (lnC ⟨no, bg, tx, en⟩) 78)).heap.size) := hide X0.out.lt
  generalize ((w.alloc (.cells (rdC T fv) 71)).alloc (.cells (lnC ⟨no, bg, tx, en⟩) 78)) = W at *
  haveI : Nonempty (Gq W) := ⟨⟨_, HG0.out⟩⟩
  have q2 : ∀ x : Gq W, x.1.cell? ⟨w.heap.size + 1, 2, none⟩ = some (.string ⟨tx.toArray⟩) := fun x => (x.2.cell (p := ⟨w.heap.size + 1, 2, none⟩) HXL.out).trans c2
  clear c0 c1 c2 c3
  refine region_qtail (C := fun w' => ∃ x : Gq W, w' = x.1) 20 rfl rfl (by kernel_rfl) (by kernel_rfl) ⟨⟨_, HG0.out⟩, rfl⟩ ?_
  simp only [List.take_succ_cons, List.take_zero]
  repeat (first
    | go_big_quiet_skip
    | (go_big_quiet_want; first
        | (refine quiet_load_at 78 (.tmp 5) rfl (w.heap.size + 1) 0 rfl (lnC ⟨no, bg, tx, en⟩).toList _ (fun w' ⟨x, hx⟩ => by subst hx; exact rng_belowq x.2 HXL.out X0.out.range) Try.underlying78 rfl Try.sizeLine ?_; rw [Array.toArray_toList]; simp only [Act.put, List.setIfInBounds_toArray, List.set_cons_zero, List.set_cons_succ]; go_big_quiet_on)
        | (go_big_quiet_op; go_big_quiet_on)))
  refine wpQuiet_nil ?_
  rintro w3 ⟨x, rfl⟩
  have HB3 := hide (B0.out.trans (x.2.mono B0.out.size))
  obtain ⟨w3, hw3⟩ := x
  dsimp only at HB3 ⊢
  go_wp2_with fail
  refine (HR.out _).mono ?_
  rintro e w1 ⟨rfl, hb1⟩
  exact ⟨rfl, rfl, HB3.out.trans (hb1.mono HB3.out.size)⟩
set_option maxRecDepth 100000 in
set_option maxHeartbeats 800000 in
theorem further_block (T : List UInt8) (fv : Value) (g m cap : Nat) (i : Itm) (kv : Value) (n : Lin) (w : World) (hml : m ≤ 1048576) (hg : g < w.heap.size) (hit : w.rangeAt g (m * 5) (iC i kv).toList) (hft : i.tag.isEmpty = true) (h0 : 0 < n.tx.length) (hd : n.tx.getD 0 0 ≠ 45) :
    Calls Try.prog 49 #[.agg (rdC T fv), .slice (some ⟨g, 0, none⟩) (m + 1) cap, .agg (lnC n)] w fun e w' => e = gone 4 n.no 1 ∧ Below w.heap.size w w' := by
  obtain ⟨no, bg, tx, en⟩ := n
  dsimp only at h0 hd
  have hs1 : 0 < (⟨tx.toArray⟩ : ByteArray).size := by rw [bytes_size]; exact h0
  obtain ⟨c, hc, Hc⟩ : ∃ c, (⟨tx.toArray⟩ : ByteArray)[0]'hs1 = c ∧ Hid (tx.getD 0 0 = c) := ⟨_, rfl, by rw [getD_at h0]; exact hide rfl⟩
  have hcb : ((c.toNat : Int) == 45) = false := by rw [Hc.out] at hd; exact (u8_lit rfl 45 rfl).trans (beq_eq_false_iff_ne.2 hd)
  have X0 : Hid (Lx ((w.alloc (.cells (rdC T fv) 71)).alloc (.cells (lnC ⟨no, bg, tx, en⟩) 78)) (w.heap.size + 1) ⟨no, bg, tx, en⟩) := hide (alloc2_newq w _ _)
  have B0 := hide (((Below.refl w.heap.size w).alloc (Nat.le_refl _) (.cells (rdC T fv) 71)).alloc (by simp) (.cells (lnC ⟨no, bg, tx, en⟩) 78))
  have HR := hide (fun W : World => refuse_yes ⟨no, bg, tx, en⟩ 4 1 W)
  have c0 := X0.out.num
  have c1 := X0.out.beg
  have c2 := X0.out.text
  have c3 := X0.out.ends
  dsimp only at c0 c1 c2 c3
  go_enter Try.func49, Try.ntmps49
  go_wp2_with fail
  have HG0 := hide ((Below.refl ((w.alloc (.cells (rdC T fv) 71)).alloc (.cells (lnC ⟨no, bg, tx, en⟩) 78)).heap.size ((w.alloc (.cells (rdC T fv) 71)).alloc (.cells (lnC ⟨no, bg, tx, en⟩) 78))).drew)
  have HXL : Hid (w.heap.size + 1 < ((w.alloc (.cells (rdC T fv) 71)).alloc (.cells (lnC ⟨no, bg, tx, en⟩) 78)).heap.size) := hide X0.out.lt
  have HGL : Hid (g < ((w.alloc (.cells (rdC T fv) 71)).alloc (.cells (lnC ⟨no, bg, tx, en⟩) 78)).heap.size) := by show _ < _; simp; omega
  have HIR : Hid (((w.alloc (.cells (rdC T fv) 71)).alloc (.cells (lnC ⟨no, bg, tx, en⟩) 78)).rangeAt g (m * 5) (iC i kv).toList) := hide (rng_belowq (((Below.refl w.heap.size w).alloc (Nat.le_refl _) _).alloc (by simp) _) hg hit)
  have HIF : Hid (∀ W : World, Calls Try.prog 22 #[.agg (iC i kv)] W fun e w' => e = .returned (.bool false) ∧ Below W.heap.size W w') := hide (fun W => by have := isField_any i kv W; rw [hft] at this; exact this)
  have hm1 : ((m : Int) + 1 == 0) = false := beq_eq_false_iff_ne.2 (by omega)
  clear hit hg
  generalize ((w.alloc (.cells (rdC T fv) 71)).alloc (.cells (lnC ⟨no, bg, tx, en⟩) 78)) = W at *
  haveI : Nonempty (Gq W) := ⟨⟨_, HG0.out⟩⟩
  have q2 : ∀ x : Gq W, x.1.cell? ⟨w.heap.size + 1, 2, none⟩ = some (.string ⟨tx.toArray⟩) := fun x => (x.2.cell (p := ⟨w.heap.size + 1, 2, none⟩) HXL.out).trans c2
  clear c0 c1 c2 c3
  refine region_qtail (C := fun w' => ∃ x : Gq W, w' = x.1) 20 rfl rfl (by kernel_rfl) (by kernel_rfl) ⟨⟨_, HG0.out⟩, rfl⟩ ?_
  simp only [List.take_succ_cons, List.take_zero]
  repeat (first
    | go_big_quiet_skip
    | (go_big_quiet_want; first
        | (refine quiet_load_at 78 (.tmp 5) rfl (w.heap.size + 1) 0 rfl (lnC ⟨no, bg, tx, en⟩).toList _ (fun w' ⟨x, hx⟩ => by subst hx; exact rng_belowq x.2 HXL.out X0.out.range) Try.underlying78 rfl Try.sizeLine ?_; rw [Array.toArray_toList]; simp only [Act.put, List.setIfInBounds_toArray, List.set_cons_zero, List.set_cons_succ]; go_big_quiet_on)
        | (refine quiet_load_at 26 (.tmp 23) rfl g (m * 5) rfl (iC i kv).toList _ (fun w' ⟨x, hx⟩ => by subst hx; exact rng_belowq x.2 HGL.out HIR.out) Try.underlying26 rfl Try.sizeItm ?_; rw [Array.toArray_toList]; simp only [Act.put, List.setIfInBounds_toArray, List.set_cons_zero, List.set_cons_succ]; go_big_quiet_on)
        | (go_big_quiet_op; first
            | go_big_quiet_on
            | (apply Exists.intro; refine ⟨fun x => ?_, ?_⟩; (go_at_call 22; exact x.call (HIF.out x.1)); go_big_quiet_on))))
  refine wpQuiet_nil ?_
  rintro w3 ⟨x, rfl⟩
  have HB3 := hide (B0.out.trans (x.2.mono B0.out.size))
  obtain ⟨w3, hw3⟩ := x
  dsimp only at HB3 ⊢
  go_wp2_with fail
  refine (HR.out _).mono ?_
  rintro e w1 ⟨rfl, hb1⟩
  exact ⟨rfl, rfl, HB3.out.trans (hb1.mono HB3.out.size)⟩
end Go.Proofs.Ytklhbhhkooddoaa
