/-
  My own text: Q7, Q8 in one.
-/
import Derived.Test.YtpkgaidnpooahaaGreatDoorQ6
namespace Go.Proofs.YtpkgaidnpooahaaGreatDoor
open Go.RowKit

/-- Worlds that have grown out of W. -/
def Gq (W : World) : Type := { w' : World // Below W.heap.size W w' }
theorem Gq.call {W : World} (x : Gq W) {P : Program} {f : FuncId} {args : Array Value} {v : Value} (h : Calls P f args x.1 fun e w' => e = .returned v ∧ Below x.1.heap.size x.1 w') :
    Calls P f args x.1 fun e w' => e = .returned v ∧ ∃ y : Gq W, w' = y.1 :=
  h.mono fun _ w' ⟨he, hb⟩ => ⟨he, ⟨w', x.2.trans (hb.mono x.2.size)⟩, rfl⟩
theorem rng_belowq {W w' : World} {b o : Nat} {cs : List Value} (hb : Below W.heap.size W w') (hlt : b < W.heap.size) (h : W.rangeAt b o cs) : w'.rangeAt b o cs := fun j v hv => by
  rw [hb.cell (p := ⟨b, o + j, none⟩) hlt]; exact h j v hv
def rdC (T : List UInt8) (fv : Value) : Array Value := #[.string ⟨T.toArray⟩, fv]
set_option maxRecDepth 100000 in
set_option maxHeartbeats 800000 in
theorem further_dash (T : List UInt8) (fv v : Value) (n : Lin) (w : World) (h0 : 0 < n.tx.length) (hd : n.tx.getD 0 0 = 45) :
    Calls Tryz.prog 67 #[.agg (rdC T fv), v, .agg (lnC n)] w fun e w' => e = gone 4 n.no 1 ∧ Below w.heap.size w w' := by
  obtain ⟨no, bg, tx, en⟩ := n
  dsimp only at h0 hd
  have hs1 : 0 < (⟨tx.toArray⟩ : ByteArray).size := by rw [bytes_size]; exact h0
  have hc : (⟨tx.toArray⟩ : ByteArray)[0]'hs1 = 45 := by rw [getD_at h0] at hd; exact hd
  have X0 : Hid (Lx ((w.alloc (.cells (rdC T fv) 71)).alloc (.cells (lnC ⟨no, bg, tx, en⟩) 98)) (w.heap.size + 1) ⟨no, bg, tx, en⟩) := hide (alloc2_newq w _ _)
  have B0 := hide (((Below.refl w.heap.size w).alloc (Nat.le_refl _) (.cells (rdC T fv) 71)).alloc (by simp) (.cells (lnC ⟨no, bg, tx, en⟩) 98))
  have HR := hide (fun W : World => refuse_yes ⟨no, bg, tx, en⟩ 4 1 W)
  have c0 := X0.out.num
  have c1 := X0.out.beg
  have c2 := X0.out.text
  have c3 := X0.out.ends
  dsimp only at c0 c1 c2 c3
  go_enter Tryz.func67, Tryz.ntmps67
  go_wp2_with fail
  have HG0 := hide ((Below.refl ((w.alloc (.cells (rdC T fv) 71)).alloc (.cells (lnC ⟨no, bg, tx, en⟩) 98)).heap.size ((w.alloc (.cells (rdC T fv) 71)).alloc (.cells (lnC ⟨no, bg, tx, en⟩) 98))).drew)
  have HXL : Hid (w.heap.size + 1 < ((w.alloc (.cells (rdC T fv) 71)).alloc (.cells (lnC ⟨no, bg, tx, en⟩) 98)).heap.size) := hide X0.out.lt
  generalize ((w.alloc (.cells (rdC T fv) 71)).alloc (.cells (lnC ⟨no, bg, tx, en⟩) 98)) = W at *
  haveI : Nonempty (Gq W) := ⟨⟨_, HG0.out⟩⟩
  have q2 : ∀ x : Gq W, x.1.cell? ⟨w.heap.size + 1, 2, none⟩ = some (.string ⟨tx.toArray⟩) := fun x => (x.2.cell (p := ⟨w.heap.size + 1, 2, none⟩) HXL.out).trans c2
  clear c0 c1 c2 c3
  refine region_qtail (C := fun w' => ∃ x : Gq W, w' = x.1) 20 rfl rfl (by kernel_rfl) (by kernel_rfl) ⟨⟨_, HG0.out⟩, rfl⟩ ?_
  simp only [List.take_succ_cons, List.take_zero]
  repeat (first
    | go_big_quiet_skip
    | (go_big_quiet_want; first
        | (refine quiet_load_at 98 (.tmp 5) rfl (w.heap.size + 1) 0 rfl (lnC ⟨no, bg, tx, en⟩).toList _ (fun w' ⟨x, hx⟩ => by subst hx; exact rng_belowq x.2 HXL.out X0.out.range) Tryz.underlying98 rfl Tryz.sizeLine ?_; rw [Array.toArray_toList]; simp only [Act.put, List.setIfInBounds_toArray, List.set_cons_zero, List.set_cons_succ]; go_big_quiet_on)
        | (go_big_quiet_op; go_big_quiet_on)))
  refine wpQuiet_nil ?_
  rintro w3 ⟨x, rfl⟩
  have HB3 := hide (B0.out.trans (x.2.mono B0.out.size))
  obtain ⟨w3, hw3⟩ := x
  dsimp only at HB3 ⊢
  go_wp2_with fail
  refine (HR.out _).mono ?_
  rintro e w1 ⟨rfl, hb1⟩
  exact ⟨rfl, rfl, HB3.out.trans (hb1.mono HB3.out.size)⟩
set_option maxRecDepth 100000 in
set_option maxHeartbeats 800000 in
theorem further_none (T : List UInt8) (fv : Value) (a : Option Addr) (cap : Nat) (n : Lin) (w : World) (h0 : 0 < n.tx.length) (hd : n.tx.getD 0 0 ≠ 45) :
    Calls Tryz.prog 67 #[.agg (rdC T fv), .slice a 0 cap, .agg (lnC n)] w fun e w' => e = gone 4 n.no 1 ∧ Below w.heap.size w w' := by
  obtain ⟨no, bg, tx, en⟩ := n
  dsimp only at h0 hd
  have hs1 : 0 < (⟨tx.toArray⟩ : ByteArray).size := by rw [bytes_size]; exact h0
  obtain ⟨c, hc, Hc⟩ : ∃ c, (⟨tx.toArray⟩ : ByteArray)[0]'hs1 = c ∧ Hid (tx.getD 0 0 = c) := ⟨_, rfl, by rw [getD_at h0]; exact hide rfl⟩
  have hcb : ((c.toNat : Int) == 45) = false := by rw [Hc.out] at hd; exact (u8_lit rfl 45 rfl).trans (beq_eq_false_iff_ne.2 hd)
  have X0 : Hid (Lx ((w.alloc (.cells (rdC T fv) 71)).alloc (.cells (lnC ⟨no, bg, tx, en⟩) 98)) (w.heap.size + 1) ⟨no, bg, tx, en⟩) := hide (alloc2_newq w _ _)
  have B0 := hide (((Below.refl w.heap.size w).alloc (Nat.le_refl _) (.cells (rdC T fv) 71)).alloc (by simp) (.cells (lnC ⟨no, bg, tx, en⟩) 98))
  have HR := hide (fun W : World => refuse_yes ⟨no, bg, tx, en⟩ 4 1 W)
  have c0 := X0.out.num
  have c1 := X0.out.beg
  have c2 := X0.out.text
  have c3 := X0.out.ends
  dsimp only at c0 c1 c2 c3
  go_enter Tryz.func67, Tryz.ntmps67
  go_wp2_with fail
  have HG0 := hide ((Below.refl ((w.alloc (.cells (rdC T fv) 71)).alloc (.cells (lnC ⟨no, bg, tx, en⟩) 98)).heap.size ((w.alloc (.cells (rdC T fv) 71)).alloc (.cells (lnC ⟨no, bg, tx, en⟩) 98))).drew)
  have HXL : Hid (w.heap.size + 1 < ((w.alloc (.cells (rdC T fv) 71)).alloc (.cells (lnC ⟨no, bg, tx, en⟩) 98)).heap.size) := hide X0.out.lt
  generalize ((w.alloc (.cells (rdC T fv) 71)).alloc (.cells (lnC ⟨no, bg, tx, en⟩) 98)) = W at *
  haveI : Nonempty (Gq W) := ⟨⟨_, HG0.out⟩⟩
  have q2 : ∀ x : Gq W, x.1.cell? ⟨w.heap.size + 1, 2, none⟩ = some (.string ⟨tx.toArray⟩) := fun x => (x.2.cell (p := ⟨w.heap.size + 1, 2, none⟩) HXL.out).trans c2
  clear c0 c1 c2 c3
  refine region_qtail (C := fun w' => ∃ x : Gq W, w' = x.1) 20 rfl rfl (by kernel_rfl) (by kernel_rfl) ⟨⟨_, HG0.out⟩, rfl⟩ ?_
  simp only [List.take_succ_cons, List.take_zero]
  repeat (first
    | go_big_quiet_skip
    | (go_big_quiet_want; first
        | (refine quiet_load_at 98 (.tmp 5) rfl (w.heap.size + 1) 0 rfl (lnC ⟨no, bg, tx, en⟩).toList _ (fun w' ⟨x, hx⟩ => by subst hx; exact rng_belowq x.2 HXL.out X0.out.range) Tryz.underlying98 rfl Tryz.sizeLine ?_; rw [Array.toArray_toList]; simp only [Act.put, List.setIfInBounds_toArray, List.set_cons_zero, List.set_cons_succ]; go_big_quiet_on)
        | (go_big_quiet_op; go_big_quiet_on)))
  refine wpQuiet_nil ?_
  rintro w3 ⟨x, rfl⟩
  have HB3 := hide (B0.out.trans (x.2.mono B0.out.size))
  obtain ⟨w3, hw3⟩ := x
  dsimp only at HB3 ⊢
  go_wp2_with fail
  refine (HR.out _).mono ?_
  rintro e w1 ⟨rfl, hb1⟩
  exact ⟨rfl, rfl, HB3.out.trans (hb1.mono HB3.out.size)⟩
set_option maxRecDepth 100000 in
set_option maxHeartbeats 800000 in
theorem further_block (T : List UInt8) (fv : Value) (g m cap : Nat) (i : Itm) (kv : Value) (n : Lin) (w : World) (hml : m ≤ 1048576) (hg : g < w.heap.size) (hit : w.rangeAt g (m * 5) (iC i kv).toList) (hft : i.tag.isEmpty = true) (h0 : 0 < n.tx.length) (hd : n.tx.getD 0 0 ≠ 45) :
    Calls Tryz.prog 67 #[.agg (rdC T fv), .slice (some ⟨g, 0, none⟩) (m + 1) cap, .agg (lnC n)] w fun e w' => e = gone 4 n.no 1 ∧ Below w.heap.size w w' := by
  obtain ⟨no, bg, tx, en⟩ := n
  dsimp only at h0 hd
  have hs1 : 0 < (⟨tx.toArray⟩ : ByteArray).size := by rw [bytes_size]; exact h0
  obtain ⟨c, hc, Hc⟩ : ∃ c, (⟨tx.toArray⟩ : ByteArray)[0]'hs1 = c ∧ Hid (tx.getD 0 0 = c) := ⟨_, rfl, by rw [getD_at h0]; exact hide rfl⟩
  have hcb : ((c.toNat : Int) == 45) = false := by rw [Hc.out] at hd; exact (u8_lit rfl 45 rfl).trans (beq_eq_false_iff_ne.2 hd)
  have X0 : Hid (Lx ((w.alloc (.cells (rdC T fv) 71)).alloc (.cells (lnC ⟨no, bg, tx, en⟩) 98)) (w.heap.size + 1) ⟨no, bg, tx, en⟩) := hide (alloc2_newq w _ _)
  have B0 := hide (((Below.refl w.heap.size w).alloc (Nat.le_refl _) (.cells (rdC T fv) 71)).alloc (by simp) (.cells (lnC ⟨no, bg, tx, en⟩) 98))
  have HR := hide (fun W : World => refuse_yes ⟨no, bg, tx, en⟩ 4 1 W)
  have c0 := X0.out.num
  have c1 := X0.out.beg
  have c2 := X0.out.text
  have c3 := X0.out.ends
  dsimp only at c0 c1 c2 c3
  go_enter Tryz.func67, Tryz.ntmps67
  go_wp2_with fail
  have HG0 := hide ((Below.refl ((w.alloc (.cells (rdC T fv) 71)).alloc (.cells (lnC ⟨no, bg, tx, en⟩) 98)).heap.size ((w.alloc (.cells (rdC T fv) 71)).alloc (.cells (lnC ⟨no, bg, tx, en⟩) 98))).drew)
  have HXL : Hid (w.heap.size + 1 < ((w.alloc (.cells (rdC T fv) 71)).alloc (.cells (lnC ⟨no, bg, tx, en⟩) 98)).heap.size) := hide X0.out.lt
  have HGL : Hid (g < ((w.alloc (.cells (rdC T fv) 71)).alloc (.cells (lnC ⟨no, bg, tx, en⟩) 98)).heap.size) := by show _ < _; simp; omega
  have HIR : Hid (((w.alloc (.cells (rdC T fv) 71)).alloc (.cells (lnC ⟨no, bg, tx, en⟩) 98)).rangeAt g (m * 5) (iC i kv).toList) := hide (rng_belowq (((Below.refl w.heap.size w).alloc (Nat.le_refl _) _).alloc (by simp) _) hg hit)
  have HIF : Hid (∀ W : World, Calls Tryz.prog 44 #[.agg (iC i kv)] W fun e w' => e = .returned (.bool false) ∧ Below W.heap.size W w') := hide (fun W => by have := isField_any i kv W; rw [hft] at this; exact this)
  have hm1 : ((m : Int) + 1 == 0) = false := beq_eq_false_iff_ne.2 (by omega)
  clear hit hg
  generalize ((w.alloc (.cells (rdC T fv) 71)).alloc (.cells (lnC ⟨no, bg, tx, en⟩) 98)) = W at *
  haveI : Nonempty (Gq W) := ⟨⟨_, HG0.out⟩⟩
  have q2 : ∀ x : Gq W, x.1.cell? ⟨w.heap.size + 1, 2, none⟩ = some (.string ⟨tx.toArray⟩) := fun x => (x.2.cell (p := ⟨w.heap.size + 1, 2, none⟩) HXL.out).trans c2
  clear c0 c1 c2 c3
  refine region_qtail (C := fun w' => ∃ x : Gq W, w' = x.1) 20 rfl rfl (by kernel_rfl) (by kernel_rfl) ⟨⟨_, HG0.out⟩, rfl⟩ ?_
  simp only [List.take_succ_cons, List.take_zero]
  repeat (first
    | go_big_quiet_skip
    | (go_big_quiet_want; first
        | (refine quiet_load_at 98 (.tmp 5) rfl (w.heap.size + 1) 0 rfl (lnC ⟨no, bg, tx, en⟩).toList _ (fun w' ⟨x, hx⟩ => by subst hx; exact rng_belowq x.2 HXL.out X0.out.range) Tryz.underlying98 rfl Tryz.sizeLine ?_; rw [Array.toArray_toList]; simp only [Act.put, List.setIfInBounds_toArray, List.set_cons_zero, List.set_cons_succ]; go_big_quiet_on)
        | (refine quiet_load_at 25 (.tmp 23) rfl g (m * 5) rfl (iC i kv).toList _ (fun w' ⟨x, hx⟩ => by subst hx; exact rng_belowq x.2 HGL.out HIR.out) Tryz.underlying25 rfl Tryz.sizeItm ?_; rw [Array.toArray_toList]; simp only [Act.put, List.setIfInBounds_toArray, List.set_cons_zero, List.set_cons_succ]; go_big_quiet_on)
        | (go_big_quiet_op; first
            | go_big_quiet_on
            | (apply Exists.intro; refine ⟨fun x => ?_, ?_⟩; (go_at_call 44; exact x.call (HIF.out x.1)); go_big_quiet_on))))
  refine wpQuiet_nil ?_
  rintro w3 ⟨x, rfl⟩
  have HB3 := hide (B0.out.trans (x.2.mono B0.out.size))
  obtain ⟨w3, hw3⟩ := x
  dsimp only at HB3 ⊢
  go_wp2_with fail
  refine (HR.out _).mono ?_
  rintro e w1 ⟨rfl, hb1⟩
  exact ⟨rfl, rfl, HB3.out.trans (hb1.mono HB3.out.size)⟩
end Go.Proofs.YtpkgaidnpooahaaGreatDoor
namespace Go.Proofs.YtpkgaidnpooahaaGreatDoor
open Go.RowKit

set_option maxRecDepth 100000 in
set_option maxHeartbeats 800000 in
theorem further_ok (T : List UInt8) (fv : Value) (g m cap : Nat) (i : Itm) (kv : Value) (n : Lin) (w : World) (hml : m ≤ 1048576) (hg : g < w.heap.size) (hit : w.rangeAt g (m * 5) (iC i kv).toList) (hft : i.tag.isEmpty = false) (hfz : w.frozen? ⟨g, m * 5 + 2, none⟩ = false) (b : Nat) (hb : n.bg = (b : Int)) (hbt : i.text.length + 1 ≤ b) (hbl : b + n.tx.length ≤ T.length) (hTl : T.length ≤ 1048576) (h0 : 0 < n.tx.length) (hd : n.tx.getD 0 0 ≠ 45) :
    Calls Tryz.prog 67 #[.agg (rdC T fv), .slice (some ⟨g, 0, none⟩) (m + 1) cap, .agg (lnC n)] w fun e w' => e = .returned (.tuple #[]) ∧ ∃ w1, Below w.heap.size w w1 ∧ w' = w1.setCell ⟨g, m * 5 + 2, none⟩ (.string ⟨((T.drop (b - 1 - i.text.length)).take (i.text.length + 1 + n.tx.length)).toArray⟩) := by
  obtain ⟨no, bg, tx, en⟩ := n
  dsimp only at h0 hd hb hbl
  subst hb
  have hs1 : 0 < (⟨tx.toArray⟩ : ByteArray).size := by rw [bytes_size]; exact h0
  obtain ⟨c, hc, Hc⟩ : ∃ c, (⟨tx.toArray⟩ : ByteArray)[0]'hs1 = c ∧ Hid (tx.getD 0 0 = c) := ⟨_, rfl, by rw [getD_at h0]; exact hide rfl⟩
  have hcb : ((c.toNat : Int) == 45) = false := by rw [Hc.out] at hd; exact (u8_lit rfl 45 rfl).trans (beq_eq_false_iff_ne.2 hd)
  have X0 : Hid (Lx ((w.alloc (.cells (rdC T fv) 71)).alloc (.cells (lnC ⟨no, (b : Int), tx, en⟩) 98)) (w.heap.size + 1) ⟨no, (b : Int), tx, en⟩) := hide (alloc2_newq w _ _)
  have B0 := hide (((Below.refl w.heap.size w).alloc (Nat.le_refl _) (.cells (rdC T fv) 71)).alloc (by simp) (.cells (lnC ⟨no, (b : Int), tx, en⟩) 98))
  have HR := hide (fun W : World => refuse_no ⟨no, (b : Int), tx, en⟩ 4 1 W)
  have c0 := X0.out.num
  have c1 := X0.out.beg
  have c2 := X0.out.text
  have c3 := X0.out.ends
  dsimp only at c0 c1 c2 c3
  go_enter Tryz.func67, Tryz.ntmps67
  go_wp2_with fail
  have HG0 := hide ((Below.refl ((w.alloc (.cells (rdC T fv) 71)).alloc (.cells (lnC ⟨no, (b : Int), tx, en⟩) 98)).heap.size ((w.alloc (.cells (rdC T fv) 71)).alloc (.cells (lnC ⟨no, (b : Int), tx, en⟩) 98))).drew)
  have HXL : Hid (w.heap.size + 1 < ((w.alloc (.cells (rdC T fv) 71)).alloc (.cells (lnC ⟨no, (b : Int), tx, en⟩) 98)).heap.size) := hide X0.out.lt
  have HGL : Hid (g < ((w.alloc (.cells (rdC T fv) 71)).alloc (.cells (lnC ⟨no, (b : Int), tx, en⟩) 98)).heap.size) := by show _ < _; simp; omega
  have HIR : Hid (((w.alloc (.cells (rdC T fv) 71)).alloc (.cells (lnC ⟨no, (b : Int), tx, en⟩) 98)).rangeAt g (m * 5) (iC i kv).toList) := hide (rng_belowq (((Below.refl w.heap.size w).alloc (Nat.le_refl _) _).alloc (by simp) _) hg hit)
  have HIF : Hid (∀ W : World, Calls Tryz.prog 44 #[.agg (iC i kv)] W fun e w' => e = .returned (.bool true) ∧ Below W.heap.size W w') := hide (fun W => by have := isField_any i kv W; rw [hft] at this; exact this)
  have hm1 : ((m : Int) + 1 == 0) = false := beq_eq_false_iff_ne.2 (by omega)
  have RD0 : Hid (((w.alloc (.cells (rdC T fv) 71)).alloc (.cells (lnC ⟨no, (b : Int), tx, en⟩) 98)).heap[w.heap.size]? = some (.cells (rdC T fv) 71 (0, 0))) := hide (alloc_block (alloc_new w _))
  have HGW := hide hg
  have HIT := hide hit
  have HFZ := hide hfz
  clear hit hg hfz
  generalize ((w.alloc (.cells (rdC T fv) 71)).alloc (.cells (lnC ⟨no, (b : Int), tx, en⟩) 98)) = W at *
  haveI : Nonempty (Gq W) := ⟨⟨_, HG0.out⟩⟩
  have q2 : ∀ x : Gq W, x.1.cell? ⟨w.heap.size + 1, 2, none⟩ = some (.string ⟨tx.toArray⟩) := fun x => (x.2.cell (p := ⟨w.heap.size + 1, 2, none⟩) HXL.out).trans c2
  clear c0 c1 c2 c3
  refine region_qtail (C := fun w' => ∃ x : Gq W, w' = x.1) 20 rfl rfl (by kernel_rfl) (by kernel_rfl) ⟨⟨_, HG0.out⟩, rfl⟩ ?_
  simp only [List.take_succ_cons, List.take_zero]
  repeat (first
    | go_big_quiet_skip
    | (go_big_quiet_want; first
        | (refine quiet_load_at 98 (.tmp 5) rfl (w.heap.size + 1) 0 rfl (lnC ⟨no, (b : Int), tx, en⟩).toList _ (fun w' ⟨x, hx⟩ => by subst hx; exact rng_belowq x.2 HXL.out X0.out.range) Tryz.underlying98 rfl Tryz.sizeLine ?_; rw [Array.toArray_toList]; simp only [Act.put, List.setIfInBounds_toArray, List.set_cons_zero, List.set_cons_succ]; go_big_quiet_on)
        | (refine quiet_load_at 25 (.tmp 23) rfl g (m * 5) rfl (iC i kv).toList _ (fun w' ⟨x, hx⟩ => by subst hx; exact rng_belowq x.2 HGL.out HIR.out) Tryz.underlying25 rfl Tryz.sizeItm ?_; rw [Array.toArray_toList]; simp only [Act.put, List.setIfInBounds_toArray, List.set_cons_zero, List.set_cons_succ]; go_big_quiet_on)
        | (go_big_quiet_op; first
            | go_big_quiet_on
            | (apply Exists.intro; refine ⟨fun x => ?_, ?_⟩; (go_at_call 44; exact x.call (HIF.out x.1)); go_big_quiet_on))))
  refine wpQuiet_nil ?_
  rintro w3 ⟨x, rfl⟩
  have HB3 := hide (B0.out.trans (x.2.mono B0.out.size))
  obtain ⟨w3, hw3⟩ := x
  dsimp only at HB3 ⊢
  go_wp2_with fail
  refine (HR.out _).mono ?_
  rintro e w1 ⟨rfl, hb1⟩
  have B1 := hide (HB3.out.trans (hb1.mono HB3.out.size))
  have X1 : Hid (Lx w1 (w.heap.size + 1) ⟨no, (b : Int), tx, en⟩) := hide ((X0.out.later hw3).later hb1)
  have R1 : Hid (w1.heap[w.heap.size]? = some (.cells (rdC T fv) 71 (0, 0))) := hide (((hw3.trans (hb1.mono hw3.size)).block w.heap.size (by have := HXL.out; omega)).trans RD0.out)
  clear hb1 hw3 HG0 this q2
  have e0 := X1.out.num
  have e1 := X1.out.beg
  have e2 := X1.out.text
  have e3 := X1.out.ends
  dsimp only at e0 e1 e2 e3
  have r0 : w1.cell? ⟨w.heap.size, 0, none⟩ = some (.string ⟨T.toArray⟩) := by rw [cell_of_row _ _ 0 _ _ _ R1.out]; rfl
  have i2 : w1.cell? ⟨g, m * 5 + 2, none⟩ = some (.string ⟨i.text.toArray⟩) := (B1.out.cell (p := ⟨g, m * 5 + 2, none⟩) HGW.out).trans (HIT.out 2 _ rfl)
  have z2 : w1.frozen? ⟨g, m * 5 + 2, none⟩ = false := (((bcell B1.out).2 g (m * 5 + 2) HGW.out)).trans HFZ.out
  have hex : (⟨T.toArray⟩ : ByteArray).extract (b - 1 - i.text.length) (b + tx.length) = ⟨((T.drop (b - 1 - i.text.length)).take (i.text.length + 1 + tx.length)).toArray⟩ := by
    apply ByteArray.ext
    simp
    congr 1
    omega
  obtain ⟨it, Hit⟩ : ∃ it, Hid (i.text = it) := ⟨_, hide rfl⟩
  have hbt2 : it.length + 1 ≤ b := by rw [← Hit.out]; exact hbt
  rw [Hit.out] at i2 hex
  have hbI : (it.length : Int) + 1 ≤ (b : Int) := by omega
  have hblI : (b : Int) + (tx.length : Int) ≤ (T.length : Int) := by omega
  have hTI : (T.length : Int) ≤ 1048576 := by omega
  go_wp2_with fail
  go_quiet (fail)
  have B2 := hide (below_dN B1.out nq)
  have f1 : (w1.drewN nq).cell? ⟨w.heap.size + 1, 1, none⟩ = some (.int .i64 (b : Int)) := e1
  have f2 : (w1.drewN nq).cell? ⟨w.heap.size + 1, 2, none⟩ = some (.string ⟨tx.toArray⟩) := e2
  have f3 : (w1.drewN nq).cell? ⟨w.heap.size, 0, none⟩ = some (.string ⟨T.toArray⟩) := r0
  have f4 : (w1.drewN nq).cell? ⟨g, m * 5 + 2, none⟩ = some (.string ⟨it.toArray⟩) := i2
  have f5 : (w1.drewN nq).frozen? ⟨g, m * 5 + 2, none⟩ = false := z2
  clear e0 e1 e2 e3 r0 i2 z2 X1 R1 B1
  generalize w1.drewN nq = w2 at *
  go_wp2_with fail
  go_end0
  exact ⟨rfl, w2, B2.out, by rw [Hit.out]⟩
end Go.Proofs.YtpkgaidnpooahaaGreatDoor
