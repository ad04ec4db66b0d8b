/-
  My own text: layer 19: Take, Back.
-/
import Derived.Test.YtknnojjfdfkdmaaGreatDoorU7
namespace Go.Proofs.YtknnojjfdfkdmaaGreatDoor
open Go.RowKit Go.Extern Go.MapKept Go.ChangeMaps

theorem by_look {w : World} {mb : Nat} {N : Int → Option Value} {id : Int} (h : MP iv IOK w mb N) (hid : IOK id) :
    (Instr.lookup 57 (.map (some mb)) (.int .i64 id) true).run Tryz.prog w = .ok (.tuple #[(N id).getD (.pointer none), .bool (N id).isSome]) w :=
  h.look Tryz.underlying57 lawInt keyOf_iv iv_inj (z := .pointer none) (fun W => by kernel_rfl) hid true
theorem del_head (c : Nat → Int) (x : Nat) (t : List Nat) : hasC c (c x) (x :: t) = true ∧ delE c x (x :: t) = t := by
  refine ⟨hasC_iff.2 ⟨x, by simp, rfl⟩, ?_⟩
  unfold delE lo
  rw [if_neg (by omega)]
  simp
set_option maxRecDepth 100000 in
set_option maxHeartbeats 1000000 in
theorem take_no (F : Nat → Prop) (q : Nat) (Z : Qx) (w : World) (h : QM F w q Z) (h0 : Z.Rd = []) :
    Calls Tryz.prog 11 #[.pointer (some ⟨q, 0, none⟩)] w fun r w' => r = .returned (.tuple #[.int .i64 0, .bool false]) ∧ w' = w := by
  have q4 := h.cells.2.2.2.2.1
  obtain ⟨av, cap, hvr⟩ := h.rdy.slc
  rw [hvr, h0] at q4
  have q4' : w.cell? ⟨q, 4, none⟩ = some (.slice av 0 cap) := q4
  clear h hvr q4
  go_enter Tryz.func11, Tryz.ntmps11
  go_wp2_with fail
  go_ret2
  exact ⟨rfl, rfl⟩
set_option maxRecDepth 100000 in
set_option maxHeartbeats 1000000 in
theorem take_yes (F : Nat → Prop) (q x : Nat) (t : List Nat) (Z : Qx) (w : World) (h : QM F w q Z) (hF : ∀ g, w.heap.size ≤ g → F g) (h0 : Z.Rd = x :: t) (hs : Sr (fun y => (Z.T y).came) Z.Rd) (hR : ∀ y ∈ Z.Rd, y ∈ Z.X) (hl : Z.Rd.length ≤ 8796093022000) :
    Calls Tryz.prog 11 #[.pointer (some ⟨q, 0, none⟩)] w fun r w' => r = .returned (.tuple #[.int .i64 (Z.T x).id, .bool true]) ∧ (∃ v', QM F w' q { Z with T := ttc (tst Z.T x 2) x false, vr := v', Rd := t }) ∧ Fw F w w' := by
  have q4 := h.cells.2.2.2.2.1
  have hx : x ∈ Z.X := hR x (by rw [h0]; simp)
  have HW0 := without_any Z.vr Z.Rd (fun y => (Z.T y).came) x w h.rdy hs (h.cms hR) (En.cm (h.ent x hx)) hl
  rw [h0, if_pos (del_head _ x t).1, (del_head _ x t).2] at HW0
  have hget := h.rdy.get
  rw [h0] at hget
  rcases hget with ⟨_, e⟩ | ⟨g, off, cap, cur, hvr, hb, hn, _, _, hc⟩
  · cases e
  have hc0 : w.cell? ⟨g, off, none⟩ = some (.pointer (some ⟨x, 0, none⟩)) := hc 0 x rfl
  have hvr' : Z.vr = .slice (some ⟨g, off, none⟩) (t.length + 1) cap := hvr
  rw [hvr'] at q4
  have HH := hide h
  have HF' := hide hF
  have HX := hide hx
  have HVR := hide hvr'
  have HW : Hid (Calls Tryz.prog 31 #[.slice (some ⟨g, off, none⟩) (t.length + 1) cap, .pointer (some ⟨x, 0, none⟩)] w fun r w' => ∃ v', r = .returned v' ∧ PR w' v' t ∧ w.grownBy w' Z.vr.ownBlock ∧ v'.ownBlock = Z.vr.ownBlock) := hide (by
    rw [hvr'] at HW0 ⊢
    exact HW0)
  have hz : ((t.length : Int) + 1 == 0) = false := by rw [beq_eq_false_iff_ne]; omega
  have hz2 : (0 : Int) < (t.length : Int) + 1 := by omega
  clear h hF hs hR hl hb hn hc HW0 hvr hvr' hx h0
  go_enter Tryz.func11, Tryz.ntmps11
  go_wp2_with fail
  refine HW.out.mono ?_
  rintro r w2 ⟨v', rfl, p1, p2, p3⟩
  obtain ⟨z1, z2, z3⟩ := HH.out.ready HF'.out p1 p2 (fun g hg => .inl (by rw [← p3]; exact hg))
  obtain ⟨a', cap', rfl⟩ := p1.slc
  have d4 : w2.cell? ⟨q, 4, none⟩ = some (.slice (some ⟨g, off, none⟩) (t.length + 1) cap) := by rw [cell_of_row _ _ 4 _ _ _ z1]; show some Z.vr = _; rw [HVR.out]
  have g4 : w2.frozen? ⟨q, 4, none⟩ = false := clr_row z1 4
  obtain ⟨W3, hW3⟩ : ∃ W3, w2.setCell ⟨q, 4, none⟩ (.slice a' t.length cap') = W3 := ⟨_, rfl⟩
  rw [hW3] at z2 z3
  obtain ⟨y1, y2⟩ := z2.state HX.out 2
  have e3 := (z2.ent x HX.out).cells.2.2.2.1
  have e3f := (z2.ent x HX.out).fz 3
  obtain ⟨W4, hW4⟩ : ∃ W4, W3.setCell ⟨x, 3, none⟩ (.int .i64 2) = W4 := ⟨_, rfl⟩
  rw [hW4] at y1 y2
  obtain ⟨x1, x2⟩ := y1.toucht HX.out false
  have e4 := (y1.ent x HX.out).cells.2.2.2.2
  have e4f := (y1.ent x HX.out).fz 4
  obtain ⟨W5, hW5⟩ : ∃ W5, W4.setCell ⟨x, 4, none⟩ (.bool false) = W5 := ⟨_, rfl⟩
  rw [hW5] at x1 x2
  have e5 := (x1.ent x HX.out).cells.1
  have e5' : W5.cell? ⟨x, 0, none⟩ = some (.int .i64 (Z.T x).id) := by
    rw [e5]; simp [ttc, tst]
  have HR := hide x1
  have HZ := hide (z3.trans (y2.trans x2))
  dsimp only at e3 e4
  clear p1 p2 p3 z1 z2 z3 y1 y2 x1 x2 HW HH HVR e5
  go_wp2_with fail
  go_ret2
  exact ⟨rfl, ⟨_, HR.out⟩, HZ.out⟩
set_option maxRecDepth 100000 in
set_option maxHeartbeats 1000000 in
theorem back_none (F : Nat → Prop) (q : Nat) (id : Int) (Z : Qx) (w : World) (h : QM F w q Z) (hid : IOK id) (h0 : Z.N id = none) :
    Calls Tryz.prog 13 #[.pointer (some ⟨q, 0, none⟩), .int .i64 id] w fun r w' => r = .returned (.bool false) ∧ w' = w := by
  have q2 := h.cells.2.2.1
  have hlk := by_look h.by' hid
  rw [h0] at hlk
  dsimp only [Option.getD, Option.isSome] at hlk
  clear h h0
  go_enter Tryz.func13, Tryz.ntmps13
  go_wp2_with fail
  go_ret
  exact ⟨rfl, rfl⟩
set_option maxRecDepth 100000 in
set_option maxHeartbeats 1000000 in
theorem back_not (F : Nat → Prop) (q x : Nat) (id : Int) (Z : Qx) (w : World) (h : QM F w q Z) (hid : IOK id) (h0 : Z.N id = some (ep x)) (hx : x ∈ Z.X) (h2 : (Z.T x).st ≠ 2) :
    Calls Tryz.prog 13 #[.pointer (some ⟨q, 0, none⟩), .int .i64 id] w fun r w' => r = .returned (.bool false) ∧ w' = w := by
  have q2 := h.cells.2.2.1
  have hlk := by_look h.by' hid
  rw [h0] at hlk
  dsimp only [Option.getD, Option.isSome, ep] at hlk
  have c3 := (h.ent x hx).cells.2.2.2.1
  have b2 : ((Z.T x).st != 2) = true := by rw [bne_iff_ne]; exact h2
  generalize (Z.T x).st = s at *
  clear h h0 h2
  go_enter Tryz.func13, Tryz.ntmps13
  go_wp2_with fail
  go_ret
  exact ⟨rfl, rfl⟩
set_option maxRecDepth 100000 in
set_option maxHeartbeats 1000000 in
theorem back_idle (F : Nat → Prop) (q x : Nat) (id : Int) (Z : Qx) (w : World) (h : QM F w q Z) (hid : IOK id) (h0 : Z.N id = some (ep x)) (hx : x ∈ Z.X) (h2 : (Z.T x).st = 2) (ht : (Z.T x).tch = false) :
    Calls Tryz.prog 13 #[.pointer (some ⟨q, 0, none⟩), .int .i64 id] w fun r w' => r = .returned (.bool false) ∧ QM F w' q { Z with T := tst Z.T x 0 } ∧ Fw F w w' := by
  have q2 := h.cells.2.2.1
  have hlk := by_look h.by' hid
  rw [h0] at hlk
  dsimp only [Option.getD, Option.isSome, ep] at hlk
  obtain ⟨_, _, _, c3, c4⟩ := (h.ent x hx).cells
  have f3 := (h.ent x hx).fz 3
  rw [h2] at c3
  rw [ht] at c4
  obtain ⟨y1, y2⟩ := h.state hx 0
  have HY := hide y1
  have HZ := hide y2
  clear h h0 h2 ht y1 y2
  go_enter Tryz.func13, Tryz.ntmps13
  go_wp2_with fail
  go_ret
  exact ⟨rfl, HY.out, HZ.out⟩
set_option maxRecDepth 100000 in
set_option maxHeartbeats 1000000 in
theorem back_ready (F : Nat → Prop) (q x : Nat) (id : Int) (Z : Qx) (w : World) (h : QM F w q Z) (hF : ∀ g, w.heap.size ≤ g → F g) (hid : IOK id) (h0 : Z.N id = some (ep x)) (hx : x ∈ Z.X) (h2 : (Z.T x).st = 2) (ht : (Z.T x).tch = true) (hs : Sr (fun y => (Z.T y).came) Z.Rd) (hR : ∀ y ∈ Z.Rd, y ∈ Z.X) (hl : Z.Rd.length ≤ 8796093022000) :
    Calls Tryz.prog 13 #[.pointer (some ⟨q, 0, none⟩), .int .i64 id] w fun r w' => r = .returned (.bool true) ∧ (∃ v', QM F w' q { Z with T := tst Z.T x 1, vr := v', Rd := insE (fun y => (Z.T y).came) x Z.Rd }) ∧ Fw F w w' := by
  have q2 := h.cells.2.2.1
  have hlk := by_look h.by' hid
  rw [h0] at hlk
  dsimp only [Option.getD, Option.isSome, ep] at hlk
  obtain ⟨_, _, _, c3, c4⟩ := (h.ent x hx).cells
  rw [h2] at c3
  rw [ht] at c4
  have HW := hide (wake_any F q x Z w h hF hx hs hR hl)
  clear h h0 h2 ht hF hs hR hl
  go_enter Tryz.func13, Tryz.ntmps13
  go_wp2_with fail
  refine HW.out.mono ?_
  rintro r w1 ⟨rfl, h1, h2⟩
  have H1 := hide h1
  have H2 := hide h2
  clear h1 h2 HW
  go_wp2_with fail
  go_ret
  exact ⟨rfl, H1.out, H2.out⟩
end Go.Proofs.YtknnojjfdfkdmaaGreatDoor
