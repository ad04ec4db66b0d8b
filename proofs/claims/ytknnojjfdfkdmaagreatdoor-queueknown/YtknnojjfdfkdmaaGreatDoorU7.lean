/-
  My own text: layer 19: the smaller calls of a queue: wake, touch, Len, Full, Take, Back.
-/
import Derived.Test.YtknnojjfdfkdmaaGreatDoorU6
namespace Go.Proofs.YtknnojjfdfkdmaaGreatDoor
open Go.RowKit Go.Extern Go.MapKept Go.ChangeMaps

def tst (T : Nat → Et) (x : Nat) (s : Int) : Nat → Et := fun y => if y = x then { T x with st := s } else T y
def ttc (T : Nat → Et) (x : Nat) (b : Bool) : Nat → Et := fun y => if y = x then { T x with tch := b } else T y
theorem tst_came (T : Nat → Et) (x : Nat) (s : Int) : (fun y => (tst T x s y).came) = fun y => (T y).came := by
  funext y; unfold tst; by_cases e : y = x
  · rw [if_pos e, e]
  · rw [if_neg e]
theorem ttc_came (T : Nat → Et) (x : Nat) (b : Bool) : (fun y => (ttc T x b y).came) = fun y => (T y).came := by
  funext y; unfold ttc; by_cases e : y = x
  · rw [if_pos e, e]
  · rw [if_neg e]
theorem QM.state {F : Nat → Prop} {w : World} {q : Nat} {Z : Qx} (h : QM F w q Z) {x : Nat} (hx : x ∈ Z.X) (s : Int) : QM F (w.setCell ⟨x, 3, none⟩ (.int .i64 s)) q { Z with T := tst Z.T x s } ∧ Fw F w (w.setCell ⟨x, 3, none⟩ (.int .i64 s)) :=
  h.turned hx 3 (.int .i64 s) { Z.T x with st := s } ⟨rfl, rfl⟩ rfl
theorem QM.toucht {F : Nat → Prop} {w : World} {q : Nat} {Z : Qx} (h : QM F w q Z) {x : Nat} (hx : x ∈ Z.X) (b : Bool) : QM F (w.setCell ⟨x, 4, none⟩ (.bool b)) q { Z with T := ttc Z.T x b } ∧ Fw F w (w.setCell ⟨x, 4, none⟩ (.bool b)) :=
  h.turned hx 4 (.bool b) { Z.T x with tch := b } ⟨rfl, rfl⟩ rfl
theorem QM.cms {F : Nat → Prop} {w : World} {q : Nat} {Z : Qx} (h : QM F w q Z) {L : List Nat} (hL : ∀ x ∈ L, x ∈ Z.X) : ∀ x ∈ L, Cm w (fun y => (Z.T y).came) x := fun x hx => En.cm (T := Z.T) (h.ent x (hL x hx))
set_option maxRecDepth 100000 in
set_option maxHeartbeats 1000000 in
theorem wake_any (F : Nat → Prop) (q x : Nat) (Z : Qx) (w : World) (h : QM F w q Z) (hF : ∀ g, w.heap.size ≤ g → F g) (hx : x ∈ Z.X) (hs : Sr (fun y => (Z.T y).came) Z.Rd) (hR : ∀ y ∈ Z.Rd, y ∈ Z.X) (hl : Z.Rd.length ≤ 8796093022000) :
    Calls Tryz.prog 34 #[.pointer (some ⟨q, 0, none⟩), .pointer (some ⟨x, 0, none⟩)] w fun r w' => r = .returned (.tuple #[]) ∧ (∃ v', QM F w' q { Z with T := tst Z.T x 1, vr := v', Rd := insE (fun y => (Z.T y).came) x Z.Rd }) ∧ Fw F w w' := by
  obtain ⟨_, _, _, c3, _⟩ := (h.ent x hx).cells
  have f3 := (h.ent x hx).fz 3
  obtain ⟨h1, w1f⟩ := h.state hx 1
  obtain ⟨w1, hw1⟩ : ∃ w1, w.setCell ⟨x, 3, none⟩ (.int .i64 1) = w1 := ⟨_, rfl⟩
  rw [hw1] at h1 w1f
  have q4 : w1.cell? ⟨q, 4, none⟩ = some Z.vr := h1.cells.2.2.2.2.1
  have HH := hide h1
  have HFW := hide w1f
  have hs1 : Sr (fun y => (tst Z.T x 1 y).came) Z.Rd := by rw [tst_came]; exact hs
  have HW0 := with_any Z.vr Z.Rd (fun y => (tst Z.T x 1 y).came) x w1 h1.rdy hs1 (h1.cms hR) (En.cm (T := tst Z.T x 1) (h1.ent x hx)) hl
  rw [tst_came] at HW0
  have HW := hide HW0
  clear HW0
  have HF' := hide (fun g (hg : w1.heap.size ≤ g) => hF g (Nat.le_trans w1f.size hg))
  obtain ⟨av, cap, hvr⟩ := h1.rdy.slc
  have HVR := hide hvr
  have hvr' : Z.vr = .slice av Z.Rd.length cap := hvr
  rw [hvr'] at q4
  have HW' : Hid (Calls Tryz.prog 27 #[.slice av Z.Rd.length cap, .pointer (some ⟨x, 0, none⟩)] w1 fun r w' => ∃ v', r = .returned v' ∧ PR w' v' (insE (fun y => (Z.T y).came) x Z.Rd) ∧ w1.grownBy w' Z.vr.ownBlock ∧ (∀ g, v'.ownBlock = some g → Z.vr.ownBlock = some g ∨ w1.heap.size ≤ g)) := hide (by
    have := HW.out
    rw [hvr'] at this ⊢
    exact this)
  clear h h1 w1f hs hs1 hR hl HW hF hvr hvr'
  go_enter Tryz.func34, Tryz.ntmps34
  go_wp2_with fail
  refine HW'.out.mono ?_
  rintro r w2 ⟨v', rfl, p1, p2, p3⟩
  obtain ⟨z1, z2, z3⟩ := HH.out.ready HF'.out p1 p2 p3
  obtain ⟨a', cap', rfl⟩ := p1.slc
  have d4 : w2.cell? ⟨q, 4, none⟩ = some (.slice av Z.Rd.length cap) := by rw [cell_of_row _ _ 4 _ _ _ z1]; show some Z.vr = _; rw [HVR.out]
  have g4 : w2.frozen? ⟨q, 4, none⟩ = false := clr_row z1 4
  have HZ2 := hide z2
  have HZ3 := hide (HFW.out.trans z3)
  clear p1 p2 p3 z1 z2 z3 HW' HH HFW
  go_wp2_with fail
  go_end0
  exact ⟨rfl, ⟨_, HZ2.out⟩, HZ3.out⟩
/-- An entry that is touched. -/
def tcE (e : Et) : Et := if e.st = 0 then { e with st := 1 } else if e.st = 2 then { e with tch := true } else e
def tcT (T : Nat → Et) (x : Nat) : Nat → Et := fun y => if y = x then tcE (T x) else T y
theorem tcT_idle {T : Nat → Et} {x : Nat} (h : (T x).st = 0) : tcT T x = tst T x 1 := by
  funext y; unfold tcT tst tcE
  by_cases e : y = x
  · rw [if_pos e, if_pos e, if_pos h]
  · rw [if_neg e, if_neg e]
theorem tcT_taken {T : Nat → Et} {x : Nat} (h : (T x).st = 2) : tcT T x = ttc T x true := by
  funext y; unfold tcT ttc tcE
  by_cases e : y = x
  · rw [if_pos e, if_pos e, if_neg (by omega), if_pos h]
  · rw [if_neg e, if_neg e]
theorem tcT_ready {T : Nat → Et} {x : Nat} (h0 : (T x).st ≠ 0) (h2 : (T x).st ≠ 2) : tcT T x = T := by
  funext y; unfold tcT tcE
  by_cases e : y = x
  · rw [if_pos e, if_neg h0, if_neg h2, e]
  · rw [if_neg e]
set_option maxRecDepth 100000 in
set_option maxHeartbeats 1000000 in
theorem touch_any (F : Nat → Prop) (q x : Nat) (Z : Qx) (w : World) (h : QM F w q Z) (hF : ∀ g, w.heap.size ≤ g → F g) (hx : x ∈ Z.X) (hs : Sr (fun y => (Z.T y).came) Z.Rd) (hR : ∀ y ∈ Z.Rd, y ∈ Z.X) (hl : Z.Rd.length ≤ 8796093022000) :
    Calls Tryz.prog 30 #[.pointer (some ⟨q, 0, none⟩), .pointer (some ⟨x, 0, none⟩)] w fun r w' => r = .returned (.tuple #[]) ∧ (∃ v', QM F w' q { Z with T := tcT Z.T x, vr := v', Rd := if (Z.T x).st = 0 then insE (fun y => (Z.T y).came) x Z.Rd else Z.Rd }) ∧ Fw F w w' := by
  obtain ⟨_, _, _, c3, c4⟩ := (h.ent x hx).cells
  by_cases h0 : (Z.T x).st = 0
  · have HW := hide (wake_any F q x Z w h hF hx hs hR hl)
    rw [tcT_idle h0, if_pos h0]
    rw [h0] at c3
    clear h hF hs hR hl h0 c4
    go_enter Tryz.func30, Tryz.ntmps30
    go_wp2_with fail
    refine HW.out.mono ?_
    rintro r w1 ⟨rfl, h1, h2⟩
    have H1 := hide h1
    have H2 := hide h2
    clear h1 h2 HW
    go_wp2_with fail
    go_end0
    exact ⟨rfl, H1.out, H2.out⟩
  · rw [if_neg h0]
    by_cases h2 : (Z.T x).st = 2
    · rw [tcT_taken h2]
      rw [h2] at c3
      have f4 := (h.ent x hx).fz 4
      obtain ⟨h1, wf⟩ := h.toucht hx true
      have H1 := hide h1
      have H2 := hide wf
      clear h hF hs hR hl h0 h1 wf
      go_enter Tryz.func30, Tryz.ntmps30
      go_wp2_with fail
      go_end0
      exact ⟨rfl, ⟨_, H1.out⟩, H2.out⟩
    · rw [tcT_ready h0 h2]
      have b0 : ((Z.T x).st == 0) = false := by rw [beq_eq_false_iff_ne]; exact h0
      have b2 : ((Z.T x).st == 2) = false := by rw [beq_eq_false_iff_ne]; exact h2
      have H1 := hide h
      generalize (Z.T x).st = s at *
      clear h hF hs hR hl h0 h2
      go_enter Tryz.func30, Tryz.ntmps30
      go_wp2_with fail
      go_end0
      exact ⟨rfl, ⟨_, H1.out⟩, Fw.refl _ _⟩
set_option maxRecDepth 100000 in
set_option maxHeartbeats 1000000 in
theorem len_any (F : Nat → Prop) (q : Nat) (Z : Qx) (w : World) (h : QM F w q Z) :
    Calls Tryz.prog 23 #[.pointer (some ⟨q, 0, none⟩)] w fun r w' => r = .returned (.int .i64 (Z.A.length : Int)) ∧ w' = w := by
  have q3 := h.cells.2.2.2.1
  obtain ⟨av, cap, hva⟩ := h.all.slc
  rw [hva] at q3
  clear h hva
  go_enter Tryz.func23, Tryz.ntmps23
  go_wp2_with fail
  go_ret
  exact ⟨rfl, rfl⟩
set_option maxRecDepth 100000 in
set_option maxHeartbeats 1000000 in
theorem full_any (F : Nat → Prop) (q : Nat) (Z : Qx) (w : World) (h : QM F w q Z) :
    Calls Tryz.prog 24 #[.pointer (some ⟨q, 0, none⟩)] w fun r w' => r = .returned (.bool ((Z.A.length : Int) == Z.room)) ∧ Below w.heap.size w w' := by
  have q3 := h.cells.2.2.2.1
  have q0 := h.cells.1
  obtain ⟨av, cap, hva⟩ := h.all.slc
  rw [hva] at q3
  have HB := hide (Below.refl w.heap.size w)
  generalize Z.room = rm at *
  clear h hva
  go_enter Tryz.func24, Tryz.ntmps24
  go_wp2_with fail
  go_quiet (fail)
  have HW2 := hide (below_dN HB.out nq)
  go_wp2_with fail
  go_ret
  exact ⟨rfl, HW2.out⟩
end Go.Proofs.YtknnojjfdfkdmaaGreatDoor
