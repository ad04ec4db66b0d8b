/-
  My own text: layer 19: works; Meets.
-/
import Derived.Test.YtknnojjfdfkdmaaGreatDoorU14
namespace Go.Proofs.YtknnojjfdfkdmaaGreatDoor
open Go.RowKit Go.Extern Go.MapKept Go.ChangeMaps

/-- A queue of one entry. -/
structure W1q (O : Nat → Prop) (w : World) (q : Nat) (Z : Qx) (x : Nat) (s : Int) : Prop where
  qs : QS O w q Z
  A : Z.A = [x]
  id : (Z.T x).id = 5
  st : (Z.T x).st = s
  ks : ∀ k, k ∈ (Z.T x).keys ↔ k = (1, 0)
theorem W1q.later {O : Nat → Prop} {w w' : World} {q x : Nat} {Z : Qx} {s : Int} (h : W1q O w q Z x s) (hb : Below w.heap.size w w') : W1q O w' q Z x s := ⟨h.qs.later hb, h.A, h.id, h.st, h.ks⟩
theorem neqNil (W : World) : (binOp .neq 34 .nilIface .nilIface).run Tryz.prog W = .ok (.bool false) W := by kernel_rfl
theorem eqNil (W : World) : (binOp .eql 34 .nilIface .nilIface).run Tryz.prog W = .ok (.bool true) W := by kernel_rfl
theorem eqNo (n : Int) (W : World) : (binOp .eql 34 (.iface 65 (.int .i64 n)) .nilIface).run Tryz.prog W = .ok (.bool false) W := by kernel_rfl
theorem kok10 : KOK (1, 0) := ⟨by decide, by decide⟩
theorem kok20 : KOK (2, 0) := ⟨by decide, by decide⟩
theorem iok5 : IOK 5 := by unfold IOK; decide
def lit1 (w : World) (n : Int) : World := w.alloc (.cells #[.int .i64 n, .int .i64 0] 23)
theorem w_put (w : World) :
    ∀ O q Z, QS O w q Z → Z.room = max 1 0 → Z.A = [] → Z.n = 0 → Calls Tryz.prog 8 #[.pointer (some ⟨q, 0, none⟩), .int .i64 5, .slice (some ⟨w.heap.size, 0, none⟩) 1 1] (lit1 w 1) fun r w' => r = .returned .nilIface ∧ ∃ O' Z' x, W1q O' w' q Z' x 0 ∧ (∀ g, O' g → O g ∨ w.heap.size ≤ g) ∧ Fw O w w' := by
  intro O q Z h hr hA hn
  have b1 : Below w.heap.size w (lit1 w 1) := (Below.refl _ _).alloc (Nat.le_refl _) _
  refine (putQ_any O q 5 _ [(1, 0)] Z (lit1 w 1) (h.later b1) iok5 (rm_box (x := (1, 0))) (by simp) (fun k hk => by rw [List.mem_singleton.1 hk]; exact kok10) (by rw [hn]; omega)).mono ?_
  rintro r w' (⟨⟨x, hx, _⟩, _⟩ | ⟨_, hf, _⟩ | ⟨_, _, rfl, Z', x, K, kv', ⟨O', q1, q2, q3⟩, _, _, a1, _, _, t1, k1⟩)
  · rw [hA] at hx; cases hx
  · rw [hA, hr] at hf; exact absurd hf (by decide)
  · rw [hA] at a1
    refine ⟨rfl, O', Z', x, ⟨q1, a1, by rw [t1], by rw [t1], fun k => by rw [t1]; show k ∈ K ↔ _; rw [k1 k]; simp⟩, fun g hg => (q2 g hg).imp id (fun e => Nat.le_trans b1.size e), (Fw.below b1).trans q3⟩
theorem w_touch (w : World) (n s : Int) (hns : (n = 1 ∧ s = 1) ∨ (n = 2 ∧ s = 0)) :
    ∀ O q Z x, W1q O w q Z x 0 → Calls Tryz.prog 10 #[.pointer (some ⟨q, 0, none⟩), .slice (some ⟨w.heap.size, 0, none⟩) 1 1] (lit1 w n) fun r w' => r = .returned (.int .i64 s) ∧ ∃ O' Z', W1q O' w' q Z' x s ∧ (∀ g, O' g → O g ∨ w.heap.size ≤ g) ∧ Fw O w w' := by
  intro O q Z x h
  have hn : n = 1 ∨ n = 2 := hns.imp (·.1) (·.1)
  have b1 : Below w.heap.size w (lit1 w n) := (Below.refl _ _).alloc (Nat.le_refl _) _
  refine (touchQ_any O q _ [(n, 0)] Z (lit1 w n) (h.later b1).qs (rm_box (x := (n, 0))) (by simp) (fun k hk => by rw [List.mem_singleton.1 hk]; rcases hn with rfl | rfl; exact kok10; exact kok20) (fun _ g hg hO => by cases hg; exact absurd (h.qs.lt _ hO) (Nat.lt_irrefl _))).mono ?_
  rintro r w' ⟨Z', rfl, ⟨O', q1, q2, q3⟩, _, _, a1, t1⟩
  have hx : x ∈ Z.A := by rw [h.A]; simp
  have hT := t1 x hx
  have hm : meetsB (Z.T x).keys [(n, 0)] = decide (n = 1) := by
    cases hb : meetsB (Z.T x).keys [(n, 0)] with
    | true =>
      obtain ⟨k, hk, hk2⟩ := meetsB_iff.1 hb
      have e1 := (h.ks k).1 hk
      have e2 := List.mem_singleton.1 hk2
      rw [e1] at e2
      injection e2 with e2 _
      rw [decide_eq_true e2.symm]
    | false =>
      symm
      rw [decide_eq_false_iff_not]
      intro e
      have := (meetsB_iff (a := (Z.T x).keys) (b := [(n, 0)])).2 ⟨(1, 0), (h.ks _).2 rfl, by rw [e]; simp⟩
      rw [hb] at this; cases this
  have hR0 : Z.Rd = [] := by rw [h.qs.ok.rdL, h.A]; simp [h.st]
  have hR1 : Z'.Rd = if n = 1 then [x] else [] := by
    rw [q1.ok.rdL, a1, h.A]
    simp only [List.filter_cons, List.filter_nil]
    rw [hT, hm]
    rcases hn with rfl | rfl
    · simp [tcE, h.st]
    · simp [h.st]
  rw [hR0, hR1]
  refine ⟨by rcases hns with ⟨rfl, rfl⟩ | ⟨rfl, rfl⟩ <;> rfl, O', Z', ⟨q1, by rw [a1, h.A], ?_, ?_, fun k => ?_⟩, fun g hg => (q2 g hg).imp id (fun e => Nat.le_trans b1.size e), (Fw.below b1).trans q3⟩
  · rw [hT]; split
    · rw [(tcE_came _).2.2.1]; exact h.id
    · exact h.id
  · rw [hT, hm]
    rcases hns with ⟨rfl, rfl⟩ | ⟨rfl, rfl⟩
    · simp [tcE, h.st]
    · simp [h.st]
  · rw [hT]; split
    · rw [(tcE_came _).2.1]; exact h.ks k
    · exact h.ks k
theorem w_take (w : World) :
    ∀ O q Z x, W1q O w q Z x 1 → Calls Tryz.prog 11 #[.pointer (some ⟨q, 0, none⟩)] w fun r w' => r = .returned (.tuple #[.int .i64 5, .bool true]) ∧ ∃ O' Z', W1q O' w' q Z' x 2 ∧ (∀ g, O' g → O g ∨ w.heap.size ≤ g) ∧ Fw O w w' := by
  intro O q Z x h
  have hR : Z.Rd = [x] := by rw [h.qs.ok.rdL, h.A]; simp [h.st]
  refine (takeQ_any O q Z w h.qs).mono ?_
  rintro r w' (⟨h0, _⟩ | ⟨y, t, Z', h0, h1, rfl, ⟨O', q1, q2, q3⟩, _, _, a1, t1⟩)
  · rw [hR] at h0; cases h0
  · rw [hR] at h0
    injection h0 with h0 _
    subst h0
    refine ⟨by rw [h.id], O', Z', ⟨q1, by rw [a1, h.A], by rw [t1]; dsimp only; rw [if_pos rfl]; exact h.id, by rw [t1]; dsimp only; rw [if_pos rfl], fun k => by rw [t1]; dsimp only; rw [if_pos rfl]; exact h.ks k⟩, q2, q3⟩
theorem w_idle (w : World) :
    ∀ O q Z x, W1q O w q Z x 0 → Calls Tryz.prog 12 #[.pointer (some ⟨q, 0, none⟩)] w fun r w' => (∃ a c, r = .returned (.slice a 1 c)) ∧ Below w.heap.size w w' := by
  intro O q Z x h
  refine (idleQ_any O q Z w h.qs).mono ?_
  rintro r w' ⟨v', rfl, h1, h2⟩
  obtain ⟨a, c, hv⟩ := h1.slc
  rw [h.A] at hv
  simp [h.st] at hv
  exact ⟨⟨a, c, by rw [hv]⟩, h2⟩
theorem fo_below {O : Nat → Prop} {w0 w w' : World} (hb : Below w0.heap.size w0 w) (hf : Fw O w w') (hO : ∀ g, O g → w0.heap.size ≤ g) : Below w0.heap.size w0 w' :=
  ⟨hf.os.trans hb.os, hf.tape.trans hb.tape, hf.output.trans hb.output, Nat.le_trans hb.size hf.size, fun y hy => (hf.block y (Nat.lt_of_lt_of_le hy hb.size) (fun e => by have := hO y e; omega)).trans (hb.block y hy)⟩
set_option maxRecDepth 100000 in
set_option maxHeartbeats 2000000 in
theorem works_any (w : World) : Calls Tryz.prog 7 #[] w fun r w' => r = .returned (.bool true) ∧ Below w.heap.size w w' := by
  have HN := hide (newQ_any 1 w)
  have nn := neqNil
  go_enter Tryz.func7, Tryz.ntmps7
  go_wp2_with fail
  refine HN.out.mono ?_
  rintro r w1 ⟨q, Z, O, rfl, h1, h2, h3, h4, h5, h6, _⟩
  have HP := hide (w_put w1 O q Z h1 h4 h5 h6)
  have HO := hide h2
  have HB := hide h3
  unfold lit1 at HP
  clear h1 h2 h3 h4 h5 h6 HN
  go_wp2_with fail
  refine HP.out.mono ?_
  rintro r w2 ⟨rfl, O2, Z2, x, g1, g2, g3⟩
  have HB2 := hide (fo_below HB.out g3 HO.out)
  have HO2 : Hid (∀ g, O2 g → w.heap.size ≤ g) := hide (fun g hg => (g2 g hg).elim (HO.out g) (fun e => Nat.le_trans HB.out.size e))
  have G1 := hide g1
  have HI := hide (w_idle w2 O2 q Z2 x g1)
  clear g1 g2 g3 HP HO HB
  go_wp2_with fail
  refine HI.out.mono ?_
  rintro r w3 ⟨⟨a3, c3, rfl⟩, hb3⟩
  have HB3 := hide (HB2.out.trans (hb3.mono HB2.out.size))
  have HT := hide (w_touch w3 2 0 (.inr ⟨rfl, rfl⟩) O2 q Z2 x (G1.out.later hb3))
  unfold lit1 at HT
  clear hb3 HI G1 HB2
  go_wp2_with fail
  refine HT.out.mono ?_
  rintro r w4 ⟨rfl, O4, Z4, g1, g2, g3⟩
  have HB4 := hide (fo_below HB3.out g3 HO2.out)
  have HO4 : Hid (∀ g, O4 g → w.heap.size ≤ g) := hide (fun g hg => (g2 g hg).elim (HO2.out g) (fun e => Nat.le_trans HB3.out.size e))
  have HT2 := hide (w_touch w4 1 1 (.inl ⟨rfl, rfl⟩) O4 q Z4 x g1)
  unfold lit1 at HT2
  clear g1 g2 g3 HT HO2 HB3
  go_wp2_with fail
  refine HT2.out.mono ?_
  rintro r w5 ⟨rfl, O5, Z5, g1, g2, g3⟩
  have HB5 := hide (fo_below HB4.out g3 HO4.out)
  have HO5 : Hid (∀ g, O5 g → w.heap.size ≤ g) := hide (fun g hg => (g2 g hg).elim (HO4.out g) (fun e => Nat.le_trans HB4.out.size e))
  have HTK := hide (w_take w5 O5 q Z5 x g1)
  clear g1 g2 g3 HT2 HO4 HB4
  go_wp2_with fail
  refine HTK.out.mono ?_
  rintro r w6 ⟨rfl, O6, Z6, g1, g2, g3⟩
  have HB6 := hide (fo_below HB5.out g3 HO5.out)
  have HL0 := lenQ_any O6 q Z6 w6 g1.qs
  rw [g1.A] at HL0
  have HL : Hid (Calls Tryz.prog 23 #[.pointer (some ⟨q, 0, none⟩)] w6 fun r w' => r = .returned (.int .i64 1) ∧ w' = w6) := hide HL0
  clear g1 g2 g3 HTK HO5 HB5 HL0
  go_wp2_with fail
  refine HL.out.mono ?_
  rintro r w7 ⟨rfl, rfl⟩
  clear HL
  go_wp2_with fail
  go_ret
  exact ⟨rfl, HB6.out⟩
end Go.Proofs.YtknnojjfdfkdmaaGreatDoor
