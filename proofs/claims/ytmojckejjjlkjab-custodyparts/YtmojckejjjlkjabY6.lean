/-
  My own text: orders in memory, by the program: New, Parts.
-/
import Derived.Test.YtmojckejjjlkjabY5
namespace Go.Proofs.Ytmojckejjjlkjab
open Go.RowKit

/-- Are these numbers of no order? -/
def badO (Q A L K : Int) : Prop := Q < 1 ∨ L < 1 ∨ A < 0 ∨ K < 0
instance (Q A L K : Int) : Decidable (badO Q A L K) := by unfold badO; infer_instance
theorem Od.fresh_ok {Q A L K : Int} (h : ¬ badO Q A L K) (Q1 : Q ≤ 9223372036854775807) (A1 : A ≤ 9223372036854775807) (L1 : L ≤ 9223372036854775807) (K1 : K ≤ 9223372036854775807) : (Od.mk Q A L K 0 []).Ok := by
  unfold badO at h
  exact ⟨by show 0 < Q; omega, Q1, by show 0 ≤ A; omega, A1, by show 0 < L; omega, L1, by show 0 ≤ K; omega, K1, Int.le_refl _, by show 0 ≤ Q; omega⟩
set_option maxHeartbeats 1000000 in
theorem new_bad (Q A L K : Int) (w : World) (b : badO Q A L K) :
    Calls Try.prog 8 #[.int .i64 Q, .int .i64 A, .int .i64 L, .int .i64 K] w fun e w' => e = .returned (.tuple #[.pointer none, errV 1]) ∧ Below w.heap.size w w' := by
  unfold badO at b
  by_cases b1 : Q < 1
  · have d1 : decide (Q < 1) = true := decide_eq_true b1
    clear b
    go_enter Try.func8, Try.ntmps8
    go_wp2_with fail
    go_ret2
    exact ⟨rfl, Below.refl _ _⟩
  have d1 : decide (Q < 1) = false := decide_eq_false b1
  by_cases b2 : L < 1
  · have d2 : decide (L < 1) = true := decide_eq_true b2
    clear b
    go_enter Try.func8, Try.ntmps8
    go_wp2_with fail
    go_ret2
    exact ⟨rfl, Below.refl _ _⟩
  have d2 : decide (L < 1) = false := decide_eq_false b2
  by_cases b3 : A < 0
  · have d3 : decide (A < 0) = true := decide_eq_true b3
    clear b
    go_enter Try.func8, Try.ntmps8
    go_wp2_with fail
    go_ret2
    exact ⟨rfl, Below.refl _ _⟩
  have d3 : decide (A < 0) = false := decide_eq_false b3
  have d4 : decide (K < 0) = true := decide_eq_true (by omega)
  clear b
  go_enter Try.func8, Try.ntmps8
  go_wp2_with fail
  go_ret2
  exact ⟨rfl, Below.refl _ _⟩
set_option maxHeartbeats 1000000 in
theorem new_ok (Q A L K : Int) (w : World) (b : ¬ badO Q A L K) :
    Calls Try.prog 8 #[.int .i64 Q, .int .i64 A, .int .i64 L, .int .i64 K] w fun e w' => ∃ g, e = .returned (.tuple #[.pointer (some ⟨g, 0, none⟩), errV 0]) ∧ w.heap.size ≤ g ∧ OB w' g ⟨Q, A, L, K, 0, []⟩ (.slice none 0 0) ∧ Below w.heap.size w w' := by
  unfold badO at b
  have d1 : decide (Q < 1) = false := decide_eq_false (by omega)
  have d2 : decide (L < 1) = false := decide_eq_false (by omega)
  have d3 : decide (A < 0) = false := decide_eq_false (by omega)
  have d4 : decide (K < 0) = false := decide_eq_false (by omega)
  have HB := hide ((Below.refl w.heap.size w).alloc (Nat.le_refl _) (.cells #[.int .i64 Q, .int .i64 A, .int .i64 L, .int .i64 K, .int .i64 0, .slice none 0 0] 46))
  have HN := hide (alloc_new w (.cells #[.int .i64 Q, .int .i64 A, .int .i64 L, .int .i64 K, .int .i64 0, .slice none 0 0] 46))
  clear b
  go_enter Try.func8, Try.ntmps8
  go_wp2_with fail
  go_ret2
  exact ⟨_, rfl, Nat.le_refl _, ⟨HN.out, TL.OM.nil _ _, fun _ => rfl⟩, HB.out⟩
/-- append to a row without room: all of another row. -/
theorem wp_append_all {P : Program} {ops : Array Oper} {rest : List Oper} {o : Oper} {a : Act} {Q : Exit → Act → World → Prop} (w : World) (t e : TypeId) (i : TypeInfo) (z : Value) (k bytes : Nat) (hgd : o.guard = none) (s x : Operand)
    (ho : o.op = .call { callee := .builtin .append, args := #[s, x], argTypes := #[t, t] }) (ht : P.underlying t = some (.slice e)) (hi : P.info? e = some i) (hz : i.zero = some z)
    (hsize : i.size = k) (hby : i.bytes = bytes) (hzs : z.cells.size = k) (hsz : 0 < k) (b c : Addr) (m cap : Nat) (hs : a.eval s = .slice (some b) 0 0) (hx : a.eval x = .slice (some c) m cap) (news : List Value) (hl : news.length = m * k) (hnews : ∀ j u, news[j]? = some u → w.cell? (c.add j) = some u) (hm : 0 < m)
    (h63 : m ≤ maxLen) (hbytes : m * bytes ≤ 140737488355328)
    (h : ∀ v' w', w'.ownsRow w.heap.size e k v' m news → w.grownBy w' none → wpList P ops Q rest (a.put o.dst v') w') : wpList P ops Q (o :: rest) a w := by
  obtain ⟨v', w', hrun, r1, r2⟩ := run_append_arg_grows (P := P) w t o.type e i z k bytes ht hi hz hsize hby hzs hsz b 0 0 [] (by simp) (fun j u hj => by simp at hj) c m cap news hl hnews (by omega) (by omega) (by rw [Nat.zero_add]; exact hbytes)
  refine wpList_plain hgd fun K hK => ?_
  unfold Oper.wp
  simp [execOp, ho, resolve, invoke, builtin, hs, hx, hrun, Result.andThen]
  rw [Nat.zero_add, List.nil_append] at r1
  exact hK _ _ (h v' w' r1 r2)
theorem below_of_grown {W W' : World} (hg : W.grownBy W' none) : Below W.heap.size W W' := ⟨hg.os, hg.tape, hg.output, hg.size, fun k hk => hg.block k hk (by intro e; cases e)⟩
theorem eqNilP (a : Addr) (n c : Nat) (W : World) : (binOp .eql 38 (.slice (some a) n c) (.slice none 0 0)).run Try.prog W = .ok (.bool false) W := by kernel_rfl
theorem eqNilP0 (W : World) : (binOp .eql 38 (.slice none 0 0) (.slice none 0 0)).run Try.prog W = .ok (.bool true) W := by kernel_rfl
set_option maxRecDepth 100000 in
set_option maxHeartbeats 1000000 in
theorem cloneP_any (v : Value) (L : List (Int × Int)) (w : World) (h : TL.OM w 0 v L) (h0 : L = [] → v = .slice none 0 0) (hl : L.length ≤ 8796093022208) :
    Calls Try.prog 19 #[v] w fun e w' => (∃ v', e = .returned v' ∧ TL.OM w' w.heap.size v' L) ∧ Below w.heap.size w w' := by
  by_cases hL : L = []
  · rw [h0 hL]
    subst hL
    have qs := eqNilP0
    clear h h0 hl
    go_enter Try.func19, Try.ntmps19
    go_wp2_with fail
    go_ret
    exact ⟨⟨_, rfl, TL.OM.nil _ _⟩, Below.refl _ _⟩
  · have hlen : 0 < L.length := List.length_pos_iff.2 hL
    obtain ⟨g, cap, rfl, hc⟩ : ∃ g cap, v = .slice (some ⟨g, 0, none⟩) L.length cap ∧ ∀ j u, (TL.mc L)[j]? = some u → w.cell? ⟨g, 0 + j, none⟩ = some u := by
      rcases h.2 with ⟨_, e⟩ | ⟨g, cap, cur, hv, _, _, _, _⟩
      · omega
      · subst hv
        exact ⟨g, cap, rfl, fun j u hj => by have h9 := World.ownsRow.cells h (by rfl) j u hj; rw [Addr.add_lit] at h9; exact h9⟩
    obtain ⟨i0, hi, hz0, hz1, hz2⟩ := info_parts TL.Try.infoMk
    have HI := hide (And.intro hi (And.intro hz0 (And.intro hz1 hz2)))
    have HC := hide hc
    have HL := hide hl
    have HL0 := hide hlen
    have qs := eqNilP ⟨g, 0, none⟩ L.length cap
    clear h h0 hi hz0 hz1 hz2 hc hl hlen hL
    go_enter Try.func19, Try.ntmps19
    go_wp2_with (at_builtin; refine wp_append_all (w.alloc (.cells #[] 40)) 38 40 i0 _ 2 16 rfl _ _ rfl Try.underlying38 HI.out.1 HI.out.2.1 HI.out.2.2.1 HI.out.2.2.2 rfl (by decide) ⟨w.heap.size, 0, none⟩ ⟨g, 0, none⟩ L.length cap rfl rfl (TL.mc L) (TL.mc_len L) (fun j u hj => by rw [Addr.add_lit]; have h1 := HC.out j u hj; exact (((Below.refl w.heap.size w).alloc (Nat.le_refl _) _).cell (World.block_lt_of_cell? _ _ h1)).trans h1) HL0.out (by have := HL.out; unfold maxLen; omega) (by have := HL.out; omega) ?_)
    intro v' w' r1 r2
    have HR : Hid (TL.OM w' w.heap.size v' L) := hide (TL.OM.base r1 (fun g hg => Nat.le_trans (by simp) (World.ownsRow.lt r1 g hg).1))
    have HB := hide (((Below.refl w.heap.size w).alloc (Nat.le_refl _) (.cells #[] 40)).trans ((below_of_grown r2).mono (by simp)))
    obtain ⟨a4, n4, c4, rfl⟩ : ∃ a4 n4 c4, v' = .slice a4 n4 c4 := by
      rcases r1.2 with ⟨e, _⟩ | ⟨_, _, _, e, _⟩ <;> exact ⟨_, _, _, e⟩
    clear r1 r2
    go_wp2_with fail
    go_ret
    exact ⟨⟨_, rfl, HR.out⟩, HB.out⟩
set_option maxHeartbeats 1000000 in
theorem parts_any (g : Nat) (o : Od) (pv : Value) (w : World) (H : OB w g o pv) (hl : o.P.length ≤ 8796093022208) :
    Calls Try.prog 13 #[.pointer (some ⟨g, 0, none⟩)] w fun e w' => (∃ v', e = .returned v' ∧ TL.OM w' w.heap.size v' o.P) ∧ Below w.heap.size w w' := by
  have f5 := (six_cells H.box rfl).2.2.2.2.2
  have C := cloneP_any pv o.P w H.row H.nl hl
  obtain ⟨a0, cp, hpv⟩ := TL.OM.slice H.row
  subst hpv
  have HC := hide C
  clear C H
  go_enter Try.func13, Try.ntmps13
  go_wp2_with fail
  refine HC.out.mono ?_
  rintro e w1 ⟨⟨v', rfl, ho⟩, hb1⟩
  obtain ⟨a5, c5, hv5⟩ := TL.OM.slice ho
  have HO := hide ho
  have HB := hide hb1
  clear ho hb1
  subst hv5
  go_wp2_with fail
  go_ret
  exact ⟨⟨_, rfl, HO.out⟩, HB.out⟩
end Go.Proofs.Ytmojckejjjlkjab
