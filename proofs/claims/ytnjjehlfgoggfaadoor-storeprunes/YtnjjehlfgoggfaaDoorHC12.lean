/-
  My own text: a row that is cloned.
-/
import Derived.Test.YtnjjehlfgoggfaaDoorHC6
namespace Go.Proofs.YtnjjehlfgoggfaaDoor
open Go.RowKit

theorem OR.shape {w : World} {B : Nat} {e : TypeId} {k : Nat} {v : Value} {n : Nat} {xs : List Value} (h : OR w B e k v n xs) (hn : 0 < n) : ∃ g off cap, v = .slice (some ⟨g, off, none⟩) n cap ∧ ∀ j u, xs[j]? = some u → w.cell? ⟨g, off + j, none⟩ = some u := by
  rcases h.2 with ⟨_, h0⟩ | ⟨g, off, cap, cur, hv, _, _, _, _, _, hc⟩
  · omega
  · exact ⟨g, off, cap, hv, hc⟩
/-- append to a row without room: all of another row. -/
theorem wp_append_all {P : Program} {ops : Array Oper} {rest : List Oper} {o : Oper} {a : Act} {Q : Exit → Act → World → Prop} (w : World) (t e : TypeId) (i : TypeInfo) (z : Value) (k bytes : Nat) (hgd : o.guard = none) (s x : Operand)
    (ho : o.op = .call { callee := .builtin .append, args := #[s, x], argTypes := #[t, t] }) (ht : P.underlying t = some (.slice e)) (hi : P.info? e = some i) (hz : i.zero = some z)
    (hsize : i.size = k) (hby : i.bytes = bytes) (hzs : z.cells.size = k) (hsz : 0 < k) (b c : Addr) (m cap : Nat) (hs : a.eval s = .slice (some b) 0 0) (hx : a.eval x = .slice (some c) m cap) (news : List Value) (hl : news.length = m * k) (hnews : ∀ j u, news[j]? = some u → w.cell? (c.add j) = some u) (hm : 0 < m)
    (h63 : m ≤ maxLen) (hbytes : m * bytes ≤ 140737488355328)
    (h : ∀ v' w', w'.ownsRow w.heap.size e k v' m news → w.grownBy w' none → wpList P ops Q rest (a.put o.dst v') w') : wpList P ops Q (o :: rest) a w := by
  obtain ⟨v', w', hrun, r1, r2⟩ := run_append_arg_grows (P := P) w t o.type e i z k bytes ht hi hz hsize hby hzs hsz b 0 0 [] (by simp) (fun j u hj => by simp at hj) c m cap news hl hnews (by omega) (by omega) (by rw [Nat.zero_add]; exact hbytes)
  refine wpList_plain hgd fun K hK => ?_
  unfold Oper.wp
  simp [execOp, ho, resolve, invoke, builtin, hs, hx, hrun, Result.andThen]
  rw [Nat.zero_add, List.nil_append] at r1
  exact hK _ _ (h v' w' r1 r2)
theorem below_of_grown {W W' : World} (hg : W.grownBy W' none) : Below W.heap.size W W' := ⟨hg.os, hg.tape, hg.output, hg.size, fun k hk => hg.block k hk (by intro e; cases e)⟩
theorem eqNilS (a : Addr) (n c : Nat) (W : World) : (binOp .eql 98 (.slice (some a) n c) (.slice none 0 0)).run Tryd.prog W = .ok (.bool false) W := by kernel_rfl
set_option maxRecDepth 100000 in
set_option maxHeartbeats 1000000 in
theorem clone_any (v : Value) (B : Nat) (L : List Ver) (w : World) (h : OR w B 92 2 v L.length (vc L)) (h0 : 0 < L.length) (hl : L.length ≤ 5864062014804) :
    Calls Tryd.prog 74 #[v] w fun e w' => (∃ v', e = .returned v' ∧ OR w' w.heap.size 92 2 v' L.length (vc L)) ∧ Below w.heap.size w w' := by
  obtain ⟨g, off, cap, rfl, hc⟩ := h.shape h0
  obtain ⟨i0, hi, hz0, hz1, hz2⟩ := info_parts Tryd.infoVer
  have HI := hide (And.intro hi (And.intro hz0 (And.intro hz1 hz2)))
  have HC := hide hc
  have HL := hide hl
  have HL0 := hide h0
  have qs := eqNilS ⟨g, off, none⟩ L.length cap
  clear h hi hz0 hz1 hz2 hc hl h0
  go_enter Tryd.func74, Tryd.ntmps74
  go_wp2_with (at_builtin; refine wp_append_all (w.alloc (.cells #[] 92)) 98 92 i0 _ 2 24 rfl _ _ rfl Tryd.underlying98 HI.out.1 HI.out.2.1 HI.out.2.2.1 HI.out.2.2.2 rfl (by decide) ⟨w.heap.size, 0, none⟩ ⟨g, off, none⟩ L.length cap rfl rfl (vc L) (vc_len L) (fun j u hj => by rw [Addr.add_lit]; have h1 := HC.out j u hj; exact (((Below.refl w.heap.size w).alloc (Nat.le_refl _) _).cell (World.block_lt_of_cell? _ _ h1)).trans h1) HL0.out (by have := HL.out; unfold maxLen; omega) (by have := HL.out; omega) ?_)
  intro v' w' r1 r2
  have HR := hide ((OR.of_owns r1).low (show w.heap.size ≤ _ by simp))
  have HB := hide (((Below.refl w.heap.size w).alloc (Nat.le_refl _) (.cells #[] 92)).trans ((below_of_grown r2).mono (by simp)))
  obtain ⟨a4, n4, c4, rfl⟩ : ∃ a4 n4 c4, v' = .slice a4 n4 c4 := by
    rcases r1.2 with ⟨e, _⟩ | ⟨_, _, _, e, _⟩ <;> exact ⟨_, _, _, e⟩
  clear r1 r2
  go_wp2_with fail
  go_ret
  exact ⟨⟨_, rfl, HR.out⟩, HB.out⟩
end Go.Proofs.YtnjjehlfgoggfaaDoor
