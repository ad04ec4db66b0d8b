/-
  My own text: all versions of a chain in a row.
-/
import Derived.Test.YtnjjehlfgoggfaaDoorHC17
namespace Go.Proofs.YtnjjehlfgoggfaaDoor
open Go.RowKit Go.Shelf

attribute [local go_sem] Oper.semAt_some

theorem wpListIn_append_or {F : Fence} {nF : Nat} {P : Program} {ops : Array Oper} {rest : List Oper} {o : Oper} {a : Act} {Q : Exit → Act → World → Prop} (w : World) (B : Nat) (t e : TypeId) (i : TypeInfo) (z : Value) (k bytes : Nat) (hgd : o.guard = none) (s x : Operand)
    (ho : o.op = .call { callee := .builtin .append, args := #[s, x], argTypes := #[t, t] }) (ht : P.underlying t = some (.slice e)) (hi : P.info? e = some i) (hz : i.zero = some z)
    (hsize : i.size = k) (hby : i.bytes = bytes) (hzs : z.cells.size = k) (hsz : 0 < k) (v : Value) (n : Nat) (xs : List Value) (hs : a.eval s = v) (hO : OR w B e k v n xs) (b : Addr) (c : Nat) (news : List Value) (hx : a.eval x = .slice (some b) 1 c) (hl : news.length = k) (hnews : ∀ j u, news[j]? = some u → w.cell? (b.add j) = some u) (h1 : ∀ u ∈ news, u.oneCell' = true)
    (h63 : n + 1 ≤ maxLen) (hbytes : (n + 1) * bytes ≤ 140737488355328) (hB : B ≤ w.heap.size)
    (h : ∀ v' w', OR w' B e k v' (n + 1) (xs ++ news) → w.grownBy w' v.ownBlock → (∀ g, v'.ownBlock = some g → v.ownBlock = some g ∨ w.heap.size ≤ g) → wpListIn F nF P ops Q rest (a.put o.dst v') w') : wpListIn F nF P ops Q (o :: rest) a w := by
  obtain ⟨v', w', hrun, r1, r2, r3⟩ := run_append_or (P := P) w B t o.type e i z k bytes ht hi hz hsize hby hzs hsz v n xs hO b c news hl hnews h1 h63 hbytes hB
  refine wpListIn_plain hgd fun K hK' => ?_
  unfold Oper.wpIn
  refine ⟨by simp [Oper.about, ho, resolve, Target.leads, Sem.run_pure], ?_⟩
  rw [Oper.semAt_plain F _ _ (by rw [ho]; intro c hc'; cases hc')]
  simp [execOp, ho, resolve, invoke, builtin, hs, hx, hrun, Result.andThen]
  exact hK' _ _ (h v' w' r1 r2 r3)
theorem OR.row_ne {W : World} {B k n b : Nat} {e t : TypeId} {v : Value} {xs : List Value} {c : Array Value} {fz : Nat × Nat} (h : OR W B e k v n xs) (hb : W.heap[b]? = some (.cells c t fz)) (ht : t ≠ e) : v.ownBlock ≠ some b := by
  intro q
  rcases h.2 with ⟨rfl, _⟩ | ⟨g, off, cap, cur, rfl, _, hg, _⟩
  · cases q
  · cases q
    rw [hb] at hg
    injection hg with hg
    injection hg with _ hg _
    exact ht hg
theorem OR.row_no {W : World} {B k n b : Nat} {e : TypeId} {v : Value} {xs : List Value} {o : Obj} (h : OR W B e k v n xs) (hb : W.heap[b]? = some o) (ho : o.isCells = false) : v.ownBlock ≠ some b := by
  intro q
  rcases h.2 with ⟨rfl, _⟩ | ⟨g, off, cap, cur, rfl, _, hg, _⟩
  · cases q
  · cases q
    rw [hb] at hg
    cases hg; cases ho
theorem eqNilF (b : Nat) (W : World) : (binOp .eql 96 (.func (Fn.func 73) #[] #[.pointer (some ⟨b, 0, none⟩)]) .nilFunc).run Tryd.prog W = .ok (.bool false) W := by kernel_rfl
end Go.Proofs.YtnjjehlfgoggfaaDoor
