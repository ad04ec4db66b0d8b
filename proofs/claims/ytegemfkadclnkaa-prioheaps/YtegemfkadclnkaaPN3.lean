/-
  My own text: acts in memory; the state of PrioNeverPassed.
-/
import Derived.Test.YtegemfkadclnkaaPN2
namespace Go.Proofs.Ytegemfkadclnkaa
open Go.RowKit

abbrev A4 := Int × Int × Int × Int
/-- A row of acts. -/
def RA (w : World) (v : Value) (L : List A4) : Prop := ∃ a cap, v = .slice a L.length cap ∧ (L = [] ∨ ∃ b off, a = some ⟨b, off, none⟩ ∧ b < w.heap.size ∧ ∀ (j : Nat) (p : A4), L[j]? = some p → w.cell? ⟨b, off + j * 4, none⟩ = some (.int .i64 p.1) ∧ w.cell? ⟨b, off + j * 4 + 1, none⟩ = some (.int .i64 p.2.1) ∧ w.cell? ⟨b, off + j * 4 + 2, none⟩ = some (.int .i64 p.2.2.1) ∧ w.cell? ⟨b, off + j * 4 + 3, none⟩ = some (.int .i64 p.2.2.2))
theorem Try.sizeA4 : (Try.prog.info? 35).map (·.size) = some 4 := by kernel_rfl
abbrev zA (o k a b : Int) : Obj := .cells #[.int .i64 o, .int .i64 k, .int .i64 a, .int .i64 b] 35
theorem OP.typed {w : World} {B : Nat} {v : Value} {L : List Pr} (h : OP w B v L) {g : Nat} (hg : v.ownBlock = some g) : B ≤ g ∧ ∃ cs, w.heap[g]? = some (.cells cs 25 (0, 0)) := by
  rcases h.2 with ⟨rfl, _⟩ | ⟨g', off, cap, cur, rfl, hb, hh, _⟩
  · cases hg
  · cases hg; exact ⟨hb, cur, hh⟩
theorem OP.keepq {w w' : World} {B0 hb lb : Nat} {lf : FuncId} {k : Pr → Int} {v1 v1' : Value} {R : List En} {N : Nat} {B : Nat} {v : Value} {S : List Pr} (o : OP w B v S) (h : HQ w B0 hb lb lf k v1 R N) (f : Fq w w' hb v1 v1') : OP w' B v S :=
  o.kept (fun g hg => by
    obtain ⟨_, cs, hh⟩ := o.typed hg
    have q := h.ne hh (by decide) (by decide)
    exact f.block _ (blk_lt hh) q.1 q.2)
theorem blk_keepq {w w' : World} {B0 hb lb : Nat} {lf : FuncId} {k : Pr → Int} {v1 v1' : Value} {R : List En} {N : Nat} (h : HQ w B0 hb lb lf k v1 R N) (f : Fq w w' hb v1 v1') {g : Nat} {cs : Array Value} {t : TypeId} {fz : Nat × Nat} (hg : w.heap[g]? = some (.cells cs t fz)) (h1 : t ≠ 55) (h2 : t ≠ 51) : w'.heap[g]? = some (.cells cs t fz) := by
  have q := h.ne hg h1 h2
  exact (f.block _ (blk_lt hg) q.1 q.2).trans hg
/-- The heap is kept when the row grows. -/
theorem HQ.keepr {w w' : World} {B0 hb lb : Nat} {lf : FuncId} {k : Pr → Int} {v1 : Value} {R : List En} {N : Nat} {B : Nat} {v : Value} {S : List Pr} (h : HQ w B0 hb lb lf k v1 R N) (o : OP w B v S) (g : w.grownBy w' v.ownBlock) : HQ w' B0 hb lb lf k v1 R N := by
  refine h.keep g.size (fun x hx => ?_)
  have ne : ∀ {cs t fz}, w.heap[x]? = some (.cells cs t fz) → t ≠ 25 → w'.heap[x]? = w.heap[x]? := fun {cs t fz} hc ht => g.block x (blk_lt hc) (fun e => by
    obtain ⟨_, cs', hh⟩ := o.typed e.symm
    rw [hc] at hh; injection hh with hh; injection hh with _ hh; exact ht hh)
  rcases hx with rfl | rfl | e
  · obtain ⟨cs, hc⟩ := h.hdr; exact ne hc (by decide)
  · exact ne h.les (by decide)
  · obtain ⟨_, cs, hc⟩ := h.own x e; exact ne hc (by decide)
/-- One pair more in such a row. -/
theorem wp_append_ov {ops : Array Oper} {rest : List Oper} {o : Oper} {a : Act} {Q : Exit → Act → World → Prop} (w : World) (B : Nat) (hgd : o.guard = none) (s x : Operand)
    (ho : o.op = .call { callee := .builtin .append, args := #[s, x], argTypes := #[29, 29] }) (v : Value) (L : List Pr) (hs : a.eval s = v) (hO : OP w B v L) (b : Nat) (p : Pr) (hx : a.eval x = .slice (some ⟨b, 0, none⟩) 1 1) (hb : w.heap[b]? = some (.cells #[.int .i64 p.1, .int .i64 p.2] 25 (0, 0))) (hn : L.length + 1 ≤ 8796093022208) (hB : B ≤ w.heap.size)
    (h : ∀ v' w', OP w' B v' (L ++ [p]) → w.grownBy w' v.ownBlock → wpList Try.prog ops Q rest (a.put o.dst v') w') : wpList Try.prog ops Q (o :: rest) a w := by
  obtain ⟨i0, hi, hz0, hz1, hz2⟩ := info_parts Try.infoMk
  obtain ⟨v', w', hrun, r1, r2, r3⟩ := run_append_ov (P := Try.prog) w B 29 o.type 25 i0 _ 2 16 Try.underlying29 hi hz0 hz1 hz2 rfl (by decide) v L.length (mc L) hO ⟨b, 0, none⟩ 1 (mc [p]) rfl (fun j u hj => by
    rw [Addr.add_lit, cell_of_row _ _ _ _ _ _ hb]
    match j, hj with
    | 0, hj => exact hj
    | 1, hj => exact hj) (mc_one [p]) (by unfold maxLen; omega) (by omega) hB
  have r1' : OP w' B v' (L ++ [p]) := by
    unfold OP
    rw [List.length_append, mc_app]; exact r1
  refine wpList_plain hgd fun K hK => ?_
  unfold Oper.wp
  simp [execOp, ho, resolve, invoke, builtin, hs, hx, hrun, Result.andThen]
  exact hK _ _ (h v' w' r1' r2)
/-- What is known between two acts. -/
structure Ns (w wr : World) (v vt : Value) (R : List En) (N t : Nat) : Prop where
  q : HQ wr w.heap.size (w.heap.size + 1) w.heap.size 5 kR v R N
  r : OP wr w.heap.size vt (R.map (·.1))
  kn : Kn t R
  nt : N ≤ t
  bl : Below w.heap.size w wr
theorem Ns.later {w wr w' : World} {v vt : Value} {R : List En} {N t : Nat} (h : Ns w wr v vt R N t) (hb : Below wr.heap.size wr w') : Ns w w' v vt R N t := ⟨h.q.later hb, h.r.later hb, h.kn, h.nt, h.bl.trans (hb.mono h.bl.size)⟩
theorem Ns.len {w wr : World} {v vt : Value} {R : List En} {N t : Nat} (h : Ns w wr v vt R N t) : R.length ≤ t := Nat.le_trans h.q.len h.nt
/-- One was put in, in both. -/
theorem Ns.push {w wr w3 w5 : World} {v v' vt vt' : Value} {R : List En} {N t : Nat} {a : Int} {o : Obj} (h : Ns w wr v vt R N t) (q : HQ w3 w.heap.size (w.heap.size + 1) w.heap.size 5 kR v' (R ++ [((a, (t : Int)), N)]) (N + 1)) (f : Fq wr w3 (w.heap.size + 1) v v') (r : OP w5 w.heap.size vt' (R.map (·.1) ++ [(a, (t : Int))])) (g : (w3.alloc o).grownBy w5 vt.ownBlock) : Ns w w5 v' vt' (R ++ [((a, (t : Int)), N)]) (N + 1) (t + 1) := by
  have b3 := h.bl.trans (h.q.below f)
  have o3 := h.r.keepq h.q f
  have ba : Below w3.heap.size w3 (w3.alloc o) := (Below.refl _ _).alloc (Nat.le_refl _) o
  have b4 := b3.trans (ba.mono b3.size)
  exact ⟨(q.later ba).keepr (o3.later ba) g, by rw [List.map_append]; exact r, h.kn.push a, by have := h.nt; omega, b4.trans (below_gb g b4.size (fun x hx => (o3.lt hx).1))⟩
end Go.Proofs.Ytegemfkadclnkaa
