/-
  My own text: Play, by the document (printed by mkpc7.py).
-/
import Derived.Test.YtegemfkadclnkaaPC3
import Derived.Test.YtegemfkadclnkaaPC6
namespace Go.Proofs.Ytegemfkadclnkaa
open Go.RowKit

/-- What is known of a row behind N pushes. -/
structure Okr (R : List En) (N : Nat) : Prop where
  rs : Rs 0 R
  lt : ∀ e ∈ R, e.2 < N
  len : R.length ≤ N
theorem er_len {α : Type} [DecidableEq α] (R : List (α × Nat)) (e : α × Nat) : (er R e).length ≤ R.length := List.length_erase_le
theorem Okr.nx {R : List En} {N : Nat} (h : Okr R N) (m : Option En) : Okr (nx R m) N := by
  cases m with
  | none => exact h
  | some e => exact ⟨h.rs.er e, fun x hx => h.lt x (er_sub hx), Nat.le_trans (er_len R e) h.len⟩
theorem Okr.push {R : List En} {N : Nat} (h : Okr R N) (x : Pr) : Okr (R ++ [(x, N)]) (N + 1) :=
  ⟨h.rs.snoc (Nat.zero_le _) h.lt, fun e he => by
    rcases List.mem_append.1 he with q | q
    · have := h.lt e q; omega
    · simp at q; subst q; simp, by rw [List.length_append]; have := h.len; simp; omega⟩
theorem Okr.st1 {R : List En} {N : Nat} (h : Okr R N) (k : Pr → Int) (s : Stp) : Okr (st1 k R N s).2.1 (st1 k R N s).2.2 := by
  unfold Go.Proofs.Ytegemfkadclnkaa.st1
  repeat' split
  · exact h.nx _
  · exact h.push _
  · exact h
  · exact h.nx _
  · exact h
  · exact h
/-- Where the document's Play is behind t steps. -/
structure RlS (w wr : World) (f : Bool) (rb : Nat) (L : List Stp) (t : Nat) (D : List Pr) (R : List En) (N : Nat) (vt vo : Value) : Prop where
  dl : D.length = t
  eq : pl (kB f) [] 0 L = D ++ pl (kB f) R N (L.drop t)
  nt : N ≤ t
  ok : Okr R N
  rq : RQ wr w.heap.size rb f vt R
  om : OM wr w.heap.size vo D
  ap : ∀ g, vo.ownBlock = some g → vt.ownBlock ≠ some g
  bl : Below w.heap.size w wr
theorem RlS.kept {w wr W : World} {f : Bool} {rb : Nat} {L : List Stp} {t : Nat} {D : List Pr} {R : List En} {N : Nat} {vt vo v5 : Value} (h : RlS w wr f rb L t D R N vt vo) (hf : Fq wr W rb vt v5) : OM W w.heap.size vo D :=
  owns_later h.om (fun g hg => hf.block g (h.om.lt g hg).2 (fun e => om_ne h.om h.rq.hdr (by decide) (by rw [← e]; exact hg.symm)) (fun e => h.ap g hg e.symm))
theorem RlS.end_ {w wr W5 w7 : World} {f : Bool} {rb : Nat} {L : List Stp} {t : Nat} {D : List Pr} {R R' : List En} {N N' : Nat} {vt vo v5 v' : Value} {s : Stp} {o : Obj} (h : RlS w wr f rb L t D R N vt vo) (hs : L[t]? = some s) (hR : (st1 (kB f) R N s).2.1 = R') (hN : (st1 (kB f) R N s).2.2 = N') {p : Pr} (hp : (st1 (kB f) R N s).1 = p)
    (hq : RQ W5 w.heap.size rb f v5 R') (hf : Fq wr W5 rb vt v5) (r1 : OM w7 w.heap.size v' (D ++ [p])) (r2 : (W5.alloc o).grownBy w7 vo.ownBlock) (r3 : ∀ g, v'.ownBlock = some g → vo.ownBlock = some g ∨ (W5.alloc o).heap.size ≤ g) : RlS w w7 f rb L (t + 1) (D ++ [p]) R' N' v5 v' := by
  have b6 : Below W5.heap.size W5 (W5.alloc o) := (Below.refl _ _).alloc (Nat.le_refl _) _
  have hq6 := hq.later b6
  have b5 := h.bl.trans (h.rq.below hf)
  have hvo : ∀ g, vo.ownBlock = some g → v5.ownBlock ≠ some g := fun g hg e => by
    rcases hf.own g e with q | q
    · exact h.ap g hg q
    · have := (h.om.lt g hg).2; omega
  refine ⟨by rw [List.length_append, h.dl]; rfl, by rw [h.eq, pl_step hs, hR, hN, hp, List.append_assoc]; rfl, by have := st1_N (kB f) R N s; have := h.nt; omega, ?_, ?_, r1, ?_, ?_⟩
  · have := h.ok.st1 (kB f) s; rw [hR, hN] at this; exact this
  · refine hq6.keep r2.size (fun g hg => r2.block g ?_ ?_)
    · rcases hg with rfl | q
      · exact blk_lt hq6.hdr
      · exact (hq6.row.lt g q).2
    · intro e
      rcases hg with rfl | q
      · exact om_ne h.om h.rq.hdr (by decide) e
      · exact hvo g e.symm q
  · intro g hg
    rcases r3 g hg with q | q
    · exact hvo g q
    · intro e; have := (hq6.row.lt g e).2; omega
  · have c := b5.trans (b6.mono b5.size)
    exact c.trans (below_gb r2 c.size (fun g hg => (h.om.lt g hg).1))
theorem RlS.num {w wr : World} {f : Bool} {rb : Nat} {L : List Stp} {t : Nat} {D : List Pr} {R : List En} {N : Nat} {vt vo : Value} (h : RlS w wr f rb L t D R N vt vo) : rb < wr.heap.size ∧ (∀ g, vt.ownBlock = some g → g < wr.heap.size) := ⟨blk_lt h.rq.hdr, fun g hg => (h.rq.row.lt g hg).2⟩
abbrev zP (a b : Int) : Obj := .cells #[.int .i64 a, .int .i64 b] 25
end Go.Proofs.Ytegemfkadclnkaa
