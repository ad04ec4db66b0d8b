/-
  My own text: PrioNeverPassed: what is known when one was asked for; it is cut out of the row.
-/
import Derived.Test.YtolmngjppnmkoaaPN3
namespace Go.Proofs.Ytolmngjppnmkoaa
open Go.RowKit

theorem three_alloc (w : World) (a b c : Obj) : Below w.heap.size w (((w.alloc a).alloc b).alloc c) ∧ (((w.alloc a).alloc b).alloc c).heap[w.heap.size]? = some a ∧ (((w.alloc a).alloc b).alloc c).heap[w.heap.size + 1]? = some b ∧ (((w.alloc a).alloc b).alloc c).heap[w.heap.size + 1 + 1]? = some c := by
  have s1 : (w.alloc a).heap.size = w.heap.size + 1 := by simp
  have s2 : ((w.alloc a).alloc b).heap.size = w.heap.size + 1 + 1 := by simp
  refine ⟨(((Below.refl _ _).alloc (Nat.le_refl _) _).alloc (by omega) _).alloc (by omega) _, ?_, ?_, ?_⟩
  · exact (Below.heap_alloc _ _ _ (by omega)).trans ((Below.heap_alloc _ _ _ (by omega)).trans (alloc_new w a))
  · rw [← s1]; exact (Below.heap_alloc _ _ _ (by omega)).trans (alloc_new _ b)
  · rw [← s2]; exact alloc_new _ c
/-- What is known when one was asked for. -/
structure Nb (w W : World) (v4 vt : Value) (R R' : List En) (N xb : Nat) (so sk sa sb p1 p2 : Int) : Prop where
  q : HQ W w.heap.size (w.heap.size + 1) w.heap.size 13 kR v4 R' N
  r : OP W w.heap.size vt (R.map (·.1))
  x : W.heap[xb]? = some (zA so sk sa sb)
  y : W.heap[xb + 1]? = some (.cells #[.int .i64 sa] 3 (0, 0))
  g : W.heap[xb + 1 + 1]? = some (zP p1 p2)
  bl : Below w.heap.size w W
theorem Nb.later {w W W' : World} {v4 vt : Value} {R R' : List En} {N xb : Nat} {so sk sa sb p1 p2 : Int} (h : Nb w W v4 vt R R' N xb so sk sa sb p1 p2) (hb : Below W.heap.size W W') : Nb w W' v4 vt R R' N xb so sk sa sb p1 p2 :=
  ⟨h.q.later hb, h.r.later hb, blk_later h.x hb, blk_later h.y hb, blk_later h.g hb, h.bl.trans (hb.mono h.bl.size)⟩
theorem Nb.of {w wr W3 w4 : World} {v v4 vt : Value} {R R' : List En} {N t : Nat} {so sk sa sb : Int} (HR : Ns w wr v vt R N t) (b3 : Below wr.heap.size wr W3) (x3 : W3.heap[wr.heap.size]? = some (zA so sk sa sb)) (y3 : W3.heap[wr.heap.size + 1]? = some (.cells #[.int .i64 sa] 3 (0, 0))) (g3 : W3.heap[wr.heap.size + 1 + 1]? = some zPr)
    (h4 : HQ w4 w.heap.size (w.heap.size + 1) w.heap.size 13 kR v4 R' N) (f4 : Fq W3 w4 (w.heap.size + 1) v v4) (p1 p2 : Int) : w4.heap[wr.heap.size + 1 + 1]? = some zPr ∧ Nb w (w4.setRow (wr.heap.size + 1 + 1) #[.int .i64 p1, .int .i64 p2]) v4 vt R R' N wr.heap.size so sk sa sb p1 p2 := by
  have q3 := HR.q.later b3
  have g4 := blk_keepq q3 f4 g3 (by decide) (by decide)
  have f := (Fq.of_below (hb := w.heap.size + 1) (v := v) b3).trans f4
  obtain ⟨k1, k2⟩ := h4.box (cs := #[.int .i64 p1, .int .i64 p2]) f (by omega) g4
  exact ⟨g4, k1, HR.r.keepq HR.q k2, (setRow_other _ _ _ _ (by omega)).trans (blk_keepq q3 f4 x3 (by decide) (by decide)), (setRow_other _ _ _ _ (by omega)).trans (blk_keepq q3 f4 y3 (by decide) (by decide)), setRow_heap _ _ _ _ _ _ g4, HR.bl.trans (HR.q.below k2)⟩
theorem jfacts {j m tc : Nat} (h1 : j < m) (h2 : m ≤ tc) : (0 : Int) ≤ (j : Int) ∧ (j : Int) ≤ (tc : Int) ∧ (j : Int) + 1 ≤ (m : Int) ∧ (j : Int) + 1 ≤ (tc : Int) ∧ (m : Int) ≤ (tc : Int) ∧ (0 : Int) ≤ (j : Int) + 1 := by omega
theorem a2_ex {tc j m tg toff : Nat} (h : m ≤ tc) : ∃ a2 : Addr, (if tc = j + 1 then some (⟨tg, toff, none⟩ : Addr) else some ⟨tg, toff + (j + 1) * 2, none⟩) = some a2 ∧ (j + 1 < m → a2 = ⟨tg, toff + (j + 1) * 2, none⟩) := by
  by_cases q : tc = j + 1
  · exact ⟨_, by rw [if_pos q], fun h' => by omega⟩
  · exact ⟨_, by rw [if_neg q], fun _ => rfl⟩
theorem wj_nat {j : Nat} (h : j < 4611686018427387904) : IntKind.i64.wrap ((j : Int) + 1) = ((j + 1 : Nat) : Int) := by rw [IntKind.wrap_i64]; omega
theorem Nb.cut {w W : World} {v4 : Value} {R : List En} {N t xb m tc tg toff j : Nat} {x : En} {so sk sa sb p1 p2 : Int} (h : Nb w W v4 (.slice (some ⟨tg, toff, none⟩) m tc) R (er R x) N xb so sk sa sb p1 p2) (kn : Kn t R) (rs : Rs 0 R) (nt : N ≤ t) (hx : R[j]? = some x) (hm : R.length = m) (hn : m ≤ 5864062014805) (a2 : Addr) (c2 : Nat) (ha2 : j + 1 < m → a2 = ⟨tg, toff + (j + 1) * 2, none⟩) :
    ∃ va vc w9, (Builtin.append_ #[23, 23] 23 #[.slice (some ⟨tg, toff, none⟩) j j, .slice (some a2) (m - (j + 1)) c2]).run Try.prog W = .ok (.slice va (er R x).length vc) w9 ∧ Ns w w9 v4 (.slice va (er R x).length vc) (er R x) N (t + 1) := by
  have hj : j < m := by rw [← hm]; exact (List.getElem?_eq_some_iff.1 hx).1
  obtain ⟨v9, w9, hrun, r1, r2, r3⟩ := run_cut W w.heap.size 23 m tc tg toff (R.map (·.1)) h.r j hj a2 c2 ha2 (by rw [List.length_map]; omega) h.bl.size
  rw [cut_er rs hx] at r1
  obtain ⟨va, vc, hv9⟩ := OP.slc r1
  rw [List.length_map] at hv9
  subst hv9
  exact ⟨va, vc, w9, hrun, h.q.later r2, r1, (kn.er _).mono (by omega), by omega, h.bl.trans (r2.mono h.bl.size)⟩
end Go.Proofs.Ytolmngjppnmkoaa
