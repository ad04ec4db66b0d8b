/-
  My own text: a heap by its row: all its calls; the orders of pairs (printed by mkpb3.py).
-/
import Derived.Test.YtegemfkadclnkaaPB2
namespace Go.Proofs.Ytegemfkadclnkaa
open Go.RowKit

/-- What a call answers, what is left. -/
def ans (m : Option En) : Pr := match m with | none => (0, 0) | some e => e.1
def nx (R : List En) (m : Option En) : List En := match m with | none => R | some e => er R e
/-- A heap whose row is R, behind N pushes. -/
structure HQ (w : World) (B hb lb : Nat) (lf : FuncId) (k : Pr → Int) (v : Value) (R : List En) (N : Nat) : Prop where
  hp : ∃ E, HP w B hb lb lf v E N ∧ HeapOk (ltE k) E ∧ E.Perm R
  rs : Rs 0 R
  lt : ∀ e ∈ R, e.2 < N
  len : R.length ≤ N
  bw : B ≤ w.heap.size
  bh : B ≤ hb
theorem HQ.later {w w' : World} {B hb lb : Nat} {lf : FuncId} {k : Pr → Int} {v : Value} {R : List En} {N : Nat} (h : HQ w B hb lb lf k v R N) (hb' : Below w.heap.size w w') : HQ w' B hb lb lf k v R N := by
  obtain ⟨⟨E, h1, h2, h3⟩, h4, h5, h6, h7, h8⟩ := h
  exact ⟨⟨E, h1.later hb', h2, h3⟩, h4, h5, h6, Nat.le_trans h7 hb'.size, h8⟩
theorem HQ.hdr {w : World} {B hb lb : Nat} {lf : FuncId} {k : Pr → Int} {v : Value} {R : List En} {N : Nat} (h : HQ w B hb lb lf k v R N) : ∃ cs, w.heap[hb]? = some (.cells cs 55 (0, 0)) := by
  obtain ⟨E, h1, _⟩ := h.hp; exact ⟨_, h1.hdr⟩
theorem HQ.les {w : World} {B hb lb : Nat} {lf : FuncId} {k : Pr → Int} {v : Value} {R : List En} {N : Nat} (h : HQ w B hb lb lf k v R N) : w.heap[lb]? = some (.cells #[.func (Fn.func lf) #[] #[]] 26 (0, 0)) := by
  obtain ⟨E, h1, _⟩ := h.hp; exact h1.les
theorem HQ.own {w : World} {B hb lb : Nat} {lf : FuncId} {k : Pr → Int} {v : Value} {R : List En} {N : Nat} (h : HQ w B hb lb lf k v R N) : ∀ g, v.ownBlock = some g → B ≤ g ∧ ∃ cs, w.heap[g]? = some (.cells cs 51 (0, 0)) := by
  obtain ⟨E, h1, _⟩ := h.hp
  intro g hg
  refine ⟨(h1.row.lt g hg).1, ?_⟩
  rcases h1.row.2 with ⟨rfl, _⟩ | ⟨g', cap, cur, rfl, _, hh, _⟩
  · cases hg
  · cases hg; exact ⟨cur, hh⟩
theorem HQ.keep {w w' : World} {B hb lb : Nat} {lf : FuncId} {k : Pr → Int} {v : Value} {R : List En} {N : Nat} (h : HQ w B hb lb lf k v R N) (hs : w.heap.size ≤ w'.heap.size) (hk : ∀ g, g = hb ∨ g = lb ∨ v.ownBlock = some g → w'.heap[g]? = w.heap[g]?) : HQ w' B hb lb lf k v R N := by
  obtain ⟨⟨E, h1, h2, h3⟩, h4, h5, h6, h7, h8⟩ := h
  exact ⟨⟨E, h1.keep hk, h2, h3⟩, h4, h5, h6, Nat.le_trans h7 hs, h8⟩
theorem HQ.below {w w' : World} {B hb lb : Nat} {lf : FuncId} {k : Pr → Int} {v v' : Value} {R : List En} {N : Nat} (h : HQ w B hb lb lf k v R N) (hf : Fq w w' hb v v') : Below B w w' := hf.below h.bw h.bh (fun g hg => (h.own g hg).1)
/-- Blocks of other types are not the heap's. -/
theorem HQ.ne {w : World} {B hb lb : Nat} {lf : FuncId} {k : Pr → Int} {v : Value} {R : List En} {N : Nat} (h : HQ w B hb lb lf k v R N) {g : Nat} {cs : Array Value} {t : TypeId} {fz : Nat × Nat} (hg : w.heap[g]? = some (.cells cs t fz)) (h1 : t ≠ 55) (h2 : t ≠ 51) : g ≠ hb ∧ some g ≠ v.ownBlock := by
  refine ⟨fun e => ?_, fun e => ?_⟩
  · obtain ⟨cs', hh⟩ := h.hdr
    rw [e, hh] at hg; injection hg with hg; injection hg with _ hg; exact h1 hg.symm
  · obtain ⟨_, cs', hh⟩ := h.own g e.symm
    rw [hh] at hg; injection hg with hg; injection hg with _ hg; exact h2 hg.symm
theorem newQ (lf : FuncId) (k : Pr → Int) (w : World) :
    Calls Try.prog 4 #[.func (Fn.func lf) #[] #[]] w fun e w' => e = .returned (.pointer (some ⟨w.heap.size + 1, 0, none⟩)) ∧ HQ w' w.heap.size (w.heap.size + 1) w.heap.size lf k (.slice none 0 0) [] 0 ∧ Below w.heap.size w w' := by
  refine (new_any lf w.heap.size w).mono ?_
  rintro e w' ⟨rfl, h, hb⟩
  exact ⟨rfl, ⟨⟨[], h, fun j x y _ hx => by simp at hx, List.Perm.refl _⟩, trivial, fun _ he => by simp at he, by simp, hb.size, by omega⟩, hb⟩
theorem pushQ {lf : FuncId} {k : Pr → Int} (hl : LOk lf k) (x : Pr) {B hb lb : Nat} {v : Value} {R : List En} {N : Nat} {w : World} (h : HQ w B hb lb lf k v R N) (hN : N < 5864062014805) :
    Calls Try.prog 10 #[.pointer (some ⟨hb, 0, none⟩), pv x] w fun e w' => (∃ u, e = .returned u) ∧ ∃ v', HQ w' B hb lb lf k v' (R ++ [(x, N)]) (N + 1) ∧ Fq w w' hb v v' := by
  obtain ⟨⟨E, h1, h2, h3⟩, h4, h5, h6, h7, h8⟩ := h
  refine (push_any hl x B hb lb v E N w h1 h2 (by rw [h3.length_eq]; omega) (by omega) h7).mono ?_
  rintro _ w' ⟨he, v', E', g1, g2, g3, g4⟩
  refine ⟨he, v', ⟨⟨E', g3, g2, g1.trans (h3.append_right _)⟩, h4.snoc (Nat.zero_le _) h5, fun e' he => ?_, by rw [List.length_append]; simp; omega, Nat.le_trans h7 g4.size, h8⟩, g4⟩
  rcases List.mem_append.1 he with q | q
  · have := h5 e' q; omega
  · simp at q; subst q; simp
theorem HQ.mn_head {w : World} {B hb lb : Nat} {lf : FuncId} {k : Pr → Int} {v : Value} {R E : List En} {N : Nat} {x : En} (h : HQ w B hb lb lf k v R N) (hk : HeapOk (ltE k) E) (hp : E.Perm R) (hx : E[0]? = some x) : mn k (fun _ => true) R = some x :=
  mn_of h.rs (hp.mem_iff.1 (List.mem_of_getElem? hx)) rfl (fun _ he _ => hk.mem (ltE_so k) hx (hp.mem_iff.2 he))
theorem HQ.out {w w' : World} {B hb lb : Nat} {lf : FuncId} {k : Pr → Int} {v v' : Value} {R E E' : List En} {N : Nat} {x : En} (h : HQ w B hb lb lf k v R N) (hp : E.Perm R) (g1 : (x :: E').Perm E) (g2 : HeapOk (ltE k) E') (g3 : HP w' B hb lb lf v' E' N) (g4 : Fq w w' hb v v') : HQ w' B hb lb lf k v' (er R x) N := by
  obtain ⟨p1, p2⟩ := perm_out g1 hp
  exact ⟨⟨E', g3, g2, p1⟩, h.rs.er x, fun e he => h.lt e (er_sub he), by have := h.len; omega, Nat.le_trans h.bw g4.size, h.bh⟩
theorem popQ {lf : FuncId} {k : Pr → Int} (hl : LOk lf k) {B hb lb : Nat} {v : Value} {R : List En} {N : Nat} {w : World} (h : HQ w B hb lb lf k v R N) (hN : N ≤ 5864062014805) :
    Calls Try.prog 8 #[.pointer (some ⟨hb, 0, none⟩)] w fun e w' => e = .returned (.tuple #[pv (ans (mn k (fun _ => true) R)), .bool (mn k (fun _ => true) R).isSome]) ∧ ∃ v', HQ w' B hb lb lf k v' (nx R (mn k (fun _ => true) R)) N ∧ Fq w w' hb v v' := by
  obtain ⟨E, h1, h2, h3⟩ := h.hp
  cases E with
  | nil =>
    have hR : R = [] := h3.symm.eq_nil
    subst hR
    refine (pop_no B hb lb lf v N w h1).mono ?_
    rintro e w' ⟨rfl, hb'⟩
    exact ⟨rfl, v, h.later hb', Fq.of_below hb'⟩
  | cons x E =>
    rw [h.mn_head h2 h3 rfl]
    refine (pop_yes hl x B hb lb v (x :: E) N w h1 h2 rfl (by rw [h3.length_eq]; have := h.len; omega) h.bw).mono ?_
    rintro e w' ⟨rfl, v', E', g1, g2, g3, g4⟩
    exact ⟨rfl, v', h.out h3 g1 g2 g3 g4, g4⟩
theorem peekQ {lf : FuncId} {k : Pr → Int} {B hb lb : Nat} {v : Value} {R : List En} {N : Nat} {w : World} (h : HQ w B hb lb lf k v R N) :
    Calls Try.prog 12 #[.pointer (some ⟨hb, 0, none⟩)] w fun e w' => e = .returned (.tuple #[pv (ans (mn k (fun _ => true) R)), .bool (mn k (fun _ => true) R).isSome]) ∧ Below w.heap.size w w' := by
  obtain ⟨E, h1, h2, h3⟩ := h.hp
  cases E with
  | nil =>
    have hR : R = [] := h3.symm.eq_nil
    subst hR
    exact peek_no B hb lb lf v N w h1
  | cons x E =>
    rw [h.mn_head h2 h3 rfl]
    exact peek_yes B hb lb lf v (x :: E) x N w h1 rfl
theorem lenQ {lf : FuncId} {k : Pr → Int} {B hb lb : Nat} {v : Value} {R : List En} {N : Nat} {w : World} (h : HQ w B hb lb lf k v R N) :
    Calls Try.prog 17 #[.pointer (some ⟨hb, 0, none⟩)] w fun e w' => e = .returned (.int .i64 (R.length : Int)) ∧ w' = w := by
  obtain ⟨E, h1, h2, h3⟩ := h.hp
  rw [← h3.length_eq]
  exact len_any B hb lb lf v E N w h1
theorem removeQ {lf : FuncId} {k : Pr → Int} (hl : LOk lf k) {isf : FuncId} {caps : Array Value} {p : Pr → Bool} {B hb lb : Nat} {v : Value} {R : List En} {N : Nat} {w : World} (hI : IOk w isf caps p) (h : HQ w B hb lb lf k v R N) (hN : N ≤ 5864062014805) :
    Calls Try.prog 14 #[.pointer (some ⟨hb, 0, none⟩), .func (Fn.func isf) #[] caps] w fun e w' => e = .returned (.tuple #[pv (ans (mn k p R)), .bool (mn k p R).isSome]) ∧ ∃ v', HQ w' B hb lb lf k v' (nx R (mn k p R)) N ∧ Fq w w' hb v v' := by
  obtain ⟨E, h1, h2, h3⟩ := h.hp
  refine (remove_any hl isf caps p B hb lb v E N w hI h1 h2 (by rw [h3.length_eq]; have := h.len; omega) h.bw).mono ?_
  rintro e w' (⟨rfl, g1, hb'⟩ | ⟨x, rfl, x1, x2, x3, v', E', g1, g2, g3, g4⟩)
  · rw [mn_none.2 (fun e he => g1 e (h3.mem_iff.2 he))]
    exact ⟨rfl, v, h.later hb', Fq.of_below hb'⟩
  · rw [mn_of h.rs (h3.mem_iff.1 x1) x2 (fun e he hp => x3 e (h3.mem_iff.2 he) hp)]
    exact ⟨rfl, v', h.out h3 g1 g2 g3 g4, g4⟩
theorem sortedQ {lf : FuncId} {k : Pr → Int} (hl : LOk lf k) {B hb lb : Nat} {v : Value} {R : List En} {N : Nat} {w : World} (h : HQ w B hb lb lf k v R N) (hN : N ≤ 5864062014805) :
    Calls Try.prog 18 #[.pointer (some ⟨hb, 0, none⟩)] w fun e w' => ∃ v', e = .returned v' ∧ OM w' w.heap.size v' (srt k R.length R) ∧ Below w.heap.size w w' := by
  obtain ⟨E, h1, h2, h3⟩ := h.hp
  exact sorted_any hl B hb lb v E R N w h1 h2 h3 h.rs (by rw [h3.length_eq]; have := h.len; omega)
/-- The keys of pairs. -/
def kR (p : Pr) : Int := p.1
def kF (p : Pr) : Int := -p.1
set_option maxRecDepth 100000 in
set_option maxHeartbeats 1000000 in
theorem rises_ok : LOk 5 kR := by
  refine ⟨fun W a => rfl, fun x y W => ?_⟩
  obtain ⟨x1, x2⟩ := x
  obtain ⟨y1, y2⟩ := y
  have e : decide (kR (x1, x2) < kR (y1, y2)) = decide (x1 < y1) := by rfl
  rw [e]
  unfold pv
  dsimp only
  have B0 := hide (((Below.refl W.heap.size W).alloc (Nat.le_refl _) (.cells #[.int .i64 x1, .int .i64 x2] 25)).alloc (by simp) (.cells #[.int .i64 y1, .int .i64 y2] 25))
  cases d : decide (x1 < y1)
  all_goals
    go_enter Try.func5, Try.ntmps5
    go_wp2_with fail
    go_ret
    exact ⟨rfl, B0.out⟩
set_option maxRecDepth 100000 in
set_option maxHeartbeats 1000000 in
theorem falls_ok : LOk 6 kF := by
  refine ⟨fun W a => rfl, fun x y W => ?_⟩
  obtain ⟨x1, x2⟩ := x
  obtain ⟨y1, y2⟩ := y
  have e : decide (kF (x1, x2) < kF (y1, y2)) = decide (y1 < x1) := by congr 1; unfold kF; simp
  rw [e]
  unfold pv
  dsimp only
  have B0 := hide (((Below.refl W.heap.size W).alloc (Nat.le_refl _) (.cells #[.int .i64 x1, .int .i64 x2] 25)).alloc (by simp) (.cells #[.int .i64 y1, .int .i64 y2] 25))
  cases d : decide (y1 < x1)
  all_goals
    go_enter Try.func6, Try.ntmps6
    go_wp2_with fail
    go_ret
    exact ⟨rfl, B0.out⟩
end Go.Proofs.Ytegemfkadclnkaa
