/-
  My own text: any call of a reader; what two readers hold.
-/
import Derived.Test.YthalmfbcdkihgaaDoorWQ5
import Derived.Test.YthalmfbcdkihgaaDoorWS2
namespace Go.Proofs.YthalmfbcdkihgaaDoor
open Go.RowKit Go.Extern

structure Gt where
  on : Int
  kd : Int
  x : Int
  n : Int
def gtV (p : Gt) : Value := .agg #[.int .i64 p.on, .int .i64 p.kd, .int .u64 p.x, .int .i64 p.n]
def ansV (p : Gt) (l : List UInt8) (e : Int) : Value := gv (ansX p.kd p.x l e) (ansS p.kd p.n l e) (ansE p.kd l e)
theorem nxt_rng (kd x n : Int) (l : List UInt8) (e : Int) (he : 0 ≤ e) (h24 : e ≤ 24) : 0 ≤ (nxt kd x n l e).2 ∧ (nxt kd x n l e).2 ≤ 24 ∧ (nxt kd x n l e).1.length ≤ l.length := by
  unfold nxt
  obtain ⟨_, _, a, b, c⟩ := rdU_rng x l e he h24
  obtain ⟨_, _, a1, b1, c1⟩ := rdU_rng 18446744073709551615 l e he h24
  obtain ⟨a2, b2, c2⟩ := rdX_rng n l e he h24
  split
  · exact ⟨a, b, c⟩
  · split
    · exact ⟨a1, b1, c1⟩
    · split
      · exact ⟨a2, b2, c2⟩
      · exact ⟨he, h24, Nat.le_refl _⟩
theorem ask_any (p : Gt) (t r g : Nat) (l : List UInt8) (e : Int) (w : World) (hd : Rd w t r g l e) (he : 0 ≤ e) (h24 : e ≤ 24) (hl : l.length ≤ 140737488355328) (hn : p.n ≤ 9223372036854775807) (hE : ErrType w) :
    Calls Tryd.prog 48 #[.pointer (some ⟨r, 0, none⟩), gtV p] w fun en w' => en = .returned (ansV p l e) ∧ Rd w' t r g (nxt p.kd p.x p.n l e).1 (nxt p.kd p.x p.n l e).2 ∧ Only r w w' := by
  obtain ⟨on, kd, x, n⟩ := p
  by_cases h0 : kd = 0
  · subst h0; exact ask_0 t r g l e on x n w hd he h24 hl
  by_cases h1 : kd = 1
  · subst h1; exact ask_1 t r g l e on x n w hd he h24 hl
  by_cases h2 : kd = 2
  · subst h2; exact ask_2 t r g l e on x n w hd he h24 hl hn
  by_cases h3 : kd = 3
  · subst h3; exact ask_3 t r g l e on x n w hd he h24 hl
  by_cases h4 : kd = 4
  · subst h4; exact ask_4 t r g l e on x n w hd he h24 hl hE
  have h := ask_5 t r g l e on kd x n w hd he h24 hl hE h0 h1 h2 h3 h4
  unfold gtV ansV ansX ansS ansE nxt
  simp only [h0, h1, h2, h3, h4, if_false, or_self]
  exact h
theorem tell_any (p : Gt) (q o g m : Nat) (v : Value) (L : List UInt8) (e : Int) (w : World) (hf : Rf w q o v m e) (hg : RG w g v L) (hgq : g ≠ q) (hmL : m ≤ L.length) (he : 0 ≤ e) (h24 : e ≤ 24) (hl : L.length ≤ 140737488355328) (hn : p.n ≤ 9223372036854775807) :
    Calls Tryd.prog 49 #[.pointer (some ⟨q, o, none⟩), gtV p] w fun en w' => en = .returned (ansV p (L.drop m) e) ∧ After w w' q o v L (nxt p.kd p.x p.n (L.drop m) e).1 (nxt p.kd p.x p.n (L.drop m) e).2 := by
  obtain ⟨on, kd, x, n⟩ := p
  by_cases h0 : kd = 0
  · subst h0; exact tell_0 q o g m v L e on x n w hf hg hgq hmL he h24 hl
  by_cases h1 : kd = 1
  · subst h1; exact tell_1 q o g m v L e on x n w hf hg hgq hmL he h24 hl
  by_cases h2 : kd = 2
  · subst h2; exact tell_2 q o g m v L e on x n w hf hg hgq hmL he h24 hl hn
  by_cases h3 : kd = 3
  · subst h3; exact tell_3 q o g m v L e on x n w hf hg hgq hmL he h24 hl
  by_cases h4 : kd = 4
  · subst h4; exact tell_4 q o g m v L e on x n w hf hg hgq hmL he h24 hl
  have h := tell_5 q o g m v L e on kd x n w hf hg hgq hmL he h24 hl h0 h1 h2 h3 h4
  unfold gtV ansV ansX ansS ansE nxt
  simp only [h0, h1, h2, h3, h4, if_false, or_self]
  exact h
/-- A slice of calls. -/
def RQ (w : World) (v : Value) (ps : List Gt) : Prop :=
  ∃ a cap, v = .slice a ps.length cap ∧ (ps = [] ∨ ∃ b off, a = some ⟨b, off, none⟩ ∧ b < w.heap.size ∧ ∀ j p, ps[j]? = some p →
    w.cell? ⟨b, off + j * 4, none⟩ = some (.int .i64 p.on) ∧ w.cell? ⟨b, off + j * 4 + 1, none⟩ = some (.int .i64 p.kd) ∧ w.cell? ⟨b, off + j * 4 + 2, none⟩ = some (.int .u64 p.x) ∧ w.cell? ⟨b, off + j * 4 + 3, none⟩ = some (.int .i64 p.n))
end Go.Proofs.YthalmfbcdkihgaaDoor
