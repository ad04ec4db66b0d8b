/-
  My own text: the law GuardEncode (printed by mkg24.py).
-/
import Derived.Test.YtejdchknpfodeaaDoorG23
import Derived.Test.YtejdchknpfodeaaDoorG8
import Derived.Test.YtejdchknpfodeaaDoorGIS
import Derived.Test.YtejdchknpfodeaaDoorGIA
namespace Go.Proofs.YtejdchknpfodeaaDoor
open Go.RowKit

theorem encE_rng (o : OpX) : 0 ≤ encE o ∧ encE o ≤ 24 := by unfold encE; split <;> omega
theorem encL_len (o : OpX) (hl : o.legs.length ≤ 3518437208800) (hp : o.pairs.length ≤ 8796093022000) : (encL o).length ≤ 17592186044002 := by
  unfold encL
  (repeat' split) <;> first | (simp; done) | (simp only [List.length_cons, rowLG_len]; omega) | (simp only [List.length_cons, rowKY_len]; omega)
/-- What is held while GuardEncode goes. -/
structure ES (w : World) (o : OpX) (X : List Int) (BL g cap BP g2 cap2 B2 : Nat) (lv pv v0 v1 v2 : Value) (W : World) : Prop where
  low : Below w.heap.size w W
  cb : W.heap[w.heap.size]? = some (.cells #[.int .i64 o.code, .int .i64 o.acc, .int .i64 o.ass, .int .i64 o.qty, .int .i64 o.name, .int .i64 o.id, lv, pv] 26 (0, 0))
  lg : LG.LentM W BL g cap o.legs
  ky : KY.LentM W BP g2 cap2 o.pairs
  V0 : LN.OM W w.heap.size v0 X
  V1 : LN.OM W w.heap.size v1 X
  V2 : LN.OM W B2 v2 X
  lt1 : ∀ b, v1.ownBlock = some b → b < B2
  hB : w.heap.size ≤ B2
theorem ES.later {w : World} {o : OpX} {X : List Int} {BL g cap BP g2 cap2 B2 : Nat} {lv pv v0 v1 v2 : Value} {W W' : World} (h : ES w o X BL g cap BP g2 cap2 B2 lv pv v0 v1 v2 W) (hb : Below W.heap.size W W') : ES w o X BL g cap BP g2 cap2 B2 lv pv v0 v1 v2 W' :=
  ⟨h.low.trans (hb.mono h.low.size), blk_later h.cb hb, h.lg.later hb, h.ky.later hb, owns_lat h.V0 hb, owns_lat h.V1 hb, owns_lat h.V2 hb, h.lt1, h.hB⟩
/-- While a lent row is written over. -/
structure WS (V : World) (g B cap n : Nat) (e : TypeId) (size : Nat) (W : World) : Prop where
  own : ∃ xs, W.ownsRow B e size (.slice (some ⟨g, 0, none⟩) n cap) n xs
  os : W.os = V.os
  tape : W.tape = V.tape
  output : W.output = V.output
  size : W.heap.size = V.heap.size
  block : ∀ b, b ≠ g → W.heap[b]? = V.heap[b]?
theorem WS.set {V W : World} {g B cap n : Nat} {e : TypeId} {size : Nat} (h : WS V g B cap n e size W) (k : Nat) (u : Value) : WS V g B cap n e size (W.setCell ⟨g, k, none⟩ u) := by
  obtain ⟨xs, hx⟩ := h.own
  exact ⟨⟨_, (hx.stored k u).1⟩, h.os, h.tape, h.output, by simpa using h.size, fun b hb => (Below.heap_setCell _ _ _ b hb).trans (h.block b hb)⟩
theorem WS.cell {V W : World} {g B cap n : Nat} {e : TypeId} {size : Nat} (h : WS V g B cap n e size W) {k : Nat} (hk : k < n * size) : (∃ u, W.cell? ⟨g, k, none⟩ = some u) ∧ W.frozen? ⟨g, k, none⟩ = false := by
  obtain ⟨xs, hx⟩ := h.own
  have h1 := hx.cellAt k hk
  have h2 := hx.1
  exact ⟨⟨xs[k]'(by omega), h1.trans (List.getElem?_eq_getElem _)⟩, World.ownsRow.frozenAt hx k⟩
theorem ws_below {w V W : World} {g B cap n : Nat} {e : TypeId} {size : Nat} (h : WS V g B cap n e size W) (hV : Below w.heap.size w V) (hg : w.heap.size ≤ g) : Below w.heap.size w W :=
  ⟨h.os.trans hV.os, h.tape.trans hV.tape, h.output.trans hV.output, by rw [h.size]; exact hV.size, fun b hb => (h.block b (by omega)).trans (hV.block b hb)⟩
theorem ws_ln {V W : World} {g B cap n : Nat} {e : TypeId} {size : Nat} (h : WS V g B cap n e size W) (hne : e ≠ 2) {C : Nat} {v : Value} {X : List Int} (ho : LN.OM V C v X) (hV : ∃ xs, V.ownsRow B e size (.slice (some ⟨g, 0, none⟩) n cap) n xs) : LN.OM W C v X := by
  obtain ⟨xs, hx⟩ := hV
  obtain ⟨c2, fz2, h2⟩ := ownsRow_kind hx g rfl
  exact owns_blk ho (fun b hb => h.block b (fun e1 => by
    obtain ⟨c, fz, h1⟩ := ownsRow_kind ho b hb
    rw [e1, h2] at h1
    injection h1 with h1
    injection h1 with _ h1 _
    exact hne h1))
theorem ln_two {w W : World} {B2 c1 c2 : Nat} {a1 a2 : Option Addr} {X : List Int} (h1 : LN.OM W w.heap.size (.slice a1 X.length c1) X) (h2 : LN.OM W B2 (.slice a2 X.length c2) X) (hlt : ∀ b, (Value.slice a1 X.length c1).ownBlock = some b → b < B2) (hB : w.heap.size ≤ B2) :
    LN.AllB (W.alloc (.cells #[.slice a1 X.length c1, .slice a2 X.length c2] 22)) w.heap.size W.heap.size 2 (fun k => if k = 0 then a1 else a2) (fun _ => X.length) (fun k => if k = 0 then c1 else c2) (fun _ => X) := by
  have N := alloc_new W (.cells #[.slice a1 X.length c1, .slice a2 X.length c2] 22)
  refine ⟨by simp, fun k hk => ?_, fun k hk => ?_, fun k hk => ?_, fun j k b hj hk e1 e2 => ?_⟩
  · match k, hk with
    | 0, _ => exact (pair_cells N rfl).1
    | 1, _ => exact (pair_cells N rfl).2
  · match k, hk with
    | 0, _ => exact World.ownsRow.alloc h1 _
    | 1, _ => exact World.ownsRow.alloc (World.ownsRow.mono h2 hB) _
  · match k, hk with
    | 0, _ => exact fun e => by have := (World.ownsRow.lt h1 _ e).2; omega
    | 1, _ => exact fun e => by have := (World.ownsRow.lt h2 _ e).2; omega
  · match j, hj, k, hk, e1, e2 with
    | 0, _, 0, _, _, _ => rfl
    | 1, _, 1, _, _, _ => rfl
    | 0, _, 1, _, e1, e2 => have h3 := hlt b e1; have := (World.ownsRow.lt h2 b e2).1; omega
    | 1, _, 0, _, e1, e2 => have h3 := hlt b e2; have := (World.ownsRow.lt h2 b e1).1; omega
end Go.Proofs.YtejdchknpfodeaaDoor
