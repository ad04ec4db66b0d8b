/-
  My own text: are two operations the same?; the things that GuardDecode holds.
-/
import Derived.Test.YtdiamlajmcikhaaGreatDoorG16
import Derived.Test.YtdiamlajmcikhaaGreatDoorGKS
import Derived.Test.YtdiamlajmcikhaaGreatDoorGLS
import Derived.Test.YtdiamlajmcikhaaGreatDoorGKA
import Derived.Test.YtdiamlajmcikhaaGreatDoorGLA
import Derived.Test.YtdiamlajmcikhaaGreatDoorGIL
namespace Go.Proofs.YtdiamlajmcikhaaGreatDoor
open Go.RowKit

set_option maxRecDepth 100000 in
set_option maxHeartbeats 4000000 in
theorem sameOp_eq (o : OpX) (l1 p1 l2 p2 : Value) (w : World) (h1 : LG.RM w l1 o.legs) (h2 : LG.RM w l2 o.legs) (h3 : KY.RM w p1 o.pairs) (h4 : KY.RM w p2 o.pairs) (hl : o.legs.length ≤ 4611686018427387904) (hp : o.pairs.length ≤ 4611686018427387904) :
    Calls Tryz.prog 27 #[opV o l1 p1, opV o l2 p2] w fun e w' => e = .returned (.bool true) ∧ Below w.heap.size w w' := by
  have HL := hide (fun (W : World) (hb : Below w.heap.size w W) => LG.sameM_any l1 l2 o.legs o.legs W (h1.later hb) (h2.later hb) hl hl)
  have HP := hide (fun (W : World) (hb : Below w.heap.size w W) => KY.sameM_any p1 p2 o.pairs o.pairs W (h3.later hb) (h4.later hb) hp hp)
  simp only [decide_true] at HL HP
  clear h1 h2 h3 h4
  unfold opV
  obtain ⟨cd, ac, as_, qt, nm, id, L, P⟩ := o
  dsimp only at *
  have f1 : (cd != cd) = false := by simp
  have f2 : (ac != ac) = false := by simp
  have f3 : (as_ != as_) = false := by simp
  have f4 : (qt != qt) = false := by simp
  have f5 : (nm != nm) = false := by simp
  have f6 : (id != id) = false := by simp
  have B0 := hide (two_below w (.cells #[.int .i64 cd, .int .i64 ac, .int .i64 as_, .int .i64 qt, .int .i64 nm, .int .i64 id, l1, p1] 26) (.cells #[.int .i64 cd, .int .i64 ac, .int .i64 as_, .int .i64 qt, .int .i64 nm, .int .i64 id, l2, p2] 26))
  have X0 := hide (two_new w (.cells #[.int .i64 cd, .int .i64 ac, .int .i64 as_, .int .i64 qt, .int .i64 nm, .int .i64 id, l1, p1] 26) (.cells #[.int .i64 cd, .int .i64 ac, .int .i64 as_, .int .i64 qt, .int .i64 nm, .int .i64 id, l2, p2] 26))
  obtain ⟨x0, x1, x2, x3, x4, x5, x6, x7⟩ := eight_cells X0.out.1 rfl
  obtain ⟨y0, y1, y2, y3, y4, y5, y6, y7⟩ := eight_cells X0.out.2 rfl
  go_enter Tryz.func27, Tryz.ntmps27
  go_wp2_with fail
  refine (HL.out _ B0.out).mono ?_
  rintro e w1 ⟨rfl, hb⟩
  have B1 := hide (B0.out.trans (hb.mono B0.out.size))
  have X1 := hide (blk_later X0.out.1 hb)
  have Y1 := hide (blk_later X0.out.2 hb)
  clear hb x0 x1 x2 x3 x4 x5 x6 x7 y0 y1 y2 y3 y4 y5 y6 y7
  obtain ⟨x0, x1, x2, x3, x4, x5, x6, x7⟩ := eight_cells X1.out rfl
  obtain ⟨y0, y1, y2, y3, y4, y5, y6, y7⟩ := eight_cells Y1.out rfl
  go_wp2_with fail
  refine (HP.out _ B1.out).mono ?_
  rintro e w2 ⟨rfl, hb⟩
  have B2 := hide (B1.out.trans (hb.mono B1.out.size))
  clear hb
  go_wp2_with fail
  go_ret
  exact ⟨rfl, B2.out⟩
/-- What is held while GuardDecode goes: the lent row's block g, three answers in boxes, their rows. -/
structure DS (w : World) (g : Nat) (o : OpX) (b3 b6 b8 B2 : Nat) (l0 p0 l1 p1 l2 p2 : Value) (W : World) : Prop where
  low : Below w.heap.size w W
  gk : ∃ c, W.heap[g]? = some (.cells c 2 (0, 0))
  c3 : W.heap[b3]? = some (.cells #[.int .i64 o.code, .int .i64 o.acc, .int .i64 o.ass, .int .i64 o.qty, .int .i64 o.name, .int .i64 o.id, l0, p0] 26 (0, 0))
  c6 : W.heap[b6]? = some (.cells #[.int .i64 o.code, .int .i64 o.acc, .int .i64 o.ass, .int .i64 o.qty, .int .i64 o.name, .int .i64 o.id, l1, p1] 26 (0, 0))
  c8 : W.heap[b8]? = some (.cells #[.int .i64 o.code, .int .i64 o.acc, .int .i64 o.ass, .int .i64 o.qty, .int .i64 o.name, .int .i64 o.id, l2, p2] 26 (0, 0))
  L0 : LG.OM W w.heap.size l0 o.legs
  P0 : KY.OM W w.heap.size p0 o.pairs
  L1 : LG.OM W w.heap.size l1 o.legs
  P1 : KY.OM W w.heap.size p1 o.pairs
  L2 : LG.OM W B2 l2 o.legs
  P2 : KY.OM W B2 p2 o.pairs
  lt1 : ∀ b, l1.ownBlock = some b → b < B2
  lt1p : ∀ b, p1.ownBlock = some b → b < B2
  hB : w.heap.size ≤ B2
theorem kind_ne {W : World} {g b : Nat} {c c' : Array Value} {t t' : TypeId} {z z' : Nat × Nat} (h : W.heap[g]? = some (.cells c t z)) (h' : W.heap[b]? = some (.cells c' t' z')) (hne : t ≠ t') : b ≠ g := fun e => by
  rw [e, h] at h'
  injection h' with h'
  injection h' with _ h' _
  exact hne h'
theorem DS.keep {w : World} {g : Nat} {o : OpX} {b3 b6 b8 B2 : Nat} {l0 p0 l1 p1 l2 p2 : Value} {W W' : World} (h : DS w g o b3 b6 b8 B2 l0 p0 l1 p1 l2 p2 W) (hl : Below w.heap.size w W') (hg : ∃ c, W'.heap[g]? = some (.cells c 2 (0, 0))) (hb : ∀ b, b < W.heap.size → b ≠ g → W'.heap[b]? = W.heap[b]?) : DS w g o b3 b6 b8 B2 l0 p0 l1 p1 l2 p2 W' := by
  obtain ⟨cg, hgk⟩ := h.gk
  have bx : ∀ {b : Nat} {c : Array Value}, W.heap[b]? = some (.cells c 26 (0, 0)) → W'.heap[b]? = some (.cells c 26 (0, 0)) := fun {b c} hc => (hb b (Array.getElem?_eq_some_iff.1 hc).1 (kind_ne hgk hc (by decide))).trans hc
  have lx : ∀ {B : Nat} {v : Value} {L : List LG.El}, LG.OM W B v L → LG.OM W' B v L := fun {B v L} ho => owns_blk ho (fun b hbv => by
    obtain ⟨c2, fz, h2⟩ := ownsRow_kind ho b hbv
    exact hb b (Array.getElem?_eq_some_iff.1 h2).1 (kind_ne hgk h2 (by decide)))
  have px : ∀ {B : Nat} {v : Value} {L : List KY.El}, KY.OM W B v L → KY.OM W' B v L := fun {B v L} ho => owns_blk ho (fun b hbv => by
    obtain ⟨c2, fz, h2⟩ := ownsRow_kind ho b hbv
    exact hb b (Array.getElem?_eq_some_iff.1 h2).1 (kind_ne hgk h2 (by decide)))
  exact ⟨hl, hg, bx h.c3, bx h.c6, bx h.c8, lx h.L0, px h.P0, lx h.L1, px h.P1, lx h.L2, px h.P2, h.lt1, h.lt1p, h.hB⟩
theorem DS.later {w : World} {g : Nat} {o : OpX} {b3 b6 b8 B2 : Nat} {l0 p0 l1 p1 l2 p2 : Value} {W W' : World} (h : DS w g o b3 b6 b8 B2 l0 p0 l1 p1 l2 p2 W) (hb : Below W.heap.size W W') : DS w g o b3 b6 b8 B2 l0 p0 l1 p1 l2 p2 W' := by
  obtain ⟨cg, hgk⟩ := h.gk
  exact h.keep (h.low.trans (hb.mono h.low.size)) ⟨cg, blk_later hgk hb⟩ (fun b hlt _ => hb.block b hlt)
theorem sp_below {K : Nat} {av : Nat → Option Addr} {n c : Nat → Nat} {w W W' : World} (hs : Sp K av n c W W') (h : Below w.heap.size w W) (ho : ∀ k, k < K → ∀ b, (Value.slice (av k) (n k) (c k)).ownBlock = some b → w.heap.size ≤ b) : Below w.heap.size w W' :=
  ⟨hs.os.trans h.os, hs.tape.trans h.tape, hs.output.trans h.output, Nat.le_trans h.size hs.size, fun b hb => (hs.block b (Nat.lt_of_lt_of_le hb h.size) (fun k hk e => by have := ho k hk b e; omega)).trans (h.block b hb)⟩
/-- Two rows of legs in a new list. -/
theorem lg_two {w W : World} {B2 c1 c2 : Nat} {a1 a2 : Option Addr} {X : List LG.El} (h1 : LG.OM W w.heap.size (.slice a1 X.length c1) X) (h2 : LG.OM W B2 (.slice a2 X.length c2) X) (hlt : ∀ b, (Value.slice a1 X.length c1).ownBlock = some b → b < B2) (hB : w.heap.size ≤ B2) :
    LG.AllM (W.alloc (.cells #[.slice a1 X.length c1, .slice a2 X.length c2] 23)) w.heap.size W.heap.size 2 (fun k => if k = 0 then a1 else a2) (fun _ => X.length) (fun k => if k = 0 then c1 else c2) (fun _ => X) := by
  have N := alloc_new W (.cells #[.slice a1 X.length c1, .slice a2 X.length c2] 23)
  refine ⟨by simp, fun k hk => ?_, fun k hk => ?_, fun k hk => ?_, fun j k b hj hk e1 e2 => ?_⟩
  · match k, hk with
    | 0, _ => exact (pair_cells N rfl).1
    | 1, _ => exact (pair_cells N rfl).2
  · match k, hk with
    | 0, _ => exact World.ownsRow.alloc h1 _
    | 1, _ => exact World.ownsRow.alloc (World.ownsRow.mono h2 hB) _
  · match k, hk with
    | 0, _ => exact fun e => by have := (World.ownsRow.lt h1 _ e).2; omega
    | 1, _ => exact fun e => by have := (World.ownsRow.lt h2 _ e).2; omega
  · match j, hj, k, hk, e1, e2 with
    | 0, _, 0, _, _, _ => rfl
    | 1, _, 1, _, _, _ => rfl
    | 0, _, 1, _, e1, e2 => have h3 := hlt b e1; have := (World.ownsRow.lt h2 b e2).1; omega
    | 1, _, 0, _, e1, e2 => have h3 := hlt b e2; have := (World.ownsRow.lt h2 b e1).1; omega
theorem ky_two {w W : World} {B2 c1 c2 : Nat} {a1 a2 : Option Addr} {X : List KY.El} (h1 : KY.OM W w.heap.size (.slice a1 X.length c1) X) (h2 : KY.OM W B2 (.slice a2 X.length c2) X) (hlt : ∀ b, (Value.slice a1 X.length c1).ownBlock = some b → b < B2) (hB : w.heap.size ≤ B2) :
    KY.AllM (W.alloc (.cells #[.slice a1 X.length c1, .slice a2 X.length c2] 24)) w.heap.size W.heap.size 2 (fun k => if k = 0 then a1 else a2) (fun _ => X.length) (fun k => if k = 0 then c1 else c2) (fun _ => X) := by
  have N := alloc_new W (.cells #[.slice a1 X.length c1, .slice a2 X.length c2] 24)
  refine ⟨by simp, fun k hk => ?_, fun k hk => ?_, fun k hk => ?_, fun j k b hj hk e1 e2 => ?_⟩
  · match k, hk with
    | 0, _ => exact (pair_cells N rfl).1
    | 1, _ => exact (pair_cells N rfl).2
  · match k, hk with
    | 0, _ => exact World.ownsRow.alloc h1 _
    | 1, _ => exact World.ownsRow.alloc (World.ownsRow.mono h2 hB) _
  · match k, hk with
    | 0, _ => exact fun e => by have := (World.ownsRow.lt h1 _ e).2; omega
    | 1, _ => exact fun e => by have := (World.ownsRow.lt h2 _ e).2; omega
  · match j, hj, k, hk, e1, e2 with
    | 0, _, 0, _, _, _ => rfl
    | 1, _, 1, _, _, _ => rfl
    | 0, _, 1, _, e1, e2 => have h3 := hlt b e1; have := (World.ownsRow.lt h2 b e2).1; omega
    | 1, _, 0, _, e1, e2 => have h3 := hlt b e2; have := (World.ownsRow.lt h2 b e1).1; omega
end Go.Proofs.YtdiamlajmcikhaaGreatDoor
