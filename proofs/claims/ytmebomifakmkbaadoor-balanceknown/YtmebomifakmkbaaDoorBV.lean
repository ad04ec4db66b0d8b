/-
  My own text: the law BalanceMoves (printed by mkbv.py).
-/
import Derived.Test.YtmebomifakmkbaaDoorBT
import Derived.Test.YtmebomifakmkbaaDoorB9
import Derived.Test.YtmebomifakmkbaaDoorBA2
namespace Go.Proofs.YtmebomifakmkbaaDoor
open Go.RowKit

theorem moves_uni (k q n av : Int) (L : List Mk) (ho : MOk L) (h1 : av ≤ top) (hq1 : q ≤ top) (hl : L.length ≤ 4611686018427387904) :
    ∃ (E : Value) (N a0 : Int) (M : List Mk), M.length ≤ 8 ∧
      (∀ (W : World) (u : Value), RM W u L → Calls Tryd.prog 22 #[.agg #[.int .i64 av, u], .agg #[.int .i64 k, .int .i64 q, .int .i64 n]] W fun e w' => ∃ v, e = .returned (.tuple #[.agg #[.int .i64 a0, v], E]) ∧ OM w' W.heap.size v M ∧ Below W.heap.size W w') ∧
      (∀ (W : World) (u : Value), RM W u L → Calls Tryd.prog 21 #[.agg #[.int .i64 av, u], .agg #[.int .i64 k, .int .i64 q, .int .i64 n]] W fun e w' => ∃ v, e = .returned (.tuple #[.agg #[.int .i64 a0, v], .int .i64 N]) ∧ OM w' W.heap.size v M ∧ Below W.heap.size W w') ∧
      (∀ (W : World) (u : Value), RM W u L → ErrType W → Calls Tryd.prog 12 #[E, .int .i64 N, .agg #[.int .i64 av, u]] W fun e w' => e = .returned (.bool true) ∧ Below W.heap.size W w') := by
  cases hA : askO k q n av L with
  | no t x =>
    refine ⟨refV (askS k) (.iface t x), noN (.no t x), 0, [], by simp, fun W u hu => ?_, fun W u hu => ?_, fun W u hu hE => told_ask k q n av (askS k) t x u L W hu ho h1 hl hE hA⟩
    · have := ask_any k q n av u L W hu ho h1 hq1 hl
      rw [hA] at this
      exact this.mono fun e w' ⟨he, hb⟩ => ⟨.slice none 0 0, he, World.ownsRow_nil _ _ _ _, hb⟩
    · have := tell_any k q n av u L W hu ho h1 hq1 hl
      rw [hA] at this
      exact this.mono fun e w' ⟨he, hb⟩ => ⟨.slice none 0 0, he, World.ownsRow_nil _ _ _ _, hb⟩
  | ok a M =>
    refine ⟨.nilIface, 0, a, M, (ask_ok h1 hA).2.2.1.few, fun W u hu => ?_, fun W u hu => ?_, fun W u hu hE => told_ok k q n av a M u L W hu ho h1 hl hE hA⟩
    · have := ask_any k q n av u L W hu ho h1 hq1 hl
      rw [hA] at this
      exact this.mono fun e w' ⟨⟨v, he, hO⟩, hb⟩ => ⟨v, he, hO, hb⟩
    · have := tell_any k q n av u L W hu ho h1 hq1 hl
      rw [hA] at this
      exact this.mono fun e w' ⟨⟨v, he, hO⟩, hb⟩ => ⟨v, he, hO, hb⟩
/-- Where things lie. -/
structure MP (w : World) (b1 b2 b3 b4 g : Nat) (vw va vb : Value) : Prop where
  hg : w.heap.size ≤ g
  nw : vw.ownBlock ≠ some g
  na : va.ownBlock ≠ some g
  nb : vb.ownBlock ≠ some g
  ab : ∀ x, va.ownBlock = some x → vb.ownBlock = some x → False
  fa : ∀ x, va.ownBlock = some x → w.heap.size ≤ x
  fb : ∀ x, vb.ownBlock = some x → w.heap.size ≤ x
/-- What lies there: the five boxes, the three answers, the row that was lent. -/
structure MS (w : World) (av a0 : Int) (vp vw va vb : Value) (n : Nat) (M L' : List Mk) (b1 b2 b3 b4 g cl B : Nat) (W : World) : Prop where
  low : Below w.heap.size w W
  xp : Px W w.heap.size av vp
  xw : Px W b1 a0 vw
  xl : Px W b2 av (.slice (some ⟨g, 0, none⟩) n cl)
  xa : Px W b3 a0 va
  xb : Px W b4 a0 vb
  ow : OM W w.heap.size vw M
  oa : OM W w.heap.size va M
  ob : OM W w.heap.size vb M
  row : W.ownsRow B 36 2 (.slice (some ⟨g, 0, none⟩) (n + 16) cl) (n + 16) (mc L')
theorem MS.later {w : World} {av a0 : Int} {vp vw va vb : Value} {n : Nat} {M L' : List Mk} {b1 b2 b3 b4 g cl B : Nat} {W W' : World} (h : MS w av a0 vp vw va vb n M L' b1 b2 b3 b4 g cl B W) (hb : Below W.heap.size W W') : MS w av a0 vp vw va vb n M L' b1 b2 b3 b4 g cl B W' :=
  ⟨h.low.trans (hb.mono h.low.size), blk_later h.xp hb, blk_later h.xw hb, blk_later h.xl hb, blk_later h.xa hb, blk_later h.xb hb, owns_later h.ow hb, owns_later h.oa hb, owns_later h.ob hb, owns_later h.row hb⟩
theorem MS.put {w : World} {av a0 : Int} {vp vw va vb : Value} {n : Nat} {M L' : List Mk} {b1 b2 b3 b4 g cl B : Nat} {W : World} (h : MS w av a0 vp vw va vb n M L' b1 b2 b3 b4 g cl B W) (hP : MP w b1 b2 b3 b4 g vw va vb) (k : Nat) (m1 m2 : Int) :
    MS w av a0 vp vw va vb n M (L'.set k (m1, m2)) b1 b2 b3 b4 g cl B ((W.setCell ⟨g, k * 2, none⟩ (.int .i64 m1)).setCell ⟨g, k * 2 + 1, none⟩ (.int .i64 m2)) := by
  obtain ⟨cu, fz, hk⟩ := ownsRow_kind h.row g rfl
  have hbox : ∀ {g' : Nat} {a : Int} {v : Value}, Px W g' a v → Px ((W.setCell ⟨g, k * 2, none⟩ (.int .i64 m1)).setCell ⟨g, k * 2 + 1, none⟩ (.int .i64 m2)) g' a v := by
    intro g' a v hx
    have hne : g' ≠ g := fun e => by
      unfold Px at hx
      rw [e, hk] at hx
      injection hx with hx
      injection hx with _ hx _
      exact absurd hx (by decide)
    unfold Px
    rw [Below.heap_setCell _ _ _ g' hne, Below.heap_setCell _ _ _ g' hne]
    exact hx
  have hrow : ∀ {v : Value}, v.ownBlock ≠ some g → OM W w.heap.size v M → OM ((W.setCell ⟨g, k * 2, none⟩ (.int .i64 m1)).setCell ⟨g, k * 2 + 1, none⟩ (.int .i64 m2)) w.heap.size v M := fun hne ho =>
    ownsRow_setCell_other (a := ⟨g, k * 2 + 1, none⟩) (ownsRow_setCell_other (a := ⟨g, k * 2, none⟩) ho hne _) hne _
  obtain ⟨h2, _⟩ := h.row.stored (k * 2) (.int .i64 m1)
  obtain ⟨h4, _⟩ := h2.stored (k * 2 + 1) (.int .i64 m2)
  exact ⟨(h.low.setCell (p := ⟨g, k * 2, none⟩) hP.hg _).setCell (p := ⟨g, k * 2 + 1, none⟩) hP.hg _, hbox h.xp, hbox h.xw, hbox h.xl, hbox h.xa, hbox h.xb, hrow hP.nw h.ow, hrow hP.na h.oa, hrow hP.nb h.ob, by rw [mc_set]; exact h4⟩
theorem MS.cells {w : World} {av a0 : Int} {vp vw va vb : Value} {n : Nat} {M L' : List Mk} {b1 b2 b3 b4 g cl B : Nat} {W : World} (h : MS w av a0 vp vw va vb n M L' b1 b2 b3 b4 g cl B W) {k : Nat} (hk : k < n) (hl : L'.length = n + 16) :
    ∃ x : Mk, W.cell? ⟨g, k * 2, none⟩ = some (.int .i64 x.1) ∧ W.cell? ⟨g, k * 2 + 1, none⟩ = some (.int .i64 x.2) ∧ W.frozen? ⟨g, k * 2, none⟩ = false ∧ W.frozen? ⟨g, k * 2 + 1, none⟩ = false := by
  obtain ⟨x, hx⟩ : ∃ x, L'[k]? = some x := ⟨_, List.getElem?_eq_getElem (by omega)⟩
  obtain ⟨f0, f1⟩ := mc_at hx
  exact ⟨x, (h.row.cellAt (k * 2) (by omega)).trans f0, (h.row.cellAt (k * 2 + 1) (by omega)).trans f1, om_froz h.row _, om_froz h.row _⟩
/-- Two rows in a literal, each of its own. -/
theorem two_all {W : World} {B n ca cb : Nat} {aa ab : Option Addr} {M : List Mk} (ha : OM W B (.slice aa n ca) M) (hb : OM W B (.slice ab n cb) M) (hd : ∀ x, (Value.slice aa n ca).ownBlock = some x → (Value.slice ab n cb).ownBlock = some x → False) :
    AllM (W.alloc (.cells #[.slice aa n ca, .slice ab n cb] 22)) B W.heap.size 2 (fun k => if k = 0 then aa else ab) (fun _ => n) (fun k => if k = 0 then ca else cb) (fun _ => M) := by
  have hN := alloc_new W (.cells #[.slice aa n ca, .slice ab n cb] 22)
  obtain ⟨c0, c1⟩ := pair_cells hN rfl
  have hlt : W.heap.size < (W.alloc (.cells #[.slice aa n ca, .slice ab n cb] 22)).heap.size := by simp
  refine ⟨hlt, fun k hk => ?_, fun k hk => ?_, fun k hk => ?_, fun j k g hj hk h1 h2 => ?_⟩
  · match k, hk with
    | 0, _ => exact c0
    | 1, _ => exact c1
  · match k, hk with
    | 0, _ => exact World.ownsRow.alloc ha _
    | 1, _ => exact World.ownsRow.alloc hb _
  · match k, hk with
    | 0, _ => exact fun e => by have := (World.ownsRow.lt ha _ e).2; omega
    | 1, _ => exact fun e => by have := (World.ownsRow.lt hb _ e).2; omega
  · match j, k, hj, hk with
    | 0, 0, _, _ => rfl
    | 1, 1, _, _ => rfl
    | 0, 1, _, _ => exact (hd g h1 h2).elim
    | 1, 0, _, _ => exact (hd g h2 h1).elim
/-- Behind ApartMarks. -/
theorem MS.apart {w : World} {av a0 : Int} {vp vw : Value} {n m ca cb : Nat} {aa ab : Option Addr} {M L' : List Mk} {b1 b2 b3 b4 g cl B : Nat} {W W' : World} (h : MS w av a0 vp vw (.slice aa m ca) (.slice ab m cb) n M L' b1 b2 b3 b4 g cl B W) (hP : MP w b1 b2 b3 b4 g vw (.slice aa m ca) (.slice ab m cb)) {o : Obj}
    (hs : Sp 2 (fun k => if k = 0 then aa else ab) (fun _ => m) (fun k => if k = 0 then ca else cb) (W.alloc o) W') : Below w.heap.size w W' ∧ Px W' w.heap.size av vp ∧ Px W' b2 av (.slice (some ⟨g, 0, none⟩) n cl) ∧ W'.ownsRow B 36 2 (.slice (some ⟨g, 0, none⟩) (n + 16) cl) (n + 16) (mc L') := by
  have hlow : Below w.heap.size w (W.alloc o) := h.low.alloc h.low.size o
  have hbA : Below W.heap.size W (W.alloc o) := (Below.refl _ _).alloc (Nat.le_refl _) o
  have h' := h.later hbA
  have hkeep : ∀ b, b < (W.alloc o).heap.size → (Value.slice aa m ca).ownBlock ≠ some b → (Value.slice ab m cb).ownBlock ≠ some b → W'.heap[b]? = (W.alloc o).heap[b]? := fun b hb h1 h2 => hs.block b hb (fun k hk => by
    match k, hk with
    | 0, _ => exact h1
    | 1, _ => exact h2)
  have hbox : ∀ {g' : Nat} {a : Int} {v : Value}, Px (W.alloc o) g' a v → Px W' g' a v := by
    intro g' a v hx
    have hne : ∀ {u : Value}, OM (W.alloc o) w.heap.size u M → u.ownBlock ≠ some g' := fun ho e => by
      obtain ⟨cu, fz, hk⟩ := ownsRow_kind ho g' e
      unfold Px at hx
      rw [hk] at hx
      injection hx with hx
      injection hx with _ hx _
      exact absurd hx (by decide)
    unfold Px
    rw [hkeep g' (blk_lt hx) (hne h'.oa) (hne h'.ob)]
    exact hx
  refine ⟨⟨hs.os.trans hlow.os, hs.tape.trans hlow.tape, hs.output.trans hlow.output, Nat.le_trans hlow.size hs.size, fun b hb => ?_⟩, hbox h'.xp, hbox h'.xl, ?_⟩
  · refine (hkeep b (Nat.lt_of_lt_of_le hb hlow.size) (fun e => ?_) (fun e => ?_)).trans (hlow.block b hb)
    · have := hP.fa b e; omega
    · have := hP.fb b e; omega
  · have hr := h'.row
    refine ⟨hr.1, ?_⟩
    rcases hr.2 with h2 | ⟨g', cap, cur, hv, hg, hh, h3⟩
    · exact .inl h2
    · refine .inr ⟨g', cap, cur, hv, hg, ?_, h3⟩
      obtain rfl : g' = g := by injection hv with e1 _ _; injection e1 with e1; injection e1 with e1 _ _; exact e1.symm
      exact (hkeep g' (blk_lt hh) hP.na hP.nb).trans hh
theorem lent_back {L L' : List Mk} (h1 : ∀ j, j < L.length → L'[j]? = L[j]?) (h2 : ∀ j, L.length ≤ j → L'[j]? = (L ++ marksM)[j]?) : L' = L ++ marksM := by
  apply List.ext_getElem?
  intro j
  by_cases h : j < L.length
  · rw [h1 j h, List.getElem?_append_left h]
  · exact h2 j (by omega)
set_option maxRecDepth 100000 in
set_option maxHeartbeats 8000000 in
theorem moves_law (av k q n : Int) (v : Value) (L : List Mk) (w : World) (h : RM w v L) (ho : MOk L) (h1 : av ≤ top) (hq1 : q ≤ top) (hl : L.length ≤ 8796093022000) (hE : ErrType w) :
    Calls Tryd.prog 4 #[.agg #[.int .i64 av, v], .agg #[.int .i64 k, .int .i64 q, .int .i64 n]] w fun e w' => e = .returned (.bool true) ∧ Below w.heap.size w w' := by
  have HR := hide h
  have HL := hide hl
  have hl2 : L.length ≤ 4611686018427387904 := by omega
  obtain ⟨E, N, a0, M, hM8, hask, htell, htold⟩ := moves_uni k q n av L ho h1 hq1 hl2
  obtain ⟨a, cap, rfl, hcp, hcc⟩ := h
  have HC := hide hcc
  have HM8 := hide hM8
  have HAS := hide hask
  have HTE := hide htell
  have HTD := hide (fun (W : World) (hw : Below w.heap.size w W) => htold W _ (HR.out.later hw) (hE.below hw))
  have HWK := hide (fun (W : World) (hb : Below w.heap.size w W) => works_any W (hE.below hb))
  have HLP := hide (fun (W : World) (hw : Below w.heap.size w W) => lentPos_any av _ L W (HR.out.later hw) hl)
  have B0 := hide (((Below.refl w.heap.size w).alloc (Nat.le_refl _) (.cells #[.int .i64 av, .slice a L.length cap] 24)).alloc (by simp) (.cells #[.int .i64 k, .int .i64 q, .int .i64 n] 40))
  have X0 := hide (alloc_block (o := .cells #[.int .i64 k, .int .i64 q, .int .i64 n] 40) (Px.new w av (.slice a L.length cap)))
  have C0 := hide (alloc_new (w.alloc (.cells #[.int .i64 av, .slice a L.length cap] 24)) (.cells #[.int .i64 k, .int .i64 q, .int .i64 n] 40))
  rw [show (w.alloc (.cells #[.int .i64 av, .slice a L.length cap] 24)).heap.size = w.heap.size + 1 by simp] at C0
  obtain ⟨x0, x1⟩ := pair_cells X0.out rfl
  obtain ⟨c0, c1, c2⟩ := trip_cells C0.out
  clear hl hl2 hE hcc hM8 hask htell htold ho h1 hq1 hcp
  go_enter Tryd.func4, Tryd.ntmps4
  go_wp2_with fail
  refine (HTE.out _ _ (HR.out.later B0.out)).mono ?_
  rintro e w1 ⟨vw, rfl, hOw, hb⟩
  obtain ⟨aw, cw, rfl⟩ := OM.slice hOw
  have bA : Below w1.heap.size w1 (w1.alloc (.cells #[.int .i64 a0, .slice aw M.length cw] 24)) := (Below.refl _ _).alloc (Nat.le_refl _) _
  have B1 := hide ((B0.out.trans (hb.mono B0.out.size)).trans (bA.mono (Nat.le_trans B0.out.size hb.size)))
  have X1 := hide (blk_later (blk_later X0.out hb) bA)
  have C1 := hide (blk_later (blk_later C0.out hb) bA)
  have W1 := hide (alloc_new w1 (.cells #[.int .i64 a0, .slice aw M.length cw] 24))
  have OW1 := hide (owns_later (OM.base hOw (fun x hx => Nat.le_trans B0.out.size (World.ownsRow.lt hOw x hx).1)) bA)
  have HWb := hide (fun x hx => (World.ownsRow.lt hOw x hx).2)
  have HS1 := hide (Nat.le_trans B0.out.size hb.size)
  clear x0 x1 c0 c1 c2 hb bA hOw
  obtain ⟨x0, x1⟩ := pair_cells X1.out rfl
  obtain ⟨c0, c1, c2⟩ := trip_cells C1.out
  go_wp2_with fail
  refine (HLP.out _ B1.out).mono ?_
  rintro e w2 ⟨g, cl, rfl, hlm, hb⟩
  have bA : Below w2.heap.size w2 (w2.alloc (.cells #[.int .i64 av, .slice (some ⟨g, 0, none⟩) L.length cl] 24)) := (Below.refl _ _).alloc (Nat.le_refl _) _
  have B2 := hide ((B1.out.trans (hb.mono B1.out.size)).trans (bA.mono (Nat.le_trans B1.out.size hb.size)))
  have X2 := hide (blk_later (blk_later X1.out hb) bA)
  have C2 := hide (blk_later (blk_later C1.out hb) bA)
  have W2 := hide (blk_later (blk_later W1.out hb) bA)
  have P2 := hide (alloc_new w2 (.cells #[.int .i64 av, .slice (some ⟨g, 0, none⟩) L.length cl] 24))
  have L2 := hide (hlm.later bA)
  have OW2 := hide (owns_later (owns_later OW1.out hb) bA)
  have HG1 : Hid (w1.heap.size < g) := hide (by have := hlm.base; simp at this; omega)
  have HG2 : Hid (g < w2.heap.size) := hide hlm.parts.1
  clear x0 x1 c0 c1 c2 hb bA hlm
  obtain ⟨x0, x1⟩ := pair_cells X2.out rfl
  obtain ⟨c0, c1, c2⟩ := trip_cells C2.out
  obtain ⟨p0, p1⟩ := pair_cells P2.out rfl
  go_wp2_with fail
  refine (HAS.out _ _ L2.out.rm).mono ?_
  rintro e w3 ⟨va, rfl, hOa, hb⟩
  obtain ⟨aa, ca, rfl⟩ := OM.slice hOa
  have bA : Below w3.heap.size w3 (w3.alloc (.cells #[.int .i64 a0, .slice aa M.length ca] 24)) := (Below.refl _ _).alloc (Nat.le_refl _) _
  have B3 := hide ((B2.out.trans (hb.mono B2.out.size)).trans (bA.mono (Nat.le_trans B2.out.size hb.size)))
  have X3 := hide (blk_later (blk_later X2.out hb) bA)
  have C3 := hide (blk_later (blk_later C2.out hb) bA)
  have W3 := hide (blk_later (blk_later W2.out hb) bA)
  have P3 := hide (blk_later (blk_later P2.out hb) bA)
  have A3 := hide (alloc_new w3 (.cells #[.int .i64 a0, .slice aa M.length ca] 24))
  have L3 := hide ((L2.out.later hb).later bA)
  have OW3 := hide (owns_later (owns_later OW2.out hb) bA)
  have OA3 := hide (owns_later (OM.base hOa (fun x hx => Nat.le_trans B2.out.size (World.ownsRow.lt hOa x hx).1)) bA)
  have HAb : Hid (∀ x, (Value.slice aa M.length ca).ownBlock = some x → w2.heap.size < x ∧ x < w3.heap.size) := hide (fun x hx => by have := World.ownsRow.lt hOa x hx; simp at this; omega)
  have HS3 : Hid (w2.heap.size < w3.heap.size) := hide (by have := hb.size; simp at this; omega)
  clear x0 x1 c0 c1 c2 p0 p1 hb bA hOa
  obtain ⟨x0, x1⟩ := pair_cells X3.out rfl
  obtain ⟨c0, c1, c2⟩ := trip_cells C3.out
  obtain ⟨p0, p1⟩ := pair_cells P3.out rfl
  go_wp2_with fail
  refine (HAS.out _ _ L3.out.rm).mono ?_
  rintro e w4 ⟨vb, rfl, hOb, hb⟩
  obtain ⟨ab, cb, rfl⟩ := OM.slice hOb
  have bA : Below w4.heap.size w4 (w4.alloc (.cells #[.int .i64 a0, .slice ab M.length cb] 24)) := (Below.refl _ _).alloc (Nat.le_refl _) _
  have bb := hb.trans (bA.mono hb.size)
  have HMS := hide (MS.mk (w := w) (av := av) (a0 := a0) (n := L.length) (M := M) (L' := L ++ marksM) (B3.out.trans (bb.mono B3.out.size)) (blk_later X3.out bb) (blk_later W3.out bb) (blk_later P3.out bb) (blk_later A3.out bb) (alloc_new w4 (.cells #[.int .i64 a0, .slice ab M.length cb] 24)) (owns_later OW3.out bb) (owns_later OA3.out bb) (owns_later (OM.base hOb (fun x hx => Nat.le_trans B3.out.size (World.ownsRow.lt hOb x hx).1)) bA) (owns_later L3.out.own bb))
  have HMP : Hid (MP w w1.heap.size w2.heap.size w3.heap.size w4.heap.size g (.slice aw M.length cw) (.slice aa M.length ca) (.slice ab M.length cb)) := by
    have s1 := HS1.out
    have g1 := HG1.out
    have g2 := HG2.out
    have s3 := HS3.out
    have hbl : ∀ x, (Value.slice ab M.length cb).ownBlock = some x → w3.heap.size < x := fun x hx => by have := World.ownsRow.lt hOb x hx; simp at this; omega
    refine hide ⟨by omega, fun e => ?_, fun e => ?_, fun e => ?_, fun x h1 h2 => ?_, fun x h1 => ?_, fun x h1 => ?_⟩
    · have := HWb.out g e; omega
    · have := HAb.out g e; omega
    · have := hbl g e; omega
    · have := HAb.out x h1; have := hbl x h2; omega
    · have := HAb.out x h1; omega
    · have := hbl x h1; omega
  have HLB := hide L3.out.base
  clear x0 x1 c0 c1 c2 p0 p1 hb bA hOb bb X0 X1 X2 X3 C0 C1 C2 C3 W1 W2 W3 P2 P3 A3 L2 L3 OW1 OW2 OW3 OA3 B0 B1 B2 B3 HWb HAb HS1 HS3 HG1 HG2 HAS HTE HLP
  have HMS' := hide HMS.out
  clear HMS
  have HMS := HMS'
  clear HMS'
  obtain ⟨fx0, fx1⟩ := pair_cells HMS.out.xp rfl
  obtain ⟨fw0, fw1⟩ := pair_cells HMS.out.xw rfl
  obtain ⟨fl0, fl1⟩ := pair_cells HMS.out.xl rfl
  obtain ⟨fa0, fa1⟩ := pair_cells HMS.out.xa rfl
  obtain ⟨fb0, fb1⟩ := pair_cells HMS.out.xb rfl
  go_wp2_with fail
  refine (HTD.out _ HMS.out.low).mono ?_
  rintro e w5 ⟨rfl, hb⟩
  have HMS' := hide (HMS.out.later hb)
  clear hb HMS
  have HMS := HMS'
  clear HMS'
  clear fx0 fx1 fw0 fw1 fl0 fl1 fa0 fa1 fb0 fb1
  obtain ⟨fx0, fx1⟩ := pair_cells HMS.out.xp rfl
  obtain ⟨fw0, fw1⟩ := pair_cells HMS.out.xw rfl
  obtain ⟨fl0, fl1⟩ := pair_cells HMS.out.xl rfl
  obtain ⟨fa0, fa1⟩ := pair_cells HMS.out.xa rfl
  obtain ⟨fb0, fb1⟩ := pair_cells HMS.out.xb rfl
  go_wp2_with fail
  refine (HTD.out _ HMS.out.low).mono ?_
  rintro e w6 ⟨rfl, hb⟩
  have HMS' := hide (HMS.out.later hb)
  clear hb HMS
  have HMS := HMS'
  clear HMS'
  clear fx0 fx1 fw0 fw1 fl0 fl1 fa0 fa1 fb0 fb1
  obtain ⟨fx0, fx1⟩ := pair_cells HMS.out.xp rfl
  obtain ⟨fw0, fw1⟩ := pair_cells HMS.out.xw rfl
  obtain ⟨fl0, fl1⟩ := pair_cells HMS.out.xl rfl
  obtain ⟨fa0, fa1⟩ := pair_cells HMS.out.xa rfl
  obtain ⟨fb0, fb1⟩ := pair_cells HMS.out.xb rfl
  go_wp2_with fail
  have HSP := hide (sameP_any a0 a0 _ _ M M _ HMS.out.oa.rm HMS.out.ow.rm (by have := HM8.out; omega) (by have := HM8.out; omega))
  rw [show decide (a0 = a0 ∧ M = M) = true by simp] at HSP
  refine HSP.out.mono ?_
  rintro e w7 ⟨rfl, hb⟩
  have HMS' := hide (HMS.out.later hb)
  clear HSP
  clear hb HMS
  have HMS := HMS'
  clear HMS'
  clear fx0 fx1 fw0 fw1 fl0 fl1 fa0 fa1 fb0 fb1
  obtain ⟨fx0, fx1⟩ := pair_cells HMS.out.xp rfl
  obtain ⟨fw0, fw1⟩ := pair_cells HMS.out.xw rfl
  obtain ⟨fl0, fl1⟩ := pair_cells HMS.out.xl rfl
  obtain ⟨fa0, fa1⟩ := pair_cells HMS.out.xa rfl
  obtain ⟨fb0, fb1⟩ := pair_cells HMS.out.xb rfl
  go_wp2_with fail
  have HSP := hide (sameP_any a0 a0 _ _ M M _ HMS.out.ob.rm HMS.out.ow.rm (by have := HM8.out; omega) (by have := HM8.out; omega))
  rw [show decide (a0 = a0 ∧ M = M) = true by simp] at HSP
  refine HSP.out.mono ?_
  rintro e w8 ⟨rfl, hb⟩
  have HMS' := hide (HMS.out.later hb)
  clear HSP
  clear hb HMS
  have HMS := HMS'
  clear HMS'
  clear fx0 fx1 fw0 fw1 fl0 fl1 fa0 fa1 fb0 fb1
  obtain ⟨fx0, fx1⟩ := pair_cells HMS.out.xp rfl
  obtain ⟨fw0, fw1⟩ := pair_cells HMS.out.xw rfl
  obtain ⟨fl0, fl1⟩ := pair_cells HMS.out.xl rfl
  obtain ⟨fa0, fa1⟩ := pair_cells HMS.out.xa rfl
  obtain ⟨fb0, fb1⟩ := pair_cells HMS.out.xb rfl
  go_wp2_with fail
  refine (HWK.out _ HMS.out.low).mono ?_
  rintro e w9 ⟨rfl, hb⟩
  have HMS' := hide (HMS.out.later hb)
  clear hb HMS
  have HMS := HMS'
  clear HMS'
  clear fx0 fx1 fw0 fw1 fl0 fl1 fa0 fa1 fb0 fb1
  obtain ⟨fx0, fx1⟩ := pair_cells HMS.out.xp rfl
  obtain ⟨fw0, fw1⟩ := pair_cells HMS.out.xw rfl
  obtain ⟨fl0, fl1⟩ := pair_cells HMS.out.xl rfl
  obtain ⟨fa0, fa1⟩ := pair_cells HMS.out.xa rfl
  obtain ⟨fb0, fb1⟩ := pair_cells HMS.out.xb rfl
  go_wp2_with fail
  clear fx0 fx1 fw0 fw1 fl0 fl1 fa0 fa1 fb0 fb1
  obtain ⟨BB, HBB⟩ : ∃ BB, BB = (w1.alloc (.cells #[.int .i64 a0, .slice aw M.length cw] 24)).heap.size := ⟨_, rfl⟩
  rw [← HBB] at HMS HLB
  clear HBB
  go_loopw [12] (fun i wr => ∃ (j : Nat) (L' : List Mk), j ≤ L.length ∧ i = .int .i64 (j : Int) ∧ Hid (MS w av a0 (.slice a L.length cap) (.slice aw M.length cw) (.slice aa M.length ca) (.slice ab M.length cb) L.length M L' w1.heap.size w2.heap.size w3.heap.size w4.heap.size g cl BB wr) ∧ Hid (L'.length = L.length + 16) ∧ Hid (∀ x, L.length ≤ x → L'[x]? = (L ++ marksM)[x]?)) (fun i _ => L.length - (intOf i).toNat)
  case atStart => exact ⟨0, L ++ marksM, Nat.zero_le _, rfl, HMS, hide (by rw [List.length_append, marksM_len]), hide (fun _ _ => rfl)⟩
  case round =>
    clear HMS
    obtain ⟨j, L', hj, rfl, HMS, HLn, HTl⟩ := hrel
    obtain ⟨fl0, fl1⟩ := pair_cells HMS.out.xl rfl
    by_cases hlt : j < L.length
    · obtain ⟨x, g0, g1, z0, z1⟩ := HMS.out.cells hlt HLn.out
      have k0 : (0 : Int) ≤ (j : Int) := by omega
      have k1 : (j : Int) < (L.length : Int) := by omega
      have hd1 : decide ((j : Int) < (L.length : Int)) = true := by rw [decide_eq_true_eq]; omega
      have HM' := hide (HMS.out.put HMP.out j (-9) (-9))
      have HLn' : Hid ((L'.set j ((-9 : Int), (-9 : Int))).length = L.length + 16) := hide (by rw [List.length_set]; exact HLn.out)
      have HTl' : Hid (∀ x, L.length ≤ x → (L'.set j ((-9 : Int), (-9 : Int)))[x]? = (L ++ marksM)[x]?) := hide (fun x hx => by rw [List.getElem?_set_ne (by omega)]; exact HTl.out x hx)
      have hll := HL.out
      clear HMS HLn HTl
      go_wp2_with fail
      go_roundw
      case rel => exact ⟨j + 1, _, by omega, by go_num, HM', HLn', HTl'⟩
      case measure => simp [intOf]; omega
    · have hj' : j = L.length := by omega
      have hd1 : decide ((j : Int) < (L.length : Int)) = false := by rw [decide_eq_false_iff_not]; omega
      clear hj
      obtain ⟨J, HJ⟩ : ∃ J, J = L.length := ⟨_, rfl⟩
      obtain ⟨fa0, fa1⟩ := pair_cells HMS.out.xa rfl
      obtain ⟨fw0, fw1⟩ := pair_cells HMS.out.xw rfl
      have HSP := hide (sameP_any a0 a0 _ _ M M _ HMS.out.oa.rm HMS.out.ow.rm (by have := HM8.out; omega) (by have := HM8.out; omega))
      rw [show decide (a0 = a0 ∧ M = M) = true by simp] at HSP
      clear hj' HJ
      go_wp2_with fail
      refine HSP.out.mono ?_
      rintro e v1 ⟨rfl, hb⟩
      have HMS' := hide (HMS.out.later hb)
      clear hb HSP HMS fa0 fa1 fw0 fw1 fl0 fl1
      go_wp2_with fail
      go_loopw [13] (fun i wr => ∃ (j : Nat) (L' : List Mk), j ≤ L.length ∧ i = .int .i64 (j : Int) ∧ Hid (MS w av a0 (.slice a L.length cap) (.slice aw M.length cw) (.slice aa M.length ca) (.slice ab M.length cb) L.length M L' w1.heap.size w2.heap.size w3.heap.size w4.heap.size g cl BB wr) ∧ Hid (L'.length = L.length + 16) ∧ Hid (∀ x, x < j → L'[x]? = L[x]?) ∧ Hid (∀ x, L.length ≤ x → L'[x]? = (L ++ marksM)[x]?)) (fun i _ => L.length - (intOf i).toNat)
      case atStart => exact ⟨0, L', Nat.zero_le _, rfl, HMS', HLn, hide (fun x hx => by omega), HTl⟩
      case round =>
        clear HMS' HLn HTl
        obtain ⟨i, L', hi, rfl, HMS, HLn, HHd, HTl⟩ := hrel
        obtain ⟨fl0, fl1⟩ := pair_cells HMS.out.xl rfl
        by_cases hlt2 : i < L.length
        · obtain ⟨⟨m1, m2⟩, hp⟩ : ∃ p, L[i]? = some p := ⟨_, List.getElem?_eq_getElem hlt2⟩
          obtain ⟨b, off, ha, hbl, hc⟩ := HC.out.resolve_left (fun h => by rw [h] at hlt2; simp at hlt2)
          have HP1 := hide (hc i _ hp)
          have HBl := hide hbl
          subst ha
          have k0 : (0 : Int) ≤ (i : Int) := by omega
          have k1 : (i : Int) < (L.length : Int) := by omega
          have hd2 : decide ((i : Int) < (L.length : Int)) = true := by rw [decide_eq_true_eq]; omega
          have HLn' : Hid ((L'.set i (m1, m2)).length = L.length + 16) := hide (by rw [List.length_set]; exact HLn.out)
          have HTl' : Hid (∀ x, L.length ≤ x → (L'.set i (m1, m2))[x]? = (L ++ marksM)[x]?) := hide (fun x hx => by rw [List.getElem?_set_ne (by omega)]; exact HTl.out x hx)
          have HHd' : Hid (∀ x, x < i + 1 → (L'.set i (m1, m2))[x]? = L[x]?) := hide (fun x hx => by
            by_cases e : x = i
            · subst e; rw [List.getElem?_set_self (by have := HLn.out; omega)]; exact hp.symm
            · rw [List.getElem?_set_ne (by omega)]; exact HHd.out x (by omega))
          have hll := HL.out
          clear hc hp hbl
          go_wp2_with fail
          have HX0 := hide ((Below.refl wr.heap.size wr).drew)
          haveI : Nonempty (Gr wr) := ⟨⟨_, HX0.out⟩⟩
          have z0 : ∀ x : Gr wr, x.1.cell? ⟨w2.heap.size, 0, none⟩ = some (.int .i64 av) := fun x => (pair_cells (HMS.out.later x.2).xl rfl).1
          have z1 : ∀ x : Gr wr, x.1.cell? ⟨w2.heap.size, 1, none⟩ = some (.slice (some ⟨g, 0, none⟩) L.length cl) := fun x => (pair_cells (HMS.out.later x.2).xl rfl).2
          have z2 : ∀ x : Gr wr, x.1.cell? ⟨w.heap.size, 1, none⟩ = some (.slice (some ⟨b, off, none⟩) L.length cap) := fun x => (pair_cells (HMS.out.later x.2).xp rfl).2
          have z3 : ∀ x : Gr wr, x.1.cell? ⟨b, off + i * 2, none⟩ = some (.int .i64 m1) := fun x => ((HMS.out.later x.2).low.cell (p := ⟨b, _, none⟩) HBl.out).trans HP1.out.1
          have z4 : ∀ x : Gr wr, x.1.cell? ⟨b, off + i * 2 + 1, none⟩ = some (.int .i64 m2) := fun x => ((HMS.out.later x.2).low.cell (p := ⟨b, _, none⟩) HBl.out).trans HP1.out.2
          clear fl0 fl1
          refine region_qtails (C := fun w' => ∃ x : Gr wr, w' = x.1) 9 0 rfl (by kernel_rfl) (by kernel_rfl) ⟨⟨_, HX0.out⟩, rfl⟩ ?_
          simp only [List.take_succ_cons, List.take_zero, List.drop_succ_cons, List.drop_zero]
          repeat (first
            | go_big_quiet_skip
            | (go_big_quiet_want; (go_big_quiet_op; go_big_quiet_on)))
          refine wpQuiet_nil ?_
          rintro v5 ⟨x5, rfl⟩
          obtain ⟨v5, hx⟩ := x5
          dsimp only
          have HM5 := hide (HMS.out.later hx)
          obtain ⟨xx, y0, y1, y2, y3⟩ := HM5.out.cells hlt2 HLn.out
          have HM' := hide (HM5.out.put HMP.out i m1 m2)
          clear HX0 this z0 z1 z2 z3 z4 hx HMS HM5 HLn HHd HTl HP1
          go_wp2_with fail
          go_roundw
          case rel => exact ⟨i + 1, _, by omega, by go_num, HM', HLn', HHd', HTl'⟩
          case measure => simp [intOf]; omega
        · have hi' : i = L.length := by omega
          have hd2 : decide ((i : Int) < (L.length : Int)) = false := by rw [decide_eq_false_iff_not]; omega
          have HLL := hide (lent_back (fun x hx => HHd.out x (by omega)) HTl.out)
          obtain ⟨fa0, fa1⟩ := pair_cells HMS.out.xa rfl
          obtain ⟨fb0, fb1⟩ := pair_cells HMS.out.xb rfl
          have HAP := hide (apartMarks_sp w.heap.size wr.heap.size 2 2 _ _ _ _ _ (two_all HMS.out.oa HMS.out.ob HMP.out.ab) (fun _ => by have := HM8.out; omega) (by omega) (by omega) (by have := HMS.out.low.size; simp; omega))
          clear hi' hi HLn HHd HTl
          go_wp2_with fail
          refine HAP.out.mono ?_
          rintro e v6 ⟨rfl, hsp⟩
          obtain ⟨hlow, hxp, hxl, hrow⟩ := HMS.out.apart HMP.out hsp
          rw [HLL.out] at hrow
          have HKP := hide (keptPos_any av (.slice a L.length cap) L BB g cl v6 (HR.out.later hlow) ⟨HLB.out, hrow⟩ HL.out)
          obtain ⟨fl0, fl1⟩ := pair_cells hxl rfl
          obtain ⟨fx0, fx1⟩ := pair_cells hxp rfl
          have HLow := hide hlow
          clear hsp hlow hxp hxl hrow HAP HMS fa0 fa1 fb0 fb1 HLL
          go_wp2_with fail
          refine HKP.out.mono ?_
          rintro e v7 ⟨rfl, hb⟩
          have HF := hide (HLow.out.trans (hb.mono HLow.out.size))
          clear hb
          go_wp2_with fail
          go_ret
          exact ⟨rfl, HF.out⟩
end Go.Proofs.YtmebomifakmkbaaDoor
