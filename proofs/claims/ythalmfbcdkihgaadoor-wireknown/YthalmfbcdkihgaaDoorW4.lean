/-
  My own text: blocks of cells; a writer: made, a number written, all that was written.
-/
import Derived.Test.YthalmfbcdkihgaaDoorW3
import Derived.Maps.AppendAt
import Derived.Laws.OwnMore
import Derived.Laws.CopyOwn
import Derived.Laws.Cover3
namespace Go.Proofs.YthalmfbcdkihgaaDoor
open Go.RowKit Go.Extern

/-- A block of cells, none frozen. -/
def Blk (w : World) (q : Nat) (cs : Array Value) (t : TypeId) : Prop := w.heap[q]? = some (.cells cs t (0, 0))
theorem Blk.lt {w : World} {q : Nat} {cs : Array Value} {t : TypeId} (h : Blk w q cs t) : q < w.heap.size := (Array.getElem?_eq_some_iff.1 h).1
theorem Blk.below {w w' : World} {B q : Nat} {cs : Array Value} {t : TypeId} (h : Blk w q cs t) (hb : Below B w w') (hq : q < B) : Blk w' q cs t := (hb.block q hq).trans h
theorem Blk.later {w w' : World} {q : Nat} {cs : Array Value} {t : TypeId} (h : Blk w q cs t) (hb : Below w.heap.size w w') : Blk w' q cs t := h.below hb h.lt
theorem Blk.alloc {w : World} {q : Nat} {cs : Array Value} {t : TypeId} (h : Blk w q cs t) (o : Obj) : Blk (w.alloc o) q cs t := h.later ((Below.refl _ _).alloc (Nat.le_refl _) _)
theorem Blk.new (w : World) (cs : Array Value) (t : TypeId) : Blk (w.alloc (.cells cs t)) w.heap.size cs t := heap_alloc_new w _
theorem Blk.other {w : World} {q : Nat} {cs : Array Value} {t : TypeId} (h : Blk w q cs t) {p : Nat} (i : Nat) (u : Value) (hne : q ≠ p) : Blk (w.setCell ⟨p, i, none⟩ u) q cs t := by
  unfold Blk; rw [Below.heap_setCell _ _ _ _ hne]; exact h
theorem Blk.cell {w : World} {q : Nat} {cs : Array Value} {t : TypeId} (h : Blk w q cs t) (j : Nat) : w.cell? ⟨q, j, none⟩ = cs[j]? := by
  unfold Blk at h; simp [World.cell?, h]
theorem Blk.free {w : World} {q : Nat} {cs : Array Value} {t : TypeId} (h : Blk w q cs t) (j : Nat) : w.frozen? ⟨q, j, none⟩ = false := by
  unfold Blk at h; simp [World.frozen?, h]
theorem Blk.set {w : World} {q : Nat} {cs : Array Value} {t : TypeId} (h : Blk w q cs t) (j : Nat) (u : Value) : Blk (w.setCell ⟨q, j, none⟩ u) q (cs.setIfInBounds j u) t := by
  have hlt := h.lt
  have h' : w.heap[q] = .cells cs t (0, 0) := by unfold Blk at h; simpa [Array.getElem?_eq_getElem hlt] using h
  unfold Blk
  show (w.heap.modify q _)[q]? = _
  rw [Array.getElem?_eq_getElem (by simpa using hlt), Array.getElem_modify_self, h']
  rfl
theorem Own.other {w : World} {B : Nat} {v : Value} {l : List UInt8} (h : Own w B v l) {p : Nat} (i : Nat) (u : Value) (hne : v.ownBlock ≠ some p) : Own (w.setCell ⟨p, i, none⟩ u) B v l := by
  refine ⟨h.1, ?_⟩
  rcases h.2 with h2 | ⟨g, cap, cur, hv, hg, hh, h3⟩
  · exact .inl h2
  · refine .inr ⟨g, cap, cur, hv, hg, ?_, h3⟩
    rw [Below.heap_setCell _ _ _ _ (fun e => hne (by rw [hv]; show some g = some p; rw [e])), hh]
theorem Own.apart {w : World} {B q : Nat} {v : Value} {l : List UInt8} {cs : Array Value} {t : TypeId} (h : Own w B v l) (hq : Blk w q cs t) (ht : t ≠ 5) : v.ownBlock ≠ some q := by
  intro e
  obtain ⟨c, fz, hc⟩ := h.kind q e
  unfold Blk at hq
  rw [hq] at hc; cases hc; exact ht rfl
theorem Own.zero {w : World} {B : Nat} {v : Value} {l : List UInt8} (h : Own w B v l) : Own w 0 v l := h.base fun _ _ => Nat.zero_le _

/-- The writer at q with the bytes v in world w has become that with v' in world w'; nothing else that was there has changed. -/
structure Moved (w w' : World) (q : Nat) (v v' : Value) : Prop where
  os : w'.os = w.os
  tape : w'.tape = w.tape
  output : w'.output = w.output
  size : w.heap.size ≤ w'.heap.size
  block : ∀ k, k < w.heap.size → k ≠ q → some k ≠ v.ownBlock → w'.heap[k]? = w.heap[k]?
  lies : ∀ g, v'.ownBlock = some g → v.ownBlock = some g ∨ w.heap.size ≤ g
theorem Moved.refl (w : World) (q : Nat) (v : Value) : Moved w w q v v := ⟨rfl, rfl, rfl, Nat.le_refl _, fun _ _ _ _ => rfl, fun _ h => .inl h⟩
theorem Moved.trans {w w1 w2 : World} {q : Nat} {v v1 v2 : Value} (h : Moved w w1 q v v1) (k : Moved w1 w2 q v1 v2) : Moved w w2 q v v2 := by
  refine ⟨k.os.trans h.os, k.tape.trans h.tape, k.output.trans h.output, Nat.le_trans h.size k.size, fun j hj hq hne => ?_, fun g hg => ?_⟩
  · refine (k.block j (Nat.lt_of_lt_of_le hj h.size) hq ?_).trans (h.block j hj hq hne)
    intro e
    rcases h.lies j e.symm with h1 | h1
    · exact hne h1.symm
    · omega
  · rcases k.lies g hg with h1 | h1
    · exact h.lies g h1
    · exact .inr (Nat.le_trans h.size h1)
theorem Moved.below {w w1 w2 : World} {q : Nat} {v v1 : Value} (h : Moved w w1 q v v1) (hb : Below w1.heap.size w1 w2) : Moved w w2 q v v1 :=
  ⟨hb.os.trans h.os, hb.tape.trans h.tape, hb.output.trans h.output, Nat.le_trans h.size hb.size, fun j hj hq hne => (hb.block j (Nat.lt_of_lt_of_le hj h.size)).trans (h.block j hj hq hne), h.lies⟩
theorem Moved.ofGrew {w w' : World} {q : Nat} {v v' : Value} (h : Grew w v w' v') (i : Nat) (u : Value) : Moved w (w'.setCell ⟨q, i, none⟩ u) q v v' :=
  ⟨h.grown.os, h.grown.tape, h.grown.output, by simpa using h.grown.size, fun k hk hq hne => (Below.heap_setCell _ _ _ _ hq).trans (h.grown.block k hk hne), h.lies⟩
theorem Moved.toBelow {w w' : World} {q : Nat} {v v' : Value} {B : Nat} {a : World} (h : Moved w w' q v v') (hb : Below B a w) (hq : B ≤ q) (hB : B ≤ w.heap.size) (hv : ∀ g, v.ownBlock = some g → B ≤ g) : Below B a w' :=
  hb.trans ⟨h.os, h.tape, h.output, h.size, fun k hk => h.block k (by omega) (by omega) (fun e => by have := hv k e.symm; omega)⟩
theorem Moved.at {w w' : World} {q : Nat} {v v' : Value} {B : Nat} (h : Moved w w' q v v') (hB : B ≤ w.heap.size) (hv : ∀ g, v.ownBlock = some g → B ≤ g) : ∀ g, v'.ownBlock = some g → B ≤ g := by
  intro g hg
  rcases h.lies g hg with h1 | h1
  · exact hv g h1
  · omega
theorem Own.at {w : World} {B : Nat} {v : Value} {l : List UInt8} (h : Own w B v l) : ∀ g, v.ownBlock = some g → B ≤ g := fun g hg => (World.ownsRow.lt h g hg).1

/-- A writer at block q that has written these bytes. -/
def Wr (w : World) (B q : Nat) (v : Value) (l : List UInt8) : Prop := Blk w q #[v] 64 ∧ Own w B v l ∧ B ≤ q
theorem Wr.later {w w' : World} {B q : Nat} {v : Value} {l : List UInt8} (h : Wr w B q v l) (hb : Below w.heap.size w w') : Wr w' B q v l := ⟨h.1.later hb, h.2.1.later hb, h.2.2⟩
theorem Wr.base {w : World} {B B' q : Nat} {v : Value} {l : List UInt8} (h : Wr w B q v l) (hB : B' ≤ B) : Wr w B' q v l := ⟨h.1, h.2.1.base fun g hg => Nat.le_trans hB (h.2.1.at g hg), Nat.le_trans hB h.2.2⟩
theorem Wr.toBelow {w w' a : World} {B q : Nat} {v v' : Value} {l : List UInt8} (h : Wr w B q v l) (hm : Moved w w' q v v') (hb : Below B a w) : Below B a w' :=
  hm.toBelow hb h.2.2 (Nat.le_trans h.2.2 (Nat.le_of_lt h.1.lt)) h.2.1.at

theorem newWriter_any (w : World) :
    Calls Tryd.prog 6 #[] w fun e w' => e = .returned (.pointer (some ⟨w.heap.size, 0, none⟩)) ∧ w' = w.alloc (.cells #[.slice none 0 0] 64) := by
  go_enter Tryd.func6, Tryd.ntmps6
  go_wp2
  go_ret
  exact ⟨rfl, rfl⟩
theorem wr_new (w : World) : Wr (w.alloc (.cells #[.slice none 0 0] 64)) w.heap.size w.heap.size (.slice none 0 0) [] := ⟨Blk.new _ _ _, Own.nil _ _, Nat.le_refl _⟩

set_option maxRecDepth 100000 in
set_option maxHeartbeats 1000000 in
theorem writeUint_any (x : Int) (B q : Nat) (v : Value) (l : List UInt8) (w : World) (h0 : 0 ≤ x) (h1 : x < 18446744073709551616) (hw : Wr w B q v l) (hl : l.length ≤ 140737488355200) :
    Calls Tryd.prog 7 #[.pointer (some ⟨q, 0, none⟩), .int .u64 x] w fun e w' => e = .returned (.tuple #[]) ∧ ∃ v', Wr w' B q v' (l ++ form x) ∧ Moved w w' q v v' := by
  obtain ⟨a0, c0, rfl⟩ := hw.2.1.slice
  have HA := hide (appendForm_any x B _ l w h0 h1 hw.2.1 (Nat.le_trans hw.2.2 (Nat.le_of_lt hw.1.lt)) hl)
  have hc : w.cell? ⟨q, 0, none⟩ = some (.slice a0 l.length c0) := hw.1.cell 0
  have HQ := hide hw
  clear hw
  go_enter Tryd.func7, Tryd.ntmps7
  go_wp2_with fail
  refine HA.out.mono ?_
  rintro e w1 ⟨v1, rfl, ho, hg⟩
  have hb1 : Blk w1 q #[.slice a0 l.length c0] 64 := (hg.grown.block q HQ.out.1.lt (fun e => HQ.out.2.1.apart HQ.out.1 (by decide) e.symm)).trans HQ.out.1
  have hc1 : w1.cell? ⟨q, 0, none⟩ = some (.slice a0 l.length c0) := hb1.cell 0
  have hf1 := hb1.free 0
  have hne := ho.apart hb1 (by decide)
  obtain ⟨a1, c1, rfl⟩ := ho.slice
  have HW1 : Hid (Wr (w1.setCell ⟨q, 0, none⟩ (.slice a1 (l ++ form x).length c1)) B q (.slice a1 (l ++ form x).length c1) (l ++ form x)) := hide ⟨hb1.set 0 _, ho.other 0 _ hne, HQ.out.2.2⟩
  have HM := hide (Moved.ofGrew (q := q) hg 0 (.slice a1 (l ++ form x).length c1))
  obtain ⟨R, hR⟩ : ∃ R, Hid (l ++ form x = R) := ⟨_, hide rfl⟩
  rw [hR.out] at HW1 HM ⊢
  clear hb1 hne ho hg HQ
  go_wp2_with fail
  go_end0
  exact ⟨rfl, _, by rw [hR.out]; exact HW1.out, HM.out⟩

theorem run_eql_nil {P : Program} (w : World) (t e : TypeId) (a : Option Addr) (l c : Nat) (h : P.underlying t = some (.slice e)) : (binOp .eql t (.slice a l c) (.slice none 0 0)).run P w = .ok (.bool a.isNone) w := by
  simp only [binOp]
  simp [run_equal_slice_nil w t e a l c h]
set_option maxRecDepth 100000 in
set_option maxHeartbeats 1000000 in
theorem clone_any (v : Value) (l : List UInt8) (w : World) (hv : RB w v l) (hl : l.length ≤ 140737488355328) :
    Calls Tryd.prog 30 #[v] w fun e w' => ∃ v', e = .returned v' ∧ Own w' w.heap.size v' l ∧ Below w.heap.size w w' := by
  obtain ⟨i0, hi, hz0, hz1, hz2⟩ := info_parts Tryd.infoB
  obtain ⟨b, a, cap, rfl, _, hr⟩ := hv
  cases a with
  | none =>
    have hl0 : l = [] := by
      rcases hr with h | ⟨off, h, _⟩
      · exact h
      · cases h
    subst hl0
    have heq := fun W : World => run_eql_nil (P := Tryd.prog) W 29 5 none 0 cap Tryd.underlying29
    go_enter Tryd.func30, Tryd.ntmps30
    go_wp2
    go_ret
    exact ⟨_, rfl, Own.nil _ _, Below.refl _ _⟩
  | some ad =>
    have hcell : ∀ (o : Obj) (j : Nat) (u : Value), (bv l)[j]? = some u → (w.alloc o).cell? (ad.add j) = some u := by
      intro o j u hj
      rcases hr with h | ⟨off, h, hb, hc⟩
      · rw [h] at hj; simp [bv] at hj
      · cases h
        have hjl : j < l.length := by have := (List.getElem?_eq_some_iff.1 hj).1; rwa [bv_len] at this
        obtain ⟨c, hc2⟩ := some_at hjl
        rw [bv_at hc2] at hj
        cases hj
        have e1 : (⟨b, off, none⟩ : Addr).add j = ⟨b, off + j, none⟩ := by simp [Addr.add]
        rw [e1, ((Below.refl w.heap.size w).alloc (Nat.le_refl _) o).cell (p := ⟨b, off + j, none⟩) hb]
        exact hc j c hc2
    have HC := hide hcell
    clear hcell hr
    have heq := fun W : World => run_eql_nil (P := Tryd.prog) W 29 5 (some ad) l.length cap Tryd.underlying29
    have HO : Hid (Own (w.alloc (.cells #[] 5)) w.heap.size (.slice (some ⟨w.heap.size, 0, none⟩) 0 0) []) := hide (World.ownsRow_lit (w := w) (base := w.heap.size) (e := 5) (size := 1) #[] 0 (Nat.le_refl _) (by decide) rfl)
    go_enter Tryd.func30, Tryd.ntmps30
    go_wp2_with (first
      | (at_builtin; refine wpList_append_own_at _ rfl _ _ 29 rfl w.heap.size 5 i0 (.int .u8 0) 1 1 Tryd.underlying29 hi hz0 hz1 hz2 rfl (by decide) _ _ _ rfl HO.out ad l.length cap (bv l) rfl (by rw [bv_len]; omega) (HC.out _) (bv_one l) ?c3 ?c4 ?c5 ?_)
      | go_in)
    case c3 => unfold maxLen; simp; omega
    case c4 => simp; omega
    case c5 => simp
    intro v' w1 hown' hgrow _ hat
    have HO1 : Hid (Own w1 w.heap.size v' l) := hide hown'
    have HK : ∀ k, (Value.slice (some ⟨w.heap.size, 0, none⟩) 0 0).ownBlock = some k → w.heap.size ≤ k := by
      intro k hk
      have : w.heap.size = k := by simpa [Value.ownBlock] using hk
      omega
    have HB := hide (((Below.refl w.heap.size w).alloc (Nat.le_refl _) (.cells #[] 5)).grown hgrow (by simp) HK)
    clear HK
    obtain ⟨a1, c1, rfl⟩ := HO1.out.slice
    clear hown' hgrow hat HO
    go_wp2_with fail
    go_ret
    exact ⟨_, rfl, HO1.out, HB.out⟩

set_option maxRecDepth 100000 in
set_option maxHeartbeats 1000000 in
theorem done_any (B q : Nat) (v : Value) (l : List UInt8) (w : World) (hw : Wr w B q v l) (hl : l.length ≤ 140737488355328) :
    Calls Tryd.prog 10 #[.pointer (some ⟨q, 0, none⟩)] w fun e w' => ∃ v', e = .returned v' ∧ Own w' w.heap.size v' l ∧ Below w.heap.size w w' := by
  obtain ⟨a0, c0, rfl⟩ := hw.2.1.slice
  have HA := hide (clone_any _ l w hw.2.1.rb hl)
  have hc : w.cell? ⟨q, 0, none⟩ = some (.slice a0 l.length c0) := hw.1.cell 0
  clear hw
  go_enter Tryd.func10, Tryd.ntmps10
  go_wp2_with fail
  refine HA.out.mono ?_
  rintro e w1 ⟨v1, rfl, ho, hb⟩
  have HO := hide ho
  have HB := hide hb
  obtain ⟨a1, c1, rfl⟩ := ho.slice
  clear ho hb
  go_wp2_with fail
  go_ret
  exact ⟨_, rfl, HO.out, HB.out⟩
end Go.Proofs.YthalmfbcdkihgaaDoor
