/-
  My own text: an entry sinks; a copy of the entries.
-/
import Derived.Test.YtegemfkadclnkaaPA4
namespace Go.Proofs.Ytegemfkadclnkaa
open Go.RowKit

theorem alloc_new (w : World) (o : Obj) : (w.alloc o).heap[w.heap.size]? = some o := heap_alloc_new w o
theorem lit2_cells {w : World} {o : Obj} {a b : Value} {t : TypeId} {g : Nat} (h : w.heap[g]? = some o) (ho : o = .cells #[a, b] t (0, 0)) : w.cell? ⟨g, 0, none⟩ = some a ∧ w.cell? ⟨g, 1, none⟩ = some b := by
  subst ho
  exact ⟨by rw [cell_of_row _ _ 0 _ _ _ h]; rfl, by rw [cell_of_row _ _ 1 _ _ _ h]; rfl⟩
set_option maxRecDepth 100000 in
set_option maxHeartbeats 4000000 in
theorem sink_any {lf : FuncId} {k : Pr → Int} (hl : LOk lf k) (p : Nat) (B hb lb : Nat) (v : Value) (E : List En) (N : Nat) (w : World) (h : HP w B hb lb lf v E N) (hp : p < E.length) (ho : Sink (ltE k) E p) (hlen : E.length ≤ 1152921504606846976) :
    Calls Try.prog 30 #[.pointer (some ⟨hb, 0, none⟩), .int .i64 (p : Int)] w fun e w' => (∃ u, e = .returned u) ∧ ∃ (E' : List En), E'.Perm E ∧ HeapOk (ltE k) E' ∧ HP w' B hb lb lf v E' N ∧ w.grownBy w' v.ownBlock := by
  have HL := hide hl
  have H0 : Hid (E.Perm E ∧ Sink (ltE k) E p ∧ HP w B hb lb lf v E N ∧ w.grownBy w v.ownBlock) := hide ⟨List.Perm.refl _, ho, h, gb_refl _ _⟩
  have HLE := hide hlen
  obtain ⟨g, cap, cur, rfl, hB, hh, hq⟩ := h.row.parts (by omega)
  clear hB hh hq h ho hl hlen cur
  go_enter Try.func30, Try.ntmps30
  go_wp2_with fail
  go_loopw [1] (fun i wr => ∃ (r : Nat) (E' : List En), i = .int .i64 (r : Int) ∧ r < E.length ∧ Hid (E'.Perm E ∧ Sink (ltE k) E' r ∧ HP wr B hb lb lf (.slice (some ⟨g, 0, none⟩) E.length cap) E' N ∧ w.grownBy wr (some g))) (fun i _ => E.length - (intOf i).toNat)
  case atStart => exact ⟨p, E, rfl, hp, H0⟩
  case round =>
    obtain ⟨r, E', rfl, hrl, HR⟩ := hrel
    have hEl := HR.out.1.length_eq
    have hle := HLE.out
    obtain ⟨c1, HC1⟩ : ∃ c1 : Nat, Hid (c1 = 2 * r + 1 + 0) := ⟨_, hide rfl⟩
    obtain ⟨c2, HC2⟩ : ∃ c2 : Nat, Hid (c2 = 2 * r + 1 + 1) := ⟨_, hide rfl⟩
    have w0 : wrap64 (2 * (r : Int)) = 2 * (r : Int) := by unfold wrap64; omega
    have w1 : wrap64 (2 * (r : Int) + 1) = (c1 : Int) := by have := HC1.out; unfold wrap64; omega
    have w2 : wrap64 (2 * (r : Int) + 2) = (c2 : Int) := by have := HC2.out; unfold wrap64; omega
    obtain ⟨W, hW⟩ : ∃ W, Hid (wr.alloc (.cells #[.int .i64 (c1 : Int), .int .i64 (c2 : Int)] 3) = W) := ⟨_, hide rfl⟩
    have hBW : Below wr.heap.size wr W := by rw [← hW.out]; exact (Below.refl _ _).alloc (Nat.le_refl _) _
    have hn : W.heap[wr.heap.size]? = some (.cells #[.int .i64 (c1 : Int), .int .i64 (c2 : Int)] 3 (0, 0)) := by rw [← hW.out]; exact alloc_new wr _
    obtain ⟨x0, x1⟩ := lit2_cells hn rfl
    have HF := hide (firstOf_any HL.out r wr.heap.size B hb lb (.slice (some ⟨g, 0, none⟩) E.length cap) E' N W (HR.out.2.2.1.later hBW) (by omega) (by omega) (blk_lt hn) (fun t ht => by
      match t, ht with
      | 0, _ => rw [← HC1.out]; exact x0
      | 1, _ => rw [← HC2.out]; exact x1))
    rw [← hW.out] at HF
    have HBW := hide hBW
    clear hBW hn x0 x1 hle
    go_wp2_with fail
    refine HF.out.mono ?_
    rintro e w8 ⟨m, rfl, hm, hb8⟩
    rw [hW.out] at hb8
    have HM := hide hm
    have HW8 := hide (HBW.out.trans (hb8.mono HBW.out.size))
    clear HF hm hb8 w0 w1 w2 HBW
    by_cases hmr : m = r
    · subst hmr
      go_wp2_with fail
      refine bodyPost_ret (results_none rfl _ _ _) rfl ?_
      obtain ⟨h1, h2, h3, h4⟩ := HR.out
      refine ⟨⟨_, rfl⟩, E', h1, h2.heap (fun j x y hj0 hj hx hy => HM.out.low j x y (by omega) (by omega) hx hy), h3.later HW8.out, gb_trans h4 (gb_below _ HW8.out)⟩
    · have d1 : ((m : Int) == (r : Int)) = false := by rw [beq_eq_false_iff_ne]; omega
      have d2 : ¬ (m : Int) = (r : Int) := by omega
      have hml := HM.out.len
      obtain ⟨x, hx⟩ : ∃ x, E'[r]? = some x := ⟨_, List.getElem?_eq_getElem (by omega)⟩
      obtain ⟨y, hy⟩ : ∃ y, E'[m]? = some y := ⟨_, List.getElem?_eq_getElem hml⟩
      have HX := hide hx
      have HY := hide hy
      have HSW := hide (swap_any r m x y B hb lb lf (.slice (some ⟨g, 0, none⟩) E.length cap) E' N w8 (HR.out.2.2.1.later HW8.out) hx hy)
      have HAT := hide HM.out.at_
      clear hx hy
      go_wp2_with fail
      refine HSW.out.mono ?_
      rintro e w9 ⟨⟨u, rfl⟩, hs1, hs2⟩
      have H9 : Hid (_ ∧ _ ∧ _ ∧ _) := hide (And.intro ((sw_perm HX.out HY.out).trans HR.out.1) (And.intro (HR.out.2.1.down (ltE_so k) (c := m) (by have := HAT.out; omega) HX.out HY.out (HM.out.ahead hmr _ _ HX.out HY.out) (fun j z hj0 hj hz => HM.out.low j z y (by omega) (by omega) hz HY.out)) (And.intro hs1 (gb_trans HR.out.2.2.2 (gb_trans (gb_below _ HW8.out) hs2)))))
      clear hs1 hs2
      go_wp2_with fail
      go_roundw
      case rel => exact ⟨m, _, rfl, by omega, H9⟩
      case measure => have := HAT.out; simp [intOf]; omega
end Go.Proofs.Ytegemfkadclnkaa
