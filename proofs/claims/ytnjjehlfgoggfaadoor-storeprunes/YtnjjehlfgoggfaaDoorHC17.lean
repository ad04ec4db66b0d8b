/-
  My own text: a walk over a chain that stays as it is; all versions in a row; the same rows.
-/
import Derived.Test.YtnjjehlfgoggfaaDoorHC16
namespace Go.Proofs.YtnjjehlfgoggfaaDoor
open Go.RowKit Go.Shelf

attribute [local go_sem] Oper.semAt_some

/-- What a round keeps: all versions in memory. -/
def KpV (A C : World) : Prop := A.heap.size ≤ C.heap.size ∧ ∀ (g : Nat) (c : Array Value) (fz : Nat × Nat), A.heap[g]? = some (Obj.cells c 92 fz) → C.heap[g]? = some (Obj.cells c 92 fz)
theorem KpV.trans {A B C : World} (h : KpV A B) (k : KpV B C) : KpV A C := ⟨Nat.le_trans h.1 k.1, fun g c fz hg => k.2 g c fz (h.2 g c fz hg)⟩
theorem KpV.below {A C : World} (hb : Below A.heap.size A C) : KpV A C := ⟨hb.size, fun g _ _ h => (hb.block g (Array.getElem?_eq_some_iff.1 h).1).trans h⟩
theorem KpV.put {l : Nat} {W : World} {o : Obj} (h : W.heap[l]? = some o) (ho : o.isCells = false) (o' : Obj) : KpV W (W.putObj l o') :=
  ⟨by simp, fun g c fz hg => (World.putObj_heap_other (fun e => by rw [e, h] at hg; cases hg; cases ho)).trans hg⟩
theorem KpV.set {W : World} {b : Nat} {t : TypeId} {u : Value} (h : Box W b t u) (ht : t ≠ 92) (u' : Value) : KpV W (W.setCell ⟨b, 0, none⟩ u') :=
  ⟨Nat.le_of_eq (size_set _ _ _).symm, fun g c fz hg => (Below.heap_setCell _ _ _ g (fun e => by
    have h' : W.heap[b]? = some (.cells #[u] t (0, 0)) := h
    rw [show g = b from e, h'] at hg
    injection hg with hg
    injection hg with _ q _
    exact ht q)).trans hg⟩
set_option maxRecDepth 100000 in
set_option maxHeartbeats 4000000 in
theorem all_stays (n : Nat) (hn : 1 ≤ n) (bc B cb : Nat) (L : List Ver) (hr : Ris L) (hpos : ∀ p ∈ L, 0 ≤ p.1) (hlen : L.length ≤ 4611686018427387904) (w : World) :
    Leans Fence.wide n Tryd.prog 73 #[.pointer (some ⟨bc, 0, none⟩)] encP (fun _ V => CH V B cb L ∧ V.cell? ⟨bc, 0, none⟩ = some (.pointer (some ⟨cb, 0, none⟩))) KpV
      (fun s x => s = L.take s.length ∧ L[s.length]? = some x) (fun s => s = L) (fun _ => True) w := by
  intro l J Jx W hW hJ0 hH hY h0
  have hJ : ∀ s A C, J s A → Below A.heap.size A C → J s C := fun s A C hs hb => hJ0 s A C none hs (grown_of_below hb) (fun r e => by cases e)
  have HA := hide (fun (q : Int) (V : World) (h : CH V B cb L) => above_any q B cb L V h hr hlen)
  have hW0 := hide hW.size
  have hc0 := (hH _ _ h0).2
  have hC0 := (hH _ _ h0).1
  have qf := eqNilY l
  refine callsIn_of_wp Tryd.func73 rfl trivial ?_ rfl
  simp only [Tryd.ntmps73, List.size_toArray, List.length_cons, List.length_nil, Nat.reduceAdd, Nat.reduceSub, Array.replicate_succ, Array.replicate_zero, List.push_toArray, List.append_toArray, List.nil_append, List.cons_append]
  gi_wp2
  refine ⟨trivial, (callsIn_wide.2 (HA.out (-1) W hC0)).mono ?_⟩
  rintro e w1 ⟨rfl, hb1⟩
  rw [ab_neg L hpos]
  have hJ1 := hide (hJ _ _ _ h0 hb1)
  have hS1 := hide hb1.size
  clear hb1 hc0 h0 hC0 hW
  gi_wp2
  gi_loopw [3] (fun i wr => ∃ k : Nat, k ≤ L.length ∧ i = .int .i64 (k : Int) ∧ Hid (J (L.take k) wr) ∧ Hid (W.heap.size ≤ wr.heap.size)) (fun i _ => L.length - (intOf i).toNat)
  case atStart => exact ⟨0, Nat.zero_le _, rfl, hide (by rw [List.take_zero]; exact hJ1.out), hS1⟩
  case round =>
    obtain ⟨k, hk, rfl, HJ, HS⟩ := hrel
    have hHk := hH _ _ HJ.out
    have HC := hide hHk.1
    obtain ⟨a, cap, c0, hL⟩ := hHk.1.parts
    have cc := hHk.2
    clear hHk
    by_cases hlt : k < L.length
    · obtain ⟨p, hp⟩ : ∃ p, L[k]? = some p := ⟨_, List.getElem?_eq_getElem hlt⟩
      obtain ⟨g, off, rfl, c1, c2⟩ := hL k p hp
      have HR : Hid (wr.rangeAt g (off + k * 2) (vrC p).toList) := hide (fun j u hj => by
        match j, hj with
        | 0, hj => cases hj; exact c1
        | 1, hj => cases hj; exact c2)
      have hd1 : decide ((k : Int) < (L.length : Int)) = true := by rw [decide_eq_true_eq]; omega
      have k0 : (0 : Int) ≤ (k : Int) := by omega
      have k1 : (k : Int) < (L.length : Int) := by omega
      have HP := hide hp
      obtain ⟨W2, hW2⟩ : ∃ W2, wr.alloc (.cells #[.int .i64 p.1, .string ⟨p.2.toArray⟩] 92) = W2 := ⟨_, rfl⟩
      have hb2 : Below wr.heap.size wr W2 := by rw [← hW2]; exact (Below.refl _ _).alloc (Nat.le_refl _) _
      have hN2 : Hid (W2.heap[wr.heap.size]? = some (.cells #[.int .i64 p.1, .string ⟨p.2.toArray⟩] 92 (0, 0))) := hide (by rw [← hW2]; exact alloc_newV wr _)
      have b0 : W2.cell? ⟨wr.heap.size, 0, none⟩ = some (.int .i64 p.1) := by rw [cell_of_row _ _ _ _ _ _ hN2.out]; rfl
      have b1 : W2.cell? ⟨wr.heap.size, 1, none⟩ = some (.string ⟨p.2.toArray⟩) := by rw [cell_of_row _ _ _ _ _ _ hN2.out]; rfl
      have HB2 := hide hb2
      obtain ⟨fn, tmps, assign, body, hy, hR⟩ := hY (L.take k) p W2 (hJ _ _ _ HJ.out hb2) ⟨by rw [List.length_take, Nat.min_eq_left hk], by rw [List.length_take, Nat.min_eq_left hk]; exact hp⟩
      dsimp only [encP] at hy
      have HRR := hide hR
      clear hR hb2 hL c1 c2 hp hY
      gi_wp2_with (first
        | (refine wpListIn_load_mid rfl 92 _ rfl g (off + k * 2) rfl (vrC p).toList _ HR.out Tryd.underlying92 rfl Tryd.sizeVer ?_; rw [Array.toArray_toList]; unfold vrC)
        | (refine wpListIn_store_row rfl 92 _ _ rfl wr.heap.size #[.int .i64 p.1, .string ⟨p.2.toArray⟩] rfl rfl _ _ (alloc_newV wr _) Tryd.sizeVer rfl (by simp [Value.oneCell']) ?_; rw [World.setRow_alloc_new]))
      refine HRR.out.mono ?_
      rintro e W3 (⟨rfl, hJ3, hk3⟩ | ⟨rfl, hJx3⟩)
      · have HJ3 : Hid (J (L.take (k + 1)) W3) := hide (by rw [List.take_add_one, HP.out]; exact hJ3)
        have hN3 := hk3.2 _ _ _ hN2.out
        have b3 : W3.cell? ⟨wr.heap.size, 0, none⟩ = some (.int .i64 p.1) := by rw [cell_of_row _ _ _ _ _ _ hN3]; rfl
        have hH3 := hH _ _ HJ3.out
        have c3 := hH3.2
        have HC3 := hide hH3.1
        have HZ3 : Hid (wr.heap.size < W3.heap.size) := hide (Array.getElem?_eq_some_iff.1 hN3).1
        clear hk3 hJ3 hN3 hW2 b0 b1 cc c0 hH3
        gi_wp2
        refine ⟨trivial, (callsIn_wide.2 (HA.out p.1 W3 HC3.out)).mono ?_⟩
        rintro e w4 ⟨rfl, hb4⟩
        rw [ab_self L k p hr HP.out]
        have HJ4 : Hid (J (L.take (k + 1)) w4) := hide (hJ _ _ _ HJ3.out hb4)
        have HC4 := hide (HC3.out.later hb4)
        have HS4 : Hid (W.heap.size ≤ w4.heap.size) := hide (by have := HS.out; have := HZ3.out; have := hb4.size; omega)
        clear hb4
        gi_wp2
        go_roundw
        case rel => exact ⟨k + 1, by omega, by first | rfl | go_num, HJ4, HS4⟩
        case measure => simp [intOf]; omega
      · have HX3 := hide hJx3
        clear hJx3
        gi_wp2
        refine bodyPost_ret (results_none rfl _ _ _) rfl ?_
        exact ⟨⟨_, rfl⟩, .inr ⟨_, trivial, HX3.out⟩⟩
    · have e : k = L.length := by omega
      subst e
      gi_wp2
      go_end0
      exact ⟨⟨_, rfl⟩, .inl ⟨L, rfl, by have := HJ.out; rw [List.take_length] at this; exact this⟩⟩
end Go.Proofs.YtnjjehlfgoggfaaDoor
