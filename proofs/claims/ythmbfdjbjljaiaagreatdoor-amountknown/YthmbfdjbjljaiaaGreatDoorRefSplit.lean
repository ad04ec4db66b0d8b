/-
  My own text: dealing out: the document's answer: its first loop.
-/
import Derived.Test.YthmbfdjbjljaiaaGreatDoorSplit
import Derived.Test.YthmbfdjbjljaiaaGreatDoorSelMath
import Derived.Test.YthmbfdjbjljaiaaGreatDoorRefMulDiv
import Derived.Test.YthmbfdjbjljaiaaGreatDoorLists
import Derived.RegionTactic
import Derived.WalkSmall
import Derived.Deep.QuietTactic
namespace Go.Proofs.YthmbfdjbjljaiaaGreatDoor
open Go.RowKit

theorem Tryz.infoBool : (Tryz.prog.info? 4).map (fun i => (i.zero, i.size, i.bytes)) = some (some (.bool false), 1, 1) := by kernel_rfl
/-- A row of one's own, of another type of cells than the one that has grown, is as it was. -/
theorem keep_other {w w' : World} {row : Option Nat} {B n : Nat} {e e' : TypeId} {v : Value} {xs : List Value} (hg : w.grownBy w' row) (hrow : ∀ g, row = some g → ∃ c fz, w.heap[g]? = some (.cells c e fz))
    (h : w.ownsRow B e' 1 v n xs) (hne : e ≠ e') : w'.ownsRow B e' 1 v n xs := by
  refine ⟨h.1, ?_⟩
  rcases h.2 with h2 | ⟨g, cap, cur, hv, hb, hh, h3⟩
  · exact .inl h2
  · have hlt : g < w.heap.size := by
      by_cases hc : g < w.heap.size
      · exact hc
      · rw [Array.getElem?_eq_none (by omega)] at hh; cases hh
    refine .inr ⟨g, cap, cur, hv, hb, ?_, h3⟩
    rw [hg.block g hlt ?_]; exact hh
    intro hr
    obtain ⟨c, fz, hc⟩ := hrow g hr.symm
    rw [hh] at hc
    cases hc
    exact hne rfl
theorem keep_block {w w' : World} {row : Option Nat} {e t : TypeId} {b : Nat} {cs : Array Value} {fz : Nat × Nat} (hg : w.grownBy w' row) (hrow : ∀ g, row = some g → ∃ c fz, w.heap[g]? = some (.cells c e fz))
    (hh : w.heap[b]? = some (.cells cs t fz)) (hne : e ≠ t) : w'.heap[b]? = some (.cells cs t fz) := by
  have hlt : b < w.heap.size := by
    by_cases hc : b < w.heap.size
    · exact hc
    · rw [Array.getElem?_eq_none (by omega)] at hh; cases hh
  rw [hg.block b hlt ?_]; exact hh
  intro hr
  obtain ⟨c, fz', hc⟩ := hrow b hr.symm
  rw [hh] at hc
  cases hc
  exact hne rfl
theorem block_alloc {w : World} {b : Nat} {o x : Obj} (hh : w.heap[b]? = some x) : (w.alloc o).heap[b]? = some x := by
  have hlt : b < w.heap.size := by
    by_cases hc : b < w.heap.size
    · exact hc
    · rw [Array.getElem?_eq_none (by omega)] at hh; cases hh
  rw [Below.heap_alloc _ _ _ hlt]; exact hh
theorem block_new (w : World) (o : Obj) : (w.alloc o).heap[w.heap.size]? = some o := (MapKept.heap_alloc w o).1
theorem cell_of_block {w : World} {b : Nat} {x y : Value} {t : TypeId} (hh : w.heap[b]? = some (.cells #[x, y] t)) : w.cell? ⟨b, 1, none⟩ = some y := by simp [World.cell?, hh]
theorem own_kind {w : World} {B n : Nat} {e : TypeId} {v : Value} {xs : List Value} (h : w.ownsRow B e 1 v n xs) : ∀ g, v.ownBlock = some g → ∃ c fz, w.heap[g]? = some (.cells c e fz) := by
  intro g hg
  rcases h.2 with ⟨rfl, _⟩ | ⟨g', cap, cur, rfl, hb, hh, h3⟩
  · cases hg
  · cases hg; exact ⟨cur, (0, 0), hh⟩
theorem own_later {w w' : World} {B n : Nat} {e : TypeId} {v : Value} {xs : List Value} (h : w.ownsRow B e 1 v n xs) (hb : Below w.heap.size w w') : w'.ownsRow B e 1 v n xs := by
  refine ⟨h.1, ?_⟩
  rcases h.2 with h2 | ⟨g, cap, cur, hv, hg, hh, h3⟩
  · exact .inl h2
  · have hlt : g < w.heap.size := by
      by_cases hc : g < w.heap.size
      · exact hc
      · rw [Array.getElem?_eq_none (by omega)] at hh; cases hh
    exact .inr ⟨g, cap, cur, hv, hg, (hb.block g hlt).trans hh, h3⟩

/-- The first n cells of a block, none frozen. -/
def RowC (w : World) (g n : Nat) (f : Nat → Value) : Prop := g < w.heap.size ∧ ∀ j, j < n → w.cell? ⟨g, j, none⟩ = some (f j) ∧ w.frozen? ⟨g, j, none⟩ = false
theorem RowC.drewN {w : World} {g n : Nat} {f : Nat → Value} (h : RowC w g n f) (k : Nat) : RowC (w.drewN k) g n f := h
theorem RowC.other {w : World} {g n g' i : Nat} {f : Nat → Value} {v : Value} (h : RowC w g n f) (hne : g' ≠ g) : RowC (w.setCell ⟨g', i, none⟩ v) g n f :=
  ⟨by simpa using h.1, fun j hj => ⟨cell_other (h.2 j hj).1 (Or.inl hne), by rw [World.frozen?_setCell]; exact (h.2 j hj).2⟩⟩
theorem RowC.set {w : World} {g n i : Nat} {f f' : Nat → Value} {v : Value} (h : RowC w g n f) (hf : ∀ j, j < n → (if j = i then v else f j) = f' j) : RowC (w.setCell ⟨g, i, none⟩ v) g n f' := by
  refine ⟨by simpa using h.1, fun j hj => ⟨?_, by rw [World.frozen?_setCell]; exact (h.2 j hj).2⟩⟩
  rw [← hf j hj]
  by_cases e : j = i
  · subst e; rw [if_pos rfl]; exact World.cell?_setCell_same _ _ _ (h.2 j hj).1
  · rw [if_neg e]; exact cell_other (h.2 j hj).1 (Or.inr (fun h => e h.symm))
theorem rowC_of_owns {w : World} {B n : Nat} {e : TypeId} {v : Value} {xs : List Value} {f : Nat → Value} (h : w.ownsRow B e 1 v n xs) (h0 : 0 < n) (hf : ∀ j, j < n → xs[j]? = some (f j)) :
    ∃ g cap cs, v = .slice (some ⟨g, 0, none⟩) n cap ∧ B ≤ g ∧ RowC w g n f ∧ w.heap[g]? = some (.cells cs e) := by
  obtain ⟨g, cap, rfl, hb, hlt⟩ := h.form h0
  rcases h.2 with ⟨_, h2⟩ | ⟨g', cap', cur, hv, _, hh, hn, _⟩
  · omega
  · cases hv
    exact ⟨g, cap, cur, rfl, hb, ⟨hlt, fun j hj => ⟨by rw [World.ownsRow.cellAt h j (by omega)]; exact hf j hj, by simp [World.frozen?, hh]⟩⟩, hh⟩
theorem blocks_ne {w : World} {g g' : Nat} {cs cs' : Array Value} {e e' : TypeId} (h : w.heap[g]? = some (.cells cs e)) (h' : w.heap[g']? = some (.cells cs' e')) (hne : e ≠ e') : g ≠ g' := by
  intro hg; subst hg; rw [h] at h'; cases h'; exact hne rfl
def splitL (n S : Int) (l : List Int) (D : List Nat) : List Int := (List.range l.length).map fun j => dealt (fun j => n * l.getD j 0 / S) D j

set_option maxRecDepth 100000 in
set_option maxHeartbeats 4000000 in
theorem refSplit_fit (n : Int) (v : Value) (l : List Int) (w : World) (C : List Nat) (hv : RI w .i64 v l) (hl : l.length ≤ 17592186044416) (hb : ∀ x ∈ l, -9223372036854775808 ≤ x ∧ x ≤ 9223372036854775807)
    (n0 : 0 ≤ n) (n1 : n ≤ 9223372036854775807) (hW : areW l = true) (hS : l.sum ≤ 9223372036854775807) (hC : Ordr C (fun j => n * l.getD j 0 % l.sum) l.length) :
    Calls Tryz.prog 43 #[.int .i64 n, v] w fun e w' => ∃ v', e = .returned (.tuple #[v', .int .i64 0]) ∧ RI w' .i64 v' (splitL n l.sum l (C.take (leftN n l).toNat)) ∧ Below w.heap.size w w' := by
  obtain ⟨hnn, hpos⟩ := areW_pos hW
  have HRW := hide (refWeights_any n v l w hv hl hb)
  have HWF := hide (w_fit (n := n) (by omega) hW)
  have HSV := hide (sum_ok (s := l.sum) ⟨by omega, hS⟩)
  have HLB := hide (left_bounds (n := n) hpos)
  have HQL := hide (q_left n0 hnn hpos)
  have HLE := hide (le_sum l hnn)
  have HNN := hide hnn
  have HC := hide hC
  have HLD := hide (show leftN n l = n - (qs n l.sum l).sum from rfl)
  obtain ⟨S, HS⟩ : ∃ S, Hid (l.sum = S) := ⟨_, hide rfl⟩
  rw [HS.out] at HSV HLD HC HWF HQL HLE hpos hS
  obtain ⟨L, HL⟩ : ∃ L : Nat, Hid (leftN n l = (L : Int)) := ⟨(leftN n l).toNat, hide (by have := HLB.out; omega)⟩
  have hLl : L < l.length := by have h := HLB.out; rw [HL.out] at h; omega
  clear hC hnn hW hb
  obtain ⟨i1, hi1, hza1, hzb1, hzc1⟩ := info_parts Tryz.infoLong
  obtain ⟨i2, hi2, hza2, hzb2, hzc2⟩ := info_parts Tryz.infoWord
  obtain ⟨i3, hi3, hza3, hzb3, hzc3⟩ := info_parts Tryz.infoBool
  obtain ⟨a, cap, rfl, hr⟩ := hv
  go_enter Tryz.func43, Tryz.ntmps43
  go_wp2_with fail
  refine HRW.out.mono ?_
  rw [HWF.out.1, HWF.out.2, HSV.out.1, HSV.out.2]
  rintro e w1 ⟨rfl, hb1⟩
  go_wp2_with fail
  go_loopw [8, 9, 10, 11, 12] (fun vp vr vg lf i wr => ∃ (k : Nat) (x : Int), k ≤ l.length ∧ i = .int .i64 k ∧ lf = .int .i64 x ∧ Hid (x = n - (qs n S (l.take k)).sum) ∧ 0 ≤ x ∧ x ≤ n ∧
    wr.ownsRow w.heap.size 2 1 vp k (lv .i64 (qs n S (l.take k))) ∧ wr.ownsRow w.heap.size 66 1 vr k (lv .u64 (rs n S (l.take k))) ∧ wr.ownsRow w.heap.size 4 1 vg k (List.replicate k (.bool false)) ∧ Below w.heap.size w wr) (fun _ _ _ _ i _ => l.length - (intOf i).toNat)
  case atStart => exact ⟨0, n, Nat.zero_le _, rfl, rfl, hide (by simp [qs]), n0, Int.le_refl _, World.ownsRow_nil w1 w.heap.size 2 1, World.ownsRow_nil w1 w.heap.size 66 1, World.ownsRow_nil w1 w.heap.size 4 1, hb1⟩
  case round =>
    clear hb1
    obtain ⟨k, lf, hk, rfl, rfl, HLF, lf0, lf1, hP, hR, hG, hB⟩ := hrel
    by_cases hlt : k < l.length
    · obtain ⟨x, hx⟩ := some_at hlt
      rcases hr with h0 | ⟨b, off, rfl, hbl, hc⟩
      · rw [h0] at hlt; simp at hlt
      have hcell := (hB.cell (p := ⟨b, off + k, none⟩) hbl).trans (hc k x hx)
      have HX := hide hx
      have x0 : 0 ≤ x := HNN.out x (List.mem_of_getElem? hx)
      have x1 : x ≤ S := HLE.out x (List.mem_of_getElem? hx)
      clear hc hx
      obtain ⟨q0, q1, r0, r1, p0, p1⟩ := q_words n0 n1 x0 x1 hS hpos
      obtain ⟨l0, l1, HP⟩ := hl_of (n * x)
      have hh := hi_nn p0
      have hh2 : hiW (n * x) < 18446744073709551616 := by have := HP.out; omega
      obtain ⟨e0, e1⟩ := word_small (x := n * x / S) q0 (by omega)
      have HE0 := hide e0
      have HE1 := hide e1
      have HQT := hide (qs_take (n := n) (S := S) HX.out)
      have hsub : 0 ≤ lf - n * x / S := by
        have h1 := (qs_part n0 HNN.out hpos (k + 1)).2
        rw [HQT.out] at h1
        have h2 := HLF.out
        have h3 := HLD.out
        rw [HL.out] at h3
        omega
      have HT1 : Hid (lv .i64 (qs n S (l.take (k + 1))) = lv .i64 (qs n S (l.take k)) ++ [.int .i64 (n * x / S)]) := by
        show lv .i64 (qs n S (l.take (k + 1))) = _
        rw [take_next HX.out]; simp [qs, lv]
      have HT2 : Hid (lv .u64 (rs n S (l.take (k + 1))) = lv .u64 (rs n S (l.take k)) ++ [.int .u64 (n * x % S)]) := by
        show lv .u64 (rs n S (l.take (k + 1))) = _
        rw [take_next HX.out]; simp [rs, lv]
      clear e0 e1
      go_wp2_with fail
      refine (times_any n x _ (by omega) (by omega) (by omega) (by omega)).mono ?_
      rintro e w3 ⟨rfl, hb3⟩
      go_wp2_with fail
      refine (over_any _ _ S (n * x) _ hh hh2 l0 l1 hpos (by omega) (hide HP.out.symm)).mono ?_
      rintro e w4 ⟨rfl, hb4⟩
      rw [HE0.out, HE1.out]
      have hB4 := (hB.trans (hb3.mono hB.size)).trans (hb4.mono (hB.trans (hb3.mono hB.size)).size)
      have hP4 := (own_later (own_later hP hb3) hb4).alloc (.cells #[.int .u64 0, .int .u64 (n * x / S)] 95)
      have hR4 := (own_later (own_later hR hb3) hb4).alloc (.cells #[.int .u64 0, .int .u64 (n * x / S)] 95)
      have hG4 := (own_later (own_later hG hb3) hb4).alloc (.cells #[.int .u64 0, .int .u64 (n * x / S)] 95)
      have hQ4 := block_new w4 (.cells #[.int .u64 0, .int .u64 (n * x / S)] 95)
      have hB4' := hB4.alloc hB4.size (.cells #[.int .u64 0, .int .u64 (n * x / S)] 95)
      clear hP hR hG hb3 hb4 hB HE0 HE1
      go_wp2_with (first
        | (at_builtin; refine wpList_append_own _ rfl _ _ 23 rfl w.heap.size 2 i1 (.int .i64 0) 1 8 Tryz.underlying23 hi1 hza1 hzb1 hzc1 rfl (by decide) _ _ _ rfl (hP4.alloc _) ⟨_, 0, none⟩ 1 1 [.int .i64 (n * x / S)] rfl rfl ?c1 ?c2 ?c3 ?c4 ?c5 ?_)
        | go_in)
      case c1 =>
        intro j u hj
        match j, hj with
        | 0, hj => simp at hj; subst hj; simp [Addr.add]
      case c2 => intro u hu; simp at hu; subst hu; rfl
      case c3 => unfold maxLen; omega
      case c4 => omega
      case c5 => exact (hB4'.alloc hB4'.size _).size
      intro v1 w5 hP5 hg5 _
      have hK5 := own_kind (hP4.alloc (.cells #[.int .i64 (n * x / S)] 2))
      have hR5 := keep_other hg5 hK5 (hR4.alloc _) (by decide)
      have hG5 := keep_other hg5 hK5 (hG4.alloc _) (by decide)
      have hQ5 := keep_block hg5 hK5 (block_alloc hQ4) (by decide)
      have hB5 := (hB4'.alloc hB4'.size _).grown hg5 (hB4'.alloc hB4'.size _).size (fun k hk => (hP4.lt k hk).1)
      clear hP4 hR4 hG4 hQ4 hg5 hK5
      go_wp2_with (first
        | (at_builtin; refine wpList_append_own _ rfl _ _ 82 rfl w.heap.size 66 i2 (.int .u64 0) 1 8 Tryz.underlying82 hi2 hza2 hzb2 hzc2 rfl (by decide) _ _ _ rfl (hR5.alloc _) ⟨_, 0, none⟩ 1 1 [.int .u64 (n * x % S)] rfl rfl ?c1 ?c2 ?c3 ?c4 ?c5 ?_)
        | go_in)
      case c1 =>
        intro j u hj
        match j, hj with
        | 0, hj => simp at hj; subst hj; simp [Addr.add]
      case c2 => intro u hu; simp at hu; subst hu; rfl
      case c3 => unfold maxLen; omega
      case c4 => omega
      case c5 => exact (hB5.alloc hB5.size _).size
      intro v2 w6 hR6 hg6 _
      have hK6 := own_kind (hR5.alloc (.cells #[.int .u64 (n * x % S)] 66))
      have hP6 := keep_other hg6 hK6 (hP5.alloc _) (by decide)
      have hG6 := keep_other hg6 hK6 (hG5.alloc _) (by decide)
      have hQ6 := keep_block hg6 hK6 (block_alloc hQ5) (by decide)
      have hB6 := (hB5.alloc hB5.size _).grown hg6 (hB5.alloc hB5.size _).size (fun k hk => (hR5.lt k hk).1)
      clear hP5 hR5 hG5 hQ5 hg6 hK6
      go_wp2_with (first
        | (at_builtin; refine wpList_append_own _ rfl _ _ 117 rfl w.heap.size 4 i3 (.bool false) 1 1 Tryz.underlying117 hi3 hza3 hzb3 hzc3 rfl (by decide) _ _ _ rfl (hG6.alloc _) ⟨_, 0, none⟩ 1 1 [.bool false] rfl rfl ?c1 ?c2 ?c3 ?c4 ?c5 ?_)
        | go_in)
      case c1 =>
        intro j u hj
        match j, hj with
        | 0, hj => simp at hj; subst hj; simp [Addr.add]
      case c2 => intro u hu; simp at hu; subst hu; rfl
      case c3 => unfold maxLen; omega
      case c4 => omega
      case c5 => exact (hB6.alloc hB6.size _).size
      intro v3 w7 hG7 hg7 _
      have hK7 := own_kind (hG6.alloc (.cells #[.bool false] 4))
      have hP7 := keep_other hg7 hK7 (hP6.alloc _) (by decide)
      have hR7 := keep_other hg7 hK7 (hR6.alloc _) (by decide)
      have hQ7 := cell_of_block (keep_block hg7 hK7 (block_alloc hQ6) (by decide))
      have hB7 := (hB6.alloc hB6.size _).grown hg7 (hB6.alloc hB6.size _).size (fun k hk => (hG6.lt k hk).1)
      clear hP6 hR6 hG6 hQ6 hg7 hK7
      go_wp2_with fail
      go_roundw
      case rel => exact ⟨k + 1, lf - n * x / S, by omega, by go_num, by go_num, hide (by rw [HQT.out, HLF.out]; omega), hsub, by omega, by rw [HT1.out]; exact hP7, by rw [HT2.out]; exact hR7, by rw [List.replicate_succ']; exact hG7, hB7⟩
      case measure => simp [intOf]; omega
    · have hkl : k = l.length := by omega
      subst hkl
      have hlf : lf = (L : Int) := by
        have h1 := HLF.out
        rw [List.take_length] at h1
        have h2 := HLD.out
        rw [HL.out] at h2
        omega
      subst hlf
      rw [List.take_length] at hP hR
      obtain ⟨gp, cp, csp, rfl, hgp, rP, kP⟩ := rowC_of_owns (f := fun j => .int .i64 (dealt (fun j => n * l.getD j 0 / S) (C.take 0) j)) hP (by omega) (fun j hj => by
        simp [lv, qs, dealt, List.getD_eq_getElem?_getD, List.getElem?_eq_getElem hj])
      obtain ⟨gr, cr, csr, rfl, hgr, rR, kR⟩ := rowC_of_owns (f := fun j => .int .u64 (n * l.getD j 0 % S)) hR (by omega) (fun j hj => by
        simp [lv, rs, List.getD_eq_getElem?_getD, List.getElem?_eq_getElem hj])
      obtain ⟨gg, cg, csg, rfl, hgg, rG, kG⟩ := rowC_of_owns (f := fun j => .bool (decide (j ∈ C.take 0))) hG (by omega) (fun j hj => by
        simp [hj])
      have npr := blocks_ne kP kR (by decide)
      have npg := blocks_ne kP kG (by decide)
      have nrg := blocks_ne kR kG (by decide)
      clear hP hR hG kP kR kG hr HLF
      go_wp2_with fail
      go_loopw [15] (fun i wr => ∃ k : Nat, k ≤ L ∧ i = .int .i64 k ∧ Hid (RowC wr gp l.length (fun j => .int .i64 (dealt (fun j => n * l.getD j 0 / S) (C.take k) j))) ∧ Hid (RowC wr gr l.length (fun j => .int .u64 (n * l.getD j 0 % S))) ∧ Hid (RowC wr gg l.length (fun j => .bool (decide (j ∈ C.take k)))) ∧ Below w.heap.size w wr) (fun i _ => L - (intOf i).toNat)
      case atStart => exact ⟨0, Nat.zero_le _, rfl, hide rP, hide rR, hide rG, hB⟩
      case round =>
        clear rP rR rG hB
        obtain ⟨k, hk, rfl, HRP, HRR, HRG, hB⟩ := hrel
        by_cases hlt : k < L
        · go_wp2_with fail
          go_loopw [16, 17] (fun bst i wr => ∃ (i' : Nat) (B : Int), i' ≤ l.length ∧ i = .int .i64 i' ∧ bst = .int .i64 B ∧ Hid (Best (fun j => n * l.getD j 0 % S) (C.take k) i' B) ∧ -1 ≤ B ∧ B < l.length ∧ Hid (RowC wr gp l.length (fun j => .int .i64 (dealt (fun j => n * l.getD j 0 / S) (C.take k) j))) ∧ Hid (RowC wr gr l.length (fun j => .int .u64 (n * l.getD j 0 % S))) ∧ Hid (RowC wr gg l.length (fun j => .bool (decide (j ∈ C.take k)))) ∧ Below w.heap.size w wr) (fun _ i _ => l.length - (intOf i).toNat)
          case atStart => exact ⟨0, -1, Nat.zero_le _, rfl, rfl, hide (Best.start _ _), by omega, by omega, HRP, HRR, HRG, hB⟩
          case round =>
            clear HRP HRR HRG hB
            obtain ⟨i, B, hi, rfl, rfl, HBe, b0, b1, HRP', HRR', HRG', hB'⟩ := hrel
            by_cases hil : i < l.length
            · have cG := (HRG'.out.2 i hil).1
              have cR := (HRR'.out.2 i hil).1
              obtain ⟨ri, Hri⟩ : ∃ x, Hid (n * l.getD i 0 % S = x) := ⟨_, hide rfl⟩
              dsimp only at cR cG
              rw [Hri.out] at cR
              by_cases hgot : i ∈ C.take k
              · rw [decide_eq_true hgot] at cG
                have HG := hide hgot
                clear hgot
                go_wp2_with fail
                go_quiet (fail)
                go_wp2_with fail
                go_roundw
                case rel => exact ⟨i + 1, B, by omega, by go_num, rfl, hide (HBe.out.got HG.out), by omega, by omega, hide (HRP'.out.drewN _), hide (HRR'.out.drewN _), hide (HRG'.out.drewN _), below_drewN hB' _⟩
                case measure => simp [intOf]; omega
              · rw [decide_eq_false hgot] at cG
                have HG := hide hgot
                clear hgot
                by_cases hb : B < 0
                · have HB1 : B = -1 := by omega
                  subst HB1
                  go_wp2_with fail
                  go_quiet (fail)
                  go_wp2_with fail
                  go_roundw
                  case rel => exact ⟨i + 1, (i : Int), by omega, by go_num, rfl, hide (HBe.out.first HG.out), by omega, by omega, hide (HRP'.out.drewN _), hide (HRR'.out.drewN _), hide (HRG'.out.drewN _), below_drewN hB' _⟩
                  case measure => simp [intOf]; omega
                · obtain ⟨m, rfl⟩ := Int.eq_ofNat_of_zero_le (show 0 ≤ B by omega)
                  have hml : m < l.length := by omega
                  have cM := (HRR'.out.2 m hml).1
                  obtain ⟨rm, Hrm⟩ : ∃ x, Hid (n * l.getD m 0 % S = x) := ⟨_, hide rfl⟩
                  dsimp only at cM
                  rw [Hrm.out] at cM
                  by_cases hrr : rm < ri
                  · have HN := hide (HBe.out.better HG.out (by show n * l.getD m 0 % S < n * l.getD i 0 % S; rw [Hrm.out, Hri.out]; exact hrr))
                    go_wp2_with fail
                    go_quiet (fail)
                    go_wp2_with fail
                    go_roundw
                    case rel => exact ⟨i + 1, (i : Int), by omega, by go_num, rfl, hide HN.out, by omega, by omega, hide (HRP'.out.drewN _), hide (HRR'.out.drewN _), hide (HRG'.out.drewN _), below_drewN hB' _⟩
                    case measure => simp [intOf]; omega
                  · have HN := hide (HBe.out.same (i := i) (by show ¬ n * l.getD m 0 % S < n * l.getD i 0 % S; rw [Hrm.out, Hri.out]; exact hrr))
                    go_wp2_with fail
                    go_quiet (fail)
                    go_wp2_with fail
                    go_roundw
                    case rel => exact ⟨i + 1, (m : Int), by omega, by go_num, rfl, hide HN.out, by omega, by omega, hide (HRP'.out.drewN _), hide (HRR'.out.drewN _), hide (HRG'.out.drewN _), below_drewN hB' _⟩
                    case measure => simp [intOf]; omega
            · have hin : i = l.length := by omega
              subst hin
              obtain ⟨c, hc⟩ : ∃ c, C[k]? = some c := ⟨C[k]'(by rw [HC.out.len]; omega), List.getElem?_eq_getElem _⟩
              have hBc := Best.last HC.out hc HBe.out
              subst hBc
              have hcl : c < l.length := HC.out.lt c (List.mem_of_getElem? hc)
              have cP := (HRP'.out.2 c hcl).1
              have fP := (HRP'.out.2 c hcl).2
              have cG := (HRG'.out.2 c hcl).1
              have fG := (HRG'.out.2 c hcl).2
              obtain ⟨d, Hd⟩ : ∃ d, Hid (dealt (fun j => n * l.getD j 0 / S) (C.take k) c = d) := ⟨_, hide rfl⟩
              dsimp only at cP cG
              rw [Hd.out] at cP
              have hnc : c ∉ C.take k := by
                have h2 := HC.out.nodup.sublist (List.take_sublist (k + 1) C)
                rw [show C.take (k + 1) = C.take k ++ [c] by rw [List.take_add_one, hc]; rfl, List.nodup_append] at h2
                intro hm; exact h2.2.2 c hm c (by simp) rfl
              have hd : 0 ≤ d ∧ d ≤ 9223372036854775806 := by
                have h1 := HQL.out (n * l.getD c 0 / S) (List.mem_map.2 ⟨l.getD c 0, by rw [List.getD_eq_getElem?_getD, List.getElem?_eq_getElem hcl]; exact List.getElem_mem hcl, rfl⟩)
                have h2 : n * l.getD c 0 / S + 0 = d := by
                  have h := Hd.out
                  unfold dealt at h
                  rw [if_neg hnc] at h
                  exact h
                rw [HL.out] at h1
                omega
              have HDS := hide (fun j => dealt_step (f := fun j => n * l.getD j 0 / S) hc HC.out.nodup j)
              have HTK : Hid (C.take (k + 1) = C.take k ++ [c]) := by show C.take (k + 1) = _; rw [List.take_add_one, hc]; rfl
              clear hc hnc
              go_wp2_with fail
              go_roundw
              case rel =>
                refine ⟨k + 1, by omega, by go_num, hide ((HRP'.out.other (Ne.symm npg)).set fun j _ => ?_), hide ((HRR'.out.other (Ne.symm nrg)).other npr), hide ((HRG'.out.set fun j _ => ?_).other npg), (hB'.setCell (p := ⟨gg, c, none⟩) hgg _).setCell (p := ⟨gp, c, none⟩) hgp _⟩
                · have h := HDS.out j
                  rw [Hd.out] at h
                  rw [← h]
                  split <;> rfl
                · rw [HTK.out]
                  by_cases e : j = c
                  · subst e; simp
                  · simp [e]
              case measure => simp [intOf]; omega
        · have hkL : k = L := by omega
          subst hkL
          go_wp2_with fail
          go_ret2
          refine ⟨_, rfl, ?_, hB⟩
          rw [HS.out, HL.out, Int.toNat_natCast]
          have hlen : (splitL n S l (C.take k)).length = l.length := by simp [splitL]
          refine ⟨some ⟨gp, 0, none⟩, cp, by rw [hlen]; rfl, .inr ⟨gp, 0, rfl, HRP.out.1, fun j x hx => ?_⟩⟩
          have hj : j < l.length := by rw [← hlen]; exact (List.getElem?_eq_some_iff.1 hx).1
          have h := (HRP.out.2 j hj).1
          rw [Nat.zero_add, h]
          unfold splitL at hx
          rw [List.getElem?_map, List.getElem?_range hj] at hx
          cases hx; rfl
end Go.Proofs.YthmbfdjbjljaiaaGreatDoor
