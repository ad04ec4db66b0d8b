/-
  My own text: layer 23: ranked.
-/
import Derived.Test.YtfhimhjeilnkaaaDoorLS3
import Derived.Test.YtfhimhjeilnkaaaDoorLO0
import Derived.Deep.CutRange
namespace Go.Proofs.YtfhimhjeilnkaaaDoor
open Go.RowKit

/-- The priorities of things below n, in a row. -/
structure PB (w : World) (v : Value) (n : Nat) (pr : Nat → Int) : Prop where
  is : ∃ (a : Option Addr) (c : Nat), v = .slice a n c ∧ n ≤ c ∧ ∀ x, x < n → ∃ b off, a = some ⟨b, off, none⟩ ∧ b < w.heap.size ∧ w.cell? ⟨b, off + x, none⟩ = some (.int .i64 (pr x))
theorem PB.later {w w' : World} {v : Value} {n : Nat} {pr : Nat → Int} (h : PB w v n pr) (hb : Below w.heap.size w w') : PB w' v n pr := by
  obtain ⟨a, c, hv, hc, hr⟩ := h.is
  exact ⟨a, c, hv, hc, fun x hx => by
    obtain ⟨b, off, ha, hl, hx⟩ := hr x hx
    exact ⟨b, off, ha, Nat.lt_of_lt_of_le hl hb.size, (hb.cell (p := ⟨b, _, none⟩) hl).trans hx⟩⟩
/-- Two rows are made. -/
structure MK2 (w : World) (n : Nat) (wx : World) (U K : Nat) : Prop where
  ru : NV wx U (List.replicate n 0)
  rk : NV wx K (List.replicate n 0)
  ne : U ≠ K
  lo : w.heap.size ≤ U ∧ w.heap.size ≤ K
  low : Below w.heap.size w wx
theorem MK2.two (w : World) (n : Nat) : MK2 w n (((w.alloc (.cells (madeCells #[.int .i64 0] n) 3)).alloc (.cells (madeCells #[.int .i64 0] n) 3)).drew) w.heap.size (w.heap.size + 1) := by
  have h1 := NV.made w n
  have h2 := NV.made (w.alloc (.cells (madeCells #[.int .i64 0] n) 3)) n
  have s1 : (w.alloc (.cells (madeCells #[.int .i64 0] n) 3)).heap.size = w.heap.size + 1 := by simp
  rw [s1] at h2
  exact ⟨h1.later ((Below.refl (w.alloc (.cells (madeCells #[.int .i64 0] n) 3)).heap.size (w.alloc (.cells (madeCells #[.int .i64 0] n) 3))).alloc (Nat.le_refl _) (.cells (madeCells #[.int .i64 0] n) 3)).drew, h2, by omega, ⟨Nat.le_refl _, by omega⟩, (((Below.refl w.heap.size w).alloc (Nat.le_refl _) _).alloc (by omega) _).drew⟩
theorem MK2.turn {w wx : World} {n U K : Nat} (h : MK2 w n wx U K) : MK2 w n wx K U := ⟨h.rk, h.ru, fun e => h.ne e.symm, ⟨h.lo.2, h.lo.1⟩, h.low⟩
set_option maxRecDepth 100000 in
set_option maxHeartbeats 4000000 in
theorem ranked_any (n : Nat) (v : Value) (pr : Nat → Int) (w : World) (hv : PB w v n pr) (hn : n ≤ 4096) (hso : SortOk n) :
    Calls Tryd.prog 32 #[v] w fun e w' => ∃ (U K : Nat) (L M : List Nat), e = .returned (.tuple #[.slice (some ⟨U, 0, none⟩) n n, .slice (some ⟨K, 0, none⟩) n n]) ∧ NV w' U L ∧ NV w' K M ∧ SI pr n L ∧ Srt pr L 0 n ∧ M.length = n ∧ (∀ j x : Nat, L[j]? = some x → M[x]? = some j) ∧ U ≠ K ∧ w.heap.size ≤ U ∧ w.heap.size ≤ K ∧ Below w.heap.size w w' := by
  have HPB := hide hv
  obtain ⟨a, c, rfl, hnc, hr⟩ := hv.is
  have HR := hide hr
  have HN := hide hn
  have HSO := hide hso
  have hmk := run_make_row' (P := Tryd.prog) 35 3 (.int .i64 0) 8 Tryd.underlying35 Tryd.infoIn rfl .i64 .i64 n (by omega) (by omega)
  have HB0 := hide ((Below.refl w.heap.size w).alloc (Nat.le_refl _) (.cells #[.slice a n c] 35))
  have HC0 := hide (alloc_new w (.cells #[.slice a n c] 35))
  have c0 := cell_of_row _ _ 0 _ _ _ HC0.out
  clear hr hn hv hso
  go_enter Tryd.func32, Tryd.ntmps32
  go_upto_region 2 with fail
  go_cut [5, 6] from 11 to 14 (fun o o2 wx => ∃ (U K : Nat), o = .slice (some ⟨U, 0, none⟩) n n ∧ o2 = .slice (some ⟨K, 0, none⟩) n n ∧ Hid (MK2 (w.alloc (.cells #[.slice a n c] 35)) n wx U K))
  case first =>
    generalize (w.alloc (.cells #[.slice a n c] 35)) = w1 at *
    go_region_held3 (fun _ => True) (trivial) (fail)
    all_goals (go_wp2_with fail; go_meet; exact ⟨_, _, rfl, rfl, hide (by first | exact MK2.two w1 n | exact (MK2.two w1 n).turn)⟩)
  case rest =>
  obtain ⟨U, K, rfl, rfl, HM⟩ := hcut
  have HUK : Hid (w.heap.size < U ∧ w.heap.size < K) := hide (by have h := HM.out.lo; simp at h; omega)
  have HW0 : Hid (Below w.heap.size w wc) := hide (HB0.out.trans (HM.out.low.mono HB0.out.size))
  have HBX : Hid (wc.heap[w.heap.size]? = some (.cells #[.slice a n c] 35 (0, 0))) := hide (blk_later HC0.out HM.out.low)
  have HPZ : Hid (∀ W, wc.grownBy W (some U) → PZ W n w.heap.size pr) := hide (fun W hW => by
    refine ⟨a, c, ?_, fun x hx => ?_⟩
    · exact (hW.cell (cell_of_row _ _ 0 _ _ _ HBX.out) (by intro q; injection q with q; dsimp only at q; have := HUK.out; omega))
    · obtain ⟨b, off, rfl, hl, hc⟩ := HR.out x hx
      refine ⟨b, off, rfl, ?_⟩
      exact hW.cell ((HW0.out.cell (p := ⟨b, _, none⟩) hl).trans hc) (by intro q; injection q with q; dsimp only at q; have := HUK.out; omega))
  have HVU := hide HM.out.ru
  have HVK := hide HM.out.rk
  have HNE := hide HM.out.ne
  clear hmk HM HB0 HC0 c0 HBX
  generalize wc = w1 at *
  go_wp2_with fail
  go_loopw [16] (fun i wr => ∃ (k : Nat) (M : List Nat), k ≤ n ∧ i = .int .i64 (k : Int) ∧ Hid (M.length = n ∧ ∀ j, j < k → M[j]? = some j) ∧ Hid (NV wr U M) ∧ Hid (w1.grownBy wr (some U))) (fun i _ => n - (intOf i).toNat)
  case atStart => exact ⟨0, _, Nat.zero_le _, rfl, hide ⟨List.length_replicate, fun j hj => by omega⟩, HVU, hide (gb_refl _ _)⟩
  case round =>
    clear HVU
    obtain ⟨k, M, hk, rfl, HI, HV, HW⟩ := hrel
    by_cases hlt : k < n
    · have hd1 : decide ((k : Int) < (n : Int)) = true := by rw [decide_eq_true_eq]; omega
      have k0 : (0 : Int) ≤ (k : Int) := by omega
      have k1 : (k : Int) < (n : Int) := by omega
      have wk : wrap64 ((k : Int) + 1) = (k : Int) + 1 := by have := HN.out; unfold wrap64; omega
      have f0 := HV.out.frozen k
      have hkm : k < M.length := by have := HI.out.1; omega
      have c0 := HV.out.cell (List.getElem?_eq_getElem hkm)
      obtain ⟨m, hm⟩ : ∃ m : Int, ((M[k] : Nat) : Int) = m := ⟨_, rfl⟩
      rw [hm] at c0
      obtain ⟨w2, hw2⟩ : ∃ w2, wr.setCell ⟨U, k, none⟩ (.int .i64 ((k : Nat) : Int)) = w2 := ⟨_, rfl⟩
      have HV2 : Hid (NV w2 U (M.set k k)) := hide (by rw [← hw2]; exact HV.out.set k k)
      have HW2 : Hid (w1.grownBy w2 (some U)) := hide (by rw [← hw2]; exact gb_trans HW.out (gb_set wr U k _))
      clear hkm hm
      go_wp2_with fail
      go_roundw
      case rel =>
        refine ⟨k + 1, M.set k k, by omega, by go_num, hide ⟨by rw [List.length_set]; exact HI.out.1, fun j hj => ?_⟩, HV2, HW2⟩
        by_cases e : k = j
        · subst e; rw [List.getElem?_set_self (by have := HI.out.1; omega)]
        · rw [List.getElem?_set_ne e]; exact HI.out.2 j (by omega)
      case measure => first | (rw [wk]; simp [intOf]; omega) | (simp [intOf]; omega)
    · have e : k = n := by omega
      subst e
      have e2 := range_of HI.out.1 HI.out.2
      subst e2
      have HS := hide (HSO.out U w.heap.size k pr (List.range k) wr HV.out (SI.start pr k) (fun W hW => HPZ.out W (gb_trans HW.out hW)))
      have HKr : Hid (NV wr K (List.replicate k 0)) := hide (HVK.out.block (HW.out.block K HVK.out.lt (by intro q; injection q with q; exact HNE.out q.symm)))
      have HWr : Hid (Below w.heap.size w wr) := hide (gb_below HW0.out HW.out (by have := HUK.out; omega) HW0.out.size)
      have hd1 : decide ((k : Int) < (k : Int)) = false := by simp
      unfold lessV at HS
      clear HI HV HW HW0 HVK HSO HPZ
      go_wp2_with fail
      refine HS.out.mono ?_
      rintro e w3 ⟨⟨u, rfl⟩, L, h1, h2, h3, h4⟩
      have HL := hide h1
      have HSI := hide h2
      have HSR := hide h3
      have HK3 : Hid (NV w3 K (List.replicate k 0)) := hide (HKr.out.block (h4.block K HKr.out.lt (by intro q; injection q with q; exact HNE.out q.symm)))
      have HW3 : Hid (Below w.heap.size w w3) := hide (gb_below HWr.out h4 (by have := HUK.out; omega) HWr.out.size)
      clear h1 h2 h3 h4 HKr HWr HS
      go_wp2_with fail
      go_loopw [28] (fun i wr => ∃ (j : Nat) (M : List Nat), j ≤ k ∧ i = .int .i64 (j : Int) ∧ Hid (M.length = k ∧ ∀ i x : Nat, i < j → L[i]? = some x → M[x]? = some i) ∧ Hid (NV wr K M) ∧ Hid (NV wr U L) ∧ Hid (Below w.heap.size w wr)) (fun i _ => k - (intOf i).toNat)
      case atStart => exact ⟨0, _, Nat.zero_le _, rfl, hide ⟨List.length_replicate, fun i x hi => by omega⟩, HK3, HL, HW3⟩
      case round =>
        clear HK3 HL HW3
        obtain ⟨j, M, hj, rfl, HI, HK, HL, HW⟩ := hrel
        by_cases hlt2 : j < k
        · have hd2 : decide ((j : Int) < (k : Int)) = true := by rw [decide_eq_true_eq]; omega
          have k0 : (0 : Int) ≤ (j : Int) := by omega
          have k1 : (j : Int) < (k : Int) := by omega
          have wk : wrap64 ((j : Int) + 1) = (j : Int) + 1 := by have := HN.out; unfold wrap64; omega
          obtain ⟨x, hx⟩ : ∃ x, L[j]? = some x := ⟨_, List.getElem?_eq_getElem (by rw [HSI.out.len]; exact hlt2)⟩
          have hxk := HSI.out.lt _ _ hx
          have c1 := HL.out.cell hx
          have hxm : x < M.length := by have := HI.out.1; omega
          have c0 := HK.out.cell (List.getElem?_eq_getElem hxm)
          obtain ⟨m, hm⟩ : ∃ m : Int, ((M[x] : Nat) : Int) = m := ⟨_, rfl⟩
          rw [hm] at c0
          have f0 := HK.out.frozen x
          have HX := hide hx
          have x0 : (0 : Int) ≤ (x : Int) := by omega
          have x1 : (x : Int) < (k : Int) := by omega
          obtain ⟨w2, hw2⟩ : ∃ w2, wr.setCell ⟨K, x, none⟩ (.int .i64 ((j : Nat) : Int)) = w2 := ⟨_, rfl⟩
          have HK2 : Hid (NV w2 K (M.set x j)) := hide (by rw [← hw2]; exact HK.out.set x j)
          have HL2 : Hid (NV w2 U L) := hide (by rw [← hw2]; exact HL.out.block (Below.heap_setCell _ _ _ _ HNE.out))
          have HW2 : Hid (Below w.heap.size w w2) := hide (by rw [← hw2]; exact gb_below HW.out (gb_set wr K x _) (by have := HUK.out; omega) HW.out.size)
          clear hxm hm hx
          go_wp2_with fail
          go_roundw
          case rel =>
            refine ⟨j + 1, M.set x j, by omega, by go_num, hide ⟨by rw [List.length_set]; exact HI.out.1, fun i y hi hy => ?_⟩, HK2, HL2, HW2⟩
            by_cases e : i = j
            · subst e
              rw [HX.out] at hy
              cases hy
              rw [List.getElem?_set_self (by have := HI.out.1; omega)]
            · rw [List.getElem?_set_ne (fun q => e (HSI.out.inj hy (by rw [← q]; exact HX.out)))]
              exact HI.out.2 i y (by omega) hy
          case measure => first | (rw [wk]; simp [intOf]; omega) | (simp [intOf]; omega)
        · have e : j = k := by omega
          subst e
          have hd2 : decide ((j : Int) < (j : Int)) = false := by simp
          go_wp2_with fail
          go_ret2
          exact ⟨U, K, L, M, rfl, HL.out, HK.out, HSI.out, HSR.out, HI.out.1, fun i x hx => HI.out.2 i x (by have := (List.getElem?_eq_some_iff.1 hx).1; rw [HSI.out.len] at this; exact this) hx, HNE.out, by have := HUK.out; omega, by have := HUK.out; omega, HW.out⟩
end Go.Proofs.YtfhimhjeilnkaaaDoor
