/-
  My own text: LS3, LO1, LO2 in one.
-/
import Derived.Test.YtcdhblfefpkjgaaDoorLS2
import Derived.Test.YtcdhblfefpkjgaaDoorLV2
import Derived.Deep.CutRange
namespace Go.Proofs.YtcdhblfefpkjgaaDoor
open Go.RowKit

/-- What is asked of the sort of n places. -/
def SortOk (n : Nat) : Prop := ∀ (P pb cap : Nat) (pr : Nat → Int) (L : List Nat) (w : World), NV w P L → SI pr n L → (∀ W, w.grownBy W (some P) → PZ W n pb pr) →
  Calls Tryd.prog 47 #[.slice (some ⟨P, 0, none⟩) n cap, lessV pb] w fun e w' => (∃ u, e = .returned u) ∧ ∃ L', NV w' P L' ∧ SI pr n L' ∧ Srt pr L' 0 n ∧ w.grownBy w' (some P)
set_option maxRecDepth 100000 in
set_option maxHeartbeats 1000000 in
theorem stableFew_any (n P pb cap : Nat) (hn : n < 20) (pr : Nat → Int) (L : List Nat) (w : World) (hN : NV w P L) (hS : SI pr n L) (hP : ∀ W, w.grownBy W (some P) → PZ W n pb pr) :
    Calls Tryd.prog 55 #[.slice (some ⟨P, 0, none⟩) n cap, .int .i64 (n : Int), lessV pb] w fun e w' => (∃ u, e = .returned u) ∧ ∃ L', NV w' P L' ∧ SI pr n L' ∧ Srt pr L' 0 n ∧ w.grownBy w' (some P) := by
  have HI := hide (isort_any 0 n n P pb cap pr L w hN hS (Nat.zero_le _) (Nat.le_refl _) (by omega) hP)
  have d1 : decide ((20 : Int) ≤ (n : Int)) = false := by rw [decide_eq_false_iff_not]; omega
  have d2 : decide ((20 : Int) < (n : Int)) = false := by rw [decide_eq_false_iff_not]; omega
  have e1 : ¬ (20 : Int) ≤ (n : Int) := by omega
  have e2 : ¬ (20 : Int) < (n : Int) := by omega
  have e3 : ¬ 20 ≤ n := by omega
  have e4 : ¬ 20 < n := by omega
  unfold lessV at HI ⊢
  clear hN hS hP
  go_enter Tryd.func55, Tryd.ntmps55
  go_wp2_with fail
  go_loopw [7, 8] (fun a b wr => a = .int .i64 0 ∧ b = .int .i64 20 ∧ wr = w) (fun _ _ _ => 0)
  case atStart => exact ⟨rfl, rfl, rfl⟩
  case round =>
    obtain ⟨rfl, rfl, hw⟩ := hrel
    obtain rfl := hw.symm
    go_wp2_with fail
    refine HI.out.mono ?_
    rintro e w1 ⟨⟨u, rfl⟩, L', h1, h2, h3, _, h5⟩
    have HR : Hid (∃ L', NV w1 P L' ∧ SI pr n L' ∧ Srt pr L' 0 n ∧ w.grownBy w1 (some P)) := hide ⟨L', h1, h2, h3, h5⟩
    clear h1 h2 h3 h5 HI
    go_wp2_with fail
    go_loopw [6] (fun a wr => a = .int .i64 20 ∧ wr = w1) (fun _ _ => 0)
    case atStart => exact ⟨rfl, rfl⟩
    case round =>
      obtain ⟨rfl, hw⟩ := hrel
      obtain rfl := hw.symm
      go_wp2_with fail
      refine bodyPost_end (v := .tuple #[]) ?r1 ?r2 ?r3
      case r1 => exact results_none rfl _ _ _
      case r2 => rfl
      case r3 => exact ⟨⟨_, rfl⟩, HR.out⟩
theorem sortFew {n : Nat} (hn : n < 20) : SortOk n := by
  intro P pb cap pr L w hN hS hP
  have HS := hide (stableFew_any n P pb cap hn pr L w hN hS hP)
  unfold lessV at HS ⊢
  clear hN hS hP
  go_enter Tryd.func47, Tryd.ntmps47
  go_wp2_with fail
  refine HS.out.mono ?_
  rintro e w1 ⟨⟨u, rfl⟩, L', h1, h2, h3, h5⟩
  have HR : Hid (∃ L', NV w1 P L' ∧ SI pr n L' ∧ Srt pr L' 0 n ∧ w.grownBy w1 (some P)) := hide ⟨L', h1, h2, h3, h5⟩
  clear h1 h2 h3 h5 HS
  go_wp2_with fail
  refine bodyPost_end (v := .tuple #[]) ?r1 ?r2 ?r3
  case r1 => exact results_none rfl _ _ _
  case r2 => rfl
  case r3 => exact ⟨⟨_, rfl⟩, HR.out⟩
end Go.Proofs.YtcdhblfefpkjgaaDoor
namespace Go.Proofs.YtcdhblfefpkjgaaDoor
open Go.RowKit

/-- The priorities of things below n, in a row. -/
structure PB (w : World) (v : Value) (n : Nat) (pr : Nat → Int) : Prop where
  is : ∃ (a : Option Addr) (c : Nat), v = .slice a n c ∧ n ≤ c ∧ ∀ x, x < n → ∃ b off, a = some ⟨b, off, none⟩ ∧ b < w.heap.size ∧ w.cell? ⟨b, off + x, none⟩ = some (.int .i64 (pr x))
theorem PB.later {w w' : World} {v : Value} {n : Nat} {pr : Nat → Int} (h : PB w v n pr) (hb : Below w.heap.size w w') : PB w' v n pr := by
  obtain ⟨a, c, hv, hc, hr⟩ := h.is
  exact ⟨a, c, hv, hc, fun x hx => by
    obtain ⟨b, off, ha, hl, hx⟩ := hr x hx
    exact ⟨b, off, ha, Nat.lt_of_lt_of_le hl hb.size, (hb.cell (p := ⟨b, _, none⟩) hl).trans hx⟩⟩
/-- Two rows are made. -/
structure MK2 (w : World) (n : Nat) (wx : World) (U K : Nat) : Prop where
  ru : NV wx U (List.replicate n 0)
  rk : NV wx K (List.replicate n 0)
  ne : U ≠ K
  lo : w.heap.size ≤ U ∧ w.heap.size ≤ K
  low : Below w.heap.size w wx
theorem MK2.two (w : World) (n : Nat) : MK2 w n (((w.alloc (.cells (madeCells #[.int .i64 0] n) 3)).alloc (.cells (madeCells #[.int .i64 0] n) 3)).drew) w.heap.size (w.heap.size + 1) := by
  have h1 := NV.made w n
  have h2 := NV.made (w.alloc (.cells (madeCells #[.int .i64 0] n) 3)) n
  have s1 : (w.alloc (.cells (madeCells #[.int .i64 0] n) 3)).heap.size = w.heap.size + 1 := by simp
  rw [s1] at h2
  exact ⟨h1.later ((Below.refl (w.alloc (.cells (madeCells #[.int .i64 0] n) 3)).heap.size (w.alloc (.cells (madeCells #[.int .i64 0] n) 3))).alloc (Nat.le_refl _) (.cells (madeCells #[.int .i64 0] n) 3)).drew, h2, by omega, ⟨Nat.le_refl _, by omega⟩, (((Below.refl w.heap.size w).alloc (Nat.le_refl _) _).alloc (by omega) _).drew⟩
theorem MK2.turn {w wx : World} {n U K : Nat} (h : MK2 w n wx U K) : MK2 w n wx K U := ⟨h.rk, h.ru, fun e => h.ne e.symm, ⟨h.lo.2, h.lo.1⟩, h.low⟩
set_option maxRecDepth 100000 in
set_option maxHeartbeats 4000000 in
theorem ranked_any (n : Nat) (v : Value) (pr : Nat → Int) (w : World) (hv : PB w v n pr) (hn : n ≤ 4096) (hso : SortOk n) :
    Calls Tryd.prog 41 #[v] w fun e w' => ∃ (U K : Nat) (L M : List Nat), e = .returned (.tuple #[.slice (some ⟨U, 0, none⟩) n n, .slice (some ⟨K, 0, none⟩) n n]) ∧ NV w' U L ∧ NV w' K M ∧ SI pr n L ∧ Srt pr L 0 n ∧ M.length = n ∧ (∀ j x : Nat, L[j]? = some x → M[x]? = some j) ∧ U ≠ K ∧ w.heap.size ≤ U ∧ w.heap.size ≤ K ∧ Below w.heap.size w w' := by
  have HPB := hide hv
  obtain ⟨a, c, rfl, hnc, hr⟩ := hv.is
  have HR := hide hr
  have HN := hide hn
  have HSO := hide hso
  have hmk := run_make_row' (P := Tryd.prog) 41 3 (.int .i64 0) 8 Tryd.underlying41 Tryd.infoIn rfl .i64 .i64 n (by omega) (by omega)
  have HB0 := hide ((Below.refl w.heap.size w).alloc (Nat.le_refl _) (.cells #[.slice a n c] 41))
  have HC0 := hide (alloc_new w (.cells #[.slice a n c] 41))
  have c0 := cell_of_row _ _ 0 _ _ _ HC0.out
  clear hr hn hv hso
  go_enter Tryd.func41, Tryd.ntmps41
  go_upto_region 2 with fail
  go_cut [5, 6] from 11 to 14 (fun o o2 wx => ∃ (U K : Nat), o = .slice (some ⟨U, 0, none⟩) n n ∧ o2 = .slice (some ⟨K, 0, none⟩) n n ∧ Hid (MK2 (w.alloc (.cells #[.slice a n c] 41)) n wx U K))
  case first =>
    generalize (w.alloc (.cells #[.slice a n c] 41)) = w1 at *
    go_region_held3 (fun _ => True) (trivial) (fail)
    all_goals (go_wp2_with fail; go_meet; exact ⟨_, _, rfl, rfl, hide (by first | exact MK2.two w1 n | exact (MK2.two w1 n).turn)⟩)
  case rest =>
  obtain ⟨U, K, rfl, rfl, HM⟩ := hcut
  have HUK : Hid (w.heap.size < U ∧ w.heap.size < K) := hide (by have h := HM.out.lo; simp at h; omega)
  have HW0 : Hid (Below w.heap.size w wc) := hide (HB0.out.trans (HM.out.low.mono HB0.out.size))
  have HBX : Hid (wc.heap[w.heap.size]? = some (.cells #[.slice a n c] 41 (0, 0))) := hide (blk_later HC0.out HM.out.low)
  have HPZ : Hid (∀ W, wc.grownBy W (some U) → PZ W n w.heap.size pr) := hide (fun W hW => by
    refine ⟨a, c, ?_, fun x hx => ?_⟩
    · exact (hW.cell (cell_of_row _ _ 0 _ _ _ HBX.out) (by intro q; injection q with q; dsimp only at q; have := HUK.out; omega))
    · obtain ⟨b, off, rfl, hl, hc⟩ := HR.out x hx
      refine ⟨b, off, rfl, ?_⟩
      exact hW.cell ((HW0.out.cell (p := ⟨b, _, none⟩) hl).trans hc) (by intro q; injection q with q; dsimp only at q; have := HUK.out; omega))
  have HVU := hide HM.out.ru
  have HVK := hide HM.out.rk
  have HNE := hide HM.out.ne
  clear hmk HM HB0 HC0 c0 HBX
  generalize wc = w1 at *
  go_wp2_with fail
  go_loopw [16] (fun i wr => ∃ (k : Nat) (M : List Nat), k ≤ n ∧ i = .int .i64 (k : Int) ∧ Hid (M.length = n ∧ ∀ j, j < k → M[j]? = some j) ∧ Hid (NV wr U M) ∧ Hid (w1.grownBy wr (some U))) (fun i _ => n - (intOf i).toNat)
  case atStart => exact ⟨0, _, Nat.zero_le _, rfl, hide ⟨List.length_replicate, fun j hj => by omega⟩, HVU, hide (gb_refl _ _)⟩
  case round =>
    clear HVU
    obtain ⟨k, M, hk, rfl, HI, HV, HW⟩ := hrel
    by_cases hlt : k < n
    · have hd1 : decide ((k : Int) < (n : Int)) = true := by rw [decide_eq_true_eq]; omega
      have k0 : (0 : Int) ≤ (k : Int) := by omega
      have k1 : (k : Int) < (n : Int) := by omega
      have wk : wrap64 ((k : Int) + 1) = (k : Int) + 1 := by have := HN.out; unfold wrap64; omega
      have f0 := HV.out.frozen k
      have hkm : k < M.length := by have := HI.out.1; omega
      have c0 := HV.out.cell (List.getElem?_eq_getElem hkm)
      obtain ⟨m, hm⟩ : ∃ m : Int, ((M[k] : Nat) : Int) = m := ⟨_, rfl⟩
      rw [hm] at c0
      obtain ⟨w2, hw2⟩ : ∃ w2, wr.setCell ⟨U, k, none⟩ (.int .i64 ((k : Nat) : Int)) = w2 := ⟨_, rfl⟩
      have HV2 : Hid (NV w2 U (M.set k k)) := hide (by rw [← hw2]; exact HV.out.set k k)
      have HW2 : Hid (w1.grownBy w2 (some U)) := hide (by rw [← hw2]; exact gb_trans HW.out (gb_set wr U k _))
      clear hkm hm
      go_wp2_with fail
      go_roundw
      case rel =>
        refine ⟨k + 1, M.set k k, by omega, by go_num, hide ⟨by rw [List.length_set]; exact HI.out.1, fun j hj => ?_⟩, HV2, HW2⟩
        by_cases e : k = j
        · subst e; rw [List.getElem?_set_self (by have := HI.out.1; omega)]
        · rw [List.getElem?_set_ne e]; exact HI.out.2 j (by omega)
      case measure => first | (rw [wk]; simp [intOf]; omega) | (simp [intOf]; omega)
    · have e : k = n := by omega
      subst e
      have e2 := range_of HI.out.1 HI.out.2
      subst e2
      have HS := hide (HSO.out U w.heap.size k pr (List.range k) wr HV.out (SI.start pr k) (fun W hW => HPZ.out W (gb_trans HW.out hW)))
      have HKr : Hid (NV wr K (List.replicate k 0)) := hide (HVK.out.block (HW.out.block K HVK.out.lt (by intro q; injection q with q; exact HNE.out q.symm)))
      have HWr : Hid (Below w.heap.size w wr) := hide (gb_below HW0.out HW.out (by have := HUK.out; omega) HW0.out.size)
      have hd1 : decide ((k : Int) < (k : Int)) = false := by simp
      unfold lessV at HS
      clear HI HV HW HW0 HVK HSO HPZ
      go_wp2_with fail
      refine HS.out.mono ?_
      rintro e w3 ⟨⟨u, rfl⟩, L, h1, h2, h3, h4⟩
      have HL := hide h1
      have HSI := hide h2
      have HSR := hide h3
      have HK3 : Hid (NV w3 K (List.replicate k 0)) := hide (HKr.out.block (h4.block K HKr.out.lt (by intro q; injection q with q; exact HNE.out q.symm)))
      have HW3 : Hid (Below w.heap.size w w3) := hide (gb_below HWr.out h4 (by have := HUK.out; omega) HWr.out.size)
      clear h1 h2 h3 h4 HKr HWr HS
      go_wp2_with fail
      go_loopw [28] (fun i wr => ∃ (j : Nat) (M : List Nat), j ≤ k ∧ i = .int .i64 (j : Int) ∧ Hid (M.length = k ∧ ∀ i x : Nat, i < j → L[i]? = some x → M[x]? = some i) ∧ Hid (NV wr K M) ∧ Hid (NV wr U L) ∧ Hid (Below w.heap.size w wr)) (fun i _ => k - (intOf i).toNat)
      case atStart => exact ⟨0, _, Nat.zero_le _, rfl, hide ⟨List.length_replicate, fun i x hi => by omega⟩, HK3, HL, HW3⟩
      case round =>
        clear HK3 HL HW3
        obtain ⟨j, M, hj, rfl, HI, HK, HL, HW⟩ := hrel
        by_cases hlt2 : j < k
        · have hd2 : decide ((j : Int) < (k : Int)) = true := by rw [decide_eq_true_eq]; omega
          have k0 : (0 : Int) ≤ (j : Int) := by omega
          have k1 : (j : Int) < (k : Int) := by omega
          have wk : wrap64 ((j : Int) + 1) = (j : Int) + 1 := by have := HN.out; unfold wrap64; omega
          obtain ⟨x, hx⟩ : ∃ x, L[j]? = some x := ⟨_, List.getElem?_eq_getElem (by rw [HSI.out.len]; exact hlt2)⟩
          have hxk := HSI.out.lt _ _ hx
          have c1 := HL.out.cell hx
          have hxm : x < M.length := by have := HI.out.1; omega
          have c0 := HK.out.cell (List.getElem?_eq_getElem hxm)
          obtain ⟨m, hm⟩ : ∃ m : Int, ((M[x] : Nat) : Int) = m := ⟨_, rfl⟩
          rw [hm] at c0
          have f0 := HK.out.frozen x
          have HX := hide hx
          have x0 : (0 : Int) ≤ (x : Int) := by omega
          have x1 : (x : Int) < (k : Int) := by omega
          obtain ⟨w2, hw2⟩ : ∃ w2, wr.setCell ⟨K, x, none⟩ (.int .i64 ((j : Nat) : Int)) = w2 := ⟨_, rfl⟩
          have HK2 : Hid (NV w2 K (M.set x j)) := hide (by rw [← hw2]; exact HK.out.set x j)
          have HL2 : Hid (NV w2 U L) := hide (by rw [← hw2]; exact HL.out.block (Below.heap_setCell _ _ _ _ HNE.out))
          have HW2 : Hid (Below w.heap.size w w2) := hide (by rw [← hw2]; exact gb_below HW.out (gb_set wr K x _) (by have := HUK.out; omega) HW.out.size)
          clear hxm hm hx
          go_wp2_with fail
          go_roundw
          case rel =>
            refine ⟨j + 1, M.set x j, by omega, by go_num, hide ⟨by rw [List.length_set]; exact HI.out.1, fun i y hi hy => ?_⟩, HK2, HL2, HW2⟩
            by_cases e : i = j
            · subst e
              rw [HX.out] at hy
              cases hy
              rw [List.getElem?_set_self (by have := HI.out.1; omega)]
            · rw [List.getElem?_set_ne (fun q => e (HSI.out.inj hy (by rw [← q]; exact HX.out)))]
              exact HI.out.2 i y (by omega) hy
          case measure => first | (rw [wk]; simp [intOf]; omega) | (simp [intOf]; omega)
        · have e : j = k := by omega
          subst e
          have hd2 : decide ((j : Int) < (j : Int)) = false := by simp
          go_wp2_with fail
          go_ret2
          exact ⟨U, K, L, M, rfl, HL.out, HK.out, HSI.out, HSR.out, HI.out.1, fun i x hx => HI.out.2 i x (by have := (List.getElem?_eq_some_iff.1 hx).1; rw [HSI.out.len] at this; exact this) hx, HNE.out, by have := HUK.out; omega, by have := HUK.out; omega, HW.out⟩
end Go.Proofs.YtcdhblfefpkjgaaDoor
namespace Go.Proofs.YtcdhblfefpkjgaaDoor
open Go.RowKit

/-- Block P is a row of these numbers. -/
def IZ (w : World) (P : Nat) (L : List Int) : Prop := w.rowIs P 3 L.length (fun j => .int .i64 (L.getD j 0))
theorem IZ.cell {w : World} {P : Nat} {L : List Int} (h : IZ w P L) {j : Nat} {x : Int} (hx : L[j]? = some x) : w.cell? ⟨P, j, none⟩ = some (.int .i64 x) := by
  have hj := (List.getElem?_eq_some_iff.1 hx).1
  rw [World.rowIs.cell h hj, List.getD_eq_getElem?_getD, hx]; rfl
theorem IZ.frozen {w : World} {P : Nat} {L : List Int} (h : IZ w P L) (j : Nat) : w.frozen? ⟨P, j, none⟩ = false := World.rowIs.frozen h j
theorem IZ.lt {w : World} {P : Nat} {L : List Int} (h : IZ w P L) : P < w.heap.size := World.rowIs.lt h
theorem IZ.set {w : World} {P : Nat} {L : List Int} (h : IZ w P L) (k : Nat) (x : Int) : IZ (w.setCell ⟨P, k, none⟩ (.int .i64 x)) P (L.set k x) := by
  have h2 := World.rowIs.set h k (.int .i64 x)
  unfold IZ
  rw [List.length_set]
  refine World.rowIs.congr h2 fun i hi => ?_
  by_cases e : i = k
  · subst e; rw [if_pos rfl, List.getD_eq_getElem?_getD, List.getElem?_set_self hi]; rfl
  · rw [if_neg e, List.getD_eq_getElem?_getD, List.getD_eq_getElem?_getD, List.getElem?_set_ne (fun q => e q.symm)]
theorem IZ.block {w w' : World} {P : Nat} {L : List Int} (h : IZ w P L) (e : w'.heap[P]? = w.heap[P]?) : IZ w' P L := World.rowIs.of_block h e
theorem IZ.later {w w' : World} {P : Nat} {L : List Int} (h : IZ w P L) (hb : Below w.heap.size w w') : IZ w' P L := h.block (hb.block P h.lt)
theorem IZ.made (w : World) (n : Nat) : IZ (w.alloc (.cells (madeCells #[.int .i64 0] n) 3)) w.heap.size (List.replicate n 0) := by
  have h := World.rowIs_made w (.int .i64 0) n 3
  unfold IZ
  rw [List.length_replicate]
  refine World.rowIs.congr h fun i hi => ?_
  rw [List.getD_eq_getElem?_getD, List.getElem?_replicate, if_pos hi]; rfl
/-- What is counted of a thing: -1, it stands; else from how many edges it waits. -/
def aF (E : List (Nat × Nat)) (row : List Nat) (y : Nat) : Int := if y ∈ row then -1 else (awt E row y : Int)
/-- .. while k edges from x are gone along. -/
def cF (E : List (Nat × Nat)) (row : List Nat) (x k : Nat) (y : Nat) : Int := if y ∈ row ++ [x] then -1 else (awt E row y : Int) - (((nx E x).take k).count y : Int)
/-- Nothing more urgent than the place at can stand. -/
def AtOk (L : List Nat) (f : Nat → Int) (at_ : Nat) : Prop := ∀ j x : Nat, j < at_ → L[j]? = some x → ¬ f x = 0
/-- The counts in a list. -/
structure AW (n : Nat) (A : List Int) (f : Nat → Int) : Prop where
  len : A.length = n
  at_ : ∀ x : Nat, x < n → A[x]? = some (f x)
theorem AW.set {n : Nat} {A : List Int} {f g : Nat → Int} (h : AW n A f) {x : Nat} {v : Int} (hv : g x = v) (ho : ∀ y, y ≠ x → g y = f y) : AW n (A.set x v) g := by
  refine ⟨by rw [List.length_set]; exact h.len, fun y hy => ?_⟩
  by_cases e : x = y
  · subst e; rw [List.getElem?_set_self (by rw [h.len]; exact hy), hv]
  · rw [List.getElem?_set_ne e, ho y (fun q => e q.symm)]; exact h.at_ y hy
theorem aF_bound (E : List (Nat × Nat)) (row : List Nat) (x : Nat) : -1 ≤ aF E row x ∧ aF E row x ≤ E.length := by
  unfold aF
  have h1 : awt E row x ≤ E.length := List.countP_le_length
  split <;> omega
/-- Edges into what stands come from what stands. -/
theorem Gr'.closed {n : Nat} {E : List (Nat × Nat)} {pr : Nat → Int} {A : List Nat} (h : Gr' n E pr A) : ∀ p ∈ E, p.2 ∈ A → p.1 ∈ A := by
  induction h with
  | nil => intro p _ hp; cases hp
  | @step row x hr hx ih =>
    intro p hp hm
    rw [List.mem_append] at hm ⊢
    rcases hm with hm | hm
    · exact .inl (ih p hp hm)
    · simp at hm
      have h0 := hx.1.2.2
      unfold awt at h0
      rw [List.countP_eq_zero] at h0
      have := h0 p hp
      rw [hm] at this
      simp at this
      exact .inl this
theorem aF_av {n : Nat} {E : List (Nat × Nat)} {row : List Nat} {x : Nat} (hx : x < n) : aF E row x = 0 ↔ Av n E row x := by
  unfold aF Av
  split
  · rename_i h
    exact ⟨fun e => by omega, fun e => absurd h e.2.1⟩
  · rename_i h
    exact ⟨fun e => ⟨hx, h, by omega⟩, fun e => by rw [e.2.2]; rfl⟩
theorem AtOk.nxt {n : Nat} {E : List (Nat × Nat)} {pr : Nat → Int} {row L : List Nat} {at_ x : Nat} (h : AtOk L (aF E row) at_) (hs : SI pr n L) (hr : Srt pr L 0 n) (hx : L[at_]? = some x) (h0 : aF E row x = 0) : Nxt n E pr row x := by
  have hxn := hs.lt _ _ hx
  refine ⟨(aF_av hxn).1 h0, fun y hy hne => ?_⟩
  obtain ⟨i, hi, hiy⟩ := hs.all hy.1
  have h1 : ¬ i < at_ := fun q => h i y q hiy ((aF_av hy.1).2 hy)
  have h2 : i ≠ at_ := fun q => hne (by rw [q, hx] at hiy; cases hiy; rfl)
  exact bf_of hs hr (by omega) hx hiy
theorem AtOk.skip {L : List Nat} {f : Nat → Int} {at_ x : Nat} (h : AtOk L f at_) (hx : L[at_]? = some x) (h0 : ¬ f x = 0) : AtOk L f (at_ + 1) := by
  intro j y hj hy
  by_cases e : j = at_
  · subst e; rw [hx] at hy; cases hy; exact h0
  · exact h j y (by omega) hy
theorem cF_zero {E : List (Nat × Nat)} {row : List Nat} {x y : Nat} (h : y ≠ x) : cF E row x 0 y = aF E row y := by
  unfold cF aF
  by_cases e : y ∈ row
  · rw [if_pos (List.mem_append_left _ e), if_pos e]
  · rw [if_neg (by simp [e, h]), if_neg e]; simp
theorem cF_self (E : List (Nat × Nat)) (row : List Nat) (x k : Nat) : cF E row x k x = -1 := by unfold cF; rw [if_pos (by simp)]
theorem AtOk.stand {E : List (Nat × Nat)} {row L : List Nat} {at_ x : Nat} (h : AtOk L (aF E row) at_) (hx : L[at_]? = some x) : AtOk L (cF E row x 0) (at_ + 1) := by
  intro j y hj hy
  by_cases e : y = x
  · subst e; rw [cF_self]; decide
  · rw [cF_zero e]
    refine h j y ?_ hy
    by_cases q : j = at_
    · subst q; rw [hx] at hy; cases hy; exact absurd rfl e
    · omega
theorem mem_nx {E : List (Nat × Nat)} {x y : Nat} : y ∈ nx E x ↔ (x, y) ∈ E := by
  unfold nx
  rw [List.mem_map]
  constructor
  · rintro ⟨p, hp, rfl⟩
    rw [List.mem_filter] at hp
    have := hp.2
    simp at this
    rw [← this]
    exact hp.1
  · intro h
    exact ⟨(x, y), List.mem_filter.2 ⟨h, by simp⟩, rfl⟩
/-- An edge from x leads tg one that still waits. -/
theorem cF_to {n : Nat} {E : List (Nat × Nat)} {pr : Nat → Int} {row : List Nat} {x k tg : Nat} (hg : Gr' n E pr row) (hx : Av n E row x) (hk : (nx E x)[k]? = some tg) :
    tg ∉ row ++ [x] ∧ 1 ≤ cF E row x k tg ∧ cF E row x k tg ≤ E.length ∧ cF E row x (k + 1) tg = cF E row x k tg - 1 ∧ ∀ y, y ≠ tg → cF E row x (k + 1) y = cF E row x k y := by
  have hm : (x, tg) ∈ E := mem_nx.1 (List.mem_of_getElem? hk)
  have h1 : tg ∉ row := fun q => hx.2.1 (hg.closed (x, tg) hm q)
  have h2 : tg ≠ x := fun q => by
    have h0 := hx.2.2
    unfold awt at h0
    rw [List.countP_eq_zero] at h0
    have h3 := h0 (x, tg) hm
    rw [q] at h3
    have h4 : row.contains x = false := by
      cases hc : row.contains x with
      | false => rfl
      | true => exact absurd (List.contains_iff_mem.1 hc) hx.2.1
    simp only [beq_self_eq_true, h4, Bool.not_false, Bool.and_self] at h3
    exact h3 trivial
  have hn : tg ∉ row ++ [x] := by simp [h1, h2]
  have ht : (nx E x).take (k + 1) = (nx E x).take k ++ [tg] := by rw [List.take_add_one, hk]; rfl
  have hc : ((nx E x).take (k + 1)).count tg ≤ (nx E x).count tg := List.Sublist.count_le tg (List.take_sublist ..)
  have hc2 : ((nx E x).take (k + 1)).count tg = ((nx E x).take k).count tg + 1 := by rw [ht, List.count_append]; simp
  have ha := awt_snoc E row x tg hx.2.1
  rw [← nx_count] at ha
  have hb : awt E row tg ≤ E.length := List.countP_le_length
  have hc' : (nx E x).count tg = ((E.filter fun p => p.1 == x).map (·.2)).count tg := rfl
  refine ⟨hn, ?_, ?_, ?_, fun y hy => ?_⟩
  · unfold cF; rw [if_neg hn]; omega
  · unfold cF; rw [if_neg hn]; omega
  · unfold cF; rw [if_neg hn, if_neg hn, hc2]; omega
  · unfold cF
    split
    · rfl
    · rw [ht, List.count_append]
      have : [tg].count y = 0 := by rw [List.count_singleton]; simp; exact fun q => hy q.symm
      rw [this]; simp
theorem cF_end {E : List (Nat × Nat)} {row : List Nat} {x : Nat} (hx : x ∉ row) (y : Nat) : cF E row x (nx E x).length y = aF E (row ++ [x]) y := by
  unfold cF aF
  split
  · rfl
  · rw [List.take_length, awt_snoc E row x y hx, ← nx_count]
    show ((_ + List.count y (nx E x) : Nat) : Int) - _ = _
    omega
theorem AtOk.go {L : List Nat} {f g : Nat → Int} {at_ tg at2 : Nat} (h : AtOk L f at_) (ho : ∀ y, y ≠ tg → g y = f y) (hle : at2 ≤ at_) (hz : g tg = 0 → ∀ j, L[j]? = some tg → at2 ≤ j) : AtOk L g at2 := by
  intro j y hj hy h0
  by_cases e : y = tg
  · subst e
    have := hz h0 j hy
    omega
  · rw [ho y e] at h0
    exact h j y (by omega) hy h0
theorem AtOk.last {n : Nat} {E : List (Nat × Nat)} {pr : Nat → Int} {row L : List Nat} (h : AtOk L (aF E row) n) (hs : SI pr n L) : ∀ y, ¬ Av n E row y := by
  intro y hy
  obtain ⟨i, hi, hiy⟩ := hs.all hy.1
  exact h i y hi hiy ((aF_av hy.1).2 hy)
theorem aF_nil (E : List (Nat × Nat)) (x : Nat) : aF E [] x = ((E.filter fun p => p.2 == x).length : Nat) := by
  unfold aF
  rw [if_neg (by simp), awt_nil]
/-- What is read along the way stays. -/
structure OX (w4 : World) (P n bx U K : Nat) (G : Bool → Nat) (V : Bool → Nat → Value) (E : List (Nat × Nat)) (L M : List Nat) (W : World) : Prop where
  b0 : W.cell? ⟨bx, 0, none⟩ = some (.slice (some ⟨G false, 0, none⟩) n n)
  b1 : W.cell? ⟨bx, 1, none⟩ = some (.slice (some ⟨G true, 0, none⟩) n n)
  g : ∀ s x, x < n → W.cell? ⟨G s, x, none⟩ = some (V s x)
  u : ∀ j x : Nat, L[j]? = some x → W.cell? ⟨U, j, none⟩ = some (.int .i64 (x : Int))
  k : ∀ j x : Nat, M[j]? = some x → W.cell? ⟨K, j, none⟩ = some (.int .i64 (x : Int))
  r : ∀ x j y : Nat, x < n → (nx E x)[j]? = some y → ∃ b off c, V false x = .slice (some ⟨b, off, none⟩) (nx E x).length c ∧ W.cell? ⟨b, off + j, none⟩ = some (.int .i64 (y : Int))
theorem ox_of {B0 : Nat} {w0 w4 W : World} {P n bx U K : Nat} {G : Bool → Nat} {V : Bool → Nat → Value} {E : List (Nat × Nat)} {L M : List Nat} (h : WV B0 w0 w4 G n V (XX E)) (hlo : ∀ s, G s < P) (hro : ∀ s x, x < n → ∀ g, (V s x).ownBlock = some g → g < P)
    (hb : w4.heap[bx]? = some (.cells #[.slice (some ⟨G false, 0, none⟩) n n, .slice (some ⟨G true, 0, none⟩) n n] 67 (0, 0))) (hbP : bx ≠ P) (hU : NV w4 U L) (hUP : U ≠ P) (hK : NV w4 K M) (hKP : K ≠ P) (hW : w4.grownBy W (some P)) :
    OX w4 P n bx U K G V E L M W := by
  have hk : ∀ b, b < w4.heap.size → b ≠ P → W.heap[b]? = w4.heap[b]? := fun b h1 h2 => hW.block b h1 (by intro q; injection q with q; exact h2 q)
  have hb' := (hk bx (Array.getElem?_eq_some_iff.1 hb).1 hbP).trans hb
  refine ⟨by rw [cell_of_row _ _ 0 _ _ _ hb']; rfl, by rw [cell_of_row _ _ 1 _ _ _ hb']; rfl, fun s x hx => ?_, fun j x hx => ?_, fun j x hx => ?_, fun x j y hx hy => ?_⟩
  · exact (World.cell?_of_block (a := ⟨G s, x, none⟩) (hk (G s) (h.lt s) (by have := hlo s; omega))).trans (h.cell s hx)
  · exact (hU.block (hk U hU.lt hUP)).cell hx
  · exact (hK.block (hk K hK.lt hKP)).cell hx
  · obtain ⟨a, c, e⟩ := h.sl false hx
    have ho := h.own false x hx
    obtain ⟨g, ⟨a', c', hv', _, hr⟩, hg⟩ := IN.OM.rg ho
    have hne : ni (XX E false x) ≠ [] := by
      intro q
      have hl := (List.getElem?_eq_some_iff.1 hy).1
      have : (ni (XX E false x)).length = 0 := by rw [q]; rfl
      rw [ni_len] at this
      have e2 : XX E false x = nx E x := rfl
      rw [e2] at this
      omega
    obtain ⟨off, rfl, hgl, hc⟩ := hr.resolve_left hne
    refine ⟨g, off, c', ?_, ?_⟩
    · rw [hv', ni_len]; rfl
    · have hgP : g ≠ P := by have := hro false x hx g (hg hne); omega
      exact (World.cell?_of_block (a := ⟨g, off + j, none⟩) (hk g hgl hgP)).trans (hc j _ (ni_at hy))
end Go.Proofs.YtcdhblfefpkjgaaDoor
