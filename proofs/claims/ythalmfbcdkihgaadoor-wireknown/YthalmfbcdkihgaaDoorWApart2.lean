/-
  My own text: the call that looks whether lists of bytes have memory of their own.
-/
import Derived.Test.YthalmfbcdkihgaaDoorWApart
namespace Go.Proofs.YthalmfbcdkihgaaDoor
open Go.RowKit Go.Extern

/-- Nothing but these lists' own blocks has changed. -/
structure Sp (K : Nat) (av : Nat → Option Addr) (n c : Nat → Nat) (w w' : World) : Prop where
  os : w'.os = w.os
  tape : w'.tape = w.tape
  output : w'.output = w.output
  size : w.heap.size ≤ w'.heap.size
  block : ∀ b, b < w.heap.size → (∀ k, k < K → (Value.slice (av k) (n k) (c k)).ownBlock ≠ some b) → w'.heap[b]? = w.heap[b]?
theorem Sp.refl (K : Nat) (av : Nat → Option Addr) (n c : Nat → Nat) (w : World) : Sp K av n c w w := ⟨rfl, rfl, rfl, Nat.le_refl _, fun _ _ _ => rfl⟩
theorem Sp.drew {K : Nat} {av : Nat → Option Addr} {n c : Nat → Nat} {w w1 : World} (h : Sp K av n c w w1) : Sp K av n c w w1.drew := ⟨h.os, h.tape, h.output, h.size, h.block⟩
theorem Sp.set {K : Nat} {av : Nat → Option Addr} {n c : Nat → Nat} {w w1 : World} (h : Sp K av n c w w1) {k P : Nat} (hk : k < K) (hA : av k = some ⟨P, 0, none⟩) (i : Nat) (u : Value) : Sp K av n c w (w1.setCell ⟨P, i, none⟩ u) :=
  ⟨h.os, h.tape, h.output, by simpa using h.size, fun b hb hn => (Below.heap_setCell _ _ _ _ (fun e => hn k hk (by rw [hA, e]; rfl))).trans (h.block b hb hn)⟩
theorem gs_sp {w w1 w2 w3 w5 : World} {K j : Nat} {av : Nat → Option Addr} {n c : Nat → Nat} {gs g : Value} {gl : List Value} {o : Obj} (hj : j < K) (h01 : w.heap.size ≤ w1.heap.size) (hb : Sp K av n c w w2) (hW : Grew w2 (.slice (av j) (n j) (c j)) w3 g) (hO : w3.ownsRow w1.heap.size 29 1 gs j gl) (hg : (w3.alloc o).grownBy w5 gs.ownBlock) : Sp K av n c w w5 := by
  have h2 := hb.size
  have h3 := hW.grown.size
  have h5 := hg.size
  have h4 : w3.heap.size ≤ (w3.alloc o).heap.size := by simp
  refine ⟨hg.os.trans (hW.grown.os.trans hb.os), hg.tape.trans (hW.grown.tape.trans hb.tape), hg.output.trans (hW.grown.output.trans hb.output), by omega, fun b hlt hn => ?_⟩
  have e1 := hb.block b hlt hn
  have e2 := hW.grown.block b (by omega) (fun e => hn j hj e.symm)
  have e3 : (w3.alloc o).heap[b]? = w3.heap[b]? := Below.heap_alloc _ _ _ (by omega)
  have e4 := hg.block b (by omega) (fun e => by
    have := (World.ownsRow.lt (hO.alloc o) b e.symm).1
    omega)
  rw [e4, e3, e2, e1]
set_option maxRecDepth 100000 in
set_option maxHeartbeats 4000000 in
theorem apartBytes_sp (B L K cL : Nat) (av : Nat → Option Addr) (n c : Nat → Nat) (r0 : Nat → List UInt8) (w : World) (hT : AllB w B L K av n c r0) (hN : ∀ k, n k ≤ 140737488355200) (hK : K ≤ 1099511627776) (hcL : K ≤ cL) (hBw : B ≤ w.heap.size) :
    Calls Tryd.prog 44 #[.slice (some ⟨L, 0, none⟩) K cL] w fun e w' => e = .returned (.bool true) ∧ Sp K av n c w w' := by
  obtain ⟨i2, hi2, hza2, hzb2, hzc2⟩ := info_parts Tryd.infoBS
  have HN := hide hN
  have HT := hide hT
  clear hT hN
  go_enter Tryd.func44, Tryd.ntmps44
  go_wp2_with fail
  go_loopw [3] (fun i wr => ∃ (k : Nat) (r : Nat → List UInt8), k ≤ K ∧ i = .int .i64 k ∧ Hid (AllB wr B L K av n c r) ∧ Hid (MkB K n r k 0) ∧ Sp K av n c w wr) (fun i _ => K - (intOf i).toNat)
  case atStart => exact ⟨0, r0, Nat.zero_le _, rfl, HT, hide (fun m _ j _ hl => by omega), Sp.refl _ _ _ _ _⟩
  case round =>
    clear HT
    obtain ⟨k, r, hk, rfl, HT, HM, hB⟩ := hrel
    by_cases hlt : k < K
    · have hn := HN.out k
      have hd : decide ((k : Int) < (K : Int)) = true := by rw [decide_eq_true_eq]; omega
      have hc := HT.out.cells k hlt
      go_wp2_with fail
      clear hc
      go_loopw [4] (fun i wr => ∃ (i' : Nat) (r : Nat → List UInt8), i' ≤ n k ∧ i = .int .i64 i' ∧ Hid (AllB wr B L K av n c r) ∧ Hid (MkB K n r k i') ∧ Sp K av n c w wr) (fun i _ => n k - (intOf i).toNat)
      case atStart => exact ⟨0, r, Nat.zero_le _, rfl, HT, HM, hB⟩
      case round =>
        clear HT HM hB
        obtain ⟨i, r, hi, rfl, HT, HM, hB⟩ := hrel
        have hc := HT.out.cells k hlt
        by_cases hil : i < n k
        · obtain ⟨P, hA, hP, hPl, hPL⟩ := HT.out.at hlt hil
          have HM' := hide (HM.out.set (HT.out.len hlt) hil)
          have HT' := hide (HT.out.set hlt hil hA (mkB (k : Int) (i : Int)))
          have hrow := HT.out.own k hlt
          unfold Own at hrow
          rw [HT.out.len hlt, hA] at hrow
          rw [hA] at hc
          obtain ⟨x, hx⟩ := some_at (l := r k) (k := i) (by rw [HT.out.len hlt]; exact hil)
          have hcell := (World.ownsRow.cellAt hrow i (by omega)).trans (bv_at hx)
          have hfz := World.ownsRow.frozenAt hrow i
          have HA := hide hA
          clear hA hrow hx
          go_wp2_with fail
          go_region_with (go_at_call 65; refine (markBytes_any _ _ _ (by omega) (by omega) (by omega) (by omega)).mono ?_; rintro e w' ⟨rfl, rfl⟩)
          all_goals
            go_wp2_with fail
            go_roundw
            case rel => exact ⟨i + 1, _, by omega, by go_num, hide HT'.out.drew, hide HM'.out, (hB.set hlt HA.out i _).drew⟩
            case measure => simp [intOf]; omega
        · have hi' : i = n k := by omega
          subst hi'
          go_wp2_with fail
          go_roundw
          case rel => exact ⟨k + 1, r, by omega, by go_num, HT, hide (HM.out.next (Nat.le_refl _)), hB⟩
          case measure => simp [intOf]; omega
    · have hk' : k = K := by omega
      subst hk'
      obtain ⟨w1, hw1⟩ : ∃ x, x = wr := ⟨_, rfl⟩
      subst hw1
      have HB1 := hide hB
      have HP := hide HT.out.pl
      have HG0 := hide (HT.out.gr HM.out)
      have hB1s : B ≤ w1.heap.size := Nat.le_trans hBw hB.size
      have h01 : w.heap.size ≤ w1.heap.size := hB.size
      clear hlt hk HM hB HT
      go_wp2_with fail
      go_loopw [5, 6] (fun gs kk w2 => ∃ (j : Nat) (gl : List Value), j ≤ k ∧ kk = .int .i64 j ∧ Hid (w2.ownsRow w1.heap.size 29 1 gs j gl) ∧ Hid (GrB w1 w2 B L k av n c gl j) ∧ Sp k av n c w w2) (fun _ i _ => k - (intOf i).toNat)
      case atStart => exact ⟨0, [], Nat.zero_le _, rfl, hide (World.ownsRow_nil w1 w1.heap.size 29 1), HG0, HB1.out⟩
      case round =>
        clear HG0
        obtain ⟨w2, hw2⟩ : ∃ x, x = wr := ⟨_, rfl⟩
        subst hw2
        obtain ⟨j, gl, hj, rfl, HO, HG, hB⟩ := hrel
        by_cases hlt : j < k
        · have hn := HN.out j
          have hd : decide ((j : Int) < (k : Int)) = true := by rw [decide_eq_true_eq]; omega
          have hc := HG.out.cells j hlt
          have hLt : L < w2.heap.size := Nat.lt_of_lt_of_le HP.out.lt HG.out.size
          go_wp2_with fail
          clear hc
          go_loopw [7, 8] (fun g i w3 => ∃ i' : Nat, i' ≤ 64 ∧ i = .int .i64 i' ∧ Hid (Own w3 B g (mks j (n j + i'))) ∧ Hid (Grew w2 (.slice (av j) (n j) (c j)) w3 g) ∧ Hid (∀ i, i < n j → ∀ P, av j = some ⟨P, 0, none⟩ → w3.cell? ⟨P, i, none⟩ = some (.int .u8 ((mkB (j : Int) (i : Int)).toNat : Int)))) (fun _ i _ => 64 - (intOf i).toNat)
          case atStart => exact ⟨0, Nat.zero_le _, rfl, hide (HG.out.rest j (Nat.le_refl _) hlt), hide (Grew.refl _ _), hide (HG.out.marks j hlt)⟩
          case round =>
            obtain ⟨w3, hw3⟩ : ∃ x, x = wr := ⟨_, rfl⟩
            subst hw3
            obtain ⟨i, hi, rfl, HD, HW, HOld⟩ := hrel
            have hc3 := HW.out.grown.cell (HG.out.cells j hlt) (fun e => HP.out.notL j hlt e.symm)
            by_cases hil : i < 64
            · obtain ⟨m, hm⟩ : ∃ m : UInt8, Hid (mkB (j : Int) ((n j : Int) + (i : Int)) = m) := ⟨_, hide rfl⟩
              have HS := hide (mks_succ j (n j + i))
              rw [Int.natCast_add, hm.out] at HS
              have HMK := hide (fun W : World => markBytes_any (j : Int) ((n j : Int) + (i : Int)) W (by omega) (by omega) (by omega) (by omega))
              rw [hm.out] at HMK
              have hws := HW.out.grown.size
              have hw2s := HG.out.size
              have hBs : B ≤ w3.heap.size := by omega
              go_wp2_with (first
                | (go_at_call 65; refine (HMK.out _).mono ?_; rintro e w' ⟨rfl, hw⟩; obtain rfl := hw.symm)
                | (at_builtin; refine wp_append_kept rfl _ _ rfl B _ (mks j (n j + i)) m _ rfl rfl (World.ownsRow.alloc HD.out _) ?c1 ?c2 ?c3 ?_)
                | go_in)
              case c1 => simp
              case c2 => simp; omega
              case c3 => rw [mks_len]; omega
              intro v' w4 hown' hgrew hkeep
              have HR : Hid (Own w4 B v' (mks j (n j + (i + 1)))) := by
                show Own _ _ _ _
                rw [← Nat.add_assoc, HS.out]
                exact hown'
              have hbl : Below w3.heap.size w3 (w3.alloc (.cells #[.int .u8 (m.toNat : Int)] 5)) := (Below.refl _ _).alloc (Nat.le_refl _) _
              have HW4 := hide (HW.out.trans (Grew.ofBelow hbl hgrew))
              have HOld4 : Hid (∀ i, i < n j → ∀ P, av j = some ⟨P, 0, none⟩ → w4.cell? ⟨P, i, none⟩ = some (.int .u8 ((mkB (j : Int) (i : Int)).toNat : Int))) := by
                intro i' hi' P hP
                refine hkeep P i' _ (by rw [mks_len]; omega) ?_
                have h1 := HOld.out i' hi' P hP
                rw [hbl.cell (p := ⟨P, i', none⟩) (World.block_lt_of_cell? w3 _ h1)]
                exact h1
              clear hown' hgrew hkeep hbl HD HW HOld
              go_wp2
              go_roundw
              case rel => exact ⟨i + 1, by omega, by go_num, HR, HW4, HOld4⟩
              case measure => simp [intOf]; omega
            · have hi' : i = 64 := by omega
              subst hi'
              have hgl : gl.length = j := by have h := HO.out.1; omega
              have HG3 := hide (HG.out.step HP.out hlt hgl HD.out HW.out HOld.out)
              have hOg := gs_kept HO.out HP.out hlt HW.out
              have HOg := hide hOg
              have HE : Hid (∀ (o : Obj) (w5 : World), _) := hide (fun o w5 => gs_sp (o := o) (w5 := w5) hlt h01 hB HW.out hOg)
              have hD := HD.out
              unfold Own at hD
              rw [mks_len] at hD
              obtain ⟨q, cq, rfl, _, _⟩ := World.ownsRow.form hD (by omega)
              have hs3 : w1.heap.size ≤ w3.heap.size := Nat.le_trans HG.out.size HW.out.grown.size
              clear hD HD HW HOld HG HO hc3
              go_wp2_with (first
                | (at_builtin; refine wpList_append_own _ rfl _ _ 83 rfl w1.heap.size 29 i2 (.slice none 0 0) 1 24 Tryd.underlying83 hi2 hza2 hzb2 hzc2 rfl (by decide) _ _ _ rfl (hOg.alloc _) ⟨_, 0, none⟩ 1 1 [.slice (some ⟨q, 0, none⟩) (n j + 64) cq] rfl rfl ?e1 ?e2 ?e3 ?e4 ?e5 ?_)
                | go_in)
              case e1 =>
                intro j u hj
                match j, hj with
                | 0, hj => simp at hj; subst hj; simp [Addr.add]
              case e2 => intro u hu; simp at hu; subst hu; rfl
              case e3 => unfold maxLen; omega
              case e4 => omega
              case e5 => simp; omega
              intro v' w5 hO5 hg5 _
              have hB5 := HE.out _ _ hg5
              have HG5 := hide (gs_step HP.out HG3.out HOg.out hg5)
              have HO5 := hide hO5
              clear hO5 hg5 hOg HG3 HE
              go_wp2
              go_roundw
              case rel => exact ⟨j + 1, _, by omega, by go_num, HO5, HG5, hB5⟩
              case measure => simp [intOf]; omega
        · have hj' : j = k := by omega
          subst hj'
          have HGc : Hid (∀ gs, w2.ownsRow w1.heap.size 29 1 gs j gl → 0 < j → ∃ q cq, gs = .slice (some ⟨q, 0, none⟩) j cq ∧ ∀ m, m < j → ∃ p c, w2.cell? ⟨q, m, none⟩ = some (.slice (some ⟨p, 0, none⟩) (n m + 64) c) ∧ ∀ i, i < n m + 64 → w2.cell? ⟨p, i, none⟩ = some (.int .u8 ((mkB (m : Int) (i : Int)).toNat : Int))) := by
            intro gs hgs h0
            obtain ⟨q, cq, rfl, _, _⟩ := hgs.form h0
            refine ⟨q, cq, rfl, fun m hm => ?_⟩
            obtain ⟨g, h1, h2, _⟩ := HG.out.done m hm
            unfold Own at h2
            rw [mks_len] at h2
            obtain ⟨p, c, rfl, _, _⟩ := h2.form (by omega)
            refine ⟨p, c, ?_, fun i hi => ?_⟩
            · rw [World.ownsRow.cellAt hgs m (by omega)]; exact h1
            · rw [World.ownsRow.cellAt h2 i (by omega)]
              exact bv_at (mks_at hi)
          have HM2 : Hid (∀ m, m < j → ∀ i, i < n m → ∃ P, av m = some ⟨P, 0, none⟩ ∧ w2.cell? ⟨P, i, none⟩ = some (.int .u8 ((mkB (m : Int) (i : Int)).toNat : Int))) := by
            intro m hm i hi
            obtain ⟨P, hP⟩ := HP.out.some m hm (by omega)
            exact ⟨P, hP, HG.out.marks m hm i hi P hP⟩
          have HC2 := hide HG.out.cells
          have HBe := hide hB
          have HX := hide (HGc.out _ HO.out)
          clear HGc HG HO HP hlt hj hB HB1
          go_wp2_with fail
          go_loop [9] (fun i => ∃ k : Nat, k ≤ j ∧ i = .int .i64 k) (fun i => j - (intOf i).toNat)
          case atStart => exact ⟨0, Nat.zero_le _, rfl⟩
          case round =>
            obtain ⟨k, hk, rfl⟩ := hrel
            by_cases hlt : k < j
            · have hn := HN.out k
              have hd : decide ((k : Int) < (j : Int)) = true := by rw [decide_eq_true_eq]; omega
              have hc := HC2.out k hlt
              obtain ⟨q, cq, rfl, hq⟩ := HX.out (by omega)
              obtain ⟨p, cp, hp, hpc⟩ := hq k hlt
              have HPC := hide hpc
              clear hpc hq HX
              go_wp2_with fail
              go_loop [10] (fun i => ∃ i' : Nat, i' ≤ n k + 64 ∧ i = .int .i64 i') (fun i => n k + 64 - (intOf i).toNat)
              case atStart => exact ⟨0, Nat.zero_le _, rfl⟩
              case round =>
                obtain ⟨i, hi, rfl⟩ := hrel
                by_cases hil : i < n k + 64
                · have hpi := HPC.out i hil
                  have HMK := hide (fun W : World => markBytes_any (k : Int) (i : Int) W (by omega) (by omega) (by omega) (by omega))
                  by_cases hin : i < n k
                  · obtain ⟨P, hA, hPi⟩ := HM2.out k hlt i hin
                    obtain ⟨m, hm⟩ : ∃ m : Int, Hid (((mkB (k : Int) (i : Int)).toNat : Int) = m) := ⟨_, hide rfl⟩
                    rw [hm.out] at HMK hpi hPi
                    rw [hA] at hc
                    clear hA
                    go_wp2_with (first
                      | (go_at_call 65; refine (HMK.out _).mono ?_; rintro e w' ⟨rfl, rfl⟩)
                      | go_in)
                    exact ⟨⟨i + 1, by omega, by go_num⟩, by simp [intOf]; omega⟩
                  · obtain ⟨m, hm⟩ : ∃ m : Int, Hid (((mkB (k : Int) (i : Int)).toNat : Int) = m) := ⟨_, hide rfl⟩
                    rw [hm.out] at HMK hpi
                    go_wp2_with (first
                      | (go_at_call 65; refine (HMK.out _).mono ?_; rintro e w' ⟨rfl, rfl⟩)
                      | go_in)
                    exact ⟨⟨i + 1, by omega, by go_num⟩, by simp [intOf]; omega⟩
                · have hi' : i = n k + 64 := by omega
                  subst hi'
                  go_wp2_with fail
                  exact ⟨⟨k + 1, by omega, by go_num⟩, by simp [intOf]; omega⟩
            · have hd : decide ((k : Int) < (j : Int)) = false := by rw [decide_eq_false_iff_not]; omega
              go_wp2_with fail
              go_ret
              exact ⟨rfl, HBe.out⟩
theorem apartBytes_any (B L K cL : Nat) (av : Nat → Option Addr) (n c : Nat → Nat) (r0 : Nat → List UInt8) (w : World) (hT : AllB w B L K av n c r0) (hN : ∀ k, n k ≤ 140737488355200) (hK : K ≤ 1099511627776) (hcL : K ≤ cL) (hBw : B ≤ w.heap.size) :
    Calls Tryd.prog 44 #[.slice (some ⟨L, 0, none⟩) K cL] w fun e w' => e = .returned (.bool true) ∧ Below B w w' := by
  refine (apartBytes_sp B L K cL av n c r0 w hT hN hK hcL hBw).mono fun e w' hh => ?_
  obtain ⟨h1, h2⟩ := hh
  refine ⟨h1, h2.os, h2.tape, h2.output, h2.size, fun b hb => h2.block b (by omega) (fun k hk e => ?_)⟩
  have := (World.ownsRow.lt (hT.own k hk) b e).1
  omega
theorem apartBytes_nil (w : World) : Calls Tryd.prog 44 #[.slice none 0 0] w fun e w' => e = .returned (.bool true) ∧ w' = w := by
  go_enter Tryd.func44, Tryd.ntmps44
  go_wp2_with fail
  go_loop [3] (fun i => i = .int .i64 0) (fun _ => 0)
  case atStart => rfl
  case round =>
    subst hrel
    go_wp2_with fail
    go_loop [5, 6] (fun g i => g = .slice none 0 0 ∧ i = .int .i64 0) (fun _ _ => 0)
    case atStart => exact ⟨rfl, rfl⟩
    case round =>
      obtain ⟨rfl, rfl⟩ := hrel
      go_wp2_with fail
      go_loop [9] (fun i => i = .int .i64 0) (fun _ => 0)
      case atStart => rfl
      case round =>
        subst hrel
        go_wp2_with fail
        go_ret
        exact ⟨rfl, rfl⟩
end Go.Proofs.YthalmfbcdkihgaaDoor
