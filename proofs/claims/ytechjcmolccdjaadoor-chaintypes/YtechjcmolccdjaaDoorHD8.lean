/-
  My own text: the law ChainScript (printed by mkhd8.py).
-/
import Derived.Test.YtechjcmolccdjaaDoorHD7
import Derived.Test.YtechjcmolccdjaaDoorQT2
import Derived.Test.YtechjcmolccdjaaDoorGr0
import Derived.Deep.RegionHeld3
namespace Go.Proofs.YtechjcmolccdjaaDoor
open Go.RowKit Go.Shelf

/-- A call: which chain, which call, a number, a text. -/
abbrev Oq := Int × Int × Int × List UInt8
def ROp (w : World) (v : Value) (ps : List Oq) : Prop := ∃ a cap, v = .slice a ps.length cap ∧ ∀ (i : Nat) (p : Oq), ps[i]? = some p → ∃ g off, a = some ⟨g, off, none⟩ ∧ w.cell? ⟨g, off + i * 4, none⟩ = some (.int .i64 p.1) ∧ w.cell? ⟨g, off + i * 4 + 1, none⟩ = some (.int .i64 p.2.1) ∧ w.cell? ⟨g, off + i * 4 + 2, none⟩ = some (.int .i64 p.2.2.1) ∧ w.cell? ⟨g, off + i * 4 + 3, none⟩ = some (.string ⟨p.2.2.2.toArray⟩)
theorem ROp.later {w w' : World} {v : Value} {ps : List Oq} (h : ROp w v ps) (hb : Below w.heap.size w w') : ROp w' v ps := by
  obtain ⟨a, cap, hv, hc⟩ := h
  refine ⟨a, cap, hv, fun i p hp => ?_⟩
  obtain ⟨g, off, e, c1, c2, c3, c4⟩ := hc i p hp
  exact ⟨g, off, e, (hb.cell (World.block_lt_of_cell? _ _ c1)).trans c1, (hb.cell (World.block_lt_of_cell? _ _ c2)).trans c2, (hb.cell (World.block_lt_of_cell? _ _ c3)).trans c3, (hb.cell (World.block_lt_of_cell? _ _ c4)).trans c4⟩
theorem op_range {W : World} {b : Nat} {on kd n : Int} {s : List UInt8} (h : W.heap[b]? = some (.cells #[.int .i64 on, .int .i64 kd, .int .i64 n, .string ⟨s.toArray⟩] 29 (0, 0))) : W.rangeAt b 0 [.int .i64 on, .int .i64 kd, .int .i64 n, .string ⟨s.toArray⟩] := fun j u hj => by
  rw [cell_of_row W b _ _ _ _ h]
  match j, hj with
  | 0, hj => cases hj; rfl
  | 1, hj => cases hj; rfl
  | 2, hj => cases hj; rfl
  | 3, hj => cases hj; rfl
theorem SS.lowS {w W : World} {bx br c0 c1 k : Nat} {L0 L1 : List Ver} {v0 v1 : Value} (h : SS w bx br c0 c1 k L0 L1 v0 v1 W) : Below w.heap.size w W := h.p0.low
theorem Tryd.sizeOp : (Tryd.prog.info? 29).map (·.size) = some 4 := by kernel_rfl
set_option maxRecDepth 100000 in
set_option maxHeartbeats 4000000 in
theorem script_any (v : Value) (ps : List Oq) (w : World) (hv : ROp w v ps) (hlen : ps.length ≤ 3600000000000) (hN : ∀ p ∈ ps, p.2.2.1 ≤ 9223372036854775807) (HE : Hid (ErrType w)) :
    Calls Tryd.prog 3 #[v] w fun e w' => e = .returned (.bool true) ∧ Below w.heap.size w w' := by
  obtain ⟨pa, pcap, rfl, hpc⟩ := hv
  have HPC := hide hpc
  have HMX := hide hN
  have HLN := hide hlen
  have HNW := hide (fun W : World => new_any W)
  clear hpc hN hlen
  go_enter Tryd.func3, Tryd.ntmps3
  go_wp2_with fail
  refine (HNW.out _).mono ?_
  rintro e w1 ⟨rfl, hC1, hb1⟩
  have C1 := hide hC1
  have B1 := hide hb1
  clear hC1 hb1
  go_wp2_with fail
  refine (HNW.out _).mono ?_
  rintro e w2 ⟨rfl, hC2, hb2⟩
  have S0 : Hid (SS w w2.heap.size (w2.heap.size + 1) w.heap.size w1.heap.size 0 [] [] (.slice none 0 0) (.slice none 0 0) ((w2.alloc (.cells #[.pointer (some ⟨w.heap.size, 0, none⟩), .pointer (some ⟨w1.heap.size, 0, none⟩)] 25)).alloc (.cells #[.slice none 0 0, .slice none 0 0] 27))) := hide (by
    have l0 := C1.out.lt
    have l1 := hC2.lt
    have ap := (ap_new hC2 (Nat.le_refl _) hb2 C1.out).symm
    have C12 := C1.out.later hb2
    have b02 : Below w.heap.size w w2 := B1.out.trans (hb2.mono B1.out.size)
    have z1 := B1.out.size
    have z2 := hb2.size
    have ba : Below w2.heap.size w2 (w2.alloc (.cells #[.pointer (some ⟨w.heap.size, 0, none⟩), .pointer (some ⟨w1.heap.size, 0, none⟩)] 25)) := (Below.refl _ _).alloc (Nat.le_refl _) _
    have xa : (w2.alloc (.cells #[.pointer (some ⟨w.heap.size, 0, none⟩), .pointer (some ⟨w1.heap.size, 0, none⟩)] 25)).heap[w2.heap.size]? = _ := alloc_newV w2 _
    have za : (w2.alloc (.cells #[.pointer (some ⟨w.heap.size, 0, none⟩), .pointer (some ⟨w1.heap.size, 0, none⟩)] 25)).heap.size = w2.heap.size + 1 := by simp
    generalize w2.alloc (.cells #[.pointer (some ⟨w.heap.size, 0, none⟩), .pointer (some ⟨w1.heap.size, 0, none⟩)] 25) = U at *
    have bb : Below U.heap.size U (U.alloc (.cells #[.slice none 0 0, .slice none 0 0] 27)) := (Below.refl _ _).alloc (Nat.le_refl _) _
    have ra : (U.alloc (.cells #[.slice none 0 0, .slice none 0 0] 27)).heap[U.heap.size]? = _ := alloc_newV U _
    rw [za] at ra
    have bt := ba.trans (bb.mono ba.size)
    have bw := b02.trans (bt.mono b02.size)
    exact ⟨(bb.block _ (by omega)).trans xa, ra, ⟨C12.later bt, OR.nil _ _ _ _, LK.nil, bw, Nat.le_refl _⟩, ⟨hC2.later bt, OR.nil _ _ _ _, LK.nil, bw, z1⟩, by omega, ap.same (bt.cell (p := ⟨w.heap.size, 0, none⟩) (show w.heap.size < w2.heap.size by omega)) (bt.cell (p := ⟨w1.heap.size, 0, none⟩) l1), by omega, by omega⟩)
  clear hC2 hb2 C1 B1
  go_wp2_with fail
  generalize ((w2.alloc (.cells #[.pointer (some ⟨w.heap.size, 0, none⟩), .pointer (some ⟨w1.heap.size, 0, none⟩)] 25)).alloc (.cells #[.slice none 0 0, .slice none 0 0] 27)) = W0 at *
  obtain ⟨br, hbr⟩ : ∃ br, br = w2.heap.size + 1 := ⟨_, rfl⟩
  rw [← hbr] at S0 ⊢
  clear hbr
  obtain ⟨bx, hbx⟩ : ∃ bx, bx = w2.heap.size := ⟨_, rfl⟩
  rw [← hbx] at S0 ⊢
  clear hbx
  go_loopw [5] (fun i wr => ∃ (k c0 c1 : Nat) (L0 L1 : List Ver) (a0 : Option Addr) (cap0 : Nat) (a1 : Option Addr) (cap1 : Nat), k ≤ ps.length ∧ i = .int .i64 (k : Int) ∧ Hid (SS w bx br c0 c1 k L0 L1 (.slice a0 L0.length cap0) (.slice a1 L1.length cap1) wr)) (fun i _ => ps.length - (intOf i).toNat)
  case atStart => exact ⟨0, _, _, [], [], none, 0, none, 0, Nat.zero_le _, rfl, S0⟩
  case round =>
    clear S0
    obtain ⟨k, c0, c1, L0, L1, a0, cap0, a1, cap1, hk, rfl, SR⟩ := hrel
    by_cases hlt : k < ps.length
    · obtain ⟨⟨on, kd, n, s⟩, hp⟩ : ∃ p, ps[k]? = some p := ⟨_, List.getElem?_eq_getElem hlt⟩
      obtain ⟨g, off, rfl, q1, q2, q3, q4⟩ := HPC.out k _ hp
      have hd1 : decide ((k : Int) < (ps.length : Int)) = true := by rw [decide_eq_true_eq]; omega
      have k0 : (0 : Int) ≤ (k : Int) := by omega
      have k1 : (k : Int) < (ps.length : Int) := by omega
      have z1 := (SR.out.p0.low.cell (World.block_lt_of_cell? _ _ q1)).trans q1
      have z2 := (SR.out.p0.low.cell (World.block_lt_of_cell? _ _ q2)).trans q2
      have z3 := (SR.out.p0.low.cell (World.block_lt_of_cell? _ _ q3)).trans q3
      have z4 := (SR.out.p0.low.cell (World.block_lt_of_cell? _ _ q4)).trans q4
      dsimp only at z1 z2 z3 z4
      have wk : wrap64 ((k : Int) + 1) = (k : Int) + 1 := by have := HLN.out; unfold wrap64; omega
      have HMN : Hid (n ≤ 9223372036854775807) := hide (HMX.out _ (List.mem_of_getElem? hp))
      obtain ⟨W1, hW1⟩ : ∃ W1, wr.alloc (.cells #[.int .i64 on, .int .i64 kd, .int .i64 n, .string ⟨s.toArray⟩] 29) = W1 := ⟨_, rfl⟩
      have S1 : Hid (SS w bx br c0 c1 k L0 L1 (.slice a0 L0.length cap0) (.slice a1 L1.length cap1) W1) := hide (by rw [← hW1]; exact SR.out.later ((Below.refl _ _).alloc (Nat.le_refl _) _))
      have HK1 : Hid (W1.heap[wr.heap.size]? = some (.cells #[.int .i64 on, .int .i64 kd, .int .i64 n, .string ⟨s.toArray⟩] 29 (0, 0))) := hide (by rw [← hW1]; exact alloc_newV wr _)
      have g0 : W1.cell? ⟨wr.heap.size, 0, none⟩ = some (.int .i64 on) := by rw [cell_of_row W1 _ 0 _ _ _ HK1.out]; rfl
      have g1 : W1.cell? ⟨wr.heap.size, 1, none⟩ = some (.int .i64 kd) := by rw [cell_of_row W1 _ 1 _ _ _ HK1.out]; rfl
      have g2 : W1.cell? ⟨wr.heap.size, 2, none⟩ = some (.int .i64 n) := by rw [cell_of_row W1 _ 2 _ _ _ HK1.out]; rfl
      have g3 : W1.cell? ⟨wr.heap.size, 3, none⟩ = some (.string ⟨s.toArray⟩) := by rw [cell_of_row W1 _ 3 _ _ _ HK1.out]; rfl
      clear hp q1 q2 q3 q4 SR
      go_wp2_with (refine wpList_store_row rfl 29 _ _ rfl wr.heap.size #[.int .i64 on, .int .i64 kd, .int .i64 n, .string ⟨s.toArray⟩] rfl rfl _ _ (alloc_newV wr _) Tryd.sizeOp rfl (by simp [Value.oneCell']) ?_; rw [World.setRow_alloc_new])
      refine (pick_any on 2 _ (by decide) (by decide)).mono ?_
      rintro e wx ⟨rfl, hwx⟩
      obtain rfl := hwx.symm
      clear hwx
      go_wp2_with fail
      refine (pick_any kd 7 _ (by decide) (by decide)).mono ?_
      rintro e wx ⟨rfl, hwx⟩
      obtain rfl := hwx.symm
      clear hwx
      obtain ⟨oo, hoo⟩ : ∃ oo, oo = on % 2 := ⟨_, rfl⟩
      obtain ⟨kk, hkk⟩ : ∃ kk, kk = kd % 7 := ⟨_, rfl⟩
      have ho2 : oo = 0 ∨ oo = 1 := by omega
      have hk7 : 0 ≤ kk ∧ kk < 7 := by omega
      rw [← hoo, ← hkk]
      clear hoo hkk z1 z2 z3 z4 hW1
      by_cases h6 : kk = 6
      · subst h6
        rcases ho2 with rfl | rfl
        · go_wp2_with fail
          refine (new_any W1).mono ?_
          rintro e w2 ⟨rfl, hC, hb⟩
          obtain ⟨x2, r2, s2⟩ := S1.out.new0 hC hb
          have y2 : w2.cell? ⟨bx, 0, none⟩ = some (.pointer (some ⟨c0, 0, none⟩)) := by rw [cell_of_row w2 bx 0 _ _ _ x2]; rfl
          have f2 := frozen_of x2 0
          obtain ⟨c2, hc2⟩ : ∃ c2, c2 = W1.heap.size := ⟨_, rfl⟩
          rw [← hc2] at r2 s2 ⊢
          have HC2 := hide hc2
          obtain ⟨W3, hW3⟩ : ∃ W3, w2.setCell ⟨bx, 0, none⟩ (.pointer (some ⟨c2, 0, none⟩)) = W3 := ⟨_, rfl⟩
          rw [hW3] at r2 s2
          have y3 : W3.cell? ⟨br, 0, none⟩ = some (.slice a0 L0.length cap0) := by rw [cell_of_row W3 br 0 _ _ _ r2]; rfl
          have f3 := frozen_of r2 0
          obtain ⟨W4, hW4⟩ : ∃ W4, W3.setCell ⟨br, 0, none⟩ (.slice none 0 0) = W4 := ⟨_, rfl⟩
          rw [hW4] at s2
          have S4 := hide s2
          have y4 := s2.x0
          clear hC hb x2 r2 s2 hc2 S1 g0 g1 g2 g3
          go_wp2_with fail
          go_roundw
          case rel => exact ⟨k + 1, c2, c1, [], L1, none, 0, a1, cap1, by omega, by go_num, S4⟩
          case measure => rw [wk]; simp [intOf]; omega
        · go_wp2_with fail
          refine (new_any W1).mono ?_
          rintro e w2 ⟨rfl, hC, hb⟩
          obtain ⟨x2, r2, s2⟩ := S1.out.new1 hC hb
          have y2 : w2.cell? ⟨bx, 1, none⟩ = some (.pointer (some ⟨c1, 0, none⟩)) := by rw [cell_of_row w2 bx 1 _ _ _ x2]; rfl
          have f2 := frozen_of x2 1
          obtain ⟨c2, hc2⟩ : ∃ c2, c2 = W1.heap.size := ⟨_, rfl⟩
          rw [← hc2] at r2 s2 ⊢
          have HC2 := hide hc2
          obtain ⟨W3, hW3⟩ : ∃ W3, w2.setCell ⟨bx, 1, none⟩ (.pointer (some ⟨c2, 0, none⟩)) = W3 := ⟨_, rfl⟩
          rw [hW3] at r2 s2
          have y3 : W3.cell? ⟨br, 1, none⟩ = some (.slice a1 L1.length cap1) := by rw [cell_of_row W3 br 1 _ _ _ r2]; rfl
          have f3 := frozen_of r2 1
          obtain ⟨W4, hW4⟩ : ∃ W4, W3.setCell ⟨br, 1, none⟩ (.slice none 0 0) = W4 := ⟨_, rfl⟩
          rw [hW4] at s2
          have S4 := hide s2
          have y4 := s2.x1
          clear hC hb x2 r2 s2 hc2 S1 g0 g1 g2 g3
          go_wp2_with fail
          go_roundw
          case rel => exact ⟨k + 1, c0, c2, L0, [], a0, cap0, none, 0, by omega, by go_num, S4⟩
          case measure => rw [wk]; simp [intOf]; omega
      · have d6 : (kk == 6) = false := by simp [h6]
        have HK0 := hide hk7.1
        have HK6 : Hid (kk < 6) := hide (by omega)
        clear h6 hk7
        rcases ho2 with rfl | rfl
        · go_wp2_with fail
          obtain ⟨bo, hbo⟩ : ∃ bo, bo = wr.heap.size := ⟨_, rfl⟩
          rw [← hbo] at HK1 g0 g1 g2 g3 ⊢
          clear hbo
          obtain ⟨n0, hn0⟩ : ∃ n0, n0 = L0.length := ⟨_, rfl⟩
          obtain ⟨n1, hn1⟩ : ∃ n1, n1 = L1.length := ⟨_, rfl⟩
          rw [← hn0, ← hn1] at S1
          have HN0 := hide hn0
          have HN1 := hide hn1
          clear hn0 hn1
          obtain ⟨L', hL'⟩ : ∃ L', L' = stL kk n s L0 := ⟨_, rfl⟩
          have HL' := hide hL'
          clear hL'
          obtain ⟨ln, hln⟩ : ∃ ln, ln = L'.length := ⟨_, rfl⟩
          have HLN' := hide hln
          clear hln
          have HST : Hid (∀ W, (SS w bx br c0 c1 k L0 L1 (.slice a0 n0 cap0) (.slice a1 n1 cap1) W ∧ W.heap[bo]? = some (.cells #[.int .i64 on, .int .i64 kd, .int .i64 n, .string ⟨s.toArray⟩] 29 (0, 0))) → Calls Tryd.prog 8 #[.pointer (some ⟨c0, 0, none⟩), .slice a0 n0 cap0, .agg #[.int .i64 on, .int .i64 kd, .int .i64 n, .string ⟨s.toArray⟩], .int .i64 kk] W fun en w' => ∃ a' cap', en = .returned (.tuple #[.slice a' ln cap', .bool true]) ∧ (w'.heap[br]? = some (.cells #[.slice a0 n0 cap0, .slice a1 n1 cap1] 27 (0, 0)) ∧ SS w bx br c0 c1 (k + 1) L' L1 (.slice a' ln cap') (.slice a1 n1 cap1) (w'.setCell ⟨br, 0, none⟩ (.slice a' ln cap'))) ∧ w'.cell? ⟨bx, 0, none⟩ = some (.pointer (some ⟨c0, 0, none⟩)) ∧ w'.cell? ⟨br, 0, none⟩ = some (.slice a0 n0 cap0) ∧ w'.cell? ⟨bo, 0, none⟩ = some (.int .i64 on) ∧ w'.cell? ⟨bo, 1, none⟩ = some (.int .i64 kd) ∧ w'.cell? ⟨bo, 2, none⟩ = some (.int .i64 n) ∧ w'.cell? ⟨bo, 3, none⟩ = some (.string ⟨s.toArray⟩)) := hide (fun W h => by
            have h0 := h.1.p0
            rw [HN0.out] at h0
            have hq := step_any kk on kd n HK0.out HK6.out s c0 k L0 a0 cap0 w W h0 (by have := HLN.out; omega) HMN.out HE
            rw [← HN0.out, ← HL'.out] at hq
            refine hq.mono ?_
            rintro e w' ⟨a', cap', rfl, hcr, hf⟩
            have h6 := h.1.on0 hcr hf
            rw [← HLN'.out] at h6 ⊢
            have x6 := hf.blk h.1.p0.ch h.1.xa (by decide) (by decide)
            have o6 := hf.blk h.1.p0.ch h.2 (by decide) (by decide)
            exact ⟨a', cap', rfl, h6, by rw [cell_of_row w' bx 0 _ _ _ x6]; rfl, by rw [cell_of_row w' br 0 _ _ _ h6.1]; rfl, by rw [cell_of_row w' bo 0 _ _ _ o6]; rfl, by rw [cell_of_row w' bo 1 _ _ _ o6]; rfl, by rw [cell_of_row w' bo 2 _ _ _ o6]; rfl, by rw [cell_of_row w' bo 3 _ _ _ o6]; rfl⟩)
          have hS0 : SS w bx br c0 c1 k L0 L1 (.slice a0 n0 cap0) (.slice a1 n1 cap1) W1.drew ∧ W1.drew.heap[bo]? = some (.cells #[.int .i64 on, .int .i64 kd, .int .i64 n, .string ⟨s.toArray⟩] 29 (0, 0)) := ⟨S1.out.later ((Below.refl _ _).drew), HK1.out⟩
          have t1 := S1.out.x0
          have t2 := S1.out.r0
          clear S1
          go_region_held3 (fun W => W.cell? ⟨bx, 0, none⟩ = some (.pointer (some ⟨c0, 0, none⟩)) ∧ W.cell? ⟨br, 0, none⟩ = some (.slice a0 n0 cap0) ∧ W.cell? ⟨bo, 0, none⟩ = some (.int .i64 on) ∧ W.cell? ⟨bo, 1, none⟩ = some (.int .i64 kd) ∧ W.cell? ⟨bo, 2, none⟩ = some (.int .i64 n) ∧ W.cell? ⟨bo, 3, none⟩ = some (.string ⟨s.toArray⟩)) (go_keep) ((first
            | (go_at_call 8; refine (HST.out _ ?_).mono ?_; assumption; rintro e w' ⟨a', cap', rfl, hR, hx1, hx2, hx3, hx4, hx5, hx6⟩)))
          clear HST hS0 t1 t2 g0 g1 g2 g3
          have r6 := hR.1
          have S6 := hide hR.2
          have f6 := frozen_of r6 0
          clear hR r6
          go_wp2_with fail
          go_roundw
          case rel => exact ⟨k + 1, c0, c1, L', L1, a', cap', a1, cap1, by omega, by go_num, hide (by rw [← HLN'.out, ← HN1.out]; exact S6.out)⟩
          case measure => rw [wk]; simp [intOf]; omega
        · go_wp2_with fail
          obtain ⟨bo, hbo⟩ : ∃ bo, bo = wr.heap.size := ⟨_, rfl⟩
          rw [← hbo] at HK1 g0 g1 g2 g3 ⊢
          clear hbo
          obtain ⟨n0, hn0⟩ : ∃ n0, n0 = L0.length := ⟨_, rfl⟩
          obtain ⟨n1, hn1⟩ : ∃ n1, n1 = L1.length := ⟨_, rfl⟩
          rw [← hn0, ← hn1] at S1
          have HN0 := hide hn0
          have HN1 := hide hn1
          clear hn0 hn1
          obtain ⟨L', hL'⟩ : ∃ L', L' = stL kk n s L1 := ⟨_, rfl⟩
          have HL' := hide hL'
          clear hL'
          obtain ⟨ln, hln⟩ : ∃ ln, ln = L'.length := ⟨_, rfl⟩
          have HLN' := hide hln
          clear hln
          have HST : Hid (∀ W, (SS w bx br c0 c1 k L0 L1 (.slice a0 n0 cap0) (.slice a1 n1 cap1) W ∧ W.heap[bo]? = some (.cells #[.int .i64 on, .int .i64 kd, .int .i64 n, .string ⟨s.toArray⟩] 29 (0, 0))) → Calls Tryd.prog 8 #[.pointer (some ⟨c1, 0, none⟩), .slice a1 n1 cap1, .agg #[.int .i64 on, .int .i64 kd, .int .i64 n, .string ⟨s.toArray⟩], .int .i64 kk] W fun en w' => ∃ a' cap', en = .returned (.tuple #[.slice a' ln cap', .bool true]) ∧ (w'.heap[br]? = some (.cells #[.slice a0 n0 cap0, .slice a1 n1 cap1] 27 (0, 0)) ∧ SS w bx br c0 c1 (k + 1) L0 L' (.slice a0 n0 cap0) (.slice a' ln cap') (w'.setCell ⟨br, 1, none⟩ (.slice a' ln cap'))) ∧ w'.cell? ⟨bx, 1, none⟩ = some (.pointer (some ⟨c1, 0, none⟩)) ∧ w'.cell? ⟨br, 1, none⟩ = some (.slice a1 n1 cap1) ∧ w'.cell? ⟨bo, 0, none⟩ = some (.int .i64 on) ∧ w'.cell? ⟨bo, 1, none⟩ = some (.int .i64 kd) ∧ w'.cell? ⟨bo, 2, none⟩ = some (.int .i64 n) ∧ w'.cell? ⟨bo, 3, none⟩ = some (.string ⟨s.toArray⟩)) := hide (fun W h => by
            have h0 := h.1.p1
            rw [HN1.out] at h0
            have hq := step_any kk on kd n HK0.out HK6.out s c1 k L1 a1 cap1 w W h0 (by have := HLN.out; omega) HMN.out HE
            rw [← HN1.out, ← HL'.out] at hq
            refine hq.mono ?_
            rintro e w' ⟨a', cap', rfl, hcr, hf⟩
            have h6 := h.1.on1 hcr hf
            rw [← HLN'.out] at h6 ⊢
            have x6 := hf.blk h.1.p1.ch h.1.xa (by decide) (by decide)
            have o6 := hf.blk h.1.p1.ch h.2 (by decide) (by decide)
            exact ⟨a', cap', rfl, h6, by rw [cell_of_row w' bx 1 _ _ _ x6]; rfl, by rw [cell_of_row w' br 1 _ _ _ h6.1]; rfl, by rw [cell_of_row w' bo 0 _ _ _ o6]; rfl, by rw [cell_of_row w' bo 1 _ _ _ o6]; rfl, by rw [cell_of_row w' bo 2 _ _ _ o6]; rfl, by rw [cell_of_row w' bo 3 _ _ _ o6]; rfl⟩)
          have hS0 : SS w bx br c0 c1 k L0 L1 (.slice a0 n0 cap0) (.slice a1 n1 cap1) W1.drew ∧ W1.drew.heap[bo]? = some (.cells #[.int .i64 on, .int .i64 kd, .int .i64 n, .string ⟨s.toArray⟩] 29 (0, 0)) := ⟨S1.out.later ((Below.refl _ _).drew), HK1.out⟩
          have t1 := S1.out.x1
          have t2 := S1.out.r1
          clear S1
          go_region_held3 (fun W => W.cell? ⟨bx, 1, none⟩ = some (.pointer (some ⟨c1, 0, none⟩)) ∧ W.cell? ⟨br, 1, none⟩ = some (.slice a1 n1 cap1) ∧ W.cell? ⟨bo, 0, none⟩ = some (.int .i64 on) ∧ W.cell? ⟨bo, 1, none⟩ = some (.int .i64 kd) ∧ W.cell? ⟨bo, 2, none⟩ = some (.int .i64 n) ∧ W.cell? ⟨bo, 3, none⟩ = some (.string ⟨s.toArray⟩)) (go_keep) ((first
            | (go_at_call 8; refine (HST.out _ ?_).mono ?_; assumption; rintro e w' ⟨a', cap', rfl, hR, hx1, hx2, hx3, hx4, hx5, hx6⟩)))
          clear HST hS0 t1 t2 g0 g1 g2 g3
          have r6 := hR.1
          have S6 := hide hR.2
          have f6 := frozen_of r6 1
          clear hR r6
          go_wp2_with fail
          go_roundw
          case rel => exact ⟨k + 1, c0, c1, L0, L', a0, cap0, a', cap', by omega, by go_num, hide (by rw [← HLN'.out, ← HN0.out]; exact S6.out)⟩
          case measure => rw [wk]; simp [intOf]; omega
    · have e : k = ps.length := by omega
      subst e
      have HL0 : Hid (L0.length ≤ 5864062014804) := hide (by have := SR.out.p0.lk.len; have := HLN.out; omega)
      have HL1 : Hid (L1.length ≤ 5864062014804) := hide (by have := SR.out.p1.lk.len; have := HLN.out; omega)
      obtain ⟨n0, hn0⟩ : ∃ n0, n0 = L0.length := ⟨_, rfl⟩
      obtain ⟨n1, hn1⟩ : ∃ n1, n1 = L1.length := ⟨_, rfl⟩
      rw [← hn0, ← hn1] at SR
      have HN0 := hide hn0
      have HN1 := hide hn1
      clear hn0 hn1
      obtain ⟨KK, hKK⟩ : ∃ KK, KK = ps.length := ⟨_, rfl⟩
      have SR' := SR.out
      rw [← hKK] at SR'
      clear SR
      have A0 : Hid (∀ W, SS w bx br c0 c1 KK L0 L1 (.slice a0 n0 cap0) (.slice a1 n1 cap1) W → Calls Tryd.prog 10 #[.pointer (some ⟨c0, 0, none⟩), .int .i64 (n0 : Int)] W fun en w' => ∃ a cp, en = .returned (.slice a n0 cp) ∧ RV w' (.slice a n0 cp) L0 ∧ SS w bx br c0 c1 KK L0 L1 (.slice a0 n0 cap0) (.slice a1 n1 cap1) w' ∧ w'.cell? ⟨bx, 0, none⟩ = some (.pointer (some ⟨c0, 0, none⟩)) ∧ w'.cell? ⟨bx, 1, none⟩ = some (.pointer (some ⟨c1, 0, none⟩)) ∧ w'.cell? ⟨br, 0, none⟩ = some (.slice a0 n0 cap0) ∧ w'.cell? ⟨br, 1, none⟩ = some (.slice a1 n1 cap1)) := hide (fun W h => by
        refine (allr_any c0 c0 L0 (n0 : Int) W h.p0.ch h.p0.lk.ris h.p0.lk.pos HL0.out (by have := HN0.out; omega)).mono ?_
        rintro e w' ⟨v, rfl, ho, hb⟩
        obtain ⟨a, cp, rfl⟩ := ho.slc
        have hr := ho.rv
        have h' := h.later hb
        rw [← HN0.out] at hr ⊢
        exact ⟨a, cp, rfl, hr, h', h'.x0, h'.x1, h'.r0, h'.r1⟩)
      have A1 : Hid (∀ W, SS w bx br c0 c1 KK L0 L1 (.slice a0 n0 cap0) (.slice a1 n1 cap1) W → Calls Tryd.prog 10 #[.pointer (some ⟨c1, 0, none⟩), .int .i64 (n1 : Int)] W fun en w' => ∃ a cp, en = .returned (.slice a n1 cp) ∧ RV w' (.slice a n1 cp) L1 ∧ SS w bx br c0 c1 KK L0 L1 (.slice a0 n0 cap0) (.slice a1 n1 cap1) w' ∧ w'.cell? ⟨bx, 0, none⟩ = some (.pointer (some ⟨c0, 0, none⟩)) ∧ w'.cell? ⟨bx, 1, none⟩ = some (.pointer (some ⟨c1, 0, none⟩)) ∧ w'.cell? ⟨br, 0, none⟩ = some (.slice a0 n0 cap0) ∧ w'.cell? ⟨br, 1, none⟩ = some (.slice a1 n1 cap1)) := hide (fun W h => by
        refine (allr_any c1 c1 L1 (n1 : Int) W h.p1.ch h.p1.lk.ris h.p1.lk.pos HL1.out (by have := HN1.out; omega)).mono ?_
        rintro e w' ⟨v, rfl, ho, hb⟩
        obtain ⟨a, cp, rfl⟩ := ho.slc
        have hr := ho.rv
        have h' := h.later hb
        rw [← HN1.out] at hr ⊢
        exact ⟨a, cp, rfl, hr, h', h'.x0, h'.x1, h'.r0, h'.r1⟩)
      have E0 : Hid (∀ W a cp, SS w bx br c0 c1 KK L0 L1 (.slice a0 n0 cap0) (.slice a1 n1 cap1) W → RV W (.slice a n0 cp) L0 → Calls Tryd.prog 9 #[.slice a n0 cp, .slice a0 n0 cap0] W fun en w' => en = .returned (.bool true) ∧ SS w bx br c0 c1 KK L0 L1 (.slice a0 n0 cap0) (.slice a1 n1 cap1) w' ∧ w'.cell? ⟨bx, 0, none⟩ = some (.pointer (some ⟨c0, 0, none⟩)) ∧ w'.cell? ⟨bx, 1, none⟩ = some (.pointer (some ⟨c1, 0, none⟩)) ∧ w'.cell? ⟨br, 0, none⟩ = some (.slice a0 n0 cap0) ∧ w'.cell? ⟨br, 1, none⟩ = some (.slice a1 n1 cap1)) := hide (fun W a cp h hr => by
        refine (same_any _ _ L0 W hr h.p0.row.rv (by have := HL0.out; omega)).mono ?_
        rintro e w' ⟨rfl, hb⟩
        have h' := h.later hb
        exact ⟨rfl, h', h'.x0, h'.x1, h'.r0, h'.r1⟩)
      have E1 : Hid (∀ W a cp, SS w bx br c0 c1 KK L0 L1 (.slice a0 n0 cap0) (.slice a1 n1 cap1) W → RV W (.slice a n1 cp) L1 → Calls Tryd.prog 9 #[.slice a n1 cp, .slice a1 n1 cap1] W fun en w' => en = .returned (.bool true) ∧ SS w bx br c0 c1 KK L0 L1 (.slice a0 n0 cap0) (.slice a1 n1 cap1) w' ∧ w'.cell? ⟨bx, 0, none⟩ = some (.pointer (some ⟨c0, 0, none⟩)) ∧ w'.cell? ⟨bx, 1, none⟩ = some (.pointer (some ⟨c1, 0, none⟩)) ∧ w'.cell? ⟨br, 0, none⟩ = some (.slice a0 n0 cap0) ∧ w'.cell? ⟨br, 1, none⟩ = some (.slice a1 n1 cap1)) := hide (fun W a cp h hr => by
        refine (same_any _ _ L1 W hr h.p1.row.rv (by have := HL1.out; omega)).mono ?_
        rintro e w' ⟨rfl, hb⟩
        have h' := h.later hb
        exact ⟨rfl, h', h'.x0, h'.x1, h'.r0, h'.r1⟩)
      have N0 : Hid (∀ W, SS w bx br c0 c1 KK L0 L1 (.slice a0 n0 cap0) (.slice a1 n1 cap1) W → Calls Tryd.prog 11 #[.pointer (some ⟨c0, 0, none⟩)] W fun en w' => en = .returned (.int .i64 (n0 : Int)) ∧ SS w bx br c0 c1 KK L0 L1 (.slice a0 n0 cap0) (.slice a1 n1 cap1) w' ∧ w'.cell? ⟨bx, 0, none⟩ = some (.pointer (some ⟨c0, 0, none⟩)) ∧ w'.cell? ⟨bx, 1, none⟩ = some (.pointer (some ⟨c1, 0, none⟩)) ∧ w'.cell? ⟨br, 0, none⟩ = some (.slice a0 n0 cap0) ∧ w'.cell? ⟨br, 1, none⟩ = some (.slice a1 n1 cap1)) := hide (fun W h => by
        refine (len_any c0 c0 L0 W h.p0.ch).mono ?_
        rintro e w' ⟨rfl, hb⟩
        have h' := h.later hb
        exact ⟨by rw [HN0.out], h', h'.x0, h'.x1, h'.r0, h'.r1⟩)
      have N1 : Hid (∀ W, SS w bx br c0 c1 KK L0 L1 (.slice a0 n0 cap0) (.slice a1 n1 cap1) W → Calls Tryd.prog 11 #[.pointer (some ⟨c1, 0, none⟩)] W fun en w' => en = .returned (.int .i64 (n1 : Int)) ∧ SS w bx br c0 c1 KK L0 L1 (.slice a0 n0 cap0) (.slice a1 n1 cap1) w' ∧ w'.cell? ⟨bx, 0, none⟩ = some (.pointer (some ⟨c0, 0, none⟩)) ∧ w'.cell? ⟨bx, 1, none⟩ = some (.pointer (some ⟨c1, 0, none⟩)) ∧ w'.cell? ⟨br, 0, none⟩ = some (.slice a0 n0 cap0) ∧ w'.cell? ⟨br, 1, none⟩ = some (.slice a1 n1 cap1)) := hide (fun W h => by
        refine (len_any c1 c1 L1 W h.p1.ch).mono ?_
        rintro e w' ⟨rfl, hb⟩
        have h' := h.later hb
        exact ⟨by rw [HN1.out], h', h'.x0, h'.x1, h'.r0, h'.r1⟩)
      have hS0 := SR'.later ((Below.refl _ _).drew)
      have t1 := SR'.x0
      have t2 := SR'.x1
      have t3 := SR'.r0
      have t4 := SR'.r1
      have m1 : ((n0 : Int) == (n0 : Int)) = true := by simp
      have m2 : ((n1 : Int) == (n1 : Int)) = true := by simp
      clear SR' hKK
      go_wp2_with fail
      go_region_held3 (fun W => W.cell? ⟨bx, 0, none⟩ = some (.pointer (some ⟨c0, 0, none⟩)) ∧ W.cell? ⟨bx, 1, none⟩ = some (.pointer (some ⟨c1, 0, none⟩)) ∧ W.cell? ⟨br, 0, none⟩ = some (.slice a0 n0 cap0) ∧ W.cell? ⟨br, 1, none⟩ = some (.slice a1 n1 cap1)) (go_keep) ((first
        | (go_at_call_of 10 c0; refine (A0.out _ ?_).mono ?_; assumption; rintro e w' ⟨ra, rc, rfl, hRV, hT, hx1, hx2, hx3, hx4⟩)
        | (go_at_call_of 10 c1; refine (A1.out _ ?_).mono ?_; assumption; rintro e w' ⟨ra, rc, rfl, hRV, hT, hx1, hx2, hx3, hx4⟩)
        | (go_at_call_of 9 cap0; refine (E0.out _ _ _ ?_ ?_).mono ?_; assumption; assumption; rintro e w' ⟨rfl, hT, hx1, hx2, hx3, hx4⟩)
        | (go_at_call_of 9 cap1; refine (E1.out _ _ _ ?_ ?_).mono ?_; assumption; assumption; rintro e w' ⟨rfl, hT, hx1, hx2, hx3, hx4⟩)
        | (go_at_call_of 11 c0; refine (N0.out _ ?_).mono ?_; assumption; rintro e w' ⟨rfl, hT, hx1, hx2, hx3, hx4⟩)
        | (go_at_call_of 11 c1; refine (N1.out _ ?_).mono ?_; assumption; rintro e w' ⟨rfl, hT, hx1, hx2, hx3, hx4⟩)))
      clear A0 A1 E0 E1 N0 N1 hS0 t1 t2 t3 t4 m1 m2
      go_wp2_with fail
      go_ret
      exact ⟨rfl, SS.lowS (bx := bx) (br := br) (c0 := c0) (c1 := c1) (k := KK) (L0 := L0) (L1 := L1) (v0 := .slice a0 n0 cap0) (v1 := .slice a1 n1 cap1) (by assumption)⟩
end Go.Proofs.YtechjcmolccdjaaDoor
