/-
  My own text: the law ChainTypes (printed by mkhg3.py).
-/
import Derived.Test.YtechjcmolccdjaaDoorHG2
namespace Go.Proofs.YtechjcmolccdjaaDoor
open Go.RowKit Go.Shelf

def ptJ (n : Int) (k : Nat) (J : List Jt) : List Jt := if lastN (vR J) < n then J ++ [(n, k)] else J
theorem vR_pt (n : Int) (k : Nat) (J : List Jt) : vR (ptJ n k J) = ptL n (tb k) (vR J) := by
  unfold ptJ ptL; split
  · unfold vR; rw [List.map_append]; rfl
  · rfl
theorem vA_pt (n : Int) (k : Nat) (J : List Jt) : vA (ptJ n k J) = if CI.lastN (vA J) < n then vA J ++ [(n, (k : Int))] else vA J := by
  rw [last_A]; unfold ptJ; split
  · unfold vA; rw [List.map_append]; rfl
  · rfl
theorem vT_pt (ps : List Oq) (n : Int) (k : Nat) (J : List Jt) : vT ps (ptJ n k J) = if CT.lastN (vT ps J) < n then vT ps J ++ [(n, th ps k)] else vT ps J := by
  rw [last_T]; unfold ptJ; split
  · unfold vT; rw [List.map_append]; rfl
  · rfl
theorem ptJ_fit {n : Int} {k : Nat} {J : List Jt} (h : ∀ p ∈ J, p.2 < k) : ∀ p ∈ ptJ n k J, p.2 < k + 1 := fun p hp => by
  unfold ptJ at hp
  split at hp
  · rcases List.mem_append.1 hp with q | q
    · have := h p q; omega
    · rw [List.mem_singleton.1 q]; exact Nat.lt_succ_self _
  · have := h p hp; omega
theorem vR_dr (J : List Jt) (m : Nat) : vR (J.drop m) = (vR J).drop m := List.map_drop ..
theorem vA_dr (J : List Jt) (m : Nat) : vA (J.drop m) = (vA J).drop m := List.map_drop ..
theorem vT_dr (ps : List Oq) (J : List Jt) (m : Nat) : vT ps (J.drop m) = (vT ps J).drop m := List.map_drop ..
theorem putA (n : Int) (k ca : Nat) (J : List Jt) (w : World) (h : CI.CH w ca ca (vA J)) (hk : LK (vR J) k) (hl : k ≤ 5864062014804) :
    Calls Tryd.prog 16 #[.pointer (some ⟨ca, 0, none⟩), .int .i64 n, .int .i64 (k : Int)] w fun e w' => e = .returned (errV (ptE n (vR J))) ∧ CI.CH w' ca ca (vA (ptJ n k J)) ∧ CI.Fr w w' ca := by
  have := CI.put_any n (k : Int) ca ca k (vA J) w h (LK_A hk) hl
  rw [← vA_pt, last_A] at this
  exact this
theorem putB (ps : List Oq) (n on N0 K0 : Int) (k cb : Nat) (J : List Jt) (w : World) (h : CT.CH w cb cb (vT ps J)) (hk : LK (vR J) k) (hl : k ≤ 5864062014804) (ht : th ps k = (on, N0, K0)) :
    Calls Tryd.prog 17 #[.pointer (some ⟨cb, 0, none⟩), .int .i64 n, .agg #[.int .i64 on, .int .u8 N0, .int .u8 K0]] w fun e w' => e = .returned (errV (ptE n (vR J))) ∧ CT.CH w' cb cb (vT ps (ptJ n k J)) ∧ CT.Fr w w' cb := by
  have := CT.put_any n (on, N0, K0) cb cb k (vT ps J) w h (LK_T hk) hl
  rw [← ht, ← vT_pt, last_T, ht] at this
  exact this
theorem pruneA (n : Int) (k ca : Nat) (J : List Jt) (w : World) (h : CI.CH w ca ca (vA J)) (hk : LK (vR J) k) (hl : k ≤ 5864062014804) :
    Calls Tryd.prog 20 #[.pointer (some ⟨ca, 0, none⟩), .int .i64 n] w fun e w' => e = .returned (.int .i64 ((ab n (vR J) - 1 : Nat) : Int)) ∧ CI.CH w' ca ca (vA (J.drop (ab n (vR J) - 1))) ∧ CI.Fr w w' ca := by
  have := CI.prune_any n ca ca k (vA J) w h (LK_A hk) hl
  rw [ab_A, ← vA_dr] at this
  exact this
theorem pruneB (ps : List Oq) (n : Int) (k cb : Nat) (J : List Jt) (w : World) (h : CT.CH w cb cb (vT ps J)) (hk : LK (vR J) k) (hl : k ≤ 5864062014804) :
    Calls Tryd.prog 21 #[.pointer (some ⟨cb, 0, none⟩), .int .i64 n] w fun e w' => e = .returned (.int .i64 ((ab n (vR J) - 1 : Nat) : Int)) ∧ CT.CH w' cb cb (vT ps (J.drop (ab n (vR J) - 1))) ∧ CT.Fr w w' cb := by
  have := CT.prune_any n cb cb k (vT ps J) w h (LK_T hk) hl
  rw [ab_T, ← vT_dr] at this
  exact this
theorem YS.up {w0 W : World} {ca cb k : Nat} {ps : List Oq} {J : List Jt} {v : Value} (h : YS w0 ca cb k ps J v W) : YS w0 ca cb (k + 1) ps J v W :=
  ⟨h.a, h.b, h.row, h.lk.up, h.low, h.na, h.nb, fun p hp => Nat.lt_succ_of_lt (h.fit p hp)⟩
/-- A call of both chains. -/
theorem YS.step {w0 W W3 W4 : World} {ca cb k : Nat} {ps : List Oq} {J J' : List Jt} {v v' : Value} (h : YS w0 ca cb k ps J v W) (hv : OR W w0.heap.size 62 2 v' (vR J').length (vc (vR J')))
    (hA : CI.CH W3 ca ca (vA J')) (fA : CI.Fr W W3 ca) (hB : CT.CH W4 cb cb (vT ps J')) (fB : CT.Fr W3 W4 cb) (lk : LK (vR J') (k + 1)) (fit : ∀ p ∈ J', p.2 < k + 1) : YS w0 ca cb (k + 1) ps J' v' W4 := by
  have hB0 := h.b.frA fA h.a
  have l1 := h.low.trans ((fA.below h.a).mono h.na)
  exact ⟨hA.frB fB hB0, hB, (hv.still (fun _ _ _ hb => fA.blk h.a hb (by decide) (by decide))).still (fun _ _ _ hb => fB.blk hB0 hb (by decide) (by decide)), lk, l1.trans ((fB.below hB0).mono h.nb), h.na, h.nb, fit⟩
theorem tcounts_any (n : Int) (ca cb k : Nat) (ps : List Oq) (J : List Jt) (v sv : Value) (w0 w : World) (h : YS w0 ca cb k ps J v w) (hs : ROp w sv ps) (hk : k ≤ ps.length) (hl : ps.length ≤ 3600000000000) :
    Calls Tryd.prog 22 #[.pointer (some ⟨ca, 0, none⟩), .pointer (some ⟨cb, 0, none⟩), v, sv, .int .i64 n] w fun e w' => e = .returned (.bool true) ∧ Below w.heap.size w w' := by
  rcases Nat.eq_zero_or_pos (ab n (vR J)) with h0 | h0
  · exact tcounts_no n ca cb k ps J v sv w0 w h (by omega) h0
  · obtain ⟨m, hm⟩ : ∃ m, ab n (vR J) = m + 1 := ⟨ab n (vR J) - 1, by omega⟩
    have hlt : m < J.length := by have := ab_le n (vR J); rw [len_R] at this; omega
    obtain ⟨p, hp⟩ : ∃ p, J[m]? = some p := ⟨_, List.getElem?_eq_getElem hlt⟩
    have hf := h.fit p (List.mem_of_getElem? hp)
    obtain ⟨⟨on, kd, N0, s⟩, hq⟩ : ∃ q, ps[p.2]? = some q := ⟨_, List.getElem?_eq_getElem (show p.2 < ps.length by omega)⟩
    exact tcounts_yes n ca cb k m ps J v sv p on kd N0 s w0 w h hs (by omega) hm hp hq
theorem Tryd.sizeThing' : (Tryd.prog.info? 43).map (·.size) = some 3 := by kernel_rfl
set_option maxRecDepth 100000 in
set_option maxHeartbeats 8000000 in
theorem types_any (v : Value) (ps : List Oq) (w : World) (hv : ROp w v ps) (hlen : ps.length ≤ 3600000000000) (hN : ∀ p ∈ ps, p.2.2.1 ≤ 9223372036854775807) (HE : Hid (ErrType w)) :
    Calls Tryd.prog 4 #[v] w fun e w' => e = .returned (.bool true) ∧ Below w.heap.size w w' := by
  have HRO := hide hv
  obtain ⟨pa, pcap, rfl, hpc⟩ := hv
  have HPC := hide hpc
  have HMX := hide hN
  have HLN := hide hlen
  clear hpc hN hlen
  go_enter Tryd.func4, Tryd.ntmps4
  go_wp2_with fail
  refine (CI.new_any w).mono ?_
  rintro e w1 ⟨rfl, hC1, hb1⟩
  have C1 := hide hC1
  have B1 := hide hb1
  clear hC1 hb1
  go_wp2_with fail
  refine (CT.new_any w1).mono ?_
  rintro e w2 ⟨rfl, hC2, hb2⟩
  have Y0 : Hid (YS w w.heap.size w1.heap.size 0 ps [] (.slice none 0 0) w2) := hide ⟨C1.out.later hb2, hC2, OR.nil _ _ _ _, LK.nil, B1.out.trans (hb2.mono B1.out.size), Nat.le_refl _, B1.out.size, fun p hp => by cases hp⟩
  obtain ⟨ca, hca⟩ : ∃ ca, ca = w.heap.size := ⟨_, rfl⟩
  obtain ⟨cb, hcb⟩ : ∃ cb, cb = w1.heap.size := ⟨_, rfl⟩
  have HCA := hide hca
  rw [← hca, ← hcb] at Y0 ⊢
  clear hC2 hb2 C1 B1 hca hcb
  go_wp2_with fail
  go_loopw [5, 6] (fun r i wr => ∃ (k : Nat) (J : List Jt) (a : Option Addr) (cap : Nat), k ≤ ps.length ∧ i = .int .i64 (k : Int) ∧ r = .slice a (vR J).length cap ∧ Hid (YS w ca cb k ps J (.slice a (vR J).length cap) wr)) (fun _ i _ => ps.length - (intOf i).toNat)
  case atStart => exact ⟨0, [], none, 0, Nat.zero_le _, rfl, rfl, Y0⟩
  case round =>
    clear Y0
    obtain ⟨k, J, a, cap, hk, rfl, rfl, YR⟩ := hrel
    by_cases hlt : k < ps.length
    · obtain ⟨⟨on, kd, n, s⟩, hp⟩ : ∃ p, ps[k]? = some p := ⟨_, List.getElem?_eq_getElem hlt⟩
      obtain ⟨g, off, rfl, q1, q2, q3, q4⟩ := HPC.out k _ hp
      have hd1 : decide ((k : Int) < (ps.length : Int)) = true := by rw [decide_eq_true_eq]; omega
      have k0 : (0 : Int) ≤ (k : Int) := by omega
      have k1 : (k : Int) < (ps.length : Int) := by omega
      have z1 := (YR.out.low.cell (World.block_lt_of_cell? _ _ q1)).trans q1
      have z2 := (YR.out.low.cell (World.block_lt_of_cell? _ _ q2)).trans q2
      have z3 := (YR.out.low.cell (World.block_lt_of_cell? _ _ q3)).trans q3
      have z4 := (YR.out.low.cell (World.block_lt_of_cell? _ _ q4)).trans q4
      dsimp only at z1 z2 z3 z4
      have wk : wrap64 ((k : Int) + 1) = (k : Int) + 1 := by have := HLN.out; unfold wrap64; omega
      have HMN : Hid (n ≤ 9223372036854775807) := hide (HMX.out _ (List.mem_of_getElem? hp))
      have HTH : Hid (th ps k = (on, n % 256, kd % 256)) := hide (by unfold th; rw [hp])
      obtain ⟨W1, hW1⟩ : ∃ W1, wr.alloc (.cells #[.int .i64 on, .int .i64 kd, .int .i64 n, .string ⟨s.toArray⟩] 29) = W1 := ⟨_, rfl⟩
      have b1 : Below wr.heap.size wr W1 := by rw [← hW1]; exact (Below.refl _ _).alloc (Nat.le_refl _) _
      have KO1 : Hid (W1.heap[wr.heap.size]? = some (.cells #[.int .i64 on, .int .i64 kd, .int .i64 n, .string ⟨s.toArray⟩] 29 (0, 0))) := hide (by rw [← hW1]; exact alloc_newV wr _)
      have g0 : W1.cell? ⟨wr.heap.size, 0, none⟩ = some (.int .i64 on) := by rw [cell_of_row W1 _ 0 _ _ _ KO1.out]; rfl
      have g1 : W1.cell? ⟨wr.heap.size, 1, none⟩ = some (.int .i64 kd) := by rw [cell_of_row W1 _ 1 _ _ _ KO1.out]; rfl
      have g2 : W1.cell? ⟨wr.heap.size, 2, none⟩ = some (.int .i64 n) := by rw [cell_of_row W1 _ 2 _ _ _ KO1.out]; rfl
      obtain ⟨W2, hW2⟩ : ∃ W2, W1.alloc (.cells #[.int .i64 on, .int .u8 (n % 256), .int .u8 (kd % 256)] 43) = W2 := ⟨_, rfl⟩
      have b2 : Below W1.heap.size W1 W2 := by rw [← hW2]; exact (Below.refl _ _).alloc (Nat.le_refl _) _
      have KV2 : Hid (W2.heap[W1.heap.size]? = some (.cells #[.int .i64 on, .int .u8 (n % 256), .int .u8 (kd % 256)] 43 (0, 0))) := hide (by rw [← hW2]; exact alloc_newV W1 _)
      have KO2 := hide ((b2.block _ (Array.getElem?_eq_some_iff.1 KO1.out).1).trans KO1.out)
      have Y2 := hide ((YR.out.later b1).later b2)
      clear hp q1 q2 q3 q4 YR b1 b2
      go_wp2_with (first
        | (refine wpList_store_row rfl 29 _ _ rfl wr.heap.size #[.int .i64 on, .int .i64 kd, .int .i64 n, .string ⟨s.toArray⟩] rfl rfl _ _ (alloc_newV wr _) Tryd.sizeOp rfl (by simp [Value.oneCell']) ?_; rw [World.setRow_alloc_new])
        | (refine wpList_store_row rfl 43 _ _ rfl W1.heap.size #[.int .i64 on, .int .u8 (n % 256), .int .u8 (kd % 256)] rfl rfl _ _ (alloc_newV W1 _) Tryd.sizeThing' rfl (by simp [Value.oneCell']) ?_; rw [World.setRow_alloc_new]))
      refine (told_any k _).mono ?_
      rintro e w3 ⟨rfl, hb3⟩
      have KO3 := hide ((hb3.block _ (Array.getElem?_eq_some_iff.1 KO2.out).1).trans KO2.out)
      have KV3 := hide ((hb3.block _ (Array.getElem?_eq_some_iff.1 KV2.out).1).trans KV2.out)
      have Y3 := hide (Y2.out.later hb3)
      have h1 : w3.cell? ⟨wr.heap.size, 1, none⟩ = some (.int .i64 kd) := by rw [cell_of_row w3 _ 1 _ _ _ KO3.out]; rfl
      have h2 : w3.cell? ⟨wr.heap.size, 2, none⟩ = some (.int .i64 n) := by rw [cell_of_row w3 _ 2 _ _ _ KO3.out]; rfl
      clear hW1 hW2 KO1 KO2 KV2 Y2 z1 z2 z3 z4 g0 g1 g2 hb3
      obtain ⟨bo, hbo⟩ : ∃ bo, bo = wr.heap.size := ⟨_, rfl⟩
      obtain ⟨bv, hbv⟩ : ∃ bv, bv = W1.heap.size := ⟨_, rfl⟩
      rw [← hbo] at KO3 h1 h2 ⊢
      rw [← hbv] at KV3 ⊢
      clear hbo hbv
      go_wp2_with fail
      refine (pick_any kd 7 _ (by decide) (by decide)).mono ?_
      rintro e wx ⟨rfl, hwx⟩
      obtain rfl := hwx.symm
      clear hwx
      obtain ⟨kk, hkk⟩ : ∃ kk, kk = kd % 7 := ⟨_, rfl⟩
      have hk7 : kk = 0 ∨ kk = 1 ∨ kk = 2 ∨ kk = 3 ∨ kk = 4 ∨ kk = 5 ∨ kk = 6 := by omega
      rw [← hkk]
      clear hkk
      have HLK : Hid (k < 5864062014804) := hide (by have := HLN.out; omega)
      have HTC : Hid (∀ (J' : List Jt) (v' : Value) (W : World), YS w ca cb (k + 1) ps J' v' W → Calls Tryd.prog 22 #[.pointer (some ⟨ca, 0, none⟩), .pointer (some ⟨cb, 0, none⟩), v', .slice (some ⟨g, off, none⟩) ps.length pcap, .int .i64 n] W fun e w' => e = .returned (.bool true) ∧ Below W.heap.size W w') := hide (fun J' v' W hY => tcounts_any n ca cb (k + 1) ps J' v' _ w W hY (HRO.out.later hY.low) (by omega) HLN.out)
      rcases hk7 with rfl | rfl | rfl | rfl | rfl | rfl | rfl
      · obtain ⟨J', hJ'⟩ : ∃ J', J' = ptJ n k J := ⟨_, rfl⟩
        have HJR : Hid (vR J' = ptL n (tb k) (vR J)) := hide (by rw [hJ', vR_pt])
        obtain ⟨er, her⟩ : ∃ er, er = ptE n (vR J) := ⟨_, rfl⟩
        have HER : Hid (0 ≤ er ∧ er ≤ 24) := hide (by rw [her]; unfold ptE; split <;> omega)
        obtain ⟨ev, hev⟩ : ∃ ev, ev = errV er := ⟨_, rfl⟩
        have HLKJ : Hid (LK (vR J') (k + 1)) := hide (by rw [hJ', vR_pt]; exact ptL_LK Y3.out.lk n (tb k) HMN.out)
        have HFT : Hid (∀ p ∈ J', p.2 < k + 1) := hide (by rw [hJ']; exact ptJ_fit Y3.out.fit)
        have HRP : Hid (∀ W : World, YS w ca cb k ps J (.slice a (vR J).length cap) W → Calls Tryd.prog 15 #[.slice a (vR J).length cap, .int .i64 n, .string ⟨(tb k).toArray⟩] W fun e w' => ∃ v', e = .returned (.tuple #[v', .int .i64 er]) ∧ OR w' w.heap.size 62 2 v' (vR J').length (vc (vR J')) ∧ Below W.heap.size W w') := hide (fun W hY => by
          rw [HJR.out, her]
          refine (refPut_any _ (vR J) n (tb k) w.heap.size k W hY.row hY.lk HLK.out hY.low.size).mono ?_
          rintro e w' ⟨v', h1, h2, h3, _⟩
          exact ⟨v', h1, h2, h3⟩)
        have HPA : Hid (∀ W : World, CI.CH W ca ca (vA J) → Calls Tryd.prog 16 #[.pointer (some ⟨ca, 0, none⟩), .int .i64 n, .int .i64 (k : Int)] W fun e w' => e = .returned ev ∧ CI.CH w' ca ca (vA J') ∧ CI.Fr W w' ca) := hide (fun W h => by
          rw [hev, her, hJ']; exact putA n k ca J W h Y3.out.lk (Nat.le_of_lt HLK.out))
        have HPB : Hid (∀ W : World, CT.CH W cb cb (vT ps J) → Calls Tryd.prog 17 #[.pointer (some ⟨cb, 0, none⟩), .int .i64 n, .agg #[.int .i64 on, .int .u8 (n % 256), .int .u8 (kd % 256)]] W fun e w' => e = .returned ev ∧ CT.CH w' cb cb (vT ps J') ∧ CT.Fr W w' cb) := hide (fun W h => by
          rw [hev, her, hJ']; exact putB ps n on (n % 256) (kd % 256) k cb J W h Y3.out.lk (Nat.le_of_lt HLK.out) HTH.out)
        have HPL : Hid (∀ W : World, Below w.heap.size w W → Calls Tryd.prog 18 #[ev, .int .i64 er] W fun e w' => e = .returned (.bool true) ∧ Below W.heap.size W w') := hide (fun W hb => by
          have := plain_errV er er W HER.out.1 HER.out.2 (HE.out.below hb)
          rw [show (er == er) = true by simp, ← hev] at this; exact this)
        clear hJ' her hev
        go_wp2_with fail
        refine (HRP.out _ Y3.out).mono ?_
        rintro e w5 ⟨v5, rfl, ho5, hb5⟩
        obtain ⟨a5, c5, rfl⟩ := ho5.slc
        have O5 := hide ho5
        have Y5 := hide (Y3.out.later hb5)
        have KO5 := hide ((hb5.block _ (Array.getElem?_eq_some_iff.1 KO3.out).1).trans KO3.out)
        have KV5 := hide ((hb5.block _ (Array.getElem?_eq_some_iff.1 KV3.out).1).trans KV3.out)
        have e2 : w5.cell? ⟨bo, 2, none⟩ = some (.int .i64 n) := by rw [cell_of_row w5 _ 2 _ _ _ KO5.out]; rfl
        clear hb5 ho5 h1 h2 KO3 KV3 Y3
        go_wp2_with fail
        refine (HPA.out w5 Y5.out.a).mono ?_
        rintro e w6 ⟨rfl, hc6, hf6⟩
        have C6 := hide hc6
        have F6 := hide hf6
        have KO6 := hide (hf6.blk Y5.out.a KO5.out (by decide) (by decide))
        have KV6 := hide (hf6.blk Y5.out.a KV5.out (by decide) (by decide))
        have D6 := hide (Y5.out.b.frA hf6 Y5.out.a)
        have e2 : w6.cell? ⟨bo, 2, none⟩ = some (.int .i64 n) := by rw [cell_of_row w6 _ 2 _ _ _ KO6.out]; rfl
        have v0 : w6.cell? ⟨bv, 0, none⟩ = some (.int .i64 on) := by rw [cell_of_row w6 _ 0 _ _ _ KV6.out]; rfl
        have v1 : w6.cell? ⟨bv, 1, none⟩ = some (.int .u8 (n % 256)) := by rw [cell_of_row w6 _ 1 _ _ _ KV6.out]; rfl
        have v2 : w6.cell? ⟨bv, 2, none⟩ = some (.int .u8 (kd % 256)) := by rw [cell_of_row w6 _ 2 _ _ _ KV6.out]; rfl
        clear hc6 hf6 KO5 KV5
        go_wp2_with fail
        refine (HPB.out w6 D6.out).mono ?_
        rintro e w7 ⟨rfl, hc7, hf7⟩
        have KO7 := hide (hf7.blk D6.out KO6.out (by decide) (by decide))
        have Y7 : Hid (YS w ca cb (k + 1) ps J' (.slice a5 (vR J').length c5) w7) := hide (Y5.out.step O5.out C6.out F6.out hc7 hf7 HLKJ.out HFT.out)
        clear hc7 hf7 KO6 KV6 e2 v0 v1 v2
        go_wp2_with fail
        refine (HPL.out _ Y7.out.low).mono ?_
        rintro e w8 ⟨rfl, hb8⟩
        have KO8 := hide ((hb8.block _ (Array.getElem?_eq_some_iff.1 KO7.out).1).trans KO7.out)
        have Y8 := hide (Y7.out.later hb8)
        clear hb8
        go_wp2_with fail
        refine (HPL.out _ Y8.out.low).mono ?_
        rintro e wa ⟨rfl, hba⟩
        have KOa := hide ((hba.block _ (Array.getElem?_eq_some_iff.1 KO8.out).1).trans KO8.out)
        have Ya := hide (Y8.out.later hba)
        have e2 : wa.cell? ⟨bo, 2, none⟩ = some (.int .i64 n) := by rw [cell_of_row wa _ 2 _ _ _ KOa.out]; rfl
        clear hba
        go_wp2_with fail
        refine (HTC.out J' _ wa Ya.out).mono ?_
        rintro e w9 ⟨rfl, hb9⟩
        have Y9 := hide (Ya.out.later hb9)
        clear hb9
        go_wp2_with fail
        go_roundw
        case rel => exact ⟨k + 1, J', a5, c5, by omega, by go_num, rfl, Y9⟩
        case measure => rw [wk]; simp [intOf]; omega
      · have Ya := hide Y3.out.up
        go_wp2_with fail
        refine (HTC.out J _ _ Ya.out).mono ?_
        rintro e w9 ⟨rfl, hb9⟩
        have Y9 := hide (Ya.out.later hb9)
        clear hb9
        go_wp2_with fail
        go_roundw
        case rel => exact ⟨k + 1, J, a, cap, by omega, by go_num, rfl, Y9⟩
        case measure => rw [wk]; simp [intOf]; omega
      · have Ya := hide Y3.out.up
        go_wp2_with fail
        refine (HTC.out J _ _ Ya.out).mono ?_
        rintro e w9 ⟨rfl, hb9⟩
        have Y9 := hide (Ya.out.later hb9)
        clear hb9
        go_wp2_with fail
        go_roundw
        case rel => exact ⟨k + 1, J, a, cap, by omega, by go_num, rfl, Y9⟩
        case measure => rw [wk]; simp [intOf]; omega
      · obtain ⟨J', hJ'⟩ : ∃ J', J' = J.drop (ab n (vR J) - 1) := ⟨_, rfl⟩
        have HJR : Hid (vR J' = (vR J).drop (ab n (vR J) - 1)) := hide (by rw [hJ', vR_dr])
        obtain ⟨D, hD⟩ : ∃ D : Nat, D = ab n (vR J) - 1 := ⟨_, rfl⟩
        have HLKJ : Hid (LK (vR J') (k + 1)) := hide (by rw [hJ', vR_dr]; exact (Y3.out.lk.drop _).up)
        have HFT : Hid (∀ p ∈ J', p.2 < k + 1) := hide (by rw [hJ']; exact fun p hp => Nat.lt_succ_of_lt (Y3.out.fit p (List.mem_of_mem_drop hp)))
        have HRP : Hid (∀ W : World, YS w ca cb k ps J (.slice a (vR J).length cap) W → Calls Tryd.prog 19 #[.slice a (vR J).length cap, .int .i64 n] W fun e w' => ∃ v', e = .returned (.tuple #[v', .int .i64 (D : Int)]) ∧ OR w' w.heap.size 62 2 v' (vR J').length (vc (vR J')) ∧ Below W.heap.size W w') := hide (fun W hY => by
          rw [HJR.out, hD]
          refine (refPrune_any _ (vR J) n w.heap.size k W hY.row hY.lk (Nat.le_of_lt HLK.out) hY.low.size).mono ?_
          rintro e w' ⟨v', h1, h2, h3, _⟩
          exact ⟨v', h1, h2, h3⟩)
        have HPA : Hid (∀ W : World, CI.CH W ca ca (vA J) → Calls Tryd.prog 20 #[.pointer (some ⟨ca, 0, none⟩), .int .i64 n] W fun e w' => e = .returned (.int .i64 (D : Int)) ∧ CI.CH w' ca ca (vA J') ∧ CI.Fr W w' ca) := hide (fun W h => by
          rw [hD, hJ']; exact pruneA n k ca J W h Y3.out.lk (Nat.le_of_lt HLK.out))
        have HPB : Hid (∀ W : World, CT.CH W cb cb (vT ps J) → Calls Tryd.prog 21 #[.pointer (some ⟨cb, 0, none⟩), .int .i64 n] W fun e w' => e = .returned (.int .i64 (D : Int)) ∧ CT.CH w' cb cb (vT ps J') ∧ CT.Fr W w' cb) := hide (fun W h => by
          rw [hD, hJ']; exact pruneB ps n k cb J W h Y3.out.lk (Nat.le_of_lt HLK.out))
        clear hJ' hD
        go_wp2_with fail
        refine (HRP.out _ Y3.out).mono ?_
        rintro e w5 ⟨v5, rfl, ho5, hb5⟩
        obtain ⟨a5, c5, rfl⟩ := ho5.slc
        have O5 := hide ho5
        have Y5 := hide (Y3.out.later hb5)
        have KO5 := hide ((hb5.block _ (Array.getElem?_eq_some_iff.1 KO3.out).1).trans KO3.out)
        have e2 : w5.cell? ⟨bo, 2, none⟩ = some (.int .i64 n) := by rw [cell_of_row w5 _ 2 _ _ _ KO5.out]; rfl
        clear hb5 ho5 h1 h2 KO3 KV3 Y3
        go_wp2_with fail
        refine (HPA.out w5 Y5.out.a).mono ?_
        rintro e w6 ⟨rfl, hc6, hf6⟩
        have C6 := hide hc6
        have F6 := hide hf6
        have KO6 := hide (hf6.blk Y5.out.a KO5.out (by decide) (by decide))
        have D6 := hide (Y5.out.b.frA hf6 Y5.out.a)
        have e2 : w6.cell? ⟨bo, 2, none⟩ = some (.int .i64 n) := by rw [cell_of_row w6 _ 2 _ _ _ KO6.out]; rfl
        clear hc6 hf6 KO5
        go_wp2_with fail
        refine (HPB.out w6 D6.out).mono ?_
        rintro e w7 ⟨rfl, hc7, hf7⟩
        have KO7 := hide (hf7.blk D6.out KO6.out (by decide) (by decide))
        have Y7 : Hid (YS w ca cb (k + 1) ps J' (.slice a5 (vR J').length c5) w7) := hide (Y5.out.step O5.out C6.out F6.out hc7 hf7 HLKJ.out HFT.out)
        have e2 : w7.cell? ⟨bo, 2, none⟩ = some (.int .i64 n) := by rw [cell_of_row w7 _ 2 _ _ _ KO7.out]; rfl
        clear hc7 hf7 KO6
        go_wp2_with fail
        refine (HTC.out J' _ w7 Y7.out).mono ?_
        rintro e w9 ⟨rfl, hb9⟩
        have Y9 := hide (Y7.out.later hb9)
        clear hb9
        go_wp2_with fail
        go_roundw
        case rel => exact ⟨k + 1, J', a5, c5, by omega, by go_num, rfl, Y9⟩
        case measure => rw [wk]; simp [intOf]; omega
      · obtain ⟨J', hJ'⟩ : ∃ J', J' = ptJ n k J := ⟨_, rfl⟩
        have HJR : Hid (vR J' = ptL n (tb k) (vR J)) := hide (by rw [hJ', vR_pt])
        obtain ⟨er, her⟩ : ∃ er, er = ptE n (vR J) := ⟨_, rfl⟩
        have HER : Hid (0 ≤ er ∧ er ≤ 24) := hide (by rw [her]; unfold ptE; split <;> omega)
        obtain ⟨ev, hev⟩ : ∃ ev, ev = errV er := ⟨_, rfl⟩
        have HLKJ : Hid (LK (vR J') (k + 1)) := hide (by rw [hJ', vR_pt]; exact ptL_LK Y3.out.lk n (tb k) HMN.out)
        have HFT : Hid (∀ p ∈ J', p.2 < k + 1) := hide (by rw [hJ']; exact ptJ_fit Y3.out.fit)
        have HRP : Hid (∀ W : World, YS w ca cb k ps J (.slice a (vR J).length cap) W → Calls Tryd.prog 15 #[.slice a (vR J).length cap, .int .i64 n, .string ⟨(tb k).toArray⟩] W fun e w' => ∃ v', e = .returned (.tuple #[v', .int .i64 er]) ∧ OR w' w.heap.size 62 2 v' (vR J').length (vc (vR J')) ∧ Below W.heap.size W w') := hide (fun W hY => by
          rw [HJR.out, her]
          refine (refPut_any _ (vR J) n (tb k) w.heap.size k W hY.row hY.lk HLK.out hY.low.size).mono ?_
          rintro e w' ⟨v', h1, h2, h3, _⟩
          exact ⟨v', h1, h2, h3⟩)
        have HPA : Hid (∀ W : World, CI.CH W ca ca (vA J) → Calls Tryd.prog 16 #[.pointer (some ⟨ca, 0, none⟩), .int .i64 n, .int .i64 (k : Int)] W fun e w' => e = .returned ev ∧ CI.CH w' ca ca (vA J') ∧ CI.Fr W w' ca) := hide (fun W h => by
          rw [hev, her, hJ']; exact putA n k ca J W h Y3.out.lk (Nat.le_of_lt HLK.out))
        have HPB : Hid (∀ W : World, CT.CH W cb cb (vT ps J) → Calls Tryd.prog 17 #[.pointer (some ⟨cb, 0, none⟩), .int .i64 n, .agg #[.int .i64 on, .int .u8 (n % 256), .int .u8 (kd % 256)]] W fun e w' => e = .returned ev ∧ CT.CH w' cb cb (vT ps J') ∧ CT.Fr W w' cb) := hide (fun W h => by
          rw [hev, her, hJ']; exact putB ps n on (n % 256) (kd % 256) k cb J W h Y3.out.lk (Nat.le_of_lt HLK.out) HTH.out)
        have HPL : Hid (∀ W : World, Below w.heap.size w W → Calls Tryd.prog 18 #[ev, .int .i64 er] W fun e w' => e = .returned (.bool true) ∧ Below W.heap.size W w') := hide (fun W hb => by
          have := plain_errV er er W HER.out.1 HER.out.2 (HE.out.below hb)
          rw [show (er == er) = true by simp, ← hev] at this; exact this)
        clear hJ' her hev
        go_wp2_with fail
        refine (HRP.out _ Y3.out).mono ?_
        rintro e w5 ⟨v5, rfl, ho5, hb5⟩
        obtain ⟨a5, c5, rfl⟩ := ho5.slc
        have O5 := hide ho5
        have Y5 := hide (Y3.out.later hb5)
        have KO5 := hide ((hb5.block _ (Array.getElem?_eq_some_iff.1 KO3.out).1).trans KO3.out)
        have KV5 := hide ((hb5.block _ (Array.getElem?_eq_some_iff.1 KV3.out).1).trans KV3.out)
        have e2 : w5.cell? ⟨bo, 2, none⟩ = some (.int .i64 n) := by rw [cell_of_row w5 _ 2 _ _ _ KO5.out]; rfl
        clear hb5 ho5 h1 h2 KO3 KV3 Y3
        go_wp2_with fail
        refine (HPA.out w5 Y5.out.a).mono ?_
        rintro e w6 ⟨rfl, hc6, hf6⟩
        have C6 := hide hc6
        have F6 := hide hf6
        have KO6 := hide (hf6.blk Y5.out.a KO5.out (by decide) (by decide))
        have KV6 := hide (hf6.blk Y5.out.a KV5.out (by decide) (by decide))
        have D6 := hide (Y5.out.b.frA hf6 Y5.out.a)
        have e2 : w6.cell? ⟨bo, 2, none⟩ = some (.int .i64 n) := by rw [cell_of_row w6 _ 2 _ _ _ KO6.out]; rfl
        have v0 : w6.cell? ⟨bv, 0, none⟩ = some (.int .i64 on) := by rw [cell_of_row w6 _ 0 _ _ _ KV6.out]; rfl
        have v1 : w6.cell? ⟨bv, 1, none⟩ = some (.int .u8 (n % 256)) := by rw [cell_of_row w6 _ 1 _ _ _ KV6.out]; rfl
        have v2 : w6.cell? ⟨bv, 2, none⟩ = some (.int .u8 (kd % 256)) := by rw [cell_of_row w6 _ 2 _ _ _ KV6.out]; rfl
        clear hc6 hf6 KO5 KV5
        go_wp2_with fail
        refine (HPB.out w6 D6.out).mono ?_
        rintro e w7 ⟨rfl, hc7, hf7⟩
        have KO7 := hide (hf7.blk D6.out KO6.out (by decide) (by decide))
        have Y7 : Hid (YS w ca cb (k + 1) ps J' (.slice a5 (vR J').length c5) w7) := hide (Y5.out.step O5.out C6.out F6.out hc7 hf7 HLKJ.out HFT.out)
        clear hc7 hf7 KO6 KV6 e2 v0 v1 v2
        go_wp2_with fail
        refine (HPL.out _ Y7.out.low).mono ?_
        rintro e w8 ⟨rfl, hb8⟩
        have KO8 := hide ((hb8.block _ (Array.getElem?_eq_some_iff.1 KO7.out).1).trans KO7.out)
        have Y8 := hide (Y7.out.later hb8)
        clear hb8
        go_wp2_with fail
        refine (HPL.out _ Y8.out.low).mono ?_
        rintro e wa ⟨rfl, hba⟩
        have KOa := hide ((hba.block _ (Array.getElem?_eq_some_iff.1 KO8.out).1).trans KO8.out)
        have Ya := hide (Y8.out.later hba)
        have e2 : wa.cell? ⟨bo, 2, none⟩ = some (.int .i64 n) := by rw [cell_of_row wa _ 2 _ _ _ KOa.out]; rfl
        clear hba
        go_wp2_with fail
        refine (HTC.out J' _ wa Ya.out).mono ?_
        rintro e w9 ⟨rfl, hb9⟩
        have Y9 := hide (Ya.out.later hb9)
        clear hb9
        go_wp2_with fail
        go_roundw
        case rel => exact ⟨k + 1, J', a5, c5, by omega, by go_num, rfl, Y9⟩
        case measure => rw [wk]; simp [intOf]; omega
      · obtain ⟨J', hJ'⟩ : ∃ J', J' = ptJ n k J := ⟨_, rfl⟩
        have HJR : Hid (vR J' = ptL n (tb k) (vR J)) := hide (by rw [hJ', vR_pt])
        obtain ⟨er, her⟩ : ∃ er, er = ptE n (vR J) := ⟨_, rfl⟩
        have HER : Hid (0 ≤ er ∧ er ≤ 24) := hide (by rw [her]; unfold ptE; split <;> omega)
        obtain ⟨ev, hev⟩ : ∃ ev, ev = errV er := ⟨_, rfl⟩
        have HLKJ : Hid (LK (vR J') (k + 1)) := hide (by rw [hJ', vR_pt]; exact ptL_LK Y3.out.lk n (tb k) HMN.out)
        have HFT : Hid (∀ p ∈ J', p.2 < k + 1) := hide (by rw [hJ']; exact ptJ_fit Y3.out.fit)
        have HRP : Hid (∀ W : World, YS w ca cb k ps J (.slice a (vR J).length cap) W → Calls Tryd.prog 15 #[.slice a (vR J).length cap, .int .i64 n, .string ⟨(tb k).toArray⟩] W fun e w' => ∃ v', e = .returned (.tuple #[v', .int .i64 er]) ∧ OR w' w.heap.size 62 2 v' (vR J').length (vc (vR J')) ∧ Below W.heap.size W w') := hide (fun W hY => by
          rw [HJR.out, her]
          refine (refPut_any _ (vR J) n (tb k) w.heap.size k W hY.row hY.lk HLK.out hY.low.size).mono ?_
          rintro e w' ⟨v', h1, h2, h3, _⟩
          exact ⟨v', h1, h2, h3⟩)
        have HPA : Hid (∀ W : World, CI.CH W ca ca (vA J) → Calls Tryd.prog 16 #[.pointer (some ⟨ca, 0, none⟩), .int .i64 n, .int .i64 (k : Int)] W fun e w' => e = .returned ev ∧ CI.CH w' ca ca (vA J') ∧ CI.Fr W w' ca) := hide (fun W h => by
          rw [hev, her, hJ']; exact putA n k ca J W h Y3.out.lk (Nat.le_of_lt HLK.out))
        have HPB : Hid (∀ W : World, CT.CH W cb cb (vT ps J) → Calls Tryd.prog 17 #[.pointer (some ⟨cb, 0, none⟩), .int .i64 n, .agg #[.int .i64 on, .int .u8 (n % 256), .int .u8 (kd % 256)]] W fun e w' => e = .returned ev ∧ CT.CH w' cb cb (vT ps J') ∧ CT.Fr W w' cb) := hide (fun W h => by
          rw [hev, her, hJ']; exact putB ps n on (n % 256) (kd % 256) k cb J W h Y3.out.lk (Nat.le_of_lt HLK.out) HTH.out)
        have HPL : Hid (∀ W : World, Below w.heap.size w W → Calls Tryd.prog 18 #[ev, .int .i64 er] W fun e w' => e = .returned (.bool true) ∧ Below W.heap.size W w') := hide (fun W hb => by
          have := plain_errV er er W HER.out.1 HER.out.2 (HE.out.below hb)
          rw [show (er == er) = true by simp, ← hev] at this; exact this)
        clear hJ' her hev
        go_wp2_with fail
        refine (HRP.out _ Y3.out).mono ?_
        rintro e w5 ⟨v5, rfl, ho5, hb5⟩
        obtain ⟨a5, c5, rfl⟩ := ho5.slc
        have O5 := hide ho5
        have Y5 := hide (Y3.out.later hb5)
        have KO5 := hide ((hb5.block _ (Array.getElem?_eq_some_iff.1 KO3.out).1).trans KO3.out)
        have KV5 := hide ((hb5.block _ (Array.getElem?_eq_some_iff.1 KV3.out).1).trans KV3.out)
        have e2 : w5.cell? ⟨bo, 2, none⟩ = some (.int .i64 n) := by rw [cell_of_row w5 _ 2 _ _ _ KO5.out]; rfl
        clear hb5 ho5 h1 h2 KO3 KV3 Y3
        go_wp2_with fail
        refine (HPA.out w5 Y5.out.a).mono ?_
        rintro e w6 ⟨rfl, hc6, hf6⟩
        have C6 := hide hc6
        have F6 := hide hf6
        have KO6 := hide (hf6.blk Y5.out.a KO5.out (by decide) (by decide))
        have KV6 := hide (hf6.blk Y5.out.a KV5.out (by decide) (by decide))
        have D6 := hide (Y5.out.b.frA hf6 Y5.out.a)
        have e2 : w6.cell? ⟨bo, 2, none⟩ = some (.int .i64 n) := by rw [cell_of_row w6 _ 2 _ _ _ KO6.out]; rfl
        have v0 : w6.cell? ⟨bv, 0, none⟩ = some (.int .i64 on) := by rw [cell_of_row w6 _ 0 _ _ _ KV6.out]; rfl
        have v1 : w6.cell? ⟨bv, 1, none⟩ = some (.int .u8 (n % 256)) := by rw [cell_of_row w6 _ 1 _ _ _ KV6.out]; rfl
        have v2 : w6.cell? ⟨bv, 2, none⟩ = some (.int .u8 (kd % 256)) := by rw [cell_of_row w6 _ 2 _ _ _ KV6.out]; rfl
        clear hc6 hf6 KO5 KV5
        go_wp2_with fail
        refine (HPB.out w6 D6.out).mono ?_
        rintro e w7 ⟨rfl, hc7, hf7⟩
        have KO7 := hide (hf7.blk D6.out KO6.out (by decide) (by decide))
        have Y7 : Hid (YS w ca cb (k + 1) ps J' (.slice a5 (vR J').length c5) w7) := hide (Y5.out.step O5.out C6.out F6.out hc7 hf7 HLKJ.out HFT.out)
        clear hc7 hf7 KO6 KV6 e2 v0 v1 v2
        go_wp2_with fail
        refine (HPL.out _ Y7.out.low).mono ?_
        rintro e w8 ⟨rfl, hb8⟩
        have KO8 := hide ((hb8.block _ (Array.getElem?_eq_some_iff.1 KO7.out).1).trans KO7.out)
        have Y8 := hide (Y7.out.later hb8)
        clear hb8
        go_wp2_with fail
        refine (HPL.out _ Y8.out.low).mono ?_
        rintro e wa ⟨rfl, hba⟩
        have KOa := hide ((hba.block _ (Array.getElem?_eq_some_iff.1 KO8.out).1).trans KO8.out)
        have Ya := hide (Y8.out.later hba)
        have e2 : wa.cell? ⟨bo, 2, none⟩ = some (.int .i64 n) := by rw [cell_of_row wa _ 2 _ _ _ KOa.out]; rfl
        clear hba
        go_wp2_with fail
        refine (HTC.out J' _ wa Ya.out).mono ?_
        rintro e w9 ⟨rfl, hb9⟩
        have Y9 := hide (Ya.out.later hb9)
        clear hb9
        go_wp2_with fail
        go_roundw
        case rel => exact ⟨k + 1, J', a5, c5, by omega, by go_num, rfl, Y9⟩
        case measure => rw [wk]; simp [intOf]; omega
      · obtain ⟨J', hJ'⟩ : ∃ J', J' = ptJ n k J := ⟨_, rfl⟩
        have HJR : Hid (vR J' = ptL n (tb k) (vR J)) := hide (by rw [hJ', vR_pt])
        obtain ⟨er, her⟩ : ∃ er, er = ptE n (vR J) := ⟨_, rfl⟩
        have HER : Hid (0 ≤ er ∧ er ≤ 24) := hide (by rw [her]; unfold ptE; split <;> omega)
        obtain ⟨ev, hev⟩ : ∃ ev, ev = errV er := ⟨_, rfl⟩
        have HLKJ : Hid (LK (vR J') (k + 1)) := hide (by rw [hJ', vR_pt]; exact ptL_LK Y3.out.lk n (tb k) HMN.out)
        have HFT : Hid (∀ p ∈ J', p.2 < k + 1) := hide (by rw [hJ']; exact ptJ_fit Y3.out.fit)
        have HRP : Hid (∀ W : World, YS w ca cb k ps J (.slice a (vR J).length cap) W → Calls Tryd.prog 15 #[.slice a (vR J).length cap, .int .i64 n, .string ⟨(tb k).toArray⟩] W fun e w' => ∃ v', e = .returned (.tuple #[v', .int .i64 er]) ∧ OR w' w.heap.size 62 2 v' (vR J').length (vc (vR J')) ∧ Below W.heap.size W w') := hide (fun W hY => by
          rw [HJR.out, her]
          refine (refPut_any _ (vR J) n (tb k) w.heap.size k W hY.row hY.lk HLK.out hY.low.size).mono ?_
          rintro e w' ⟨v', h1, h2, h3, _⟩
          exact ⟨v', h1, h2, h3⟩)
        have HPA : Hid (∀ W : World, CI.CH W ca ca (vA J) → Calls Tryd.prog 16 #[.pointer (some ⟨ca, 0, none⟩), .int .i64 n, .int .i64 (k : Int)] W fun e w' => e = .returned ev ∧ CI.CH w' ca ca (vA J') ∧ CI.Fr W w' ca) := hide (fun W h => by
          rw [hev, her, hJ']; exact putA n k ca J W h Y3.out.lk (Nat.le_of_lt HLK.out))
        have HPB : Hid (∀ W : World, CT.CH W cb cb (vT ps J) → Calls Tryd.prog 17 #[.pointer (some ⟨cb, 0, none⟩), .int .i64 n, .agg #[.int .i64 on, .int .u8 (n % 256), .int .u8 (kd % 256)]] W fun e w' => e = .returned ev ∧ CT.CH w' cb cb (vT ps J') ∧ CT.Fr W w' cb) := hide (fun W h => by
          rw [hev, her, hJ']; exact putB ps n on (n % 256) (kd % 256) k cb J W h Y3.out.lk (Nat.le_of_lt HLK.out) HTH.out)
        have HPL : Hid (∀ W : World, Below w.heap.size w W → Calls Tryd.prog 18 #[ev, .int .i64 er] W fun e w' => e = .returned (.bool true) ∧ Below W.heap.size W w') := hide (fun W hb => by
          have := plain_errV er er W HER.out.1 HER.out.2 (HE.out.below hb)
          rw [show (er == er) = true by simp, ← hev] at this; exact this)
        clear hJ' her hev
        go_wp2_with fail
        refine (HRP.out _ Y3.out).mono ?_
        rintro e w5 ⟨v5, rfl, ho5, hb5⟩
        obtain ⟨a5, c5, rfl⟩ := ho5.slc
        have O5 := hide ho5
        have Y5 := hide (Y3.out.later hb5)
        have KO5 := hide ((hb5.block _ (Array.getElem?_eq_some_iff.1 KO3.out).1).trans KO3.out)
        have KV5 := hide ((hb5.block _ (Array.getElem?_eq_some_iff.1 KV3.out).1).trans KV3.out)
        have e2 : w5.cell? ⟨bo, 2, none⟩ = some (.int .i64 n) := by rw [cell_of_row w5 _ 2 _ _ _ KO5.out]; rfl
        clear hb5 ho5 h1 h2 KO3 KV3 Y3
        go_wp2_with fail
        refine (HPA.out w5 Y5.out.a).mono ?_
        rintro e w6 ⟨rfl, hc6, hf6⟩
        have C6 := hide hc6
        have F6 := hide hf6
        have KO6 := hide (hf6.blk Y5.out.a KO5.out (by decide) (by decide))
        have KV6 := hide (hf6.blk Y5.out.a KV5.out (by decide) (by decide))
        have D6 := hide (Y5.out.b.frA hf6 Y5.out.a)
        have e2 : w6.cell? ⟨bo, 2, none⟩ = some (.int .i64 n) := by rw [cell_of_row w6 _ 2 _ _ _ KO6.out]; rfl
        have v0 : w6.cell? ⟨bv, 0, none⟩ = some (.int .i64 on) := by rw [cell_of_row w6 _ 0 _ _ _ KV6.out]; rfl
        have v1 : w6.cell? ⟨bv, 1, none⟩ = some (.int .u8 (n % 256)) := by rw [cell_of_row w6 _ 1 _ _ _ KV6.out]; rfl
        have v2 : w6.cell? ⟨bv, 2, none⟩ = some (.int .u8 (kd % 256)) := by rw [cell_of_row w6 _ 2 _ _ _ KV6.out]; rfl
        clear hc6 hf6 KO5 KV5
        go_wp2_with fail
        refine (HPB.out w6 D6.out).mono ?_
        rintro e w7 ⟨rfl, hc7, hf7⟩
        have KO7 := hide (hf7.blk D6.out KO6.out (by decide) (by decide))
        have Y7 : Hid (YS w ca cb (k + 1) ps J' (.slice a5 (vR J').length c5) w7) := hide (Y5.out.step O5.out C6.out F6.out hc7 hf7 HLKJ.out HFT.out)
        clear hc7 hf7 KO6 KV6 e2 v0 v1 v2
        go_wp2_with fail
        refine (HPL.out _ Y7.out.low).mono ?_
        rintro e w8 ⟨rfl, hb8⟩
        have KO8 := hide ((hb8.block _ (Array.getElem?_eq_some_iff.1 KO7.out).1).trans KO7.out)
        have Y8 := hide (Y7.out.later hb8)
        clear hb8
        go_wp2_with fail
        refine (HPL.out _ Y8.out.low).mono ?_
        rintro e wa ⟨rfl, hba⟩
        have KOa := hide ((hba.block _ (Array.getElem?_eq_some_iff.1 KO8.out).1).trans KO8.out)
        have Ya := hide (Y8.out.later hba)
        have e2 : wa.cell? ⟨bo, 2, none⟩ = some (.int .i64 n) := by rw [cell_of_row wa _ 2 _ _ _ KOa.out]; rfl
        clear hba
        go_wp2_with fail
        refine (HTC.out J' _ wa Ya.out).mono ?_
        rintro e w9 ⟨rfl, hb9⟩
        have Y9 := hide (Ya.out.later hb9)
        clear hb9
        go_wp2_with fail
        go_roundw
        case rel => exact ⟨k + 1, J', a5, c5, by omega, by go_num, rfl, Y9⟩
        case measure => rw [wk]; simp [intOf]; omega
    · obtain rfl : k = ps.length := by omega
      have hd1 : decide ((ps.length : Int) < (ps.length : Int)) = false := by simp
      have HTC := hide (tcounts_any 9223372036854775807 ca cb ps.length ps J _ _ w wr YR.out (HRO.out.later YR.out.low) (Nat.le_refl _) HLN.out)
      go_wp2_with fail
      refine HTC.out.mono ?_
      rintro e w9 ⟨rfl, hb9⟩
      have B9 := hide (YR.out.later hb9).low
      clear hb9
      go_wp2_with fail
      go_ret
      exact ⟨rfl, B9.out⟩
end Go.Proofs.YtechjcmolccdjaaDoor
