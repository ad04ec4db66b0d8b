/-
  My own text: QIS, LW1 in one.
-/
import Derived.Test.YtcdhblfefpkjgaaDoorLK1
import Derived.Test.YtcdhblfefpkjgaaDoorLV6
namespace Go.Proofs.YtcdhblfefpkjgaaDoor.IN
open Go.RowKit

theorem take_step {A B : List Int} {k : Nat} {p : Int} (h : A.take k = B.take k) (ha : A[k]? = some p) (hb : B[k]? = some p) : A.take (k + 1) = B.take (k + 1) := by
  rw [List.take_add_one, List.take_add_one, h, ha, hb]
theorem take_ne {A B : List Int} {k : Nat} {p q : Int} (ha : A[k]? = some p) (hb : B[k]? = some q) (h : ¬ p = q) : ¬ A = B := fun e => by
  rw [e, hb] at ha; exact h (Option.some.inj ha).symm
set_option maxRecDepth 100000 in
set_option maxHeartbeats 2000000 in
theorem sameM_any (va vb : Value) (A B : List Int) (w : World) (ha : RM w va A) (hb : RM w vb B) (hl : A.length ≤ 4611686018427387904) (hl2 : B.length ≤ 4611686018427387904) :
    Calls Tryd.prog 16 #[va, vb] w fun e w' => e = .returned (.bool (decide (A = B))) ∧ Below w.heap.size w w' := by
  obtain ⟨ga, aa, ca, rfl, _, hca⟩ := ha
  obtain ⟨gb, ab, cb, rfl, _, hcb⟩ := hb
  have HA := hide hca
  have HB := hide hcb
  have HL := hide (And.intro hl hl2)
  clear hca hcb hl hl2
  by_cases hln : A.length = B.length
  · have hne : ((A.length : Int) != (B.length : Int)) = false := by rw [bne_eq_false_iff_eq, hln]
    obtain ⟨R, HR⟩ : ∃ R : Bool, Hid (decide (A = B) = R) := ⟨_, hide rfl⟩
    rw [HR.out]
    have HLN := hide hln
    rw [← hln]
    rw [← hln] at hne
    clear hln
    go_enter Tryd.func16, Tryd.ntmps16
    go_wp2_with fail
    go_loopw [5] (fun i wr => ∃ k : Nat, k ≤ A.length ∧ i = .int .i64 (k : Int) ∧ Hid (A.take k = B.take k) ∧ Hid (Below w.heap.size w wr)) (fun i _ => A.length - (intOf i).toNat)
    case atStart => exact ⟨0, Nat.zero_le _, rfl, hide (by rw [List.take_zero, List.take_zero]), hide (Below.refl _ _)⟩
    case round =>
      obtain ⟨k, hk, rfl, HT, HW⟩ := hrel
      by_cases hlt : k < A.length
      · obtain ⟨N0, hp⟩ : ∃ p, A[k]? = some p := ⟨_, List.getElem?_eq_getElem hlt⟩
        obtain ⟨M0, hp2⟩ : ∃ p, B[k]? = some p := ⟨_, List.getElem?_eq_getElem (by have := HLN.out; omega)⟩
        obtain ⟨off, rfl, hgl, hc⟩ := HA.out.resolve_left (fun h => by rw [h] at hlt; simp at hlt)
        obtain ⟨off', rfl, hgl', hc'⟩ := HB.out.resolve_left (fun h => by rw [h] at hp2; simp at hp2)
        have z0 : wr.cell? ⟨ga, off + k, none⟩ = some (.int .i64 N0) := (HW.out.cell (p := ⟨ga, _, none⟩) hgl).trans (hc k _ hp)
        have y0 : wr.cell? ⟨gb, off' + k, none⟩ = some (.int .i64 M0) := (HW.out.cell (p := ⟨gb, _, none⟩) hgl').trans (hc' k _ hp2)
        have hd1 : decide ((k : Int) < (A.length : Int)) = true := by rw [decide_eq_true_eq]; omega
        have k0 : (0 : Int) ≤ (k : Int) := by omega
        have k1 : (k : Int) < (A.length : Int) := by omega
        have wk : wrap64 ((k : Int) + 1) = (k : Int) + 1 := by have := HL.out.1; unfold wrap64; omega
        have HP := hide (And.intro hp hp2)
        clear hp hp2 hc hc'
        cases hE : (N0 == M0) with
        | true =>
          have ev : (N0 != M0) = false := by rw [bne, hE]; rfl
          have HT2 := hide (take_step HT.out HP.out.1 (by
            have h1 := HP.out.2
            rw [beq_iff_eq] at hE
            rw [h1, hE]))
          clear hE HP
          go_wp2_with fail
          go_quiet (fail)
          have HW2 := hide (below_dN HW.out nq)
          go_wp2_with fail
          go_roundw
          case rel => exact ⟨k + 1, by omega, by go_num, HT2, HW2⟩
          case measure => first | (rw [wk]; simp [intOf]; omega) | (simp [intOf]; omega)
        | false =>
          have ev : (N0 != M0) = true := by rw [bne, hE]; rfl
          have HF := HR.out
          rw [decide_eq_false (take_ne HP.out.1 HP.out.2 (fun e => by
            rw [e] at hE
            simp at hE))] at HF
          subst HF
          clear hE HP
          go_wp2_with fail
          go_quiet (fail)
          have HW2 := hide (below_dN HW.out nq)
          go_wp2_with fail
          go_ret
          exact ⟨rfl, HW2.out⟩
      · have e : k = A.length := by omega
        subst e
        have HF := HR.out
        rw [decide_eq_true (by have h1 := HT.out; rw [List.take_length, HLN.out, List.take_length] at h1; exact h1)] at HF
        subst HF
        go_wp2_with fail
        go_ret
        exact ⟨rfl, HW.out⟩
  · have hne : ((A.length : Int) != (B.length : Int)) = true := by rw [bne_iff_ne]; omega
    rw [decide_eq_false (fun e => hln (by rw [e]))]
    have hne2 : ¬ (A.length : Int) = (B.length : Int) := by omega
    go_enter Tryd.func16, Tryd.ntmps16
    go_wp2_with fail
    go_ret
    exact ⟨rfl, Below.refl _ _⟩
end Go.Proofs.YtcdhblfefpkjgaaDoor.IN
namespace Go.Proofs.YtcdhblfefpkjgaaDoor
open Go.RowKit

theorem rm_blk2 {w : World} {b : Nat} {x y : Int} {t : TypeId} (h : w.heap[b]? = some (.cells #[.int .i64 x, .int .i64 y] t (0, 0))) : TW.RM w (.slice (some ⟨b, 0, none⟩) 1 1) [(x, y)] := by
  refine ⟨_, 1, rfl, Nat.le_refl _, .inr ⟨b, 0, rfl, (Array.getElem?_eq_some_iff.1 h).1, fun j p hj => ?_⟩⟩
  match j, hj with
  | 0, hj => simp at hj; subst hj; exact TW.cellsA h rfl
theorem in_blk {w : World} {b : Nat} {cs : Array Value} {l : List Int} {t : TypeId} (h : w.heap[b]? = some (.cells cs t (0, 0))) (e : cs.toList = IN.mc l) : IN.RM w (.slice (some ⟨b, 0, none⟩) l.length l.length) l := by
  refine ⟨b, _, l.length, rfl, Nat.le_refl _, .inr ⟨0, rfl, (Array.getElem?_eq_some_iff.1 h).1, fun j c hj => ?_⟩⟩
  rw [cell_of_row _ _ _ _ _ _ h, Nat.zero_add, ← Array.getElem?_toList, e]
  exact IN.mc_at hj
/-- What Order answers where nothing is wrong. -/
def ordV (n : Nat) (row : List Nat) (vr : Value) : Value := if row.length = n then .tuple #[vr, .nilIface] else .tuple #[.slice none 0 0, errV 12]
set_option maxRecDepth 100000 in
set_option maxHeartbeats 2000000 in
theorem orderOk_any (n : Nat) (v p : Value) (L : List (Int × Int)) (pr : Nat → Int) (w : World) (hv : TW.RM w v L) (hl : L.length ≤ 8796093022200) (hn : n ≤ 4096) (hall : ∀ (j : Nat) (p : Int × Int), L[j]? = some p → namB n p = true) (hp : PB w p n pr) (hso : SortOk n) :
    Calls Tryd.prog 15 #[.int .i64 (n : Int), v, p] w fun e w' => ∃ (row : List Nat) (vr : Value), e = .returned (ordV n row vr) ∧ IN.OM w' w.heap.size vr (ni row) ∧ Gr' n (pn L) pr row ∧ (∀ y, ¬ Av n (pn L) row y) ∧ Below w.heap.size w w' := by
  have H1 := hide (checkCount_any (n : Int))
  rw [show cntE (n : Int) = 0 by unfold cntE; rw [if_neg (by omega), if_neg (by omega)], errV_zero] at H1
  have H2 := hide (checkPairs_any (n : Int) v L w hv hl)
  rw [show lostV (n : Int) L = .nilIface by unfold lostV; rw [lost_none hall]] at H2
  have H3 := hide (fun W (hb : Below w.heap.size w W) => weave_any n v L W (hv.later hb) hl hn hall)
  have H4 := hide (fun (W0 W : World) (B0 : Nat) (G : Bool → Nat) (V : Bool → Nat → Value) (hW : WV B0 W0 W G n V (XX (pn L))) (hB : B0 ≤ W.heap.size) (hb : Below w.heap.size w W) => order_any B0 W0 n p pr G V (pn L) W hW hB (hp.later hb) hn (by rw [pn_len]; omega) (pn_mem hall) hso)
  obtain ⟨a, cap, rfl⟩ := TW.rm_lt hv
  obtain ⟨pa, pc, rfl, _, _⟩ := hp.is
  clear hv hl hn hall hp hso
  go_enter Tryd.func15, Tryd.ntmps15
  go_wp2_with fail
  refine (H1.out _).mono ?_
  rintro e w1 ⟨rfl, hw⟩
  obtain rfl := hw.symm
  go_wp2_with fail
  refine H2.out.mono ?_
  rintro e w2 ⟨rfl, hb⟩
  have HB := hide hb
  clear hb
  go_wp2_with fail
  refine (H3.out _ HB.out).mono ?_
  rintro e w3 ⟨G, V, rfl, hW⟩
  have HB3 := hide (HB.out.trans (hW.low.mono HB.out.size))
  have H5 := hide (H4.out _ _ _ G V hW hW.low.size HB3.out)
  clear hW
  go_wp2_with fail
  refine H5.out.mono ?_
  rintro e w4 ⟨row, vr, rfl, hO, hG, hA, hb4⟩
  have HO : Hid (IN.OM w4 w.heap.size vr (ni row)) := hide (IN.OM.base hO (fun g hg => by have := (World.ownsRow.lt hO g hg).1; have := HB3.out.size; omega))
  have HG := hide hG
  have HA := hide hA
  have HB4 := hide (HB3.out.trans (hb4.mono HB3.out.size))
  clear hO hG hA hb4 H1 H2 H3 H4 H5
  by_cases hr : row.length = n
  · have hd : decide (row.length = n) = true := decide_eq_true hr
    have HV : Hid (ordV n row vr = .tuple #[vr, .nilIface]) := hide (if_pos hr)
    rw [hd]
    clear hr
    go_wp2_with fail
    go_ret2
    exact ⟨row, vr, by rw [HV.out]; rfl, HO.out, HG.out, HA.out, HB4.out⟩
  · have hd : decide (row.length = n) = false := decide_eq_false hr
    have HV : Hid (ordV n row vr = .tuple #[.slice none 0 0, .iface 57 (.int .i64 12)]) := hide (by unfold ordV; rw [if_neg hr, errV_pos (by omega)])
    rw [hd]
    clear hr
    go_wp2_with fail
    go_ret2
    exact ⟨row, vr, by rw [HV.out]; rfl, HO.out, HG.out, HA.out, HB4.out⟩
/-- The order of the example. -/
def prW : Nat → Int := fun x => if x = 0 then 5 else 1
theorem worksOrd {row : List Nat} (h : Gr' 2 [(1, 0)] prW row) (k : ∀ y, ¬ Av 2 [(1, 0)] row y) : row = [1, 0] := by
  have a1 : Nxt 2 [(1, 0)] prW [] 1 := by
    refine ⟨⟨by omega, by simp, by rfl⟩, fun y hy hne => ?_⟩
    have hy0 : y = 0 := by have := hy.1; omega
    subst hy0
    have := hy.2.2
    exact absurd this (by decide)
  have a2 : Nxt 2 [(1, 0)] prW ([] ++ [1]) 0 := by
    refine ⟨⟨by omega, by simp, by rfl⟩, fun y hy hne => ?_⟩
    have hy1 : y = 1 := by have := hy.1; omega
    subst hy1
    exact absurd hy.2.1 (by simp)
  have a3 : Gr' 2 [(1, 0)] prW ([] ++ [1] ++ [0]) := (Gr'.nil.step a1).step a2
  refine Gr'.uniq h a3 k fun y hy => ?_
  have := hy.1
  have h2 := hy.2.1
  simp at h2
  omega
set_option maxRecDepth 100000 in
set_option maxHeartbeats 2000000 in
theorem works_any (w : World) : Calls Tryd.prog 4 #[] w fun e w' => e = .returned (.bool true) ∧ Below w.heap.size w w' := by
  obtain ⟨w1, hw1⟩ : ∃ x, w.alloc (.cells #[.int .i64 2, .int .i64 1] 46) = x := ⟨_, rfl⟩
  have HB1 : Hid (Below w.heap.size w w1) := hide (by rw [← hw1]; exact (Below.refl _ _).alloc (Nat.le_refl _) _)
  have HG := hide (groupsOk_any 3 _ [(2, 1)] w1 (rm_blk2 (x := 2) (y := 1) (by rw [← hw1]; exact alloc_new w _)) (by decide) (by decide) (fun j p hj => by
    match j, hj with
    | 0, hj => simp at hj; subst hj; decide))
  go_enter Tryd.func4, Tryd.ntmps4
  go_wp2_with fail
  refine HG.out.mono ?_
  rintro e w2 ⟨P, rfl, hP, hV, hb⟩
  have HB2 := hide (HB1.out.trans (hb.mono HB1.out.size))
  have HM2 : Hid (IN.OM w2 w.heap.size (.slice (some ⟨P, 0, none⟩) 3 3) [0, 1, 1]) := hide (hV.om (by have := HB1.out.size; omega) (by decide))
  clear hP hV hb HG hw1 HB1
  obtain ⟨w3, hw3⟩ : ∃ x, w2.alloc (.cells #[.int .i64 1, .int .i64 0] 46) = x := ⟨_, rfl⟩
  obtain ⟨w4, hw4⟩ : ∃ x, w3.alloc (.cells #[.int .i64 5, .int .i64 1] 3) = x := ⟨_, rfl⟩
  have hb3 : Below w2.heap.size w2 w3 := by rw [← hw3]; exact (Below.refl _ _).alloc (Nat.le_refl _) _
  have hb4 : Below w3.heap.size w3 w4 := by rw [← hw4]; exact (Below.refl _ _).alloc (Nat.le_refl _) _
  have HB4 : Hid (Below w.heap.size w w4) := hide ((HB2.out.trans (hb3.mono HB2.out.size)).trans (hb4.mono (Nat.le_trans HB2.out.size hb3.size)))
  have HM4 := hide ((HM2.out.later hb3).later hb4)
  have HP4 : Hid (TW.RM w4 (.slice (some ⟨w2.heap.size, 0, none⟩) 1 1) [(1, 0)]) := hide ((rm_blk2 (x := 1) (y := 0) (by rw [← hw3]; exact alloc_new w2 _)).later hb4)
  have HI4 : Hid (w4.heap[w3.heap.size]? = some (.cells #[.int .i64 5, .int .i64 1] 3 (0, 0))) := hide (by rw [← hw4]; exact alloc_new w3 _)
  have HPB : Hid (PB w4 (.slice (some ⟨w3.heap.size, 0, none⟩) 2 2) 2 prW) := hide ⟨_, _, rfl, Nat.le_refl _, fun x hx => ⟨w3.heap.size, 0, rfl, (Array.getElem?_eq_some_iff.1 HI4.out).1, by
    rw [cell_of_row _ _ _ _ _ _ HI4.out]
    match x, hx with
    | 0, _ => rfl
    | 1, _ => rfl⟩⟩
  have HO := hide (orderOk_any 2 _ _ [(1, 0)] prW w4 HP4.out (by decide) (by decide) (fun j p hj => by
    match j, hj with
    | 0, hj => simp at hj; subst hj; decide) HPB.out (sortFew (by decide)))
  clear hb3 hb4 HM2 HP4 HI4 HPB HB2
  go_wp2_with fail
  refine HO.out.mono ?_
  rintro e w5 ⟨row, vr, rfl, hO, hG, hA, hb5⟩
  have er := worksOrd hG hA
  subst er
  have HB5 := hide (HB4.out.trans (hb5.mono HB4.out.size))
  have HM5 := hide (HM4.out.later hb5)
  have HO5 : Hid (IN.OM w5 w4.heap.size vr [1, 0]) := hide hO
  rw [show ordV 2 [1, 0] vr = .tuple #[vr, .nilIface] from rfl]
  clear hO hG hA hb5 HO hw3 hw4 HB4 HM4
  obtain ⟨w6, hw6⟩ : ∃ x, w5.alloc (.cells #[.int .i64 0, .int .i64 1, .int .i64 1] 3) = x := ⟨_, rfl⟩
  have hb6 : Below w5.heap.size w5 w6 := by rw [← hw6]; exact (Below.refl _ _).alloc (Nat.le_refl _) _
  have HB6 := hide (HB5.out.trans (hb6.mono HB5.out.size))
  have HS1 := hide (IN.sameM_any _ _ [0, 1, 1] [0, 1, 1] w6 (HM5.out.later hb6).rm (in_blk (l := [0, 1, 1]) (by rw [← hw6]; exact alloc_new w5 _) rfl) (by decide) (by decide))
  have HO6 := hide (HO5.out.later hb6)
  rw [decide_eq_true rfl] at HS1
  clear hb6 HM5 HO5 HB5
  go_wp2_with fail
  refine HS1.out.mono ?_
  rintro e w7 ⟨rfl, hb7⟩
  obtain ⟨w8, hw8⟩ : ∃ x, w7.alloc (.cells #[.int .i64 1, .int .i64 0] 3) = x := ⟨_, rfl⟩
  have hb8 : Below w7.heap.size w7 w8 := by rw [← hw8]; exact (Below.refl _ _).alloc (Nat.le_refl _) _
  have HB8 := hide ((HB6.out.trans (hb7.mono HB6.out.size)).trans (hb8.mono (Nat.le_trans HB6.out.size hb7.size)))
  have HS2 := hide (IN.sameM_any _ _ [1, 0] [1, 0] w8 ((HO6.out.later hb7).later hb8).rm (in_blk (l := [1, 0]) (by rw [← hw8]; exact alloc_new w7 _) rfl) (by decide) (by decide))
  rw [decide_eq_true rfl] at HS2
  clear hb7 hb8 HS1 HO6 HB6 hw6
  go_wp2_with fail
  refine HS2.out.mono ?_
  rintro e w9 ⟨rfl, hb9⟩
  have HB9 := hide (HB8.out.trans (hb9.mono HB8.out.size))
  clear hb9 HS2 HB8 hw8
  go_wp2_with fail
  go_ret
  exact ⟨rfl, HB9.out⟩
end Go.Proofs.YtcdhblfefpkjgaaDoor
