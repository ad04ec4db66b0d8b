/-
  My own text: layer 19: holds.
-/
import Derived.Test.YtblldldaoejoaaaU17
namespace Go.Proofs.Ytblldldaoejoaaa
open Go.RowKit Go.Extern Go.MapKept Go.ChangeMaps

theorem hld_nums {n m : Nat} (h : n < m) (hm : m ≤ 8796093022000) : decide ((n : Int) ≥ (m : Int)) = false ∧ decide ((m : Int) ≤ (n : Int)) = false ∧ (0 : Int) ≤ (n : Int) ∧ (n : Int) < (m : Int) ∧ wrap64 ((n : Int) + 1) = (n : Int) + 1 ∧ decide (m ≤ n) = false ∧ ¬ (m ≤ n) ∧ decide (n < m) = true ∧ ¬ ((m : Int) ≤ (n : Int)) ∧ decide ((n : Int) < (m : Int)) = true :=
  ⟨decide_eq_false (by omega), decide_eq_false (by omega), by omega, by omega, by unfold wrap64; omega, decide_eq_false (by omega), by omega, decide_eq_true (by omega), by omega, decide_eq_true (by omega)⟩
set_option maxRecDepth 100000 in
set_option maxHeartbeats 2000000 in
theorem holds_any (O : Nat → Prop) (q B : Nat) (Z : Qx) (v : Value) (L : List Kn) (w : World) (h : QS O w q Z) (hL : ON w B v L) (hI : Z.A.map (fun x => (Z.T x).id) = L.map (·.id)) (hJ : (Z.A.filter fun x => (Z.T x).st == 0).map (fun x => (Z.T x).id) = (L.filter kid).map (·.id)) :
    Calls Try.prog 17 #[.pointer (some ⟨q, 0, none⟩), v] w fun r w' => r = .returned (.bool true) ∧ Below w.heap.size w w' := by
  have hlen : Z.A.length = L.length := by have := congrArg List.length hI; simpa using this
  have hl : L.length ≤ 8796093022000 := by rw [← hlen]; exact h.ok.o.la
  have HI0 := itemsQ_any O q Z w h
  rw [hI] at HI0
  have HI := hide HI0
  have HJ := hide (fun (W : World) (hb : Below w.heap.size w W) => idleQ_any O q Z W (h.later hb))
  rw [hJ] at HJ
  have HLN := hide (fun (W : World) (hb : Below w.heap.size w W) => lenQ_any O q Z W (h.later hb))
  rw [hlen] at HLN
  have HS := hide hL.slc
  obtain ⟨a, c, rfl⟩ : ∃ a c, v = .slice a L.length c := by
    rcases hL.slc with ⟨rfl, rfl⟩ | ⟨g, cap, rfl, _⟩
    · exact ⟨_, _, rfl⟩
    · exact ⟨_, _, rfl⟩
  have HL := hide hl
  have HJL : Hid ((L.filter kid).length ≤ 8796093022000) := hide (Nat.le_trans (List.length_filter_le _ _) hl)
  clear h hL hI hJ hlen hl HI0
  go_enter Try.func17, Try.ntmps17
  go_wp2_with fail
  refine HI.out.mono ?_
  rintro r w1 ⟨v1, rfl, p1, b1⟩
  have HB1 := hide b1
  have HJ1 := hide (HJ.out w1 b1)
  obtain ⟨a1, c1, hv1⟩ := p1.slc
  have P1 := hide p1
  subst hv1
  clear p1 b1 HI HJ
  rw [List.length_map] at *
  go_wp2_with fail
  refine HJ1.out.mono ?_
  rintro r w2 ⟨v2, rfl, p2, b2⟩
  have HB2 := hide (HB1.out.trans (b2.mono HB1.out.size))
  have HLN2 := hide (HLN.out w2 HB2.out)
  have P12 := hide (P1.out.later b2)
  obtain ⟨a2, c2, hv2⟩ := p2.slc
  rw [List.length_map] at hv2
  have P2 := hide p2
  subst hv2
  have HG1 := hide P12.out.get
  have HG2 := hide p2.get
  rw [List.length_map] at HG1 HG2
  clear p2 b2 HJ1 HLN P1 HB1
  go_wp2_with fail
  refine HLN2.out.mono ?_
  rintro r w3 ⟨rfl, rfl⟩
  clear HLN2
  go_wp2_with fail
  clear P12 P2
  go_loopw [7, 8] (fun n i wr => ∃ k : Nat, k ≤ L.length ∧ n = .int .i64 (((L.take k).filter kid).length : Int) ∧ i = .int .i64 (k : Int) ∧ Hid (Below w3.heap.size w3 wr)) (fun _ i _ => L.length - (intOf i).toNat)
  case atStart => exact ⟨0, Nat.zero_le _, rfl, rfl, hide (Below.refl _ _)⟩
  case round =>
    obtain ⟨k, hk, rfl, rfl, HW⟩ := hrel
    by_cases hlt : k < L.length
    · obtain ⟨p, hp⟩ : ∃ p, L[k]? = some p := ⟨_, List.getElem?_eq_getElem hlt⟩
      rcases HS.out with ⟨_, h0⟩ | ⟨g, cap, hv, _, hgl, _, hc⟩
      · rw [h0] at hlt; simp at hlt
      rcases HG1.out with ⟨_, h0⟩ | ⟨g1, cap1, hv1, hgl1, hc1⟩
      · have := congrArg List.length h0; rw [List.length_map] at this; rw [this] at hlt; simp at hlt
      injection hv with hv1' hv2 hv3
      clear hv2 hv3
      injection hv1 with hw1 hw2 hw3
      clear hw2 hw3
      have hBw := HB2.out.trans (HW.out.mono HB2.out.size)
      obtain ⟨e0, e1, e2, e3⟩ := hc k p hp
      have c0 := (hBw.cell (p := ⟨g, _, none⟩) hgl).trans e0
      have c2 := (hBw.cell (p := ⟨g, _, none⟩) hgl).trans e2
      have c3 := (hBw.cell (p := ⟨g, _, none⟩) hgl).trans e3
      have m0 := (HW.out.cell (p := ⟨g1, _, none⟩) hgl1).trans (hc1 k p.id (by rw [List.getElem?_map, hp]; rfl))
      subst hv1'
      subst hw1
      obtain ⟨hd1, i0', i1, wk⟩ := ix hlt HL.out
      have hpp : (p.id != p.id) = false := by simp
      have HP := hide hp
      clear hc hp hgl e0 e1 e2 e3 hgl1 hc1 hBw
      cases hK : kid p with
      | true =>
        obtain ⟨y1, y2⟩ := cnt_yes HP.out hK
        have hnl := (List.getElem?_eq_some_iff.1 y2).1
        rw [List.length_map] at hnl
        rcases HG2.out with ⟨_, h0⟩ | ⟨g2, cap2, hv2, hgl2, hc2⟩
        · have := congrArg List.length h0; rw [List.length_map] at this; rw [this] at hnl; simp at hnl
        injection hv2 with hw1 hw2 hw3
        clear hw2 hw3
        have m2 := (HW.out.cell (p := ⟨g2, _, none⟩) hgl2).trans (hc2 _ _ y2)
        obtain ⟨s1, s2, s3, s4, s5, s6, s7, s8, s9, s10⟩ := hld_nums hnl HJL.out
        subst hw1
        have hdd : p.d = false := by unfold kid at hK; revert hK; cases p.d <;> simp
        have hoo : p.o = false := by unfold kid at hK; revert hK; cases p.o <;> simp
        rw [hdd] at c2
        rw [hoo] at c3
        have Y1 := hide y1
        obtain ⟨n, hn⟩ : ∃ n, ((L.take k).filter kid).length = n := ⟨_, rfl⟩
        rw [hn] at m2 s1 s2 s3 s4 s5 s6 s7 s8 s9 s10 Y1 ⊢
        clear hK y1 y2 hnl hgl2 hc2 hdd hoo hn
        go_wp2_with fail
        go_quiet (fail)
        have HW2 := hide (below_dN HW.out nq)
        have c0' : (wr.drewN nq).cell? ⟨g, k * 4, none⟩ = some (.int .i64 p.id) := c0
        have c2' : (wr.drewN nq).cell? ⟨g, k * 4 + 2, none⟩ = some (.bool false) := c2
        have c3' : (wr.drewN nq).cell? ⟨g, k * 4 + 3, none⟩ = some (.bool false) := c3
        have m2' : (wr.drewN nq).cell? ⟨g2, n, none⟩ = some (.int .i64 p.id) := m2
        go_wp2_with fail
        go_quiet (fail)
        go_wp2_with fail
        go_roundw
        case rel => exact ⟨k + 1, hlt, congrArg (Value.int .i64) (by rw [Y1.out]; exact s5), congrArg (Value.int .i64) wk, hide (below_dN HW.out _)⟩
        case measure => first | exact meas_up hlt | (rw [wk]; exact meas_up hlt)
      | false =>
        have Y1 := hide (cnt_no HP.out hK)
        obtain ⟨n, hn⟩ : ∃ n, ((L.take k).filter kid).length = n := ⟨_, rfl⟩
        rw [hn] at Y1 ⊢
        clear hn
        cases hdd : p.d with
        | true =>
          rw [hdd] at c2
          clear hK hdd
          go_wp2_with fail
          go_quiet (fail)
          have HW2 := hide (below_dN HW.out nq)
          have c2' : (wr.drewN nq).cell? ⟨g, k * 4 + 2, none⟩ = some (.bool true) := c2
          go_wp2_with fail
          go_roundw
          case rel => exact ⟨k + 1, hlt, congrArg (Value.int .i64) (by rw [Y1.out]), congrArg (Value.int .i64) wk, HW2⟩
          case measure => first | exact meas_up hlt | (rw [wk]; exact meas_up hlt)
        | false =>
          have hoo : p.o = true := by unfold kid at hK; rw [hdd] at hK; revert hK; cases p.o <;> simp
          rw [hdd] at c2
          rw [hoo] at c3
          clear hK hdd hoo
          go_wp2_with fail
          go_quiet (fail)
          have HW2 := hide (below_dN HW.out nq)
          have c2' : (wr.drewN nq).cell? ⟨g, k * 4 + 2, none⟩ = some (.bool false) := c2
          have c3' : (wr.drewN nq).cell? ⟨g, k * 4 + 3, none⟩ = some (.bool true) := c3
          go_wp2_with fail
          go_roundw
          case rel => exact ⟨k + 1, hlt, congrArg (Value.int .i64) (by rw [Y1.out]), congrArg (Value.int .i64) wk, HW2⟩
          case measure => first | exact meas_up hlt | (rw [wk]; exact meas_up hlt)
    · have e : k = L.length := by omega
      subst e
      rw [List.take_length]
      go_wp2_with fail
      go_ret
      exact ⟨rfl, HB2.out.trans (HW.out.mono HB2.out.size)⟩
end Go.Proofs.Ytblldldaoejoaaa
