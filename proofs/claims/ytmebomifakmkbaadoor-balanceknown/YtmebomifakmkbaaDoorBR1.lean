/-
  My own text: the document's Check, Right, Total, Marked, Cover of a position.
-/
import Derived.Test.YtmebomifakmkbaaDoorB6
namespace Go.Proofs.YtmebomifakmkbaaDoor
open Go.RowKit

theorem fits_any (a b : Int) (w : World) (h0 : 0 ≤ a) (h1 : a ≤ top) :
    Calls Tryd.prog 32 #[.int .i64 a, .int .i64 b] w fun e w' => e = .returned (.bool (!decide (top < a + b))) ∧ w' = w := by
  have htop : top = 9223372036854775807 := rfl
  have w1 : wrap64 (9223372036854775807 - a) = 9223372036854775807 - a := by unfold wrap64; omega
  have w2 : IntKind.i64.wrap (9223372036854775807 - a) = 9223372036854775807 - a := by rw [IntKind.wrap_i64]; omega
  by_cases h : top < a + b
  · rw [decide_eq_true h]
    have d : decide (b ≤ 9223372036854775807 - a) = false := decide_eq_false (by omega)
    clear h htop h0 h1
    go_enter Tryd.func32, Tryd.ntmps32
    go_wp2_with fail
    go_ret
    exact ⟨rfl, rfl⟩
  · rw [decide_eq_false h]
    have d : decide (b ≤ 9223372036854775807 - a) = true := decide_eq_true (by omega)
    clear h htop h0 h1
    go_enter Tryd.func32, Tryd.ntmps32
    go_wp2_with fail
    go_ret
    exact ⟨rfl, rfl⟩
def ckP (r : Int × Int) : Value := .tuple #[.int .i64 r.1, .int .i64 r.2]
set_option maxRecDepth 100000 in
set_option maxHeartbeats 4000000 in
theorem rCheck_any (av : Int) (v : Value) (L : List Mk) (w : World) (h : RM w v L) (ho : MOk L) (h1 : av ≤ top) (hl : L.length ≤ 4611686018427387904) :
    Calls Tryd.prog 9 #[.agg #[.int .i64 av, v]] w fun e w' => e = .returned (ckP (ck av L)) ∧ Below w.heap.size w w' := by
  have HRM := hide h
  obtain ⟨a, cap, rfl, _, hc⟩ := h
  have X0 := Px.new w av (.slice a L.length cap)
  obtain ⟨x0, x1⟩ := pair_cells X0 rfl
  have B0 := hide ((Below.refl w.heap.size w).alloc (Nat.le_refl _) (.cells #[.int .i64 av, .slice a L.length cap] 24))
  have HX0 := hide X0
  have HC := hide hc
  have HO := hide ho
  have H1 := hide h1
  clear hc ho X0
  by_cases hav : av < 0
  · have HV := hide (ck_low (L := L) hav)
    have hd : decide (av < 0) = true := decide_eq_true hav
    clear hav
    go_enter Tryd.func9, Tryd.ntmps9
    go_wp2_with fail
    go_ret2
    exact ⟨by rw [HV.out]; rfl, B0.out⟩
  have HAV := hide hav
  have hd : decide (av < 0) = false := decide_eq_false hav
  by_cases h8 : 8 < L.length
  · have HV := hide (ck_many hav h8)
    have hd8 : decide ((8 : Int) < (L.length : Int)) = true := decide_eq_true (by omega)
    clear hav
    go_enter Tryd.func9, Tryd.ntmps9
    go_wp2_with fail
    go_ret2
    exact ⟨by rw [HV.out]; rfl, B0.out⟩
  have H8 := hide h8
  have hd8 : decide ((8 : Int) < (L.length : Int)) = false := decide_eq_false (by omega)
  clear hav
  go_enter Tryd.func9, Tryd.ntmps9
  go_wp2_with fail
  go_loopw [4, 5] (fun l i wr => ∃ (k : Nat) (s : Int), k ≤ L.length ∧ i = .int .i64 (k : Int) ∧ l = .int .i64 s ∧ Hid (0 ≤ s ∧ wrg 0 0 L = wrg s k (L.drop k)) ∧ Hid (Px wr w.heap.size av (.slice a L.length cap)) ∧ Hid (Below w.heap.size w wr)) (fun _ i _ => L.length - (intOf i).toNat)
  case atStart => exact ⟨0, 0, Nat.zero_le _, rfl, rfl, hide ⟨Int.le_refl _, by rw [List.drop_zero]⟩, HX0, B0⟩
  case round =>
    clear x0 x1 B0 HX0
    obtain ⟨k, s, hk, rfl, rfl, HS, HX, HB⟩ := hrel
    obtain ⟨x0, x1⟩ := pair_cells HX.out rfl
    by_cases hlt : k < L.length
    · obtain ⟨⟨N, Q⟩, hp⟩ : ∃ p, L[k]? = some p := ⟨_, List.getElem?_eq_getElem hlt⟩
      obtain ⟨b, off, ha, hbl, hc⟩ := HC.out.resolve_left (fun h => by rw [h] at hlt; simp at hlt)
      have c0 : wr.cell? ⟨b, off + k * 2, none⟩ = some (.int .i64 N) := (HB.out.cell (p := ⟨b, _, none⟩) hbl).trans (hc k _ hp).1
      have c1 : wr.cell? ⟨b, off + k * 2 + 1, none⟩ = some (.int .i64 Q) := (HB.out.cell (p := ⟨b, _, none⟩) hbl).trans (hc k _ hp).2
      have c1' : wr.cell? ⟨b, off + (k * 2 + 1), none⟩ = some (.int .i64 Q) := c1
      subst ha
      have HST := hide (wrg_step (last := s) (i := k) hp)
      have hd1 : decide ((k : Int) < (L.length : Int)) = true := by rw [decide_eq_true_eq]; omega
      have k0 : (0 : Int) ≤ (k : Int) := by omega
      have k1 : (k : Int) < (L.length : Int) := by omega
      have wk : wrap64 ((k : Int) + 1) = (k : Int) + 1 := by unfold wrap64; omega
      have BA := hide (HB.out.alloc HB.out.size (.cells #[.int .i64 N, .int .i64 Q] 36))
      have XA := hide (alloc_block (o := .cells #[.int .i64 N, .int .i64 Q] 36) HX.out)
      obtain ⟨d0, d1⟩ := pair_cells (alloc_new wr (.cells #[.int .i64 N, .int .i64 Q] 36)) rfl
      clear hc hp
      by_cases hw : N ≤ s ∨ 65536 < N ∨ Q < 1
      · have HE : Hid (ck av L = (1, (k : Int))) := hide (ck_wrg (by have := HAV.out; omega) (by have := H8.out; omega) (by rw [HS.out.2, HST.out]; exact if_pos hw))
        by_cases q1 : N ≤ s
        · have e1 : decide (N ≤ s) = true := decide_eq_true q1
          clear hw q1
          go_wp2_with fail
          go_ret2
          exact ⟨by rw [HE.out]; rfl, BA.out⟩
        · have e1 : decide (N ≤ s) = false := decide_eq_false q1
          by_cases q2 : 65536 < N
          · have e3 : decide (65536 < N) = true := decide_eq_true q2
            clear hw q1 q2
            go_wp2_with fail
            go_ret2
            exact ⟨by rw [HE.out]; rfl, BA.out⟩
          · have e3 : decide (65536 < N) = false := decide_eq_false q2
            have e4 : decide (Q < 1) = true := decide_eq_true (by omega)
            clear hw q1 q2
            go_wp2_with fail
            go_ret2
            exact ⟨by rw [HE.out]; rfl, BA.out⟩
      · have e1 : decide (N ≤ s) = false := decide_eq_false (by omega)
        have e3 : decide (65536 < N) = false := decide_eq_false (by omega)
        have e4 : decide (Q < 1) = false := decide_eq_false (by omega)
        have HNX : Hid (0 ≤ N ∧ wrg 0 0 L = wrg N (k + 1) (L.drop (k + 1))) := hide ⟨by have := HS.out.1; omega, by rw [HS.out.2, HST.out]; exact if_neg hw⟩
        clear hw
        go_wp2_with fail
        go_roundw
        case rel => exact ⟨k + 1, N, by omega, by go_num, rfl, HNX, XA, BA⟩
        case measure => first | (rw [wk]; simp [intOf]; omega) | (simp [intOf]; omega)
    · have e : k = L.length := by omega
      subst e
      have HW : Hid (wrg 0 0 L = none) := hide (by rw [HS.out.2, List.drop_length]; rfl)
      have HRI := hide (wrg_none.1 HW.out)
      obtain ⟨W1, rfl⟩ : ∃ W1, W1 = wr := ⟨wr, rfl⟩
      go_wp2_with fail
      go_loopw [7, 8] (fun t i wr => ∃ (k : Nat) (s : Int), k ≤ L.length ∧ i = .int .i64 (k : Int) ∧ t = .int .i64 s ∧ Hid (0 ≤ s ∧ s ≤ top ∧ ovr av 0 L = ovr s k (L.drop k)) ∧ Hid (Px wr w.heap.size av (.slice a L.length cap)) ∧ Hid (Below w.heap.size w wr)) (fun _ i _ => L.length - (intOf i).toNat)
      case atStart => exact ⟨0, av, Nat.zero_le _, rfl, rfl, hide ⟨by have := HAV.out; omega, H1.out, by rw [List.drop_zero]⟩, HX, HB⟩
      case round =>
        clear x0 x1 HX HB HS
        obtain ⟨k, s, hk, rfl, rfl, HS, HX, HB⟩ := hrel
        obtain ⟨x0, x1⟩ := pair_cells HX.out rfl
        by_cases hlt : k < L.length
        · obtain ⟨⟨N, Q⟩, hp⟩ : ∃ p, L[k]? = some p := ⟨_, List.getElem?_eq_getElem hlt⟩
          obtain ⟨b, off, ha, hbl, hc⟩ := HC.out.resolve_left (fun h => by rw [h] at hlt; simp at hlt)
          have c1 : wr.cell? ⟨b, off + k * 2 + 1, none⟩ = some (.int .i64 Q) := (HB.out.cell (p := ⟨b, _, none⟩) hbl).trans (hc k _ hp).2
          have c1' : wr.cell? ⟨b, off + (k * 2 + 1), none⟩ = some (.int .i64 Q) := c1
          subst ha
          have HQ := hide (And.intro (HRI.out.mem _ (List.mem_of_getElem? hp)) (HO.out _ (List.mem_of_getElem? hp)).2.2.2)
          have HST := hide (ovr_step (s := s) (i := k) hp)
          have hd1 : decide ((k : Int) < (L.length : Int)) = true := by rw [decide_eq_true_eq]; omega
          have k0 : (0 : Int) ≤ (k : Int) := by omega
          have k1 : (k : Int) < (L.length : Int) := by omega
          have wk : wrap64 ((k : Int) + 1) = (k : Int) + 1 := by unfold wrap64; omega
          have HFI := hide (fun W => fits_any s Q W HS.out.1 HS.out.2.1)
          clear hc hp
          by_cases hov : top < s + Q
          · rw [decide_eq_true hov] at HFI
            have HE : Hid (ck av L = (9, (k : Int))) := hide (ck_ovr (by have := HAV.out; omega) (by have := H8.out; omega) HW.out (by rw [HS.out.2.2, HST.out]; exact if_pos hov))
            clear hov
            go_wp2_with fail
            refine (HFI.out _).mono ?_
            rintro e w' ⟨rfl, hw⟩
            have hw' := hw.symm
            clear hw
            subst hw'
            go_wp2_with fail
            go_ret2
            exact ⟨by rw [HE.out]; rfl, HB.out⟩
          · rw [decide_eq_false hov] at HFI
            have HN : Hid (0 ≤ s + Q ∧ s + Q ≤ top ∧ ovr av 0 L = ovr (s + Q) (k + 1) (L.drop (k + 1))) := hide ⟨by have := HS.out.1; have := HQ.out.1; dsimp only at *; omega, by omega, by rw [HS.out.2.2, HST.out]; exact if_neg hov⟩
            have wq : wrap64 (s + Q) = s + Q := by have h1 := HN.out.1; have h2 := HN.out.2.1; have : top = 9223372036854775807 := rfl; unfold wrap64; omega
            clear hov
            go_wp2_with fail
            refine (HFI.out _).mono ?_
            rintro e w' ⟨rfl, hw⟩
            have hw' := hw.symm
            clear hw
            subst hw'
            go_wp2_with fail
            go_roundw
            case rel => exact ⟨k + 1, s + Q, by omega, by go_num, by first | rfl | rw [wq], HN, HX, HB⟩
            case measure => first | (rw [wk]; simp [intOf]; omega) | (simp [intOf]; omega)
        · have e : k = L.length := by omega
          subst e
          have HE : Hid (ck av L = (0, 0)) := hide (ck_non (by have := HAV.out; omega) (by have := H8.out; omega) HW.out (by rw [HS.out.2.2, List.drop_length]; rfl))
          go_wp2_with fail
          go_ret2
          exact ⟨by rw [HE.out]; rfl, HB.out⟩
set_option maxRecDepth 100000 in
set_option maxHeartbeats 1000000 in
theorem right_any (av : Int) (v : Value) (L : List Mk) (w : World) (h : RM w v L) (ho : MOk L) (h1 : av ≤ top) (hl : L.length ≤ 4611686018427387904) :
    Calls Tryd.prog 37 #[.agg #[.int .i64 av, v]] w fun e w' => e = .returned (.bool ((ck av L).1 == 0)) ∧ Below w.heap.size w w' := by
  have HW := hide (fun (W : World) (hb : Below w.heap.size w W) => rCheck_any av v L W (h.later hb) ho h1 hl)
  obtain ⟨a, cap, rfl, _, _⟩ := h
  unfold ckP at HW
  generalize (ck av L).1 = c1 at *
  generalize (ck av L).2 = c2 at *
  have B0 := hide ((Below.refl w.heap.size w).alloc (Nat.le_refl _) (.cells #[.int .i64 av, .slice a L.length cap] 24))
  obtain ⟨x0, x1⟩ := pair_cells (Px.new w av (.slice a L.length cap)) rfl
  go_enter Tryd.func37, Tryd.ntmps37
  go_wp2_with fail
  refine (HW.out _ B0.out).mono ?_
  rintro e w1 ⟨rfl, hb⟩
  have HB := hide (B0.out.trans (hb.mono B0.out.size))
  clear hb
  go_wp2_with fail
  go_ret
  exact ⟨rfl, HB.out⟩
set_option maxRecDepth 100000 in
set_option maxHeartbeats 2000000 in
theorem rTotal_any (av : Int) (v : Value) (L : List Mk) (w : World) (h : RM w v L) (ho : MOk L) (h1 : av ≤ top) (hl : L.length ≤ 4611686018427387904) :
    Calls Tryd.prog 15 #[.agg #[.int .i64 av, v]] w fun e w' => e = .returned (.int .i64 (totV av L)) ∧ Below w.heap.size w w' := by
  have HW := hide (fun (W : World) (hb : Below w.heap.size w W) => right_any av v L W (h.later hb) ho h1 hl)
  obtain ⟨a, cap, rfl, _, hc⟩ := h
  have HC := hide hc
  have B0 := hide ((Below.refl w.heap.size w).alloc (Nat.le_refl _) (.cells #[.int .i64 av, .slice a L.length cap] 24))
  have X0 := hide (Px.new w av (.slice a L.length cap))
  obtain ⟨x0, x1⟩ := pair_cells X0.out rfl
  clear hc
  by_cases hck : (ck av L).1 = 0
  · have hR := (ck_right h1).1 hck
    have HR := hide hR
    rw [show ((ck av L).1 == 0) = true by rw [beq_iff_eq]; exact hck] at HW
    rw [show totV av L = av + sm L from if_pos hck]
    have h8 := hR.few
    clear hR hck
    go_enter Tryd.func15, Tryd.ntmps15
    go_wp2_with fail
    refine (HW.out _ B0.out).mono ?_
    rintro e w1 ⟨rfl, hb⟩
    have HB1 := hide (B0.out.trans (hb.mono B0.out.size))
    have X1 := hide (blk_later X0.out hb)
    clear hb x0 x1
    obtain ⟨x0, x1⟩ := pair_cells X1.out rfl
    go_wp2_with fail
    go_loopw [3, 4] (fun t i wr => ∃ (k : Nat) (s : Int), k ≤ L.length ∧ i = .int .i64 (k : Int) ∧ t = .int .i64 s ∧ Hid (0 ≤ s ∧ s + sm (L.drop k) = av + sm L ∧ Ri 0 (L.drop k)) ∧ Hid (Px wr w.heap.size av (.slice a L.length cap)) ∧ Hid (Below w.heap.size w wr)) (fun _ i _ => L.length - (intOf i).toNat)
    case atStart => exact ⟨0, av, Nat.zero_le _, rfl, rfl, hide ⟨HR.out.av0, by rw [List.drop_zero], by rw [List.drop_zero]; exact HR.out.ri⟩, X1, HB1⟩
    case round =>
      clear x0 x1 X1 HB1
      obtain ⟨k, s, hk, rfl, rfl, HS, HX, HB⟩ := hrel
      obtain ⟨x0, x1⟩ := pair_cells HX.out rfl
      by_cases hlt : k < L.length
      · obtain ⟨⟨N, Q⟩, hp⟩ : ∃ p, L[k]? = some p := ⟨_, List.getElem?_eq_getElem hlt⟩
        obtain ⟨b, off, ha, hbl, hc⟩ := HC.out.resolve_left (fun h => by rw [h] at hlt; simp at hlt)
        have c1 : wr.cell? ⟨b, off + k * 2 + 1, none⟩ = some (.int .i64 Q) := (HB.out.cell (p := ⟨b, _, none⟩) hbl).trans (hc k _ hp).2
        have c1' : wr.cell? ⟨b, off + (k * 2 + 1), none⟩ = some (.int .i64 Q) := c1
        subst ha
        have hd1 : decide ((k : Int) < (L.length : Int)) = true := by rw [decide_eq_true_eq]; omega
        have k0 : (0 : Int) ≤ (k : Int) := by omega
        have k1 : (k : Int) < (L.length : Int) := by omega
        have wk : wrap64 ((k : Int) + 1) = (k : Int) + 1 := by unfold wrap64; omega
        have HN : Hid (0 ≤ s + Q ∧ (s + Q) + sm (L.drop (k + 1)) = av + sm L ∧ Ri 0 (L.drop (k + 1))) := hide (by
          obtain ⟨h1, h2, h3⟩ := HS.out
          have he : L.drop k = (N, Q) :: L.drop (k + 1) := by
            rw [List.drop_eq_getElem_cons hlt]; congr 1; exact (List.getElem?_eq_some_iff.1 hp).2
          rw [he] at h2 h3
          obtain ⟨q1, q2, q3, q4⟩ := h3
          rw [sm_cons] at h2
          dsimp only at h2 q1 q3 q4
          exact ⟨by omega, by omega, q4.low (by omega)⟩)
        have wq : wrap64 (s + Q) = s + Q := by
          have h1 := HN.out.1; have h2 := HN.out.2.1; have h3 := sm_pos HN.out.2.2; have h4 := HR.out.all; have : top = 9223372036854775807 := rfl
          unfold wrap64; omega
        clear hc hp
        go_wp2_with fail
        go_roundw
        case rel => exact ⟨k + 1, s + Q, by omega, by go_num, by first | rfl | rw [wq], HN, HX, HB⟩
        case measure => first | (rw [wk]; simp [intOf]; omega) | (simp [intOf]; omega)
      · have e : k = L.length := by omega
        subst e
        have HE : Hid (av + sm L = s) := hide (by have := HS.out.2.1; rw [List.drop_length] at this; simp [sm] at this; omega)
        go_wp2_with fail
        go_ret
        exact ⟨by rw [HE.out]; rfl, HB.out⟩
  · rw [show ((ck av L).1 == 0) = false by rw [beq_eq_false_iff_ne]; exact hck] at HW
    rw [show totV av L = 0 from if_neg hck]
    clear hck
    go_enter Tryd.func15, Tryd.ntmps15
    go_wp2_with fail
    refine (HW.out _ B0.out).mono ?_
    rintro e w1 ⟨rfl, hb⟩
    have HB := hide (B0.out.trans (hb.mono B0.out.size))
    clear hb
    go_wp2_with fail
    go_ret
    exact ⟨rfl, HB.out⟩
theorem mq_step {L : List Mk} {k : Nat} {p : Mk} {n : Int} (h : L[k]? = some p) : mq n (L.drop k) = if p.1 = n then p.2 else mq n (L.drop (k + 1)) := by
  have hj : k < L.length := (List.getElem?_eq_some_iff.1 h).1
  have he : L.drop k = p :: L.drop (k + 1) := by
    rw [List.drop_eq_getElem_cons hj]; congr 1; exact (List.getElem?_eq_some_iff.1 h).2
  rw [he]; rfl
set_option maxRecDepth 100000 in
set_option maxHeartbeats 2000000 in
theorem rMarked_any (av n : Int) (v : Value) (L : List Mk) (w : World) (h : RM w v L) (ho : MOk L) (h1 : av ≤ top) (hl : L.length ≤ 4611686018427387904) :
    Calls Tryd.prog 17 #[.agg #[.int .i64 av, v], .int .i64 n] w fun e w' => e = .returned (.int .i64 (mkdV av L n)) ∧ Below w.heap.size w w' := by
  have HW := hide (fun (W : World) (hb : Below w.heap.size w W) => right_any av v L W (h.later hb) ho h1 hl)
  obtain ⟨a, cap, rfl, _, hc⟩ := h
  have HC := hide hc
  have B0 := hide ((Below.refl w.heap.size w).alloc (Nat.le_refl _) (.cells #[.int .i64 av, .slice a L.length cap] 24))
  have X0 := hide (Px.new w av (.slice a L.length cap))
  obtain ⟨x0, x1⟩ := pair_cells X0.out rfl
  clear hc
  by_cases hck : (ck av L).1 = 0
  · have hR := (ck_right h1).1 hck
    have HR := hide hR
    rw [show ((ck av L).1 == 0) = true by rw [beq_iff_eq]; exact hck] at HW
    rw [show mkdV av L n = mq n L from if_pos hck]
    have h8 := hR.few
    clear hR hck
    obtain ⟨m, HM⟩ : ∃ m, Hid (mq n L = m) := ⟨_, hide rfl⟩
    rw [HM.out]
    go_enter Tryd.func17, Tryd.ntmps17
    go_wp2_with fail
    refine (HW.out _ B0.out).mono ?_
    rintro e w1 ⟨rfl, hb⟩
    have HB1 := hide (B0.out.trans (hb.mono B0.out.size))
    have X1 := hide (blk_later X0.out hb)
    clear hb x0 x1
    obtain ⟨x0, x1⟩ := pair_cells X1.out rfl
    go_wp2_with fail
    go_loopw [5] (fun i wr => ∃ (k : Nat), k ≤ L.length ∧ i = .int .i64 (k : Int) ∧ Hid (mq n (L.drop k) = m) ∧ Hid (Px wr w.heap.size av (.slice a L.length cap)) ∧ Hid (Below w.heap.size w wr)) (fun i _ => L.length - (intOf i).toNat)
    case atStart => exact ⟨0, Nat.zero_le _, rfl, hide (by rw [List.drop_zero]; exact HM.out), X1, HB1⟩
    case round =>
      clear x0 x1 X1 HB1
      obtain ⟨k, hk, rfl, HS, HX, HB⟩ := hrel
      obtain ⟨x0, x1⟩ := pair_cells HX.out rfl
      by_cases hlt : k < L.length
      · obtain ⟨⟨N, Q⟩, hp⟩ : ∃ p, L[k]? = some p := ⟨_, List.getElem?_eq_getElem hlt⟩
        obtain ⟨b, off, ha, hbl, hc⟩ := HC.out.resolve_left (fun h => by rw [h] at hlt; simp at hlt)
        have c0 : wr.cell? ⟨b, off + k * 2, none⟩ = some (.int .i64 N) := (HB.out.cell (p := ⟨b, _, none⟩) hbl).trans (hc k _ hp).1
        have c1 : wr.cell? ⟨b, off + k * 2 + 1, none⟩ = some (.int .i64 Q) := (HB.out.cell (p := ⟨b, _, none⟩) hbl).trans (hc k _ hp).2
        have c1' : wr.cell? ⟨b, off + (k * 2 + 1), none⟩ = some (.int .i64 Q) := c1
        subst ha
        have hd1 : decide ((k : Int) < (L.length : Int)) = true := by rw [decide_eq_true_eq]; omega
        have k0 : (0 : Int) ≤ (k : Int) := by omega
        have k1 : (k : Int) < (L.length : Int) := by omega
        have wk : wrap64 ((k : Int) + 1) = (k : Int) + 1 := by unfold wrap64; omega
        have HST := hide (mq_step (n := n) hp)
        clear hc hp
        by_cases he : N = n
        · have dn : (N == n) = true := by rw [beq_iff_eq]; exact he
          have HE : Hid (Q = m) := hide (by rw [← HS.out, HST.out]; exact (if_pos he).symm)
          clear he
          go_wp2_with fail
          go_ret
          exact ⟨by rw [← HE.out]; rfl, HB.out⟩
        · have dn : (N == n) = false := by rw [beq_eq_false_iff_ne]; exact he
          have HE : Hid (mq n (L.drop (k + 1)) = m) := hide (by rw [← HS.out, HST.out]; exact (if_neg he).symm)
          clear he
          go_wp2_with fail
          go_roundw
          case rel => exact ⟨k + 1, by omega, by go_num, HE, HX, HB⟩
          case measure => first | (rw [wk]; simp [intOf]; omega) | (simp [intOf]; omega)
      · have e : k = L.length := by omega
        subst e
        have HE : Hid (0 = m) := hide (by have := HS.out; rw [List.drop_length] at this; exact this)
        go_wp2_with fail
        go_ret
        exact ⟨by rw [← HE.out]; rfl, HB.out⟩
  · rw [show ((ck av L).1 == 0) = false by rw [beq_eq_false_iff_ne]; exact hck] at HW
    rw [show mkdV av L n = 0 from if_neg hck]
    clear hck
    go_enter Tryd.func17, Tryd.ntmps17
    go_wp2_with fail
    refine (HW.out _ B0.out).mono ?_
    rintro e w1 ⟨rfl, hb⟩
    have HB := hide (B0.out.trans (hb.mono B0.out.size))
    clear hb
    go_wp2_with fail
    go_ret
    exact ⟨rfl, HB.out⟩
set_option maxRecDepth 100000 in
set_option maxHeartbeats 1000000 in
theorem rCover_any (av n : Int) (v : Value) (L : List Mk) (w : World) (h : RM w v L) (ho : MOk L) (h1 : av ≤ top) (hl : L.length ≤ 4611686018427387904) :
    Calls Tryd.prog 19 #[.agg #[.int .i64 av, v], .int .i64 n] w fun e w' => e = .returned (.int .i64 (covV av L n)) ∧ Below w.heap.size w w' := by
  have HW := hide (fun (W : World) (hb : Below w.heap.size w W) => right_any av v L W (h.later hb) ho h1 hl)
  have HU := hide (fun (W : World) (hb : Below w.heap.size w W) => rMarked_any av n v L W (h.later hb) ho h1 hl)
  obtain ⟨a, cap, rfl, _, _⟩ := h
  have B0 := hide ((Below.refl w.heap.size w).alloc (Nat.le_refl _) (.cells #[.int .i64 av, .slice a L.length cap] 24))
  have X0 := hide (Px.new w av (.slice a L.length cap))
  obtain ⟨x0, x1⟩ := pair_cells X0.out rfl
  by_cases hc : (ck av L).1 = 0
  · have hR := (ck_right h1).1 hc
    rw [show ((ck av L).1 == 0) = true by rw [beq_iff_eq]; exact hc] at HW
    rw [show mkdV av L n = mq n L from if_pos hc] at HU
    rw [show covV av L n = av + mq n L from if_pos hc]
    have hm := mq_ge (n := n) hR.ri
    have ha := hR.all
    have ha0 := hR.av0
    have htop : top = 9223372036854775807 := rfl
    have hwr : IntKind.i64.wrap (av + mq n L) = av + mq n L := by rw [IntKind.wrap_i64]; omega
    have hwr2 : wrap64 (av + mq n L) = av + mq n L := by unfold wrap64; omega
    generalize mq n L = m at *
    clear hR hc hm ha ha0 htop
    go_enter Tryd.func19, Tryd.ntmps19
    go_wp2_with fail
    refine (HW.out _ B0.out).mono ?_
    rintro e w1 ⟨rfl, hb⟩
    have HB := hide (B0.out.trans (hb.mono B0.out.size))
    have HL := hide (show w.heap.size < w1.heap.size from blk_lt (blk_later X0.out hb))
    obtain ⟨x0, x1⟩ := pair_cells (blk_later X0.out hb) rfl
    clear hb
    go_wp2_with fail
    go_region_held3 (fun W => W.cell? ⟨w.heap.size, 0, none⟩ = some (.int .i64 av) ∧ W.cell? ⟨w.heap.size, 1, none⟩ = some (.slice a L.length cap)) (go_keep) ((go_at_call 17; refine (HU.out _ (by first | exact HB.out | exact HB.out.drew)).mono ?_; rintro e w2 ⟨rfl, hb⟩; have y0 := (hb.cell (p := ⟨w.heap.size, 0, none⟩) HL.out).trans x0; have y1 := (hb.cell (p := ⟨w.heap.size, 1, none⟩) HL.out).trans x1; have HBB := hide (HB.out.drew.trans (hb.mono HB.out.size)); clear hb))
    go_wp2_with fail
    go_ret
    exact ⟨rfl, HBB.out⟩
  · rw [show ((ck av L).1 == 0) = false by rw [beq_eq_false_iff_ne]; exact hc] at HW
    rw [show covV av L n = 0 from if_neg hc]
    clear hc
    go_enter Tryd.func19, Tryd.ntmps19
    go_wp2_with fail
    refine (HW.out _ B0.out).mono ?_
    rintro e w1 ⟨rfl, hb⟩
    have HB := hide (B0.out.trans (hb.mono B0.out.size))
    clear hb
    go_wp2_with fail
    go_ret
    exact ⟨rfl, HB.out⟩
end Go.Proofs.YtmebomifakmkbaaDoor
