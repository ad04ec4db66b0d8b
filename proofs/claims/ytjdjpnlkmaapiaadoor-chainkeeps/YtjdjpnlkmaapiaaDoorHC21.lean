/-
  My own text: the law that a pruning keeps what counts.
-/
import Derived.Test.YtjdjpnlkmaapiaaDoorHC20
import Derived.Test.YtjdjpnlkmaapiaaDoorHC8
namespace Go.Proofs.YtjdjpnlkmaapiaaDoor
open Go.RowKit Go.Shelf

attribute [local go_sem] Oper.semAt_some

set_option maxRecDepth 100000 in
set_option maxHeartbeats 8000000 in
theorem keeps_in (v vl : Value) (ps : List Ac) (ls : List Int) (n more : Int) (w : World) (hv : RAc w v ps) (hlk : RN w vl ls) (hlen : ps.length ≤ 5864062014804) (hls : ls.length ≤ 4611686018427387904) (hN : ∀ p ∈ ps, p.2.1 ≤ 9223372036854775807) (HE : Hid (ErrType w)) :
    CallsIn Fence.wide 9 Tryd.prog 3 #[v, .int .i64 n, .int .i64 more, vl] w fun e w' => e = .returned (.bool true) ∧ Below w.heap.size w w' := by
  have HRA := hide hv
  have HLN := hide hlen
  have HLS := hide hls
  obtain ⟨L, hL⟩ : ∃ L, L = bld ps := ⟨_, rfl⟩
  have HK : Hid (LK L ps.length) := hide (by rw [hL]; have := bld_LK ps hN ps.length (Nat.le_refl _); rw [List.take_length] at this; exact this)
  have HBD := hide (fun (W : World) (h : RAc W v ps) => build_any v ps W h hlen hN)
  rw [← hL] at HBD
  have HWK := hide (fun (W : World) (h : ErrType W) => works_any W (hide h))
  have HPL := hide (fun (W : World) (h : ErrType W) => plain_errV 1 1 W (by omega) (by omega) h)
  rw [show ((1 : Int) == 1) = true from rfl, errV_pos (show (1 : Int) ≤ 1 by omega)] at HPL
  obtain ⟨pa, pcap, rfl, _⟩ := hv
  obtain ⟨la, lcap, rfl, hlc⟩ := hlk
  have HLC := hide hlc
  clear hlc hL hN hlen hls
  obtain ⟨W0, hW0⟩ : ∃ W0, w.alloc (.cells #[.int .i64 n] 3) = W0 := ⟨_, rfl⟩
  have HB0 : Hid (Below w.heap.size w W0) := hide (by rw [← hW0]; exact (Below.refl _ _).alloc (Nat.le_refl _) _)
  have N0 : Hid (Box W0 w.heap.size 3 (.int .i64 n)) := hide (by rw [← hW0]; exact Box.new w _ _)
  refine callsIn_of_wp_marks Tryd.func3 rfl trivial ?_ rfl
  simp only [Tryd.ntmps3, List.size_toArray, List.length_cons, List.length_nil, Nat.reduceAdd, Nat.reduceSub, Array.replicate_succ, Array.replicate_zero, List.push_toArray, List.append_toArray, List.nil_append, List.cons_append]
  refine wpIn_wide.2 ?_
  go_wp2_with fail
  refine (HBD.out _ (HRA.out.later HB0.out)).mono ?_
  rintro e w1 ⟨cx, hcx, rfl, hx, hb⟩
  have CX := hide hcx
  have X1 := hide hx
  have B1 := hide hb
  clear hcx hx hb hW0
  go_wp2_with fail
  refine (HBD.out _ ((HRA.out.later HB0.out).later B1.out)).mono ?_
  rintro e w2 ⟨cy, hcy, rfl, hy, hb⟩
  have CY := hide hcy
  have Y2 := hide hy
  have B2 := hide hb
  clear hcy hy hb
  go_wp2_with fail
  refine (HBD.out _ (((HRA.out.later HB0.out).later B1.out).later B2.out)).mono ?_
  rintro e w3 ⟨cz, hcz, rfl, hz, hb⟩
  have T3 := hide (TS.made N0.out HB0.out CX.out X1.out B1.out CY.out Y2.out B2.out hcz hz hb)
  clear hcz hz hb CX X1 B1 CY Y2 B2 N0 HBD HB0
  obtain ⟨bn, hbn⟩ : ∃ bn, bn = w.heap.size := ⟨_, rfl⟩
  rw [← hbn] at T3 ⊢
  have HBN := hide hbn
  clear hbn
  go_wp2_with fail
  refine (HWK.out _ (HE.out.below T3.out.low)).mono ?_
  rintro e w4 ⟨rfl, hb⟩
  have T4 := hide (T3.out.later hb)
  clear hb T3 HWK
  go_wp2_with fail
  refine (len_any cx cx L w4 T4.out.x).mono ?_
  rintro e w5 ⟨rfl, hb⟩
  have T5 := hide (T4.out.later hb)
  clear hb T4
  have x5 := T5.out.nb.cell
  go_wp2_with fail
  refine (prune_any n cx cx ps.length L w5 T5.out.x HK.out HLN.out).mono ?_
  rintro e w6 ⟨rfl, hc6, hf6⟩
  have T6 := hide (T5.out.onX hc6 hf6)
  clear hc6 hf6 T5 x5
  obtain ⟨m0, hm0⟩ : ∃ m0, m0 = ab n L - 1 := ⟨_, rfl⟩
  have HM0 := hide hm0
  rw [← hm0] at T6 ⊢
  clear hm0
  obtain ⟨L1, hL1⟩ : ∃ L1, L1 = L.drop m0 := ⟨_, rfl⟩
  have HL1 := hide hL1
  rw [← hL1] at T6
  clear hL1
  have HK1 : Hid (LK L1 ps.length) := hide (by rw [HL1.out]; exact HK.out.drop m0)
  have HML : Hid (m0 ≤ L.length ∧ L1.length = L.length - m0) := hide (by
    have := ab_le n L
    have := HM0.out
    rw [HL1.out, List.length_drop]; omega)
  have HZ : Hid (ab n L1 ≤ 1) := hide (by rw [HL1.out, ab_drop n L m0 HK.out.ris]; have := HM0.out; omega)
  have d1 : decide ((m0 : Int) < 0) = false := decide_eq_false (by omega)
  have ws : wrap64 ((L.length : Int) - (m0 : Int)) = (L1.length : Int) := by
    have := HML.out; have := HK.out.len; have := HLN.out
    unfold wrap64; omega
  go_wp2_with fail
  refine (len_any cx cx L1 w6 T6.out.x).mono ?_
  rintro e w7 ⟨rfl, hb⟩
  have T7 := hide (T6.out.later hb)
  clear hb T6
  have x7 := T7.out.nb.cell
  go_wp2_with fail
  have hp7 := prune_any n cx cx ps.length L1 w7 T7.out.x HK1.out HLN.out
  rw [show ab n L1 - 1 = 0 by have := HZ.out; omega, List.drop_zero] at hp7
  refine hp7.mono ?_
  rintro e w8 ⟨rfl, hc8, hf8⟩
  have T8 := hide (T7.out.onX hc8 hf8)
  clear hc8 hf8 hp7 T7 x7 ws d1
  go_wp2_with fail
  go_loopw [14] (fun i wr => ∃ k : Nat, k ≤ ls.length ∧ i = .int .i64 (k : Int) ∧ Hid (TS w bn cx cy cz n L1 L L wr)) (fun i _ => ls.length - (intOf i).toNat)
  case atStart => exact ⟨0, Nat.zero_le _, rfl, T8⟩
  case round =>
    clear T8
    obtain ⟨k, hk, rfl, TR⟩ := hrel
    by_cases hlt : k < ls.length
    · obtain ⟨q, hq⟩ : ∃ q, ls[k]? = some q := ⟨_, List.getElem?_eq_getElem hlt⟩
      obtain ⟨g, off, rfl, q0⟩ := HLC.out k q hq
      have HQ0 := hide q0
      have hd1 : decide ((k : Int) < (ls.length : Int)) = true := by rw [decide_eq_true_eq]; omega
      have k0 : (0 : Int) ≤ (k : Int) := by omega
      have k1 : (k : Int) < (ls.length : Int) := by omega
      have wk : wrap64 ((k : Int) + 1) = (k : Int) + 1 := by have := HLS.out; unfold wrap64; omega
      have z0 : wr.cell? ⟨g, off + k, none⟩ = some (.int .i64 q) := (TR.out.low.cell (World.block_lt_of_cell? _ _ HQ0.out)).trans HQ0.out
      have HAX := hide (atq_any q cx cx L1 wr TR.out.x HK1.out.ris (by have := HK1.out.len; have := HLN.out; omega))
      have HAY := hide (fun (W : World) (h : CH W cy cy L) => atq_any q cy cy L W h HK.out.ris (by have := HK.out.len; have := HLN.out; omega))
      have HS1 : Hid (n ≤ q → atS q L1 = atS q L ∧ atB q L1 = atB q L) := hide (fun h => by rw [HL1.out, HM0.out]; exact atS_pr HK.out.ris h)
      have HS2 : Hid (atB q L1 = true → atB q L = true) := hide (fun h => by rw [HL1.out] at h; exact atB_pr HK.out.ris m0 h)
      clear q0 hq
      generalize atS q L1 = sa at *
      generalize atB q L1 = ba at *
      generalize atS q L = sb at *
      generalize atB q L = bb at *
      go_wp2_with fail
      refine HAX.out.mono ?_
      rintro e w9 ⟨rfl, hb⟩
      have T9 := hide (TR.out.later hb)
      clear hb TR HAX z0
      have z0 : w9.cell? ⟨g, off + k, none⟩ = some (.int .i64 q) := (T9.out.low.cell (World.block_lt_of_cell? _ _ HQ0.out)).trans HQ0.out
      go_wp2_with fail
      refine (HAY.out _ T9.out.y).mono ?_
      rintro e wA ⟨rfl, hb⟩
      have TA := hide (T9.out.later hb)
      clear hb T9 HAY z0
      have z0 : wA.cell? ⟨g, off + k, none⟩ = some (.int .i64 q) := (TA.out.low.cell (World.block_lt_of_cell? _ _ HQ0.out)).trans HQ0.out
      have z1 := TA.out.nb.cell
      by_cases hnq : n ≤ q
      · obtain ⟨rfl, rfl⟩ := HS1.out hnq
        have hd2 : decide (n ≤ q) = true := decide_eq_true hnq
        clear HS1 HS2 hnq
        cases ba
        · skip
          go_wp2_with fail
          go_quiet (fail)
          have TB := hide (TA.out.later (below_dq (Below.refl _ _) nq))
          go_wp2_with fail
          go_roundw
          case rel => exact ⟨k + 1, by omega, by go_num, TB⟩
          case measure => rw [wk]; simp [intOf]; omega
        · skip
          go_wp2_with fail
          go_quiet (fail)
          have TB := hide (TA.out.later (below_dq (Below.refl _ _) nq))
          go_wp2_with fail
          go_roundw
          case rel => exact ⟨k + 1, by omega, by go_num, TB⟩
          case measure => rw [wk]; simp [intOf]; omega
      · have hd2 : decide (n ≤ q) = false := decide_eq_false hnq
        have hbb := HS2.out
        clear HS1 HS2 hnq
        cases ba
        · clear hbb
          go_wp2_with fail
          go_quiet (fail)
          have TB := hide (TA.out.later (below_dq (Below.refl _ _) nq))
          go_wp2_with fail
          go_roundw
          case rel => exact ⟨k + 1, by omega, by go_num, TB⟩
          case measure => rw [wk]; simp [intOf]; omega
        · obtain rfl := hbb rfl
          clear hbb
          go_wp2_with fail
          go_quiet (fail)
          have TB := hide (TA.out.later (below_dq (Below.refl _ _) nq))
          go_wp2_with fail
          go_roundw
          case rel => exact ⟨k + 1, by omega, by go_num, TB⟩
          case measure => rw [wk]; simp [intOf]; omega
    · have e : k = ls.length := by omega
      subst e
      go_wp2_with fail
      have HLX := hide (fun (V : World) (h : CH V cx cx L1) => lastq_any cx cx L1 V h HK1.out.ris HK1.out.max (by have := HK1.out.len; have := HLN.out; omega))
      have HLY := hide (fun (V : World) (h : CH V cy cy L) => lastq_any cy cy L V h HK.out.ris HK.out.max (by have := HK.out.len; have := HLN.out; omega))
      have hla : laP L1 = laP L ∧ laB L1 = laB L := by rw [HL1.out, HM0.out]; exact la_pr (m_ok n L)
      have HLP : Hid (laB L = true → lastN L1 = (laP L).1) := hide (fun h => by
        rw [← hla.2] at h
        rw [← hla.1]
        have h0 := of_decide_eq_true h
        obtain ⟨p, hp⟩ : ∃ p, L1[L1.length - 1]? = some p := ⟨_, List.getElem?_eq_getElem (by omega)⟩
        rw [lastN_at hp]; unfold laP; rw [hp])
      rw [hla.1, hla.2] at HLX
      clear hla
      generalize laP L = lp at *
      generalize laB L = lb at *
      refine (HLX.out _ TR.out.x).mono ?_
      rintro e wM ⟨rfl, hb⟩
      have TM := hide (TR.out.later hb)
      clear hb TR HLX
      go_wp2_with fail
      refine (HLY.out _ TM.out.y).mono ?_
      rintro e wN ⟨rfl, hb⟩
      have TN := hide (TM.out.later hb)
      clear hb TM HLY
      cases lb
      · obtain ⟨wP, hwP⟩ : ∃ wP, wP = wN := ⟨_, rfl⟩
        rw [← hwP] at TN ⊢
        have TP := TN
        clear TN hwP HLP
        have P5 : Hid (TS w bn cx cy cz n L1 L L ((wP.alloc (.cells #[.int .i64 0] 3)).alloc (.cells #[.pointer (some ⟨cx, 0, none⟩)] 24)) ∧ Box ((wP.alloc (.cells #[.int .i64 0] 3)).alloc (.cells #[.pointer (some ⟨cx, 0, none⟩)] 24)) wP.heap.size 3 (.int .i64 0) ∧ Box ((wP.alloc (.cells #[.int .i64 0] 3)).alloc (.cells #[.pointer (some ⟨cx, 0, none⟩)] 24)) (wP.heap.size + 1) 24 (.pointer (some ⟨cx, 0, none⟩)) ∧ w.heap.size ≤ ((wP.alloc (.cells #[.int .i64 0] 3)).alloc (.cells #[.pointer (some ⟨cx, 0, none⟩)] 24)).heap.size) := hide (by
          have b1 : Below wP.heap.size wP (wP.alloc (.cells #[.int .i64 0] 3)) := (Below.refl _ _).alloc (Nat.le_refl _) _
          have o1 := Box.new wP 3 (.int .i64 0)
          have z1 : (wP.alloc (.cells #[.int .i64 0] 3)).heap.size = wP.heap.size + 1 := by simp
          generalize wP.alloc (.cells #[.int .i64 0] 3) = U1 at *
          have b2 : Below U1.heap.size U1 (U1.alloc (.cells #[.pointer (some ⟨cx, 0, none⟩)] 24)) := (Below.refl _ _).alloc (Nat.le_refl _) _
          have o2 := Box.new U1 24 (.pointer (some ⟨cx, 0, none⟩))
          rw [z1] at o2
          have t2 := (TP.out.later b1).later b2
          exact ⟨t2, o1.later b2, o2, t2.low.size⟩)
        have BLN : Hid (bn ≠ wP.heap.size ∧ wP.heap.size ≠ cx ∧ wP.heap.size ≠ cy ∧ wP.heap.size ≠ cz ∧ w.heap.size ≤ wP.heap.size ∧ wP.heap.size + 1 ≠ wP.heap.size) := hide (by
          have := TP.out.nb.lt; have := TP.out.x.lt; have := TP.out.y.lt; have := TP.out.z.lt; have := TP.out.low.size; omega)
        go_wp2_with fail
        refine (all_any cx _).mono ?_
        rintro e w5' ⟨rfl, rfl⟩
        have zz : (wP.alloc (.cells #[.int .i64 0] 3)).heap.size = wP.heap.size + 1 := by simp
        rw [zz]
        clear zz TP
        generalize ((wP.alloc (.cells #[.int .i64 0] 3)).alloc (.cells #[.pointer (some ⟨cx, 0, none⟩)] 24)) = W5 at *
        obtain ⟨bl, hbl⟩ : ∃ bl, bl = wP.heap.size := ⟨_, rfl⟩
        rw [← hbl] at P5 BLN ⊢
        clear hbl
        obtain ⟨bc, hbc⟩ : ∃ bc, bc = bl + 1 := ⟨_, rfl⟩
        rw [← hbc] at P5 BLN ⊢
        clear hbc
        go_wp2_with fail
        have HSQ := hide (all_stays 8 (by omega) bc cx cx L1 HK1.out.ris HK1.out.pos (by have := HK1.out.len; have := HLN.out; omega) W5)
        refine (wpIn_wide (n := 9)).1 ?_
        refine' loop_leans (F := Fence.wide) (n := 9) rfl (by omega) (gf := 21) (lb := #[.pointer (some ⟨bc, 0, none⟩)]) rfl trivial (enters_of Tryd.func21 (by kernel_rfl) rfl) HSQ.out (fun h k => h.trans k) (fun W l o o' _ h ho _ => KpV.put h ho o') (fun _ => rfl)
          (fun s V => TS w bn cx cy cz n L1 L L V ∧ Box V bl 3 (.int .i64 ((min s.length (ab n L1) : Nat) : Int)) ∧ Box V bc 24 (.pointer (some ⟨cx, 0, none⟩)))
          (fun _ _ _ => False)
          (fun s V hs => ⟨hs.1.x, hs.2.2.cell⟩)
          (fun s A C row hs hg hr => ⟨hs.1.grown P5.out.2.2.2 hg hr, grown_cells hg (fun r e => (hr r e).2) hs.2.1, grown_cells hg (fun r e => (hr r e).2) hs.2.2⟩)
          (fun _ _ _ _ _ hs _ _ => hs)
          ⟨P5.out.1, by rw [List.length_nil, Nat.zero_min]; exact P5.out.2.1, P5.out.2.2.1⟩ _ ?assignA ?bodyA ?doneA ?stopA
        case assignA =>
          intro l x W K hK
          dsimp only [encP]
          gi_wp2
          exact hK
        case bodyA =>
          rintro l s x W ⟨hT, hB, hC⟩ ⟨_, hx⟩
          have c0 := hT.nb.cell
          have QT := hide hT
          have QB := hide hB
          have QC := hide hC
          have HX := hide hx
          clear hT hB hC hx
          by_cases hlo : s.length < ab n L1
          · have d1 : decide (x.1 ≤ n) = true := decide_eq_true (ab_lo hlo HX.out)
            have e0 : min s.length (ab n L1) = s.length := by omega
            have e1 : min (s ++ [x]).length (ab n L1) = s.length + 1 := by rw [List.length_append]; simp; omega
            have hB := QB.out
            rw [e0] at hB
            have b0 := hB.cell
            have b1 := hB.frozen
            have wk : wrap64 ((s.length : Int) + 1) = (s.length : Int) + 1 := by have := HZ.out; unfold wrap64; omega
            obtain ⟨n1, n2, n3, n4, n5, n6⟩ := BLN.out
            have RT := hide (QT.out.set hB n1 n2 n3 n4 n5 (.int .i64 ((s.length : Int) + 1)))
            have RB : Hid (Box (W.setCell ⟨bl, 0, none⟩ (.int .i64 ((s.length : Int) + 1))) bl 3 (.int .i64 ((min (s ++ [x]).length (ab n L1) : Nat) : Int))) := hide (by rw [e1]; exact hB.set _)
            have RC := hide (QC.out.other n6 (.int .i64 ((s.length : Int) + 1)))
            have RK : Hid (KpV W (W.setCell ⟨bl, 0, none⟩ (.int .i64 ((s.length : Int) + 1)))) := hide (KpV.set hB (by decide) _)
            have RF : Hid (KeepsFrom W5.heap.size W (W.setCell ⟨bl, 0, none⟩ (.int .i64 ((s.length : Int) + 1)))) := hide ((KeepsOthers.setCell _ _ _).from _)
            generalize (s.length : Int) = si at *
            clear hlo hB e0 e1 n1 n2 n3 n4 n5 n6 QT QB QC
            gi_wp2
            exact ⟨RF.out, RK.out, RT.out, RB.out, RC.out⟩
          · have d1 : decide (x.1 ≤ n) = false := decide_eq_false (by have := ab_hi HK1.out.ris (Nat.le_of_not_lt hlo) HX.out; omega)
            have e1 : min (s ++ [x]).length (ab n L1) = min s.length (ab n L1) := by rw [List.length_append]; simp; omega
            have RB : Hid (Box W bl 3 (.int .i64 ((min (s ++ [x]).length (ab n L1) : Nat) : Int))) := hide (by rw [e1]; exact QB.out)
            clear hlo e1 QB
            gi_wp2
            exact ⟨KeepsFrom.refl _ _, KpV.below (Below.refl _ _), QT.out, RB.out, QC.out⟩
        case stopA =>
          rintro D c s W hD _ hF
          exact hF.elim
        case doneA =>
          rintro D s W hD rfl ⟨hT, hB, _⟩ hK
          rw [Nat.min_eq_right (ab_le n s)] at hB
          have c0 := hB.cell
          have c1 := hT.nb.cell
          have d1 : decide ((1 : Int) < (ab n s : Int)) = false := decide_eq_false (by have := HZ.out; omega)
          have QT := hide hT
          have HDD : Hid (W5.heap.size ≤ D) := hide hD
          have HKD := hide hK
          have ZL := hide P5.out.2.2.2
          clear hT hB hK hD P5 HSQ BLN
          by_cases hmn : more < n
          · have d2 : decide (more < n) = true := decide_eq_true hmn
            clear hmn
            go_wp2_with fail
            have PZ := QT.out.grown (D := W5.heap.size) ZL.out (grownBy_putObj' W D (.deferred none)) (fun r e => by cases e; exact ⟨HDD.out, _, HKD.out, rfl⟩)
            refine ⟨by simp, .inl ⟨_, _, rfl, run_takeDeferred HKD.out, ?_⟩⟩
            exact ⟨.bool true, results_tmp (fn := Tryd.f3) (t := 8) rfl _ _ _, rfl, PZ.low⟩
          · have d2 : decide (more < n) = false := decide_eq_false hmn
            obtain ⟨m1, hm1⟩ : ∃ m1, m1 = ab more s - 1 := ⟨_, rfl⟩
            obtain ⟨m2, hm2⟩ : ∃ m2, m2 = ab more L - 1 := ⟨_, rfl⟩
            have hmm : m2 = m0 + m1 := by
              have h1 := ab_mono (Int.not_lt.1 hmn) L
              have h2 := HM0.out
              rw [hm1, hm2, HL1.out, ab_drop more L m0 HK.out.ris]; omega
            have hdd : L.drop m2 = s.drop m1 := by rw [hmm, HL1.out, List.drop_drop]
            have HPX := hide (fun (V : World) (h : CH V cx cx s) => prune_any more cx cx ps.length s V h HK1.out HLN.out)
            have HPZ := hide (fun (V : World) (h : CH V cz cz L) => prune_any more cz cz ps.length L V h HK.out HLN.out)
            rw [← hm1] at HPX
            rw [← hm2, hdd] at HPZ
            have HK2 : Hid (LK (s.drop m1) ps.length) := hide (HK1.out.drop m1)
            have wm : wrap64 ((m0 : Int) + (m1 : Int)) = (m2 : Int) := by
              have h2 := HM0.out; have h3 := ab_le n L; have h4 := ab_le more L; have h5 := HK.out.len; have h6 := HLN.out
              rw [hmm]; unfold wrap64; omega
            clear hmn hm1 hm2 hmm hdd
            go_wp2_with fail
            refine (HPX.out _ QT.out.x).mono ?_
            rintro e wB ⟨rfl, hcB, hfB⟩
            have TB := hide (QT.out.onX hcB hfB)
            have KB : Hid (wB.heap[D]? = some (.deferred (some []))) := hide ((hfB.block D (Array.getElem?_eq_some_iff.1 HKD.out).1 (fun e => by
              obtain ⟨_, v, em, hh, _⟩ := QT.out.x
              have := HKD.out; rw [e, hh] at this; cases this) (QT.out.x.row_no HKD.out rfl)).trans HKD.out)
            clear hcB hfB HPX QT HKD c0 c1
            go_wp2_with fail
            refine (HPZ.out _ TB.out.z).mono ?_
            rintro e wC ⟨rfl, hcC, hfC⟩
            have TC := hide (TB.out.onZ hcC hfC)
            have KC : Hid (wC.heap[D]? = some (.deferred (some []))) := hide ((hfC.block D (Array.getElem?_eq_some_iff.1 KB.out).1 (fun e => by
              obtain ⟨_, v, em, hh, _⟩ := TB.out.z
              have := KB.out; rw [e, hh] at this; cases this) (TB.out.z.row_no KB.out rfl)).trans KB.out)
            clear hcC hfC HPZ TB KB
            go_wp2_with fail
            refine (allr_any cx cx (s.drop m1) (ps.length : Int) wC TC.out.x HK2.out.ris HK2.out.pos (by have := HK2.out.len; have := HLN.out; omega) (by have := HK2.out.len; omega)).mono ?_
            rintro e wD ⟨va, rfl, hoD, hbD⟩
            have TD := hide (TC.out.later hbD)
            have RD := hide hoD.rv
            have KD : Hid (wD.heap[D]? = some (.deferred (some []))) := hide ((hbD.block D (Array.getElem?_eq_some_iff.1 KC.out).1).trans KC.out)
            clear hoD hbD TC KC
            go_wp2_with fail
            refine (allr_any cz cz (s.drop m1) (ps.length : Int) wD TD.out.z HK2.out.ris HK2.out.pos (by have := HK2.out.len; have := HLN.out; omega) (by have := HK2.out.len; omega)).mono ?_
            rintro e wE ⟨vb, rfl, hoE, hbE⟩
            have TE := hide (TD.out.later hbE)
            have RE := hide hoE.rv
            have RD2 := hide (RD.out.later hbE)
            have KE : Hid (wE.heap[D]? = some (.deferred (some []))) := hide ((hbE.block D (Array.getElem?_eq_some_iff.1 KD.out).1).trans KD.out)
            clear hoE hbE TD KD RD
            go_wp2_with fail
            refine (same_any va vb (s.drop m1) wE RD2.out RE.out (by have := HK2.out.len; have := HLN.out; omega)).mono ?_
            rintro e wF ⟨rfl, hbF⟩
            have TF := hide (TE.out.later hbF)
            have KF : Hid (wF.heap[D]? = some (.deferred (some []))) := hide ((hbF.block D (Array.getElem?_eq_some_iff.1 KE.out).1).trans KE.out)
            clear hbF TE KE RE RD2
            go_wp2_with fail
            have PZ := TF.out.grown (D := W5.heap.size) ZL.out (grownBy_putObj' wF D (.deferred none)) (fun r e => by cases e; exact ⟨HDD.out, _, KF.out, rfl⟩)
            refine ⟨by simp, .inl ⟨_, _, rfl, run_takeDeferred KF.out, ?_⟩⟩
            exact ⟨.bool true, results_tmp (fn := Tryd.f3) (t := 8) rfl _ _ _, rfl, PZ.low⟩
      · have hput := put_any lp.1 [109, 111, 114, 101] cx cx ps.length L1 wN TN.out.x HK1.out HLN.out
        rw [if_neg (by rw [HLP.out rfl]; omega), if_neg (by rw [HLP.out rfl]; omega), errV_pos (show (1 : Int) ≤ 1 by omega)] at hput
        clear HLP
        go_wp2_with fail
        refine hput.mono ?_
        rintro e wO ⟨rfl, hcO, hfO⟩
        have TO := hide (TN.out.onX hcO hfO)
        clear hcO hfO TN hput
        go_wp2_with fail
        refine (HPL.out _ (HE.out.below TO.out.low)).mono ?_
        rintro e wP ⟨rfl, hb⟩
        have TP := hide (TO.out.later hb)
        clear hb TO
        have P5 : Hid (TS w bn cx cy cz n L1 L L ((wP.alloc (.cells #[.int .i64 0] 3)).alloc (.cells #[.pointer (some ⟨cx, 0, none⟩)] 24)) ∧ Box ((wP.alloc (.cells #[.int .i64 0] 3)).alloc (.cells #[.pointer (some ⟨cx, 0, none⟩)] 24)) wP.heap.size 3 (.int .i64 0) ∧ Box ((wP.alloc (.cells #[.int .i64 0] 3)).alloc (.cells #[.pointer (some ⟨cx, 0, none⟩)] 24)) (wP.heap.size + 1) 24 (.pointer (some ⟨cx, 0, none⟩)) ∧ w.heap.size ≤ ((wP.alloc (.cells #[.int .i64 0] 3)).alloc (.cells #[.pointer (some ⟨cx, 0, none⟩)] 24)).heap.size) := hide (by
          have b1 : Below wP.heap.size wP (wP.alloc (.cells #[.int .i64 0] 3)) := (Below.refl _ _).alloc (Nat.le_refl _) _
          have o1 := Box.new wP 3 (.int .i64 0)
          have z1 : (wP.alloc (.cells #[.int .i64 0] 3)).heap.size = wP.heap.size + 1 := by simp
          generalize wP.alloc (.cells #[.int .i64 0] 3) = U1 at *
          have b2 : Below U1.heap.size U1 (U1.alloc (.cells #[.pointer (some ⟨cx, 0, none⟩)] 24)) := (Below.refl _ _).alloc (Nat.le_refl _) _
          have o2 := Box.new U1 24 (.pointer (some ⟨cx, 0, none⟩))
          rw [z1] at o2
          have t2 := (TP.out.later b1).later b2
          exact ⟨t2, o1.later b2, o2, t2.low.size⟩)
        have BLN : Hid (bn ≠ wP.heap.size ∧ wP.heap.size ≠ cx ∧ wP.heap.size ≠ cy ∧ wP.heap.size ≠ cz ∧ w.heap.size ≤ wP.heap.size ∧ wP.heap.size + 1 ≠ wP.heap.size) := hide (by
          have := TP.out.nb.lt; have := TP.out.x.lt; have := TP.out.y.lt; have := TP.out.z.lt; have := TP.out.low.size; omega)
        go_wp2_with fail
        refine (all_any cx _).mono ?_
        rintro e w5' ⟨rfl, rfl⟩
        have zz : (wP.alloc (.cells #[.int .i64 0] 3)).heap.size = wP.heap.size + 1 := by simp
        rw [zz]
        clear zz TP
        generalize ((wP.alloc (.cells #[.int .i64 0] 3)).alloc (.cells #[.pointer (some ⟨cx, 0, none⟩)] 24)) = W5 at *
        obtain ⟨bl, hbl⟩ : ∃ bl, bl = wP.heap.size := ⟨_, rfl⟩
        rw [← hbl] at P5 BLN ⊢
        clear hbl
        obtain ⟨bc, hbc⟩ : ∃ bc, bc = bl + 1 := ⟨_, rfl⟩
        rw [← hbc] at P5 BLN ⊢
        clear hbc
        go_wp2_with fail
        have HSQ := hide (all_stays 8 (by omega) bc cx cx L1 HK1.out.ris HK1.out.pos (by have := HK1.out.len; have := HLN.out; omega) W5)
        refine (wpIn_wide (n := 9)).1 ?_
        refine' loop_leans (F := Fence.wide) (n := 9) rfl (by omega) (gf := 21) (lb := #[.pointer (some ⟨bc, 0, none⟩)]) rfl trivial (enters_of Tryd.func21 (by kernel_rfl) rfl) HSQ.out (fun h k => h.trans k) (fun W l o o' _ h ho _ => KpV.put h ho o') (fun _ => rfl)
          (fun s V => TS w bn cx cy cz n L1 L L V ∧ Box V bl 3 (.int .i64 ((min s.length (ab n L1) : Nat) : Int)) ∧ Box V bc 24 (.pointer (some ⟨cx, 0, none⟩)))
          (fun _ _ _ => False)
          (fun s V hs => ⟨hs.1.x, hs.2.2.cell⟩)
          (fun s A C row hs hg hr => ⟨hs.1.grown P5.out.2.2.2 hg hr, grown_cells hg (fun r e => (hr r e).2) hs.2.1, grown_cells hg (fun r e => (hr r e).2) hs.2.2⟩)
          (fun _ _ _ _ _ hs _ _ => hs)
          ⟨P5.out.1, by rw [List.length_nil, Nat.zero_min]; exact P5.out.2.1, P5.out.2.2.1⟩ _ ?assignB ?bodyB ?doneB ?stopB
        case assignB =>
          intro l x W K hK
          dsimp only [encP]
          gi_wp2
          exact hK
        case bodyB =>
          rintro l s x W ⟨hT, hB, hC⟩ ⟨_, hx⟩
          have c0 := hT.nb.cell
          have QT := hide hT
          have QB := hide hB
          have QC := hide hC
          have HX := hide hx
          clear hT hB hC hx
          by_cases hlo : s.length < ab n L1
          · have d1 : decide (x.1 ≤ n) = true := decide_eq_true (ab_lo hlo HX.out)
            have e0 : min s.length (ab n L1) = s.length := by omega
            have e1 : min (s ++ [x]).length (ab n L1) = s.length + 1 := by rw [List.length_append]; simp; omega
            have hB := QB.out
            rw [e0] at hB
            have b0 := hB.cell
            have b1 := hB.frozen
            have wk : wrap64 ((s.length : Int) + 1) = (s.length : Int) + 1 := by have := HZ.out; unfold wrap64; omega
            obtain ⟨n1, n2, n3, n4, n5, n6⟩ := BLN.out
            have RT := hide (QT.out.set hB n1 n2 n3 n4 n5 (.int .i64 ((s.length : Int) + 1)))
            have RB : Hid (Box (W.setCell ⟨bl, 0, none⟩ (.int .i64 ((s.length : Int) + 1))) bl 3 (.int .i64 ((min (s ++ [x]).length (ab n L1) : Nat) : Int))) := hide (by rw [e1]; exact hB.set _)
            have RC := hide (QC.out.other n6 (.int .i64 ((s.length : Int) + 1)))
            have RK : Hid (KpV W (W.setCell ⟨bl, 0, none⟩ (.int .i64 ((s.length : Int) + 1)))) := hide (KpV.set hB (by decide) _)
            have RF : Hid (KeepsFrom W5.heap.size W (W.setCell ⟨bl, 0, none⟩ (.int .i64 ((s.length : Int) + 1)))) := hide ((KeepsOthers.setCell _ _ _).from _)
            generalize (s.length : Int) = si at *
            clear hlo hB e0 e1 n1 n2 n3 n4 n5 n6 QT QB QC
            gi_wp2
            exact ⟨RF.out, RK.out, RT.out, RB.out, RC.out⟩
          · have d1 : decide (x.1 ≤ n) = false := decide_eq_false (by have := ab_hi HK1.out.ris (Nat.le_of_not_lt hlo) HX.out; omega)
            have e1 : min (s ++ [x]).length (ab n L1) = min s.length (ab n L1) := by rw [List.length_append]; simp; omega
            have RB : Hid (Box W bl 3 (.int .i64 ((min (s ++ [x]).length (ab n L1) : Nat) : Int))) := hide (by rw [e1]; exact QB.out)
            clear hlo e1 QB
            gi_wp2
            exact ⟨KeepsFrom.refl _ _, KpV.below (Below.refl _ _), QT.out, RB.out, QC.out⟩
        case stopB =>
          rintro D c s W hD _ hF
          exact hF.elim
        case doneB =>
          rintro D s W hD rfl ⟨hT, hB, _⟩ hK
          rw [Nat.min_eq_right (ab_le n s)] at hB
          have c0 := hB.cell
          have c1 := hT.nb.cell
          have d1 : decide ((1 : Int) < (ab n s : Int)) = false := decide_eq_false (by have := HZ.out; omega)
          have QT := hide hT
          have HDD : Hid (W5.heap.size ≤ D) := hide hD
          have HKD := hide hK
          have ZL := hide P5.out.2.2.2
          clear hT hB hK hD P5 HSQ BLN
          by_cases hmn : more < n
          · have d2 : decide (more < n) = true := decide_eq_true hmn
            clear hmn
            go_wp2_with fail
            have PZ := QT.out.grown (D := W5.heap.size) ZL.out (grownBy_putObj' W D (.deferred none)) (fun r e => by cases e; exact ⟨HDD.out, _, HKD.out, rfl⟩)
            refine ⟨by simp, .inl ⟨_, _, rfl, run_takeDeferred HKD.out, ?_⟩⟩
            exact ⟨.bool true, results_tmp (fn := Tryd.f3) (t := 8) rfl _ _ _, rfl, PZ.low⟩
          · have d2 : decide (more < n) = false := decide_eq_false hmn
            obtain ⟨m1, hm1⟩ : ∃ m1, m1 = ab more s - 1 := ⟨_, rfl⟩
            obtain ⟨m2, hm2⟩ : ∃ m2, m2 = ab more L - 1 := ⟨_, rfl⟩
            have hmm : m2 = m0 + m1 := by
              have h1 := ab_mono (Int.not_lt.1 hmn) L
              have h2 := HM0.out
              rw [hm1, hm2, HL1.out, ab_drop more L m0 HK.out.ris]; omega
            have hdd : L.drop m2 = s.drop m1 := by rw [hmm, HL1.out, List.drop_drop]
            have HPX := hide (fun (V : World) (h : CH V cx cx s) => prune_any more cx cx ps.length s V h HK1.out HLN.out)
            have HPZ := hide (fun (V : World) (h : CH V cz cz L) => prune_any more cz cz ps.length L V h HK.out HLN.out)
            rw [← hm1] at HPX
            rw [← hm2, hdd] at HPZ
            have HK2 : Hid (LK (s.drop m1) ps.length) := hide (HK1.out.drop m1)
            have wm : wrap64 ((m0 : Int) + (m1 : Int)) = (m2 : Int) := by
              have h2 := HM0.out; have h3 := ab_le n L; have h4 := ab_le more L; have h5 := HK.out.len; have h6 := HLN.out
              rw [hmm]; unfold wrap64; omega
            clear hmn hm1 hm2 hmm hdd
            go_wp2_with fail
            refine (HPX.out _ QT.out.x).mono ?_
            rintro e wB ⟨rfl, hcB, hfB⟩
            have TB := hide (QT.out.onX hcB hfB)
            have KB : Hid (wB.heap[D]? = some (.deferred (some []))) := hide ((hfB.block D (Array.getElem?_eq_some_iff.1 HKD.out).1 (fun e => by
              obtain ⟨_, v, em, hh, _⟩ := QT.out.x
              have := HKD.out; rw [e, hh] at this; cases this) (QT.out.x.row_no HKD.out rfl)).trans HKD.out)
            clear hcB hfB HPX QT HKD c0 c1
            go_wp2_with fail
            refine (HPZ.out _ TB.out.z).mono ?_
            rintro e wC ⟨rfl, hcC, hfC⟩
            have TC := hide (TB.out.onZ hcC hfC)
            have KC : Hid (wC.heap[D]? = some (.deferred (some []))) := hide ((hfC.block D (Array.getElem?_eq_some_iff.1 KB.out).1 (fun e => by
              obtain ⟨_, v, em, hh, _⟩ := TB.out.z
              have := KB.out; rw [e, hh] at this; cases this) (TB.out.z.row_no KB.out rfl)).trans KB.out)
            clear hcC hfC HPZ TB KB
            go_wp2_with fail
            refine (allr_any cx cx (s.drop m1) (ps.length : Int) wC TC.out.x HK2.out.ris HK2.out.pos (by have := HK2.out.len; have := HLN.out; omega) (by have := HK2.out.len; omega)).mono ?_
            rintro e wD ⟨va, rfl, hoD, hbD⟩
            have TD := hide (TC.out.later hbD)
            have RD := hide hoD.rv
            have KD : Hid (wD.heap[D]? = some (.deferred (some []))) := hide ((hbD.block D (Array.getElem?_eq_some_iff.1 KC.out).1).trans KC.out)
            clear hoD hbD TC KC
            go_wp2_with fail
            refine (allr_any cz cz (s.drop m1) (ps.length : Int) wD TD.out.z HK2.out.ris HK2.out.pos (by have := HK2.out.len; have := HLN.out; omega) (by have := HK2.out.len; omega)).mono ?_
            rintro e wE ⟨vb, rfl, hoE, hbE⟩
            have TE := hide (TD.out.later hbE)
            have RE := hide hoE.rv
            have RD2 := hide (RD.out.later hbE)
            have KE : Hid (wE.heap[D]? = some (.deferred (some []))) := hide ((hbE.block D (Array.getElem?_eq_some_iff.1 KD.out).1).trans KD.out)
            clear hoE hbE TD KD RD
            go_wp2_with fail
            refine (same_any va vb (s.drop m1) wE RD2.out RE.out (by have := HK2.out.len; have := HLN.out; omega)).mono ?_
            rintro e wF ⟨rfl, hbF⟩
            have TF := hide (TE.out.later hbF)
            have KF : Hid (wF.heap[D]? = some (.deferred (some []))) := hide ((hbF.block D (Array.getElem?_eq_some_iff.1 KE.out).1).trans KE.out)
            clear hbF TE KE RE RD2
            go_wp2_with fail
            have PZ := TF.out.grown (D := W5.heap.size) ZL.out (grownBy_putObj' wF D (.deferred none)) (fun r e => by cases e; exact ⟨HDD.out, _, KF.out, rfl⟩)
            refine ⟨by simp, .inl ⟨_, _, rfl, run_takeDeferred KF.out, ?_⟩⟩
            exact ⟨.bool true, results_tmp (fn := Tryd.f3) (t := 8) rfl _ _ _, rfl, PZ.low⟩
end Go.Proofs.YtjdjpnlkmaapiaaDoor
