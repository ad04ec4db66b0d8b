/-
  My own text: the law PartialWhole.
-/
import Derived.Test.YtmojckejjjlkjaaDoorYD
import Derived.Test.YtmojckejjjlkjaaDoorYB
namespace Go.Proofs.YtmojckejjjlkjaaDoor
open Go.RowKit

theorem ifNeqNil (W : World) : (binOp .neq 26 .nilIface .nilIface).run Tryd.prog W = .ok (.bool false) W := by kernel_rfl
theorem ifNeqErr (k : Int) (W : World) : (binOp .neq 26 (.iface 64 (.int .i64 k)) .nilIface).run Tryd.prog W = .ok (.bool true) W := by kernel_rfl
theorem bad_cases {a b c d : Int} (h : badO a b c d) : (decide (a < 1) || (decide (b < 0) || (decide (c < 1) || decide (d < 0)))) = true := by
  unfold badO at h
  simp only [Bool.or_eq_true, decide_eq_true_eq]
  omega
theorem meas_up {n k : Nat} (h : k < n) : n - (intOf (Value.int .i64 ((k : Int) + 1))).toNat < n - (intOf (Value.int .i64 (k : Int))).toNat := by simp [intOf]; omega
theorem w_sum {l a b t p u v Q : Int} (hu : l + a = u) (hv : l + b = v) (hst : b = a + p) (_ha : 0 ≤ a) (hb0 : 0 ≤ b) (hb : b ≤ t) (hl : 0 ≤ l) (hQ : l + t = Q) (hQ1 : Q ≤ 9223372036854775807) : wrap64 (u + p) = v := by
  unfold wrap64; omega
set_option maxRecDepth 100000 in
set_option maxHeartbeats 8000000 in
theorem whole_law (a b c d : Int) (sv : Value) (S : List Cq) (w : World) (hE : ErrType w) (hS : RC w sv S) (hl : S.length ≤ 4398046510976) (hk : ∀ p ∈ S, I6 p.on ∧ I6 p.hv ∧ I6 p.ca)
    (ha : I6 a ∧ I6 b ∧ I6 c ∧ I6 d) :
    Calls Tryd.prog 8 #[.agg #[.int .i64 a, .int .i64 b, .int .i64 c, .int .i64 d], sv] w fun e w' => e = .returned (.bool true) ∧ Below w.heap.size w w' := by
  obtain ⟨sa, sc, rfl, hsc⟩ := hS
  have HS := hide hsc
  have HL := hide hl
  have HK := hide hk
  have HE := hide hE
  have HA := hide ha
  clear hsc hl hk ha hE
  obtain ⟨W1, hW1⟩ : ∃ W1, w.alloc (.cells #[.int .i64 a, .int .i64 b, .int .i64 c, .int .i64 d] 22) = W1 := ⟨_, rfl⟩
  have hS1 := (Sep.nil (w0 := w) (w := w) (Below.refl _ _)).box #[.int .i64 a, .int .i64 b, .int .i64 c, .int .i64 d] 22
  rw [hW1] at hS1
  obtain ⟨s, hs⟩ : ∃ s, w.heap.size = s := ⟨_, rfl⟩
  rw [hs] at hS1
  have HS1 : Hid (Sep w W1 [BCp s #[.int .i64 a, .int .i64 b, .int .i64 c, .int .i64 d] 22]) := hide hS1
  obtain ⟨y0, y1, y2, y3⟩ := four_cells (HS1.out.is 0 _ rfl) rfl
  clear hS1
  by_cases hb : badO a b c d
  · have HN := hide (new_bad a b c d W1 hb)
    have HBC := hide (bad_cases hb)
    have HBB := hide hb
    clear hb
    go_enter Tryd.func8, Tryd.ntmps8
    go_wp2_with fail
    refine HN.out.mono ?_
    rintro e w2 ⟨rfl, hb2⟩
    have HS2 := hide (HS1.out.later hb2)
    clear hb2 HN y0 y1 y2 y3
    go_wp2_with fail
    refine (works_any _).mono ?_
    rintro e w3 ⟨rfl, hb3⟩
    have HS3 := hide (HS2.out.later hb3)
    obtain ⟨y0, y1, y2, y3⟩ := four_cells (HS3.out.is 0 _ rfl) rfl
    have HP3 := hide (plain_errV 1 1 w3 (by decide) (by decide) (HE.out.below HS3.out.bl))
    rw [errV_pos (by decide)]
    rw [errV_pos (by decide)] at HP3
    have ne := ifNeqErr 1
    clear hb3 HS2
    go_wp2_with fail
    refine HP3.out.mono ?_
    rintro e w4 ⟨rfl, hb4⟩
    have HS4 := hide (HS3.out.later hb4)
    obtain ⟨y0, y1, y2, y3⟩ := four_cells (HS4.out.is 0 _ rfl) rfl
    have z1 : ((1 : Int) == 1) = true := rfl
    clear hb4 HS3 HP3
    by_cases k1 : a < 1
    · have d1 : decide (a < 1) = true := decide_eq_true k1
      go_wp2_with fail
      go_ret
      exact ⟨rfl, HS4.out.bl⟩
    have d1 : decide (a < 1) = false := decide_eq_false k1
    by_cases k2 : b < 0
    · have d2 : decide (b < 0) = true := decide_eq_true k2
      go_wp2_with fail
      go_ret
      exact ⟨rfl, HS4.out.bl⟩
    have d2 : decide (b < 0) = false := decide_eq_false k2
    by_cases k3 : c < 1
    · have d3 : decide (c < 1) = true := decide_eq_true k3
      go_wp2_with fail
      go_ret
      exact ⟨rfl, HS4.out.bl⟩
    have d3 : decide (c < 1) = false := decide_eq_false k3
    have d4 : decide (d < 0) = true := decide_eq_true (by have := HBB.out; unfold badO at this; omega)
    go_wp2_with fail
    go_ret
    exact ⟨rfl, HS4.out.bl⟩
  · have HN := hide (new_ok a b c d W1 hb)
    have HOK := hide (Od.fresh_ok hb HA.out.1.2 HA.out.2.1.2 HA.out.2.2.1.2 HA.out.2.2.2.2)
    have ne := ifNeqNil
    clear hb
    go_enter Tryd.func8, Tryd.ntmps8
    go_wp2_with fail
    refine HN.out.mono ?_
    rintro e w2 ⟨g, rfl, hg, ho, hb2⟩
    rw [errV_zero]
    have HS2 : Hid (Sep w w2 [BCp s #[.int .i64 a, .int .i64 b, .int .i64 c, .int .i64 d] 22, OC false g ⟨a, b, c, d, 0, []⟩ (.slice none 0 0)]) := hide (HS1.out.new hb2 (OC.ok _ _ _ _) (fun _ => ho) (fun x hx => by
      rcases hx.2 with q | q
      · omega
      · cases q))
    clear hb2 HN y0 y1 y2 y3 hg ho hW1 HS1
    go_wp2_with fail
    refine (works_any _).mono ?_
    rintro e w3 ⟨rfl, hb3⟩
    have HS3 := hide (HS2.out.later hb3)
    obtain ⟨y0, y1, y2, y3⟩ := four_cells (HS3.out.is 0 _ rfl) rfl
    clear hb3 HS2
    go_wp2_with fail
    have HW0 : Hid (∃ pv, Sep w w3 [BCp s #[.int .i64 a, .int .i64 b, .int .i64 c, .int .i64 d] 22, OC false g ⟨a, b, c, d, 0, []⟩ pv]) := hide ⟨_, HS3.out⟩
    have HSS := hide HS3.out
    have HO0 : Hid ((Od.mk a b c d 0 []).Ok ∧ (Od.mk a b c d 0 []).In ∧ (Od.mk a b c d 0 []).P.length ≤ 0 ∧ (Od.mk a b c d 0 []).Q = a ∧ (Od.mk a b c d 0 []).A = b ∧ (Od.mk a b c d 0 []).L = c ∧ (Od.mk a b c d 0 []).K = d) := hide ⟨HOK.out, Od.In.new a b c d, Nat.le_refl _, rfl, rfl, rfl, rfl⟩
    have el : (Od.mk a b c d 0 []).lq = a := by show a - 0 = a; omega
    have em : (Od.mk a b c d 0 []).lm = b := by show b - sh b 0 a = b; rw [sh_zero]; omega
    clear y0 y1 y2 y3 HS3
    go_loopw [7, 8, 9] (fun qv mv iv wr => ∃ (k : Nat) (o : Od) (pv : Value), k ≤ S.length ∧ iv = .int .i64 (k : Int) ∧ qv = .int .i64 o.lq ∧ mv = .int .i64 o.lm ∧ Hid (Sep w wr [BCp s #[.int .i64 a, .int .i64 b, .int .i64 c, .int .i64 d] 22, OC false g o pv]) ∧ Hid (o.Ok ∧ o.In ∧ o.P.length ≤ k ∧ o.Q = a ∧ o.A = b ∧ o.L = c ∧ o.K = d)) (fun _ _ iv _ => S.length - (intOf iv).toNat)
    case atStart => exact ⟨0, ⟨a, b, c, d, 0, []⟩, _, Nat.zero_le _, rfl, by rw [el], by rw [em], HSS, HO0⟩
    case round =>
      obtain ⟨k, o, pv, hk, rfl, rfl, rfl, HQ, HO⟩ := hrel
      by_cases hlt : k < S.length
      · obtain ⟨p, hp⟩ : ∃ p, S[k]? = some p := ⟨_, List.getElem?_eq_getElem hlt⟩
        obtain ⟨bs, off, rfl, hbl, hcc⟩ := HS.out.resolve_left (fun h => by rw [h] at hlt; simp at hlt)
        have HP := hide (HK.out p (List.mem_of_getElem? hp))
        have HSC : Hid (∀ W, Below w.heap.size w W → W.cell? ⟨bs, off + k * 4 + 1, none⟩ = some (.int .i64 p.hv) ∧ W.cell? ⟨bs, off + k * 4 + 2, none⟩ = some (.int .i64 p.ca)) := hide (fun W hb => ⟨(hb.cell (p := ⟨bs, _, none⟩) hbl).trans (hcc k p hp).2.1, (hb.cell (p := ⟨bs, _, none⟩) hbl).trans (hcc k p hp).2.2.1⟩)
        have hd1 : decide ((k : Int) < (S.length : Int)) = true := by rw [decide_eq_true_eq]; omega
        have k0 : (0 : Int) ≤ (k : Int) := by omega
        have k1 : (k : Int) < (S.length : Int) := by omega
        have wk : wrap64 ((k : Int) + 1) = (k : Int) + 1 := by have := HL.out; unfold wrap64; omega
        have HKn := hide (And.intro hlt hk)
        obtain ⟨ok, oin, opl, oQ, oA, oL, oK⟩ := HO.out
        obtain ⟨on, hv, ca, ak⟩ := p
        dsimp only at HP HSC
        have HT : Hid (∀ W, Sep w W [BCp s #[.int .i64 a, .int .i64 b, .int .i64 c, .int .i64 d] 22, OC false g o pv] → Calls Tryd.prog 18 #[.pointer (some ⟨g, 0, none⟩), .int .i64 hv, .int .i64 ca] W fun e w' => e = .returned (.tuple #[.int .i64 (o.q hv ca), .int .i64 (o.m hv ca)]) ∧ ∃ p2, Sep w w' [BCp s #[.int .i64 a, .int .i64 b, .int .i64 c, .int .i64 d] 22, OC false g (o.tk hv ca) p2] ∧ w'.cell? ⟨bs, off + k * 4 + 1, none⟩ = some (.int .i64 hv) ∧ w'.cell? ⟨bs, off + k * 4 + 2, none⟩ = some (.int .i64 ca)) := hide (fun W h => by
          have h0 : OB W g o pv := h.is 1 _ rfl rfl
          refine (take_any g o pv hv ca W h0 ok HP.out.2.1.2 (by have := HL.out; omega)).mono ?_
          rintro e w' ⟨rfl, p2, h1, h2, h3⟩
          have h4 : Sep w w' [BCp s #[.int .i64 a, .int .i64 b, .int .i64 c, .int .i64 d] 22, OC false g (o.tk hv ca) p2] := h.step (i := 1) (c' := OC false g (o.tk hv ca) p2) rfl ⟨h2.os, h2.tape, h2.output, h2.size, fun y hy hn => h2.block y hy (fun q => hn ⟨rfl, q⟩)⟩ (OC.ok _ _ _ _) (fun _ => h1) (fun x hx => by
            rcases hx.2 with q | q
            · exact .inl ⟨rfl, .inl q⟩
            · exact (h3 x q).imp (fun q2 => ⟨rfl, .inr q2⟩) id)
          exact ⟨rfl, p2, h4, HSC.out _ h4.bl⟩)
        have ok2 := Od.tk_ok ok hv ca
        have HO2 : Hid ((o.tk hv ca).Ok ∧ (o.tk hv ca).In ∧ (o.tk hv ca).P.length ≤ k + 1 ∧ (o.tk hv ca).Q = a ∧ (o.tk hv ca).A = b ∧ (o.tk hv ca).L = c ∧ (o.tk hv ca).K = d) := hide (by
          have h8 := tk_len o hv ca
          refine ⟨ok2, oin.tk ok hv ca, by omega, ?_⟩
          by_cases e : o.q hv ca = 0
          · rw [Od.tk_zero e]; exact ⟨oQ, oA, oL, oK⟩
          · rw [Od.tk_pos e]; exact ⟨oQ, oA, oL, oK⟩)
        have HLF : Hid (∀ W pw, Sep w W [BCp s #[.int .i64 a, .int .i64 b, .int .i64 c, .int .i64 d] 22, OC false g (o.tk hv ca) pw] → Calls Tryd.prog 27 #[.pointer (some ⟨g, 0, none⟩)] W fun e w' => e = .returned (.tuple #[.int .i64 (o.tk hv ca).lq, .int .i64 (o.tk hv ca).lm]) ∧ Below W.heap.size W w') := hide (fun W pw h => left_any g _ pw W (h.is 1 _ rfl rfl) ok2)
        have F := q_facts ok hv ca
        have B1 := l_bnd ok
        have B2 := l_bnd ok2
        have E1 := lq_tk (o := o) hv ca
        have E2 := lm_tk (o := o) hv ca
        have oL0 := ok.L0
        rw [oL, oK] at F
        rw [oL] at oL0
        obtain ⟨q, hq⟩ : ∃ q, o.q hv ca = q := ⟨_, rfl⟩
        obtain ⟨m, hm⟩ : ∃ q, o.m hv ca = q := ⟨_, rfl⟩
        obtain ⟨lq, hlq⟩ : ∃ q, o.lq = q := ⟨_, rfl⟩
        obtain ⟨lm, hlm⟩ : ∃ q, o.lm = q := ⟨_, rfl⟩
        obtain ⟨o2, ho2⟩ : ∃ x, o.tk hv ca = x := ⟨_, rfl⟩
        rw [show o.Q - o.D = lq from hlq] at F
        rw [hq, hm, hlm] at F
        rw [hlq, hlm] at B1
        rw [ho2] at HT HO2 HLF B2 E1 E2
        rw [hq, hm] at HT
        rw [hq, hlq] at E1
        rw [hm, hlm] at E2
        rw [hlq, hlm]
        obtain ⟨lq2, hlq2⟩ : ∃ q, o2.lq = q := ⟨_, rfl⟩
        obtain ⟨lm2, hlm2⟩ : ∃ q, o2.lm = q := ⟨_, rfl⟩
        have HE2 := hide (And.intro hlq2 hlm2)
        rw [hlq2, hlm2] at HLF B2
        rw [hlq2] at E1
        rw [hlm2] at E2
        have wq : wrap64 (lq - q) = lq2 := by unfold wrap64; omega
        have wm : wrap64 (lm - m) = lm2 := by unfold wrap64; omega
        have d2 : decide (q < 0) = false := decide_eq_false (by omega)
        have d3 : decide (m < 0) = false := decide_eq_false (by omega)
        have d4 : decide (lq2 < 0) = false := decide_eq_false (by omega)
        have d5 : decide (lm2 < 0) = false := decide_eq_false (by omega)
        have n1 : (lq2 != lq2) = false := by simp
        have n2 : (lm2 != lm2) = false := by simp
        have cz : (c == 0) = false := by simp; omega
        have cn : ¬ c = 0 := by omega
        have hs0 := HQ.out.later ((Below.refl wr.heap.size wr).drew)
        have hd0 := HSC.out _ hs0.bl
        have hSW := HSC.out _ HQ.out.bl
        have HF := hide F
        have HB2 := hide B2
        clear hp hcc hbl hlt hk ok oin opl oQ oA oL oK HO ok2 F B1 B2 E1 E2 oL0 hq hm hlq hlm ho2 hlq2 hlm2
        go_wp2_with fail
        go_region_held3 (fun W => W.cell? ⟨bs, off + k * 4 + 1, none⟩ = some (.int .i64 hv) ∧ W.cell? ⟨bs, off + k * 4 + 2, none⟩ = some (.int .i64 ca)) (go_keep) ((first | (go_at_call 18; refine (HT.out _ hs0).mono ?_; rintro e w12 ⟨rfl, p2, hs2, hz1, hz2⟩)))
        have HS12 := hide hs2
        obtain ⟨y0, y1, y2, y3⟩ := four_cells (HS12.out.is 0 _ rfl) rfl
        have HLC := hide (HLF.out _ _ HS12.out)
        clear hs0 hd0 hSW HT HQ hs2 HLF
        by_cases q0 : q = 0
        · have g1 : decide (0 < q) = false := decide_eq_false (by omega)
          have g2 : (q == 0) = true := by rw [q0]; rfl
          have g3 : (m != 0) = false := by rw [HF.out.2.2.2.2.2.1 q0]; rfl
          clear q0
          go_wp2_with fail
          refine HLC.out.mono ?_
          rintro e w13 ⟨rfl, hb13⟩
          have HS13 := hide (HS12.out.later hb13)
          clear hb13
          by_cases z : lq2 = 0
          · have e1 : (lq2 == 0) = true := by rw [z]; rfl
            have e2 : (lm2 != 0) = false := by rw [HB2.out.2.2.2.2 z]; rfl
            clear z
            go_wp2_with fail
            go_roundw
            case rel => exact ⟨k + 1, o2, p2, HKn.out.1, by go_num, by rw [HE2.out.1], by rw [HE2.out.2], HS13, HO2⟩
            case measure => have := HKn.out.1; first | (rw [wk]; simp [intOf]; omega) | (simp [intOf]; omega)
          · have e1 : (lq2 == 0) = false := by simpa using z
            clear z
            go_wp2_with fail
            go_roundw
            case rel => exact ⟨k + 1, o2, p2, HKn.out.1, by go_num, by rw [HE2.out.1], by rw [HE2.out.2], HS13, HO2⟩
            case measure => have := HKn.out.1; first | (rw [wk]; simp [intOf]; omega) | (simp [intOf]; omega)
        · have hF := HF.out
          have g1 : decide (0 < q) = true := decide_eq_true (by omega)
          have g2 : (q == 0) = false := by simpa using q0
          have g4 : decide (hv < q) = false := decide_eq_false (by have := (hF.2.2.2.2.1 (by omega)).1; omega)
          have g5 : decide (ca < m) = false := decide_eq_false (by have := (hF.2.2.2.2.1 (by omega)).2; omega)
          by_cases q1 : q = lq
          · have g6 : (q != lq) = false := by rw [q1]; simp
            clear q0 q1 hF
            go_wp2_with fail
            refine HLC.out.mono ?_
            rintro e w13 ⟨rfl, hb13⟩
            have HS13 := hide (HS12.out.later hb13)
            clear hb13
            by_cases z : lq2 = 0
            · have e1 : (lq2 == 0) = true := by rw [z]; rfl
              have e2 : (lm2 != 0) = false := by rw [HB2.out.2.2.2.2 z]; rfl
              clear z
              go_wp2_with fail
              go_roundw
              case rel => exact ⟨k + 1, o2, p2, HKn.out.1, by go_num, by rw [HE2.out.1], by rw [HE2.out.2], HS13, HO2⟩
              case measure => have := HKn.out.1; first | (rw [wk]; simp [intOf]; omega) | (simp [intOf]; omega)
            · have e1 : (lq2 == 0) = false := by simpa using z
              clear z
              go_wp2_with fail
              go_roundw
              case rel => exact ⟨k + 1, o2, p2, HKn.out.1, by go_num, by rw [HE2.out.1], by rw [HE2.out.2], HS13, HO2⟩
              case measure => have := HKn.out.1; first | (rw [wk]; simp [intOf]; omega) | (simp [intOf]; omega)
          · have g6 : (q != lq) = true := by simpa using q1
            have h7 := hF.2.2.2.2.2.2 (by omega) q1
            have g7 : q.tmod c = 0 := by rw [Int.tmod_eq_emod_of_nonneg (by omega)]; exact h7.1
            have g8 : decide (q < d) = false := decide_eq_false (by have := h7.2; omega)
            clear q0 q1 hF h7
            go_wp2_with fail
            refine HLC.out.mono ?_
            rintro e w13 ⟨rfl, hb13⟩
            have HS13 := hide (HS12.out.later hb13)
            clear hb13
            by_cases z : lq2 = 0
            · have e1 : (lq2 == 0) = true := by rw [z]; rfl
              have e2 : (lm2 != 0) = false := by rw [HB2.out.2.2.2.2 z]; rfl
              clear z
              go_wp2_with fail
              go_roundw
              case rel => exact ⟨k + 1, o2, p2, HKn.out.1, by go_num, by rw [HE2.out.1], by rw [HE2.out.2], HS13, HO2⟩
              case measure => have := HKn.out.1; first | (rw [wk]; simp [intOf]; omega) | (simp [intOf]; omega)
            · have e1 : (lq2 == 0) = false := by simpa using z
              clear z
              go_wp2_with fail
              go_roundw
              case rel => exact ⟨k + 1, o2, p2, HKn.out.1, by go_num, by rw [HE2.out.1], by rw [HE2.out.2], HS13, HO2⟩
              case measure => have := HKn.out.1; first | (rw [wk]; simp [intOf]; omega) | (simp [intOf]; omega)
      · have e : k = S.length := by omega
        subst e
        clear hlt hk
        obtain ⟨ok, oin, opl, oQ, oA, oL, oK⟩ := HO.out
        have HPC := hide (parts_any g o pv wr (HQ.out.is 1 _ rfl rfl) (by have := HL.out; omega))
        have B1 := l_bnd ok
        have HSM := hide (fun j => s_take o.P j oin.p)
        have HIN := hide oin.p
        have f1 : o.lq + s1 o.P = a := by rw [oin.e1, ← oQ]; show o.Q - o.D + o.D = o.Q; omega
        have f2 : o.lm + s2 o.P = b := by rw [oin.e2, ← oA]; show o.A - sh o.A o.D o.Q + sh o.A o.D o.Q = o.A; omega
        have HFF := hide (And.intro f1 (And.intro f2 B1))
        have HLP : Hid (o.P.length ≤ 4398046510976) := hide (by have := HL.out; omega)
        obtain ⟨lq, hlq⟩ : ∃ q, o.lq = q := ⟨_, rfl⟩
        obtain ⟨lm, hlm⟩ : ∃ q, o.lm = q := ⟨_, rfl⟩
        rw [hlq, hlm] at HFF
        rw [hlq, hlm]
        clear ok oin opl oQ oA oL oK HO f1 f2 B1 hlq hlm
        go_wp2_with fail
        refine HPC.out.mono ?_
        rintro e w12 ⟨⟨v', rfl, hop⟩, hb12⟩
        have HQ12 := hide (HQ.out.later hb12)
        have HOP := hide hop
        obtain ⟨pa, pc, hpv⟩ := TL.OM.slice hop
        have HRM := hide (TL.OM.rm hop)
        clear hb12 hop HPC HQ
        subst hpv
        go_wp2_with fail
        go_loopw [7, 8, 15] (fun qv mv iv wr => ∃ k : Nat, k ≤ o.P.length ∧ iv = .int .i64 (k : Int) ∧ qv = .int .i64 (lq + s1 (o.P.take k)) ∧ mv = .int .i64 (lm + s2 (o.P.take k)) ∧ Hid (Below w12.heap.size w12 wr)) (fun _ _ iv _ => o.P.length - (intOf iv).toNat)
        case atStart => exact ⟨0, Nat.zero_le _, rfl, by rw [List.take_zero]; show _ = Value.int .i64 (lq + 0); rw [Int.add_zero], by rw [List.take_zero]; show _ = Value.int .i64 (lm + 0); rw [Int.add_zero], hide (Below.refl _ _)⟩
        case round =>
          obtain ⟨k, hk, rfl, rfl, rfl, HB⟩ := hrel
          by_cases hlt : k < o.P.length
          · obtain ⟨p, hp⟩ : ∃ p, o.P[k]? = some p := ⟨_, List.getElem?_eq_getElem hlt⟩
            obtain ⟨a9, c9, hv9, _, hcc⟩ := HRM.out
            cases hv9
            obtain ⟨bs, off, rfl, hbl, hcc⟩ := hcc.resolve_left (fun h => by rw [h] at hlt; simp at hlt)
            have hst := s_step hp
            have t1 := HSM.out k
            have t2 := HSM.out (k + 1)
            have hp1 := HIN.out p (List.mem_of_getElem? hp)
            have y0 : wr.cell? ⟨bs, off + k * 2, none⟩ = some (.int .i64 p.1) := (HB.out.cell (p := ⟨bs, _, none⟩) hbl).trans (hcc k p hp).1
            have y1 : wr.cell? ⟨bs, off + k * 2 + 1, none⟩ = some (.int .i64 p.2) := (HB.out.cell (p := ⟨bs, _, none⟩) hbl).trans (hcc k p hp).2
            obtain ⟨px, py⟩ := p
            dsimp only at y0 y1 hst hp1
            obtain ⟨u1, hu1⟩ : ∃ x, lq + s1 (o.P.take k) = x := ⟨_, rfl⟩
            obtain ⟨u2, hu2⟩ : ∃ x, lm + s2 (o.P.take k) = x := ⟨_, rfl⟩
            obtain ⟨v1, hv1⟩ : ∃ x, lq + s1 (o.P.take (k + 1)) = x := ⟨_, rfl⟩
            obtain ⟨v2, hv2⟩ : ∃ x, lm + s2 (o.P.take (k + 1)) = x := ⟨_, rfl⟩
            have hff := HFF.out
            have hI := HA.out
            have w1 : wrap64 (u1 + px) = v1 := w_sum hu1 hv1 hst.1 t1.1 t2.1 t2.2.1 hff.2.2.1 hff.1 hI.1.2
            have w2 : wrap64 (u2 + py) = v2 := w_sum hu2 hv2 hst.2 t1.2.2.1 t2.2.2.1 t2.2.2.2 hff.2.2.2.2.1 hff.2.1 hI.2.1.2
            have d1 : decide (px < 1) = false := decide_eq_false (Int.not_lt.2 hp1.1)
            have hd1 : decide ((k : Int) < (o.P.length : Int)) = true := by rw [decide_eq_true_eq]; omega
            have k0 : (0 : Int) ≤ (k : Int) := by omega
            have k1 : (k : Int) < (o.P.length : Int) := by omega
            have wk : wrap64 ((k : Int) + 1) = (k : Int) + 1 := by have := HLP.out; unfold wrap64; omega
            have HKn := hide (And.intro hlt hk)
            have HV := hide (And.intro hv1 hv2)
            rw [hu1, hu2]
            clear hp hst t1 t2 hp1 hu1 hu2 hv1 hv2 hff hI hlt hk hcc hbl
            go_wp2_with fail
            go_roundw
            case rel => exact ⟨k + 1, HKn.out.1, by rw [wk]; rfl, by rw [HV.out.1, w1], by rw [HV.out.2, w2], HB⟩
            case measure => rw [wk]; exact meas_up HKn.out.1
          · have e : k = o.P.length := by omega
            subst e
            rw [List.take_length, HFF.out.1, HFF.out.2.1]
            obtain ⟨y0, y1, y2, y3⟩ := four_cells ((HQ12.out.later HB.out).is 0 _ rfl) rfl
            have z1 : (a == a) = true := by simp
            have z2 : (b == b) = true := by simp
            clear hlt hk
            go_wp2_with fail
            go_ret
            exact ⟨rfl, (HQ12.out.later HB.out).bl⟩
end Go.Proofs.YtmojckejjjlkjaaDoor
