/-
  My own text: the law BalanceFirst (printed by mkbf.py).
-/
import Derived.Test.YtmebomifakmkbabDoorBM3
import Derived.Test.YtmebomifakmkbabDoorB8
import Derived.Test.YtmebomifakmkbabDoorGr0
import Derived.Test.YtmebomifakmkbabDoorHeld
namespace Go.Proofs.YtmebomifakmkbabDoor
open Go.RowKit

theorem mem_mq : ∀ {L : List Mk} {a : Int}, Ri a L → ∀ p ∈ L, mq p.1 L = p.2
  | m :: r, a, ⟨h1, h2, h3, h4⟩, p, hp => by
    rcases List.mem_cons.1 hp with rfl | hp
    · exact mq_eq rfl
    · have := h4.gt p hp
      rw [mq_ne (by omega)]; exact mem_mq h4 p hp
theorem mkdV_rt {av : Int} {L : List Mk} (n : Int) (h : Rt av L) : mkdV av L n = mq n L := if_pos ((ck_right h.top).2 h)
/-- What a debit leaves under a name. -/
theorem debit_mq {av q n a : Int} {L M : List Mk} (h1 : av ≤ top) (h : debitO av L q n = .ok a M) (x : Int) : mq x M = if x = n then mq n L - min (mq n L) q else mq x L := by
  obtain ⟨hR, hq, hR', hs, _, _, _, _, rfl⟩ := debit_ok h1 h
  have hm := mq_ge (n := n) hR.ri
  exact setM_mq (by omega) hR.ri
theorem debit_was {av q n a : Int} {L M : List Mk} (h1 : av ≤ top) (h : debitO av L q n = .ok a M) : ∀ p ∈ M, ¬ mq p.1 L = 0 := fun p hp e => by
  obtain ⟨hR, hq, hR', hs, _, _, _, _, _⟩ := debit_ok h1 h
  have h2 := mem_mq hR'.ri p hp
  have h3 := (hR'.ri.le p hp).2.2.1
  rw [debit_mq h1 h] at h2
  have hm := mq_ge (n := n) hR.ri
  split at h2
  · rename_i hx; rw [hx] at e; omega
  · omega
set_option maxRecDepth 100000 in
set_option maxHeartbeats 4000000 in
theorem first_law (av q n : Int) (v : Value) (L : List Mk) (w : World) (h : RM w v L) (ho : MOk L) (h1 : av ≤ top) (hq1 : q ≤ top) (hl : L.length ≤ 4611686018427387904) (hE : ErrType w) :
    Calls Tryd.prog 3 #[.agg #[.int .i64 av, v], .int .i64 q, .int .i64 n] w fun e w' => e = .returned (.bool true) ∧ Below w.heap.size w w' := by
  have HR := hide h
  have HO := hide ho
  have H1 := hide h1
  have HL := hide hl
  obtain ⟨a, cap, rfl, _, hcc⟩ := h
  have HC := hide hcc
  have HWK := hide (fun (W : World) (hb : Below w.heap.size w W) => works_any W (hE.below hb))
  have HDB := hide (fun (W : World) (hb : Below w.heap.size w W) => debit_any av q n _ L W (HR.out.later hb) ho h1 hq1 hl)
  have B0 := hide ((Below.refl w.heap.size w).alloc (Nat.le_refl _) (.cells #[.int .i64 av, .slice a L.length cap] 24))
  have X0 := hide (Px.new w av (.slice a L.length cap))
  obtain ⟨x0, x1⟩ := pair_cells X0.out rfl
  have n0 := ifNeq0
  have n1 := ifNeq
  clear ho h1 hq1 hl hE hcc
  go_enter Tryd.func3, Tryd.ntmps3
  cases hD : debitO av L q n with
  | no t x =>
    rw [hD] at HDB
    clear hD
    go_wp2_with fail
    refine (HDB.out _ B0.out).mono ?_
    rintro e w1 ⟨hA, hb⟩
    replace hA := hA.no
    subst hA
    unfold refV
    have B1 := hide (B0.out.trans (hb.mono B0.out.size))
    have B2 := hide (B1.out.alloc B1.out.size (.cells #[.int .i64 0, .slice Option.none 0 0] 24))
    clear hb x0 x1
    go_wp2_with fail
    refine (HWK.out _ B2.out).mono ?_
    rintro e w2 ⟨rfl, hb⟩
    have B3 := hide (B2.out.trans (hb.mono B2.out.size))
    clear hb
    go_wp2_with fail
    go_ret
    exact ⟨rfl, B3.out⟩
  | ok ad M =>
    rw [hD] at HDB
    have HMQ := hide (debit_mq H1.out hD)
    have HWAS := hide (debit_was H1.out hD)
    have HOK := hide (debit_ok H1.out hD)
    clear hD
    go_wp2_with fail
    refine (HDB.out _ B0.out).mono ?_
    rintro e w1 ⟨hA, hb⟩
    obtain ⟨v', hv', hO'⟩ := hA.ok
    subst hv'
    obtain ⟨a5, c5, hv5⟩ := rm_lt hO'.rm
    subst hv5
    have bA : Below w1.heap.size w1 (w1.alloc (.cells #[.int .i64 ad, .slice a5 M.length c5] 24)) := (Below.refl _ _).alloc (Nat.le_refl _) _
    have B1 := hide ((B0.out.trans (hb.mono B0.out.size)).trans (bA.mono (Nat.le_trans B0.out.size hb.size)))
    have X1 := hide (blk_later (blk_later X0.out hb) bA)
    have D1 := hide (alloc_new w1 (.cells #[.int .i64 ad, .slice a5 M.length c5] 24))
    have R1 := hide (hO'.rm.later bA)
    have HR' := hide HOK.out.2.2.1
    have HRt := hide HOK.out.1
    clear hA hO' hb bA x0 x1
    go_wp2_with fail
    refine (HWK.out _ B1.out).mono ?_
    rintro e w2 ⟨rfl, hb⟩
    have B2 := hide (B1.out.trans (hb.mono B1.out.size))
    have X2 := hide (blk_later X1.out hb)
    have D2 := hide (blk_later D1.out hb)
    have R2 := hide (R1.out.later hb)
    clear hb
    obtain ⟨x0, x1⟩ := pair_cells X2.out rfl
    have HM1 := hide (marked_any av n _ L w2 (HR.out.later B2.out) HO.out H1.out HL.out)
    rw [mkdV_rt n HRt.out] at HM1
    go_wp2_with fail
    refine HM1.out.mono ?_
    rintro e w3 ⟨rfl, hb⟩
    have B3 := hide (B2.out.trans (hb.mono B2.out.size))
    have X3 := hide (blk_later X2.out hb)
    have D3 := hide (blk_later D2.out hb)
    have R3 := hide (R2.out.later hb)
    clear hb x0 x1 HM1
    obtain ⟨d0, d1⟩ := pair_cells D3.out rfl
    have HM2 := hide (marked_any ad n _ M w3 R3.out HR'.out.mok HR'.out.top (by have := HR'.out.few; omega))
    rw [mkdV_rt n HR'.out, HMQ.out n, if_pos rfl] at HM2
    go_wp2_with fail
    refine HM2.out.mono ?_
    rintro e w4 ⟨rfl, hb⟩
    have B4 := hide (B3.out.trans (hb.mono B3.out.size))
    have X4 := hide (blk_later X3.out hb)
    have D4 := hide (blk_later D3.out hb)
    have R4 := hide (R3.out.later hb)
    clear hb d0 d1 HM2
    obtain ⟨x0, x1⟩ := pair_cells X4.out rfl
    obtain ⟨d0, d1⟩ := pair_cells D4.out rfl
    have HAD : Hid (ad = av - (q - min (mq n L) q)) := hide HOK.out.2.2.2.2.2.2.2.1
    have HB5 : Hid (0 ≤ mq n L ∧ mq n L ≤ top ∧ 1 ≤ q ∧ q ≤ av + mq n L ∧ 0 ≤ av ∧ av + mq n L ≤ top) := hide (by
      have h1 := mq_ge (n := n) HRt.out.ri
      have h2 := HRt.out.all; have h3 := HRt.out.av0; have h4 := HOK.out.2.1; have h5 := HOK.out.2.2.2.2.2.2.1
      omega)
    have htop : Hid (top = 9223372036854775807) := hide rfl
    obtain ⟨m, hm⟩ : ∃ m, mq n L = m := ⟨_, rfl⟩
    obtain ⟨nw, hnw⟩ : ∃ nw, m - min m q = nw := ⟨_, rfl⟩
    rw [hm] at HAD HB5 ⊢
    rw [hnw]
    have HNW := hide hnw
    clear hm hnw
    obtain ⟨W4, hW4⟩ : ∃ W4, w4 = W4 := ⟨_, rfl⟩
    by_cases hqm : q ≤ m
    · have dg : decide (q ≤ m) = true := decide_eq_true hqm
      have dl : decide (m < q) = false := decide_eq_false (by omega)
      have e1 : nw = m - q := by have := HNW.out; omega
      have w1' : wrap64 (m - q) = nw := by have := HB5.out; have := htop.out; rw [e1]; unfold wrap64; omega
      have w2' : wrap64 (m - nw) = q := by have := HB5.out; have := htop.out; unfold wrap64; omega
      have w3' : wrap64 (q - q) = 0 := by simp [wrap64]
      have w4' : wrap64 (av - 0) = ad := by have := HAD.out; have := HNW.out; have := HB5.out; have := htop.out; unfold wrap64; omega
      have e2 : q - q = 0 := by omega
      have e3 : av - 0 = av := by omega
      have e4 : av = ad := by have := HAD.out; have := HNW.out; omega
      have hz : (nw != nw) = false := by simp
      have hz2 : (ad != ad) = false := by simp
      have hz3 : (ad != av) = false := by rw [e4]; simp
      have w5' : wrap64 av = ad := by have := HB5.out; have := htop.out; rw [← e4]; unfold wrap64; omega
      clear hqm e1 e4
      subst hW4
      go_wp2_with fail
      clear dg dl w2' w3' w4' hz hz2 w1' e2 e3 hz3 w5'
      clear x0 x1 d0 d1
      go_loopw [11] (fun i wr => ∃ k : Nat, k ≤ L.length ∧ i = .int .i64 (k : Int) ∧ Hid (Below w4.heap.size w4 wr)) (fun i _ => L.length - (intOf i).toNat)
      case atStart => exact ⟨0, Nat.zero_le _, rfl, hide (Below.refl _ _)⟩
      case round =>
        obtain ⟨k, hk, rfl, HG⟩ := hrel
        have BB := hide (B4.out.trans (HG.out.mono B4.out.size))
        have XX := hide (blk_later X4.out HG.out)
        have DD := hide (blk_later D4.out HG.out)
        have RR := hide (R4.out.later HG.out)
        obtain ⟨x0, x1⟩ := pair_cells XX.out rfl
        obtain ⟨d0, d1⟩ := pair_cells DD.out rfl
        by_cases hlt : k < L.length
        · obtain ⟨⟨N, Q⟩, hp⟩ : ∃ p, L[k]? = some p := ⟨_, List.getElem?_eq_getElem hlt⟩
          obtain ⟨b, off, ha, hbl, hc⟩ := HC.out.resolve_left (fun h => by rw [h] at hlt; simp at hlt)
          have c0 : wr.cell? ⟨b, off + k * 2, none⟩ = some (.int .i64 N) := (BB.out.cell (p := ⟨b, _, none⟩) hbl).trans (hc k _ hp).1
          have c1 : wr.cell? ⟨b, off + k * 2 + 1, none⟩ = some (.int .i64 Q) := (BB.out.cell (p := ⟨b, _, none⟩) hbl).trans (hc k _ hp).2
          subst ha
          have hd1 : decide ((k : Int) < (L.length : Int)) = true := by rw [decide_eq_true_eq]; omega
          have k0 : (0 : Int) ≤ (k : Int) := by omega
          have k1 : (k : Int) < (L.length : Int) := by omega
          have wk : wrap64 ((k : Int) + 1) = (k : Int) + 1 := by have := HL.out; unfold wrap64; omega
          have HP := hide (mem_mq HRt.out.ri _ (List.mem_of_getElem? hp))
          clear hc hp
          have HMK := hide (fun x : Gr wr => marked_any ad N (.slice a5 M.length c5) M x.1 (RR.out.later x.2) HR'.out.mok HR'.out.top (by have := HR'.out.few; omega))
          rw [mkdV_rt N HR'.out, HMQ.out N] at HMK
          have g0 : ∀ x : Gr wr, x.1.cell? ⟨w.heap.size, 0, none⟩ = some (.int .i64 av) := fun x => (pair_cells (blk_later XX.out x.2) rfl).1
          have g1 : ∀ x : Gr wr, x.1.cell? ⟨w.heap.size, 1, none⟩ = some (.slice (some ⟨b, off, none⟩) L.length cap) := fun x => (pair_cells (blk_later XX.out x.2) rfl).2
          have g2 : ∀ x : Gr wr, x.1.cell? ⟨w1.heap.size, 0, none⟩ = some (.int .i64 ad) := fun x => (pair_cells (blk_later DD.out x.2) rfl).1
          have g3 : ∀ x : Gr wr, x.1.cell? ⟨w1.heap.size, 1, none⟩ = some (.slice a5 M.length c5) := fun x => (pair_cells (blk_later DD.out x.2) rfl).2
          have g4 : ∀ x : Gr wr, x.1.cell? ⟨b, off + k * 2 + 1, none⟩ = some (.int .i64 Q) := fun x => (x.2.cell (p := ⟨b, _, none⟩) (World.block_lt_of_cell? _ _ c1)).trans c1
          have g5 : ∀ x : Gr wr, x.1.cell? ⟨b, off + (k * 2 + 1), none⟩ = some (.int .i64 Q) := g4
          have HG0 := hide ((Below.refl wr.heap.size wr).drew)
          haveI : Nonempty (Gr wr) := ⟨⟨_, HG0.out⟩⟩
          by_cases hN : N = n
          · have dn : (N != n) = false := by rw [bne_eq_false_iff_eq]; exact hN
            clear hN
            go_wp2_with fail
            refine region_class (C := fun w' => ∃ x : Gr wr, w' = x.1) (by kernel_rfl) (by kernel_rfl) ⟨⟨_, HG0.out⟩, rfl⟩ ?_
            repeat (first
              | go_big_quiet_skip
              | (go_big_quiet_want; (go_big_quiet_op; first
                  | go_big_quiet_on
                  | (apply Exists.intro; refine ⟨fun x => ?_, ?_⟩; (go_at_call 6; exact x.call (HMK.out x)); go_big_quiet_on))))
            refine wpQuiet_nil ?_
            rintro w8 ⟨x, rfl⟩
            obtain ⟨w8, hx8⟩ := x
            dsimp only
            have HG3 := hide (HG.out.trans (hx8.mono HG.out.size))
            clear g0 g1 g2 g3 g4 g5 hx8 HMK HG0 this x0 x1 d0 d1 c0 c1
            go_wp2_with fail
            go_roundw
            case rel => exact ⟨k + 1, by omega, by go_num, HG3⟩
            case measure => first | (rw [wk]; simp [intOf]; omega) | (simp [intOf]; omega)
          · have dn : (N != n) = true := by rw [bne_iff_ne]; exact hN
            rw [if_neg hN, show mq N L = Q from HP.out] at HMK
            have hqq : (Q != Q) = false := by simp
            clear hN
            go_wp2_with fail
            refine region_class (C := fun w' => ∃ x : Gr wr, w' = x.1) (by kernel_rfl) (by kernel_rfl) ⟨⟨_, HG0.out⟩, rfl⟩ ?_
            repeat (first
              | go_big_quiet_skip
              | (go_big_quiet_want; (go_big_quiet_op; first
                  | go_big_quiet_on
                  | (apply Exists.intro; refine ⟨fun x => ?_, ?_⟩; (go_at_call 6; exact x.call (HMK.out x)); go_big_quiet_on))))
            refine wpQuiet_nil ?_
            rintro w8 ⟨x, rfl⟩
            obtain ⟨w8, hx8⟩ := x
            dsimp only
            have HG3 := hide (HG.out.trans (hx8.mono HG.out.size))
            clear g0 g1 g2 g3 g4 g5 hx8 HMK HG0 this x0 x1 d0 d1 c0 c1
            go_wp2_with fail
            go_roundw
            case rel => exact ⟨k + 1, by omega, by go_num, HG3⟩
            case measure => first | (rw [wk]; simp [intOf]; omega) | (simp [intOf]; omega)
        · have e : k = L.length := by omega
          subst e
          obtain ⟨W5, rfl⟩ : ∃ W5, W5 = wr := ⟨wr, rfl⟩
          go_wp2_with fail
          clear x0 x1 d0 d1
          go_loopw [13] (fun i wr => ∃ k : Nat, k ≤ M.length ∧ i = .int .i64 (k : Int) ∧ Hid (Below W5.heap.size W5 wr)) (fun i _ => M.length - (intOf i).toNat)
          case atStart => exact ⟨0, Nat.zero_le _, rfl, hide (Below.refl _ _)⟩
          case round =>
            obtain ⟨k, hk, rfl, HG2⟩ := hrel
            have B6 := hide (BB.out.trans (HG2.out.mono BB.out.size))
            have X6 := hide (blk_later XX.out HG2.out)
            have D6 := hide (blk_later DD.out HG2.out)
            have R6 := hide (RR.out.later HG2.out)
            obtain ⟨x0, x1⟩ := pair_cells X6.out rfl
            obtain ⟨d0, d1⟩ := pair_cells D6.out rfl
            have g0 : ∀ x : Gr wr, x.1.cell? ⟨w.heap.size, 0, none⟩ = some (.int .i64 av) := fun x => (pair_cells (blk_later X6.out x.2) rfl).1
            have g1 : ∀ x : Gr wr, x.1.cell? ⟨w.heap.size, 1, none⟩ = some (.slice a L.length cap) := fun x => (pair_cells (blk_later X6.out x.2) rfl).2
            have HG0 := hide ((Below.refl wr.heap.size wr).drew)
            haveI : Nonempty (Gr wr) := ⟨⟨_, HG0.out⟩⟩
            have m8 := HR'.out.few
            by_cases hlt : k < M.length
            · obtain ⟨⟨N, Q⟩, hp⟩ : ∃ p, M[k]? = some p := ⟨_, List.getElem?_eq_getElem hlt⟩
              obtain ⟨a6, c6, e6, _, hc6⟩ := id R6.out
              cases e6
              obtain ⟨b, off, ha, hbl, hc⟩ := hc6.resolve_left (fun h => by rw [h] at hlt; simp at hlt)
              subst ha
              have c0 : wr.cell? ⟨b, off + k * 2, none⟩ = some (.int .i64 N) := (hc k _ hp).1
              have hd1 : decide ((k : Int) < (M.length : Int)) = true := by rw [decide_eq_true_eq]; omega
              have k0 : (0 : Int) ≤ (k : Int) := by omega
              have k1 : (k : Int) < (M.length : Int) := by omega
              have wk : wrap64 ((k : Int) + 1) = (k : Int) + 1 := by unfold wrap64; omega
              have HNZ := HWAS.out _ (List.mem_of_getElem? hp)
              dsimp only at HNZ
              clear hc hp hc6
              have HMK := hide (fun x : Gr wr => marked_any av N (.slice a L.length cap) L x.1 ((HR.out.later B6.out).later x.2) HO.out H1.out HL.out)
              rw [mkdV_rt N HRt.out] at HMK
              have hnz : (mq N L == 0) = false := by rw [beq_eq_false_iff_ne]; exact HNZ
              generalize mq N L = z at *
              have g3 : ∀ x : Gr wr, x.1.cell? ⟨w1.heap.size, 1, none⟩ = some (.slice (some ⟨b, off, none⟩) M.length c5) := fun x => (pair_cells (blk_later D6.out x.2) rfl).2
              have g4 : ∀ x : Gr wr, x.1.cell? ⟨b, off + k * 2, none⟩ = some (.int .i64 N) := fun x => (x.2.cell (p := ⟨b, _, none⟩) hbl).trans c0
              clear HNZ
              go_wp2_with fail
              refine region_class (C := fun w' => ∃ x : Gr wr, w' = x.1) (by kernel_rfl) (by kernel_rfl) ⟨⟨_, HG0.out⟩, rfl⟩ ?_
              repeat (first
                | go_big_quiet_skip
                | (go_big_quiet_want; (go_big_quiet_op; first
                    | go_big_quiet_on
                    | (apply Exists.intro; refine ⟨fun x => ?_, ?_⟩; (go_at_call 6; exact x.call (HMK.out x)); go_big_quiet_on))))
              refine wpQuiet_nil ?_
              rintro w8 ⟨x, rfl⟩
              obtain ⟨w8, hx8⟩ := x
              dsimp only
              have HG3 := hide (HG2.out.trans (hx8.mono HG2.out.size))
              clear g0 g1 g3 g4 hx8 HMK HG0 this x0 x1 d0 d1 c0
              go_wp2_with fail
              go_roundw
              case rel => exact ⟨k + 1, by omega, by go_num, HG3⟩
              case measure => first | (rw [wk]; simp [intOf]; omega) | (simp [intOf]; omega)
            · have e : k = M.length := by omega
              subst e
              have g2 : ∀ x : Gr wr, x.1.cell? ⟨w1.heap.size, 0, none⟩ = some (.int .i64 ad) := fun x => (pair_cells (blk_later D6.out x.2) rfl).1
              have g3 : ∀ x : Gr wr, x.1.cell? ⟨w1.heap.size, 1, none⟩ = some (.slice a5 M.length c5) := fun x => (pair_cells (blk_later D6.out x.2) rfl).2
              have HT1 := hide (fun x : Gr wr => total_any ad (.slice a5 M.length c5) M x.1 (R6.out.later x.2) HR'.out.mok HR'.out.top (by have := HR'.out.few; omega))
              have HT2 := hide (fun x : Gr wr => total_any av (.slice a L.length cap) L x.1 ((HR.out.later B6.out).later x.2) HO.out H1.out HL.out)
              have HCK := hide (fun x : Gr wr => check_any ad (.slice a5 M.length c5) M x.1 (R6.out.later x.2) HR'.out.mok HR'.out.top (by have := HR'.out.few; omega))
              rw [ckE_yes ((ck_right HR'.out.top).2 HR'.out)] at HCK
              have hT : totV ad M = totV av L - q := by rw [totV_rt HR'.out, totV_rt HRt.out]; exact HOK.out.2.2.2.1
              obtain ⟨T2, hT2⟩ : ∃ T2, totV av L - q = T2 := ⟨_, rfl⟩
              have wq : wrap64 (totV av L - q) = T2 := by
                have h1 := HR'.out.all; have h2 := HR'.out.av0; have h3 := sm_pos HR'.out.ri; have h4 := totV_rt HR'.out; have h5 : top = 9223372036854775807 := rfl
                rw [hT2]; unfold wrap64; omega
              have wq2 : IntKind.i64.wrap (totV av L - q) = T2 := by rw [IntKind.wrap_i64]; unfold wrap64 at wq; exact wq
              rw [hT, hT2] at HT1
              have heq : (T2 == T2) = true := by simp
              clear hT hT2
              generalize totV av L = T at *
              have gq : ∀ x : Gr wr, (binOp .eql 26 .nilIface .nilIface).run Tryd.prog x.1 = .ok (.bool true) x.1 := fun x => ifEql0 x.1
              go_wp2_with fail
              refine region_class (C := fun w' => ∃ x : Gr wr, w' = x.1) (by kernel_rfl) (by kernel_rfl) ⟨⟨_, HG0.out⟩, rfl⟩ ?_
              repeat (first
                | go_big_quiet_skip
                | (go_big_quiet_want; (go_big_quiet_op; first
                    | go_big_quiet_on
                    | (apply Exists.intro; refine ⟨fun x => ?_, ?_⟩; (first
                        | (go_at_call 7; with_reducible exact x.call (HT1.out x))
                        | (go_at_call 7; with_reducible exact x.call (HT2.out x))
                        | (go_at_call 8; exact x.call (HCK.out x))); go_big_quiet_on))))
              refine wpQuiet_nil ?_
              rintro w8 ⟨x, rfl⟩
              obtain ⟨w8, hx8⟩ := x
              dsimp only
              have B9 := hide (B6.out.trans (hx8.mono B6.out.size))
              clear g0 g1 g2 g3 hx8 gq this
              go_wp2_with fail
              go_ret
              exact ⟨rfl, B9.out⟩
    · have dg : decide (q ≤ m) = false := decide_eq_false hqm
      have dl : decide (m < q) = true := decide_eq_true (by omega)
      have e1 : nw = 0 := by have := HNW.out; omega
      have w2' : wrap64 (m - nw) = m := by have := HB5.out; have := htop.out; unfold wrap64; omega
      have w3' : wrap64 (q - m) = q - m := by have := HB5.out; have := htop.out; unfold wrap64; omega
      have w4' : wrap64 (av - (q - m)) = ad := by have := HAD.out; have := HNW.out; have := HB5.out; have := htop.out; unfold wrap64; omega
      have hz : (nw != 0) = false := by rw [e1]; rfl
      have hz2 : (ad != ad) = false := by simp
      clear hqm e1
      subst hW4
      go_wp2_with fail
      clear dg dl w2' w3' w4' hz hz2
      clear x0 x1 d0 d1
      go_loopw [11] (fun i wr => ∃ k : Nat, k ≤ L.length ∧ i = .int .i64 (k : Int) ∧ Hid (Below w4.heap.size w4 wr)) (fun i _ => L.length - (intOf i).toNat)
      case atStart => exact ⟨0, Nat.zero_le _, rfl, hide (Below.refl _ _)⟩
      case round =>
        obtain ⟨k, hk, rfl, HG⟩ := hrel
        have BB := hide (B4.out.trans (HG.out.mono B4.out.size))
        have XX := hide (blk_later X4.out HG.out)
        have DD := hide (blk_later D4.out HG.out)
        have RR := hide (R4.out.later HG.out)
        obtain ⟨x0, x1⟩ := pair_cells XX.out rfl
        obtain ⟨d0, d1⟩ := pair_cells DD.out rfl
        by_cases hlt : k < L.length
        · obtain ⟨⟨N, Q⟩, hp⟩ : ∃ p, L[k]? = some p := ⟨_, List.getElem?_eq_getElem hlt⟩
          obtain ⟨b, off, ha, hbl, hc⟩ := HC.out.resolve_left (fun h => by rw [h] at hlt; simp at hlt)
          have c0 : wr.cell? ⟨b, off + k * 2, none⟩ = some (.int .i64 N) := (BB.out.cell (p := ⟨b, _, none⟩) hbl).trans (hc k _ hp).1
          have c1 : wr.cell? ⟨b, off + k * 2 + 1, none⟩ = some (.int .i64 Q) := (BB.out.cell (p := ⟨b, _, none⟩) hbl).trans (hc k _ hp).2
          subst ha
          have hd1 : decide ((k : Int) < (L.length : Int)) = true := by rw [decide_eq_true_eq]; omega
          have k0 : (0 : Int) ≤ (k : Int) := by omega
          have k1 : (k : Int) < (L.length : Int) := by omega
          have wk : wrap64 ((k : Int) + 1) = (k : Int) + 1 := by have := HL.out; unfold wrap64; omega
          have HP := hide (mem_mq HRt.out.ri _ (List.mem_of_getElem? hp))
          clear hc hp
          have HMK := hide (fun x : Gr wr => marked_any ad N (.slice a5 M.length c5) M x.1 (RR.out.later x.2) HR'.out.mok HR'.out.top (by have := HR'.out.few; omega))
          rw [mkdV_rt N HR'.out, HMQ.out N] at HMK
          have g0 : ∀ x : Gr wr, x.1.cell? ⟨w.heap.size, 0, none⟩ = some (.int .i64 av) := fun x => (pair_cells (blk_later XX.out x.2) rfl).1
          have g1 : ∀ x : Gr wr, x.1.cell? ⟨w.heap.size, 1, none⟩ = some (.slice (some ⟨b, off, none⟩) L.length cap) := fun x => (pair_cells (blk_later XX.out x.2) rfl).2
          have g2 : ∀ x : Gr wr, x.1.cell? ⟨w1.heap.size, 0, none⟩ = some (.int .i64 ad) := fun x => (pair_cells (blk_later DD.out x.2) rfl).1
          have g3 : ∀ x : Gr wr, x.1.cell? ⟨w1.heap.size, 1, none⟩ = some (.slice a5 M.length c5) := fun x => (pair_cells (blk_later DD.out x.2) rfl).2
          have g4 : ∀ x : Gr wr, x.1.cell? ⟨b, off + k * 2 + 1, none⟩ = some (.int .i64 Q) := fun x => (x.2.cell (p := ⟨b, _, none⟩) (World.block_lt_of_cell? _ _ c1)).trans c1
          have g5 : ∀ x : Gr wr, x.1.cell? ⟨b, off + (k * 2 + 1), none⟩ = some (.int .i64 Q) := g4
          have HG0 := hide ((Below.refl wr.heap.size wr).drew)
          haveI : Nonempty (Gr wr) := ⟨⟨_, HG0.out⟩⟩
          by_cases hN : N = n
          · have dn : (N != n) = false := by rw [bne_eq_false_iff_eq]; exact hN
            clear hN
            go_wp2_with fail
            refine region_class (C := fun w' => ∃ x : Gr wr, w' = x.1) (by kernel_rfl) (by kernel_rfl) ⟨⟨_, HG0.out⟩, rfl⟩ ?_
            repeat (first
              | go_big_quiet_skip
              | (go_big_quiet_want; (go_big_quiet_op; first
                  | go_big_quiet_on
                  | (apply Exists.intro; refine ⟨fun x => ?_, ?_⟩; (go_at_call 6; exact x.call (HMK.out x)); go_big_quiet_on))))
            refine wpQuiet_nil ?_
            rintro w8 ⟨x, rfl⟩
            obtain ⟨w8, hx8⟩ := x
            dsimp only
            have HG3 := hide (HG.out.trans (hx8.mono HG.out.size))
            clear g0 g1 g2 g3 g4 g5 hx8 HMK HG0 this x0 x1 d0 d1 c0 c1
            go_wp2_with fail
            go_roundw
            case rel => exact ⟨k + 1, by omega, by go_num, HG3⟩
            case measure => first | (rw [wk]; simp [intOf]; omega) | (simp [intOf]; omega)
          · have dn : (N != n) = true := by rw [bne_iff_ne]; exact hN
            rw [if_neg hN, show mq N L = Q from HP.out] at HMK
            have hqq : (Q != Q) = false := by simp
            clear hN
            go_wp2_with fail
            refine region_class (C := fun w' => ∃ x : Gr wr, w' = x.1) (by kernel_rfl) (by kernel_rfl) ⟨⟨_, HG0.out⟩, rfl⟩ ?_
            repeat (first
              | go_big_quiet_skip
              | (go_big_quiet_want; (go_big_quiet_op; first
                  | go_big_quiet_on
                  | (apply Exists.intro; refine ⟨fun x => ?_, ?_⟩; (go_at_call 6; exact x.call (HMK.out x)); go_big_quiet_on))))
            refine wpQuiet_nil ?_
            rintro w8 ⟨x, rfl⟩
            obtain ⟨w8, hx8⟩ := x
            dsimp only
            have HG3 := hide (HG.out.trans (hx8.mono HG.out.size))
            clear g0 g1 g2 g3 g4 g5 hx8 HMK HG0 this x0 x1 d0 d1 c0 c1
            go_wp2_with fail
            go_roundw
            case rel => exact ⟨k + 1, by omega, by go_num, HG3⟩
            case measure => first | (rw [wk]; simp [intOf]; omega) | (simp [intOf]; omega)
        · have e : k = L.length := by omega
          subst e
          obtain ⟨W5, rfl⟩ : ∃ W5, W5 = wr := ⟨wr, rfl⟩
          go_wp2_with fail
          clear x0 x1 d0 d1
          go_loopw [13] (fun i wr => ∃ k : Nat, k ≤ M.length ∧ i = .int .i64 (k : Int) ∧ Hid (Below W5.heap.size W5 wr)) (fun i _ => M.length - (intOf i).toNat)
          case atStart => exact ⟨0, Nat.zero_le _, rfl, hide (Below.refl _ _)⟩
          case round =>
            obtain ⟨k, hk, rfl, HG2⟩ := hrel
            have B6 := hide (BB.out.trans (HG2.out.mono BB.out.size))
            have X6 := hide (blk_later XX.out HG2.out)
            have D6 := hide (blk_later DD.out HG2.out)
            have R6 := hide (RR.out.later HG2.out)
            obtain ⟨x0, x1⟩ := pair_cells X6.out rfl
            obtain ⟨d0, d1⟩ := pair_cells D6.out rfl
            have g0 : ∀ x : Gr wr, x.1.cell? ⟨w.heap.size, 0, none⟩ = some (.int .i64 av) := fun x => (pair_cells (blk_later X6.out x.2) rfl).1
            have g1 : ∀ x : Gr wr, x.1.cell? ⟨w.heap.size, 1, none⟩ = some (.slice a L.length cap) := fun x => (pair_cells (blk_later X6.out x.2) rfl).2
            have HG0 := hide ((Below.refl wr.heap.size wr).drew)
            haveI : Nonempty (Gr wr) := ⟨⟨_, HG0.out⟩⟩
            have m8 := HR'.out.few
            by_cases hlt : k < M.length
            · obtain ⟨⟨N, Q⟩, hp⟩ : ∃ p, M[k]? = some p := ⟨_, List.getElem?_eq_getElem hlt⟩
              obtain ⟨a6, c6, e6, _, hc6⟩ := id R6.out
              cases e6
              obtain ⟨b, off, ha, hbl, hc⟩ := hc6.resolve_left (fun h => by rw [h] at hlt; simp at hlt)
              subst ha
              have c0 : wr.cell? ⟨b, off + k * 2, none⟩ = some (.int .i64 N) := (hc k _ hp).1
              have hd1 : decide ((k : Int) < (M.length : Int)) = true := by rw [decide_eq_true_eq]; omega
              have k0 : (0 : Int) ≤ (k : Int) := by omega
              have k1 : (k : Int) < (M.length : Int) := by omega
              have wk : wrap64 ((k : Int) + 1) = (k : Int) + 1 := by unfold wrap64; omega
              have HNZ := HWAS.out _ (List.mem_of_getElem? hp)
              dsimp only at HNZ
              clear hc hp hc6
              have HMK := hide (fun x : Gr wr => marked_any av N (.slice a L.length cap) L x.1 ((HR.out.later B6.out).later x.2) HO.out H1.out HL.out)
              rw [mkdV_rt N HRt.out] at HMK
              have hnz : (mq N L == 0) = false := by rw [beq_eq_false_iff_ne]; exact HNZ
              generalize mq N L = z at *
              have g3 : ∀ x : Gr wr, x.1.cell? ⟨w1.heap.size, 1, none⟩ = some (.slice (some ⟨b, off, none⟩) M.length c5) := fun x => (pair_cells (blk_later D6.out x.2) rfl).2
              have g4 : ∀ x : Gr wr, x.1.cell? ⟨b, off + k * 2, none⟩ = some (.int .i64 N) := fun x => (x.2.cell (p := ⟨b, _, none⟩) hbl).trans c0
              clear HNZ
              go_wp2_with fail
              refine region_class (C := fun w' => ∃ x : Gr wr, w' = x.1) (by kernel_rfl) (by kernel_rfl) ⟨⟨_, HG0.out⟩, rfl⟩ ?_
              repeat (first
                | go_big_quiet_skip
                | (go_big_quiet_want; (go_big_quiet_op; first
                    | go_big_quiet_on
                    | (apply Exists.intro; refine ⟨fun x => ?_, ?_⟩; (go_at_call 6; exact x.call (HMK.out x)); go_big_quiet_on))))
              refine wpQuiet_nil ?_
              rintro w8 ⟨x, rfl⟩
              obtain ⟨w8, hx8⟩ := x
              dsimp only
              have HG3 := hide (HG2.out.trans (hx8.mono HG2.out.size))
              clear g0 g1 g3 g4 hx8 HMK HG0 this x0 x1 d0 d1 c0
              go_wp2_with fail
              go_roundw
              case rel => exact ⟨k + 1, by omega, by go_num, HG3⟩
              case measure => first | (rw [wk]; simp [intOf]; omega) | (simp [intOf]; omega)
            · have e : k = M.length := by omega
              subst e
              have g2 : ∀ x : Gr wr, x.1.cell? ⟨w1.heap.size, 0, none⟩ = some (.int .i64 ad) := fun x => (pair_cells (blk_later D6.out x.2) rfl).1
              have g3 : ∀ x : Gr wr, x.1.cell? ⟨w1.heap.size, 1, none⟩ = some (.slice a5 M.length c5) := fun x => (pair_cells (blk_later D6.out x.2) rfl).2
              have HT1 := hide (fun x : Gr wr => total_any ad (.slice a5 M.length c5) M x.1 (R6.out.later x.2) HR'.out.mok HR'.out.top (by have := HR'.out.few; omega))
              have HT2 := hide (fun x : Gr wr => total_any av (.slice a L.length cap) L x.1 ((HR.out.later B6.out).later x.2) HO.out H1.out HL.out)
              have HCK := hide (fun x : Gr wr => check_any ad (.slice a5 M.length c5) M x.1 (R6.out.later x.2) HR'.out.mok HR'.out.top (by have := HR'.out.few; omega))
              rw [ckE_yes ((ck_right HR'.out.top).2 HR'.out)] at HCK
              have hT : totV ad M = totV av L - q := by rw [totV_rt HR'.out, totV_rt HRt.out]; exact HOK.out.2.2.2.1
              obtain ⟨T2, hT2⟩ : ∃ T2, totV av L - q = T2 := ⟨_, rfl⟩
              have wq : wrap64 (totV av L - q) = T2 := by
                have h1 := HR'.out.all; have h2 := HR'.out.av0; have h3 := sm_pos HR'.out.ri; have h4 := totV_rt HR'.out; have h5 : top = 9223372036854775807 := rfl
                rw [hT2]; unfold wrap64; omega
              have wq2 : IntKind.i64.wrap (totV av L - q) = T2 := by rw [IntKind.wrap_i64]; unfold wrap64 at wq; exact wq
              rw [hT, hT2] at HT1
              have heq : (T2 == T2) = true := by simp
              clear hT hT2
              generalize totV av L = T at *
              have gq : ∀ x : Gr wr, (binOp .eql 26 .nilIface .nilIface).run Tryd.prog x.1 = .ok (.bool true) x.1 := fun x => ifEql0 x.1
              go_wp2_with fail
              refine region_class (C := fun w' => ∃ x : Gr wr, w' = x.1) (by kernel_rfl) (by kernel_rfl) ⟨⟨_, HG0.out⟩, rfl⟩ ?_
              repeat (first
                | go_big_quiet_skip
                | (go_big_quiet_want; (go_big_quiet_op; first
                    | go_big_quiet_on
                    | (apply Exists.intro; refine ⟨fun x => ?_, ?_⟩; (first
                        | (go_at_call 7; with_reducible exact x.call (HT1.out x))
                        | (go_at_call 7; with_reducible exact x.call (HT2.out x))
                        | (go_at_call 8; exact x.call (HCK.out x))); go_big_quiet_on))))
              refine wpQuiet_nil ?_
              rintro w8 ⟨x, rfl⟩
              obtain ⟨w8, hx8⟩ := x
              dsimp only
              have B9 := hide (B6.out.trans (hx8.mono B6.out.size))
              clear g0 g1 g2 g3 hx8 gq this
              go_wp2_with fail
              go_ret
              exact ⟨rfl, B9.out⟩
end Go.Proofs.YtmebomifakmkbabDoor
