/-
  My own text: the law on writers.
-/
import Derived.Test.YthalmfbcdkihgaaDoorWZ4
import Derived.Test.YthalmfbcdkihgaaDoorWPick
import Derived.Deep.RegionHeld3
import Derived.Deep.RegionWith
namespace Go.Proofs.YthalmfbcdkihgaaDoor
open Go.RowKit Go.Extern

theorem rk_start (W : World) (B : Nat) : Rk W B [(.slice none 0 0, []), (.slice none 0 0, []), (.slice none 0 0, []), (.slice none 0 0, [])] := by
  have hall : ∀ (i : Nat) (x : Value × List UInt8), [((.slice none 0 0 : Value), ([] : List UInt8)), (.slice none 0 0, []), (.slice none 0 0, []), (.slice none 0 0, [])][i]? = some x → x = (.slice none 0 0, []) := by
    intro i x h
    match i, h with
    | 0, h => exact (Option.some.inj h).symm
    | 1, h => exact (Option.some.inj h).symm
    | 2, h => exact (Option.some.inj h).symm
    | 3, h => exact (Option.some.inj h).symm
  refine ⟨fun i x h => ?_, fun i j x y g hx hy hg _ => ?_⟩
  · rw [hall i x h]; exact Own.nil _ _
  · rw [hall i x hx] at hg; cases hg
set_option maxRecDepth 100000 in
set_option maxHeartbeats 2000000 in
theorem writes_law (vs : Value) (ps : List Pt) (w : World) (hs : RP w vs ps) (hok : ∀ p ∈ ps, okP p) (hps : ps.length ≤ 1048576) :
    Calls Tryd.prog 23 #[vs] w fun e w' => e = .returned (.bool true) ∧ Below w.heap.size w w' := by
  have HN := hide (fun W : World => newWriter_any W)
  have HWk := hide (fun W : World => works_any W)
  have HVa := hide (fun (W : World) (h : RP W vs ps) => vast_any vs ps W h hok (by omega))
  have HRP := hide hs
  obtain ⟨sa, cs, rfl, hr⟩ := hs
  go_enter Tryd.func23, Tryd.ntmps23
  go_wp2_with fail
  refine (HN.out _).mono ?_
  rintro e w1 ⟨rfl, hw1⟩
  have h1 : Below w.heap.size w w1 := by rw [hw1]; exact (Below.refl _ _).alloc (Nat.le_refl _) _
  have HB1 := hide h1
  have HC1 : Hid (Blk w1 w.heap.size #[.slice none 0 0] 64) := hide (by rw [hw1]; exact Blk.new _ _ _)
  have s1 : w1.heap.size = w.heap.size + 1 := by rw [hw1]; simp
  clear hw1 h1
  go_wp2_with fail
  refine (HN.out _).mono ?_
  rintro e w2 ⟨rfl, hw2⟩
  have h2 : Below w1.heap.size w1 w2 := by rw [hw2]; exact (Below.refl _ _).alloc (Nat.le_refl _) _
  have HB2 := hide (HB1.out.trans (h2.mono HB1.out.size))
  have HC2 := hide (HC1.out.later h2)
  have HD2 : Hid (Blk w2 w1.heap.size #[.slice none 0 0] 64) := hide (by rw [hw2]; exact Blk.new _ _ _)
  have s2 : w2.heap.size = w1.heap.size + 1 := by rw [hw2]; simp
  clear hw2 h2 HC1 HB1
  go_wp2_with fail
  refine (HWk.out _).mono ?_
  rintro e w3 ⟨rfl, hb3⟩
  have hbz : Below w2.heap.size w2 (w2.alloc (.cells #[.pointer (some ⟨w.heap.size, 0, none⟩), .pointer (some ⟨w.heap.size + 1, 0, none⟩)] 81)) := (Below.refl _ _).alloc (Nat.le_refl _) _
  have hb4 : Below w2.heap.size w2 w3 := hbz.trans (hb3.mono hbz.size)
  have HB3 := hide (HB2.out.trans (hb4.mono HB2.out.size))
  have HC3 := hide (HC2.out.later hb4)
  have HD3 : Hid (Blk w3 (w.heap.size + 1) #[.slice none 0 0] 64) := hide (by have h := HD2.out.later hb4; rw [s1] at h; exact h)
  have HR3 : Hid (Blk w3 (w.heap.size + 1 + 1) #[.pointer (some ⟨w.heap.size, 0, none⟩), .pointer (some ⟨w.heap.size + 1, 0, none⟩)] 81) := hide (by
    have h := (Blk.new w2 #[.pointer (some ⟨w.heap.size, 0, none⟩), .pointer (some ⟨w.heap.size + 1, 0, none⟩)] 81).later hb3
    rw [s2, s1] at h
    exact h)
  have HV3 := hide (HVa.out w3 (HRP.out.later HB3.out))
  clear hb3 hbz hb4 HC2 HD2 HB2 s1 s2 HVa HN
  obtain ⟨q0, hq0⟩ : ∃ q0, w.heap.size = q0 := ⟨_, rfl⟩
  obtain ⟨q1, hq1⟩ : ∃ q1, w.heap.size + 1 = q1 := ⟨_, rfl⟩
  obtain ⟨R, hR⟩ : ∃ R, w.heap.size + 1 + 1 = R := ⟨_, rfl⟩
  have HQS : Hid (w.heap.size ≤ q0 ∧ w.heap.size ≤ q1 ∧ w.heap.size ≤ R ∧ q0 ≠ q1) := hide (by omega)
  rw [hR, hq1, hq0] at HR3
  rw [hq1] at HD3
  rw [hq0] at HC3
  rw [hR, hq1, hq0]
  clear hq0 hq1 hR
  go_wp2_with fail
  refine HV3.out.mono ?_
  rintro e w4 ⟨⟨b, rfl, hbig⟩, hw⟩
  obtain rfl := hw.symm
  clear HV3
  cases b with
  | true =>
    go_wp2_with fail
    go_ret
    exact ⟨rfl, HB3.out⟩
  | false =>
    have hT := hbig rfl
    clear hbig
    -- LOOP
    obtain ⟨i2, hi2, hza2, hzb2, hzc2⟩ := info_parts Tryd.infoBS
    have HQ : Hid (Zs w (w3.alloc (.cells #[.slice none 0 0, .slice none 0 0] 82)) R w3.heap.size q0 q1 (.slice none 0 0) (.slice none 0 0) (.slice none 0 0) (.slice none 0 0) [] [] [] [] [] (.slice none 0 0)) := by
      have hb : Below w3.heap.size w3 (w3.alloc (.cells #[.slice none 0 0, .slice none 0 0] 82)) := (Below.refl _ _).alloc (Nat.le_refl _) _
      obtain ⟨z0, z1, z2, z3⟩ := HQS.out
      exact hide { b := HB3.out.trans (hb.mono HB3.out.size), bR := HR3.out.later hb, b0 := HC3.out.later hb, b1 := HD3.out.later hb, bQ := Blk.new _ _ _, rk := rk_start _ _, tk := World.ownsRow_nil _ _ _ _, tn := fun _ => rfl, q01 := z3, wR := z2, w0 := z0, w1 := z1, wQ := HB3.out.size }
    have HOK := hide hok
    clear HB3 HR3 HC3 HD3 hok
    go_wp2_with fail
    generalize w3.alloc (.cells #[.slice none 0 0, .slice none 0 0] 82) = w5 at HQ ⊢
    obtain ⟨Q, hQ⟩ : ∃ Q, w3.heap.size = Q := ⟨_, rfl⟩
    rw [hQ] at HQ ⊢
    clear hQ
    go_loopw [5, 6] (fun tv i wr => ∃ (k : Nat) (v0 v1 u0 u1 : Value) (l0 l1 : List UInt8) (T : List (Value × List UInt8)), i = .int .i64 k ∧ k ≤ ps.length ∧ Hid (Zs w wr R Q q0 q1 v0 v1 u0 u1 l0 l1 l0 l1 T tv) ∧ Hid (l0.length ≤ 9 * k + totS (ps.take k) ∧ l1.length ≤ 9 * k + totS (ps.take k) ∧ T.length ≤ 2 * k ∧ ∀ x ∈ T, x.2.length ≤ 40000000)) (fun _ i _ => ps.length - (intOf i).toNat)
    case atStart => exact ⟨0, _, _, _, _, [], [], [], rfl, Nat.zero_le _, HQ, hide ⟨Nat.zero_le _, Nat.zero_le _, Nat.zero_le _, fun x hx => by cases hx⟩⟩
    case round =>
      clear HQ
      obtain ⟨k, v0, v1, u0, u1, l0, l1, T, rfl, hk, HZ, HL⟩ := hrel
      by_cases hlt : k < ps.length
      · obtain ⟨p, hp⟩ := pt_at hlt
        have hpo : okP p := HOK.out p (List.mem_of_getElem? hp)
        have hpS : totS (ps.take (k + 1)) = totS (ps.take k) + p.s.length := by rw [ptake_snoc hp, totS_app]; simp [totS]
        have hpT := totS_take ps (k + 1)
        rcases hr with h0 | ⟨sb, off, rfl, hsb, hcell⟩
        · rw [h0] at hlt; simp at hlt
        obtain ⟨y1, y2, y3, y4⟩ := hcell k p hp
        have hB := HZ.out.b
        have c1 := (hB.cell (p := ⟨sb, off + k * 4, none⟩) hsb).trans y1
        have c2 := (hB.cell (p := ⟨sb, off + k * 4 + 1, none⟩) hsb).trans y2
        have c3 := (hB.cell (p := ⟨sb, off + k * 4 + 2, none⟩) hsb).trans y3
        have c4 := (hB.cell (p := ⟨sb, off + k * 4 + 3, none⟩) hsb).trans y4
        have HPK := hide (fun W : World => pick_any p.on 2 W (by decide) (by decide))
        have HLe := encP_len p
        have HZ1 := hide (HZ.out.later ((Below.refl wr.heap.size wr).alloc (Nat.le_refl _) (.cells #[.int .i64 p.on, .int .i64 p.kd, .int .u64 p.x, .string ⟨p.s.toArray⟩] 54)))
        have HP1 : Hid (Blk (wr.alloc (.cells #[.int .i64 p.on, .int .i64 p.kd, .int .u64 p.x, .string ⟨p.s.toArray⟩] 54)) wr.heap.size #[.int .i64 p.on, .int .i64 p.kd, .int .u64 p.x, .string ⟨p.s.toArray⟩] 54) := hide (Blk.new _ _ _)
        clear hcell hp y1 y2 y3 y4 hB HZ
        go_wp2_with fail
        generalize wr.alloc (.cells #[.int .i64 p.on, .int .i64 p.kd, .int .u64 p.x, .string ⟨p.s.toArray⟩] 54) = W1 at HZ1 HP1 ⊢
        obtain ⟨P, hP⟩ : ∃ P, wr.heap.size = P := ⟨_, rfl⟩
        rw [hP] at HP1 ⊢
        clear hP c1 c2 c3 c4
        refine (HPK.out W1).mono ?_
        rintro e wx ⟨rfl, hw⟩
        obtain rfl := hw.symm
        rcases (show p.on % 2 = 0 ∨ p.on % 2 = 1 by omega) with h2 | h2
        · rw [h2]
          clear h2 HPK
          have c1 := HP1.out.cell 0
          have hkk : W1.cell? ⟨R, 0, none⟩ = some (.pointer (some ⟨q0, 0, none⟩)) := HZ1.out.bR.cell 0
          have hpp1 : W1.cell? ⟨P, 0, none⟩ = some (.int .i64 p.on) := HP1.out.cell 0
          have hpp2 : W1.cell? ⟨P, 1, none⟩ = some (.int .i64 p.kd) := HP1.out.cell 1
          have hpp3 : W1.cell? ⟨P, 2, none⟩ = some (.int .u64 p.x) := HP1.out.cell 2
          have hpp4 : W1.cell? ⟨P, 3, none⟩ = some (.string ⟨p.s.toArray⟩) := HP1.out.cell 3
          have hlen0 : l0.length + p.s.length ≤ 140737488355000 := by have := HL.out.1; omega
          have HLay : Hid (∀ W tv, Zs w W R Q q0 q1 v0 v1 u0 u1 l0 l1 l0 l1 T tv → Blk W P #[.int .i64 p.on, .int .i64 p.kd, .int .u64 p.x, .string ⟨p.s.toArray⟩] 54 → Calls Tryd.prog 42 #[.pointer (some ⟨q0, 0, none⟩), .agg #[.int .i64 p.on, .int .i64 p.kd, .int .u64 p.x, .string ⟨p.s.toArray⟩]] W fun en w' => en = .returned (.tuple #[]) ∧ ∃ vn, Zs w w' R Q q0 q1 vn v1 u0 u1 (l0 ++ encP p) l1 l0 l1 T tv ∧ Blk w' P #[.int .i64 p.on, .int .i64 p.kd, .int .u64 p.x, .string ⟨p.s.toArray⟩] 54) := hide (fun W tv h hp => (lay_any p w.heap.size q0 v0 l0 W hpo h.wr0 (by omega)).mono fun en w' hh => by
            obtain ⟨h1, vn, h2, h3⟩ := hh
            exact ⟨h1, vn, h.lay0 h2 h3, (h3.block P hp.lt (blk_ne hp h.b0 (by decide)) (fun e => (h.rk.own 0 _ rfl).apart hp (by decide) e.symm)).trans hp⟩)
          have HLaid : Hid (∀ W tv vn, Zs w W R Q q0 q1 vn v1 u0 u1 (l0 ++ encP p) l1 l0 l1 T tv → Blk W P #[.int .i64 p.on, .int .i64 p.kd, .int .u64 p.x, .string ⟨p.s.toArray⟩] 54 → Calls Tryd.prog 43 #[u0, .agg #[.int .i64 p.on, .int .i64 p.kd, .int .u64 p.x, .string ⟨p.s.toArray⟩]] W fun en w' => ∃ an nn cn, en = .returned (.slice an nn cn) ∧ Zs w (w'.setCell ⟨Q, 0, none⟩ (.slice an nn cn)) R Q q0 q1 vn v1 (.slice an nn cn) u1 (l0 ++ encP p) l1 (l0 ++ encP p) l1 T tv ∧ Blk (w'.setCell ⟨Q, 0, none⟩ (.slice an nn cn)) P #[.int .i64 p.on, .int .i64 p.kd, .int .u64 p.x, .string ⟨p.s.toArray⟩] 54 ∧ w'.cell? ⟨Q, 0, none⟩ = some u0 ∧ w'.frozen? ⟨Q, 0, none⟩ = false) := hide (fun W tv vn h hp => (laid_any p w.heap.size u0 l0 W hpo (h.rk.own 2 _ rfl) h.b.size (by omega)).mono fun en w' hh => by
            obtain ⟨un, h1, h2, h3⟩ := hh
            obtain ⟨an, cn, hun⟩ := h2.slice
            rw [hun] at h1 h2 h3
            have hv := h.rk.own 2 _ rfl
            have hq' : Blk w' Q #[u0, u1] 82 := (h3.grown.block Q h.bQ.lt (fun e => hv.apart h.bQ (by decide) e.symm)).trans h.bQ
            have hp' : Blk w' P #[.int .i64 p.on, .int .i64 p.kd, .int .u64 p.x, .string ⟨p.s.toArray⟩] 54 := (h3.grown.block P hp.lt (fun e => hv.apart hp (by decide) e.symm)).trans hp
            exact ⟨an, _, cn, h1, h.put0 h2 h3, hp'.other _ _ (blk_ne hp' hq' (by decide)), hq'.cell 0, hq'.free 0⟩)
          have hZd := HZ1.out.drew
          have hPd : Blk W1.drew P #[.int .i64 p.on, .int .i64 p.kd, .int .u64 p.x, .string ⟨p.s.toArray⟩] 54 := HP1.out
          clear HZ1 HP1
          go_wp2_with fail
          go_region_with (go_at_call 42; refine (HLay.out _ _ hZd hPd).mono ?_; rintro e W2 ⟨rfl, vn, hZ2, hP2⟩)
          all_goals
            have hq1 : W2.cell? ⟨Q, 0, none⟩ = some u0 := hZ2.bQ.cell 0
            have hp1 : W2.cell? ⟨P, 0, none⟩ = some (.int .i64 p.on) := hP2.cell 0
            have hp2 : W2.cell? ⟨P, 1, none⟩ = some (.int .i64 p.kd) := hP2.cell 1
            have hp3 : W2.cell? ⟨P, 2, none⟩ = some (.int .u64 p.x) := hP2.cell 2
            have hp4 : W2.cell? ⟨P, 3, none⟩ = some (.string ⟨p.s.toArray⟩) := hP2.cell 3
            have hZ2d := hZ2.drew
            have hP2d : Blk W2.drew P #[.int .i64 p.on, .int .i64 p.kd, .int .u64 p.x, .string ⟨p.s.toArray⟩] 54 := hP2
            clear HLay hZd hPd hkk hpp1 hpp2 hpp3 hpp4 hZ2 hP2 c1
            go_wp2_with fail
            go_region_with (go_at_call 43; refine (HLaid.out _ _ _ hZ2d hP2d).mono ?_; rintro e W3 ⟨an, nn, cn, rfl, hZ3, hP3, hcc, hff⟩)
            all_goals
              clear hcc hff hZ2d hP2d HLaid hq1 hp1 hp2 hp3 hp4
              generalize W3.setCell ⟨Q, 0, none⟩ (.slice an nn cn) = W4 at hZ3 hP3 ⊢
              have hk1 : W4.cell? ⟨P, 1, none⟩ = some (.int .i64 p.kd) := hP3.cell 1
              have hkR : W4.cell? ⟨R, 0, none⟩ = some (.pointer (some ⟨q0, 0, none⟩)) := hZ3.bR.cell 0
              have hqq : W4.cell? ⟨Q, 0, none⟩ = some (.slice an nn cn) := hZ3.bQ.cell 0
              have HZ3 := hide hZ3
              have hLL : (l0 ++ encP p).length ≤ 9 * (k + 1) + totS (ps.take (k + 1)) := by rw [List.length_append]; have := HL.out.1; omega
              have hOO : l1.length ≤ 9 * (k + 1) + totS (ps.take (k + 1)) := by have := HL.out.2.1; omega
              obtain ⟨L, hL⟩ : ∃ L, Hid (l0 ++ encP p = L) := ⟨_, hide rfl⟩
              rw [hL.out] at HZ3 hLL
              have HTT := hide (And.intro HL.out.2.2.1 HL.out.2.2.2)
              clear hZ3 hP3 HL hL hlen0 HLe
              obtain ⟨kd, hkd⟩ : ∃ kd, p.kd = kd := ⟨_, rfl⟩
              rw [hkd] at hk1
              clear hkd
              by_cases hin : 0 ≤ kd ∧ kd ≤ 2
              · have d1 : decide (kd < 0) = false := by rw [decide_eq_false_iff_not]; omega
                have d2 : decide (2 < kd) = false := by rw [decide_eq_false_iff_not]; omega
                have HTs : Hid (T.length ≤ 2 * (k + 1) ∧ ∀ x ∈ T, x.2.length ≤ 40000000) := hide ⟨by have := HTT.out.1; omega, HTT.out.2⟩
                go_wp2_with fail
                go_roundw
                case rel => exact ⟨k + 1, vn, v1, _, u1, L, l1, T, by go_num, by omega, HZ3, hide ⟨hLL, hOO, HTs.out⟩⟩
                case measure => simp [intOf]; omega
              · have HD := hide (fun (W : World) (q : Nat) (v : Value) (h : Wr W w.heap.size q v L) => done_any w.heap.size q v L W h (by omega))
                have hwalk : (decide (kd < 0) = true) ∨ (decide (kd < 0) = false ∧ decide (2 < kd) = true) := by
                  by_cases h : kd < 0
                  · exact .inl (decide_eq_true h)
                  · exact .inr ⟨decide_eq_false h, decide_eq_true (by omega)⟩
                have HDa := hide (HD.out W4 q0 vn HZ3.out.wr0)
                rcases hwalk with d1 | ⟨d1, d2⟩
                all_goals
                  go_wp2_with fail
                  refine HDa.out.mono ?_
                  rintro e W5 ⟨va, rfl, hoa, hb5⟩
                  have HOa := hide hoa
                  have HZ5 := hide (HZ3.out.later hb5)
                  have HK5 := hide (HZ3.out.rk.fresh hb5 hoa HZ3.out.b.size)
                  obtain ⟨aa, ca, rfl⟩ := hoa.slice
                  have HDb := hide (HD.out W5 q0 vn HZ5.out.wr0)
                  have hkR5 : W5.cell? ⟨R, 0, none⟩ = some (.pointer (some ⟨q0, 0, none⟩)) := HZ5.out.bR.cell 0
                  clear hoa hb5 HDa hkR hqq hk1 HZ3
                  go_wp2_with fail
                  refine HDb.out.mono ?_
                  rintro e W6 ⟨vb, rfl, hob, hb6⟩
                  have HZ6 := hide (HZ5.out.later hb6)
                  have HK6 := hide (HK5.out.fresh hb6 hob HZ5.out.b.size)
                  have HOa6 := hide (HOa.out.later hb6)
                  have HOb6 := hide hob
                  obtain ⟨ab, cb, rfl⟩ := hob.slice
                  have HSa := hide (sameBytes_any _ _ L L W6 HOa6.out.rb (HZ6.out.rk.own 2 _ rfl).rb (by omega))
                  rw [show decide (L = L) = true by simp] at HSa
                  have hqq6 : W6.cell? ⟨Q, 0, none⟩ = some (.slice an nn cn) := HZ6.out.bQ.cell 0
                  clear hob hb6 HDb hkR5 HZ5 HK5 HOa HD
                  go_wp2_with fail
                  refine HSa.out.mono ?_
                  rintro e W7 ⟨rfl, hb7⟩
                  have HZ7 := hide (HZ6.out.later hb7)
                  have HK7 := hide (HK6.out.keep (fun k hk _ => hb7.block k hk))
                  have HOb7 := hide (HOb6.out.later hb7)
                  have HSb := hide (sameBytes_any _ _ L L W7 HOb7.out.rb (HZ7.out.rk.own 2 _ rfl).rb (by omega))
                  rw [show decide (L = L) = true by simp] at HSb
                  have hqq7 : W7.cell? ⟨Q, 0, none⟩ = some (.slice an nn cn) := HZ7.out.bQ.cell 0
                  clear hb7 HSa hqq6 HZ6 HK6 HOa6 HOb6
                  go_wp2_with fail
                  refine HSb.out.mono ?_
                  rintro e W8 ⟨rfl, hb8⟩
                  have HZ8 := hide (HZ7.out.later hb8)
                  have HK8 := hide (HK7.out.keep (fun k hk _ => hb8.block k hk))
                  clear hb8 HSb hqq7 HZ7 HK7 HOb7
                  rw [List.append_assoc] at HK8
                  have hTl := HTT.out.1
                  have hbs := HZ8.out.b.size
                  have HTs : Hid ((T ++ [(Value.slice aa L.length ca, L), (Value.slice ab L.length cb, L)]).length ≤ 2 * (k + 1) ∧ ∀ x ∈ T ++ [(Value.slice aa L.length ca, L), (Value.slice ab L.length cb, L)], x.2.length ≤ 40000000) := hide ⟨by rw [List.length_append]; simp; omega, fun x hx => by
                    rcases List.mem_append.1 hx with h | h
                    · exact HTT.out.2 x h
                    · simp only [List.mem_cons, List.not_mem_nil, or_false] at h
                      rcases h with rfl | rfl <;> (show L.length ≤ 40000000; omega)⟩
                  go_wp2_with (first
                    | (at_builtin; refine wpList_append_own _ rfl _ _ 83 rfl w.heap.size 29 i2 (.slice none 0 0) 1 24 Tryd.underlying83 hi2 hza2 hzb2 hzc2 rfl (by decide) _ _ _ rfl (HZ8.out.tk.alloc _) ⟨_, 0, none⟩ 2 2 [.slice aa L.length ca, .slice ab L.length cb] rfl rfl ?e1 ?e2 ?e3 ?e4 ?e5 ?_)
                    | go_in)
                  case e1 =>
                    intro j u hj
                    match j, hj with
                    | 0, hj => simp at hj; subst hj; simp [Addr.add]
                    | 1, hj => simp at hj; subst hj; simp [Addr.add]
                  case e2 =>
                    intro u hu
                    simp only [List.mem_cons, List.not_mem_nil, or_false] at hu
                    rcases hu with rfl | rfl <;> rfl
                  case e3 => unfold maxLen; omega
                  case e4 => omega
                  case e5 => simp; omega
                  intro tn W9 hO9 hg9 _
                  have HZ9 := hide (HZ8.out.told HK8.out hO9 hg9)
                  clear hO9 hg9 HZ8 HK8
                  go_wp2
                  go_roundw
                  case rel => exact ⟨k + 1, vn, v1, _, u1, L, l1, _, by go_num, by omega, HZ9, hide ⟨hLL, hOO, HTs.out⟩⟩
                  case measure => simp [intOf]; omega
        · rw [h2]
          clear h2 HPK
          have c1 := HP1.out.cell 0
          have hkk : W1.cell? ⟨R, 1, none⟩ = some (.pointer (some ⟨q1, 0, none⟩)) := HZ1.out.bR.cell 1
          have hpp1 : W1.cell? ⟨P, 0, none⟩ = some (.int .i64 p.on) := HP1.out.cell 0
          have hpp2 : W1.cell? ⟨P, 1, none⟩ = some (.int .i64 p.kd) := HP1.out.cell 1
          have hpp3 : W1.cell? ⟨P, 2, none⟩ = some (.int .u64 p.x) := HP1.out.cell 2
          have hpp4 : W1.cell? ⟨P, 3, none⟩ = some (.string ⟨p.s.toArray⟩) := HP1.out.cell 3
          have hlen1 : l1.length + p.s.length ≤ 140737488355000 := by have := HL.out.2.1; omega
          have HLay : Hid (∀ W tv, Zs w W R Q q0 q1 v0 v1 u0 u1 l0 l1 l0 l1 T tv → Blk W P #[.int .i64 p.on, .int .i64 p.kd, .int .u64 p.x, .string ⟨p.s.toArray⟩] 54 → Calls Tryd.prog 42 #[.pointer (some ⟨q1, 0, none⟩), .agg #[.int .i64 p.on, .int .i64 p.kd, .int .u64 p.x, .string ⟨p.s.toArray⟩]] W fun en w' => en = .returned (.tuple #[]) ∧ ∃ vn, Zs w w' R Q q0 q1 v0 vn u0 u1 l0 (l1 ++ encP p) l0 l1 T tv ∧ Blk w' P #[.int .i64 p.on, .int .i64 p.kd, .int .u64 p.x, .string ⟨p.s.toArray⟩] 54) := hide (fun W tv h hp => (lay_any p w.heap.size q1 v1 l1 W hpo h.wr1 (by omega)).mono fun en w' hh => by
            obtain ⟨h1, vn, h2, h3⟩ := hh
            exact ⟨h1, vn, h.lay1 h2 h3, (h3.block P hp.lt (blk_ne hp h.b1 (by decide)) (fun e => (h.rk.own 1 _ rfl).apart hp (by decide) e.symm)).trans hp⟩)
          have HLaid : Hid (∀ W tv vn, Zs w W R Q q0 q1 v0 vn u0 u1 l0 (l1 ++ encP p) l0 l1 T tv → Blk W P #[.int .i64 p.on, .int .i64 p.kd, .int .u64 p.x, .string ⟨p.s.toArray⟩] 54 → Calls Tryd.prog 43 #[u1, .agg #[.int .i64 p.on, .int .i64 p.kd, .int .u64 p.x, .string ⟨p.s.toArray⟩]] W fun en w' => ∃ an nn cn, en = .returned (.slice an nn cn) ∧ Zs w (w'.setCell ⟨Q, 1, none⟩ (.slice an nn cn)) R Q q0 q1 v0 vn u0 (.slice an nn cn) l0 (l1 ++ encP p) l0 (l1 ++ encP p) T tv ∧ Blk (w'.setCell ⟨Q, 1, none⟩ (.slice an nn cn)) P #[.int .i64 p.on, .int .i64 p.kd, .int .u64 p.x, .string ⟨p.s.toArray⟩] 54 ∧ w'.cell? ⟨Q, 1, none⟩ = some u1 ∧ w'.frozen? ⟨Q, 1, none⟩ = false) := hide (fun W tv vn h hp => (laid_any p w.heap.size u1 l1 W hpo (h.rk.own 3 _ rfl) h.b.size (by omega)).mono fun en w' hh => by
            obtain ⟨un, h1, h2, h3⟩ := hh
            obtain ⟨an, cn, hun⟩ := h2.slice
            rw [hun] at h1 h2 h3
            have hv := h.rk.own 3 _ rfl
            have hq' : Blk w' Q #[u0, u1] 82 := (h3.grown.block Q h.bQ.lt (fun e => hv.apart h.bQ (by decide) e.symm)).trans h.bQ
            have hp' : Blk w' P #[.int .i64 p.on, .int .i64 p.kd, .int .u64 p.x, .string ⟨p.s.toArray⟩] 54 := (h3.grown.block P hp.lt (fun e => hv.apart hp (by decide) e.symm)).trans hp
            exact ⟨an, _, cn, h1, h.put1 h2 h3, hp'.other _ _ (blk_ne hp' hq' (by decide)), hq'.cell 1, hq'.free 1⟩)
          have hZd := HZ1.out.drew
          have hPd : Blk W1.drew P #[.int .i64 p.on, .int .i64 p.kd, .int .u64 p.x, .string ⟨p.s.toArray⟩] 54 := HP1.out
          clear HZ1 HP1
          go_wp2_with fail
          go_region_with (go_at_call 42; refine (HLay.out _ _ hZd hPd).mono ?_; rintro e W2 ⟨rfl, vn, hZ2, hP2⟩)
          all_goals
            have hq1 : W2.cell? ⟨Q, 1, none⟩ = some u1 := hZ2.bQ.cell 1
            have hp1 : W2.cell? ⟨P, 0, none⟩ = some (.int .i64 p.on) := hP2.cell 0
            have hp2 : W2.cell? ⟨P, 1, none⟩ = some (.int .i64 p.kd) := hP2.cell 1
            have hp3 : W2.cell? ⟨P, 2, none⟩ = some (.int .u64 p.x) := hP2.cell 2
            have hp4 : W2.cell? ⟨P, 3, none⟩ = some (.string ⟨p.s.toArray⟩) := hP2.cell 3
            have hZ2d := hZ2.drew
            have hP2d : Blk W2.drew P #[.int .i64 p.on, .int .i64 p.kd, .int .u64 p.x, .string ⟨p.s.toArray⟩] 54 := hP2
            clear HLay hZd hPd hkk hpp1 hpp2 hpp3 hpp4 hZ2 hP2 c1
            go_wp2_with fail
            go_region_with (go_at_call 43; refine (HLaid.out _ _ _ hZ2d hP2d).mono ?_; rintro e W3 ⟨an, nn, cn, rfl, hZ3, hP3, hcc, hff⟩)
            all_goals
              clear hcc hff hZ2d hP2d HLaid hq1 hp1 hp2 hp3 hp4
              generalize W3.setCell ⟨Q, 1, none⟩ (.slice an nn cn) = W4 at hZ3 hP3 ⊢
              have hk1 : W4.cell? ⟨P, 1, none⟩ = some (.int .i64 p.kd) := hP3.cell 1
              have hkR : W4.cell? ⟨R, 1, none⟩ = some (.pointer (some ⟨q1, 0, none⟩)) := hZ3.bR.cell 1
              have hqq : W4.cell? ⟨Q, 1, none⟩ = some (.slice an nn cn) := hZ3.bQ.cell 1
              have HZ3 := hide hZ3
              have hLL : (l1 ++ encP p).length ≤ 9 * (k + 1) + totS (ps.take (k + 1)) := by rw [List.length_append]; have := HL.out.2.1; omega
              have hOO : l0.length ≤ 9 * (k + 1) + totS (ps.take (k + 1)) := by have := HL.out.1; omega
              obtain ⟨L, hL⟩ : ∃ L, Hid (l1 ++ encP p = L) := ⟨_, hide rfl⟩
              rw [hL.out] at HZ3 hLL
              have HTT := hide (And.intro HL.out.2.2.1 HL.out.2.2.2)
              clear hZ3 hP3 HL hL hlen1 HLe
              obtain ⟨kd, hkd⟩ : ∃ kd, p.kd = kd := ⟨_, rfl⟩
              rw [hkd] at hk1
              clear hkd
              by_cases hin : 0 ≤ kd ∧ kd ≤ 2
              · have d1 : decide (kd < 0) = false := by rw [decide_eq_false_iff_not]; omega
                have d2 : decide (2 < kd) = false := by rw [decide_eq_false_iff_not]; omega
                have HTs : Hid (T.length ≤ 2 * (k + 1) ∧ ∀ x ∈ T, x.2.length ≤ 40000000) := hide ⟨by have := HTT.out.1; omega, HTT.out.2⟩
                go_wp2_with fail
                go_roundw
                case rel => exact ⟨k + 1, v0, vn, u0, _, l0, L, T, by go_num, by omega, HZ3, hide ⟨hOO, hLL, HTs.out⟩⟩
                case measure => simp [intOf]; omega
              · have HD := hide (fun (W : World) (q : Nat) (v : Value) (h : Wr W w.heap.size q v L) => done_any w.heap.size q v L W h (by omega))
                have hwalk : (decide (kd < 0) = true) ∨ (decide (kd < 0) = false ∧ decide (2 < kd) = true) := by
                  by_cases h : kd < 0
                  · exact .inl (decide_eq_true h)
                  · exact .inr ⟨decide_eq_false h, decide_eq_true (by omega)⟩
                have HDa := hide (HD.out W4 q1 vn HZ3.out.wr1)
                rcases hwalk with d1 | ⟨d1, d2⟩
                all_goals
                  go_wp2_with fail
                  refine HDa.out.mono ?_
                  rintro e W5 ⟨va, rfl, hoa, hb5⟩
                  have HOa := hide hoa
                  have HZ5 := hide (HZ3.out.later hb5)
                  have HK5 := hide (HZ3.out.rk.fresh hb5 hoa HZ3.out.b.size)
                  obtain ⟨aa, ca, rfl⟩ := hoa.slice
                  have HDb := hide (HD.out W5 q1 vn HZ5.out.wr1)
                  have hkR5 : W5.cell? ⟨R, 1, none⟩ = some (.pointer (some ⟨q1, 0, none⟩)) := HZ5.out.bR.cell 1
                  clear hoa hb5 HDa hkR hqq hk1 HZ3
                  go_wp2_with fail
                  refine HDb.out.mono ?_
                  rintro e W6 ⟨vb, rfl, hob, hb6⟩
                  have HZ6 := hide (HZ5.out.later hb6)
                  have HK6 := hide (HK5.out.fresh hb6 hob HZ5.out.b.size)
                  have HOa6 := hide (HOa.out.later hb6)
                  have HOb6 := hide hob
                  obtain ⟨ab, cb, rfl⟩ := hob.slice
                  have HSa := hide (sameBytes_any _ _ L L W6 HOa6.out.rb (HZ6.out.rk.own 3 _ rfl).rb (by omega))
                  rw [show decide (L = L) = true by simp] at HSa
                  have hqq6 : W6.cell? ⟨Q, 1, none⟩ = some (.slice an nn cn) := HZ6.out.bQ.cell 1
                  clear hob hb6 HDb hkR5 HZ5 HK5 HOa HD
                  go_wp2_with fail
                  refine HSa.out.mono ?_
                  rintro e W7 ⟨rfl, hb7⟩
                  have HZ7 := hide (HZ6.out.later hb7)
                  have HK7 := hide (HK6.out.keep (fun k hk _ => hb7.block k hk))
                  have HOb7 := hide (HOb6.out.later hb7)
                  have HSb := hide (sameBytes_any _ _ L L W7 HOb7.out.rb (HZ7.out.rk.own 3 _ rfl).rb (by omega))
                  rw [show decide (L = L) = true by simp] at HSb
                  have hqq7 : W7.cell? ⟨Q, 1, none⟩ = some (.slice an nn cn) := HZ7.out.bQ.cell 1
                  clear hb7 HSa hqq6 HZ6 HK6 HOa6 HOb6
                  go_wp2_with fail
                  refine HSb.out.mono ?_
                  rintro e W8 ⟨rfl, hb8⟩
                  have HZ8 := hide (HZ7.out.later hb8)
                  have HK8 := hide (HK7.out.keep (fun k hk _ => hb8.block k hk))
                  clear hb8 HSb hqq7 HZ7 HK7 HOb7
                  rw [List.append_assoc] at HK8
                  have hTl := HTT.out.1
                  have hbs := HZ8.out.b.size
                  have HTs : Hid ((T ++ [(Value.slice aa L.length ca, L), (Value.slice ab L.length cb, L)]).length ≤ 2 * (k + 1) ∧ ∀ x ∈ T ++ [(Value.slice aa L.length ca, L), (Value.slice ab L.length cb, L)], x.2.length ≤ 40000000) := hide ⟨by rw [List.length_append]; simp; omega, fun x hx => by
                    rcases List.mem_append.1 hx with h | h
                    · exact HTT.out.2 x h
                    · simp only [List.mem_cons, List.not_mem_nil, or_false] at h
                      rcases h with rfl | rfl <;> (show L.length ≤ 40000000; omega)⟩
                  go_wp2_with (first
                    | (at_builtin; refine wpList_append_own _ rfl _ _ 83 rfl w.heap.size 29 i2 (.slice none 0 0) 1 24 Tryd.underlying83 hi2 hza2 hzb2 hzc2 rfl (by decide) _ _ _ rfl (HZ8.out.tk.alloc _) ⟨_, 0, none⟩ 2 2 [.slice aa L.length ca, .slice ab L.length cb] rfl rfl ?e1 ?e2 ?e3 ?e4 ?e5 ?_)
                    | go_in)
                  case e1 =>
                    intro j u hj
                    match j, hj with
                    | 0, hj => simp at hj; subst hj; simp [Addr.add]
                    | 1, hj => simp at hj; subst hj; simp [Addr.add]
                  case e2 =>
                    intro u hu
                    simp only [List.mem_cons, List.not_mem_nil, or_false] at hu
                    rcases hu with rfl | rfl <;> rfl
                  case e3 => unfold maxLen; omega
                  case e4 => omega
                  case e5 => simp; omega
                  intro tn W9 hO9 hg9 _
                  have HZ9 := hide (HZ8.out.told HK8.out hO9 hg9)
                  clear hO9 hg9 HZ8 HK8
                  go_wp2
                  go_roundw
                  case rel => exact ⟨k + 1, v0, vn, u0, _, l0, L, _, by go_num, by omega, HZ9, hide ⟨hOO, hLL, HTs.out⟩⟩
                  case measure => simp [intOf]; omega
      · have hk' : k = ps.length := by omega
        subst hk'
        have HAp := hide (told_apart HZ.out (by have := HL.out.2.2.1; omega) HL.out.2.2.2)
        have hl0 : l0.length ≤ 140737488355328 := by have := HL.out.1; rw [List.take_length] at this; omega
        have hl1 : l1.length ≤ 140737488355328 := by have := HL.out.2.1; rw [List.take_length] at this; omega
        clear hr HOK HWk HZ HL
        go_wp2_with fail
        refine HAp.out.mono ?_
        rintro e W1 ⟨rfl, hZ1⟩
        clear HAp
        have HD0 := hide (fun (W : World) (h : Zs w W R Q q0 q1 v0 v1 u0 u1 l0 l1 l0 l1 [] (.slice none 0 0)) => done_zs0 h hl0)
        have HD1 := hide (fun (W : World) (h : Zs w W R Q q0 q1 v0 v1 u0 u1 l0 l1 l0 l1 [] (.slice none 0 0)) => done_zs1 h hl1)
        have HS0 := hide (fun (W : World) (va : Value) (h : Zs w W R Q q0 q1 v0 v1 u0 u1 l0 l1 l0 l1 [] (.slice none 0 0)) (ho : Own W 0 va l0) => same_zs0 h ho hl0)
        have HS1 := hide (fun (W : World) (va : Value) (h : Zs w W R Q q0 q1 v0 v1 u0 u1 l0 l1 l0 l1 [] (.slice none 0 0)) (ho : Own W 0 va l1) => same_zs1 h ho hl1)
        have x0 : W1.cell? ⟨R, 0, none⟩ = some (.pointer (some ⟨q0, 0, none⟩)) := hZ1.bR.cell 0
        have x1 : W1.cell? ⟨R, 1, none⟩ = some (.pointer (some ⟨q1, 0, none⟩)) := hZ1.bR.cell 1
        have x2 : W1.cell? ⟨Q, 0, none⟩ = some u0 := hZ1.bQ.cell 0
        have x3 : W1.cell? ⟨Q, 1, none⟩ = some u1 := hZ1.bQ.cell 1
        have hZd := hZ1.drew
        clear hZ1
        go_wp2_with fail
        go_region_held3 (fun W => W.cell? ⟨R, 0, none⟩ = some (.pointer (some ⟨q0, 0, none⟩)) ∧ W.cell? ⟨R, 1, none⟩ = some (.pointer (some ⟨q1, 0, none⟩)) ∧ W.cell? ⟨Q, 0, none⟩ = some u0 ∧ W.cell? ⟨Q, 1, none⟩ = some u1) (go_keep) ((first
          | (go_at_call_of 10 q0; refine (HD0.out _ ?_).mono ?_; assumption; rintro e w' ⟨va, rfl, hoa, hR, x0, x1, x2, x3⟩)
          | (go_at_call_of 10 q1; refine (HD1.out _ ?_).mono ?_; assumption; rintro e w' ⟨va, rfl, hoa, hR, x0, x1, x2, x3⟩)
          | (go_at_call_of 11 u0; refine (HS0.out _ _ ?_ ?_).mono ?_; assumption; assumption; rintro e w' ⟨rfl, hR, x0, x1, x2, x3⟩)
          | (go_at_call_of 11 u1; refine (HS1.out _ _ ?_ ?_).mono ?_; assumption; assumption; rintro e w' ⟨rfl, hR, x0, x1, x2, x3⟩)))
        clear HD0 HD1 HS0 HS1 hZd
        go_wp2_with fail
        go_ret
        exact ⟨rfl, hR.b⟩
end Go.Proofs.YthalmfbcdkihgaaDoor
