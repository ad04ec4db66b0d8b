/-
  My own text: the law on readers.
-/
import Derived.Test.YthalmfbcdkihgaaDoorWQ8
import Derived.Deep.RegionHeld3
namespace Go.Proofs.YthalmfbcdkihgaaDoor
open Go.RowKit Go.Extern

theorem S3.ex0 {w W : World} {q R r0 r1 g0 g1 ga gb : Nat} {va vb : Value} {La Lb l0 l1 m0 m1 : List UInt8} {e0 e1 x0 x1 : Int} (h : S3 w q R r0 r1 g0 g1 ga gb va vb La Lb W l0 l1 m0 m1 e0 e1 x0 x1) : W.cell? ⟨q, 2, none⟩ = some (.int .i64 x0) := by
  obtain ⟨n, _, _, h3⟩ := h.f0
  exact h3.c2
theorem S3.ex1 {w W : World} {q R r0 r1 g0 g1 ga gb : Nat} {va vb : Value} {La Lb l0 l1 m0 m1 : List UInt8} {e0 e1 x0 x1 : Int} (h : S3 w q R r0 r1 g0 g1 ga gb va vb La Lb W l0 l1 m0 m1 e0 e1 x0 x1) : W.cell? ⟨q, 5, none⟩ = some (.int .i64 x1) := by
  obtain ⟨n, _, _, h3⟩ := h.f1
  exact h3.c2
theorem rb_low {w : World} {v : Value} {l : List UInt8} (h : RB w v l) (hE : ErrType w) : ∃ g, RG w g v l ∧ g < w.heap.size := by
  obtain ⟨g, hg⟩ := h
  by_cases hl : l = []
  · subst hl
    exact ⟨0, hg.any, Nat.lt_of_le_of_lt (Nat.zero_le _) hE.lt⟩
  · refine ⟨g, hg, ?_⟩
    obtain ⟨a, cap, _, _, hr⟩ := hg
    rcases hr with h0 | ⟨off, _, hlt, _⟩
    · exact absurd h0 hl
    · exact hlt
theorem LentB.laterO {w w' : World} {B g cap r : Nat} {l : List UInt8} (h : LentB w B g cap l) (ho : Only r w w') (hg : g ≠ r) : LentB w' B g cap l := by
  refine ⟨h.base, h.own.1, ?_⟩
  rcases h.own.2 with ⟨e, h2⟩ | ⟨g', cap', cur, hv, h3, hh, h4⟩
  · exact .inl ⟨e, h2⟩
  · refine .inr ⟨g', cap', cur, hv, h3, ?_, h4⟩
    injection hv with e1
    injection e1 with e2
    injection e2 with e3
    rw [ho.block g' (Array.getElem?_eq_some_iff.1 hh).1 (by rw [← e3]; exact hg)]
    exact hh
set_option maxRecDepth 100000 in
set_option maxHeartbeats 2000000 in
theorem reads_law (va vb vs : Value) (La Lb : List UInt8) (ps : List Gt) (w : World) (ha : RB w va La) (hb : RB w vb Lb) (hs : RQ w vs ps) (hE : ErrType w) (hla : La.length ≤ 140737488355300) (hlb : Lb.length ≤ 140737488355300) (hps : ps.length ≤ 4398046511104) (hn : ∀ p ∈ ps, p.n ≤ 9223372036854775807) :
    Calls Tryd.prog 25 #[va, vb, vs] w fun e w' => e = .returned (.bool true) ∧ Below w.heap.size w w' := by
  have HW := hide (works_any w)
  have HVa := hide ha
  have HVb := hide hb
  have HE := hide hE
  have HLa := hide (fun W (h : RB W va La) => lentBytes_any va La W h hla)
  have HLb := hide (fun W (h : RB W vb Lb) => lentBytes_any vb Lb W h hlb)
  obtain ⟨ga, hga, hgal⟩ := rb_low ha hE
  obtain ⟨gb, hgb, hgbl⟩ := rb_low hb hE
  have HGa := hide hga
  have HGb := hide hgb
  obtain ⟨aa, ca, rfl, _, _⟩ := hga
  obtain ⟨ab, cb, rfl, _, _⟩ := hgb
  obtain ⟨sa, cs, rfl, hr⟩ := hs
  clear hE
  go_enter Tryd.func25, Tryd.ntmps25
  go_wp2_with fail
  refine HW.out.mono ?_
  rintro e w1 ⟨rfl, hb1⟩
  have HB1 := hide hb1
  have s01 := hb1.size
  have HL1 := hide (HLa.out w1 (HVa.out.later hb1))
  clear hb1 HLa
  go_wp2_with fail
  refine HL1.out.mono ?_
  rintro e w2 ⟨g2, c2, rfl, hL2, hb2⟩
  have HB2 := hide (HB1.out.trans (hb2.mono HB1.out.size))
  have HLa2 := hide hL2
  have HL2 := hide (HLb.out w2 (HVb.out.later HB2.out))
  have s12 := hb2.size
  clear hL2 hb2 HLb HL1 HB1
  go_wp2_with fail
  refine HL2.out.mono ?_
  rintro e w3 ⟨g3, c3, rfl, hL3, hb3⟩
  have HB3 := hide (HB2.out.trans (hb3.mono HB2.out.size))
  have HLa3 := hide (HLa2.out.later hb3)
  have HLb3 := hide hL3
  have HN3 := hide (newReader_any _ La w3 ⟨g2, HLa3.out.rg⟩ (by omega))
  have s23 := hb3.size
  have p2 : g2 < w2.heap.size := HLa2.out.parts.1
  clear hL3 hb3 HLa2 HL2 HB2
  go_wp2_with fail
  refine HN3.out.mono ?_
  rintro e w4 ⟨r0, g0, rfl, hd4, hr4, hg4, hb4⟩
  have HB4 := hide (HB3.out.trans (hb4.mono HB3.out.size))
  have HLa4 := hide (HLa3.out.later hb4)
  have HLb4 := hide (HLb3.out.later hb4)
  have HD4 := hide hd4
  have HG4 := hide hg4
  have HN4 := hide (newReader_any _ Lb w4 ⟨g3, HLb4.out.rg⟩ (by omega))
  have s34 := hb4.size
  have p3 : g3 < w3.heap.size := HLb3.out.parts.1
  have q4 : r0 < w4.heap.size := hd4.lt
  clear hd4 hg4 hb4 HLa3 HLb3 HN3 HB3
  go_wp2_with fail
  refine HN4.out.mono ?_
  rintro e w5 ⟨r1, g1, rfl, hd5, hr5, hg5, hb5⟩
  have HB5 := hide (HB4.out.trans (hb5.mono HB4.out.size))
  have HLa5 := hide (HLa4.out.later hb5)
  have HLb5 := hide (HLb4.out.later hb5)
  have HDa5 := hide (HD4.out.later hb5)
  have HDb5 := hide hd5
  have HGa5 := hide (fun h => (⟨HG4.out h, HD4.out.glt h⟩ : w3.heap.size ≤ g0 ∧ g0 < w4.heap.size))
  have HGb5 := hide (fun h => (⟨hg5 h, hd5.glt h⟩ : w4.heap.size ≤ g1 ∧ g1 < w5.heap.size))
  have s45 := hb5.size
  have q5 : r1 < w5.heap.size := hd5.lt
  clear hd5 hg5 hb5 HLa4 HLb4 HN4 HB4 HD4 HG4
  go_wp2_with fail
  have hbz : Below w5.heap.size w5 (w5.alloc (.cells #[.pointer (some ⟨r0, 0, none⟩), .pointer (some ⟨r1, 0, none⟩)] 89)) := (Below.refl _ _).alloc (Nat.le_refl _) _
  have HBR : Hid (Blk (w5.alloc (.cells #[.pointer (some ⟨r0, 0, none⟩), .pointer (some ⟨r1, 0, none⟩)] 89)) w5.heap.size #[.pointer (some ⟨r0, 0, none⟩), .pointer (some ⟨r1, 0, none⟩)] 89) := hide (heap_alloc_new w5 _)
  have s56 : (w5.alloc (.cells #[.pointer (some ⟨r0, 0, none⟩), .pointer (some ⟨r1, 0, none⟩)] 89)).heap.size = w5.heap.size + 1 := by simp
  generalize w5.alloc (.cells #[.pointer (some ⟨r0, 0, none⟩), .pointer (some ⟨r1, 0, none⟩)] 89) = w6 at hbz HBR s56 ⊢
  have HB6 := hide (HB5.out.trans (hbz.mono HB5.out.size))
  have HLa6 := hide (HLa5.out.later hbz)
  have HLb6 := hide (HLb5.out.later hbz)
  have HDa6 := hide (HDa5.out.later hbz)
  have HDb6 := hide (HDb5.out.later hbz)
  have HKa := hide (keptBytes_any g2 c2 _ _ La w6 HLa6.out (HVa.out.later HB6.out) hla)
  have HKb := hide (keptBytes_any g3 c3 _ _ Lb w6 HLb6.out (HVb.out.later HB6.out) hlb)
  clear hbz HLa5 HLb5 HDa5 HDb5 HB5
  refine HKa.out.mono ?_
  rintro e w7 ⟨rfl, hw⟩
  obtain rfl := hw.symm
  go_wp2_with fail
  refine HKb.out.mono ?_
  rintro e w7 ⟨rfl, hw⟩
  obtain rfl := hw.symm
  have hcA : (La.length : Int) ≤ (c2 : Int) := by have := HLa6.out.parts.2.1; omega
  have hcB : (Lb.length : Int) ≤ (c3 : Int) := by have := HLb6.out.parts.2.1; omega
  have HGG : Hid (w1.heap.size ≤ g2 ∧ w2.heap.size ≤ g3) := hide ⟨HLa6.out.base, HLb6.out.base⟩
  clear HKa HKb
  go_wp2_with fail
  go_loopw [10] (fun i wr => ∃ (k : Nat) (L : List UInt8), i = .int .i64 k ∧ k ≤ La.length ∧ Hid (L.length = La.length) ∧ Hid (LentB wr w1.heap.size g2 c2 L) ∧ Hid (Only g2 w6 wr)) (fun i _ => La.length - (intOf i).toNat)
  case atStart => exact ⟨0, La, rfl, Nat.zero_le _, hide rfl, HLa6, hide (Only.refl _ _)⟩
  case round =>
    clear HLa6
    obtain ⟨k, L, rfl, hk, HLen, HL, HO⟩ := hrel
    by_cases hlt : k < La.length
    · have dk : decide ((k : Int) < (La.length : Int)) = true := by rw [decide_eq_true_eq]; omega
      obtain ⟨hg1, hg2, hg3, hg4⟩ := HL.out.parts
      obtain ⟨c0, hc0⟩ := some_at (l := L ++ marksB) (k := k) (by rw [List.length_append, HLen.out]; omega)
      have d2 := hg3 k c0 hc0
      have f2 := hg4 k
      have HL1 : Hid (LentB (wr.setCell ⟨g2, k, none⟩ (.int .u8 (((7 : UInt8).toNat : Nat) : Int))) w1.heap.size g2 c2 (L.set k 7)) := hide (HL.out.set (by rw [HLen.out]; exact hlt))
      have HLn1 : Hid ((L.set k 7).length = La.length) := hide (by rw [List.length_set]; exact HLen.out)
      have HO1 : Hid (Only g2 w6 (wr.setCell ⟨g2, k, none⟩ (.int .u8 7))) := hide (HO.out.trans (Only.set _ _ _ _))
      clear hg3 hg4 hc0 HL HO
      go_wp2_with fail
      go_roundw
      case rel => exact ⟨k + 1, _, by go_num, by omega, HLn1, HL1, HO1⟩
      case measure => simp [intOf]; omega
    · have dk : decide ((k : Int) < (La.length : Int)) = false := by rw [decide_eq_false_iff_not]; omega
      obtain ⟨w7, hw7⟩ : ∃ x, x = wr := ⟨_, rfl⟩
      subst hw7
      have HO7 := hide HO.out
      have HLb7 : Hid (LentB w7 w2.heap.size g3 c3 Lb) := hide (HLb6.out.laterO HO.out (by have := HLb6.out.base; omega))
      clear HL HLb6 HO HLen
      go_wp2_with fail
      go_loopw [11] (fun i wr => ∃ (k : Nat) (L : List UInt8), i = .int .i64 k ∧ k ≤ Lb.length ∧ Hid (L.length = Lb.length) ∧ Hid (LentB wr w2.heap.size g3 c3 L) ∧ Hid (Only g3 w7 wr)) (fun i _ => Lb.length - (intOf i).toNat)
      case atStart => exact ⟨0, Lb, rfl, Nat.zero_le _, hide rfl, HLb7, hide (Only.refl _ _)⟩
      case round =>
        clear HLb7
        obtain ⟨k, L, rfl, hk, HLen, HL, HO⟩ := hrel
        by_cases hlt : k < Lb.length
        · have dk : decide ((k : Int) < (Lb.length : Int)) = true := by rw [decide_eq_true_eq]; omega
          obtain ⟨hg1, hg2, hg3, hg4⟩ := HL.out.parts
          obtain ⟨c0, hc0⟩ := some_at (l := L ++ marksB) (k := k) (by rw [List.length_append, HLen.out]; omega)
          have d2 := hg3 k c0 hc0
          have f2 := hg4 k
          have HL1 : Hid (LentB (wr.setCell ⟨g3, k, none⟩ (.int .u8 (((9 : UInt8).toNat : Nat) : Int))) w2.heap.size g3 c3 (L.set k 9)) := hide (HL.out.set (by rw [HLen.out]; exact hlt))
          have HLn1 : Hid ((L.set k 9).length = Lb.length) := hide (by rw [List.length_set]; exact HLen.out)
          have HO1 : Hid (Only g3 w7 (wr.setCell ⟨g3, k, none⟩ (.int .u8 9))) := hide (HO.out.trans (Only.set _ _ _ _))
          clear hg3 hg4 hc0 HL HO
          go_wp2_with fail
          go_roundw
          case rel => exact ⟨k + 1, _, by go_num, by omega, HLn1, HL1, HO1⟩
          case measure => simp [intOf]; omega
        · have dk : decide ((k : Int) < (Lb.length : Int)) = false := by rw [decide_eq_false_iff_not]; omega
          obtain ⟨w8, hw8⟩ : ∃ x, x = wr := ⟨_, rfl⟩
          subst hw8
          have HO8 := hide HO.out
          clear HL HO HLen
          go_wp2_with fail
          have z1 : w7.heap.size ≤ w8.heap.size := HO8.out.size
          have z0 : w6.heap.size ≤ w7.heap.size := HO7.out.size
          have bg2 : w1.heap.size ≤ g2 := HGG.out.1
          have bg3 : w2.heap.size ≤ g3 := HGG.out.2
          have HB8 : Hid (Below w.heap.size w w8) := hide (HO8.out.toBelow (HO7.out.toBelow HB6.out HB6.out.size (by omega)) (by omega) (by omega))
          have HZ : Hid (S3 w w8.heap.size w5.heap.size r0 r1 g0 g1 ga gb (.slice aa La.length ca) (.slice ab Lb.length cb) La Lb (w8.alloc (.cells #[.slice aa La.length ca, .int .i64 0, .int .i64 0, .slice ab Lb.length cb, .int .i64 0, .int .i64 0] 92)) La Lb La Lb 0 0 0 0) := by
            have hb9 : Below w8.heap.size w8 (w8.alloc (.cells #[.slice aa La.length ca, .int .i64 0, .int .i64 0, .slice ab Lb.length cb, .int .i64 0, .int .i64 0] 92)) := (Below.refl _ _).alloc (Nat.le_refl _) _
            have hblk : Blk (w8.alloc (.cells #[.slice aa La.length ca, .int .i64 0, .int .i64 0, .slice ab Lb.length cb, .int .i64 0, .int .i64 0] 92)) w8.heap.size #[.slice aa La.length ca, .int .i64 0, .int .i64 0, .slice ab Lb.length cb, .int .i64 0, .int .i64 0] 92 := heap_alloc_new w8 _
            have ka : w6.cell? ⟨w5.heap.size, 0, none⟩ = some (.pointer (some ⟨r0, 0, none⟩)) := HBR.out.cell 0
            have kb : w6.cell? ⟨w5.heap.size, 1, none⟩ = some (.pointer (some ⟨r1, 0, none⟩)) := HBR.out.cell 1
            have ka8 := HO8.out.cell (HO7.out.cell ka (by omega)) (by omega)
            have kb8 := HO8.out.cell (HO7.out.cell kb (by omega)) (by omega)
            have hR8 : w5.heap.size < w8.heap.size := by omega
            exact hide
              { d0 := ((HDa6.out.only HO7.out (by omega) (fun h => by have := HGa5.out h; omega)).only HO8.out (by omega) (fun h => by have := HGa5.out h; omega)).later hb9
                d1 := ((HDb6.out.only HO7.out (by omega) (fun h => by have := HGb5.out h; omega)).only HO8.out (by omega) (fun h => by have := HGb5.out h; omega)).later hb9
                f0 := ⟨0, Nat.zero_le _, rfl, hblk.cell 0, hblk.cell 1, hblk.cell 2, hblk.free 1, hblk.free 2⟩
                f1 := ⟨0, Nat.zero_le _, rfl, hblk.cell 3, hblk.cell 4, hblk.cell 5, hblk.free 4, hblk.free 5⟩
                k0 := (hb9.cell (p := ⟨w5.heap.size, 0, none⟩) hR8).trans ka8
                k1 := (hb9.cell (p := ⟨w5.heap.size, 1, none⟩) hR8).trans kb8
                b := HB8.out.trans (hb9.mono HB8.out.size)
                be0 := ⟨by decide, by decide⟩, be1 := ⟨by decide, by decide⟩, bx0 := ⟨by decide, by decide⟩, bx1 := ⟨by decide, by decide⟩
                bl0 := Nat.le_refl _, bl1 := Nat.le_refl _
                r01 := by omega, r0q := by omega, r1q := by omega, Rr0 := by omega, Rr1 := by omega, Rq := by omega
                gg0 := fun h => by have := HGa5.out h; omega
                gg1 := fun h => by have := HGb5.out h; omega
                wr0 := by omega, wr1 := by omega, wq := by omega
                ha := HGa.out, hb := HGb.out, hga := hgal, hgb := hgbl }
          clear HO7 HO8 HB6 HDa6 HDb6 HBR HB8 HGa5 HGb5
          generalize w8.alloc (.cells #[.slice aa La.length ca, .int .i64 0, .int .i64 0, .slice ab Lb.length cb, .int .i64 0, .int .i64 0] 92) = w9 at HZ ⊢
          obtain ⟨q, hq⟩ : ∃ q, w8.heap.size = q := ⟨_, rfl⟩
          obtain ⟨R, hR⟩ : ∃ R, w5.heap.size = R := ⟨_, rfl⟩
          rw [hq, hR] at HZ
          rw [hq, hR]
          clear hq hR bg2 bg3 z0 z1 s01 s12 s23 s34 s45 s56 p2 p3 q4 q5 hr4 hr5 HGG hcA hcB
          have HNp := hide hn
          clear hn
          go_loopw [13] (fun i wr => ∃ (k : Nat) (l0 l1 : List UInt8) (e0 e1 : Int), i = .int .i64 k ∧ k ≤ ps.length ∧ Hid (S3 w q R r0 r1 g0 g1 ga gb (.slice aa La.length ca) (.slice ab Lb.length cb) La Lb wr l0 l1 l0 l1 e0 e1 e0 e1)) (fun i _ => ps.length - (intOf i).toNat)
          case atStart => exact ⟨0, La, Lb, 0, 0, rfl, Nat.zero_le _, HZ⟩
          case round =>
            clear HZ
            obtain ⟨k, l0, l1, e0, e1, rfl, hk, HS⟩ := hrel
            by_cases hlt : k < ps.length
            · obtain ⟨p, hp⟩ : ∃ p, ps[k]? = some p := ⟨ps[k], List.getElem?_eq_getElem hlt⟩
              have hpn : p.n ≤ 9223372036854775807 := HNp.out p (List.mem_of_getElem? hp)
              rcases hr with h0 | ⟨sb, off, rfl, hsb, hcell⟩
              · rw [h0] at hlt; simp at hlt
              obtain ⟨y1, y2, y3, y4⟩ := hcell k p hp
              have HCS : Hid (∀ W, Below w.heap.size w W → W.cell? ⟨sb, off + k * 4, none⟩ = some (.int .i64 p.on) ∧ W.cell? ⟨sb, off + k * 4 + 1, none⟩ = some (.int .i64 p.kd) ∧ W.cell? ⟨sb, off + k * 4 + 2, none⟩ = some (.int .u64 p.x) ∧ W.cell? ⟨sb, off + k * 4 + 3, none⟩ = some (.int .i64 p.n)) := hide (fun W hW => ⟨(hW.cell (p := ⟨sb, off + k * 4, none⟩) hsb).trans y1, (hW.cell (p := ⟨sb, off + k * 4 + 1, none⟩) hsb).trans y2, (hW.cell (p := ⟨sb, off + k * 4 + 2, none⟩) hsb).trans y3, (hW.cell (p := ⟨sb, off + k * 4 + 3, none⟩) hsb).trans y4⟩)
              obtain ⟨u1, u2, u3, u4⟩ := HCS.out wr HS.out.b
              have HPK := hide (pick_any p.on 2 wr (by decide) (by decide))
              clear hcell hp y1 y2 y3 y4
              rcases (show p.on % 2 = 0 ∨ p.on % 2 = 1 by omega) with h2 | h2
              · rw [h2] at HPK
                clear h2
                obtain ⟨Y, hY⟩ : ∃ Y, Hid ((nxt p.kd p.x p.n l0 e0).1 = Y) := ⟨_, hide rfl⟩
                obtain ⟨Z, hZ⟩ : ∃ Z, Hid ((nxt p.kd p.x p.n l0 e0).2 = Z) := ⟨_, hide rfl⟩
                obtain ⟨V, hV⟩ : ∃ V, Hid (ansV p l0 e0 = V) := ⟨_, hide rfl⟩
                have HA : Hid (∀ W, S3 w q R r0 r1 g0 g1 ga gb (.slice aa La.length ca) (.slice ab Lb.length cb) La Lb W l0 l1 l0 l1 e0 e1 e0 e1 → Calls Tryd.prog 48 #[.pointer (some ⟨r0, 0, none⟩), .agg #[.int .i64 p.on, .int .i64 p.kd, .int .u64 p.x, .int .i64 p.n]] W fun en w' => en = .returned V ∧ S3 w q R r0 r1 g0 g1 ga gb (.slice aa La.length ca) (.slice ab Lb.length cb) La Lb w' Y l1 l0 l1 Z e1 e0 e1 ∧ w'.cell? ⟨R, 0, none⟩ = some (.pointer (some ⟨r0, 0, none⟩)) ∧ w'.cell? ⟨sb, off + k * 4, none⟩ = some (.int .i64 p.on) ∧ w'.cell? ⟨sb, off + k * 4 + 1, none⟩ = some (.int .i64 p.kd) ∧ w'.cell? ⟨sb, off + k * 4 + 2, none⟩ = some (.int .u64 p.x) ∧ w'.cell? ⟨sb, off + k * 4 + 3, none⟩ = some (.int .i64 p.n)) := hide (fun W h => by
                  have hc := h.ask0 p HE.out (by omega) hpn
                  rw [hY.out, hZ.out, hV.out] at hc
                  exact hc.mono fun en w' hh => ⟨hh.1, hh.2, hh.2.k0, HCS.out w' hh.2.b⟩)
                have HT : Hid (∀ W, S3 w q R r0 r1 g0 g1 ga gb (.slice aa La.length ca) (.slice ab Lb.length cb) La Lb W Y l1 l0 l1 Z e1 e0 e1 → Calls Tryd.prog 49 #[.pointer (some ⟨q, 0, none⟩), .agg #[.int .i64 p.on, .int .i64 p.kd, .int .u64 p.x, .int .i64 p.n]] W fun en w' => en = .returned V ∧ S3 w q R r0 r1 g0 g1 ga gb (.slice aa La.length ca) (.slice ab Lb.length cb) La Lb w' Y l1 Y l1 Z e1 Z e1 ∧ w'.cell? ⟨R, 0, none⟩ = some (.pointer (some ⟨r0, 0, none⟩)) ∧ w'.cell? ⟨sb, off + k * 4, none⟩ = some (.int .i64 p.on) ∧ w'.cell? ⟨sb, off + k * 4 + 1, none⟩ = some (.int .i64 p.kd) ∧ w'.cell? ⟨sb, off + k * 4 + 2, none⟩ = some (.int .u64 p.x) ∧ w'.cell? ⟨sb, off + k * 4 + 3, none⟩ = some (.int .i64 p.n)) := hide (fun W h => by
                  have hc := h.tell0 p (by omega) hpn
                  rw [hY.out, hZ.out, hV.out] at hc
                  exact hc.mono fun en w' hh => ⟨hh.1, hh.2, hh.2.k0, HCS.out w' hh.2.b⟩)
                have hq1 : ∀ W : World, (binOp .neq 94 V V).run Tryd.prog W = .ok (.bool false) W := fun W => by rw [← hV.out]; exact got_neq _ _ _ W
                have hq2 : ∀ i j (W : World), (eqGuard .neq 94 (.tmp i) (.tmp j) V V).run Tryd.prog W = .ok () W := fun i j W => by rw [← hV.out]; exact got_neqG i j _ _ _ W
                have hk0 := HS.out.k0
                have hS0 := HS.out.drew
                clear HS HCS
                go_wp2_with fail
                refine HPK.out.mono ?_
                rintro e wx ⟨rfl, hw⟩
                obtain rfl := hw.symm
                go_wp2_with fail
                go_region_held3 (fun W => W.cell? ⟨R, 0, none⟩ = some (.pointer (some ⟨r0, 0, none⟩)) ∧ W.cell? ⟨sb, off + k * 4, none⟩ = some (.int .i64 p.on) ∧ W.cell? ⟨sb, off + k * 4 + 1, none⟩ = some (.int .i64 p.kd) ∧ W.cell? ⟨sb, off + k * 4 + 2, none⟩ = some (.int .u64 p.x) ∧ W.cell? ⟨sb, off + k * 4 + 3, none⟩ = some (.int .i64 p.n)) (go_keep) ((first
                  | (go_at_call 48; refine (HA.out _ ?_).mono ?_; assumption; rintro e w' ⟨rfl, hR, hk0, hc1, hc2, hc3, hc4⟩)
                  | (go_at_call 49; refine (HT.out _ ?_).mono ?_; assumption; rintro e w' ⟨rfl, hR, hk0, hc1, hc2, hc3, hc4⟩)))
                clear HA HT hS0 HPK
                go_wp2_with fail
                go_roundw
                case rel => exact ⟨k + 1, Y, l1, Z, e1, by go_num, by omega, hide (by assumption)⟩
                case measure => simp [intOf]; omega
              · rw [h2] at HPK
                clear h2
                obtain ⟨Y, hY⟩ : ∃ Y, Hid ((nxt p.kd p.x p.n l1 e1).1 = Y) := ⟨_, hide rfl⟩
                obtain ⟨Z, hZ⟩ : ∃ Z, Hid ((nxt p.kd p.x p.n l1 e1).2 = Z) := ⟨_, hide rfl⟩
                obtain ⟨V, hV⟩ : ∃ V, Hid (ansV p l1 e1 = V) := ⟨_, hide rfl⟩
                have HA : Hid (∀ W, S3 w q R r0 r1 g0 g1 ga gb (.slice aa La.length ca) (.slice ab Lb.length cb) La Lb W l0 l1 l0 l1 e0 e1 e0 e1 → Calls Tryd.prog 48 #[.pointer (some ⟨r1, 0, none⟩), .agg #[.int .i64 p.on, .int .i64 p.kd, .int .u64 p.x, .int .i64 p.n]] W fun en w' => en = .returned V ∧ S3 w q R r0 r1 g0 g1 ga gb (.slice aa La.length ca) (.slice ab Lb.length cb) La Lb w' l0 Y l0 l1 e0 Z e0 e1 ∧ w'.cell? ⟨R, 1, none⟩ = some (.pointer (some ⟨r1, 0, none⟩)) ∧ w'.cell? ⟨sb, off + k * 4, none⟩ = some (.int .i64 p.on) ∧ w'.cell? ⟨sb, off + k * 4 + 1, none⟩ = some (.int .i64 p.kd) ∧ w'.cell? ⟨sb, off + k * 4 + 2, none⟩ = some (.int .u64 p.x) ∧ w'.cell? ⟨sb, off + k * 4 + 3, none⟩ = some (.int .i64 p.n)) := hide (fun W h => by
                  have hc := h.ask1 p HE.out (by omega) hpn
                  rw [hY.out, hZ.out, hV.out] at hc
                  exact hc.mono fun en w' hh => ⟨hh.1, hh.2, hh.2.k1, HCS.out w' hh.2.b⟩)
                have HT : Hid (∀ W, S3 w q R r0 r1 g0 g1 ga gb (.slice aa La.length ca) (.slice ab Lb.length cb) La Lb W l0 Y l0 l1 e0 Z e0 e1 → Calls Tryd.prog 49 #[.pointer (some ⟨q, 3, none⟩), .agg #[.int .i64 p.on, .int .i64 p.kd, .int .u64 p.x, .int .i64 p.n]] W fun en w' => en = .returned V ∧ S3 w q R r0 r1 g0 g1 ga gb (.slice aa La.length ca) (.slice ab Lb.length cb) La Lb w' l0 Y l0 Y e0 Z e0 Z ∧ w'.cell? ⟨R, 1, none⟩ = some (.pointer (some ⟨r1, 0, none⟩)) ∧ w'.cell? ⟨sb, off + k * 4, none⟩ = some (.int .i64 p.on) ∧ w'.cell? ⟨sb, off + k * 4 + 1, none⟩ = some (.int .i64 p.kd) ∧ w'.cell? ⟨sb, off + k * 4 + 2, none⟩ = some (.int .u64 p.x) ∧ w'.cell? ⟨sb, off + k * 4 + 3, none⟩ = some (.int .i64 p.n)) := hide (fun W h => by
                  have hc := h.tell1 p (by omega) hpn
                  rw [hY.out, hZ.out, hV.out] at hc
                  exact hc.mono fun en w' hh => ⟨hh.1, hh.2, hh.2.k1, HCS.out w' hh.2.b⟩)
                have hq1 : ∀ W : World, (binOp .neq 94 V V).run Tryd.prog W = .ok (.bool false) W := fun W => by rw [← hV.out]; exact got_neq _ _ _ W
                have hq2 : ∀ i j (W : World), (eqGuard .neq 94 (.tmp i) (.tmp j) V V).run Tryd.prog W = .ok () W := fun i j W => by rw [← hV.out]; exact got_neqG i j _ _ _ W
                have hk0 := HS.out.k1
                have hS0 := HS.out.drew
                clear HS HCS
                go_wp2_with fail
                refine HPK.out.mono ?_
                rintro e wx ⟨rfl, hw⟩
                obtain rfl := hw.symm
                go_wp2_with fail
                go_region_held3 (fun W => W.cell? ⟨R, 1, none⟩ = some (.pointer (some ⟨r1, 0, none⟩)) ∧ W.cell? ⟨sb, off + k * 4, none⟩ = some (.int .i64 p.on) ∧ W.cell? ⟨sb, off + k * 4 + 1, none⟩ = some (.int .i64 p.kd) ∧ W.cell? ⟨sb, off + k * 4 + 2, none⟩ = some (.int .u64 p.x) ∧ W.cell? ⟨sb, off + k * 4 + 3, none⟩ = some (.int .i64 p.n)) (go_keep) ((first
                  | (go_at_call 48; refine (HA.out _ ?_).mono ?_; assumption; rintro e w' ⟨rfl, hR, hk0, hc1, hc2, hc3, hc4⟩)
                  | (go_at_call 49; refine (HT.out _ ?_).mono ?_; assumption; rintro e w' ⟨rfl, hR, hk0, hc1, hc2, hc3, hc4⟩)))
                clear HA HT hS0 HPK
                go_wp2_with fail
                go_roundw
                case rel => exact ⟨k + 1, l0, Y, e0, Z, by go_num, by omega, hide (by assumption)⟩
                case measure => simp [intOf]; omega
            · have hk' : k = ps.length := by omega
              subst hk'
              clear hr HNp hgal hgbl
              go_wp2_with fail
              go_loopw [15] (fun i wr => ∃ k : Nat, k ≤ 2 ∧ i = .int .i64 k ∧ Hid (S3 w q R r0 r1 g0 g1 ga gb (.slice aa La.length ca) (.slice ab Lb.length cb) La Lb wr l0 l1 l0 l1 e0 e1 e0 e1)) (fun i _ => 2 - (intOf i).toNat)
              case atStart => exact ⟨0, by omega, rfl, HS⟩
              case round =>
                clear HS
                obtain ⟨j, hj, rfl, HS⟩ := hrel
                rcases (show j = 0 ∨ j = 1 ∨ j = 2 by omega) with rfl | rfl | rfl
                · skip
                  obtain ⟨K, hK⟩ : ∃ K : Int, Hid ((l0.length : Int) = K) := ⟨_, hide rfl⟩
                  obtain ⟨EV, hEV⟩ : ∃ EV, Hid (errV e0 = EV) := ⟨_, hide rfl⟩
                  obtain ⟨EW, hEW⟩ : ∃ EW, Hid (errV (endE l0 e0) = EW) := ⟨_, hide rfl⟩
                  obtain ⟨F, hF⟩ : ∃ F, Hid (endE l0 e0 = F) := ⟨_, hide rfl⟩
                  have H1 : Hid (∀ W, S3 w q R r0 r1 g0 g1 ga gb (.slice aa La.length ca) (.slice ab Lb.length cb) La Lb W l0 l1 l0 l1 e0 e1 e0 e1 → Calls Tryd.prog 18 #[.pointer (some ⟨r0, 0, none⟩)] W fun en w' => en = .returned (.int .i64 K) ∧ S3 w q R r0 r1 g0 g1 ga gb (.slice aa La.length ca) (.slice ab Lb.length cb) La Lb w' l0 l1 l0 l1 e0 e1 e0 e1 ∧ w'.cell? ⟨R, 0, none⟩ = some (.pointer (some ⟨r0, 0, none⟩)) ∧ w'.cell? ⟨q, 2, none⟩ = some (.int .i64 e0)) := hide (fun W h => by
                    have hc := left_any 42 r0 g0 l0 e0 W h.d0
                    rw [hK.out] at hc
                    exact hc.mono fun en w' hh => by obtain ⟨h1, h2⟩ := hh; subst h2; exact ⟨h1, h, h.k0, h.ex0⟩)
                  have H2 : Hid (∀ W, S3 w q R r0 r1 g0 g1 ga gb (.slice aa La.length ca) (.slice ab Lb.length cb) La Lb W l0 l1 l0 l1 e0 e1 e0 e1 → Calls Tryd.prog 50 #[.pointer (some ⟨q, 0, none⟩)] W fun en w' => en = .returned (.int .i64 K) ∧ S3 w q R r0 r1 g0 g1 ga gb (.slice aa La.length ca) (.slice ab Lb.length cb) La Lb w' l0 l1 l0 l1 e0 e1 e0 e1 ∧ w'.cell? ⟨R, 0, none⟩ = some (.pointer (some ⟨r0, 0, none⟩)) ∧ w'.cell? ⟨q, 2, none⟩ = some (.int .i64 e0)) := hide (fun W h => by
                    obtain ⟨n, hn1, hn2, hn3⟩ := h.f0
                    have hrg := h.ha.keep (w1 := W) h.b.size (fun _ hlt => h.b.block _ hlt)
                    have hc := refLeft_any q 0 ga n _ La e0 W hn3 hrg hn1 (by omega)
                    rw [hn2, hK.out] at hc
                    exact hc.mono fun en w' hh => by obtain ⟨h1, h2⟩ := hh; subst h2; exact ⟨h1, h.drew, h.drew.k0, h.drew.ex0⟩)
                  have H3 : Hid (∀ W, S3 w q R r0 r1 g0 g1 ga gb (.slice aa La.length ca) (.slice ab Lb.length cb) La Lb W l0 l1 l0 l1 e0 e1 e0 e1 → Calls Tryd.prog 16 #[.pointer (some ⟨r0, 0, none⟩)] W fun en w' => en = .returned (EV) ∧ S3 w q R r0 r1 g0 g1 ga gb (.slice aa La.length ca) (.slice ab Lb.length cb) La Lb w' l0 l1 l0 l1 e0 e1 e0 e1 ∧ w'.cell? ⟨R, 0, none⟩ = some (.pointer (some ⟨r0, 0, none⟩)) ∧ w'.cell? ⟨q, 2, none⟩ = some (.int .i64 e0)) := hide (fun W h => by
                    have hc := err_any 42 r0 g0 l0 e0 W h.d0 h.be0.1
                    rw [hEV.out] at hc
                    exact hc.mono fun en w' hh => by obtain ⟨h1, h2⟩ := hh; subst h2; exact ⟨h1, h, h.k0, h.ex0⟩)
                  have H4 : Hid (∀ W, S3 w q R r0 r1 g0 g1 ga gb (.slice aa La.length ca) (.slice ab Lb.length cb) La Lb W l0 l1 l0 l1 e0 e1 e0 e1 → Calls Tryd.prog 51 #[EV] W fun en w' => en = .returned (.int .i64 e0) ∧ S3 w q R r0 r1 g0 g1 ga gb (.slice aa La.length ca) (.slice ab Lb.length cb) La Lb w' l0 l1 l0 l1 e0 e1 e0 e1 ∧ w'.cell? ⟨R, 0, none⟩ = some (.pointer (some ⟨r0, 0, none⟩)) ∧ w'.cell? ⟨q, 2, none⟩ = some (.int .i64 e0)) := hide (fun W h => by
                    have hc := number_any e0 W h.be0.1 h.be0.2 (HE.out.below h.b)
                    rw [hEV.out] at hc
                    exact hc.mono fun en w' hh => ⟨hh.1, h.later hh.2, (h.later hh.2).k0, (h.later hh.2).ex0⟩)
                  have H5 : Hid (∀ W, S3 w q R r0 r1 g0 g1 ga gb (.slice aa La.length ca) (.slice ab Lb.length cb) La Lb W l0 l1 l0 l1 e0 e1 e0 e1 → Calls Tryd.prog 15 #[.pointer (some ⟨r0, 0, none⟩)] W fun en w' => en = .returned (EW) ∧ S3 w q R r0 r1 g0 g1 ga gb (.slice aa La.length ca) (.slice ab Lb.length cb) La Lb w' l0 l1 l0 l1 e0 e1 e0 e1 ∧ w'.cell? ⟨R, 0, none⟩ = some (.pointer (some ⟨r0, 0, none⟩)) ∧ w'.cell? ⟨q, 2, none⟩ = some (.int .i64 e0)) := hide (fun W h => by
                    have hc := end_any 42 r0 g0 l0 e0 W h.d0 h.be0.1
                    rw [hEW.out] at hc
                    exact hc.mono fun en w' hh => by obtain ⟨h1, h2⟩ := hh; subst h2; exact ⟨h1, h, h.k0, h.ex0⟩)
                  have H6 : Hid (∀ W, S3 w q R r0 r1 g0 g1 ga gb (.slice aa La.length ca) (.slice ab Lb.length cb) La Lb W l0 l1 l0 l1 e0 e1 e0 e1 → Calls Tryd.prog 51 #[EW] W fun en w' => en = .returned (.int .i64 F) ∧ S3 w q R r0 r1 g0 g1 ga gb (.slice aa La.length ca) (.slice ab Lb.length cb) La Lb w' l0 l1 l0 l1 e0 e1 e0 e1 ∧ w'.cell? ⟨R, 0, none⟩ = some (.pointer (some ⟨r0, 0, none⟩)) ∧ w'.cell? ⟨q, 2, none⟩ = some (.int .i64 e0)) := hide (fun W h => by
                    have hc := number_any (endE l0 e0) W (endE_rng l0 e0 h.be0.1 h.be0.2).1 (endE_rng l0 e0 h.be0.1 h.be0.2).2 (HE.out.below h.b)
                    rw [hEW.out, hF.out] at hc
                    exact hc.mono fun en w' hh => ⟨hh.1, h.later hh.2, (h.later hh.2).k0, (h.later hh.2).ex0⟩)
                  have H7 : Hid (∀ W, S3 w q R r0 r1 g0 g1 ga gb (.slice aa La.length ca) (.slice ab Lb.length cb) La Lb W l0 l1 l0 l1 e0 e1 e0 e1 → Calls Tryd.prog 52 #[.pointer (some ⟨q, 0, none⟩)] W fun en w' => en = .returned (.int .i64 F) ∧ S3 w q R r0 r1 g0 g1 ga gb (.slice aa La.length ca) (.slice ab Lb.length cb) La Lb w' l0 l1 l0 l1 e0 e1 e0 e1 ∧ w'.cell? ⟨R, 0, none⟩ = some (.pointer (some ⟨r0, 0, none⟩)) ∧ w'.cell? ⟨q, 2, none⟩ = some (.int .i64 e0)) := hide (fun W h => by
                    obtain ⟨n, hn1, hn2, hn3⟩ := h.f0
                    have hrg := h.ha.keep (w1 := W) h.b.size (fun _ hlt => h.b.block _ hlt)
                    have hc := refEnd_any q 0 ga n _ La e0 W hn3 hrg hn1 (by omega)
                    rw [hn2, hF.out] at hc
                    exact hc.mono fun en w' hh => by
                      obtain ⟨h1, h2⟩ := hh
                      rcases h2 with h2 | h2
                      · subst h2; exact ⟨h1, h, h.k0, h.ex0⟩
                      · subst h2; exact ⟨h1, h.drew, h.drew.k0, h.drew.ex0⟩)
                  have n1 : (K != K) = false := by simp
                  have n2 : (e0 != e0) = false := by simp
                  have n3 : (F != F) = false := by simp
                  have t1 := HS.out.k0
                  have t2 := HS.out.ex0
                  have hS0 := HS.out.drew
                  clear HS
                  go_wp2_with fail
                  go_region_held3 (fun W => W.cell? ⟨R, 0, none⟩ = some (.pointer (some ⟨r0, 0, none⟩)) ∧ W.cell? ⟨q, 2, none⟩ = some (.int .i64 e0)) (go_keep) ((first
                    | (go_at_call 18; refine (H1.out _ ?_).mono ?_; assumption; rintro e w' ⟨rfl, hR, hx1, hx2⟩)
                    | (go_at_call 50; refine (H2.out _ ?_).mono ?_; assumption; rintro e w' ⟨rfl, hR, hx1, hx2⟩)
                    | (go_at_call 16; refine (H3.out _ ?_).mono ?_; assumption; rintro e w' ⟨rfl, hR, hx1, hx2⟩)
                    | (go_at_call_of 51 EV; refine (H4.out _ ?_).mono ?_; assumption; rintro e w' ⟨rfl, hR, hx1, hx2⟩)
                    | (go_at_call 15; refine (H5.out _ ?_).mono ?_; assumption; rintro e w' ⟨rfl, hR, hx1, hx2⟩)
                    | (go_at_call_of 51 EW; refine (H6.out _ ?_).mono ?_; assumption; rintro e w' ⟨rfl, hR, hx1, hx2⟩)
                    | (go_at_call 52; refine (H7.out _ ?_).mono ?_; assumption; rintro e w' ⟨rfl, hR, hx1, hx2⟩)))
                  clear H1 H2 H3 H4 H5 H6 H7 hS0
                  go_wp2_with fail
                  go_roundw
                  case rel => exact ⟨1, by omega, by go_num, hide (by assumption)⟩
                  case measure => simp [intOf]
                · skip
                  obtain ⟨K, hK⟩ : ∃ K : Int, Hid ((l1.length : Int) = K) := ⟨_, hide rfl⟩
                  obtain ⟨EV, hEV⟩ : ∃ EV, Hid (errV e1 = EV) := ⟨_, hide rfl⟩
                  obtain ⟨EW, hEW⟩ : ∃ EW, Hid (errV (endE l1 e1) = EW) := ⟨_, hide rfl⟩
                  obtain ⟨F, hF⟩ : ∃ F, Hid (endE l1 e1 = F) := ⟨_, hide rfl⟩
                  have H1 : Hid (∀ W, S3 w q R r0 r1 g0 g1 ga gb (.slice aa La.length ca) (.slice ab Lb.length cb) La Lb W l0 l1 l0 l1 e0 e1 e0 e1 → Calls Tryd.prog 18 #[.pointer (some ⟨r1, 0, none⟩)] W fun en w' => en = .returned (.int .i64 K) ∧ S3 w q R r0 r1 g0 g1 ga gb (.slice aa La.length ca) (.slice ab Lb.length cb) La Lb w' l0 l1 l0 l1 e0 e1 e0 e1 ∧ w'.cell? ⟨R, 1, none⟩ = some (.pointer (some ⟨r1, 0, none⟩)) ∧ w'.cell? ⟨q, 5, none⟩ = some (.int .i64 e1)) := hide (fun W h => by
                    have hc := left_any 42 r1 g1 l1 e1 W h.d1
                    rw [hK.out] at hc
                    exact hc.mono fun en w' hh => by obtain ⟨h1, h2⟩ := hh; subst h2; exact ⟨h1, h, h.k1, h.ex1⟩)
                  have H2 : Hid (∀ W, S3 w q R r0 r1 g0 g1 ga gb (.slice aa La.length ca) (.slice ab Lb.length cb) La Lb W l0 l1 l0 l1 e0 e1 e0 e1 → Calls Tryd.prog 50 #[.pointer (some ⟨q, 3, none⟩)] W fun en w' => en = .returned (.int .i64 K) ∧ S3 w q R r0 r1 g0 g1 ga gb (.slice aa La.length ca) (.slice ab Lb.length cb) La Lb w' l0 l1 l0 l1 e0 e1 e0 e1 ∧ w'.cell? ⟨R, 1, none⟩ = some (.pointer (some ⟨r1, 0, none⟩)) ∧ w'.cell? ⟨q, 5, none⟩ = some (.int .i64 e1)) := hide (fun W h => by
                    obtain ⟨n, hn1, hn2, hn3⟩ := h.f1
                    have hrg := h.hb.keep (w1 := W) h.b.size (fun _ hlt => h.b.block _ hlt)
                    have hc := refLeft_any q 3 gb n _ Lb e1 W hn3 hrg hn1 (by omega)
                    rw [hn2, hK.out] at hc
                    exact hc.mono fun en w' hh => by obtain ⟨h1, h2⟩ := hh; subst h2; exact ⟨h1, h.drew, h.drew.k1, h.drew.ex1⟩)
                  have H3 : Hid (∀ W, S3 w q R r0 r1 g0 g1 ga gb (.slice aa La.length ca) (.slice ab Lb.length cb) La Lb W l0 l1 l0 l1 e0 e1 e0 e1 → Calls Tryd.prog 16 #[.pointer (some ⟨r1, 0, none⟩)] W fun en w' => en = .returned (EV) ∧ S3 w q R r0 r1 g0 g1 ga gb (.slice aa La.length ca) (.slice ab Lb.length cb) La Lb w' l0 l1 l0 l1 e0 e1 e0 e1 ∧ w'.cell? ⟨R, 1, none⟩ = some (.pointer (some ⟨r1, 0, none⟩)) ∧ w'.cell? ⟨q, 5, none⟩ = some (.int .i64 e1)) := hide (fun W h => by
                    have hc := err_any 42 r1 g1 l1 e1 W h.d1 h.be1.1
                    rw [hEV.out] at hc
                    exact hc.mono fun en w' hh => by obtain ⟨h1, h2⟩ := hh; subst h2; exact ⟨h1, h, h.k1, h.ex1⟩)
                  have H4 : Hid (∀ W, S3 w q R r0 r1 g0 g1 ga gb (.slice aa La.length ca) (.slice ab Lb.length cb) La Lb W l0 l1 l0 l1 e0 e1 e0 e1 → Calls Tryd.prog 51 #[EV] W fun en w' => en = .returned (.int .i64 e1) ∧ S3 w q R r0 r1 g0 g1 ga gb (.slice aa La.length ca) (.slice ab Lb.length cb) La Lb w' l0 l1 l0 l1 e0 e1 e0 e1 ∧ w'.cell? ⟨R, 1, none⟩ = some (.pointer (some ⟨r1, 0, none⟩)) ∧ w'.cell? ⟨q, 5, none⟩ = some (.int .i64 e1)) := hide (fun W h => by
                    have hc := number_any e1 W h.be1.1 h.be1.2 (HE.out.below h.b)
                    rw [hEV.out] at hc
                    exact hc.mono fun en w' hh => ⟨hh.1, h.later hh.2, (h.later hh.2).k1, (h.later hh.2).ex1⟩)
                  have H5 : Hid (∀ W, S3 w q R r0 r1 g0 g1 ga gb (.slice aa La.length ca) (.slice ab Lb.length cb) La Lb W l0 l1 l0 l1 e0 e1 e0 e1 → Calls Tryd.prog 15 #[.pointer (some ⟨r1, 0, none⟩)] W fun en w' => en = .returned (EW) ∧ S3 w q R r0 r1 g0 g1 ga gb (.slice aa La.length ca) (.slice ab Lb.length cb) La Lb w' l0 l1 l0 l1 e0 e1 e0 e1 ∧ w'.cell? ⟨R, 1, none⟩ = some (.pointer (some ⟨r1, 0, none⟩)) ∧ w'.cell? ⟨q, 5, none⟩ = some (.int .i64 e1)) := hide (fun W h => by
                    have hc := end_any 42 r1 g1 l1 e1 W h.d1 h.be1.1
                    rw [hEW.out] at hc
                    exact hc.mono fun en w' hh => by obtain ⟨h1, h2⟩ := hh; subst h2; exact ⟨h1, h, h.k1, h.ex1⟩)
                  have H6 : Hid (∀ W, S3 w q R r0 r1 g0 g1 ga gb (.slice aa La.length ca) (.slice ab Lb.length cb) La Lb W l0 l1 l0 l1 e0 e1 e0 e1 → Calls Tryd.prog 51 #[EW] W fun en w' => en = .returned (.int .i64 F) ∧ S3 w q R r0 r1 g0 g1 ga gb (.slice aa La.length ca) (.slice ab Lb.length cb) La Lb w' l0 l1 l0 l1 e0 e1 e0 e1 ∧ w'.cell? ⟨R, 1, none⟩ = some (.pointer (some ⟨r1, 0, none⟩)) ∧ w'.cell? ⟨q, 5, none⟩ = some (.int .i64 e1)) := hide (fun W h => by
                    have hc := number_any (endE l1 e1) W (endE_rng l1 e1 h.be1.1 h.be1.2).1 (endE_rng l1 e1 h.be1.1 h.be1.2).2 (HE.out.below h.b)
                    rw [hEW.out, hF.out] at hc
                    exact hc.mono fun en w' hh => ⟨hh.1, h.later hh.2, (h.later hh.2).k1, (h.later hh.2).ex1⟩)
                  have H7 : Hid (∀ W, S3 w q R r0 r1 g0 g1 ga gb (.slice aa La.length ca) (.slice ab Lb.length cb) La Lb W l0 l1 l0 l1 e0 e1 e0 e1 → Calls Tryd.prog 52 #[.pointer (some ⟨q, 3, none⟩)] W fun en w' => en = .returned (.int .i64 F) ∧ S3 w q R r0 r1 g0 g1 ga gb (.slice aa La.length ca) (.slice ab Lb.length cb) La Lb w' l0 l1 l0 l1 e0 e1 e0 e1 ∧ w'.cell? ⟨R, 1, none⟩ = some (.pointer (some ⟨r1, 0, none⟩)) ∧ w'.cell? ⟨q, 5, none⟩ = some (.int .i64 e1)) := hide (fun W h => by
                    obtain ⟨n, hn1, hn2, hn3⟩ := h.f1
                    have hrg := h.hb.keep (w1 := W) h.b.size (fun _ hlt => h.b.block _ hlt)
                    have hc := refEnd_any q 3 gb n _ Lb e1 W hn3 hrg hn1 (by omega)
                    rw [hn2, hF.out] at hc
                    exact hc.mono fun en w' hh => by
                      obtain ⟨h1, h2⟩ := hh
                      rcases h2 with h2 | h2
                      · subst h2; exact ⟨h1, h, h.k1, h.ex1⟩
                      · subst h2; exact ⟨h1, h.drew, h.drew.k1, h.drew.ex1⟩)
                  have n1 : (K != K) = false := by simp
                  have n2 : (e1 != e1) = false := by simp
                  have n3 : (F != F) = false := by simp
                  have t1 := HS.out.k1
                  have t2 := HS.out.ex1
                  have hS0 := HS.out.drew
                  clear HS
                  go_wp2_with fail
                  go_region_held3 (fun W => W.cell? ⟨R, 1, none⟩ = some (.pointer (some ⟨r1, 0, none⟩)) ∧ W.cell? ⟨q, 5, none⟩ = some (.int .i64 e1)) (go_keep) ((first
                    | (go_at_call 18; refine (H1.out _ ?_).mono ?_; assumption; rintro e w' ⟨rfl, hR, hx1, hx2⟩)
                    | (go_at_call 50; refine (H2.out _ ?_).mono ?_; assumption; rintro e w' ⟨rfl, hR, hx1, hx2⟩)
                    | (go_at_call 16; refine (H3.out _ ?_).mono ?_; assumption; rintro e w' ⟨rfl, hR, hx1, hx2⟩)
                    | (go_at_call_of 51 EV; refine (H4.out _ ?_).mono ?_; assumption; rintro e w' ⟨rfl, hR, hx1, hx2⟩)
                    | (go_at_call 15; refine (H5.out _ ?_).mono ?_; assumption; rintro e w' ⟨rfl, hR, hx1, hx2⟩)
                    | (go_at_call_of 51 EW; refine (H6.out _ ?_).mono ?_; assumption; rintro e w' ⟨rfl, hR, hx1, hx2⟩)
                    | (go_at_call 52; refine (H7.out _ ?_).mono ?_; assumption; rintro e w' ⟨rfl, hR, hx1, hx2⟩)))
                  clear H1 H2 H3 H4 H5 H6 H7 hS0
                  go_wp2_with fail
                  go_roundw
                  case rel => exact ⟨2, by omega, by go_num, hide (by assumption)⟩
                  case measure => simp [intOf]
                · have HBe := hide HS.out.b
                  go_wp2_with fail
                  go_ret
                  exact ⟨rfl, HBe.out⟩
end Go.Proofs.YthalmfbcdkihgaaDoor
