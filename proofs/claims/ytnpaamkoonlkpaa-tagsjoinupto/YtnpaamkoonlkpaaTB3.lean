/-
  My own text: a text of a field, out of any bytes: the call (printed by mktb3.py).
-/
import Derived.Test.YtnpaamkoonlkpaaTB3a
namespace Go.Proofs.Ytnpaamkoonlkpaa
open Go.RowKit

set_option maxRecDepth 100000 in
set_option maxHeartbeats 4000000 in
theorem text_long (s : List UInt8) (q : Bool) (w : World) (hs : s.length ≤ 140737488355328) (h200 : ¬ s.length ≤ 200) :
    Calls Try.prog 24 #[.string ⟨s.toArray⟩, .bool q] w fun e w' => (∃ x : List UInt8, e = .returned (.string ⟨x.toArray⟩) ∧ txB x = true ∧ nlB x = false ∧ (q = false → hdB x = false) ∧ x.length ≤ 200) ∧ Below w.heap.size w w' := by
  obtain ⟨S, hsl, hS⟩ : ∃ S : List UInt8, (⟨s.toArray⟩ : ByteArray).extract 0 200 = ⟨S.toArray⟩ ∧ S.length ≤ 200 := ⟨s.take 200, by apply ByteArray.ext; simp, by rw [List.length_take]; omega⟩
  have hsI : (200 : Int) ≤ (s.length : Int) := by omega
  go_enter Try.func24, Try.ntmps24
  go_wp2_with fail
  rename_i hgt K0 hK0
  generalize decide ((200 : Int) < (s.length : Int)) = b0
  clear hgt hsl hsI hs h200
  go_loopw [5, 6] (fun o i wr => ∃ (n : Nat) (O : List UInt8), i = .int .i64 (n : Int) ∧ n ≤ S.length ∧ Hid (Yr wr w.heap.size o n O) ∧ Hid (txB O = true) ∧ Hid (Below w.heap.size w wr)) (fun _ i _ => S.length - (intOf i).toNat)
  case atStart => exact ⟨0, [], rfl, Nat.zero_le _, hide (Yr.nil _ _), hide rfl, hide (Below.refl _ _)⟩
  case round =>
    obtain ⟨n, O, rfl, hn, HY, HT, HB⟩ := hrel
    have HN1 : Hid (n ≤ 1000) := hide (by omega)
    obtain ⟨a, cap, hv, hrow⟩ := HY.out.val
    have HROW := hide hrow
    clear hrow
    subst hv
    by_cases hlt : n < S.length
    · have hs1 : n < (⟨S.toArray⟩ : ByteArray).size := by rw [bytes_size]; exact hlt
      obtain ⟨c, hc⟩ : ∃ c, (⟨S.toArray⟩ : ByteArray)[n]'hs1 = c := ⟨_, rfl⟩
      obtain ⟨k, hk, hk73⟩ : ∃ k : Nat, (wrap64 (c.toNat : Int)).tmod 73 = (k : Int) ∧ k < 73 := ⟨c.toNat % 73, by rw [wrap_byte, Int.tmod_eq_emod_of_nonneg (by omega)]; omega, Nat.mod_lt _ (by omega)⟩
      have hk1 : k < (⟨#[65, 66, 67, 68, 69, 70, 71, 72, 73, 74, 75, 76, 77, 78, 79, 80, 81, 82, 83, 84, 85, 86, 87, 88, 89, 90, 97, 98, 99, 100, 101, 102, 103, 104, 105, 106, 107, 108, 109, 110, 111, 112, 113, 114, 115, 116, 117, 118, 119, 120, 121, 122, 48, 49, 50, 51, 52, 53, 54, 55, 56, 57, 32, 47, 45, 63, 58, 40, 41, 46, 44, 39, 43]⟩ : ByteArray).size := hk73
      obtain ⟨x, hx⟩ : ∃ x, (⟨#[65, 66, 67, 68, 69, 70, 71, 72, 73, 74, 75, 76, 77, 78, 79, 80, 81, 82, 83, 84, 85, 86, 87, 88, 89, 90, 97, 98, 99, 100, 101, 102, 103, 104, 105, 106, 107, 108, 109, 110, 111, 112, 113, 114, 115, 116, 117, 118, 119, 120, 121, 122, 48, 49, 50, 51, 52, 53, 54, 55, 56, 57, 32, 47, 45, 63, 58, 40, 41, 46, 44, 39, 43]⟩ : ByteArray)[k]'hk1 = x := ⟨_, rfl⟩
      have HX : Hid (inS x = true) := by
        show _ = _
        have : x = s73[k]'hk73 := hx.symm
        rw [this]
        exact List.all_eq_true.1 s73_in _ (List.getElem_mem hk73)
      have HXY : Hid ((inS x || x == 10) = true) := by show _ = _; rw [HX.out]; rfl
      by_cases hc10 : c = 10
      · have hcb : ((c.toNat : Int) == 10) = true := (u8_lit rfl 10 rfl).trans (beq_iff_eq.2 hc10)
        by_cases hl1 : n + 1 < S.length
        · have hl1I : decide ((n : Int) + 1 < (S.length : Int)) = true := decide_eq_true (by omega)
          clear hc10
          have BA := hide ((Below.refl wr.heap.size wr).alloc (Nat.le_refl _) (.cells #[.int .u8 10] 5))
          go_wp2_with (at_builtin; refine wp_append_y rfl _ _ rfl w.heap.size _ n O 10 _ rfl rfl (HY.out.later BA.out) (by simp) (by have := HB.out.size; simp; omega) HN1.out ?_)
          intro v' w1 hown' hgrow hbase
          have B1 := hide ((HB.out.trans (BA.out.mono HB.out.size)).grown hgrow (by have := HB.out.size; simp; omega) hbase)
          have Y1 := hide hown'
          have T1 : Hid (txB (O ++ [10]) = true) := hide (txB_snoc HT.out (by decide))
          clear hown' hgrow hbase
          go_wp2_with fail
          go_roundw
          case rel => exact ⟨n + 1, _, by go_num, by omega, Y1, T1, B1⟩
          case measure => simp [intOf]; omega
        · have hl1I : decide ((n : Int) + 1 < (S.length : Int)) = false := decide_eq_false (by omega)
          clear hc10
          rcases Nat.eq_zero_or_pos n with hn0 | hn0
          · subst hn0
            cases hq : q with
            | true =>
              have BA := hide ((Below.refl wr.heap.size wr).alloc (Nat.le_refl _) (.cells #[.int .u8 (x.toNat : Int)] 5))
              go_wp2_with (at_builtin; refine wp_append_y rfl _ _ rfl w.heap.size _ 0 O x _ rfl rfl (HY.out.later BA.out) (by simp) (by have := HB.out.size; simp; omega) HN1.out ?_)
              intro v' w1 hown' hgrow hbase
              have B1 := hide ((HB.out.trans (BA.out.mono HB.out.size)).grown hgrow (by have := HB.out.size; simp; omega) hbase)
              have Y1 := hide hown'
              have T1 : Hid (txB (O ++ [x]) = true) := hide (txB_snoc HT.out HXY.out)
              clear hown' hgrow hbase
              go_wp2_with fail
              go_roundw
              case rel => exact ⟨0 + 1, _, by go_num, by omega, Y1, T1, B1⟩
              case measure => simp [intOf]; omega
            | false =>
              by_cases hx58 : x = 58
              · have hxb : ((x.toNat : Int) == 58) = true := (u8_lit rfl 58 rfl).trans (beq_iff_eq.2 hx58)
                clear hx58
                have BA := hide ((Below.refl wr.heap.size wr).alloc (Nat.le_refl _) (.cells #[.int .u8 120] 5))
                go_wp2_with (at_builtin; refine wp_append_y rfl _ _ rfl w.heap.size _ 0 O 120 _ rfl rfl (HY.out.later BA.out) (by simp) (by have := HB.out.size; simp; omega) HN1.out ?_)
                intro v' w1 hown' hgrow hbase
                have B1 := hide ((HB.out.trans (BA.out.mono HB.out.size)).grown hgrow (by have := HB.out.size; simp; omega) hbase)
                have Y1 := hide hown'
                have T1 : Hid (txB (O ++ [120]) = true) := hide (txB_snoc HT.out (by decide))
                clear hown' hgrow hbase
                go_wp2_with fail
                go_roundw
                case rel => exact ⟨0 + 1, _, by go_num, by omega, Y1, T1, B1⟩
                case measure => simp [intOf]; omega
              · have hxb : ((x.toNat : Int) == 58) = false := (u8_lit rfl 58 rfl).trans (beq_eq_false_iff_ne.2 hx58)
                have BA := hide ((Below.refl wr.heap.size wr).alloc (Nat.le_refl _) (.cells #[.int .u8 (x.toNat : Int)] 5))
                go_wp2_with (at_builtin; refine wp_append_y rfl _ _ rfl w.heap.size _ 0 O x _ rfl rfl (HY.out.later BA.out) (by simp) (by have := HB.out.size; simp; omega) HN1.out ?_)
                intro v' w1 hown' hgrow hbase
                have B1 := hide ((HB.out.trans (BA.out.mono HB.out.size)).grown hgrow (by have := HB.out.size; simp; omega) hbase)
                have Y1 := hide hown'
                have T1 : Hid (txB (O ++ [x]) = true) := hide (txB_snoc HT.out HXY.out)
                clear hown' hgrow hbase
                go_wp2_with fail
                go_roundw
                case rel => exact ⟨0 + 1, _, by go_num, by omega, Y1, T1, B1⟩
                case measure => simp [intOf]; omega
          · obtain ⟨m, rfl⟩ : ∃ m, n = m + 1 := ⟨n - 1, by omega⟩
            have hnE : ((m : Int) + 1 == 0) = false := beq_eq_false_iff_ne.2 (by omega)
            obtain ⟨g, ha, hBg, hgl, hcell, _⟩ := HROW.out (by omega)
            have HOL := hide HY.out.2
            obtain ⟨o, ho⟩ : ∃ o, O[m]? = some o := ⟨_, List.getElem?_eq_getElem (by rw [HOL.out]; omega)⟩
            have hco := hcell m o ho
            subst ha
            clear hcell ho
            by_cases ho10 : o = 10
            · have hob : ((o.toNat : Int) == 10) = true := (u8_lit rfl 10 rfl).trans (beq_iff_eq.2 ho10)
              clear ho10
              by_cases hx58 : x = 58
              · have hxb : ((x.toNat : Int) == 58) = true := (u8_lit rfl 58 rfl).trans (beq_iff_eq.2 hx58)
                clear hx58
                have BA := hide ((Below.refl wr.heap.size wr).alloc (Nat.le_refl _) (.cells #[.int .u8 120] 5))
                go_wp2_with (at_builtin; refine wp_append_y rfl _ _ rfl w.heap.size _ (m + 1) O 120 _ rfl rfl (HY.out.later BA.out) (by simp) (by have := HB.out.size; simp; omega) HN1.out ?_)
                intro v' w1 hown' hgrow hbase
                have B1 := hide ((HB.out.trans (BA.out.mono HB.out.size)).grown hgrow (by have := HB.out.size; simp; omega) hbase)
                have Y1 := hide hown'
                have T1 : Hid (txB (O ++ [120]) = true) := hide (txB_snoc HT.out (by decide))
                clear hown' hgrow hbase
                go_wp2_with fail
                go_roundw
                case rel => exact ⟨(m + 1) + 1, _, by go_num, by omega, Y1, T1, B1⟩
                case measure => simp [intOf]; omega
              · have hxb : ((x.toNat : Int) == 58) = false := (u8_lit rfl 58 rfl).trans (beq_eq_false_iff_ne.2 hx58)
                by_cases hx45 : x = 45
                · have hxc : ((x.toNat : Int) == 45) = true := (u8_lit rfl 45 rfl).trans (beq_iff_eq.2 hx45)
                  clear hx58 hx45
                  have BA := hide ((Below.refl wr.heap.size wr).alloc (Nat.le_refl _) (.cells #[.int .u8 120] 5))
                  go_wp2_with (at_builtin; refine wp_append_y rfl _ _ rfl w.heap.size _ (m + 1) O 120 _ rfl rfl (HY.out.later BA.out) (by simp) (by have := HB.out.size; simp; omega) HN1.out ?_)
                  intro v' w1 hown' hgrow hbase
                  have B1 := hide ((HB.out.trans (BA.out.mono HB.out.size)).grown hgrow (by have := HB.out.size; simp; omega) hbase)
                  have Y1 := hide hown'
                  have T1 : Hid (txB (O ++ [120]) = true) := hide (txB_snoc HT.out (by decide))
                  clear hown' hgrow hbase
                  go_wp2_with fail
                  go_roundw
                  case rel => exact ⟨(m + 1) + 1, _, by go_num, by omega, Y1, T1, B1⟩
                  case measure => simp [intOf]; omega
                · have hxc : ((x.toNat : Int) == 45) = false := (u8_lit rfl 45 rfl).trans (beq_eq_false_iff_ne.2 hx45)
                  have BA := hide ((Below.refl wr.heap.size wr).alloc (Nat.le_refl _) (.cells #[.int .u8 (x.toNat : Int)] 5))
                  go_wp2_with (at_builtin; refine wp_append_y rfl _ _ rfl w.heap.size _ (m + 1) O x _ rfl rfl (HY.out.later BA.out) (by simp) (by have := HB.out.size; simp; omega) HN1.out ?_)
                  intro v' w1 hown' hgrow hbase
                  have B1 := hide ((HB.out.trans (BA.out.mono HB.out.size)).grown hgrow (by have := HB.out.size; simp; omega) hbase)
                  have Y1 := hide hown'
                  have T1 : Hid (txB (O ++ [x]) = true) := hide (txB_snoc HT.out HXY.out)
                  clear hown' hgrow hbase
                  go_wp2_with fail
                  go_roundw
                  case rel => exact ⟨(m + 1) + 1, _, by go_num, by omega, Y1, T1, B1⟩
                  case measure => simp [intOf]; omega
            · have hob : ((o.toNat : Int) == 10) = false := (u8_lit rfl 10 rfl).trans (beq_eq_false_iff_ne.2 ho10)
              have BA := hide ((Below.refl wr.heap.size wr).alloc (Nat.le_refl _) (.cells #[.int .u8 (x.toNat : Int)] 5))
              go_wp2_with (at_builtin; refine wp_append_y rfl _ _ rfl w.heap.size _ (m + 1) O x _ rfl rfl (HY.out.later BA.out) (by simp) (by have := HB.out.size; simp; omega) HN1.out ?_)
              intro v' w1 hown' hgrow hbase
              have B1 := hide ((HB.out.trans (BA.out.mono HB.out.size)).grown hgrow (by have := HB.out.size; simp; omega) hbase)
              have Y1 := hide hown'
              have T1 : Hid (txB (O ++ [x]) = true) := hide (txB_snoc HT.out HXY.out)
              clear hown' hgrow hbase
              go_wp2_with fail
              go_roundw
              case rel => exact ⟨(m + 1) + 1, _, by go_num, by omega, Y1, T1, B1⟩
              case measure => simp [intOf]; omega
      · have hcb : ((c.toNat : Int) == 10) = false := (u8_lit rfl 10 rfl).trans (beq_eq_false_iff_ne.2 hc10)
        clear hc10
        rcases Nat.eq_zero_or_pos n with hn0 | hn0
        · subst hn0
          cases hq : q with
          | true =>
            have BA := hide ((Below.refl wr.heap.size wr).alloc (Nat.le_refl _) (.cells #[.int .u8 (x.toNat : Int)] 5))
            go_wp2_with (at_builtin; refine wp_append_y rfl _ _ rfl w.heap.size _ 0 O x _ rfl rfl (HY.out.later BA.out) (by simp) (by have := HB.out.size; simp; omega) HN1.out ?_)
            intro v' w1 hown' hgrow hbase
            have B1 := hide ((HB.out.trans (BA.out.mono HB.out.size)).grown hgrow (by have := HB.out.size; simp; omega) hbase)
            have Y1 := hide hown'
            have T1 : Hid (txB (O ++ [x]) = true) := hide (txB_snoc HT.out HXY.out)
            clear hown' hgrow hbase
            go_wp2_with fail
            go_roundw
            case rel => exact ⟨0 + 1, _, by go_num, by omega, Y1, T1, B1⟩
            case measure => simp [intOf]; omega
          | false =>
            by_cases hx58 : x = 58
            · have hxb : ((x.toNat : Int) == 58) = true := (u8_lit rfl 58 rfl).trans (beq_iff_eq.2 hx58)
              clear hx58
              have BA := hide ((Below.refl wr.heap.size wr).alloc (Nat.le_refl _) (.cells #[.int .u8 120] 5))
              go_wp2_with (at_builtin; refine wp_append_y rfl _ _ rfl w.heap.size _ 0 O 120 _ rfl rfl (HY.out.later BA.out) (by simp) (by have := HB.out.size; simp; omega) HN1.out ?_)
              intro v' w1 hown' hgrow hbase
              have B1 := hide ((HB.out.trans (BA.out.mono HB.out.size)).grown hgrow (by have := HB.out.size; simp; omega) hbase)
              have Y1 := hide hown'
              have T1 : Hid (txB (O ++ [120]) = true) := hide (txB_snoc HT.out (by decide))
              clear hown' hgrow hbase
              go_wp2_with fail
              go_roundw
              case rel => exact ⟨0 + 1, _, by go_num, by omega, Y1, T1, B1⟩
              case measure => simp [intOf]; omega
            · have hxb : ((x.toNat : Int) == 58) = false := (u8_lit rfl 58 rfl).trans (beq_eq_false_iff_ne.2 hx58)
              have BA := hide ((Below.refl wr.heap.size wr).alloc (Nat.le_refl _) (.cells #[.int .u8 (x.toNat : Int)] 5))
              go_wp2_with (at_builtin; refine wp_append_y rfl _ _ rfl w.heap.size _ 0 O x _ rfl rfl (HY.out.later BA.out) (by simp) (by have := HB.out.size; simp; omega) HN1.out ?_)
              intro v' w1 hown' hgrow hbase
              have B1 := hide ((HB.out.trans (BA.out.mono HB.out.size)).grown hgrow (by have := HB.out.size; simp; omega) hbase)
              have Y1 := hide hown'
              have T1 : Hid (txB (O ++ [x]) = true) := hide (txB_snoc HT.out HXY.out)
              clear hown' hgrow hbase
              go_wp2_with fail
              go_roundw
              case rel => exact ⟨0 + 1, _, by go_num, by omega, Y1, T1, B1⟩
              case measure => simp [intOf]; omega
        · obtain ⟨m, rfl⟩ : ∃ m, n = m + 1 := ⟨n - 1, by omega⟩
          have hnE : ((m : Int) + 1 == 0) = false := beq_eq_false_iff_ne.2 (by omega)
          obtain ⟨g, ha, hBg, hgl, hcell, _⟩ := HROW.out (by omega)
          have HOL := hide HY.out.2
          obtain ⟨o, ho⟩ : ∃ o, O[m]? = some o := ⟨_, List.getElem?_eq_getElem (by rw [HOL.out]; omega)⟩
          have hco := hcell m o ho
          subst ha
          clear hcell ho
          by_cases ho10 : o = 10
          · have hob : ((o.toNat : Int) == 10) = true := (u8_lit rfl 10 rfl).trans (beq_iff_eq.2 ho10)
            clear ho10
            by_cases hx58 : x = 58
            · have hxb : ((x.toNat : Int) == 58) = true := (u8_lit rfl 58 rfl).trans (beq_iff_eq.2 hx58)
              clear hx58
              have BA := hide ((Below.refl wr.heap.size wr).alloc (Nat.le_refl _) (.cells #[.int .u8 120] 5))
              go_wp2_with (at_builtin; refine wp_append_y rfl _ _ rfl w.heap.size _ (m + 1) O 120 _ rfl rfl (HY.out.later BA.out) (by simp) (by have := HB.out.size; simp; omega) HN1.out ?_)
              intro v' w1 hown' hgrow hbase
              have B1 := hide ((HB.out.trans (BA.out.mono HB.out.size)).grown hgrow (by have := HB.out.size; simp; omega) hbase)
              have Y1 := hide hown'
              have T1 : Hid (txB (O ++ [120]) = true) := hide (txB_snoc HT.out (by decide))
              clear hown' hgrow hbase
              go_wp2_with fail
              go_roundw
              case rel => exact ⟨(m + 1) + 1, _, by go_num, by omega, Y1, T1, B1⟩
              case measure => simp [intOf]; omega
            · have hxb : ((x.toNat : Int) == 58) = false := (u8_lit rfl 58 rfl).trans (beq_eq_false_iff_ne.2 hx58)
              by_cases hx45 : x = 45
              · have hxc : ((x.toNat : Int) == 45) = true := (u8_lit rfl 45 rfl).trans (beq_iff_eq.2 hx45)
                clear hx58 hx45
                have BA := hide ((Below.refl wr.heap.size wr).alloc (Nat.le_refl _) (.cells #[.int .u8 120] 5))
                go_wp2_with (at_builtin; refine wp_append_y rfl _ _ rfl w.heap.size _ (m + 1) O 120 _ rfl rfl (HY.out.later BA.out) (by simp) (by have := HB.out.size; simp; omega) HN1.out ?_)
                intro v' w1 hown' hgrow hbase
                have B1 := hide ((HB.out.trans (BA.out.mono HB.out.size)).grown hgrow (by have := HB.out.size; simp; omega) hbase)
                have Y1 := hide hown'
                have T1 : Hid (txB (O ++ [120]) = true) := hide (txB_snoc HT.out (by decide))
                clear hown' hgrow hbase
                go_wp2_with fail
                go_roundw
                case rel => exact ⟨(m + 1) + 1, _, by go_num, by omega, Y1, T1, B1⟩
                case measure => simp [intOf]; omega
              · have hxc : ((x.toNat : Int) == 45) = false := (u8_lit rfl 45 rfl).trans (beq_eq_false_iff_ne.2 hx45)
                have BA := hide ((Below.refl wr.heap.size wr).alloc (Nat.le_refl _) (.cells #[.int .u8 (x.toNat : Int)] 5))
                go_wp2_with (at_builtin; refine wp_append_y rfl _ _ rfl w.heap.size _ (m + 1) O x _ rfl rfl (HY.out.later BA.out) (by simp) (by have := HB.out.size; simp; omega) HN1.out ?_)
                intro v' w1 hown' hgrow hbase
                have B1 := hide ((HB.out.trans (BA.out.mono HB.out.size)).grown hgrow (by have := HB.out.size; simp; omega) hbase)
                have Y1 := hide hown'
                have T1 : Hid (txB (O ++ [x]) = true) := hide (txB_snoc HT.out HXY.out)
                clear hown' hgrow hbase
                go_wp2_with fail
                go_roundw
                case rel => exact ⟨(m + 1) + 1, _, by go_num, by omega, Y1, T1, B1⟩
                case measure => simp [intOf]; omega
          · have hob : ((o.toNat : Int) == 10) = false := (u8_lit rfl 10 rfl).trans (beq_eq_false_iff_ne.2 ho10)
            have BA := hide ((Below.refl wr.heap.size wr).alloc (Nat.le_refl _) (.cells #[.int .u8 (x.toNat : Int)] 5))
            go_wp2_with (at_builtin; refine wp_append_y rfl _ _ rfl w.heap.size _ (m + 1) O x _ rfl rfl (HY.out.later BA.out) (by simp) (by have := HB.out.size; simp; omega) HN1.out ?_)
            intro v' w1 hown' hgrow hbase
            have B1 := hide ((HB.out.trans (BA.out.mono HB.out.size)).grown hgrow (by have := HB.out.size; simp; omega) hbase)
            have Y1 := hide hown'
            have T1 : Hid (txB (O ++ [x]) = true) := hide (txB_snoc HT.out HXY.out)
            clear hown' hgrow hbase
            go_wp2_with fail
            go_roundw
            case rel => exact ⟨(m + 1) + 1, _, by go_num, by omega, Y1, T1, B1⟩
            case measure => simp [intOf]; omega
    · skip
      have HOL := hide HY.out.2
      have hlt' : decide ((n : Int) < (S.length : Int)) = false := decide_eq_false (by omega)
      have HTX : Hid (txB (F3 (F2 O n) n) = true) := by
        show _ = _
        have h1 := F2_tx HT.out
        have h2 := F3_tx h1
        rw [F2_len] at h2
        rw [HOL.out] at h2; exact h2
      have HNL : Hid (nlB (F3 (F2 O n) n) = false) := by
        show _ = _
        have h1 := F3_nl O
        rw [HOL.out] at h1; exact h1
      have HN2 : Hid (n ≤ 200) := hide (by omega)
      have HFL : Hid ((F2 O n).length = n) := hide (F2_len _ _)
      obtain ⟨W1, rfl⟩ : ∃ W1, W1 = wr := ⟨wr, rfl⟩
      go_wp2_with fail
      go_loopw [9, 10] (fun f i wr2 => ∃ k : Nat, i = .int .i64 (k : Int) ∧ k ≤ n ∧ Hid (Yr wr2 W1.heap.size f k (F2 O k)) ∧ Hid (Below W1.heap.size W1 wr2)) (fun _ i _ => n - (intOf i).toNat)
      case atStart => exact ⟨0, rfl, Nat.zero_le _, hide (Yr.nil _ _), hide (Below.refl _ _)⟩
      case round =>
        obtain ⟨k, rfl, hk, HF, HBF⟩ := hrel
        have HK1 : Hid (k ≤ 1000) := by show _ ≤ _; have := HN2.out; omega
        obtain ⟨fa, fcap, hfv, hfrow⟩ := HF.out.val
        have HFROW := hide hfrow
        clear hfrow
        subst hfv
        by_cases hkn : k < n
        · obtain ⟨g, ha, hBg, hgl, hcell, _⟩ := HROW.out (by omega)
          subst ha
          have HCELL : Hid (∀ j c, O[j]? = some c → wr.cell? ⟨g, j, none⟩ = some (.int .u8 (c.toNat : Int))) := hide (fun j c h => (HBF.out.cell (p := ⟨g, j, none⟩) hgl).trans (hcell j c h))
          clear hcell
          obtain ⟨o, ho⟩ : ∃ o, O[k]? = some o := ⟨_, List.getElem?_eq_getElem (by rw [HOL.out]; exact hkn)⟩
          have hco := HCELL.out k o ho
          have HO : Hid (O.getD k 0 = o) := by show _ = _; rw [List.getD_eq_getElem?_getD, ho]; rfl
          clear ho
          by_cases ho10 : o = 10
          · have hob : ((o.toNat : Int) == 10) = true := (u8_lit rfl 10 rfl).trans (beq_iff_eq.2 ho10)
            have HTEN := hide ho10
            clear ho10
            by_cases hkl : k + 1 = n
            · have hke : ((k : Int) + 1 == (n : Int)) = true := beq_iff_eq.2 (by omega)
              have HV : Hid (f2 O k = 121) := by show _ = _; unfold f2; rw [if_pos ⟨HO.out.trans HTEN.out, .inl (by rw [HOL.out]; exact hkl)⟩]
              have HKL := hide hkl
              clear hkl
              have BA := hide ((Below.refl wr.heap.size wr).alloc (Nat.le_refl _) (.cells #[.int .u8 121] 5))
              go_wp2_with (at_builtin; refine wp_append_y rfl _ _ rfl W1.heap.size _ k _ 121 _ rfl rfl (HF.out.later BA.out) (by simp) (by have := HBF.out.size; simp; omega) HK1.out ?_)
              intro v' w1 hown' hgrow hbase
              have B1 := hide ((HBF.out.trans (BA.out.mono HBF.out.size)).grown hgrow (by have := HBF.out.size; simp; omega) hbase)
              have Y1 : Hid (Yr w1 W1.heap.size v' (k + 1) (F2 O (k + 1))) := by rw [F2_succ, HV.out]; exact hide hown'
              clear hown' hgrow hbase
              go_wp2_with fail
              go_roundw
              case rel => exact ⟨k + 1, by go_num, by omega, Y1, B1⟩
              case measure => simp [intOf]; omega
            · have hke : ((k : Int) + 1 == (n : Int)) = false := beq_eq_false_iff_ne.2 (by omega)
              obtain ⟨p, hp⟩ : ∃ p, O[k + 1]? = some p := ⟨_, List.getElem?_eq_getElem (by rw [HOL.out]; omega)⟩
              have hcp := HCELL.out (k + 1) p hp
              have HP : Hid (O.getD (k + 1) 0 = p) := by show _ = _; rw [List.getD_eq_getElem?_getD, hp]; rfl
              have hk1n : (k : Int) + 1 < (n : Int) := by omega
              clear hp
              by_cases hp10 : p = 10
              · have hpb : ((p.toNat : Int) == 10) = true := (u8_lit rfl 10 rfl).trans (beq_iff_eq.2 hp10)
                have HV : Hid (f2 O k = 121) := by show _ = _; unfold f2; rw [if_pos ⟨HO.out.trans HTEN.out, .inr (HP.out.trans hp10)⟩]
                clear hp10
                have BA := hide ((Below.refl wr.heap.size wr).alloc (Nat.le_refl _) (.cells #[.int .u8 121] 5))
                go_wp2_with (at_builtin; refine wp_append_y rfl _ _ rfl W1.heap.size _ k _ 121 _ rfl rfl (HF.out.later BA.out) (by simp) (by have := HBF.out.size; simp; omega) HK1.out ?_)
                intro v' w1 hown' hgrow hbase
                have B1 := hide ((HBF.out.trans (BA.out.mono HBF.out.size)).grown hgrow (by have := HBF.out.size; simp; omega) hbase)
                have Y1 : Hid (Yr w1 W1.heap.size v' (k + 1) (F2 O (k + 1))) := by rw [F2_succ, HV.out]; exact hide hown'
                clear hown' hgrow hbase
                go_wp2_with fail
                go_roundw
                case rel => exact ⟨k + 1, by go_num, by omega, Y1, B1⟩
                case measure => simp [intOf]; omega
              · have hpb : ((p.toNat : Int) == 10) = false := (u8_lit rfl 10 rfl).trans (beq_eq_false_iff_ne.2 hp10)
                have HV : Hid (f2 O k = o) := by show _ = _; unfold f2; rw [if_neg (fun e => e.2.elim (fun e => hkl (by rw [HOL.out] at e; exact e)) (fun e => hp10 (HP.out.symm.trans e)))]; exact HO.out
                have BA := hide ((Below.refl wr.heap.size wr).alloc (Nat.le_refl _) (.cells #[.int .u8 (o.toNat : Int)] 5))
                go_wp2_with (at_builtin; refine wp_append_y rfl _ _ rfl W1.heap.size _ k _ o _ rfl rfl (HF.out.later BA.out) (by simp) (by have := HBF.out.size; simp; omega) HK1.out ?_)
                intro v' w1 hown' hgrow hbase
                have B1 := hide ((HBF.out.trans (BA.out.mono HBF.out.size)).grown hgrow (by have := HBF.out.size; simp; omega) hbase)
                have Y1 : Hid (Yr w1 W1.heap.size v' (k + 1) (F2 O (k + 1))) := by rw [F2_succ, HV.out]; exact hide hown'
                clear hown' hgrow hbase
                go_wp2_with fail
                go_roundw
                case rel => exact ⟨k + 1, by go_num, by omega, Y1, B1⟩
                case measure => simp [intOf]; omega
          · have hob : ((o.toNat : Int) == 10) = false := (u8_lit rfl 10 rfl).trans (beq_eq_false_iff_ne.2 ho10)
            have HV : Hid (f2 O k = o) := by show _ = _; unfold f2; rw [if_neg (fun e => ho10 (HO.out.symm.trans e.1))]; exact HO.out
            have BA := hide ((Below.refl wr.heap.size wr).alloc (Nat.le_refl _) (.cells #[.int .u8 (o.toNat : Int)] 5))
            go_wp2_with (at_builtin; refine wp_append_y rfl _ _ rfl W1.heap.size _ k _ o _ rfl rfl (HF.out.later BA.out) (by simp) (by have := HBF.out.size; simp; omega) HK1.out ?_)
            intro v' w1 hown' hgrow hbase
            have B1 := hide ((HBF.out.trans (BA.out.mono HBF.out.size)).grown hgrow (by have := HBF.out.size; simp; omega) hbase)
            have Y1 : Hid (Yr w1 W1.heap.size v' (k + 1) (F2 O (k + 1))) := by rw [F2_succ, HV.out]; exact hide hown'
            clear hown' hgrow hbase
            go_wp2_with fail
            go_roundw
            case rel => exact ⟨k + 1, by go_num, by omega, Y1, B1⟩
            case measure => simp [intOf]; omega
        · have hkn' : k = n := by omega
          subst hkn'
          obtain ⟨W2, rfl⟩ : ∃ W2, W2 = wr := ⟨wr, rfl⟩
          obtain ⟨F, HFE⟩ : ∃ F, Hid (F2 O k = F) := ⟨_, hide rfl⟩
          rw [HFE.out] at HTX HNL HFL HF
          go_wp2_with fail
          go_loopw [11] (fun i wr3 => ∃ m : Nat, i = .int .i64 (m : Int) ∧ m ≤ k ∧ Hid (Yr wr3 W1.heap.size (.slice fa k fcap) k (F3 F m)) ∧ Hid (Below W1.heap.size W1 wr3)) (fun i _ => k - (intOf i).toNat)
          case atStart => exact ⟨0, rfl, Nat.zero_le _, by rw [F3_zero]; exact HF, HBF⟩
          case round =>
            clear HF HBF HFROW
            obtain ⟨m, rfl, hm, HF, HBF⟩ := hrel
            obtain ⟨fa', fcap', hfv, hfrow⟩ := HF.out.val
            simp only [Value.slice.injEq] at hfv
            obtain ⟨rfl, _, rfl⟩ := hfv
            by_cases hmk : m < k
            · obtain ⟨g, ha, hBg, hgl, hcell, hfz⟩ := hfrow (by omega)
              subst ha
              have HCELL := hide hcell
              clear hcell hfrow
              have HML : Hid (m < F.length) := by show _ < _; rw [HFL.out]; exact hmk
              obtain ⟨y, HYY, hcy⟩ : ∃ y, Hid (F.getD m 0 = y) ∧ wr.cell? ⟨g, m, none⟩ = some (.int .u8 (y.toNat : Int)) := ⟨_, hide rfl, HCELL.out m _ (by rw [getD_some (by rw [F3_len]; exact HML.out), F3_at HML.out, if_neg (by omega)])⟩
              have hfm := hfz m
              have KEEP : Hid (f3 F m = y → Yr wr W1.heap.size (.slice (some ⟨g, 0, none⟩) k fcap) k (F3 F (m + 1))) := hide (fun e => by rw [F3_keep HML.out (e.trans HYY.out.symm)]; exact HF.out)
              have PUT3 : Hid (f3 F m = 122 → Yr (wr.setCell ⟨g, m, none⟩ (.int .u8 122)) W1.heap.size (.slice (some ⟨g, 0, none⟩) k fcap) k (F3 F (m + 1))) := hide (fun e => by rw [F3_succ, e]; exact HF.out.set m 122)
              have HBS : Hid (Below W1.heap.size W1 (wr.setCell ⟨g, m, none⟩ (.int .u8 122))) := hide (HBF.out.setCell (p := ⟨g, m, none⟩) hBg _)
              rcases Nat.eq_zero_or_pos m with hm0 | hm0
              · subst hm0
                have Y1 := hide (KEEP.out (by unfold f3; rw [if_neg (fun e => absurd e.1 (by omega))]; exact HYY.out))
                clear KEEP PUT3 hfz
                go_wp2_with fail
                go_roundw
                case rel => exact ⟨0 + 1, by go_num, by omega, Y1, HBF⟩
                case measure => simp [intOf]; omega
              · obtain ⟨r, rfl⟩ : ∃ r, m = r + 1 := ⟨m - 1, by omega⟩
                obtain ⟨z, HZ, hcz⟩ : ∃ z, Hid (f3 F r = z) ∧ wr.cell? ⟨g, r, none⟩ = some (.int .u8 (z.toNat : Int)) := ⟨_, hide rfl, HCELL.out r _ (by have := HML.out; rw [getD_some (by rw [F3_len]; omega), F3_at (by omega), if_pos (by omega)])⟩
                clear HCELL hfz
                by_cases hz10 : z = 10
                · have hzb : ((z.toNat : Int) == 10) = true := (u8_lit rfl 10 rfl).trans (beq_iff_eq.2 hz10)
                  have HFR : Hid (F.getD r 0 = 10) := by show _ = _; rw [← f3_ten, HZ.out, hz10]
                  clear hz10
                  by_cases hy58 : y = 58
                  · have hyb : ((y.toNat : Int) == 58) = true := (u8_lit rfl 58 rfl).trans (beq_iff_eq.2 hy58)
                    have Y1 := hide (PUT3.out (by unfold f3; rw [if_pos ⟨by omega, by rw [show r + 1 - 1 = r by omega]; exact HFR.out, .inl (HYY.out.trans hy58)⟩]))
                    clear KEEP PUT3 hy58
                    go_wp2_with fail
                    go_roundw
                    case rel => exact ⟨r + 1 + 1, by go_num, by omega, Y1, HBS⟩
                    case measure => simp [intOf]; omega
                  · have hyb : ((y.toNat : Int) == 58) = false := (u8_lit rfl 58 rfl).trans (beq_eq_false_iff_ne.2 hy58)
                    by_cases hy45 : y = 45
                    · have hyc : ((y.toNat : Int) == 45) = true := (u8_lit rfl 45 rfl).trans (beq_iff_eq.2 hy45)
                      have Y1 := hide (PUT3.out (by unfold f3; rw [if_pos ⟨by omega, by rw [show r + 1 - 1 = r by omega]; exact HFR.out, .inr (HYY.out.trans hy45)⟩]))
                      clear KEEP PUT3 hy45 hy58
                      go_wp2_with fail
                      go_roundw
                      case rel => exact ⟨r + 1 + 1, by go_num, by omega, Y1, HBS⟩
                      case measure => simp [intOf]; omega
                    · have hyc : ((y.toNat : Int) == 45) = false := (u8_lit rfl 45 rfl).trans (beq_eq_false_iff_ne.2 hy45)
                      have Y1 := hide (KEEP.out (by unfold f3; rw [if_neg (fun e => e.2.2.elim (fun e => hy58 (HYY.out.symm.trans e)) (fun e => hy45 (HYY.out.symm.trans e)))]; exact HYY.out))
                      clear KEEP PUT3
                      go_wp2_with fail
                      go_roundw
                      case rel => exact ⟨r + 1 + 1, by go_num, by omega, Y1, HBF⟩
                      case measure => simp [intOf]; omega
                · have hzb : ((z.toNat : Int) == 10) = false := (u8_lit rfl 10 rfl).trans (beq_eq_false_iff_ne.2 hz10)
                  have Y1 := hide (KEEP.out (by unfold f3; rw [if_neg (fun e => hz10 (by rw [← HZ.out, f3_ten]; have := e.2.1; rw [show r + 1 - 1 = r by omega] at this; exact this))]; exact HYY.out))
                  clear KEEP PUT3
                  go_wp2_with fail
                  go_roundw
                  case rel => exact ⟨r + 1 + 1, by go_num, by omega, Y1, HBF⟩
                  case measure => simp [intOf]; omega
            · have hmk' : m = k := by omega
              subst hmk'
              obtain ⟨X, HXE⟩ : ∃ X, Hid (F3 F m = X) := ⟨_, hide rfl⟩
              rw [HXE.out] at HTX HNL HF
              have HXL := hide HF.out.2
              have HWB := hide (HB.out.trans (HBF.out.mono HB.out.size))
              have hcv0 : (convert 43 9 (.slice fa m fcap)).run Try.prog wr = .ok (.string ⟨X.toArray⟩) wr := HF.out.conv
              cases hq : q with
              | true =>
                go_wp2_with fail
                go_ret
                exact ⟨⟨X, rfl, HTX.out, HNL.out, (fun e => by rw [hq] at e; cases e), by rw [HXL.out]; exact HN2.out⟩, HWB.out⟩
              | false =>
                rcases Nat.eq_zero_or_pos m with hm0 | hm0
                · subst hm0
                  have hX0 : X = [] := List.length_eq_zero_iff.1 HXL.out
                  subst hX0
                  go_wp2_with fail
                  go_ret
                  exact ⟨⟨[], rfl, HTX.out, HNL.out, fun _ => rfl, Nat.zero_le _⟩, HWB.out⟩
                · obtain ⟨g, ha, hBg, hgl, hcell, hfz⟩ := hfrow hm0
                  subst ha
                  obtain ⟨y, HYY, hcy⟩ : ∃ y, Hid (X.getD 0 0 = y) ∧ wr.cell? ⟨g, 0, none⟩ = some (.int .u8 (y.toNat : Int)) := ⟨_, hide rfl, by rw [HXE.out] at hcell; exact hcell 0 _ (getD_some (by rw [HXL.out]; exact hm0))⟩
                  have hf0 := hfz 0
                  have hmI : decide (0 < (m : Int)) = true := decide_eq_true (by omega)
                  clear hcell hfz
                  by_cases hy58 : y = 58
                  · have hyb : ((y.toNat : Int) == 58) = true := (u8_lit rfl 58 rfl).trans (beq_iff_eq.2 hy58)
                    have hcv1 : (convert 43 9 (.slice (some ⟨g, 0, none⟩) m fcap)).run Try.prog (wr.setCell ⟨g, 0, none⟩ (.int .u8 120)) = .ok (.string ⟨(X.set 0 120).toArray⟩) (wr.setCell ⟨g, 0, none⟩ (.int .u8 120)) := (HF.out.set 0 120).conv
                    have HWS : Hid (Below w.heap.size w (wr.setCell ⟨g, 0, none⟩ (.int .u8 120))) := hide (HWB.out.setCell (p := ⟨g, 0, none⟩) (by have := HB.out.size; show w.heap.size ≤ g; omega) _)
                    have HT1 := hide (set0_tx HTX.out)
                    have HN1x := hide (set0_nl HNL.out)
                    have HH1 : Hid (hdB (X.set 0 120) = false) := hide (set0_hd (by rw [HXL.out]; exact hm0))
                    have HL1 : Hid ((X.set 0 120).length ≤ 200) := by show _ ≤ _; rw [List.length_set, HXL.out]; exact HN2.out
                    generalize X.set 0 120 = X1 at *
                    clear hy58 hcv0
                    go_wp2_with fail
                    go_ret
                    exact ⟨⟨X1, rfl, HT1.out, HN1x.out, fun _ => HH1.out, HL1.out⟩, HWS.out⟩
                  · have hyb : ((y.toNat : Int) == 58) = false := (u8_lit rfl 58 rfl).trans (beq_eq_false_iff_ne.2 hy58)
                    have HH1 : Hid (hdB X = false) := by show _ = _; unfold hdB; rw [HYY.out]; exact beq_eq_false_iff_ne.2 hy58
                    go_wp2_with fail
                    go_ret
                    exact ⟨⟨X, rfl, HTX.out, HNL.out, fun _ => HH1.out, by rw [HXL.out]; exact HN2.out⟩, HWB.out⟩
theorem text_any (s : List UInt8) (q : Bool) (w : World) (hs : s.length ≤ 140737488355328) :
    Calls Try.prog 24 #[.string ⟨s.toArray⟩, .bool q] w fun e w' => (∃ x : List UInt8, e = .returned (.string ⟨x.toArray⟩) ∧ txB x = true ∧ nlB x = false ∧ (q = false → hdB x = false) ∧ x.length ≤ 200) ∧ Below w.heap.size w w' := by
  by_cases h200 : s.length ≤ 200
  · exact text_short s q w h200
  · exact text_long s q w hs h200
end Go.Proofs.Ytnpaamkoonlkpaa
