/-
  My own text: layer 11: StoreKnown: many (printed by mkkn1.py).
-/
import Derived.Test.YtgeholiagcckoaaGreatDoorSF2
import Derived.Test.YtgeholiagcckoaaGreatDoorKNo
namespace Go.Proofs.YtgeholiagcckoaaGreatDoor
open Go.RowKit Go.Extern Go.MapKept Go.ChangeMaps

set_option maxRecDepth 100000 in
set_option maxHeartbeats 8000000 in
theorem many_any (w : World) (hET : ErrType w) : Calls Tryz.prog 24 #[] w fun e w' => e = .returned (.bool true) ∧ Below w.heap.size w w' := by
  have HET := hide hET
  clear hET
  go_enter Tryz.func24, Tryz.ntmps24
  go_wp2_with fail
  go_loopw [1, 2] (fun v i wr => ∃ (k : Nat) (ps : List Cl), k ≤ 24 ∧ i = .int .i64 (((k : Nat) : Int)) ∧ Hid (OC wr w.heap.size v ps) ∧ Hid (CO ps) ∧ Hid (ps.length = 3 * k) ∧ Hid (Below w.heap.size w wr)) (fun _ i _ => 24 - (intOf i).toNat)
  case atStart => exact ⟨0, [], Nat.zero_le _, rfl, hide (OC.nil _ _), hide (fun p hp => by cases hp), hide rfl, hide (Below.refl _ _)⟩
  case round =>
    obtain ⟨k, ps, hk, rfl, HO, HC, HN, HB⟩ := hrel
    obtain ⟨a1, c1, hv⟩ := HO.out.slc
    subst hv
    by_cases hlt : k < 24
    · have hd1 : decide ((((k : Nat) : Int) : Int) < 24) = true := decide_eq_true (by omega)
      have wk : wrap64 ((((k : Nat) : Int) : Int) + 1) = ((((k + 1) : Nat) : Int) : Int) := by unfold wrap64; omega
      obtain ⟨itx, hitx, hz0x, hz1x, hz2x⟩ := info_parts Tryz.infoCall
      have HLBx : Hid (ps.length + 3 ≤ 1000) := hide (by have := HN.out; omega)
      have HSZx := hide HB.out.size
      go_wp2_with (first
        | (at_builtin; refine wpList_append_own_at _ rfl _ _ 48 rfl w.heap.size 47 itx _ 6 56 Tryz.underlying48 hitx hz0x hz1x hz2x rfl (by decide) _ _ _ rfl (HO.out.alloc _) ⟨_, 0, none⟩ 3 3 (cc [⟨0, 0, (0, 0), 2 * (k : Int), [118]⟩, ⟨0, 8, (0, 0), 0, []⟩, ⟨0, 1, (0, 0), (k : Int), []⟩]) rfl rfl ?c1 ?c2 ?c3 ?c4 ?c5 ?_))
      case c1 => exact cells_new _ _ _ _ rfl
      case c2 => exact cc_one _
      case c3 => have := HLBx.out; unfold maxLen; omega
      case c4 => have := HLBx.out; omega
      case c5 => have := HSZx.out; simp; omega
      intro vx wx hownx hgrowx _ _
      have HOx : Hid (OC wx w.heap.size vx (ps ++ [⟨0, 0, (0, 0), 2 * (k : Int), [118]⟩, ⟨0, 8, (0, 0), 0, []⟩, ⟨0, 1, (0, 0), (k : Int), []⟩])) := hide (oc_more hownx)
      have HBx := hide (grown_row (HB.out.alloc HB.out.size _) (Nat.le_refl _) (HO.out.alloc _) hgrowx)
      have HCx : Hid (CO (ps ++ [⟨0, 0, (0, 0), 2 * (k : Int), [118]⟩, ⟨0, 8, (0, 0), 0, []⟩, ⟨0, 1, (0, 0), (k : Int), []⟩])) := hide (HC.out.app (by
        intro p hp
        simp only [List.mem_cons, List.not_mem_nil, or_false] at hp
        rcases hp with rfl | rfl | rfl
        · exact ⟨kok0, iok_of (by show (-9223372036854775808 : Int) ≤ 2 * (k : Int); omega) (by show 2 * (k : Int) ≤ 9223372036854775807; omega), by show 2 * (k : Int) ≤ 9223372036854775807; omega⟩
        · exact ⟨kok0, iok_of (by decide) (by decide), by decide⟩
        · exact ⟨kok0, iok_of (by show (-9223372036854775808 : Int) ≤ (k : Int); omega) (by show (k : Int) ≤ 9223372036854775807; omega), by show (k : Int) ≤ 9223372036854775807; omega⟩))
      clear hownx hgrowx HO HB HC hitx hz0x hz1x hz2x HSZx HLBx
      go_wp2_with fail
      go_roundw
      case rel => exact ⟨k + 1, _, by omega, by first | exact congrArg (Value.int .i64) wk | rfl | (rw [wk]), HOx, HCx, hide (by rw [List.length_append, HN.out]; simp only [List.length_cons, List.length_nil]; omega), HBx⟩
      case measure => first | (rw [wk]; simp [intOf]; omega) | (simp [intOf]; omega)
    · have e : k = 24 := by omega
      subst e
      have hd1 : decide ((((24 : Nat) : Int) : Int) < 24) = false := decide_eq_false (by omega)
      clear hk hlt
      rw [show (((24 : Nat) : Int) : Int) = 24 from rfl] at hd1 ⊢
      obtain ⟨ity, hity, hz0y, hz1y, hz2y⟩ := info_parts Tryz.infoCall
      have HLBy : Hid (ps.length + 4 ≤ 1000) := hide (by have := HN.out; omega)
      have HSZy := hide HB.out.size
      go_wp2_with (first
        | (at_builtin; refine wpList_append_own_at _ rfl _ _ 48 rfl w.heap.size 47 ity _ 6 56 Tryz.underlying48 hity hz0y hz1y hz2y rfl (by decide) _ _ _ rfl (HO.out.alloc _) ⟨_, 0, none⟩ 4 4 (cc [⟨0, 4, (0, 0), 9, []⟩, ⟨0, 7, (0, 0), 40, []⟩, ⟨0, 8, (0, 0), 0, []⟩, ⟨0, 5, (0, 0), 1, []⟩]) rfl rfl ?c1 ?c2 ?c3 ?c4 ?c5 ?_))
      case c1 => exact cells_new _ _ _ _ rfl
      case c2 => exact cc_one _
      case c3 => have := HLBy.out; unfold maxLen; omega
      case c4 => have := HLBy.out; omega
      case c5 => have := HSZy.out; simp; omega
      intro vy wy howny hgrowy _ _
      have HOy : Hid (OC wy w.heap.size vy (ps ++ [⟨0, 4, (0, 0), 9, []⟩, ⟨0, 7, (0, 0), 40, []⟩, ⟨0, 8, (0, 0), 0, []⟩, ⟨0, 5, (0, 0), 1, []⟩])) := hide (oc_more howny)
      have HBy := hide (grown_row (HB.out.alloc HB.out.size _) (Nat.le_refl _) (HO.out.alloc _) hgrowy)
      have HCy : Hid (CO (ps ++ [⟨0, 4, (0, 0), 9, []⟩, ⟨0, 7, (0, 0), 40, []⟩, ⟨0, 8, (0, 0), 0, []⟩, ⟨0, 5, (0, 0), 1, []⟩])) := hide (HC.out.app (by
        intro p hp
        simp only [List.mem_cons, List.not_mem_nil, or_false] at hp
        rcases hp with rfl | rfl | rfl | rfl
        · exact ⟨kok0, iok_of (by decide) (by decide), by decide⟩
        · exact ⟨kok0, iok_of (by decide) (by decide), by decide⟩
        · exact ⟨kok0, iok_of (by decide) (by decide), by decide⟩
        · exact ⟨kok0, iok_of (by decide) (by decide), by decide⟩))
      clear howny hgrowy HO HB HC hity hz0y hz1y hz2y HSZy HLBy
      go_wp2_with fail
      go_loopw [1, 3] (fun v i wr => ∃ (k : Nat) (ps : List Cl), k ≤ 17 ∧ i = .int .i64 (3 * ((k : Nat) : Int)) ∧ Hid (OC wr w.heap.size v ps) ∧ Hid (CO ps) ∧ Hid (ps.length = 76 + 5 * k) ∧ Hid (Below w.heap.size w wr)) (fun _ i _ => 51 - (intOf i).toNat)
      case atStart => exact ⟨0, _, Nat.zero_le _, rfl, HOy, HCy, hide (by rw [List.length_append, HN.out]; rfl), HBy⟩
      case round =>
        obtain ⟨k, ps, hk, rfl, HO, HC, HN, HB⟩ := hrel
        obtain ⟨a1, c1, hv⟩ := HO.out.slc
        subst hv
        by_cases hlt : k < 17
        · have hd1 : decide ((3 * ((k : Nat) : Int) : Int) < 50) = true := decide_eq_true (by omega)
          have wk : wrap64 ((3 * ((k : Nat) : Int) : Int) + 3) = (3 * (((k + 1) : Nat) : Int) : Int) := by unfold wrap64; omega
          obtain ⟨itx, hitx, hz0x, hz1x, hz2x⟩ := info_parts Tryz.infoCall
          have HLBx : Hid (ps.length + 5 ≤ 1000) := hide (by have := HN.out; omega)
          have HSZx := hide HB.out.size
          go_wp2_with (first
            | (at_builtin; refine wpList_append_own_at _ rfl _ _ 48 rfl w.heap.size 47 itx _ 6 56 Tryz.underlying48 hitx hz0x hz1x hz2x rfl (by decide) _ _ _ rfl (HO.out.alloc _) ⟨_, 0, none⟩ 5 5 (cc [⟨0, 7, (0, 0), 3 * (k : Int), []⟩, ⟨0, 8, (0, 0), 0, []⟩, ⟨0, 1, (0, 0), 3 * (k : Int), []⟩, ⟨0, 1, (0, 0), 3 * (k : Int) - 1, []⟩, ⟨0, 2, (0, 0), 0, []⟩]) rfl rfl ?c1 ?c2 ?c3 ?c4 ?c5 ?_))
          case c1 => exact cells_new _ _ _ _ rfl
          case c2 => exact cc_one _
          case c3 => have := HLBx.out; unfold maxLen; omega
          case c4 => have := HLBx.out; omega
          case c5 => have := HSZx.out; simp; omega
          intro vx wx hownx hgrowx _ _
          have HOx : Hid (OC wx w.heap.size vx (ps ++ [⟨0, 7, (0, 0), 3 * (k : Int), []⟩, ⟨0, 8, (0, 0), 0, []⟩, ⟨0, 1, (0, 0), 3 * (k : Int), []⟩, ⟨0, 1, (0, 0), 3 * (k : Int) - 1, []⟩, ⟨0, 2, (0, 0), 0, []⟩])) := hide (oc_more hownx)
          have HBx := hide (grown_row (HB.out.alloc HB.out.size _) (Nat.le_refl _) (HO.out.alloc _) hgrowx)
          have HCx : Hid (CO (ps ++ [⟨0, 7, (0, 0), 3 * (k : Int), []⟩, ⟨0, 8, (0, 0), 0, []⟩, ⟨0, 1, (0, 0), 3 * (k : Int), []⟩, ⟨0, 1, (0, 0), 3 * (k : Int) - 1, []⟩, ⟨0, 2, (0, 0), 0, []⟩])) := hide (HC.out.app (by
            intro p hp
            simp only [List.mem_cons, List.not_mem_nil, or_false] at hp
            rcases hp with rfl | rfl | rfl | rfl | rfl
            · exact ⟨kok0, iok_of (by show (-9223372036854775808 : Int) ≤ 3 * (k : Int); omega) (by show 3 * (k : Int) ≤ 9223372036854775807; omega), by show 3 * (k : Int) ≤ 9223372036854775807; omega⟩
            · exact ⟨kok0, iok_of (by decide) (by decide), by decide⟩
            · exact ⟨kok0, iok_of (by show (-9223372036854775808 : Int) ≤ 3 * (k : Int); omega) (by show 3 * (k : Int) ≤ 9223372036854775807; omega), by show 3 * (k : Int) ≤ 9223372036854775807; omega⟩
            · exact ⟨kok0, iok_of (by show (-9223372036854775808 : Int) ≤ 3 * (k : Int) - 1; omega) (by show 3 * (k : Int) - 1 ≤ 9223372036854775807; omega), by show 3 * (k : Int) - 1 ≤ 9223372036854775807; omega⟩
            · exact ⟨kok0, iok_of (by decide) (by decide), by decide⟩))
          clear hownx hgrowx HO HB HC hitx hz0x hz1x hz2x HSZx HLBx
          go_wp2_with fail
          go_roundw
          case rel => exact ⟨k + 1, _, by omega, by first | exact congrArg (Value.int .i64) wk | rfl | (rw [wk]), HOx, HCx, hide (by rw [List.length_append, HN.out]; simp only [List.length_cons, List.length_nil]; omega), HBx⟩
          case measure => first | (rw [wk]; simp [intOf]; omega) | (simp [intOf]; omega)
        · have e : k = 17 := by omega
          subst e
          have hd1 : decide ((3 * ((17 : Nat) : Int) : Int) < 50) = false := decide_eq_false (by omega)
          clear hk hlt
          rw [show (3 * ((17 : Nat) : Int) : Int) = 51 from rfl] at hd1 ⊢
          go_wp2_with fail
          go_loopw [1, 4] (fun v i wr => ∃ (k : Nat) (ps : List Cl), k ≤ 9 ∧ i = .int .i64 (((k : Nat) : Int)) ∧ Hid (OC wr w.heap.size v ps) ∧ Hid (CO ps) ∧ Hid (ps.length = 161 + 2 * k) ∧ Hid (Below w.heap.size w wr)) (fun _ i _ => 9 - (intOf i).toNat)
          case atStart => exact ⟨0, ps, Nat.zero_le _, rfl, HO, HC, hide (by rw [HN.out]), HB⟩
          case round =>
            obtain ⟨k, ps, hk, rfl, HO, HC, HN, HB⟩ := hrel
            obtain ⟨a1, c1, hv⟩ := HO.out.slc
            subst hv
            by_cases hlt : k < 9
            · have hd1 : decide ((((k : Nat) : Int) : Int) < 9) = true := decide_eq_true (by omega)
              have wk : wrap64 ((((k : Nat) : Int) : Int) + 1) = ((((k + 1) : Nat) : Int) : Int) := by unfold wrap64; omega
              obtain ⟨itx, hitx, hz0x, hz1x, hz2x⟩ := info_parts Tryz.infoCall
              have HLBx : Hid (ps.length + 2 ≤ 1000) := hide (by have := HN.out; omega)
              have HSZx := hide HB.out.size
              go_wp2_with (first
                | (at_builtin; refine wpList_append_own_at _ rfl _ _ 48 rfl w.heap.size 47 itx _ 6 56 Tryz.underlying48 hitx hz0x hz1x hz2x rfl (by decide) _ _ _ rfl (HO.out.alloc _) ⟨_, 0, none⟩ 2 2 (cc [⟨0, 4, (0, 0), (5 * (k : Int) + 3) % 9, []⟩, ⟨0, 6, (0, 0), 50, []⟩]) rfl rfl ?c1 ?c2 ?c3 ?c4 ?c5 ?_))
              case c1 => exact cells_new _ _ _ _ rfl
              case c2 => exact cc_one _
              case c3 => have := HLBx.out; unfold maxLen; omega
              case c4 => have := HLBx.out; omega
              case c5 => have := HSZx.out; simp; omega
              intro vx wx hownx hgrowx _ _
              have HOx : Hid (OC wx w.heap.size vx (ps ++ [⟨0, 4, (0, 0), (5 * (k : Int) + 3) % 9, []⟩, ⟨0, 6, (0, 0), 50, []⟩])) := hide (oc_more hownx)
              have HBx := hide (grown_row (HB.out.alloc HB.out.size _) (Nat.le_refl _) (HO.out.alloc _) hgrowx)
              have HCx : Hid (CO (ps ++ [⟨0, 4, (0, 0), (5 * (k : Int) + 3) % 9, []⟩, ⟨0, 6, (0, 0), 50, []⟩])) := hide (HC.out.app (by
                intro p hp
                simp only [List.mem_cons, List.not_mem_nil, or_false] at hp
                rcases hp with rfl | rfl
                · exact ⟨kok0, iok_of (by show (-9223372036854775808 : Int) ≤ (5 * (k : Int) + 3) % 9; omega) (by show (5 * (k : Int) + 3) % 9 ≤ 9223372036854775807; omega), by show (5 * (k : Int) + 3) % 9 ≤ 9223372036854775807; omega⟩
                · exact ⟨kok0, iok_of (by decide) (by decide), by decide⟩))
              clear hownx hgrowx HO HB HC hitx hz0x hz1x hz2x HSZx HLBx
              go_wp2_with fail
              go_roundw
              case rel => exact ⟨k + 1, _, by omega, by first | exact congrArg (Value.int .i64) wk | rfl | (rw [wk]), HOx, HCx, hide (by rw [List.length_append, HN.out]; simp only [List.length_cons, List.length_nil]; omega), HBx⟩
              case measure => first | (rw [wk]; simp [intOf]; omega) | (simp [intOf]; omega)
            · have e : k = 9 := by omega
              subst e
              have hd1 : decide ((((9 : Nat) : Int) : Int) < 9) = false := decide_eq_false (by omega)
              clear hk hlt
              rw [show (((9 : Nat) : Int) : Int) = 9 from rfl] at hd1 ⊢
              go_wp2_with fail
              go_loopw [1, 5] (fun v i wr => ∃ (k : Nat) (ps : List Cl), k ≤ 11 ∧ i = .int .i64 (((k : Nat) : Int)) ∧ Hid (OC wr w.heap.size v ps) ∧ Hid (CO ps) ∧ Hid (ps.length = 179 + 3 * k) ∧ Hid (Below w.heap.size w wr)) (fun _ i _ => 11 - (intOf i).toNat)
              case atStart => exact ⟨0, ps, Nat.zero_le _, rfl, HO, HC, hide (by rw [HN.out]), HB⟩
              case round =>
                obtain ⟨k, ps, hk, rfl, HO, HC, HN, HB⟩ := hrel
                obtain ⟨a1, c1, hv⟩ := HO.out.slc
                subst hv
                by_cases hlt : k < 11
                · have hd1 : decide ((((k : Nat) : Int) : Int) < 11) = true := decide_eq_true (by omega)
                  have wk : wrap64 ((((k : Nat) : Int) : Int) + 1) = ((((k + 1) : Nat) : Int) : Int) := by unfold wrap64; omega
                  obtain ⟨itx, hitx, hz0x, hz1x, hz2x⟩ := info_parts Tryz.infoCall
                  have HLBx : Hid (ps.length + 3 ≤ 1000) := hide (by have := HN.out; omega)
                  have HSZx := hide HB.out.size
                  go_wp2_with (first
                    | (at_builtin; refine wpList_append_own_at _ rfl _ _ 48 rfl w.heap.size 47 itx _ 6 56 Tryz.underlying48 hitx hz0x hz1x hz2x rfl (by decide) _ _ _ rfl (HO.out.alloc _) ⟨_, 0, none⟩ 3 3 (cc [⟨0, 5, (0, 0), 2 + 4 * (k : Int) % 10, []⟩, ⟨0, 6, (0, 0), 50, []⟩, ⟨0, 6, (0, 0), 3, []⟩]) rfl rfl ?c1 ?c2 ?c3 ?c4 ?c5 ?_))
                  case c1 => exact cells_new _ _ _ _ rfl
                  case c2 => exact cc_one _
                  case c3 => have := HLBx.out; unfold maxLen; omega
                  case c4 => have := HLBx.out; omega
                  case c5 => have := HSZx.out; simp; omega
                  intro vx wx hownx hgrowx _ _
                  have HOx : Hid (OC wx w.heap.size vx (ps ++ [⟨0, 5, (0, 0), 2 + 4 * (k : Int) % 10, []⟩, ⟨0, 6, (0, 0), 50, []⟩, ⟨0, 6, (0, 0), 3, []⟩])) := hide (oc_more hownx)
                  have HBx := hide (grown_row (HB.out.alloc HB.out.size _) (Nat.le_refl _) (HO.out.alloc _) hgrowx)
                  have HCx : Hid (CO (ps ++ [⟨0, 5, (0, 0), 2 + 4 * (k : Int) % 10, []⟩, ⟨0, 6, (0, 0), 50, []⟩, ⟨0, 6, (0, 0), 3, []⟩])) := hide (HC.out.app (by
                    intro p hp
                    simp only [List.mem_cons, List.not_mem_nil, or_false] at hp
                    rcases hp with rfl | rfl | rfl
                    · exact ⟨kok0, iok_of (by show (-9223372036854775808 : Int) ≤ 2 + 4 * (k : Int) % 10; omega) (by show 2 + 4 * (k : Int) % 10 ≤ 9223372036854775807; omega), by show 2 + 4 * (k : Int) % 10 ≤ 9223372036854775807; omega⟩
                    · exact ⟨kok0, iok_of (by decide) (by decide), by decide⟩
                    · exact ⟨kok0, iok_of (by decide) (by decide), by decide⟩))
                  clear hownx hgrowx HO HB HC hitx hz0x hz1x hz2x HSZx HLBx
                  go_wp2_with fail
                  go_roundw
                  case rel => exact ⟨k + 1, _, by omega, by first | exact congrArg (Value.int .i64) wk | rfl | (rw [wk]), HOx, HCx, hide (by rw [List.length_append, HN.out]; simp only [List.length_cons, List.length_nil]; omega), HBx⟩
                  case measure => first | (rw [wk]; simp [intOf]; omega) | (simp [intOf]; omega)
                · have e : k = 11 := by omega
                  subst e
                  have hd1 : decide ((((11 : Nat) : Int) : Int) < 11) = false := decide_eq_false (by omega)
                  clear hk hlt
                  rw [show (((11 : Nat) : Int) : Int) = 11 from rfl] at hd1 ⊢
                  have HS := hide (script_law 4 1 _ ps wr (HET.out.below HB.out) HO.out.rcl HC.out (by have := HN.out; omega))
                  go_wp2_with fail
                  refine HS.out.mono ?_
                  rintro e w9 ⟨rfl, hb9⟩
                  have HB9 := hide (HB.out.trans (hb9.mono HB.out.size))
                  clear HS hb9
                  go_wp2_with fail
                  go_ret
                  exact ⟨rfl, HB9.out⟩
end Go.Proofs.YtgeholiagcckoaaGreatDoor
