/-
  My own text: the closed law on amounts: sums.
-/
import Derived.Test.YthmbfdjbjljaiaaGreatDoorAK5
import Derived.Deep.RegionWith
import Derived.BigFrame
namespace Go.Proofs.YthmbfdjbjljaiaaGreatDoor
open Go.RowKit

theorem RI.newK (w : World) (L : List Int) (t : TypeId) (c : Nat) (K : IntKind) : RI (w.alloc (.cells (L.map (Value.int K)).toArray t)) K (.slice (some ⟨w.heap.size, 0, none⟩) L.length c) L := by
  have h := (MapKept.heap_alloc w (.cells (L.map (Value.int K)).toArray t)).1
  refine ⟨_, _, rfl, .inr ⟨w.heap.size, 0, rfl, by simp, fun j x hx => ?_⟩⟩
  unfold World.cell?
  rw [Nat.zero_add, h]
  have hj := (List.getElem?_eq_some_iff.1 hx).1
  simp [hx]
set_option maxRecDepth 100000 in
set_option maxHeartbeats 4000000 in
theorem sums_known (w : World) (hE : ErrType w) :
    Calls Tryz.prog 4 #[] w fun e w' => e = .returned (.bool true) ∧ Below w.heap.size w w' := by
  have HE := hide hE
  obtain ⟨i0, hi, hz0, hz1, hz2⟩ := info_parts Tryz.infoLong
  have HR0 : Hid (RW w (w.alloc (.cells (([-9223372036854775808, -1, 0, 1, 2, 4611686018427387904, 9223372036854775806, 9223372036854775807] : List Int).map (Value.int .i64)).toArray 2))) := hide ⟨below_new (Below.refl _ _) (Nat.le_refl _) _, IB.new w [-9223372036854775808, -1, 0, 1, 2, 4611686018427387904, 9223372036854775806, 9223372036854775807] 2 _ _ (by decide)⟩
  clear hE
  go_enter Tryz.func4, Tryz.ntmps4
  go_wp2_with fail
  go_loopw [2] (fun i wr => ∃ k : Nat, k ≤ 8 ∧ i = .int .i64 k ∧ Hid (RW w wr)) (fun i _ => 8 - (intOf i).toNat)
  case atStart => exact ⟨0, Nat.zero_le _, rfl, HR0⟩
  case round =>
    clear HR0
    obtain ⟨k, hk, rfl, HR⟩ := hrel
    by_cases hkl : k < 8
    · have hd1 : decide ((k : Int) < 8) = true := by rw [decide_eq_true_eq]; omega
      go_wp2_with fail
      go_loopw [3] (fun i wr => ∃ k : Nat, k ≤ 8 ∧ i = .int .i64 k ∧ Hid (RW w wr)) (fun i _ => 8 - (intOf i).toNat)
      case atStart => exact ⟨0, Nat.zero_le _, rfl, HR⟩
      case round =>
        clear HR
        obtain ⟨j, hj, rfl, HR⟩ := hrel
        by_cases hjl : j < 8
        · have hd2 : decide ((j : Int) < 8) = true := by rw [decide_eq_true_eq]; omega
          obtain ⟨x, hx, x0, x1⟩ := HR.out.i.2 k hkl
          obtain ⟨y, hy, y0, y1⟩ := HR.out.i.2 j hjl
          have k0 : (0 : Int) ≤ (k : Int) := by omega
          have k1 : (k : Int) < 8 := by omega
          have j0 : (0 : Int) ≤ (j : Int) := by omega
          have j1 : (j : Int) < 8 := by omega
          have hR0 : RW w wr.drew := (HR.out.step (Below.refl _ _).drew).1
          have HS1 := hide (sums_rw x y HE.out x1 y1)
          have HS2 := hide (sum2_rw x y HE.out (in2 x0 x1 y0 y1))
          have HS4 := hide (sum4_rw x y HE.out (in4 x0 x1 y0 y1))
          clear x0 x1 y0 y1
          go_wp2_with fail
          go_region_held3 (fun W => W.cell? ⟨w.heap.size, k, none⟩ = some (.int .i64 x) ∧ W.cell? ⟨w.heap.size, j, none⟩ = some (.int .i64 y)) (go_keep) ((first
            | (go_at_call 8; refine (HS1.out _ ?_).mono ?_; assumption; rintro e w' ⟨rfl, hR, hcell⟩)
            | (go_at_call_of 9 (2 : Nat); refine (HS2.out _ ?_).mono ?_; assumption; rintro e w' ⟨rfl, hR, hcell⟩)
            | (go_at_call_of 9 (4 : Nat); refine (HS4.out _ ?_).mono ?_; assumption; rintro e w' ⟨rfl, hR, hcell⟩)))
          clear hx hy hR0 HS1 HS2 HS4
          go_wp2_with fail
          go_roundw
          case rel => exact ⟨j + 1, by omega, by go_num, hide (by assumption)⟩
          case measure => simp [intOf]; omega
        · have h' : j = 8 := by omega
          subst h'
          rw [show ((8 : Nat) : Int) = 8 from rfl]
          go_wp2_with fail
          go_roundw
          case rel => exact ⟨k + 1, by omega, by go_num, HR⟩
          case measure => simp [intOf]; omega
    · have h' : k = 8 := by omega
      subst h'
      rw [show ((8 : Nat) : Int) = 8 from rfl]
      obtain ⟨w2, hw2⟩ : ∃ x, x = wr := ⟨_, rfl⟩
      subst hw2
      have HB2 := hide HR.out.b
      clear HR hkl hk
      go_wp2_with fail
      go_loopw [4, 5, 6] (fun u d m wr => ∃ (i : Nat) (lu ld : List Int), i ≤ 9 ∧ m = .int .i64 i ∧ Hid (Pair wr w2.heap.size i u d lu ld) ∧ Hid (inR lu ∧ inR ld) ∧ Hid (Below w2.heap.size w2 wr)) (fun _ _ m _ => (9 - intOf m).toNat)
      case atStart => exact ⟨0, [], [], by omega, rfl, hide ⟨World.ownsRow_nil _ _ _ _, World.ownsRow_nil _ _ _ _, fun g hg => by cases hg⟩, hide ⟨fun x hx => (by cases hx), fun x hx => (by cases hx)⟩, hide (Below.refl _ _)⟩
      case round =>
        obtain ⟨i, lu, ld, hi9, rfl, HP, HIN, HB3⟩ := hrel
        by_cases hil : i < 9
        · have hd1 : decide ((i : Int) < 9) = true := by rw [decide_eq_true_eq]; omega
          have hs3 := HB3.out.size
          have HOU := hide HP.out.ou
          have HOD := hide HP.out.od
          have HAP := hide HP.out.ap
          clear HP
          go_wp2_with (first
            | (at_builtin; refine wpList_append_lies _ rfl _ _ 23 rfl _ 2 i0 (.int .i64 0) 1 8 Tryz.underlying23 hi hz0 hz1 hz2 rfl (by decide) _ _ _ rfl (HOU.out.alloc _) ⟨_, 0, none⟩ 1 1 [.int .i64 9223372036854775807] rfl rfl ?c1 ?c2 (by decide) ?c3 ?c4 ?c5 _ rfl ?_)
            | go_in)
          case c1 =>
            intro j u hj
            match j, hj with
            | 0, hj => simp at hj; subst hj; simp [Addr.add]
          case c2 => first | exact ⟨rfl, rfl⟩ | (intro u hu; simp at hu; subst hu; rfl)
          case c3 => unfold maxLen; omega
          case c4 => omega
          case c5 => simp; omega
          intro g1 cap1 w4 hown1 hgrow1 hlie1 hlt1
          have hbes := beside (cap := cap1) (n := i) (HOD.out.alloc _) HAP.out hgrow1 hlie1 (by simp)
          have HB4 := hide ((HB3.out.alloc HB3.out.size (.cells #[.int .i64 9223372036854775807] 2)).grown hgrow1 (by simp; omega) (fun j hj => by have := (HOU.out.lt j hj).1; omega))
          have HOU4 : Hid (w4.ownsRow w2.heap.size 2 1 (.slice (some ⟨g1, 0, none⟩) (i + 1) cap1) (i + 1) (lv .i64 (lu ++ [9223372036854775807]))) := by rw [lv_app]; exact hide hown1
          have HOD4 := hide hbes.1
          have HAP4 := hide hbes.2
          clear hown1 hgrow1 hlie1 hbes HOU HOD HAP HB3 hs3
          have hs4 := HB4.out.size
          go_wp2_with (first
            | (at_builtin; refine wpList_append_lies _ rfl _ _ 23 rfl _ 2 i0 (.int .i64 0) 1 8 Tryz.underlying23 hi hz0 hz1 hz2 rfl (by decide) _ _ _ rfl (HOD4.out.alloc _) ⟨_, 0, none⟩ 1 1 [.int .i64 (-9223372036854775808)] rfl rfl ?c1 ?c2 (by decide) ?c3 ?c4 ?c5 _ rfl ?_)
            | go_in)
          case c1 =>
            intro j u hj
            match j, hj with
            | 0, hj => simp at hj; subst hj; simp [Addr.add]
          case c2 => first | exact ⟨rfl, rfl⟩ | (intro u hu; simp at hu; subst hu; rfl)
          case c3 => unfold maxLen; omega
          case c4 => omega
          case c5 => simp; omega
          intro g2 cap2 w5 hown2 hgrow2 hlie2 hlt2
          have hbes := beside (cap := cap2) (n := i) (HOU4.out.alloc _) (fun g hg e => HAP4.out g e hg) hgrow2 hlie2 (by simp)
          have HB5 := hide ((HB4.out.alloc HB4.out.size (.cells #[.int .i64 (-9223372036854775808)] 2)).grown hgrow2 (by simp; omega) (fun j hj => by have := (HOD4.out.lt j hj).1; omega))
          have HOD5 : Hid (w5.ownsRow w2.heap.size 2 1 (.slice (some ⟨g2, 0, none⟩) (i + 1) cap2) (i + 1) (lv .i64 (ld ++ [-9223372036854775808]))) := by rw [lv_app]; exact hide hown2
          have HOU5 := hide hbes.1
          have HAP5 : Hid (∀ g, (Value.slice (some ⟨g1, 0, none⟩) (i + 1) cap1).ownBlock = some g → (Value.slice (some ⟨g2, 0, none⟩) (i + 1) cap2).ownBlock ≠ some g) := hide (fun g hg e => hbes.2 g e hg)
          have HIN5 : Hid (inR (lu ++ [9223372036854775807]) ∧ inR (ld ++ [-9223372036854775808])) := hide ⟨fun x hx => by
            rcases List.mem_append.1 hx with h | h
            · exact HIN.out.1 x h
            · have := List.mem_singleton.1 h; omega, fun x hx => by
            rcases List.mem_append.1 hx with h | h
            · exact HIN.out.2 x h
            · have := List.mem_singleton.1 h; omega⟩
          obtain ⟨lu5, hlu5⟩ : ∃ x, lu ++ [9223372036854775807] = x := ⟨_, rfl⟩
          obtain ⟨ld5, hld5⟩ : ∃ x, ld ++ [-9223372036854775808] = x := ⟨_, rfl⟩
          rw [hlu5] at HOU5 HIN5
          rw [hld5] at HOD5 HIN5
          clear hown2 hgrow2 hlie2 hbes HOU4 HOD4 HAP4 HB4 HIN hlt1 hlt2 hlu5 hld5 hs4
          have lu5l := row_len HOU5.out
          have ld5l := row_len HOD5.out
          have HRU : Hid (RI w5 .i64 (.slice (some ⟨g1, 0, none⟩) (i + 1) cap1) lu5) := hide (by have h := HOU5.out; rw [← lu5l] at h ⊢; exact ri_own h)
          have HRD : Hid (RI w5 .i64 (.slice (some ⟨g2, 0, none⟩) (i + 1) cap2) ld5) := hide (by have h := HOD5.out; rw [← ld5l] at h ⊢; exact ri_own h)
          go_wp2_with fail
          refine (copyLongs_any _ lu5 _ HRU.out (by omega)).mono ?_
          rintro e w6 ⟨vx, rfl, hownx, hb6⟩
          rw [lu5l] at hownx
          go_wp2_with fail
          refine (copyLongs_any _ ld5 _ (HRD.out.later hb6) (by omega)).mono ?_
          rintro e w7 ⟨vy, rfl, howny, hb7⟩
          rw [ld5l] at howny
          have HP7 : Hid (Pair w7 w5.heap.size (i + 1) vx vy lu5 ld5) := hide (by
            have hs := hb6.size
            refine ⟨own_later hownx hb7, ?_, fun g hg e => ?_⟩
            · exact own_base howny hs
            · have h1 := row_lt hownx g hg
              rcases howny.2 with ⟨h0, _⟩ | ⟨q, cap, cur, h0, hq, _⟩
              · rw [h0] at e; cases e
              · rw [h0] at e
                have : q = g := by simpa [Value.ownBlock] using e
                omega)
          have HB7 : Hid (Below w5.heap.size w5 w7) := hide (below_on hb6 hb7 (Nat.le_refl _))
          clear hownx howny hb6 hb7 HRU HRD
          go_wp2_with fail
          go_loopw [7, 8, 9] (fun x y m wr => ∃ (k : Nat) (lx ly : List Int), k ≤ i + 1 ∧ m = .int .i64 k ∧ Hid (Pair wr w5.heap.size (i + 1 + k) x y lx ly) ∧ Hid (inR lx ∧ inR ly) ∧ Hid (Below w5.heap.size w5 wr)) (fun _ _ m _ => (10 - intOf m).toNat)
          case atStart => exact ⟨0, lu5, ld5, by omega, rfl, HP7, HIN5, HB7⟩
          case round =>
            clear HP7 HB7
            obtain ⟨k, lx, ly, hk, rfl, HP, HIN, HB8⟩ := hrel
            by_cases hki : k ≤ i
            · have hd2 : decide ((k : Int) ≤ (i : Int)) = true := by rw [decide_eq_true_eq]; omega
              have hs8 := HB8.out.size
              have HOX := hide HP.out.ou
              have HOY := hide HP.out.od
              have HAP := hide HP.out.ap
              clear HP
              go_wp2_with (first
                | (at_builtin; refine wpList_append_lies _ rfl _ _ 23 rfl _ 2 i0 (.int .i64 0) 1 8 Tryz.underlying23 hi hz0 hz1 hz2 rfl (by decide) _ _ _ rfl (HOX.out.alloc _) ⟨_, 0, none⟩ 1 1 [.int .i64 (-9223372036854775808)] rfl rfl ?c1 ?c2 (by decide) ?c3 ?c4 ?c5 _ rfl ?_)
                | go_in)
              case c1 =>
                intro j u hj
                match j, hj with
                | 0, hj => simp at hj; subst hj; simp [Addr.add]
              case c2 => first | exact ⟨rfl, rfl⟩ | (intro u hu; simp at hu; subst hu; rfl)
              case c3 => unfold maxLen; omega
              case c4 => omega
              case c5 => simp; omega
              intro gx cx w9 hown hgrow hlie hlt
              have hbes := beside (cap := cx) (n := i + 1 + k) (HOY.out.alloc _) HAP.out hgrow hlie (by simp)
              have HB9 := hide ((HB8.out.alloc HB8.out.size (.cells #[.int .i64 (-9223372036854775808)] 2)).grown hgrow (by simp; omega) (fun j hj => by have := (HOX.out.lt j hj).1; omega))
              have HOX9 : Hid (w9.ownsRow w5.heap.size 2 1 (.slice (some ⟨gx, 0, none⟩) (i + 1 + k + 1) cx) (i + 1 + k + 1) (lv .i64 (lx ++ [-9223372036854775808]))) := by rw [lv_app]; exact hide hown
              have HOY9 := hide hbes.1
              have HAP9 := hide hbes.2
              clear hown hgrow hlie hlt hbes HOX HOY HAP HB8 hs8
              have hs9 := HB9.out.size
              go_wp2_with (first
                | (at_builtin; refine wpList_append_lies _ rfl _ _ 23 rfl _ 2 i0 (.int .i64 0) 1 8 Tryz.underlying23 hi hz0 hz1 hz2 rfl (by decide) _ _ _ rfl (HOY9.out.alloc _) ⟨_, 0, none⟩ 1 1 [.int .i64 (9223372036854775807)] rfl rfl ?c1 ?c2 (by decide) ?c3 ?c4 ?c5 _ rfl ?_)
                | go_in)
              case c1 =>
                intro j u hj
                match j, hj with
                | 0, hj => simp at hj; subst hj; simp [Addr.add]
              case c2 => first | exact ⟨rfl, rfl⟩ | (intro u hu; simp at hu; subst hu; rfl)
              case c3 => unfold maxLen; omega
              case c4 => omega
              case c5 => simp; omega
              intro gy cy wa hown hgrow hlie hlt
              have hbes := beside (cap := cy) (n := i + 1 + k) (HOX9.out.alloc _) (fun g hg e => HAP9.out g e hg) hgrow hlie (by simp)
              have HBa := hide ((HB9.out.alloc HB9.out.size (.cells #[.int .i64 9223372036854775807] 2)).grown hgrow (by simp; omega) (fun j hj => by have := (HOY9.out.lt j hj).1; omega))
              have HOYa : Hid (wa.ownsRow w5.heap.size 2 1 (.slice (some ⟨gy, 0, none⟩) (i + 1 + k + 1) cy) (i + 1 + k + 1) (lv .i64 (ly ++ [9223372036854775807]))) := by rw [lv_app]; exact hide hown
              have HOXa := hide hbes.1
              have HAPa : Hid (∀ g, (Value.slice (some ⟨gx, 0, none⟩) (i + 1 + k + 1) cx).ownBlock = some g → (Value.slice (some ⟨gy, 0, none⟩) (i + 1 + k + 1) cy).ownBlock ≠ some g) := hide (fun g hg e => hbes.2 g e hg)
              have HINa : Hid (inR (lx ++ [-9223372036854775808]) ∧ inR (ly ++ [9223372036854775807])) := hide ⟨fun x hx => by
                rcases List.mem_append.1 hx with h | h
                · exact HIN.out.1 x h
                · have := List.mem_singleton.1 h; omega, fun x hx => by
                rcases List.mem_append.1 hx with h | h
                · exact HIN.out.2 x h
                · have := List.mem_singleton.1 h; omega⟩
              obtain ⟨la, hla⟩ : ∃ x, lx ++ [-9223372036854775808] = x := ⟨_, rfl⟩
              obtain ⟨lb, hlb⟩ : ∃ x, ly ++ [9223372036854775807] = x := ⟨_, rfl⟩
              rw [hla] at HOXa HINa
              rw [hlb] at HOYa HINa
              clear hown hgrow hlie hlt hbes HOX9 HOY9 HAP9 HB9 HIN hla hlb hs9
              have lal := row_len HOXa.out
              have lbl := row_len HOYa.out
              have HRX : Hid (RI wa .i64 (.slice (some ⟨gx, 0, none⟩) (i + 1 + k + 1) cx) la) := hide (by have h := HOXa.out; rw [← lal] at h ⊢; exact ri_own h)
              have HRY : Hid (RI wa .i64 (.slice (some ⟨gy, 0, none⟩) (i + 1 + k + 1) cy) lb) := hide (by have h := HOYa.out; rw [← lbl] at h ⊢; exact ri_own h)
              have hcx : i + 1 + k + 1 ≤ cx := by
                rcases HOXa.out.2 with ⟨h0, _⟩ | ⟨q, cap, cur, h0, _, _, h3, _⟩
                · cases h0
                · cases h0; exact h3
              have HEa := hide (HE.out.below (below_on HB2.out (below_on HB5.out HBa.out (Nat.le_refl _)) (Nat.le_refl _)))
              have HSX := hide (fun (W : World) (hW : Below wa.heap.size wa W) => by
                have h := sum_law (some ⟨gx, 0, none⟩) cx la W (HEa.out.below hW) (by rw [lal]; exact HRX.out.later hW) (by omega) HINa.out.1
                rw [lal] at h
                exact h)
              have HSY := hide (fun (W : World) (hW : Below wa.heap.size wa W) => by
                have h := sum_law (some ⟨gy, 0, none⟩) cy lb W (HEa.out.below hW) (by rw [lbl]; exact HRY.out.later hW) (by omega) HINa.out.2
                rw [lbl] at h
                exact h)
              have hC0 := Below.refl wa.heap.size wa
              go_wp2_with fail
              refine (HSX.out _ hC0).mono ?_
              rintro e v0 ⟨rfl, hb⟩
              have hC1 := below_on hC0 hb (Nat.le_refl _)
              clear hb
              go_wp2_with fail
              refine (HSY.out _ hC1).mono ?_
              rintro e v1 ⟨rfl, hb⟩
              have hC2 := below_on hC1 hb (Nat.le_refl _)
              clear hb
              obtain ⟨m, hm0⟩ : ∃ m : Nat, m = i - k := ⟨_, rfl⟩
              have hm : (i : Int) - (k : Int) = (m : Int) := by omega
              have hm1 : m < i + 1 + k + 1 := by omega
              have hm2 : m ≤ 100 := by omega
              have HSZ := hide (fun (W : World) (hW : Below wa.heap.size wa W) => by
                have hlen : (la.drop m).length = i + 1 + k + 1 - m := by rw [List.length_drop, lal]
                have hri : RI W .i64 (.slice (some ⟨gx, m, none⟩) (la.drop m).length (cx - m)) (la.drop m) := by
                  obtain ⟨a, c, e, h | ⟨b, off, ha, hlt, hc⟩⟩ := HRX.out.later hW
                  · rw [h] at lal; simp at lal
                  · simp only [Value.slice.injEq] at e
                    obtain ⟨e1, _, _⟩ := e
                    rw [ha] at e1
                    simp only [Option.some.injEq, Addr.mk.injEq] at e1
                    obtain ⟨rfl, rfl, _⟩ := e1
                    refine ⟨_, _, rfl, .inr ⟨gx, m, rfl, hlt, fun j x hx => ?_⟩⟩
                    rw [List.getElem?_drop] at hx
                    have h2 := hc _ _ hx
                    rw [Nat.zero_add] at h2
                    exact h2
                have h := sum_law (some ⟨gx, m, none⟩) (cx - m) (la.drop m) W (HEa.out.below hW) hri (by omega) (fun x hx => HINa.out.1 x (List.mem_of_mem_drop hx))
                rw [hlen] at h
                exact h)
              have HCY := hide (fun (W : World) (hW : Below wa.heap.size wa W) => by
                have h := copyLongs_any (.slice (some ⟨gy, 0, none⟩) (i + 1 + k + 1) cy) lb W (HRY.out.later hW) (by omega)
                rw [lbl] at h
                exact h)
              have hn3 : i + 1 + k + 1 ≤ 100 := by omega
              obtain ⟨n2, hn2⟩ : ∃ n2 : Nat, Hid (i + 1 + k + 1 = n2) := ⟨_, hide rfl⟩
              rw [hn2.out] at hcx hm1 HSZ HCY hn3 ⊢
              have HK : Hid (k ≤ i ∧ i < 9 ∧ lb.length = i + 1 + k + 1) := hide ⟨hki, hil, lbl⟩
              clear hm0 lal lbl lu5l ld5l hki hk hi9 hil
              go_wp2_with fail
              refine (HSZ.out _ hC2).mono ?_
              rintro e v2 ⟨rfl, hb⟩
              have hC3 := below_on hC2 hb (Nat.le_refl _)
              clear hb
              go_wp2_with fail
              refine (HCY.out _ hC3).mono ?_
              rintro e v3 ⟨vz, rfl, hownz, hb⟩
              have hC4 := below_on hC3 hb (Nat.le_refl _)
              have hsz := hb.size
              clear hb
              go_wp2_with (at_builtin; refine BigFrame.wpList_want (by rfl) ?_; intro K hK; refine wp_append_own _ _ _ 23 rfl _ 2 i0 (.int .i64 0) 1 8 Tryz.underlying23 hi hz0 hz1 hz2 rfl (by decide) _ _ _ rfl (hownz.alloc _) ⟨_, 0, none⟩ 2 2 [.int .i64 5, .int .i64 (-1)] rfl rfl ?c1 ?c2 ?c3 ?c4 ?c5 (fun vq wq hq1 hq2 _ => hK _ _ ?_))
              case c1 =>
                intro j u hj
                match j, hj with
                | 0, hj => simp at hj; subst hj; simp [Addr.add]
                | 1, hj => simp at hj; subst hj; simp [Addr.add]
              case c2 => intro u hu; simp at hu; rcases hu with rfl | rfl <;> rfl
              case c3 => unfold maxLen; omega
              case c4 => omega
              case c5 => simp; omega
              have hCq : Below wa.heap.size wa wq := (hC4.alloc hC4.size _).grown hq2 (by simp; have := hC4.size; omega) (fun j hj => by have := (hownz.lt j hj).1; have := hC3.size; omega)
              have hq3 : wq.ownsRow v2.heap.size 2 1 vq (n2 + 2) (lv .i64 (lb ++ [5, -1])) := by rw [lv_app]; exact hq1
              obtain ⟨aq, cq, rfl⟩ := row_slice hq3
              have hql := row_len hq3
              have HRQ : Hid (RI wq .i64 (.slice aq (n2 + 2) cq) (lb ++ [5, -1])) := hide (by have h := hq3; rw [← hql] at h ⊢; exact ri_own h)
              have HSQ := hide (by
                have h := sum_law aq cq (lb ++ [5, -1]) wq (HEa.out.below hCq) (by rw [hql]; exact HRQ.out) (by omega) (fun x hx => by
                  rcases List.mem_append.1 hx with h | h
                  · exact HINa.out.2 x h
                  · simp at h; rcases h with rfl | rfl <;> omega)
                rw [hql] at h
                exact h)
              have HCq := hide hCq
              clear hq1 hq2 hq3 hql HRQ hownz hsz hCq
              go_wp2_with fail
              refine HSQ.out.mono ?_
              rintro e v5 ⟨rfl, hb⟩
              have hC5 := below_on HCq.out hb (Nat.le_refl _)
              have hkb : k ≤ 100 := by have := HK.out; omega
              clear hb
              go_wp2_with fail
              go_roundw
              case rel => exact ⟨k + 1, la, lb, by have := HK.out; omega, by go_num, hide (by rw [← hn2.out]; exact ⟨own_later HOXa.out hC5, own_later HOYa.out hC5, HAPa.out⟩), HINa, hide (below_on HBa.out hC5 (Nat.le_refl _))⟩
              case measure => simp [intOf]; have := HK.out; omega
            · have hd2 : decide ((k : Int) ≤ (i : Int)) = false := by rw [decide_eq_false_iff_not]; omega
              go_wp2_with fail
              go_roundw
              case rel => exact ⟨i + 1, lu5, ld5, by omega, by go_num, hide ⟨own_later HOU5.out HB8.out, own_later HOD5.out HB8.out, HAP5.out⟩, HIN5, hide (below_on HB5.out HB8.out (Nat.le_refl _))⟩
              case measure => simp [intOf]; omega
        · have h' : i = 9 := by omega
          subst h'
          rw [show ((9 : Nat) : Int) = 9 from rfl]
          have HBz := hide (below_on HB2.out HB3.out (Nat.le_refl _))
          clear HP HIN HB3 hil hi9
          have HA1 : Hid (Calls Tryz.prog 11 #[.slice (some ⟨wr.heap.size, 0, none⟩) 3 3] (wr.alloc (.cells #[.int .i8 127, .int .i8 127, .int .i8 (-128)] 31)) fun e w' => e = .returned (.tuple #[.int .i64 126, .nilIface]) ∧ w' = (wr.alloc (.cells #[.int .i8 127, .int .i8 127, .int .i8 (-128)] 31))) := hide (by
            have h := sum_int8 (.slice (some ⟨wr.heap.size, 0, none⟩) 3 3) [127, 127, -128] (wr.alloc (.cells #[.int .i8 127, .int .i8 127, .int .i8 (-128)] 31)) (RI.newK wr [127, 127, -128] 31 3 .i8) (by decide) (by decide)
            rw [show sumV ([127, 127, -128] : List Int).sum = 126 from by decide, show errV (sumE ([127, 127, -128] : List Int).sum) = .nilIface from rfl] at h
            exact h)
          have HA2 : Hid (Calls Tryz.prog 12 #[.slice (some ⟨wr.heap.size + 1, 0, none⟩) 3 3] ((wr.alloc (.cells #[.int .i8 127, .int .i8 127, .int .i8 (-128)] 31)).alloc (.cells #[.int .i64 9223372036854775807, .int .i64 1, .int .i64 (-1)] 2)) fun e w' => e = .returned (.tuple #[.int .i64 9223372036854775807, .nilIface]) ∧ w' = ((wr.alloc (.cells #[.int .i8 127, .int .i8 127, .int .i8 (-128)] 31)).alloc (.cells #[.int .i64 9223372036854775807, .int .i64 1, .int .i64 (-1)] 2))) := hide (by
            have h := sum_int64 (.slice (some ⟨(wr.alloc (.cells #[.int .i8 127, .int .i8 127, .int .i8 (-128)] 31)).heap.size, 0, none⟩) 3 3) [9223372036854775807, 1, -1] ((wr.alloc (.cells #[.int .i8 127, .int .i8 127, .int .i8 (-128)] 31)).alloc (.cells #[.int .i64 9223372036854775807, .int .i64 1, .int .i64 (-1)] 2)) (RI.newK (wr.alloc (.cells #[.int .i8 127, .int .i8 127, .int .i8 (-128)] 31)) [9223372036854775807, 1, -1] 2 3 .i64) (by decide) (by decide)
            rw [show sumV ([9223372036854775807, 1, -1] : List Int).sum = 9223372036854775807 from by decide, show errV (sumE ([9223372036854775807, 1, -1] : List Int).sum) = .nilIface from rfl, show (wr.alloc (.cells #[.int .i8 127, .int .i8 127, .int .i8 (-128)] 31)).heap.size = wr.heap.size + 1 by simp] at h
            exact h)
          have HA3 : Hid (Calls Tryz.prog 12 #[.slice (some ⟨wr.heap.size + 1 + 1, 0, none⟩) 2 2] (((wr.alloc (.cells #[.int .i8 127, .int .i8 127, .int .i8 (-128)] 31)).alloc (.cells #[.int .i64 9223372036854775807, .int .i64 1, .int .i64 (-1)] 2)).alloc (.cells #[.int .i64 9223372036854775807, .int .i64 1] 2)) fun e w' => e = .returned (.tuple #[.int .i64 0, errV 9]) ∧ w' = (((wr.alloc (.cells #[.int .i8 127, .int .i8 127, .int .i8 (-128)] 31)).alloc (.cells #[.int .i64 9223372036854775807, .int .i64 1, .int .i64 (-1)] 2)).alloc (.cells #[.int .i64 9223372036854775807, .int .i64 1] 2))) := hide (by
            have h := sum_int64 (.slice (some ⟨((wr.alloc (.cells #[.int .i8 127, .int .i8 127, .int .i8 (-128)] 31)).alloc (.cells #[.int .i64 9223372036854775807, .int .i64 1, .int .i64 (-1)] 2)).heap.size, 0, none⟩) 2 2) [9223372036854775807, 1] (((wr.alloc (.cells #[.int .i8 127, .int .i8 127, .int .i8 (-128)] 31)).alloc (.cells #[.int .i64 9223372036854775807, .int .i64 1, .int .i64 (-1)] 2)).alloc (.cells #[.int .i64 9223372036854775807, .int .i64 1] 2)) (RI.newK ((wr.alloc (.cells #[.int .i8 127, .int .i8 127, .int .i8 (-128)] 31)).alloc (.cells #[.int .i64 9223372036854775807, .int .i64 1, .int .i64 (-1)] 2)) [9223372036854775807, 1] 2 2 .i64) (by decide) (by decide)
            rw [show sumV ([9223372036854775807, 1] : List Int).sum = 0 from by decide, show sumE ([9223372036854775807, 1] : List Int).sum = 9 from by decide, show ((wr.alloc (.cells #[.int .i8 127, .int .i8 127, .int .i8 (-128)] 31)).alloc (.cells #[.int .i64 9223372036854775807, .int .i64 1, .int .i64 (-1)] 2)).heap.size = wr.heap.size + 1 + 1 by simp] at h
            exact h)
          have HB9 := hide (below_new (below_new (below_new HBz.out (Nat.le_refl _) (.cells #[.int .i8 127, .int .i8 127, .int .i8 (-128)] 31)) (Nat.le_refl _) (.cells #[.int .i64 9223372036854775807, .int .i64 1, .int .i64 (-1)] 2)) (Nat.le_refl _) (.cells #[.int .i64 9223372036854775807, .int .i64 1] 2))
          go_wp2_with fail
          refine HA1.out.mono ?_
          rintro e z1 ⟨rfl, hz⟩
          subst hz
          go_wp2_with fail
          refine HA2.out.mono ?_
          rintro e z2 ⟨rfl, hz⟩
          subst hz
          go_wp2_with fail
          refine HA3.out.mono ?_
          rintro e z3 ⟨rfl, hz⟩
          subst hz
          rw [errV_pos (show (1 : Int) ≤ 9 by omega)]
          have HA4 : Hid (Calls Tryz.prog 13 #[.slice (some ⟨wr.heap.size + 1 + 1 + 1, 0, none⟩) 0 0] ((((wr.alloc (.cells #[.int .i8 127, .int .i8 127, .int .i8 (-128)] 31)).alloc (.cells #[.int .i64 9223372036854775807, .int .i64 1, .int .i64 (-1)] 2)).alloc (.cells #[.int .i64 9223372036854775807, .int .i64 1] 2)).alloc (.cells #[] 35)) fun e w' => e = .returned (.tuple #[.int .i64 0, .nilIface]) ∧ w' = ((((wr.alloc (.cells #[.int .i8 127, .int .i8 127, .int .i8 (-128)] 31)).alloc (.cells #[.int .i64 9223372036854775807, .int .i64 1, .int .i64 (-1)] 2)).alloc (.cells #[.int .i64 9223372036854775807, .int .i64 1] 2)).alloc (.cells #[] 35))) := hide (by
            have h := sum_int16 (.slice (some ⟨wr.heap.size + 1 + 1 + 1, 0, none⟩) 0 0) [] ((((wr.alloc (.cells #[.int .i8 127, .int .i8 127, .int .i8 (-128)] 31)).alloc (.cells #[.int .i64 9223372036854775807, .int .i64 1, .int .i64 (-1)] 2)).alloc (.cells #[.int .i64 9223372036854775807, .int .i64 1] 2)).alloc (.cells #[] 35)) ⟨_, _, rfl, .inl rfl⟩ (by decide) (by decide)
            rw [show sumV ([] : List Int).sum = 0 from by decide, show errV (sumE ([] : List Int).sum) = .nilIface from rfl] at h
            exact h)
          have HBx := hide (below_new HB9.out (Nat.le_refl _) (.cells #[] 35))
          have HPL : Hid (Calls Tryz.prog 14 #[.iface 70 (.int .i64 9), .int .i64 9] ((((wr.alloc (.cells #[.int .i8 127, .int .i8 127, .int .i8 (-128)] 31)).alloc (.cells #[.int .i64 9223372036854775807, .int .i64 1, .int .i64 (-1)] 2)).alloc (.cells #[.int .i64 9223372036854775807, .int .i64 1] 2)).alloc (.cells #[] 35)) fun e w' => e = .returned (.bool true) ∧ Below ((((wr.alloc (.cells #[.int .i8 127, .int .i8 127, .int .i8 (-128)] 31)).alloc (.cells #[.int .i64 9223372036854775807, .int .i64 1, .int .i64 (-1)] 2)).alloc (.cells #[.int .i64 9223372036854775807, .int .i64 1] 2)).alloc (.cells #[] 35)).heap.size ((((wr.alloc (.cells #[.int .i8 127, .int .i8 127, .int .i8 (-128)] 31)).alloc (.cells #[.int .i64 9223372036854775807, .int .i64 1, .int .i64 (-1)] 2)).alloc (.cells #[.int .i64 9223372036854775807, .int .i64 1] 2)).alloc (.cells #[] 35)) w') := hide (by
            have h := plain_errV 9 9 ((((wr.alloc (.cells #[.int .i8 127, .int .i8 127, .int .i8 (-128)] 31)).alloc (.cells #[.int .i64 9223372036854775807, .int .i64 1, .int .i64 (-1)] 2)).alloc (.cells #[.int .i64 9223372036854775807, .int .i64 1] 2)).alloc (.cells #[] 35)) (by omega) (by omega) (HE.out.below HBx.out)
            rw [errV_pos (show (1 : Int) ≤ 9 by omega), beq_self_eq_true] at h
            exact h)
          go_wp2_with fail
          refine HA4.out.mono ?_
          rintro e z4 ⟨rfl, hz⟩
          subst hz
          go_wp2_with fail
          refine HPL.out.mono ?_
          rintro e z5 ⟨rfl, hb⟩
          go_wp2_with fail
          go_ret
          exact ⟨rfl, below_on HBx.out hb (Nat.le_refl _)⟩
end Go.Proofs.YthmbfdjbjljaiaaGreatDoor
