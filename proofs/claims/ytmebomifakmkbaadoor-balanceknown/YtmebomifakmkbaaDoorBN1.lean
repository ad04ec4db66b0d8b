/-
  My own text: the small functions of BalanceKnown: seven, is, CopyMarks; rows of marks that are laid as literals (printed by mkbn1.py).
-/
import Derived.Test.YtmebomifakmkbaaDoorBV
namespace Go.Proofs.YtmebomifakmkbaaDoor
open Go.RowKit

/-- A literal of marks. -/
theorem om_lit (w : World) (L : List Mk) (A : Array Value) (hA : A = (mc L).toArray) (hl : L.length ≤ 1000) :
    OM (w.alloc (.cells A 36)) w.heap.size (.slice (some ⟨w.heap.size, 0, none⟩) L.length L.length) L := by
  subst hA
  refine ⟨by rw [mc_len], .inr ⟨w.heap.size, L.length, (mc L).toArray, rfl, Nat.le_refl _, alloc_new w _, Nat.le_refl _, by unfold maxLen; omega, by simp [mc_len], ?_⟩⟩
  rw [← mc_len]
  simp
set_option maxRecDepth 100000 in
set_option maxHeartbeats 1000000 in
theorem seven_any (x : Int) (w : World) :
    Calls Tryd.prog 47 #[.int .i64 x] w fun e w' => ∃ c, e = .returned (.agg #[.int .i64 x, .slice (some ⟨c, 0, none⟩) 1 1]) ∧ RM w' (.slice (some ⟨c, 0, none⟩) 1 1) [(7, 3)] ∧ Below w.heap.size w w' := by
  have N0 := alloc_new w (.cells #[.int .i64 x, .slice (some ⟨w.heap.size + 1, 0, none⟩) 1 1] 24)
  have B0 := (Below.refl w.heap.size w).alloc (Nat.le_refl _) (.cells #[.int .i64 x, .slice (some ⟨w.heap.size + 1, 0, none⟩) 1 1] 24)
  have z1 : (w.alloc (.cells #[.int .i64 x, .slice (some ⟨w.heap.size + 1, 0, none⟩) 1 1] 24)).heap.size = w.heap.size + 1 := by simp
  have O1 := om_lit (w.alloc (.cells #[.int .i64 x, .slice (some ⟨w.heap.size + 1, 0, none⟩) 1 1] 24)) [(7, 3)] #[.int .i64 7, .int .i64 3] rfl (by decide)
  have B1 := B0.alloc (by omega) (.cells #[.int .i64 7, .int .i64 3] 36)
  have N1 := alloc_block (o := .cells #[.int .i64 7, .int .i64 3] 36) N0
  rw [z1] at O1
  have HO : Hid (RM _ (.slice (some ⟨w.heap.size + 1, 0, none⟩) 1 1) [(7, 3)]) := hide (OM.rm O1)
  have HB := hide B1
  have HN := hide N1
  clear N0 B0 z1 O1 B1 N1
  go_enter Tryd.func47, Tryd.ntmps47
  go_wp2_with fail
  generalize ((w.alloc (.cells #[.int .i64 x, .slice (some ⟨w.heap.size + 1, 0, none⟩) 1 1] 24)).alloc (.cells #[.int .i64 7, .int .i64 3] 36)) = X at *
  obtain ⟨dd0, dd1⟩ := pair_cells HN.out rfl
  exact bodyPost_ret (v := .agg #[.int .i64 x, .slice (some ⟨w.heap.size + 1, 0, none⟩) 1 1]) (by simp [results, Tryd.results47, go_sem, dd0, dd1]) rfl ⟨_, rfl, HO.out, HB.out⟩
set_option maxRecDepth 100000 in
set_option maxHeartbeats 2000000 in
theorem copyM_any (v : Value) (l : List Mk) (w : World) (hv : RM w v l) (hl : l.length ≤ 8796093022000) :
    Calls Tryd.prog 64 #[v] w fun e w' => ∃ v', e = .returned v' ∧ OM w' w.heap.size v' l ∧ Below w.heap.size w w' := by
  obtain ⟨a, cap, rfl, _, hr⟩ := hv
  obtain ⟨i0, hi, hz0, hz1, hz2⟩ := info_parts Tryd.infoMk
  go_enter Tryd.func64, Tryd.ntmps64
  go_wp2_with fail
  go_loopw [3, 4] (fun o i wr => ∃ k : Nat, k ≤ l.length ∧ i = .int .i64 k ∧ wr.ownsRow w.heap.size 36 2 o k (mc (l.take k)) ∧ Below w.heap.size w wr) (fun _ i _ => l.length - (intOf i).toNat)
  case atStart => exact ⟨0, Nat.zero_le _, rfl, World.ownsRow_nil w w.heap.size 36 2, Below.refl _ _⟩
  case round =>
    obtain ⟨k, hk, rfl, hown, hB⟩ := hrel
    by_cases hlt : k < l.length
    · obtain ⟨⟨kd, r⟩, hx⟩ : ∃ p, l[k]? = some p := ⟨_, List.getElem?_eq_getElem hlt⟩
      rcases hr with h0 | ⟨b, off, rfl, hbl, hc⟩
      · rw [h0] at hlt; simp at hlt
      have c0 : wr.cell? ⟨b, off + k * 2, none⟩ = some (.int .i64 kd) := (hB.cell (p := ⟨b, _, none⟩) hbl).trans (hc k _ hx).1
      have c1 : wr.cell? ⟨b, off + k * 2 + 1, none⟩ = some (.int .i64 r) := (hB.cell (p := ⟨b, _, none⟩) hbl).trans (hc k _ hx).2
      have c1' : wr.cell? ⟨b, off + (k * 2 + 1), none⟩ = some (.int .i64 r) := c1
      have HT := hide (mc_take hx)
      clear hc hx
      go_wp2_with (first
        | (at_builtin; refine wpList_append_own_wide _ rfl _ _ 22 rfl w.heap.size 36 i0 (.agg #[.int .i64 0, .int .i64 0]) 2 16 Tryd.underlying22 hi hz0 hz1 hz2 rfl (by decide) _ _ _ rfl (hown.alloc _) ⟨_, 0, none⟩ 1 1 [.int .i64 kd, .int .i64 r] rfl rfl ?c1 ?c2 ?c3 ?c4 ?c5 ?_)
        | go_in)
      case c2 => exact ⟨rfl, rfl⟩
      case c3 => unfold maxLen; omega
      case c4 => omega
      case c5 => have := hB.size; simp; omega
      intro v' w1 hown' hgrow _
      have hB1 : Below w.heap.size w w1 := (hB.alloc hB.size _).grown hgrow (by have := hB.size; simp; omega) (fun k hk => (hown.lt k hk).1)
      clear hown hgrow
      go_wp2_with fail
      go_roundw
      case rel => exact ⟨k + 1, by omega, by go_num, by rw [HT.out]; exact hown', hB1⟩
      case measure => simp [intOf]; omega
    · have hk' : k = l.length := by omega
      subst hk'
      rw [List.take_length] at hown
      clear hr
      go_wp2_with fail
      go_ret
      exact ⟨_, rfl, hown, hB⟩
set_option maxRecDepth 100000 in
set_option maxHeartbeats 2000000 in
theorem is_0 (av : Int) (ad : Option Addr) (c : Nat) (w : World) :
    Calls Tryd.prog 48 #[.agg #[.int .i64 av, .slice ad 0 c], .nilIface, .int .i64 av, .slice none 0 0] w fun e w' => e = .returned (.bool true) ∧ Below w.heap.size w w' := by
  have X0 := hide (Px.new w av (.slice ad 0 c))
  have B0 := hide ((Below.refl w.heap.size w).alloc (Nat.le_refl _) (.cells #[.int .i64 av, .slice ad 0 c] 24))
  obtain ⟨x0, x1⟩ := pair_cells X0.out rfl
  go_enter Tryd.func48, Tryd.ntmps48
  go_wp2_with fail
  go_loopw [9] (fun i wr => ∃ k : Nat, k ≤ 0 ∧ i = .int .i64 (k : Int) ∧ Hid (Px wr w.heap.size av (.slice ad 0 c)) ∧ Hid (Below w.heap.size w wr)) (fun i _ => 0 - (intOf i).toNat)
  case atStart => exact ⟨0, Nat.zero_le _, rfl, X0, B0⟩
  case round =>
    obtain ⟨k, hk, rfl, HX, HB⟩ := hrel
    clear x0 x1
    obtain ⟨x0, x1⟩ := pair_cells HX.out rfl
    obtain rfl : k = 0 := by omega
    go_wp2_with fail
    go_ret
    exact ⟨rfl, HB.out⟩
set_option maxRecDepth 100000 in
set_option maxHeartbeats 2000000 in
theorem is_1 (av p q : Int) (ad : Option Addr) (c g : Nat) (w : World) (h : RM w (.slice ad 1 c) [(p, q)]) (hg : w.heap[g]? = some (.cells #[.int .i64 p, .int .i64 q] 2 (0, 0))) :
    Calls Tryd.prog 48 #[.agg #[.int .i64 av, .slice ad 1 c], .nilIface, .int .i64 av, .slice (some ⟨g, 0, none⟩) 2 2] w fun e w' => e = .returned (.bool true) ∧ Below w.heap.size w w' := by
  obtain ⟨ad', cap', hv, _, hc⟩ := h
  obtain ⟨b, off, ha, hbl, hc⟩ := hc.resolve_left (by simp)
  have e1 : ad = ad' := by injection hv
  rw [← e1] at ha
  subst ha
  have X0 := hide (Px.new w av (.slice (some ⟨b, off, none⟩) 1 c))
  have B0 := hide ((Below.refl w.heap.size w).alloc (Nat.le_refl _) (.cells #[.int .i64 av, .slice (some ⟨b, off, none⟩) 1 c] 24))
  have HBL := hide hbl
  have HGL := hide (blk_lt hg)
  have HM0 := hide (hc 0 _ rfl)
  have HI0 : Hid (w.cell? ⟨g, 0, none⟩ = some (.int .i64 p)) := hide (by rw [cell_of_row _ _ 0 _ _ _ hg]; rfl)
  have HI1 : Hid (w.cell? ⟨g, 1, none⟩ = some (.int .i64 q)) := hide (by rw [cell_of_row _ _ 1 _ _ _ hg]; rfl)
  clear hc hbl hg hv e1
  obtain ⟨x0, x1⟩ := pair_cells X0.out rfl
  go_enter Tryd.func48, Tryd.ntmps48
  go_wp2_with fail
  go_loopw [9] (fun i wr => ∃ k : Nat, k ≤ 1 ∧ i = .int .i64 (k : Int) ∧ Hid (Px wr w.heap.size av (.slice (some ⟨b, off, none⟩) 1 c)) ∧ Hid (Below w.heap.size w wr)) (fun i _ => 1 - (intOf i).toNat)
  case atStart => exact ⟨0, Nat.zero_le _, rfl, X0, B0⟩
  case round =>
    obtain ⟨k, hk, rfl, HX, HB⟩ := hrel
    clear x0 x1
    obtain ⟨x0, x1⟩ := pair_cells HX.out rfl
    rcases (by omega : k = 0 ∨ k = 1) with rfl | rfl
    · have c0 := (HB.out.cell (p := ⟨b, _, none⟩) HBL.out).trans HM0.out.1
      have c1 := (HB.out.cell (p := ⟨b, _, none⟩) HBL.out).trans HM0.out.2
      have d0 := (HB.out.cell (p := ⟨g, 0, none⟩) HGL.out).trans HI0.out
      have d1 := (HB.out.cell (p := ⟨g, 1, none⟩) HGL.out).trans HI1.out
      simp only [Nat.zero_mul, Nat.add_zero] at c0 c1
      go_wp2_with fail
      go_quiet (fail)
      go_wp2_with fail
      go_roundw
      case rel => exact ⟨1, by omega, by go_num, hide (HX.out), hide (below_dN HB.out _)⟩
      case measure => simp [intOf]
    · go_wp2_with fail
      go_ret
      exact ⟨rfl, HB.out⟩
set_option maxRecDepth 100000 in
set_option maxHeartbeats 2000000 in
theorem is_2 (av p q r s : Int) (ad : Option Addr) (c g : Nat) (w : World) (h : RM w (.slice ad 2 c) [(p, q), (r, s)]) (hg : w.heap[g]? = some (.cells #[.int .i64 p, .int .i64 q, .int .i64 r, .int .i64 s] 2 (0, 0))) :
    Calls Tryd.prog 48 #[.agg #[.int .i64 av, .slice ad 2 c], .nilIface, .int .i64 av, .slice (some ⟨g, 0, none⟩) 4 4] w fun e w' => e = .returned (.bool true) ∧ Below w.heap.size w w' := by
  obtain ⟨ad', cap', hv, _, hc⟩ := h
  obtain ⟨b, off, ha, hbl, hc⟩ := hc.resolve_left (by simp)
  have e1 : ad = ad' := by injection hv
  rw [← e1] at ha
  subst ha
  have X0 := hide (Px.new w av (.slice (some ⟨b, off, none⟩) 2 c))
  have B0 := hide ((Below.refl w.heap.size w).alloc (Nat.le_refl _) (.cells #[.int .i64 av, .slice (some ⟨b, off, none⟩) 2 c] 24))
  have HBL := hide hbl
  have HGL := hide (blk_lt hg)
  have HM0 := hide (hc 0 _ rfl)
  have HM1 := hide (hc 1 _ rfl)
  have HI0 : Hid (w.cell? ⟨g, 0, none⟩ = some (.int .i64 p)) := hide (by rw [cell_of_row _ _ 0 _ _ _ hg]; rfl)
  have HI1 : Hid (w.cell? ⟨g, 1, none⟩ = some (.int .i64 q)) := hide (by rw [cell_of_row _ _ 1 _ _ _ hg]; rfl)
  have HI2 : Hid (w.cell? ⟨g, 2, none⟩ = some (.int .i64 r)) := hide (by rw [cell_of_row _ _ 2 _ _ _ hg]; rfl)
  have HI3 : Hid (w.cell? ⟨g, 3, none⟩ = some (.int .i64 s)) := hide (by rw [cell_of_row _ _ 3 _ _ _ hg]; rfl)
  clear hc hbl hg hv e1
  obtain ⟨x0, x1⟩ := pair_cells X0.out rfl
  go_enter Tryd.func48, Tryd.ntmps48
  go_wp2_with fail
  go_loopw [9] (fun i wr => ∃ k : Nat, k ≤ 2 ∧ i = .int .i64 (k : Int) ∧ Hid (Px wr w.heap.size av (.slice (some ⟨b, off, none⟩) 2 c)) ∧ Hid (Below w.heap.size w wr)) (fun i _ => 2 - (intOf i).toNat)
  case atStart => exact ⟨0, Nat.zero_le _, rfl, X0, B0⟩
  case round =>
    obtain ⟨k, hk, rfl, HX, HB⟩ := hrel
    clear x0 x1
    obtain ⟨x0, x1⟩ := pair_cells HX.out rfl
    rcases (by omega : k = 0 ∨ k = 1 ∨ k = 2) with rfl | rfl | rfl
    · have c0 := (HB.out.cell (p := ⟨b, _, none⟩) HBL.out).trans HM0.out.1
      have c1 := (HB.out.cell (p := ⟨b, _, none⟩) HBL.out).trans HM0.out.2
      have d0 := (HB.out.cell (p := ⟨g, 0, none⟩) HGL.out).trans HI0.out
      have d1 := (HB.out.cell (p := ⟨g, 1, none⟩) HGL.out).trans HI1.out
      simp only [Nat.zero_mul, Nat.add_zero] at c0 c1
      go_wp2_with fail
      go_quiet (fail)
      go_wp2_with fail
      go_roundw
      case rel => exact ⟨1, by omega, by go_num, hide (HX.out), hide (below_dN HB.out _)⟩
      case measure => simp [intOf]
    · have c0 := (HB.out.cell (p := ⟨b, _, none⟩) HBL.out).trans HM1.out.1
      have c1 := (HB.out.cell (p := ⟨b, _, none⟩) HBL.out).trans HM1.out.2
      have d0 := (HB.out.cell (p := ⟨g, 2, none⟩) HGL.out).trans HI2.out
      have d1 := (HB.out.cell (p := ⟨g, 3, none⟩) HGL.out).trans HI3.out
      simp only [Nat.one_mul] at c0 c1
      go_wp2_with fail
      go_quiet (fail)
      go_wp2_with fail
      go_roundw
      case rel => exact ⟨2, by omega, by go_num, hide (HX.out), hide (below_dN HB.out _)⟩
      case measure => simp [intOf]
    · go_wp2_with fail
      go_ret
      exact ⟨rfl, HB.out⟩
end Go.Proofs.YtmebomifakmkbaaDoor
