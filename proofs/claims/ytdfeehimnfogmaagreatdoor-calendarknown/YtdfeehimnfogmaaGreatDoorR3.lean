/-
  My own text: the document's calendar: stepping.
-/
import Derived.Test.YtdfeehimnfogmaaGreatDoorR2
namespace Go.Proofs.YtdfeehimnfogmaaGreatDoor
open Go.RowKit

/-- On the way up: from n, k to go; at m, j to go. -/
def WalkU (g : Int → Bool) (n k m j : Int) : Prop :=
  (m ≤ 3652059 ∧ cn g (n + 1) (m + 1) + j = k ∧ (j = 0 → n < m → g m = true)) ∨ (m = 3652060 ∧ cn g (n + 1) 3652060 + j = k ∧ 0 < j)
def WalkD (g : Int → Bool) (n k m j : Int) : Prop :=
  (1 ≤ m ∧ cn g m n - j = -k ∧ (j = 0 → m < n → g m = true)) ∨ (m = 0 ∧ cn g 1 n - j = -k ∧ j < 0)
theorem WalkU.start {g : Int → Bool} {n k : Int} (_n1 : 1 ≤ n) (n2 : n ≤ 3652059) : WalkU g n k n k := .inl ⟨n2, by rw [cn_self]; omega, fun _ h => by omega⟩
theorem WalkD.start {g : Int → Bool} {n k : Int} (n1 : 1 ≤ n) (_n2 : n ≤ 3652059) : WalkD g n k n k := .inl ⟨n1, by rw [cn_self]; omega, fun _ h => by omega⟩
theorem WalkU.far {g : Int → Bool} {n k m j : Int} (h : WalkU g n k m j) (hm : m = 3652060) : 0 < j := by
  rcases h with ⟨h, _⟩ | ⟨_, _, h⟩ <;> omega
theorem WalkD.far {g : Int → Bool} {n k m j : Int} (h : WalkD g n k m j) (hm : m = 0) : j < 0 := by
  rcases h with ⟨h, _⟩ | ⟨_, _, h⟩ <;> omega
theorem bus_day {we : Nat → Bool} {F : Int → Bool} {n : Int} (h : busB we F n = true) : 1 ≤ n ∧ n ≤ 3652059 ∧ bizB we F n = true := by
  cases hd : dayB n
  · unfold busB at h; rw [hd] at h; cases h
  · have := (dayB_iff n).1 hd
    exact ⟨this.1, this.2, by rw [← bus_biz2 hd]; exact h⟩
theorem WalkU.hit {we : Nat → Bool} {F : Int → Bool} {n k m j : Int} (h : WalkU (bizB we F) n k m j) (_j0 : 0 < j) (hm : n ≤ m) (_m2 : m ≤ 3652059) (hg : busB we F (m + 1) = true) : WalkU (bizB we F) n k (m + 1) (j - 1) := by
  obtain ⟨b1, b2, b3⟩ := bus_day hg
  rcases h with ⟨_, a2, _⟩ | ⟨a1, _⟩
  · have c := cn_next (bizB we F) (show n + 1 ≤ m + 1 by omega)
    rw [b3] at c; simp at c
    exact .inl ⟨b2, by omega, fun _ _ => b3⟩
  · omega
theorem WalkU.miss {we : Nat → Bool} {F : Int → Bool} {n k m j : Int} (h : WalkU (bizB we F) n k m j) (j0 : 0 < j) (hm : n ≤ m) (_m2 : m ≤ 3652059) (hg : busB we F (m + 1) = false) (hn : 1 ≤ n := by omega) : WalkU (bizB we F) n k (m + 1) j := by
  rcases h with ⟨a1, a2, _⟩ | ⟨a1, _⟩
  · by_cases e : m = 3652059
    · subst e; exact .inr ⟨rfl, a2, j0⟩
    · have hb : bizB we F (m + 1) = false := by rw [← bus_biz2 (dayB_yes (by omega) (by omega))]; exact hg
      have c := cn_next (bizB we F) (show n + 1 ≤ m + 1 by omega)
      rw [hb] at c; simp at c
      exact .inl ⟨by omega, by omega, fun h0 _ => by omega⟩
  · omega
theorem WalkU.done {g : Int → Bool} {n k m j : Int} (h : WalkU g n k m j) (hj : j = 0) (hm : n ≤ m) : AddR g n k m 0 := by
  rcases h with ⟨a1, a2, a3⟩ | ⟨_, _, a3⟩
  · by_cases e : m = n
    · subst e; rw [cn_self] at a2; exact .inl ⟨by omega, rfl, rfl⟩
    · have q4 := a3 hj (by omega)
      have c := cn_next g (show n + 1 ≤ m by omega)
      have c2 := cn_b g (show n + 1 ≤ m by omega)
      rw [q4] at c; simp at c
      exact .inr (.inl ⟨by omega, .inl ⟨rfl, by omega, a1, q4, by omega⟩⟩)
  · omega
theorem WalkU.out {g : Int → Bool} {n k m j : Int} (h : WalkU g n k m j) (hm : m = 3652060) (hn : n ≤ 3652059) : AddR g n k 0 8 := by
  rcases h with ⟨a1, _⟩ | ⟨_, a2, a3⟩
  · omega
  · have c2 := cn_b g (show n + 1 ≤ 3652060 by omega)
    exact .inr (.inl ⟨by omega, .inr ⟨rfl, rfl, by omega⟩⟩)
theorem WalkD.hit {we : Nat → Bool} {F : Int → Bool} {n k m j : Int} (h : WalkD (bizB we F) n k m j) (_j0 : j < 0) (hm : m ≤ n) (_m1 : 1 ≤ m) (hg : busB we F (m - 1) = true) : WalkD (bizB we F) n k (m - 1) (j + 1) := by
  obtain ⟨b1, b2, b3⟩ := bus_day hg
  rcases h with ⟨_, a2, _⟩ | ⟨a1, _⟩
  · have c := cn_add (bizB we F) (show m - 1 ≤ m by omega) (show m ≤ n by omega)
    have c1 := cn_one (bizB we F) (m - 1)
    rw [show m - 1 + 1 = m by omega, b3] at c1; simp at c1
    exact .inl ⟨b1, by omega, fun _ _ => b3⟩
  · omega
theorem WalkD.miss {we : Nat → Bool} {F : Int → Bool} {n k m j : Int} (h : WalkD (bizB we F) n k m j) (j0 : j < 0) (hm : m ≤ n) (m1 : 1 ≤ m) (hg : busB we F (m - 1) = false) (hn : n ≤ 3652059 := by omega) : WalkD (bizB we F) n k (m - 1) j := by
  rcases h with ⟨_, a2, _⟩ | ⟨a1, _⟩
  · by_cases e : m = 1
    · subst e; exact .inr ⟨rfl, a2, j0⟩
    · have hb : bizB we F (m - 1) = false := by rw [← bus_biz2 (dayB_yes (by omega) (by omega))]; exact hg
      have c := cn_add (bizB we F) (show m - 1 ≤ m by omega) (show m ≤ n by omega)
      have c1 := cn_one (bizB we F) (m - 1)
      rw [show m - 1 + 1 = m by omega, hb] at c1; simp at c1
      exact .inl ⟨by omega, by omega, fun h0 _ => by omega⟩
  · omega
theorem WalkD.done {g : Int → Bool} {n k m j : Int} (h : WalkD g n k m j) (hj : j = 0) (hm : m ≤ n) : AddR g n k m 0 := by
  rcases h with ⟨a1, a2, a3⟩ | ⟨_, _, a3⟩
  · by_cases e : m = n
    · subst e; rw [cn_self] at a2; exact .inl ⟨by omega, rfl, rfl⟩
    · have q4 := a3 hj (by omega)
      have c := cn_add g (show m ≤ m + 1 by omega) (show m + 1 ≤ n by omega)
      have c1 := cn_one g m
      have c2 := cn_b g (show m + 1 ≤ n by omega)
      rw [q4] at c1; simp at c1
      exact .inr (.inr ⟨by omega, .inl ⟨rfl, a1, by omega, q4, by omega⟩⟩)
  · omega
theorem WalkD.out {g : Int → Bool} {n k m j : Int} (h : WalkD g n k m j) (hm : m = 0) (hn : 1 ≤ n) : AddR g n k 0 8 := by
  rcases h with ⟨a1, _⟩ | ⟨_, a2, a3⟩
  · omega
  · have c2 := cn_b g (show 1 ≤ n by omega)
    exact .inr (.inr ⟨by omega, .inr ⟨rfl, rfl, by omega⟩⟩)
set_option maxRecDepth 100000 in
set_option maxHeartbeats 4000000 in
theorem refAdd_any (we : Nat → Bool) (ad : Option Addr) (cap : Nat) (l : List Int) (n k : Int) (w : World) (HR : Hid (RI w .i64 (.slice ad l.length cap) l)) (hl : l.length ≤ 17592186044416) (k1 : -9223372036854775808 ≤ k) (k2 : k ≤ 9223372036854775807) :
    Calls Tryz.prog 58 #[.agg #[.bool (we 0), .bool (we 1), .bool (we 2), .bool (we 3), .bool (we 4), .bool (we 5), .bool (we 6), .slice ad l.length cap], .int .i64 n, .int .i64 k] w fun e w' => (∃ v x, e = .returned (.tuple #[.int .i64 v, .int .i64 x]) ∧ AddS (bizB we (FL we l)) n k v x) ∧ Below w.heap.size w w' := by
  have HI := hide (fun W : World => refIs_any n W)
  have HB0 : Hid (Below w.heap.size w (w.alloc (.cells #[.bool (we 0), .bool (we 1), .bool (we 2), .bool (we 3), .bool (we 4), .bool (we 5), .bool (we 6), .slice ad l.length cap] 51))) := hide ((Below.refl _ _).alloc (Nat.le_refl _) _)
  have HBX0 := hide (Box.new w we ad l.length cap 51)
  cases hd : dayB n
  · have HDN := hide hd
    rw [hd] at HI
    clear hd
    go_enter Tryz.func58, Tryz.ntmps58
    go_wp2_with fail
    refine (HI.out _).mono ?_
    rintro e w' ⟨rfl, hw'⟩
    have hw' := hw'.symm
    subst hw'
    go_wp2_with fail
    go_ret2
    exact ⟨⟨0, 8, rfl, .inl ⟨HDN.out, rfl, rfl⟩⟩, HB0.out⟩
  have HDY := hide hd
  rw [hd] at HI
  obtain ⟨n1, n2⟩ := (dayB_iff n).1 hd
  clear hd
  by_cases hk : 0 ≤ k
  · go_enter Tryz.func58, Tryz.ntmps58
    go_wp2_with fail
    refine (HI.out _).mono ?_
    rintro e w' ⟨rfl, hw'⟩
    have hw' := hw'.symm
    subst hw'
    go_wp2_with fail
    go_loopw [1, 2] (fun m j wr => ∃ (m' j' : Int), m = .int .i64 m' ∧ j = .int .i64 j' ∧ n ≤ m' ∧ m' ≤ 3652060 ∧ 0 ≤ j' ∧ j' ≤ k ∧ Hid (WalkU (bizB we (FL we l)) n k m' j') ∧ Hid (Below w.heap.size w wr) ∧ Hid (Box wr w.heap.size we ad l.length cap)) (fun m _ _ => (3652060 - intOf m).toNat)
    case atStart => exact ⟨n, k, rfl, rfl, by omega, by omega, by omega, by omega, hide (WalkU.start (by omega) (by omega)), HB0, HBX0⟩
    case round =>
      clear HB0 HBX0
      obtain ⟨m, j, rfl, rfl, m1, m2, j1, j2, HW, HB, HBX⟩ := hrel
      by_cases hfar : m = 3652060
      · have hjf := WalkU.far HW.out hfar
        subst hfar
        have HIM := hide (fun W : World => refIs_any 3652060 W)
        rw [show dayB 3652060 = false by decide] at HIM
        have hjp : 0 < j := hjf
        have hjn : ¬ j < 0 := by omega
        go_wp2_with (go_at_call 67; refine (HIM.out _).mono ?_; rintro e w' ⟨rfl, hw'⟩; have hw' := hw'.symm; subst hw')
        go_loopw [1, 2] (fun a b wr' => a = .int .i64 3652060 ∧ b = .int .i64 j ∧ wr' = wr) (fun _ _ _ => 0)
        case atStart => exact ⟨rfl, rfl, rfl⟩
        case round =>
          obtain ⟨rfl, rfl, hwr⟩ := hrel
          have hwr := hwr.symm
          subst hwr
          go_wp2_with (go_at_call 67; refine (HIM.out _).mono ?_; rintro e w' ⟨rfl, hw'⟩; have hw' := hw'.symm; subst hw')
          go_ret2
          exact ⟨⟨0, 8, rfl, .inr ⟨HDY.out, WalkU.out HW.out (by omega) (by omega)⟩⟩, HB.out⟩
      · skip
        have HIM := hide (fun W : World => refIs_any m W)
        rw [dayB_yes (n := m) (by omega) (by omega)] at HIM
        by_cases hj : 0 < j
        · have BX := HBX.out
          have b0 := BX.ce 0 (by omega)
          have b1 := BX.ce 1 (by omega)
          have b2 := BX.ce 2 (by omega)
          have b3 := BX.ce 3 (by omega)
          have b4 := BX.ce 4 (by omega)
          have b5 := BX.ce 5 (by omega)
          have b6 := BX.ce 6 (by omega)
          have b7 := BX.cs
          clear BX
          have HBM := hide (fun (W : World) (h : RI W .i64 (.slice ad l.length cap) l) => refBusiness_any we ad cap l (m + 1) W (hide h) hl)
          cases hg : busB we (FL we l) (m + 1)
          · skip
            rw [hg] at HBM
            go_wp2_with (first
              | (go_at_call 67; refine (HIM.out _).mono ?_; rintro e w' ⟨rfl, hw'⟩; have hw' := hw'.symm; subst hw')
              | (go_at_call 57; refine (HBM.out _ (HR.out.later HB.out)).mono ?_; rintro e w2 ⟨rfl, hb2⟩))
            go_roundw
            case rel => exact ⟨m + 1, j, by go_num, by go_num, by omega, by omega, by omega, by omega, hide (WalkU.miss HW.out (by omega) (by omega) (by omega) hg), hide (HB.out.trans (hb2.mono HB.out.size)), hide (HBX.out.later hb2)⟩
            case measure => simp [intOf]; omega
          · skip
            rw [hg] at HBM
            go_wp2_with (first
              | (go_at_call 67; refine (HIM.out _).mono ?_; rintro e w' ⟨rfl, hw'⟩; have hw' := hw'.symm; subst hw')
              | (go_at_call 57; refine (HBM.out _ (HR.out.later HB.out)).mono ?_; rintro e w2 ⟨rfl, hb2⟩))
            go_roundw
            case rel => exact ⟨m + 1, j - 1, by go_num, by go_num, by omega, by omega, by omega, by omega, hide (WalkU.hit HW.out (by omega) (by omega) (by omega) hg), hide (HB.out.trans (hb2.mono HB.out.size)), hide (HBX.out.later hb2)⟩
            case measure => simp [intOf]; omega
        · skip
          have hjn : ¬ j < 0 := by omega
          go_wp2_with (go_at_call 67; refine (HIM.out _).mono ?_; rintro e w' ⟨rfl, hw'⟩; have hw' := hw'.symm; subst hw')
          go_loopw [1, 2] (fun a b wr' => a = .int .i64 m ∧ b = .int .i64 j ∧ wr' = wr) (fun _ _ _ => 0)
          case atStart => exact ⟨rfl, rfl, rfl⟩
          case round =>
            obtain ⟨rfl, rfl, hwr⟩ := hrel
            have hwr := hwr.symm
            subst hwr
            go_wp2_with (go_at_call 67; refine (HIM.out _).mono ?_; rintro e w' ⟨rfl, hw'⟩; have hw' := hw'.symm; subst hw')
            go_ret2
            exact ⟨⟨m, 0, rfl, .inr ⟨HDY.out, WalkU.done HW.out (by omega) (by omega)⟩⟩, HB.out⟩
  · have hkn : ¬ 0 < k := by omega
    go_enter Tryz.func58, Tryz.ntmps58
    go_wp2_with fail
    refine (HI.out _).mono ?_
    rintro e w' ⟨rfl, hw'⟩
    have hw' := hw'.symm
    subst hw'
    go_wp2_with fail
    go_loopw [1, 2] (fun a b wr' => a = .int .i64 n ∧ b = .int .i64 k ∧ Hid (Below w.heap.size w wr') ∧ Hid (Box wr' w.heap.size we ad l.length cap)) (fun _ _ _ => 0)
    case atStart => exact ⟨rfl, rfl, HB0, HBX0⟩
    case round =>
      clear HB0 HBX0
      obtain ⟨rfl, rfl, HB0, HBX0⟩ := hrel
      go_wp2_with fail
      go_loopw [1, 2] (fun m j wr => ∃ (m' j' : Int), m = .int .i64 m' ∧ j = .int .i64 j' ∧ 0 ≤ m' ∧ m' ≤ n ∧ j' ≤ 0 ∧ k ≤ j' ∧ Hid (WalkD (bizB we (FL we l)) n k m' j') ∧ Hid (Below w.heap.size w wr) ∧ Hid (Box wr w.heap.size we ad l.length cap)) (fun m _ _ => (intOf m).toNat)
      case atStart => exact ⟨n, k, rfl, rfl, by omega, by omega, by omega, by omega, hide (WalkD.start (by omega) (by omega)), HB0, HBX0⟩
      case round =>
        clear HB0 HBX0
        obtain ⟨m, j, rfl, rfl, m1, m2, j1, j2, HW, HB, HBX⟩ := hrel
        by_cases hfar : m = 0
        · have hjf := WalkD.far HW.out hfar
          subst hfar
          have HIM := hide (fun W : World => refIs_any 0 W)
          rw [show dayB 0 = false by decide] at HIM
          have hjp : j < 0 := hjf
          go_wp2_with (go_at_call 67; refine (HIM.out _).mono ?_; rintro e w' ⟨rfl, hw'⟩; have hw' := hw'.symm; subst hw')
          go_ret2
          exact ⟨⟨0, 8, rfl, .inr ⟨HDY.out, WalkD.out HW.out (by omega) (by omega)⟩⟩, HB.out⟩
        · skip
          have HIM := hide (fun W : World => refIs_any m W)
          rw [dayB_yes (n := m) (by omega) (by omega)] at HIM
          by_cases hj : j < 0
          · have BX := HBX.out
            have b0 := BX.ce 0 (by omega)
            have b1 := BX.ce 1 (by omega)
            have b2 := BX.ce 2 (by omega)
            have b3 := BX.ce 3 (by omega)
            have b4 := BX.ce 4 (by omega)
            have b5 := BX.ce 5 (by omega)
            have b6 := BX.ce 6 (by omega)
            have b7 := BX.cs
            clear BX
            have HBM := hide (fun (W : World) (h : RI W .i64 (.slice ad l.length cap) l) => refBusiness_any we ad cap l (m - 1) W (hide h) hl)
            cases hg : busB we (FL we l) (m - 1)
            · skip
              rw [hg] at HBM
              go_wp2_with (first
                | (go_at_call 67; refine (HIM.out _).mono ?_; rintro e w' ⟨rfl, hw'⟩; have hw' := hw'.symm; subst hw')
                | (go_at_call 57; refine (HBM.out _ (HR.out.later HB.out)).mono ?_; rintro e w2 ⟨rfl, hb2⟩))
              go_roundw
              case rel => exact ⟨m - 1, j, by go_num, by go_num, by omega, by omega, by omega, by omega, hide (WalkD.miss HW.out (by omega) (by omega) (by omega) hg), hide (HB.out.trans (hb2.mono HB.out.size)), hide (HBX.out.later hb2)⟩
              case measure => simp [intOf]; omega
            · skip
              rw [hg] at HBM
              go_wp2_with (first
                | (go_at_call 67; refine (HIM.out _).mono ?_; rintro e w' ⟨rfl, hw'⟩; have hw' := hw'.symm; subst hw')
                | (go_at_call 57; refine (HBM.out _ (HR.out.later HB.out)).mono ?_; rintro e w2 ⟨rfl, hb2⟩))
              go_roundw
              case rel => exact ⟨m - 1, j + 1, by go_num, by go_num, by omega, by omega, by omega, by omega, hide (WalkD.hit HW.out (by omega) (by omega) (by omega) hg), hide (HB.out.trans (hb2.mono HB.out.size)), hide (HBX.out.later hb2)⟩
              case measure => simp [intOf]; omega
          · skip
            go_wp2_with (go_at_call 67; refine (HIM.out _).mono ?_; rintro e w' ⟨rfl, hw'⟩; have hw' := hw'.symm; subst hw')
            go_ret2
            exact ⟨⟨m, 0, rfl, .inr ⟨HDY.out, WalkD.done HW.out (by omega) (by omega)⟩⟩, HB.out⟩
end Go.Proofs.YtdfeehimnfogmaaGreatDoor
