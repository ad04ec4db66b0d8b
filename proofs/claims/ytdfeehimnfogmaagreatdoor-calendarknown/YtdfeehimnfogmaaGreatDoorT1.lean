/-
  My own text: the law on Target.
-/
import Derived.Test.YtdfeehimnfogmaaGreatDoorR5
import Derived.Test.YtdfeehimnfogmaaGreatDoorR6
namespace Go.Proofs.YtdfeehimnfogmaaGreatDoor
open Go.RowKit

theorem taE_b (x y : Int) : 0 ≤ taE x y ∧ taE x y ≤ 24 := by unfold taE; split <;> (try split) <;> omega
set_option maxRecDepth 100000 in
set_option maxHeartbeats 4000000 in
theorem target_bad (x y : Int) (a : Option Addr) (n cap : Nat) (w : World) (hL : Lies w) (h : taE x y ≠ 0) :
    Calls Tryz.prog 30 #[.int .i64 x, .int .i64 y, .slice a n cap] w fun e w' => e = .returned (.bool true) ∧ Below w.heap.size w w' := by
  have HL := hide hL
  clear hL
  have HT := hide (Target_any x y w (hide HL.out.m))
  have HR := hide (fun W : World => refTarget_any x y W)
  have hb := taE_b x y
  obtain ⟨k, HK⟩ : ∃ k, Hid (taE x y = k) := ⟨_, hide rfl⟩
  rw [HK.out] at HT HR hb h
  have HP := hide (fun (W : World) (hW : ErrType W) => plain_same k W hb.1 hb.2 hW)
  have hk0 : (k == 0) = false := by simpa using h
  have hkn : (k != 0) = true := by simpa using h
  obtain ⟨ev, HEV⟩ : ∃ v, Hid (errV k = v) := ⟨_, hide rfl⟩
  rw [HEV.out] at HT HP
  go_enter Tryz.func30, Tryz.ntmps30
  go_wp2_with fail
  refine (HT.out).mono ?_
  rintro e w1 ⟨⟨_, rfl⟩ | ⟨h0, _⟩, hb1⟩
  case inr => exact absurd h0 h
  go_wp2_with fail
  refine (HR.out _).mono ?_
  rintro e w2 ⟨⟨_, rfl⟩ | ⟨h0, _⟩, hb2⟩
  case inr => exact absurd h0 h
  have HB2 := hide (hb1.trans (hb2.mono hb1.size))
  go_wp2_with fail
  have hb3 : Below w2.heap.size w2 (w2.alloc (.cells #[.bool false, .bool false, .bool false, .bool false, .bool false, .bool false, .bool false, .slice none 0 0] 51)) := (Below.refl _ _).alloc (Nat.le_refl _) _
  have HB3 := hide (HB2.out.trans (hb3.mono HB2.out.size))
  refine (HP.out _ (HL.out.e.below HB3.out)).mono ?_
  rintro e w4 ⟨rfl, hb4⟩
  have HB4 := hide (HB3.out.trans (hb4.mono HB3.out.size))
  clear hb1 hb2 hb3 hb4 HB2 HB3
  go_wp2_with fail
  go_loopw [11] (fun i wr => i = .int .i64 0 ∧ wr = w4) (fun _ _ => 0)
  case atStart => exact ⟨rfl, rfl⟩
  case round =>
    obtain ⟨rfl, rfl⟩ := hrel
    go_wp2_with fail
    all_goals (go_ret; exact ⟨rfl, HB4.out⟩)
theorem Tryz.sizeAsk : (Tryz.prog.info? 56).map (·.size) = some 4 := by kernel_rfl
def GrowW (w0 : World) : Type := { w' : World // Below w0.heap.size w0 w' }
theorem GrowW.call {w0 : World} (z : GrowW w0) {P : Program} {f : FuncId} {args : Array Value} {v : Value} (h : Calls P f args z.1 fun e w' => e = .returned v ∧ Below z.1.heap.size z.1 w') :
    Calls P f args z.1 fun e w' => e = .returned v ∧ ∃ r : GrowW w0, w' = r.1 :=
  h.mono fun _ w' ⟨he, hb⟩ => ⟨he, ⟨w', z.2.trans (hb.mono z.2.size)⟩, rfl⟩
/-- A slice of questions, each of four numbers. -/
def RA (w : World) (a : Option Addr) (n : Nat) : Prop := n = 0 ∨ ∃ b off, a = some ⟨b, off, none⟩ ∧ b < w.heap.size ∧ ∀ j, j < n → ∃ o kd x y : Int, w.cell? ⟨b, off + 4 * j, none⟩ = some (.int .i64 o) ∧ w.cell? ⟨b, off + 4 * j + 1, none⟩ = some (.int .i64 kd) ∧ w.cell? ⟨b, off + 4 * j + 2, none⟩ = some (.int .i64 x) ∧ w.cell? ⟨b, off + 4 * j + 3, none⟩ = some (.int .i64 y) ∧ -9223372036854775808 ≤ y ∧ y ≤ 9223372036854775807
set_option maxRecDepth 100000 in
set_option maxHeartbeats 4000000 in
theorem target_ok (x y : Int) (a : Option Addr) (n cap : Nat) (w : World) (hL : Lies w) (h : taE x y = 0) (hn : n ≤ 9223372036854775807) (HA : Hid (RA w a n)) :
    Calls Tryz.prog 30 #[.int .i64 x, .int .i64 y, .slice a n cap] w fun e w' => e = .returned (.bool true) ∧ Below w.heap.size w w' := by
  have HL := hide hL
  clear hL
  have HT := hide (Target_any x y w (hide HL.out.m))
  have HR := hide (fun W : World => refTarget_any x y W)
  rw [h] at HT HR
  have HP := hide (fun (W : World) (hW : ErrType W) => plain_same 0 W (by omega) (by omega) hW)
  rw [errV_zero] at HP
  have HTF : Hid (tF x y = FL tw (rlist x (y - x + 1).toNat)) := hide (FL_same tw x (y - x + 1).toNat).symm
  have HLL : Hid ((rlist x (y - x + 1).toNat).length ≤ 17592186044416) := by
    show _ ≤ _
    rw [rlist_len]
    have h1 : yearB x = true ∧ yearB y = true := by
      unfold taE at h
      cases hx : yearB x <;> cases hy : yearB y <;> simp [hx, hy] at h
      · exact ⟨rfl, rfl⟩
    have a1 := (yearB_iff x).1 h1.1
    have a2 := (yearB_iff y).1 h1.2
    omega
  obtain ⟨l, HLE⟩ : ∃ l, Hid (rlist x (y - x + 1).toNat = l) := ⟨_, hide rfl⟩
  rw [HLE.out] at HR HTF HLL
  go_enter Tryz.func30, Tryz.ntmps30
  go_wp2_with fail
  refine (HT.out).mono ?_
  rintro e w1 ⟨⟨h0, _⟩ | ⟨_, p, b, rfl, hcal⟩, hb1⟩
  case inl => exact absurd rfl h0
  rw [HTF.out] at hcal
  have HC1 := hide hcal
  clear hcal
  go_wp2_with fail
  refine (HR.out _).mono ?_
  rintro e w2 ⟨⟨h0, _⟩ | ⟨_, v, rfl, hri⟩, hb2⟩
  case inl => exact absurd rfl h0
  obtain ⟨ad, cp, rfl, hri2⟩ := hri
  have HRI2 : Hid (RI w2 .i64 (.slice ad l.length cp) l) := hide ⟨ad, cp, rfl, hri2⟩
  clear hri2
  have HB2 := hide (hb1.trans (hb2.mono hb1.size))
  have HC2 := hide (HC1.out.later hb2)
  clear hb1 hb2 HC1
  have hb3 : Below w2.heap.size w2 (w2.alloc (.cells #[.bool false, .bool false, .bool false, .bool false, .bool false, .bool true, .bool true, .slice ad l.length cp] 51)) := (Below.refl _ _).alloc (Nat.le_refl _) _
  have HB3 := hide (HB2.out.trans (hb3.mono HB2.out.size))
  have HC3 := hide (HC2.out.later hb3)
  have HRI3 := hide (HRI2.out.later hb3)
  have HX3 := hide (Blk.new w2 #[.bool false, .bool false, .bool false, .bool false, .bool false, .bool true, .bool true, .slice ad l.length cp] 51)
  go_wp2_with fail
  refine (HP.out _ (HL.out.e.below HB3.out)).mono ?_
  rintro e w4 ⟨rfl, hb4⟩
  have HB4 := hide (HB3.out.trans (hb4.mono HB3.out.size))
  have HC4 := hide (HC3.out.later hb4)
  have HRI4 := hide (HRI3.out.later hb4)
  have HX4 := hide (HX3.out.later hb4)
  clear hb3 hb4 HB2 HB3 HC2 HC3 HRI2 HRI3 HX3
  go_wp2_with fail
  go_loopw [11] (fun i wr => ∃ k : Nat, k ≤ n ∧ i = .int .i64 k ∧ Hid (Cal wr p b tw (FL tw l)) ∧ Hid (RI wr .i64 (.slice ad l.length cp) l) ∧ Hid (Blk wr w2.heap.size #[.bool false, .bool false, .bool false, .bool false, .bool false, .bool true, .bool true, .slice ad l.length cp] 51) ∧ Hid (Below w.heap.size w wr)) (fun i _ => n - (intOf i).toNat)
  case atStart => exact ⟨0, Nat.zero_le _, rfl, HC4, HRI4, HX4, HB4⟩
  case round =>
    clear HC4 HRI4 HX4 HB4
    obtain ⟨k, hk, rfl, HC, HRI, HX, HB⟩ := hrel
    by_cases hlt : k < n
    · rcases HA.out with h0 | ⟨bq, off, rfl, hbq, hall⟩
      · omega
      obtain ⟨o, kd, qx, qy, c0, c1, c2, c3, qy1, qy2⟩ := hall k hlt
      clear hall
      rw [← HB.out.cell (p := ⟨bq, off + 4 * k, none⟩) hbq] at c0
      rw [← HB.out.cell (p := ⟨bq, off + 4 * k + 1, none⟩) hbq] at c1
      rw [← HB.out.cell (p := ⟨bq, off + 4 * k + 2, none⟩) hbq] at c2
      rw [← HB.out.cell (p := ⟨bq, off + 4 * k + 3, none⟩) hbq] at c3
      have hc : ∀ j : Nat, wr.cell? ⟨w2.heap.size, j, none⟩ = (#[.bool false, .bool false, .bool false, .bool false, .bool false, .bool true, .bool true, .slice ad l.length cp] : Array Value)[j]? := HX.out.cell
      have b0 := hc 0
      have b1 := hc 1
      have b2 := hc 2
      have b3 := hc 3
      have b4 := hc 4
      have b5 := hc 5
      have b6 := hc 6
      have b7 := hc 7
      clear hc
      simp at b0 b1 b2 b3 b4 b5 b6 b7
      have HQ := hide (fun (W : World) (h1 : Lies W) (h2 : Cal W p b tw (FL tw l)) (h3 : RI W .i64 (.slice ad l.length cp) l) => asked_any p b tw ad cp l o kd qx qy W h1 (hide h2) (hide h3) HLL.out qy1 qy2)
      go_wp2_with fail
      have HX0 : Hid (Below wr.heap.size wr wr.drew) := hide (Below.refl _ _).drew
      have HRG : Hid (∀ W, Below wr.heap.size wr W → W.rangeAt w2.heap.size 0 [.bool false, .bool false, .bool false, .bool false, .bool false, .bool true, .bool true, .slice ad l.length cp]) := hide (fun W hW j v hv => by
        have hq := (HX.out.later hW).cell j
        rw [Nat.zero_add, hq]
        simpa using hv)
      have HRQ : Hid (∀ W, Below wr.heap.size wr W → W.rangeAt bq (off + 4 * k) [.int .i64 o, .int .i64 kd, .int .i64 qx, .int .i64 qy]) := hide (fun W hW j v hv => by
        have hlb : bq < wr.heap.size := Nat.lt_of_lt_of_le hbq HB.out.size
        match j, hv with
        | 0, hv => simp at hv; subst hv; exact (hW.cell (p := ⟨bq, off + 4 * k, none⟩) hlb).trans c0
        | 1, hv => simp at hv; subst hv; exact (hW.cell (p := ⟨bq, off + 4 * k + 1, none⟩) hlb).trans c1
        | 2, hv => simp at hv; subst hv; exact (hW.cell (p := ⟨bq, off + 4 * k + 2, none⟩) hlb).trans c2
        | 3, hv => simp at hv; subst hv; exact (hW.cell (p := ⟨bq, off + 4 * k + 3, none⟩) hlb).trans c3)
      clear b0 b1 b2 b3 b4 b5 b6 b7 c0 c1 c2 c3
      have hki : (k : Int) < (n : Int) := by omega
      haveI : Nonempty (GrowW wr) := ⟨⟨_, HX0.out⟩⟩
      refine region_class (C := fun W => ∃ z : GrowW wr, W = z.1) (by kernel_rfl) (by kernel_rfl) ⟨⟨_, HX0.out⟩, rfl⟩ ?_
      repeat (first
        | go_big_quiet_skip
        | (go_big_quiet_want; first
            | (refine quiet_load 51 (.tmp 9) rfl w2.heap.size rfl [.bool false, .bool false, .bool false, .bool false, .bool false, .bool true, .bool true, .slice ad l.length cp] _ (fun W ⟨z, hz⟩ => by subst hz; exact HRG.out _ z.2) Tryz.underlying51 rfl Tryz.sizeRC ?_; simp only [Act.put, List.setIfInBounds_toArray, List.set_cons_zero, List.set_cons_succ]; go_big_quiet_on)
            | (refine quiet_load_at 56 (.tmp 49) rfl bq _ rfl [.int .i64 o, .int .i64 kd, .int .i64 qx, .int .i64 qy] _ (fun W ⟨z, hz⟩ => by subst hz; have h9 := HRQ.out _ z.2; first | exact h9 | (rw [Nat.mul_comm] at h9; exact h9) | simpa [Nat.mul_comm] using h9) Tryz.underlying56 rfl Tryz.sizeAsk ?_; simp only [Act.put, List.setIfInBounds_toArray, List.set_cons_zero, List.set_cons_succ]; go_big_quiet_on)
            | (go_big_quiet_op; first
                | go_big_quiet_on
                | (apply Exists.intro; refine ⟨fun z => ?_, ?_⟩; (first
                    | (go_at_call 28; exact z.call (HQ.out z.1 (HL.out.below (HB.out.trans (z.2.mono HB.out.size))) (HC.out.later z.2) (HRI.out.later z.2)))); go_big_quiet_on))))
      refine wpQuiet_nil ?_
      rintro w3 ⟨z, rfl⟩
      obtain ⟨w3, hw3⟩ := z
      dsimp only
      have HB3 := hide (HB.out.trans (hw3.mono HB.out.size))
      have HC3 := hide (HC.out.later hw3)
      have HRI3 := hide (HRI.out.later hw3)
      have HX3 := hide (HX.out.later hw3)
      clear HX0 this hw3 HB HC HRI HX HRG HRQ HQ
      go_wp2_with fail
      go_roundw
      case rel => exact ⟨k + 1, by omega, by go_num, HC3, HRI3, HX3, HB3⟩
      case measure => simp [intOf]; omega
    · have e : k = n := by omega
      subst e
      go_wp2_with fail
      go_ret
      exact ⟨rfl, HB.out⟩
theorem target_law (x y : Int) (a : Option Addr) (n cap : Nat) (w : World) (hL : Lies w) (hn : n ≤ 9223372036854775807) (hA : RA w a n) :
    Calls Tryz.prog 30 #[.int .i64 x, .int .i64 y, .slice a n cap] w fun e w' => e = .returned (.bool true) ∧ Below w.heap.size w w' := by
  by_cases h : taE x y = 0
  · exact target_ok x y a n cap w hL h hn (hide hA)
  · exact target_bad x y a n cap w hL h
end Go.Proofs.YtdfeehimnfogmaaGreatDoor
