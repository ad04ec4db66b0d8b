/-
  My own text: a calendar in memory; whether a day is a business day; how many free days lie within a span.
-/
import Derived.Test.YtdfeehimnfogmaaGreatDoorD5
import Derived.Test.YtdfeehimnfogmaaGreatDoorE1
import Derived.Maps.RangeWalk
import Derived.Maps.OwnOps
namespace Go.Proofs.YtdfeehimnfogmaaGreatDoor
open Go.RowKit Go.Maps

theorem lawI : Keyed Tryz.prog 3 := int_keyed Tryz.underlying3
theorem zeroU (w : World) : (zeroValue 71).run Tryz.prog w = .ok (.agg #[]) w := by kernel_rfl
/-- A calendar: the week's free days, the further free ones. -/
structure Cal (w : World) (p b : Nat) (we : Nat → Bool) (F : Int → Bool) : Prop where
  lt : p < w.heap.size
  ce : ∀ j, j < 7 → w.cell? ⟨p, j, none⟩ = some (.bool (we j))
  cm : w.cell? ⟨p, 7, none⟩ = some (.map (some b))
  own : ∃ (n : Nat) (D : DataW Unit), w.ownsMap Tryz.prog 3 unitElem b n D ∧ ∀ x, Maps.has D (.int .i64 x) = F x
theorem owns_below {w w' : World} {b n : Nat} {D : DataW Unit} (h : w.ownsMap Tryz.prog 3 unitElem b n D) (hb : Below w.heap.size w w') : w'.ownsMap Tryz.prog 3 unitElem b n D := by
  have hlt := h.lt
  obtain ⟨es, clock, h1, h2⟩ := h
  exact ⟨es, clock, (hb.block b hlt).trans h1, h2⟩
theorem Cal.later {w w' : World} {p b : Nat} {we : Nat → Bool} {F : Int → Bool} (h : Cal w p b we F) (hb : Below w.heap.size w w') : Cal w' p b we F := by
  obtain ⟨hc, _⟩ := bcell hb
  obtain ⟨n, D, ho, hF⟩ := h.own
  exact ⟨Nat.lt_of_lt_of_le h.lt hb.size, fun j hj => (hc _ _ h.lt).trans (h.ce j hj), (hc _ _ h.lt).trans h.cm, n, D, owns_below ho hb, hF⟩
/-- The day of the week is free. -/
def weB (we : Nat → Bool) (x : Int) : Bool := we ((x - 1) % 7).toNat
def busB (we : Nat → Bool) (F : Int → Bool) (n : Int) : Bool := dayB n && !weB we n && !F n
theorem wf_day {n : Int} (h1 : -9223372036854775808 ≤ n) (h2 : n ≤ 9223372036854775807) : (Lit.int .i64 n).wf = true := WalkArith.wf_i64 ⟨h1, h2⟩
theorem wd_nat (n : Int) : ∃ r : Nat, (n - 1) % 7 = (r : Int) ∧ r < 7 ∧ ((n - 1) % 7).toNat = r := ⟨((n - 1) % 7).toNat, by omega, by omega, rfl⟩
set_option maxRecDepth 100000 in
set_option maxHeartbeats 1000000 in
theorem Business_any (p b : Nat) (we : Nat → Bool) (F : Int → Bool) (n : Int) (w : World) (HC : Hid (Cal w p b we F)) :
    Calls Tryz.prog 22 #[.pointer (some ⟨p, 0, none⟩), .int .i64 n] w fun e w' => e = .returned (.bool (busB we F n)) ∧ Below w.heap.size w w' := by
  have HI := hide (fun W : World => isDay_any n W)
  have HBU : Hid (busB we F n = (dayB n && !weB we n && !F n)) := hide rfl
  cases hd : dayB n
  · rw [hd] at HI HBU
    rw [HBU.out]
    clear hd
    go_enter Tryz.func22, Tryz.ntmps22
    go_wp2
    go_quiet (first | (go_at_call 32; exact Calls.quiet_of_same (HI.out _)))
    go_wp2
    go_ret
    exact ⟨rfl, below_drewN (Below.refl _ _) _⟩
  · rw [hd] at HI HBU
    obtain ⟨n1, n2⟩ := (dayB_iff n).1 hd
    clear hd
    have HW := hide (fun W : World => weekday_any n W n1 (by omega))
    obtain ⟨r, hr, hr7, hrn⟩ := wd_nat n
    rw [hr] at HW
    have hce := HC.out.ce r hr7
    have HWE : Hid (weB we n = we r) := by show _ = _; unfold weB; rw [hrn]
    rw [HWE.out] at HBU
    have hr8 : (r : Int) < 7 := by omega
    clear hr hrn
    cases hw : we r
    · rw [hw] at HBU hce
      rw [HBU.out]
      clear hw
      obtain ⟨nn, DD, ho, hF⟩ := HC.out.own
      have HF := hide (hF n)
      have hcm := HC.out.cm
      have HKEY := keyOf_int_mk Tryz.underlying3 (wf_day (n := n) (by omega) (by omega))
      have HO := hide ho
      clear hF ho
      go_enter Tryz.func22, Tryz.ntmps22
      go_wp2
      go_quiet (first | (go_at_call 32; exact Calls.quiet_of_same (HI.out _)) | (go_at_call 34; exact Calls.quiet_of_same (HW.out _)))
      go_wp2_with (first
        | (at_lookup; refine wpList_lookup_own_unit _ rfl _ _ 68 rfl 3 71 lawI Tryz.underlying68 (zeroU _) b nn DD rfl (owns_below HO.out (below_drewN (Below.refl _ _) _)) _ _ rfl HKEY ?_; rw [HF.out])
        | go_in)
      go_ret
      exact ⟨ret_b (by simp), (below_drewN (Below.refl _ _) _).alloc (Nat.le_refl _) _⟩
    · rw [hw] at HBU hce
      rw [HBU.out]
      clear hw
      go_enter Tryz.func22, Tryz.ntmps22
      go_wp2
      go_quiet (first | (go_at_call 32; exact Calls.quiet_of_same (HI.out _)) | (go_at_call 34; exact Calls.quiet_of_same (HW.out _)))
      go_wp2
      go_ret
      exact ⟨ret_b (by simp), below_drewN (Below.refl _ _) _⟩
end Go.Proofs.YtdfeehimnfogmaaGreatDoor
