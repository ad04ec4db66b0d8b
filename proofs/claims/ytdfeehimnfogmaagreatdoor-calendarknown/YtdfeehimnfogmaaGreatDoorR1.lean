/-
  My own text: the document's calendar: business days, counting, stepping.
-/
import Derived.Test.YtdfeehimnfogmaaGreatDoorW1
namespace Go.Proofs.YtdfeehimnfogmaaGreatDoor
open Go.RowKit

/-- The document's calendar in a variable. -/
structure Box (w : World) (q : Nat) (we : Nat → Bool) (ad : Option Addr) (n cap : Nat) : Prop where
  lt : q < w.heap.size
  ce : ∀ j, j < 7 → w.cell? ⟨q, j, none⟩ = some (.bool (we j))
  cs : w.cell? ⟨q, 7, none⟩ = some (.slice ad n cap)
theorem Box.later {w w' : World} {q : Nat} {we : Nat → Bool} {ad : Option Addr} {n cap : Nat} (h : Box w q we ad n cap) (hb : Below w.heap.size w w') : Box w' q we ad n cap := by
  obtain ⟨hc, _⟩ := bcell hb
  exact ⟨Nat.lt_of_lt_of_le h.lt hb.size, fun j hj => (hc _ _ h.lt).trans (h.ce j hj), (hc _ _ h.lt).trans h.cs⟩
theorem Box.new (w : World) (we : Nat → Bool) (ad : Option Addr) (n cap : Nat) (t : TypeId) : Box (w.alloc (.cells #[.bool (we 0), .bool (we 1), .bool (we 2), .bool (we 3), .bool (we 4), .bool (we 5), .bool (we 6), .slice ad n cap] t)) w.heap.size we ad n cap := by
  refine ⟨by simp, fun j hj => ?_, by simp⟩
  match j, hj with
  | 0, _ => simp
  | 1, _ => simp
  | 2, _ => simp
  | 3, _ => simp
  | 4, _ => simp
  | 5, _ => simp
  | 6, _ => simp
theorem bus_biz2 {we : Nat → Bool} {F : Int → Bool} {n : Int} (h : dayB n = true) : busB we F n = bizB we F n := by unfold busB bizB; rw [h]; simp
theorem contains_take {l : List Int} {k : Nat} {x n : Int} (h : l[k]? = some x) : (l.take (k + 1)).contains n = ((l.take k).contains n || n == x) := by
  rw [take_snoc h]
  by_cases e : n = x
  · subst e; simp
  · have e2 : (n == x) = false := by simpa using e
    rw [e2]; simp [e]
theorem contains_of {l : List Int} {k : Nat} {x : Int} (h : l[k]? = some x) : l.contains x = true := by
  have := List.mem_of_getElem? h
  simpa using this
theorem bus_of {we : Nat → Bool} {l : List Int} {n : Int} (hd : dayB n = true) (hw : weB we n = false) : busB we (FL we l) n = !l.contains n := by
  unfold busB FL; rw [hd, hw]; simp
set_option maxRecDepth 100000 in
set_option maxHeartbeats 1000000 in
theorem refBusiness_any (we : Nat → Bool) (ad : Option Addr) (cap : Nat) (l : List Int) (n : Int) (w : World) (HR : Hid (RI w .i64 (.slice ad l.length cap) l)) (hl : l.length ≤ 17592186044416) :
    Calls Tryz.prog 57 #[.agg #[.bool (we 0), .bool (we 1), .bool (we 2), .bool (we 3), .bool (we 4), .bool (we 5), .bool (we 6), .slice ad l.length cap], .int .i64 n] w fun e w' => e = .returned (.bool (busB we (FL we l) n)) ∧ Below w.heap.size w w' := by
  have HI := hide (fun W : World => refIs_any n W)
  have HB0 : Hid (Below w.heap.size w (w.alloc (.cells #[.bool (we 0), .bool (we 1), .bool (we 2), .bool (we 3), .bool (we 4), .bool (we 5), .bool (we 6), .slice ad l.length cap] 51))) := hide ((Below.refl _ _).alloc (Nat.le_refl _) _)
  have HBX := hide (Box.new w we ad l.length cap 51)
  cases hd : dayB n
  · have H : Hid (busB we (FL we l) n = false) := by show _ = _; unfold busB; rw [hd]; rfl
    rw [H.out]
    rw [hd] at HI
    clear hd
    go_enter Tryz.func57, Tryz.ntmps57
    go_wp2_with (go_at_call 67; refine (HI.out _).mono ?_; rintro e w' ⟨rfl, hw'⟩; have hw' := hw'.symm; subst hw')
    go_ret
    exact ⟨rfl, HB0.out⟩
  obtain ⟨n1, n2⟩ := (dayB_iff n).1 hd
  obtain ⟨r, hr, hr7, hrn⟩ := wd_nat n
  have HWE : Hid (weB we n = we r) := by show _ = _; unfold weB; rw [hrn]
  have hce := HBX.out.ce r hr7
  have hr8 : (r : Int) < 7 := by omega
  clear hrn
  cases hw : we r
  · have HBU := hide (bus_of (l := l) hd (HWE.out.trans hw))
    rw [HBU.out]
    rw [hd] at HI
    rw [hw] at hce
    clear hd hw
    obtain ⟨ad', cap', heq, hra⟩ := HR.out
    obtain ⟨rfl, _, rfl⟩ : ad = ad' ∧ l.length = l.length ∧ cap = cap' := by simpa using heq
    go_enter Tryz.func57, Tryz.ntmps57
    go_wp2_with (go_at_call 67; refine (HI.out _).mono ?_; rintro e w' ⟨rfl, hw'⟩; have hw' := hw'.symm; subst hw')
    go_loop [5] (fun i => ∃ k : Nat, k ≤ l.length ∧ i = .int .i64 k ∧ Hid ((l.take k).contains n = false)) (fun i => l.length - (intOf i).toNat)
    case atStart => exact ⟨0, Nat.zero_le _, rfl, hide rfl⟩
    case round =>
      obtain ⟨k, hk, rfl, HX⟩ := hrel
      by_cases hlt : k < l.length
      · obtain ⟨x, hx⟩ := some_at hlt
        rcases hra with h0 | ⟨bl, off, rfl, hbl, hc⟩
        · subst h0; simp at hlt
        have hcell := (HB0.out.cell (p := ⟨bl, off + k, none⟩) hbl).trans (hc k x hx)
        have HT := hide (contains_take (n := n) hx)
        have HCO := hide (contains_of hx)
        clear hc hx
        by_cases hxn : x = n
        · subst hxn
          have hq : (x == x) = true := by simp
          go_wp2
          go_ret
          exact ⟨ret_b (by have h := HCO.out; simp at h; simp [h]), HB0.out⟩
        · have hq : (x == n) = false := by simpa using hxn
          have hq2 : (n == x) = false := by simpa using (fun e : n = x => hxn e.symm)
          go_wp2
          go_round
          case rel => exact ⟨k + 1, by omega, by go_num, (show _ = _ by rw [HT.out, HX.out, hq2]; rfl)⟩
          case measure => simp [intOf]; omega
      · have e : k = l.length := by omega
        subst e
        have HZ : Hid (l.contains n = false) := by have h := HX.out; rw [List.take_length] at h; exact h
        go_wp2
        go_ret
        exact ⟨ret_b (by have h := HZ.out; simp at h; simp [h]), HB0.out⟩
  · have H : Hid (busB we (FL we l) n = false) := by show _ = _; unfold busB; rw [hd, HWE.out, hw]; rfl
    rw [H.out]
    rw [hd] at HI
    rw [hw] at hce
    clear hd hw
    go_enter Tryz.func57, Tryz.ntmps57
    go_wp2_with (go_at_call 67; refine (HI.out _).mono ?_; rintro e w' ⟨rfl, hw'⟩; have hw' := hw'.symm; subst hw')
    go_ret
    exact ⟨rfl, HB0.out⟩
end Go.Proofs.YtdfeehimnfogmaaGreatDoor
