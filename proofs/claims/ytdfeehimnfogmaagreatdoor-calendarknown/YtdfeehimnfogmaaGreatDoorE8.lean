/-
  My own text: a calendar is made: the program's.
-/
import Derived.Test.YtdfeehimnfogmaaGreatDoorE7
import Derived.Test.YtdfeehimnfogmaaGreatDoorLs
namespace Go.Proofs.YtdfeehimnfogmaaGreatDoor
open Go.RowKit Go.Maps

/-- The further free days that count. -/
def FL (we : Nat → Bool) (l : List Int) (x : Int) : Bool := l.contains x && (dayB x && !weB we x)
theorem FL_nil (we : Nat → Bool) (x : Int) : FL we [] x = false := rfl
theorem FL_skip (we : Nat → Bool) (l : List Int) (y x : Int) (h : (dayB y && !weB we y) = false) : FL we (l ++ [y]) x = FL we l x := by
  unfold FL
  by_cases e : x = y
  · subst e; rw [h]; simp
  · congr 1; simp [e]
theorem FL_take (we : Nat → Bool) (l : List Int) (y x : Int) (h : (dayB y && !weB we y) = true) : FL we (l ++ [y]) x = (FL we l x || x == y) := by
  unfold FL
  by_cases e : x = y
  · subst e; rw [h]; simp
  · have e2 : (x == y) = false := by simpa using e
    rw [e2]; simp [e]
/-- The loop's relation: S: the heap's size at the start; the week's box, the calendar, the map. -/
structure RelN (S : Nat) (we : Nat → Bool) (l : List Int) (k : Nat) (w : World) : Prop where
  size : S + 3 ≤ w.heap.size
  box : ∀ j, j < 7 → w.cell? ⟨S, j, none⟩ = some (.bool (we j))
  ce : ∀ j, j < 7 → w.cell? ⟨S + 2, j, none⟩ = some (.bool (we j))
  cm : w.cell? ⟨S + 2, 7, none⟩ = some (.map (some (S + 1)))
  own : ∃ (n : Nat) (D : DataW Unit), n ≤ k ∧ w.ownsMap Tryz.prog 3 unitElem (S + 1) n D ∧ ∀ x, Maps.has D (.int .i64 x) = FL we (l.take k) x
theorem take_snoc {l : List Int} {k : Nat} {x : Int} (h : l[k]? = some x) : l.take (k + 1) = l.take k ++ [x] := by
  rw [List.take_add_one, h]; rfl
theorem RelN.skip {S : Nat} {we : Nat → Bool} {l : List Int} {k : Nat} {w : World} {x : Int} (h : RelN S we l k w) (hx : l[k]? = some x) (hn : (dayB x && !weB we x) = false) : RelN S we l (k + 1) w := by
  obtain ⟨n, D, h1, h2, h3⟩ := h.own
  exact ⟨h.size, h.box, h.ce, h.cm, n, D, by omega, h2, fun y => by rw [take_snoc hx, FL_skip we _ _ _ hn]; exact h3 y⟩
theorem RelN.put {S : Nat} {we : Nat → Bool} {l : List Int} {k n : Nat} {w w' : World} {x : Int} {D : DataW Unit} (h : RelN S we l k w) (hx : l[k]? = some x) (hn : (dayB x && !weB we x) = true) (hnk : n ≤ k)
    (ho : w.ownsMap Tryz.prog 3 unitElem (S + 1) n D) (hD : ∀ x, Maps.has D (.int .i64 x) = FL we (l.take k) x) (ho' : w'.ownsMap Tryz.prog 3 unitElem (S + 1) (n + 1) (D.put (.int .i64 x) (.agg []))) (hg : w.grownBy w' (some (S + 1))) : RelN S we l (k + 1) w' := by
  have hs := h.size
  refine ⟨Nat.le_trans hs hg.size, fun j hj => hg.cell (h.box j hj) (by simp), fun j hj => hg.cell (h.ce j hj) (by simp), hg.cell h.cm (by simp), n + 1, _, by omega, ho', fun y => ?_⟩
  rw [take_snoc hx, FL_take we _ _ _ hn, ← hD]
  by_cases e : y = x
  · subst e; rw [has_put_same (k := .int .i64 y) ho.isMap trivial]; simp
  · rw [has_put_other (by intro q; cases q; exact e rfl)]
    have e2 : (y == x) = false := by simpa using e
    rw [e2]; simp
theorem cal_new (W : World) (we : Nat → Bool) (m : Nat) : (∀ j, j < 7 → (W.alloc (.cells #[.bool (we 0), .bool (we 1), .bool (we 2), .bool (we 3), .bool (we 4), .bool (we 5), .bool (we 6), .map (some m)] 70)).cell? ⟨W.heap.size, j, none⟩ = some (.bool (we j))) ∧ (W.alloc (.cells #[.bool (we 0), .bool (we 1), .bool (we 2), .bool (we 3), .bool (we 4), .bool (we 5), .bool (we 6), .map (some m)] 70)).cell? ⟨W.heap.size, 7, none⟩ = some (.map (some m)) := by
  refine ⟨fun j hj => ?_, by simp⟩
  match j, hj with
  | 0, _ => simp
  | 1, _ => simp
  | 2, _ => simp
  | 3, _ => simp
  | 4, _ => simp
  | 5, _ => simp
  | 6, _ => simp
set_option maxRecDepth 100000 in
set_option maxHeartbeats 2000000 in
theorem New_any (we : Nat → Bool) (v : Value) (l : List Int) (w : World) (hv : RI w .i64 v l) (hl : l.length ≤ 17592186044416) (hb : ∀ x ∈ l, -9223372036854775808 ≤ x ∧ x ≤ 9223372036854775807) :
    Calls Tryz.prog 42 #[.agg #[.bool (we 0), .bool (we 1), .bool (we 2), .bool (we 3), .bool (we 4), .bool (we 5), .bool (we 6)], v] w fun e w' => e = .returned (.pointer (some ⟨w.heap.size + 2, 0, none⟩)) ∧ Cal w' (w.heap.size + 2) (w.heap.size + 1) we (FL we l) ∧ Below w.heap.size w w' := by
  obtain ⟨a, cap, rfl, hr⟩ := hv
  have hmm := @run_makeMap Tryz.prog
  have HB0 : Hid (Below w.heap.size w (((w.alloc (.cells #[.bool (we 0), .bool (we 1), .bool (we 2), .bool (we 3), .bool (we 4), .bool (we 5), .bool (we 6)] 48)).alloc (.map #[] 0)).alloc (.cells #[.bool (we 0), .bool (we 1), .bool (we 2), .bool (we 3), .bool (we 4), .bool (we 5), .bool (we 6), .map (some (w.heap.size + 1))] 70))) :=
    hide ((((Below.refl _ _).alloc (Nat.le_refl _) _).alloc (by simp) _).alloc (by simp; omega) _)
  have hz : ((w.alloc (.cells #[.bool (we 0), .bool (we 1), .bool (we 2), .bool (we 3), .bool (we 4), .bool (we 5), .bool (we 6)] 48)).alloc (.map #[] 0)).heap.size = w.heap.size + 2 := by simp
  have HR0 : Hid (RelN w.heap.size we l 0 (((w.alloc (.cells #[.bool (we 0), .bool (we 1), .bool (we 2), .bool (we 3), .bool (we 4), .bool (we 5), .bool (we 6)] 48)).alloc (.map #[] 0)).alloc (.cells #[.bool (we 0), .bool (we 1), .bool (we 2), .bool (we 3), .bool (we 4), .bool (we 5), .bool (we 6), .map (some (w.heap.size + 1))] 70))) := by
    refine hide ⟨by simp, ?_, ?_, ?_, 0, .map [], Nat.le_refl _, ?_, fun x => rfl⟩
    · intro j hj
      have h0 : ((w.alloc (.cells #[.bool (we 0), .bool (we 1), .bool (we 2), .bool (we 3), .bool (we 4), .bool (we 5), .bool (we 6)] 48)).alloc (.map #[] 0)).cell? ⟨w.heap.size, j, none⟩ = some (.bool (we j)) := by
        rw [World.cell?_alloc_lt _ _ ⟨w.heap.size, j, none⟩ (by simp)]
        match j, hj with
        | 0, _ => simp
        | 1, _ => simp
        | 2, _ => simp
        | 3, _ => simp
        | 4, _ => simp
        | 5, _ => simp
        | 6, _ => simp
      rw [World.cell?_alloc_lt _ _ ⟨w.heap.size, j, none⟩ (by simp; omega)]; exact h0
    · intro j hj
      have h := (cal_new ((w.alloc (.cells #[.bool (we 0), .bool (we 1), .bool (we 2), .bool (we 3), .bool (we 4), .bool (we 5), .bool (we 6)] 48)).alloc (.map #[] 0)) we (w.heap.size + 1)).1 j hj
      rw [hz] at h; exact h
    · have h := (cal_new ((w.alloc (.cells #[.bool (we 0), .bool (we 1), .bool (we 2), .bool (we 3), .bool (we 4), .bool (we 5), .bool (we 6)] 48)).alloc (.map #[] 0)) we (w.heap.size + 1)).2
      rw [hz] at h; exact h
    · have h := World.ownsMap_made (w.alloc (.cells #[.bool (we 0), .bool (we 1), .bool (we 2), .bool (we 3), .bool (we 4), .bool (we 5), .bool (we 6)] 48)) Tryz.prog 3 (unitElem (H := Unit))
      have h2 := h.alloc (.cells #[.bool (we 0), .bool (we 1), .bool (we 2), .bool (we 3), .bool (we 4), .bool (we 5), .bool (we 6), .map (some (w.heap.size + 1))] 70)
      simpa using h2
  clear hz
  go_enter Tryz.func42, Tryz.ntmps42
  go_wp2
  go_loopw [14] (fun i wr => ∃ k : Nat, k ≤ l.length ∧ i = .int .i64 k ∧ Hid (RelN w.heap.size we l k wr) ∧ Hid (Below w.heap.size w wr)) (fun i _ => l.length - (intOf i).toNat)
  case atStart => exact ⟨0, Nat.zero_le _, rfl, HR0, HB0⟩
  case round =>
    clear HR0 HB0
    obtain ⟨k, hk, rfl, HR, HB⟩ := hrel
    by_cases hlt : k < l.length
    · obtain ⟨x, hx⟩ := some_at hlt
      obtain ⟨x1, x2⟩ := hb x (List.mem_of_getElem? hx)
      rcases hr with h0 | ⟨bl, off, rfl, hbl, hc⟩
      · subst h0; simp at hlt
      have hcell := (HB.out.cell (p := ⟨bl, off + k, none⟩) hbl).trans (hc k x hx)
      have HI := hide (fun W : World => isDay_any x W)
      clear hc
      cases hd : dayB x
      · have HN := hide (show (dayB x && !weB we x) = false by rw [hd]; rfl)
        rw [hd] at HI
        clear hd
        go_wp2_with (first
          | (go_at_call 32; refine (HI.out _).mono ?_; rintro e w' ⟨rfl, hw'⟩; have hw' := hw'.symm; subst hw'))
        go_roundw
        case rel => exact ⟨k + 1, by omega, by go_num, hide (HR.out.skip hx HN.out), HB⟩
        case measure => simp [intOf]; omega
      · obtain ⟨n1, n2⟩ := (dayB_iff x).1 hd
        rw [hd] at HI
        have HW := hide (fun W : World => weekday_any x W n1 (by omega))
        obtain ⟨r, hrr, hr7, hrn⟩ := wd_nat x
        rw [hrr] at HW
        have hr8 : (r : Int) < 7 := by omega
        have HWE : Hid (weB we x = we r) := by show _ = _; unfold weB; rw [hrn]
        have hbox := HR.out.box r hr7
        clear hrr hrn
        cases hw : we r
        · have HN := hide (show (dayB x && !weB we x) = true by rw [hd, HWE.out, hw]; rfl)
          rw [hw] at hbox
          obtain ⟨n, D, hnk, ho, hD⟩ := HR.out.own
          have HO := hide ho
          have hcm := HR.out.cm
          have HKEY := keyOf_int_mk Tryz.underlying3 (wf_day (n := x) x1 x2)
          clear hd hw ho
          go_wp2_with (first
            | (go_at_call 32; refine (HI.out _).mono ?_; rintro e w' ⟨rfl, hw'⟩; have hw' := hw'.symm; subst hw')
            | (go_at_call 34; refine (HW.out _).mono ?_; rintro e w' ⟨rfl, hw'⟩; have hw' := hw'.symm; subst hw')
            | (at_mapUpdate; refine wpList_mapUpdate_own _ rfl _ _ _ 68 rfl 3 71 lawI Tryz.underlying68 (unitElem (H := Unit)) (w.heap.size + 1) n D rfl HO.out (by unfold maxLen; omega) _ _ _ rfl rfl HKEY _ [] unitElem_mk ?_; intro w1 hown1 hgrow1)
            | go_in)
          go_roundw
          case rel => exact ⟨k + 1, by omega, by go_num, hide (HR.out.put hx HN.out hnk HO.out hD hown1 hgrow1), hide (HB.out.grown hgrow1 HB.out.size (fun j hj => by cases hj; omega))⟩
          case measure => simp [intOf]; omega
        · have HN := hide (show (dayB x && !weB we x) = false by rw [hd, HWE.out, hw]; rfl)
          rw [hw] at hbox
          clear hd hw
          go_wp2_with (first
            | (go_at_call 32; refine (HI.out _).mono ?_; rintro e w' ⟨rfl, hw'⟩; have hw' := hw'.symm; subst hw')
            | (go_at_call 34; refine (HW.out _).mono ?_; rintro e w' ⟨rfl, hw'⟩; have hw' := hw'.symm; subst hw'))
          go_roundw
          case rel => exact ⟨k + 1, by omega, by go_num, hide (HR.out.skip hx HN.out), HB⟩
          case measure => simp [intOf]; omega
    · have e : k = l.length := by omega
      subst e
      go_wp2
      go_ret
      obtain ⟨n, D, _, h2, h3⟩ := HR.out.own
      have hs := HR.out.size
      exact ⟨rfl, ⟨by omega, HR.out.ce, HR.out.cm, n, D, h2, fun y => by rw [h3 y, List.take_length]⟩, HB.out⟩
end Go.Proofs.YtdfeehimnfogmaaGreatDoor
