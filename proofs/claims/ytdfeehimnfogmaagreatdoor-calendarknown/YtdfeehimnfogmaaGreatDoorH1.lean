/-
  My own text: a calendar of days that were lent.
-/
import Derived.Test.YtdfeehimnfogmaaGreatDoorIntsL
import Derived.Test.YtdfeehimnfogmaaGreatDoorR5
namespace Go.Proofs.YtdfeehimnfogmaaGreatDoor
open Go.RowKit

theorem Cal.set {w : World} {p b g : Nat} {we : Nat → Bool} {F : Int → Bool} (h : Cal w p b we F) (hp : g ≠ p) (hb : g ≠ b) (i : Nat) (u : Value) : Cal (w.setCell ⟨g, i, none⟩ u) p b we F := by
  obtain ⟨n, D, ho, hF⟩ := h.own
  exact ⟨by simpa using h.lt, fun j hj => cell_apart (h.ce j hj) (.inl hp), cell_apart h.cm (.inl hp), n, D, ho.setCell (fun e => hb e.symm) u, hF⟩
/-- Cells of whole numbers that may be written. -/
def Free (w : World) (g n : Nat) : Prop := g < w.heap.size ∧ ∀ j, j < n → (∃ x, w.cell? ⟨g, j, none⟩ = some (.int .i64 x)) ∧ w.frozen? ⟨g, j, none⟩ = false
theorem Free.set {w : World} {g n : Nat} (h : Free w g n) (i : Nat) (u : Int) : Free (w.setCell ⟨g, i, none⟩ (.int .i64 u)) g n := by
  refine ⟨by simpa using h.1, fun j hj => ⟨?_, by rw [World.frozen?_setCell]; exact (h.2 j hj).2⟩⟩
  obtain ⟨x, hx⟩ := (h.2 j hj).1
  by_cases e : i = j
  · subst e; exact ⟨u, World.cell?_setCell_same _ _ _ hx⟩
  · exact ⟨x, cell_apart hx (.inr e)⟩
theorem Lent.frees {w : World} {B g cap : Nat} {l : List Int} (h : Lent w B g cap l) : Free w g l.length :=
  ⟨h.lt, fun j hj => ⟨⟨l[j], h.cell j _ (by rw [List.getElem?_append_left hj, List.getElem?_eq_getElem hj])⟩, h.free j⟩⟩
theorem results_tmp_cell_tmp {fn : Func} {p u u' : Tmp} {ty : TypeId} (h : fn.results = #[.tmp u, .cell p ty, .tmp u']) (tmps : Array Value) (P : Program) (w : World) :
    (results fn tmps).run P w =
      ((asAddr (tmps.getD p undef)).run P w).andThen fun a w₁ => ((loadVar ty a).run P w₁).andThen fun v w₂ => .ok (.tuple #[tmps.getD u undef, v, tmps.getD u' undef]) w₂ := by
  simp only [results, h]
  simp [Sem.run_bind, Result.andThen]
theorem Blk.drew {w : World} {q : Nat} {cs : Array Value} {t : TypeId} (h : Blk w q cs t) : Blk w.drew q cs t := h
theorem held_end {w wr : World} {s p b : Nat} {we we' : Nat → Bool} {F : Int → Bool} {a : Option Addr} {n cap : Nat} (HR : Blk wr s #[.bool false, .bool false, .bool false, .bool false, .bool false, .bool false, .bool false, .slice none 0 0] 51) (HC : Cal wr p b we' F) (HB : Below w.heap.size w wr) (hp : s ≠ p) (hb : s ≠ b) (hs : w.heap.size ≤ s) :
    Blk ((((((((wr.setCell ⟨s, 0, none⟩ (.bool (we 0))).setCell ⟨s, 1, none⟩ (.bool (we 1))).setCell ⟨s, 2, none⟩ (.bool (we 2))).setCell ⟨s, 3, none⟩ (.bool (we 3))).setCell ⟨s, 4, none⟩ (.bool (we 4))).setCell ⟨s, 5, none⟩ (.bool (we 5))).setCell ⟨s, 6, none⟩ (.bool (we 6))).setCell ⟨s, 7, none⟩ (.slice a n cap)).drew s #[.bool (we 0), .bool (we 1), .bool (we 2), .bool (we 3), .bool (we 4), .bool (we 5), .bool (we 6), .slice a n cap] 51 ∧ Cal ((((((((wr.setCell ⟨s, 0, none⟩ (.bool (we 0))).setCell ⟨s, 1, none⟩ (.bool (we 1))).setCell ⟨s, 2, none⟩ (.bool (we 2))).setCell ⟨s, 3, none⟩ (.bool (we 3))).setCell ⟨s, 4, none⟩ (.bool (we 4))).setCell ⟨s, 5, none⟩ (.bool (we 5))).setCell ⟨s, 6, none⟩ (.bool (we 6))).setCell ⟨s, 7, none⟩ (.slice a n cap)).drew p b we' F ∧ Below w.heap.size w ((((((((wr.setCell ⟨s, 0, none⟩ (.bool (we 0))).setCell ⟨s, 1, none⟩ (.bool (we 1))).setCell ⟨s, 2, none⟩ (.bool (we 2))).setCell ⟨s, 3, none⟩ (.bool (we 3))).setCell ⟨s, 4, none⟩ (.bool (we 4))).setCell ⟨s, 5, none⟩ (.bool (we 5))).setCell ⟨s, 6, none⟩ (.bool (we 6))).setCell ⟨s, 7, none⟩ (.slice a n cap)).drew := by
  have r0 := HR.set 0 (.bool (we 0))
  have c0 := HC.set hp hb 0 (.bool (we 0))
  have b0 := HB.setCell (p := ⟨s, 0, none⟩) hs (.bool (we 0))
  have r1 := r0.set 1 (.bool (we 1))
  have c1 := c0.set hp hb 1 (.bool (we 1))
  have b1 := b0.setCell (p := ⟨s, 1, none⟩) hs (.bool (we 1))
  have r2 := r1.set 2 (.bool (we 2))
  have c2 := c1.set hp hb 2 (.bool (we 2))
  have b2 := b1.setCell (p := ⟨s, 2, none⟩) hs (.bool (we 2))
  have r3 := r2.set 3 (.bool (we 3))
  have c3 := c2.set hp hb 3 (.bool (we 3))
  have b3 := b2.setCell (p := ⟨s, 3, none⟩) hs (.bool (we 3))
  have r4 := r3.set 4 (.bool (we 4))
  have c4 := c3.set hp hb 4 (.bool (we 4))
  have b4 := b3.setCell (p := ⟨s, 4, none⟩) hs (.bool (we 4))
  have r5 := r4.set 5 (.bool (we 5))
  have c5 := c4.set hp hb 5 (.bool (we 5))
  have b5 := b4.setCell (p := ⟨s, 5, none⟩) hs (.bool (we 5))
  have r6 := r5.set 6 (.bool (we 6))
  have c6 := c5.set hp hb 6 (.bool (we 6))
  have b6 := b5.setCell (p := ⟨s, 6, none⟩) hs (.bool (we 6))
  have r7 := r6.set 7 (.slice a n cap)
  have c7 := c6.set hp hb 7 (.slice a n cap)
  have b7 := b6.setCell (p := ⟨s, 7, none⟩) hs (.slice a n cap)
  simp only [List.setIfInBounds_toArray, List.set_cons_zero, List.set_cons_succ] at r7
  exact ⟨r7.drew, c7.later (Below.refl _ _).drew, b7.drew⟩
theorem held_load {W : World} {s : Nat} {we : Nat → Bool} {a : Option Addr} {n cap : Nat} (h : Blk W s #[.bool (we 0), .bool (we 1), .bool (we 2), .bool (we 3), .bool (we 4), .bool (we 5), .bool (we 6), .slice a n cap] 51) : (loadVar 51 ⟨s, 0, none⟩).run Tryz.prog W = .ok (.agg #[.bool (we 0), .bool (we 1), .bool (we 2), .bool (we 3), .bool (we 4), .bool (we 5), .bool (we 6), .slice a n cap]) W :=
  run_loadVar_row (P := Tryz.prog) W s 51 51 _ (0, 0) _ h Tryz.underlying51 rfl Tryz.sizeCal
set_option maxRecDepth 100000 in
set_option maxHeartbeats 4000000 in
theorem held_any (we : Nat → Bool) (a : Option Addr) (cap : Nat) (l : List Int) (w : World) (HV : Hid (RI w .i64 (.slice a l.length cap) l)) (hl : l.length ≤ 17592186043904) (hb : ∀ x ∈ l, -9223372036854775808 ≤ x ∧ x ≤ 9223372036854775807) :
    Calls Tryz.prog 27 #[.agg #[.bool (we 0), .bool (we 1), .bool (we 2), .bool (we 3), .bool (we 4), .bool (we 5), .bool (we 6), .slice a l.length cap]] w fun e w' => (∃ p b, e = .returned (.tuple #[.pointer (some ⟨p, 0, none⟩), .agg #[.bool (we 0), .bool (we 1), .bool (we 2), .bool (we 3), .bool (we 4), .bool (we 5), .bool (we 6), .slice a l.length cap], .bool true]) ∧ Cal w' p b we (FL we l)) ∧ Below w.heap.size w w' := by
  have HB0 : Hid (Below w.heap.size w (((w.alloc (.cells #[.bool (we 0), .bool (we 1), .bool (we 2), .bool (we 3), .bool (we 4), .bool (we 5), .bool (we 6), .slice a l.length cap] 50)).alloc (.cells #[.bool false, .bool false, .bool false, .bool false, .bool false, .bool false, .bool false, .slice none 0 0] 51)).alloc (.cells #[.bool (we 0), .bool (we 1), .bool (we 2), .bool (we 3), .bool (we 4), .bool (we 5), .bool (we 6), .slice a l.length cap] 51))) := hide ((((Below.refl _ _).alloc (Nat.le_refl _) _).alloc (by simp) _).alloc (by simp; omega) _)
  have HD0 : Hid (Blk (((w.alloc (.cells #[.bool (we 0), .bool (we 1), .bool (we 2), .bool (we 3), .bool (we 4), .bool (we 5), .bool (we 6), .slice a l.length cap] 50)).alloc (.cells #[.bool false, .bool false, .bool false, .bool false, .bool false, .bool false, .bool false, .slice none 0 0] 51)).alloc (.cells #[.bool (we 0), .bool (we 1), .bool (we 2), .bool (we 3), .bool (we 4), .bool (we 5), .bool (we 6), .slice a l.length cap] 51)) w.heap.size #[.bool (we 0), .bool (we 1), .bool (we 2), .bool (we 3), .bool (we 4), .bool (we 5), .bool (we 6), .slice a l.length cap] 50) := hide (((Blk.new _ _ _).alloc _).alloc _)
  have HR0 : Hid (Blk (((w.alloc (.cells #[.bool (we 0), .bool (we 1), .bool (we 2), .bool (we 3), .bool (we 4), .bool (we 5), .bool (we 6), .slice a l.length cap] 50)).alloc (.cells #[.bool false, .bool false, .bool false, .bool false, .bool false, .bool false, .bool false, .slice none 0 0] 51)).alloc (.cells #[.bool (we 0), .bool (we 1), .bool (we 2), .bool (we 3), .bool (we 4), .bool (we 5), .bool (we 6), .slice a l.length cap] 51)) (w.heap.size + 1) #[.bool false, .bool false, .bool false, .bool false, .bool false, .bool false, .bool false, .slice none 0 0] 51) := by
    have h := (Blk.new (w.alloc (.cells #[.bool (we 0), .bool (we 1), .bool (we 2), .bool (we 3), .bool (we 4), .bool (we 5), .bool (we 6), .slice a l.length cap] 50)) #[.bool false, .bool false, .bool false, .bool false, .bool false, .bool false, .bool false, .slice none 0 0] 51).alloc (.cells #[.bool (we 0), .bool (we 1), .bool (we 2), .bool (we 3), .bool (we 4), .bool (we 5), .bool (we 6), .slice a l.length cap] 51)
    simp only [World.size_alloc] at h
    exact hide h
  have HX0 : Hid (Blk (((w.alloc (.cells #[.bool (we 0), .bool (we 1), .bool (we 2), .bool (we 3), .bool (we 4), .bool (we 5), .bool (we 6), .slice a l.length cap] 50)).alloc (.cells #[.bool false, .bool false, .bool false, .bool false, .bool false, .bool false, .bool false, .slice none 0 0] 51)).alloc (.cells #[.bool (we 0), .bool (we 1), .bool (we 2), .bool (we 3), .bool (we 4), .bool (we 5), .bool (we 6), .slice a l.length cap] 51)) (w.heap.size + 2) #[.bool (we 0), .bool (we 1), .bool (we 2), .bool (we 3), .bool (we 4), .bool (we 5), .bool (we 6), .slice a l.length cap] 51) := by
    have h := Blk.new ((w.alloc (.cells #[.bool (we 0), .bool (we 1), .bool (we 2), .bool (we 3), .bool (we 4), .bool (we 5), .bool (we 6), .slice a l.length cap] 50)).alloc (.cells #[.bool false, .bool false, .bool false, .bool false, .bool false, .bool false, .bool false, .slice none 0 0] 51)) #[.bool (we 0), .bool (we 1), .bool (we 2), .bool (we 3), .bool (we 4), .bool (we 5), .bool (we 6), .slice a l.length cap] 51
    simp only [World.size_alloc] at h
    exact hide h
  have HLT := hide (lentInts_any (.slice a l.length cap) l (((w.alloc (.cells #[.bool (we 0), .bool (we 1), .bool (we 2), .bool (we 3), .bool (we 4), .bool (we 5), .bool (we 6), .slice a l.length cap] 50)).alloc (.cells #[.bool false, .bool false, .bool false, .bool false, .bool false, .bool false, .bool false, .slice none 0 0] 51)).alloc (.cells #[.bool (we 0), .bool (we 1), .bool (we 2), .bool (we 3), .bool (we 4), .bool (we 5), .bool (we 6), .slice a l.length cap] 51)) (HV.out.later HB0.out) hl)
  go_enter Tryz.func27, Tryz.ntmps27
  go_wp2_with fail
  refine (HLT.out).mono ?_
  rintro e w1 ⟨g, gc, rfl, hlent, hb1⟩
  have HB1 := hide (HB0.out.trans (hb1.mono HB0.out.size))
  have HD1 := hide (HD0.out.later hb1)
  have HR1 := hide (HR0.out.later hb1)
  have HX1 := hide (HX0.out.later hb1)
  have HL1 := hide hlent
  have hgb : w.heap.size + 3 ≤ g := by have := hlent.base; simp at this; omega
  have hgl : g < w1.heap.size := hlent.lt
  clear hlent hb1 HB0 HD0 HR0 HX0 HLT
  have k0 : w1.cell? ⟨w.heap.size, 0, none⟩ = some (.bool (we 0)) := HD1.out.cell 0
  have k1 : w1.cell? ⟨w.heap.size, 1, none⟩ = some (.bool (we 1)) := HD1.out.cell 1
  have k2 : w1.cell? ⟨w.heap.size, 2, none⟩ = some (.bool (we 2)) := HD1.out.cell 2
  have k3 : w1.cell? ⟨w.heap.size, 3, none⟩ = some (.bool (we 3)) := HD1.out.cell 3
  have k4 : w1.cell? ⟨w.heap.size, 4, none⟩ = some (.bool (we 4)) := HD1.out.cell 4
  have k5 : w1.cell? ⟨w.heap.size, 5, none⟩ = some (.bool (we 5)) := HD1.out.cell 5
  have k6 : w1.cell? ⟨w.heap.size, 6, none⟩ = some (.bool (we 6)) := HD1.out.cell 6
  have k7 : w1.cell? ⟨w.heap.size, 7, none⟩ = some (.slice a l.length cap) := HD1.out.cell 7
  have HNW := hide (New_any we (.slice (some ⟨g, 0, none⟩) l.length gc) l w1 HL1.out.ri (by omega) hb)
  go_wp2_with fail
  refine (HNW.out).mono ?_
  rintro e w2 ⟨rfl, hcal, hb2⟩
  have HB2 := hide (HB1.out.trans (hb2.mono HB1.out.size))
  have HD2 := hide (HD1.out.later hb2)
  have HR2 := hide (HR1.out.later hb2)
  have HX2 := hide (HX1.out.later hb2)
  have HL2 := hide (HL1.out.later hb2)
  have HC2 := hide hcal
  clear hcal hb2 HB1 HD1 HR1 HX1 HL1 HNW k0 k1 k2 k3 k4 k5 k6 k7
  have k0 : w2.cell? ⟨w.heap.size, 0, none⟩ = some (.bool (we 0)) := HD2.out.cell 0
  have k1 : w2.cell? ⟨w.heap.size, 1, none⟩ = some (.bool (we 1)) := HD2.out.cell 1
  have k2 : w2.cell? ⟨w.heap.size, 2, none⟩ = some (.bool (we 2)) := HD2.out.cell 2
  have k3 : w2.cell? ⟨w.heap.size, 3, none⟩ = some (.bool (we 3)) := HD2.out.cell 3
  have k4 : w2.cell? ⟨w.heap.size, 4, none⟩ = some (.bool (we 4)) := HD2.out.cell 4
  have k5 : w2.cell? ⟨w.heap.size, 5, none⟩ = some (.bool (we 5)) := HD2.out.cell 5
  have k6 : w2.cell? ⟨w.heap.size, 6, none⟩ = some (.bool (we 6)) := HD2.out.cell 6
  have k7 : w2.cell? ⟨w.heap.size, 7, none⟩ = some (.slice a l.length cap) := HD2.out.cell 7
  have HKP := hide (keptInts_any g gc _ (.slice a l.length cap) l w2 HL2.out (HV.out.later HB2.out) hl)
  go_wp2_with (first
    | (go_at_call 56; refine (HKP.out).mono ?_; rintro e w' ⟨rfl, hw'⟩; have hw' := hw'.symm; subst hw'))
  clear HKP k0 k1 k2 k3 k4 k5 k6 k7
  go_loopw [8] (fun i wr => ∃ k : Nat, k ≤ l.length ∧ i = .int .i64 k ∧ Hid (Blk wr (w.heap.size + 1) #[.bool false, .bool false, .bool false, .bool false, .bool false, .bool false, .bool false, .slice none 0 0] 51) ∧ Hid (Blk wr (w.heap.size + 2) #[.bool (we 0), .bool (we 1), .bool (we 2), .bool (we 3), .bool (we 4), .bool (we 5), .bool (we 6), .slice a l.length cap] 51) ∧ Hid (Cal wr (w1.heap.size + 2) (w1.heap.size + 1) we (FL we l)) ∧ Hid (Free wr g l.length) ∧ Hid (Below w.heap.size w wr)) (fun i _ => l.length - (intOf i).toNat)
  case atStart => exact ⟨0, Nat.zero_le _, rfl, HR2, HX2, HC2, hide HL2.out.frees, HB2⟩
  case round =>
    clear HR2 HX2 HC2 HL2 HB2 HD2
    obtain ⟨k, hk, rfl, HR, HX, HC, HF, HB⟩ := hrel
    by_cases hlt : k < l.length
    · obtain ⟨⟨y, hy⟩, hfz⟩ := HF.out.2 k hlt
      go_wp2_with fail
      go_roundw
      case rel => exact ⟨k + 1, by omega, by go_num, hide (HR.out.other k _ (by omega)), hide (HX.out.other k _ (by omega)), hide (HC.out.set (by omega) (by omega) k _), hide (HF.out.set k _), hide (HB.out.setCell (p := ⟨g, k, none⟩) (by simp; omega) _)⟩
      case measure => simp [intOf]; omega
    · have e : k = l.length := by omega
      have k0 : wr.cell? ⟨w.heap.size + 1 + 1, 0, none⟩ = some (.bool (we 0)) := HX.out.cell 0
      have k1 : wr.cell? ⟨w.heap.size + 1 + 1, 1, none⟩ = some (.bool (we 1)) := HX.out.cell 1
      have k2 : wr.cell? ⟨w.heap.size + 1 + 1, 2, none⟩ = some (.bool (we 2)) := HX.out.cell 2
      have k3 : wr.cell? ⟨w.heap.size + 1 + 1, 3, none⟩ = some (.bool (we 3)) := HX.out.cell 3
      have k4 : wr.cell? ⟨w.heap.size + 1 + 1, 4, none⟩ = some (.bool (we 4)) := HX.out.cell 4
      have k5 : wr.cell? ⟨w.heap.size + 1 + 1, 5, none⟩ = some (.bool (we 5)) := HX.out.cell 5
      have k6 : wr.cell? ⟨w.heap.size + 1 + 1, 6, none⟩ = some (.bool (we 6)) := HX.out.cell 6
      have k7 : wr.cell? ⟨w.heap.size + 1 + 1, 7, none⟩ = some (.slice a l.length cap) := HX.out.cell 7
      have hs9 : w.heap.size + 2 < wr.heap.size := HX.out.lt
      have z0 : wr.cell? ⟨w.heap.size + 1, 0, none⟩ = some (.bool false) := HR.out.cell 0
      have f0 := HR.out.free 0
      have z1 : wr.cell? ⟨w.heap.size + 1, 1, none⟩ = some (.bool false) := HR.out.cell 1
      have f1 := HR.out.free 1
      have z2 : wr.cell? ⟨w.heap.size + 1, 2, none⟩ = some (.bool false) := HR.out.cell 2
      have f2 := HR.out.free 2
      have z3 : wr.cell? ⟨w.heap.size + 1, 3, none⟩ = some (.bool false) := HR.out.cell 3
      have f3 := HR.out.free 3
      have z4 : wr.cell? ⟨w.heap.size + 1, 4, none⟩ = some (.bool false) := HR.out.cell 4
      have f4 := HR.out.free 4
      have z5 : wr.cell? ⟨w.heap.size + 1, 5, none⟩ = some (.bool false) := HR.out.cell 5
      have f5 := HR.out.free 5
      have z6 : wr.cell? ⟨w.heap.size + 1, 6, none⟩ = some (.bool false) := HR.out.cell 6
      have f6 := HR.out.free 6
      have z7 : wr.cell? ⟨w.heap.size + 1, 7, none⟩ = some (.slice none 0 0) := HR.out.cell 7
      have f7 := HR.out.free 7
      subst e
      go_wp2_with fail
      go_region
      go_wp2_with fail
      clear z0 z1 z2 z3 z4 z5 z6 z7 f0 f1 f2 f3 f4 f5 f6 f7 k0 k1 k2 k3 k4 k5 k6 k7
      obtain ⟨h1, h2, h3⟩ := held_end (we := we) (a := a) (n := l.length) (cap := cap) HR.out HC.out HB.out (by omega) (by omega) (by omega)
      have hld := held_load h1
      generalize hWF : World.drew _ = WF at h1 h2 h3 hld ⊢
      clear hWF h1
      refine bodyPost_ret (v := .tuple #[.pointer (some ⟨w1.heap.size + 2, 0, none⟩), .agg #[.bool (we 0), .bool (we 1), .bool (we 2), .bool (we 3), .bool (we 4), .bool (we 5), .bool (we 6), .slice a l.length cap], .bool true]) ?_ rfl ⟨⟨_, _, rfl, h2⟩, h3⟩
      rw [results_tmp_cell_tmp rfl]
      clear h2 h3
      simp [asAddr, Result.andThen, hld]
end Go.Proofs.YtdfeehimnfogmaaGreatDoor
