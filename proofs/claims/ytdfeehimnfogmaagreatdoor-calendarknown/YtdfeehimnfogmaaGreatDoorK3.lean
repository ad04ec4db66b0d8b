/-
  My own text: what the closed law asks of calendars that are kept: its walk.
-/
import Derived.Test.YtdfeehimnfogmaaGreatDoorK2
import Derived.Test.YtdfeehimnfogmaaGreatDoorT1
import Derived.Test.YtdfeehimnfogmaaGreatDoorH1
namespace Go.Proofs.YtdfeehimnfogmaaGreatDoor
open Go.RowKit

theorem IA.other {w : World} {g n p i : Nat} {v : Value} (h : IA w g n) (hne : p ≠ g) : IA (w.setCell ⟨p, i, none⟩ v) g n :=
  ⟨by simpa using h.1, fun j hj => by
    obtain ⟨x, hx⟩ := h.2 j hj
    exact ⟨x, cell_apart hx (Or.inl hne)⟩⟩
def dcells (we : Nat → Bool) (s : Value) : Array Value := #[.bool (we 0), .bool (we 1), .bool (we 2), .bool (we 3), .bool (we 4), .bool (we 5), .bool (we 6), s]
def upd (we : Nat → Bool) (k : Nat) (b : Bool) (j : Nat) : Bool := if j = k then b else we j
theorem dcells_set (we : Nat → Bool) (s : Value) (k : Nat) (b : Bool) (hk : k < 7) : (dcells we s).setIfInBounds k (.bool b) = dcells (upd we k b) s := by
  match k, hk with
  | 0, _ => rfl
  | 1, _ => rfl
  | 2, _ => rfl
  | 3, _ => rfl
  | 4, _ => rfl
  | 5, _ => rfl
  | 6, _ => rfl
theorem dcells_at (we : Nat → Bool) (s : Value) (k : Nat) (hk : k < 7) : (dcells we s)[k]? = some (.bool (we k)) := by
  match k, hk with
  | 0, _ => rfl
  | 1, _ => rfl
  | 2, _ => rfl
  | 3, _ => rfl
  | 4, _ => rfl
  | 5, _ => rfl
  | 6, _ => rfl
theorem Tryz.sizeDays : (Tryz.prog.info? 50).map (·.size) = some 8 := by kernel_rfl
def freeL : List Int := [-5, 0, 1, 3, 3, 8, 738521, 3652058, 3652059, 3652060, 9223372036854775807]
theorem RI.new (w : World) (L : List Int) (t : TypeId) (c : Nat) : RI (w.alloc (.cells (L.map (Value.int .i64)).toArray t)) .i64 (.slice (some ⟨w.heap.size, 0, none⟩) L.length c) L := by
  have h := (MapKept.heap_alloc w (.cells (L.map (Value.int .i64)).toArray t)).1
  refine ⟨_, _, rfl, .inr ⟨w.heap.size, 0, rfl, by simp, fun j x hx => ?_⟩⟩
  unfold World.cell?
  rw [Nat.zero_add, h]
  have hj := (List.getElem?_eq_some_iff.1 hx).1
  simp [hx]
theorem RI.other {w : World} {K : IntKind} {g n c i p : Nat} {l : List Int} {v : Value} (h : RI w K (.slice (some ⟨g, 0, none⟩) n c) l) (hne : p ≠ g) : RI (w.setCell ⟨p, i, none⟩ v) K (.slice (some ⟨g, 0, none⟩) n c) l := by
  obtain ⟨a, cap, e, h | ⟨b, off, ha, hlt, hc⟩⟩ := h
  · exact ⟨a, cap, e, .inl h⟩
  · cases e; cases ha
    exact ⟨_, _, rfl, .inr ⟨g, 0, rfl, by simpa using hlt, fun j x hx => cell_apart (hc j x hx) (Or.inl hne)⟩⟩
theorem rcells {W : World} {D : Nat} {we : Nat → Bool} {v : Value} {t : TypeId} (h : Blk W D (dcells we v) t) :
    W.cell? ⟨D, 0, none⟩ = some (.bool (we 0)) ∧ W.cell? ⟨D, 1, none⟩ = some (.bool (we 1)) ∧ W.cell? ⟨D, 2, none⟩ = some (.bool (we 2)) ∧ W.cell? ⟨D, 3, none⟩ = some (.bool (we 3)) ∧ W.cell? ⟨D, 4, none⟩ = some (.bool (we 4)) ∧ W.cell? ⟨D, 5, none⟩ = some (.bool (we 5)) ∧ W.cell? ⟨D, 6, none⟩ = some (.bool (we 6)) ∧ W.cell? ⟨D, 7, none⟩ = some v :=
  ⟨h.cell 0, h.cell 1, h.cell 2, h.cell 3, h.cell 4, h.cell 5, h.cell 6, h.cell 7⟩
/-- A calendar and the document's beside it, that may be asked in every later world. -/
structure Held2 (w5 : World) (p b R : Nat) (we : Nat → Bool) (a : Option Addr) (n cap : Nat) (l : List Int) : Prop where
  lies : Lies w5
  len : l.length = n
  le : n ≤ 17592186044416
  cal : Cal w5 p b we (FL we l)
  ri : RI w5 .i64 (.slice a n cap) l
  blk : Blk w5 R (dcells we (.slice a n cap)) 51
theorem Held2.ask {w5 : World} {p b R : Nat} {we : Nat → Bool} {a : Option Addr} {n cap : Nat} {l : List Int} (h : Held2 w5 p b R we a n cap l) (o kd x y : Int) (W : World) (hW : Below w5.heap.size w5 W) (y1 : -9223372036854775808 ≤ y) (y2 : y ≤ 9223372036854775807) :
    Calls Tryz.prog 28 #[.pointer (some ⟨p, 0, none⟩), .agg #[.bool (we 0), .bool (we 1), .bool (we 2), .bool (we 3), .bool (we 4), .bool (we 5), .bool (we 6), .slice a n cap], .agg #[.int .i64 o, .int .i64 kd, .int .i64 x, .int .i64 y]] W fun e w' => e = .returned (.bool true) ∧ Below W.heap.size W w' := by
  obtain ⟨h1, rfl, h3, h4, h5, _⟩ := h
  exact asked_any p b we a cap l o kd x y W (h1.below hW) (hide (h4.later hW)) (hide (h5.later hW)) h3 y1 y2
theorem Held2.range {w5 : World} {p b R : Nat} {we : Nat → Bool} {a : Option Addr} {n cap : Nat} {l : List Int} (h : Held2 w5 p b R we a n cap l) (W : World) (hW : Below w5.heap.size w5 W) :
    W.rangeAt R 0 [.bool (we 0), .bool (we 1), .bool (we 2), .bool (we 3), .bool (we 4), .bool (we 5), .bool (we 6), .slice a n cap] := fun j v hv => by
  have hq := (h.blk.later hW).cell j
  rw [Nat.zero_add, hq]
  simpa [dcells] using hv
theorem wrap_b (x : Int) : -9223372036854775808 ≤ wrap64 x ∧ wrap64 x ≤ 9223372036854775807 := by unfold wrap64; omega
set_option maxRecDepth 100000 in
set_option maxHeartbeats 4000000 in
theorem kept_known (w : World) (hL : Lies w) :
    Calls Tryz.prog 8 #[] w fun e w' => e = .returned (.bool true) ∧ Below w.heap.size w w' := by
  have HL := hide hL
  clear hL
  go_enter Tryz.func8, Tryz.ntmps8
  go_wp2_with fail
  refine (far_any w).mono ?_
  rintro e w1 ⟨rfl, hia, hb1⟩
  have HI1 := hide hia
  have HB1 := hide hb1
  clear hia hb1
  go_wp2_with fail
  go_loopw [2] (fun m wr => ∃ t : Int, 0 ≤ t ∧ t ≤ 9 ∧ m = .int .i64 t ∧ Hid (Below w.heap.size w wr) ∧ Hid (IA wr w.heap.size 34)) (fun m _ => (9 - intOf m).toNat)
  case atStart => exact ⟨0, by omega, by omega, rfl, HB1, HI1⟩
  case round =>
    clear HB1 HI1
    obtain ⟨t, t0, t1, rfl, HB, HI⟩ := hrel
    by_cases htl : t < 9
    · have hd : decide (t < 9) = true := by rw [decide_eq_true_eq]; omega
      obtain ⟨w2, hw2⟩ : ∃ x, x = wr := ⟨_, rfl⟩
      subst hw2
      have HD0 : Hid (Blk (w2.alloc (.cells (dcells (fun _ => false) (.slice none 0 0)) 50)) w2.heap.size (dcells (fun _ => false) (.slice none 0 0)) 50) := hide (Blk.new _ _ _)
      have HB2 := hide (below_new HB.out (Nat.le_refl _) (.cells (dcells (fun _ => false) (.slice none 0 0)) 50))
      have HI2 := hide (HI.out.low ((Below.refl _ _).alloc (Nat.le_refl _) (.cells (dcells (fun _ => false) (.slice none 0 0)) 50)))
      have hDw : w.heap.size < w2.heap.size := HI.out.1
      clear HB HI
      go_wp2_with fail
      go_loopw [4] (fun m wr => ∃ (k : Nat) (we : Nat → Bool), k ≤ 7 ∧ m = .int .i64 k ∧ Hid (Below w.heap.size w wr) ∧ Hid (IA wr w.heap.size 34) ∧ Hid (Blk wr w2.heap.size (dcells we (.slice none 0 0)) 50)) (fun m _ => 7 - (intOf m).toNat)
      case atStart => exact ⟨0, fun _ => false, by omega, rfl, HB2, HI2, HD0⟩
      case round =>
        clear HB2 HI2 HD0
        obtain ⟨k, we, hk, rfl, HB, HI, HD⟩ := hrel
        by_cases hkl : k < 7
        · have hd2 : decide ((k : Int) < 7) = true := by rw [decide_eq_true_eq]; omega
          have hc : wr.cell? ⟨w2.heap.size, k, none⟩ = some (.bool (we k)) := (HD.out.cell k).trans (dcells_at we _ k hkl)
          have hf := HD.out.free k
          have HBs : Hid (∀ b : Bool, Below w.heap.size w (wr.setCell ⟨w2.heap.size, k, none⟩ (.bool b))) := hide (fun b => HB.out.setCell (p := ⟨w2.heap.size, k, none⟩) (Nat.le_of_lt hDw) _)
          have HIs : Hid (∀ b : Bool, IA (wr.setCell ⟨w2.heap.size, k, none⟩ (.bool b)) w.heap.size 34) := hide (fun b => HI.out.other (by omega))
          have HDs : Hid (∀ b : Bool, Blk (wr.setCell ⟨w2.heap.size, k, none⟩ (.bool b)) w2.heap.size (dcells (upd we k b) (.slice none 0 0)) 50) := hide (fun b => by have h := HD.out.set k (.bool b); rw [dcells_set _ _ _ _ hkl] at h; exact h)
          clear HB HI HD
          have hcase : t = 8 ∨ (t ≠ 8 ∧ t = (k : Int)) ∨ (t ≠ 8 ∧ t = (k : Int) + 1) ∨ (t ≠ 8 ∧ t ≠ (k : Int) ∧ t ≠ (k : Int) + 1) := by omega
          rcases hcase with rfl | ⟨h8, rfl⟩ | ⟨h8, rfl⟩ | ⟨h8, hk1, hk2⟩
          · go_wp2_with fail
            go_roundw
            case rel => exact ⟨k + 1, upd we k true, by omega, by go_num, hide (HBs.out true), hide (HIs.out true), hide (HDs.out true)⟩
            case measure => simp [intOf]; omega
          · have q1 : ((k : Int) == 8) = false := by simpa using h8
            clear h8
            go_wp2_with fail
            go_roundw
            case rel => exact ⟨k + 1, upd we k true, by omega, by go_num, hide (HBs.out true), hide (HIs.out true), hide (HDs.out true)⟩
            case measure => simp [intOf]; omega
          · have q1 : ((k : Int) + 1 == 8) = false := by simpa using h8
            have q2 : ((k : Int) == (k : Int) + 1) = false := by simp; omega
            clear h8
            go_wp2_with fail
            go_roundw
            case rel => exact ⟨k + 1, upd we k true, by omega, by go_num, hide (HBs.out true), hide (HIs.out true), hide (HDs.out true)⟩
            case measure => simp [intOf]; omega
          · have q1 : (t == 8) = false := by simpa using h8
            have q2 : ((k : Int) == t) = false := by simp; omega
            have q3 : ((k : Int) == t - 1) = false := by simp; omega
            clear h8 hk1 hk2
            go_wp2_with fail
            go_roundw
            case rel => exact ⟨k + 1, upd we k false, by omega, by go_num, hide (HBs.out false), hide (HIs.out false), hide (HDs.out false)⟩
            case measure => simp [intOf]; omega
        · have hk' : k = 7 := by omega
          subst hk'
          rw [show ((7 : Nat) : Int) = 7 from rfl]
          obtain ⟨w3, hw3⟩ : ∃ x, x = wr := ⟨_, rfl⟩
          subst hw3
          have hDl : w2.heap.size < w3.heap.size := HD.out.lt
          have b7 : w3.cell? ⟨w2.heap.size, 7, none⟩ = some (.slice none 0 0) := HD.out.cell 7
          have f7 := HD.out.free 7
          have HD' : Hid (Blk ((w3.setCell ⟨w2.heap.size, 7, none⟩ (.slice (some ⟨w3.heap.size, 0, none⟩) 11 11)).alloc (.cells #[.int .i64 (-5), .int .i64 0, .int .i64 1, .int .i64 3, .int .i64 3, .int .i64 8, .int .i64 738521, .int .i64 3652058, .int .i64 3652059, .int .i64 3652060, .int .i64 9223372036854775807] 3)) w2.heap.size (dcells we (.slice (some ⟨w3.heap.size, 0, none⟩) 11 11)) 50) := hide ((HD.out.set 7 _).alloc _)
          have HR' : Hid (RI ((w3.setCell ⟨w2.heap.size, 7, none⟩ (.slice (some ⟨w3.heap.size, 0, none⟩) 11 11)).alloc (.cells #[.int .i64 (-5), .int .i64 0, .int .i64 1, .int .i64 3, .int .i64 3, .int .i64 8, .int .i64 738521, .int .i64 3652058, .int .i64 3652059, .int .i64 3652060, .int .i64 9223372036854775807] 3)) .i64 (.slice (some ⟨w3.heap.size, 0, none⟩) 11 11) freeL) := hide (by have h := RI.new (w3.setCell ⟨w2.heap.size, 7, none⟩ (.slice (some ⟨w3.heap.size, 0, none⟩) 11 11)) freeL 3 11; rw [show (w3.setCell ⟨w2.heap.size, 7, none⟩ (.slice (some ⟨w3.heap.size, 0, none⟩) 11 11)).heap.size = w3.heap.size by simp] at h; exact h)
          have HB' : Hid (Below w.heap.size w ((w3.setCell ⟨w2.heap.size, 7, none⟩ (.slice (some ⟨w3.heap.size, 0, none⟩) 11 11)).alloc (.cells #[.int .i64 (-5), .int .i64 0, .int .i64 1, .int .i64 3, .int .i64 3, .int .i64 8, .int .i64 738521, .int .i64 3652058, .int .i64 3652059, .int .i64 3652060, .int .i64 9223372036854775807] 3))) := hide (below_new (HB.out.setCell (p := ⟨w2.heap.size, 7, none⟩) (Nat.le_of_lt hDw) _) (Nat.le_refl _) _)
          have HI' : Hid (IA ((w3.setCell ⟨w2.heap.size, 7, none⟩ (.slice (some ⟨w3.heap.size, 0, none⟩) 11 11)).alloc (.cells #[.int .i64 (-5), .int .i64 0, .int .i64 1, .int .i64 3, .int .i64 3, .int .i64 8, .int .i64 738521, .int .i64 3652058, .int .i64 3652059, .int .i64 3652060, .int .i64 9223372036854775807] 3)) w.heap.size 34) := hide ((HI.out.other (by omega)).low ((Below.refl _ _).alloc (Nat.le_refl _) _))
          have HH := hide (held_any we (some ⟨w3.heap.size, 0, none⟩) 11 freeL ((w3.setCell ⟨w2.heap.size, 7, none⟩ (.slice (some ⟨w3.heap.size, 0, none⟩) 11 11)).alloc (.cells #[.int .i64 (-5), .int .i64 0, .int .i64 1, .int .i64 3, .int .i64 3, .int .i64 8, .int .i64 738521, .int .i64 3652058, .int .i64 3652059, .int .i64 3652060, .int .i64 9223372036854775807] 3)) HR' (by decide) (by decide))
          clear HD HB HI hk hkl
          have c0 : ((w3.setCell ⟨w2.heap.size, 7, none⟩ (.slice (some ⟨w3.heap.size, 0, none⟩) 11 11)).alloc (.cells #[.int .i64 (-5), .int .i64 0, .int .i64 1, .int .i64 3, .int .i64 3, .int .i64 8, .int .i64 738521, .int .i64 3652058, .int .i64 3652059, .int .i64 3652060, .int .i64 9223372036854775807] 3)).cell? ⟨w2.heap.size, 0, none⟩ = some (.bool (we 0)) := HD'.out.cell 0
          have c1 : ((w3.setCell ⟨w2.heap.size, 7, none⟩ (.slice (some ⟨w3.heap.size, 0, none⟩) 11 11)).alloc (.cells #[.int .i64 (-5), .int .i64 0, .int .i64 1, .int .i64 3, .int .i64 3, .int .i64 8, .int .i64 738521, .int .i64 3652058, .int .i64 3652059, .int .i64 3652060, .int .i64 9223372036854775807] 3)).cell? ⟨w2.heap.size, 1, none⟩ = some (.bool (we 1)) := HD'.out.cell 1
          have c2 : ((w3.setCell ⟨w2.heap.size, 7, none⟩ (.slice (some ⟨w3.heap.size, 0, none⟩) 11 11)).alloc (.cells #[.int .i64 (-5), .int .i64 0, .int .i64 1, .int .i64 3, .int .i64 3, .int .i64 8, .int .i64 738521, .int .i64 3652058, .int .i64 3652059, .int .i64 3652060, .int .i64 9223372036854775807] 3)).cell? ⟨w2.heap.size, 2, none⟩ = some (.bool (we 2)) := HD'.out.cell 2
          have c3 : ((w3.setCell ⟨w2.heap.size, 7, none⟩ (.slice (some ⟨w3.heap.size, 0, none⟩) 11 11)).alloc (.cells #[.int .i64 (-5), .int .i64 0, .int .i64 1, .int .i64 3, .int .i64 3, .int .i64 8, .int .i64 738521, .int .i64 3652058, .int .i64 3652059, .int .i64 3652060, .int .i64 9223372036854775807] 3)).cell? ⟨w2.heap.size, 3, none⟩ = some (.bool (we 3)) := HD'.out.cell 3
          have c4 : ((w3.setCell ⟨w2.heap.size, 7, none⟩ (.slice (some ⟨w3.heap.size, 0, none⟩) 11 11)).alloc (.cells #[.int .i64 (-5), .int .i64 0, .int .i64 1, .int .i64 3, .int .i64 3, .int .i64 8, .int .i64 738521, .int .i64 3652058, .int .i64 3652059, .int .i64 3652060, .int .i64 9223372036854775807] 3)).cell? ⟨w2.heap.size, 4, none⟩ = some (.bool (we 4)) := HD'.out.cell 4
          have c5 : ((w3.setCell ⟨w2.heap.size, 7, none⟩ (.slice (some ⟨w3.heap.size, 0, none⟩) 11 11)).alloc (.cells #[.int .i64 (-5), .int .i64 0, .int .i64 1, .int .i64 3, .int .i64 3, .int .i64 8, .int .i64 738521, .int .i64 3652058, .int .i64 3652059, .int .i64 3652060, .int .i64 9223372036854775807] 3)).cell? ⟨w2.heap.size, 5, none⟩ = some (.bool (we 5)) := HD'.out.cell 5
          have c6 : ((w3.setCell ⟨w2.heap.size, 7, none⟩ (.slice (some ⟨w3.heap.size, 0, none⟩) 11 11)).alloc (.cells #[.int .i64 (-5), .int .i64 0, .int .i64 1, .int .i64 3, .int .i64 3, .int .i64 8, .int .i64 738521, .int .i64 3652058, .int .i64 3652059, .int .i64 3652060, .int .i64 9223372036854775807] 3)).cell? ⟨w2.heap.size, 6, none⟩ = some (.bool (we 6)) := HD'.out.cell 6
          have c7 : ((w3.setCell ⟨w2.heap.size, 7, none⟩ (.slice (some ⟨w3.heap.size, 0, none⟩) 11 11)).alloc (.cells #[.int .i64 (-5), .int .i64 0, .int .i64 1, .int .i64 3, .int .i64 3, .int .i64 8, .int .i64 738521, .int .i64 3652058, .int .i64 3652059, .int .i64 3652060, .int .i64 9223372036854775807] 3)).cell? ⟨w2.heap.size, 7, none⟩ = some (.slice (some ⟨w3.heap.size, 0, none⟩) 11 11) := HD'.out.cell 7
          go_wp2_with fail
          refine HH.out.mono ?_
          rintro e w4 ⟨⟨p, b, rfl, hcal⟩, hb4⟩
          have HQ : Hid (Held2 (w4.alloc (.cells (dcells we (.slice (some ⟨w3.heap.size, 0, none⟩) 11 11)) 51)) p b w4.heap.size we (some ⟨w3.heap.size, 0, none⟩) 11 11 freeL) := hide (by
            have h0 : Below w4.heap.size w4 (w4.alloc (.cells (dcells we (.slice (some ⟨w3.heap.size, 0, none⟩) 11 11)) 51)) := (Below.refl _ _).alloc (Nat.le_refl _) _
            exact ⟨HL.out.below (below_on (below_on HB'.out hb4 (Nat.le_refl _)) h0 (Nat.le_refl _)), rfl, by decide, hcal.later h0, (HR'.out.later hb4).later h0, Blk.new _ _ _⟩)
          have HB5 := hide (below_new (below_on HB'.out hb4 (Nat.le_refl _)) (Nat.le_refl _) (.cells (dcells we (.slice (some ⟨w3.heap.size, 0, none⟩) 11 11)) 51))
          have HI5 := hide ((HI'.out.low hb4).low ((Below.refl _ _).alloc (Nat.le_refl _) (.cells (dcells we (.slice (some ⟨w3.heap.size, 0, none⟩) 11 11)) 51)))
          clear HH HD' HR' HB' HI' hcal hb4 b7 f7 c0 c1 c2 c3 c4 c5 c6 c7
          rw [show freeL.length = 11 from rfl]
          by_cases ht8 : t = 8
          · subst ht8
            have hB0 : Below (w4.alloc (.cells (dcells we (.slice (some ⟨w3.heap.size, 0, none⟩) 11 11)) 51)).heap.size (w4.alloc (.cells (dcells we (.slice (some ⟨w3.heap.size, 0, none⟩) 11 11)) 51)) (w4.alloc (.cells (dcells we (.slice (some ⟨w3.heap.size, 0, none⟩) 11 11)) 51)) := Below.refl _ _
            go_wp2_with fail
            refine (HQ.out.ask _ _ _ _ _ hB0 (by decide) (by decide)).mono ?_
            rintro e v0 ⟨rfl, hb⟩
            have hB1 := below_on hB0 hb (Nat.le_refl _)
            clear hb
            obtain ⟨b0, b1, b2, b3, b4, b5, b6, b7⟩ := rcells (HQ.out.blk.later hB1)
            go_wp2_with fail
            clear b0 b1 b2 b3 b4 b5 b6 b7
            refine (HQ.out.ask _ _ _ _ _ hB1 (by decide) (by decide)).mono ?_
            rintro e v1 ⟨rfl, hb⟩
            have hB2 := below_on hB1 hb (Nat.le_refl _)
            clear hb
            obtain ⟨b0, b1, b2, b3, b4, b5, b6, b7⟩ := rcells (HQ.out.blk.later hB2)
            go_wp2_with fail
            clear b0 b1 b2 b3 b4 b5 b6 b7
            refine (HQ.out.ask _ _ _ _ _ hB2 (by decide) (by decide)).mono ?_
            rintro e v2 ⟨rfl, hb⟩
            have hB3 := below_on hB2 hb (Nat.le_refl _)
            clear hb
            obtain ⟨b0, b1, b2, b3, b4, b5, b6, b7⟩ := rcells (HQ.out.blk.later hB3)
            go_wp2_with fail
            clear b0 b1 b2 b3 b4 b5 b6 b7
            refine (HQ.out.ask _ _ _ _ _ hB3 (by decide) (by decide)).mono ?_
            rintro e v3 ⟨rfl, hb⟩
            have hB4 := below_on hB3 hb (Nat.le_refl _)
            clear hb
            obtain ⟨b0, b1, b2, b3, b4, b5, b6, b7⟩ := rcells (HQ.out.blk.later hB4)
            go_wp2_with fail
            clear b0 b1 b2 b3 b4 b5 b6 b7
            refine (HQ.out.ask _ _ _ _ _ hB4 (by decide) (by decide)).mono ?_
            rintro e v4 ⟨rfl, hb⟩
            have hB5 := below_on hB4 hb (Nat.le_refl _)
            clear hb
            obtain ⟨b0, b1, b2, b3, b4, b5, b6, b7⟩ := rcells (HQ.out.blk.later hB5)
            go_wp2_with fail
            clear b0 b1 b2 b3 b4 b5 b6 b7
            go_roundw
            case rel => exact ⟨9, by omega, by omega, rfl, hide (below_on HB5.out hB5 (Nat.le_refl _)), hide (HI5.out.low hB5)⟩
            case measure => simp [intOf]
          · have q8 : (t == 8) = false := by simpa using ht8
            go_wp2_with fail
            obtain ⟨w5, hw5⟩ : ∃ x, x = w4.alloc (.cells (dcells we (.slice (some ⟨w3.heap.size, 0, none⟩) 11 11)) 51) := ⟨_, rfl⟩
            rw [← hw5] at HQ HB5 HI5
            go_loopw [8] (fun i wr => ∃ k : Nat, k ≤ 34 ∧ i = .int .i64 k ∧ Hid (Below w5.heap.size w5 wr)) (fun i _ => 34 - (intOf i).toNat)
            case atStart => exact ⟨0, Nat.zero_le _, rfl, hide (by rw [hw5]; exact Below.refl _ _)⟩
            case round =>
              obtain ⟨k, hk, rfl, HB⟩ := hrel
              by_cases hkl : k < 34
              · have hd2 : decide ((k : Int) < 34) = true := by rw [decide_eq_true_eq]; omega
                go_wp2_with fail
                go_loopw [9] (fun m wr => ∃ s : Int, -2 ≤ s ∧ s ≤ 6 ∧ m = .int .i64 s ∧ Hid (Below w5.heap.size w5 wr)) (fun m _ => (6 - intOf m).toNat)
                case atStart => exact ⟨-2, by omega, by omega, rfl, HB⟩
                case round =>
                  clear HB
                  obtain ⟨s, s0, s1, rfl, HB⟩ := hrel
                  by_cases hsl : s < 6
                  · have hd3 : decide (s < 6) = true := by rw [decide_eq_true_eq]; omega
                    obtain ⟨x, hx⟩ := (HI5.out.low HB.out).2 k hkl
                    obtain ⟨b0, b1, b2, b3, b4, b5, b6, b7⟩ := rcells (HQ.out.blk.later HB.out)
                    by_cases hn : x < 100
                    · go_wp2_with fail
                      have HX0 : Hid (Below wr.heap.size wr wr.drew) := hide (Below.refl _ _).drew
                      have hlx : w.heap.size < wr.heap.size := (HI5.out.low HB.out).1
                      have HCX : Hid (∀ W, Below wr.heap.size wr W → W.cell? ⟨w.heap.size, k, none⟩ = some (.int .i64 x)) := hide (fun W hW => (hW.cell (p := ⟨w.heap.size, k, none⟩) hlx).trans hx)
                      clear hx b0 b1 b2 b3 b4 b5 b6 b7
                      haveI : Nonempty (GrowK wr) := ⟨⟨_, HX0.out⟩⟩
                      refine region_class (C := fun W => ∃ z : GrowK wr, W = z.1) (by kernel_rfl) (by kernel_rfl) ⟨⟨_, HX0.out⟩, rfl⟩ ?_
                      repeat (first
                        | go_big_quiet_skip
                        | (go_big_quiet_want; first
                            | (refine quiet_load 51 _ rfl w4.heap.size rfl [.bool (we 0), .bool (we 1), .bool (we 2), .bool (we 3), .bool (we 4), .bool (we 5), .bool (we 6), .slice (some ⟨w3.heap.size, 0, none⟩) 11 11] _ (fun W ⟨z, hz⟩ => by subst hz; exact HQ.out.range _ (below_on HB.out z.2 (Nat.le_refl _))) Tryz.underlying51 rfl Tryz.sizeRC ?_; simp only [Act.put, List.setIfInBounds_toArray, List.set_cons_zero, List.set_cons_succ]; go_big_quiet_on)
                            | (refine quiet_cell 3 _ rfl w.heap.size k rfl x (fun W ⟨z, hz⟩ => by subst hz; exact HCX.out _ z.2) Tryz.underlying3 ?_; simp only [Act.put, List.setIfInBounds_toArray, List.set_cons_zero, List.set_cons_succ]; go_big_quiet_on)
                            | (go_big_quiet_op; first
                                | go_big_quiet_on
                                | (apply Exists.intro; refine ⟨fun z => ?_, ?_⟩; (first
                                    | (go_at_call 28; exact z.call (HQ.out.ask _ _ _ _ z.1 (below_on HB.out z.2 (Nat.le_refl _)) (by first | omega | exact (wrap_b _).1) (by first | omega | exact (wrap_b _).2)))); go_big_quiet_on))))
                      refine wpQuiet_nil ?_
                      rintro w6 ⟨z, rfl⟩
                      obtain ⟨w6, hw6⟩ := z
                      dsimp only
                      have HB6 := hide (below_on HB.out hw6 (Nat.le_refl _))
                      clear HX0 this hw6 HB HCX
                      go_wp2_with fail
                      go_roundw
                      case rel => exact ⟨s + 1, by omega, by omega, by go_num, HB6⟩
                      case measure => simp [intOf]; omega
                    · by_cases hm : 3652000 < x
                      · go_wp2_with fail
                        have HX0 : Hid (Below wr.heap.size wr wr.drew) := hide (Below.refl _ _).drew
                        have hlx : w.heap.size < wr.heap.size := (HI5.out.low HB.out).1
                        have HCX : Hid (∀ W, Below wr.heap.size wr W → W.cell? ⟨w.heap.size, k, none⟩ = some (.int .i64 x)) := hide (fun W hW => (hW.cell (p := ⟨w.heap.size, k, none⟩) hlx).trans hx)
                        clear hx b0 b1 b2 b3 b4 b5 b6 b7
                        haveI : Nonempty (GrowK wr) := ⟨⟨_, HX0.out⟩⟩
                        refine region_class (C := fun W => ∃ z : GrowK wr, W = z.1) (by kernel_rfl) (by kernel_rfl) ⟨⟨_, HX0.out⟩, rfl⟩ ?_
                        repeat (first
                          | go_big_quiet_skip
                          | (go_big_quiet_want; first
                              | (refine quiet_load 51 _ rfl w4.heap.size rfl [.bool (we 0), .bool (we 1), .bool (we 2), .bool (we 3), .bool (we 4), .bool (we 5), .bool (we 6), .slice (some ⟨w3.heap.size, 0, none⟩) 11 11] _ (fun W ⟨z, hz⟩ => by subst hz; exact HQ.out.range _ (below_on HB.out z.2 (Nat.le_refl _))) Tryz.underlying51 rfl Tryz.sizeRC ?_; simp only [Act.put, List.setIfInBounds_toArray, List.set_cons_zero, List.set_cons_succ]; go_big_quiet_on)
                              | (refine quiet_cell 3 _ rfl w.heap.size k rfl x (fun W ⟨z, hz⟩ => by subst hz; exact HCX.out _ z.2) Tryz.underlying3 ?_; simp only [Act.put, List.setIfInBounds_toArray, List.set_cons_zero, List.set_cons_succ]; go_big_quiet_on)
                              | (go_big_quiet_op; first
                                  | go_big_quiet_on
                                  | (apply Exists.intro; refine ⟨fun z => ?_, ?_⟩; (first
                                      | (go_at_call 28; exact z.call (HQ.out.ask _ _ _ _ z.1 (below_on HB.out z.2 (Nat.le_refl _)) (by first | omega | exact (wrap_b _).1) (by first | omega | exact (wrap_b _).2)))); go_big_quiet_on))))
                        refine wpQuiet_nil ?_
                        rintro w6 ⟨z, rfl⟩
                        obtain ⟨w6, hw6⟩ := z
                        dsimp only
                        have HB6 := hide (below_on HB.out hw6 (Nat.le_refl _))
                        clear HX0 this hw6 HB HCX
                        go_wp2_with fail
                        go_roundw
                        case rel => exact ⟨s + 1, by omega, by omega, by go_num, HB6⟩
                        case measure => simp [intOf]; omega
                      · go_wp2_with fail
                        have HX0 : Hid (Below wr.heap.size wr wr.drew) := hide (Below.refl _ _).drew
                        have hlx : w.heap.size < wr.heap.size := (HI5.out.low HB.out).1
                        have HCX : Hid (∀ W, Below wr.heap.size wr W → W.cell? ⟨w.heap.size, k, none⟩ = some (.int .i64 x)) := hide (fun W hW => (hW.cell (p := ⟨w.heap.size, k, none⟩) hlx).trans hx)
                        clear hx b0 b1 b2 b3 b4 b5 b6 b7
                        haveI : Nonempty (GrowK wr) := ⟨⟨_, HX0.out⟩⟩
                        refine region_class (C := fun W => ∃ z : GrowK wr, W = z.1) (by kernel_rfl) (by kernel_rfl) ⟨⟨_, HX0.out⟩, rfl⟩ ?_
                        repeat (first
                          | go_big_quiet_skip
                          | (go_big_quiet_want; first
                              | (refine quiet_load 51 _ rfl w4.heap.size rfl [.bool (we 0), .bool (we 1), .bool (we 2), .bool (we 3), .bool (we 4), .bool (we 5), .bool (we 6), .slice (some ⟨w3.heap.size, 0, none⟩) 11 11] _ (fun W ⟨z, hz⟩ => by subst hz; exact HQ.out.range _ (below_on HB.out z.2 (Nat.le_refl _))) Tryz.underlying51 rfl Tryz.sizeRC ?_; simp only [Act.put, List.setIfInBounds_toArray, List.set_cons_zero, List.set_cons_succ]; go_big_quiet_on)
                              | (refine quiet_cell 3 _ rfl w.heap.size k rfl x (fun W ⟨z, hz⟩ => by subst hz; exact HCX.out _ z.2) Tryz.underlying3 ?_; simp only [Act.put, List.setIfInBounds_toArray, List.set_cons_zero, List.set_cons_succ]; go_big_quiet_on)
                              | (go_big_quiet_op; first
                                  | go_big_quiet_on
                                  | (apply Exists.intro; refine ⟨fun z => ?_, ?_⟩; (first
                                      | (go_at_call 28; exact z.call (HQ.out.ask _ _ _ _ z.1 (below_on HB.out z.2 (Nat.le_refl _)) (by first | omega | exact (wrap_b _).1) (by first | omega | exact (wrap_b _).2)))); go_big_quiet_on))))
                        refine wpQuiet_nil ?_
                        rintro w6 ⟨z, rfl⟩
                        obtain ⟨w6, hw6⟩ := z
                        dsimp only
                        have HB6 := hide (below_on HB.out hw6 (Nat.le_refl _))
                        clear HX0 this hw6 HB HCX
                        go_wp2_with fail
                        go_roundw
                        case rel => exact ⟨s + 1, by omega, by omega, by go_num, HB6⟩
                        case measure => simp [intOf]; omega
                  · have hs' : s = 6 := by omega
                    subst hs'
                    go_wp2_with fail
                    go_roundw
                    case rel => exact ⟨k + 1, by omega, by go_num, HB⟩
                    case measure => simp [intOf]; omega
              · have hk' : k = 34 := by omega
                subst hk'
                rw [show ((34 : Nat) : Int) = 34 from rfl]
                have hB0 := HB.out
                obtain ⟨b0, b1, b2, b3, b4, b5, b6, b7⟩ := rcells (HQ.out.blk.later hB0)
                go_wp2_with fail
                clear b0 b1 b2 b3 b4 b5 b6 b7
                refine (HQ.out.ask _ _ _ _ _ hB0 (by decide) (by decide)).mono ?_
                rintro e v0 ⟨rfl, hb⟩
                have hB1 := below_on hB0 hb (Nat.le_refl _)
                clear hb
                obtain ⟨b0, b1, b2, b3, b4, b5, b6, b7⟩ := rcells (HQ.out.blk.later hB1)
                go_wp2_with fail
                clear b0 b1 b2 b3 b4 b5 b6 b7
                refine (HQ.out.ask _ _ _ _ _ hB1 (by decide) (by decide)).mono ?_
                rintro e v1 ⟨rfl, hb⟩
                have hB2 := below_on hB1 hb (Nat.le_refl _)
                clear hb
                obtain ⟨b0, b1, b2, b3, b4, b5, b6, b7⟩ := rcells (HQ.out.blk.later hB2)
                go_wp2_with fail
                clear b0 b1 b2 b3 b4 b5 b6 b7
                refine (HQ.out.ask _ _ _ _ _ hB2 (by decide) (by decide)).mono ?_
                rintro e v2 ⟨rfl, hb⟩
                have hB3 := below_on hB2 hb (Nat.le_refl _)
                clear hb
                obtain ⟨b0, b1, b2, b3, b4, b5, b6, b7⟩ := rcells (HQ.out.blk.later hB3)
                go_wp2_with fail
                clear b0 b1 b2 b3 b4 b5 b6 b7
                go_roundw
                case rel => exact ⟨t + 1, by omega, by omega, by go_num, hide (below_on HB5.out hB3 (Nat.le_refl _)), hide (HI5.out.low hB3)⟩
                case measure => simp [intOf]; omega
    · have ht' : t = 9 := by omega
      subst ht'
      go_wp2_with fail
      go_ret
      exact ⟨rfl, HB.out⟩
end Go.Proofs.YtdfeehimnfogmaaGreatDoor
