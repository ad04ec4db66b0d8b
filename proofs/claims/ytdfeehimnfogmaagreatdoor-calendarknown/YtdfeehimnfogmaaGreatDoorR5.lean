/-
  My own text: the document's Target.
-/
import Derived.Test.YtdfeehimnfogmaaGreatDoorR1
import Derived.Test.YtdfeehimnfogmaaGreatDoorE9
import Derived.Test.YtdfeehimnfogmaaGreatDoorD8
import Derived.Laws.CopyOwn
namespace Go.Proofs.YtdfeehimnfogmaaGreatDoor
open Go.RowKit

def ryear (y : Int) : List Int := [easterI y - 2, easterI y + 1, numI y 1 1, numI y 5 1, numI y 12 25, numI y 12 26]
def rlist (a : Int) : Nat → List Int
  | 0 => []
  | n + 1 => rlist a n ++ ryear (a + n)
theorem rlist_len (a : Int) : ∀ n, (rlist a n).length = 6 * n
  | 0 => rfl
  | n + 1 => by show (rlist a n ++ ryear (a + n)).length = _; rw [List.length_append, rlist_len a n]; show 6 * n + 6 = _; omega
theorem rlist_same (a x : Int) : ∀ n, (rlist a n).contains x = (tlist a n).contains x
  | 0 => rfl
  | n + 1 => by
    show (rlist a n ++ ryear (a + n)).contains x = (tlist a n ++ tyear (a + n)).contains x
    have h := rlist_same a x n
    have e1 : ∀ (p q : List Int), (p ++ q).contains x = (p.contains x || q.contains x) := by intro p q; simp
    rw [e1, e1, h]
    congr 1
    simp only [ryear, tyear, List.contains_cons, List.contains_nil]
    cases x == easterI (a + n) - 2 <;> cases x == easterI (a + n) + 1 <;> cases x == numI (a + n) 1 1 <;> simp
theorem FL_same (we : Nat → Bool) (a : Int) (n : Nat) : FL we (rlist a n) = FL we (tlist a n) := by
  funext x; unfold FL; rw [rlist_same]
theorem Tryz.sizeCal : (Tryz.prog.info? 51).map (·.size) = some 8 := by kernel_rfl
/-- A block of cells, none frozen. -/
def Blk (w : World) (q : Nat) (cs : Array Value) (t : TypeId) : Prop := w.heap[q]? = some (.cells cs t (0, 0))
theorem Blk.lt {w : World} {q : Nat} {cs : Array Value} {t : TypeId} (h : Blk w q cs t) : q < w.heap.size := by
  by_cases hc : q < w.heap.size
  · exact hc
  · unfold Blk at h; rw [Array.getElem?_eq_none (by omega)] at h; cases h
theorem Blk.below {w w' : World} {B q : Nat} {cs : Array Value} {t : TypeId} (h : Blk w q cs t) (hb : Below B w w') (hq : q < B) : Blk w' q cs t := (hb.block q hq).trans h
theorem Blk.later {w w' : World} {q : Nat} {cs : Array Value} {t : TypeId} (h : Blk w q cs t) (hb : Below w.heap.size w w') : Blk w' q cs t := h.below hb h.lt
theorem Blk.alloc {w : World} {q : Nat} {cs : Array Value} {t : TypeId} (h : Blk w q cs t) (o : Obj) : Blk (w.alloc o) q cs t := h.later ((Below.refl _ _).alloc (Nat.le_refl _) _)
theorem Blk.new (w : World) (cs : Array Value) (t : TypeId) : Blk (w.alloc (.cells cs t)) w.heap.size cs t := (MapKept.heap_alloc w (.cells cs t)).1
theorem Blk.other {w : World} {q : Nat} {cs : Array Value} {t : TypeId} (h : Blk w q cs t) {p : Nat} (i : Nat) (u : Value) (hne : q ≠ p) : Blk (w.setCell ⟨p, i, none⟩ u) q cs t := by
  unfold Blk; rw [Below.heap_setCell _ _ _ _ hne]; exact h
theorem Blk.cell {w : World} {q : Nat} {cs : Array Value} {t : TypeId} (h : Blk w q cs t) (j : Nat) : w.cell? ⟨q, j, none⟩ = cs[j]? := by
  unfold Blk at h; simp [World.cell?, h]
theorem Blk.free {w : World} {q : Nat} {cs : Array Value} {t : TypeId} (h : Blk w q cs t) (j : Nat) : w.frozen? ⟨q, j, none⟩ = false := by
  unfold Blk at h; simp [World.frozen?, h]
theorem Blk.set {w : World} {q : Nat} {cs : Array Value} {t : TypeId} (h : Blk w q cs t) (j : Nat) (u : Value) : Blk (w.setCell ⟨q, j, none⟩ u) q (cs.setIfInBounds j u) t := by
  have hlt := h.lt
  have h' : w.heap[q] = .cells cs t (0, 0) := by unfold Blk at h; simpa [Array.getElem?_eq_getElem hlt] using h
  unfold Blk
  show (w.heap.modify q _)[q]? = _
  rw [Array.getElem?_eq_getElem (by simpa using hlt), Array.getElem_modify_self, h']
  rfl
theorem Blk.kept {w w' : World} {row : Option Nat} {e t : TypeId} {b : Nat} {cs : Array Value} (h : Blk w b cs t) (hg : w.grownBy w' row) (hrow : ∀ g, row = some g → ∃ c fz, w.heap[g]? = some (.cells c e fz)) (hne : e ≠ t) : Blk w' b cs t := by
  unfold Blk
  rw [hg.block b h.lt ?_]; exact h
  intro hr
  obtain ⟨c, fz', hc⟩ := hrow b hr.symm
  unfold Blk at h
  rw [h] at hc
  cases hc
  exact hne rfl
theorem ownKind {w : World} {B n : Nat} {e : TypeId} {v : Value} {xs : List Value} (h : w.ownsRow B e 1 v n xs) : ∀ g, v.ownBlock = some g → ∃ c fz, w.heap[g]? = some (.cells c e fz) := by
  intro g hg
  rcases h.2 with ⟨rfl, _⟩ | ⟨g', cap, cur, rfl, hb, hh, h3⟩
  · cases hg
  · cases hg; exact ⟨cur, (0, 0), hh⟩
theorem own_slice {w : World} {B n : Nat} {e : TypeId} {v : Value} {l : List Int} (h : w.ownsRow B e 1 v n (lv .i64 l)) : ∃ ad cap, v = .slice ad n cap := by
  rcases h.2 with ⟨rfl, h0⟩ | ⟨g, cap, cur, rfl, _⟩
  · subst h0; exact ⟨none, 0, rfl⟩
  · exact ⟨_, cap, rfl⟩
set_option maxRecDepth 100000 in
set_option maxHeartbeats 4000000 in
theorem refTarget_bad (x y : Int) (w : World) (h : taE x y ≠ 0) :
    Calls Tryz.prog 61 #[.int .i64 x, .int .i64 y] w fun e w' => e = .returned (.tuple #[.agg #[.bool false, .bool false, .bool false, .bool false, .bool false, .bool false, .bool false, .slice none 0 0], .int .i64 (taE x y)]) ∧ Below w.heap.size w w' := by
  have HTE : Hid (taE x y = if yearB x = false ∨ yearB y = false then 8 else if y < x then 1 else 0) := hide rfl
  by_cases a1 : x < 1
  · rw [if_pos (.inl (by cases hh : yearB x <;> first | rfl | (have := (yearB_iff x).1 hh; omega)))] at HTE
    rw [HTE.out]
    go_enter Tryz.func61, Tryz.ntmps61
    go_wp2
    exact bodyPost_ret (v := .tuple #[.agg #[.bool false, .bool false, .bool false, .bool false, .bool false, .bool false, .bool false, .slice none 0 0], .int .i64 8]) (by simp [results, Tryz.results61, go_sem]) rfl ⟨rfl, (Below.refl _ _).alloc (Nat.le_refl _) _⟩
  by_cases a2 : 9999 < x
  · rw [if_pos (.inl (by cases hh : yearB x <;> first | rfl | (have := (yearB_iff x).1 hh; omega)))] at HTE
    rw [HTE.out]
    go_enter Tryz.func61, Tryz.ntmps61
    go_wp2
    exact bodyPost_ret (v := .tuple #[.agg #[.bool false, .bool false, .bool false, .bool false, .bool false, .bool false, .bool false, .slice none 0 0], .int .i64 8]) (by simp [results, Tryz.results61, go_sem]) rfl ⟨rfl, (Below.refl _ _).alloc (Nat.le_refl _) _⟩
  by_cases b1 : y < 1
  · rw [if_pos (.inr (by cases hh : yearB y <;> first | rfl | (have := (yearB_iff y).1 hh; omega)))] at HTE
    rw [HTE.out]
    go_enter Tryz.func61, Tryz.ntmps61
    go_wp2
    exact bodyPost_ret (v := .tuple #[.agg #[.bool false, .bool false, .bool false, .bool false, .bool false, .bool false, .bool false, .slice none 0 0], .int .i64 8]) (by simp [results, Tryz.results61, go_sem]) rfl ⟨rfl, (Below.refl _ _).alloc (Nat.le_refl _) _⟩
  by_cases b2 : 9999 < y
  · rw [if_pos (.inr (by cases hh : yearB y <;> first | rfl | (have := (yearB_iff y).1 hh; omega)))] at HTE
    rw [HTE.out]
    go_enter Tryz.func61, Tryz.ntmps61
    go_wp2
    exact bodyPost_ret (v := .tuple #[.agg #[.bool false, .bool false, .bool false, .bool false, .bool false, .bool false, .bool false, .slice none 0 0], .int .i64 8]) (by simp [results, Tryz.results61, go_sem]) rfl ⟨rfl, (Below.refl _ _).alloc (Nat.le_refl _) _⟩
  rw [yearB_yes (by omega) (by omega), yearB_yes (by omega) (by omega), if_neg (by simp)] at HTE
  by_cases hc : y < x
  · rw [if_pos hc] at HTE
    rw [HTE.out]
    go_enter Tryz.func61, Tryz.ntmps61
    go_wp2
    exact bodyPost_ret (v := .tuple #[.agg #[.bool false, .bool false, .bool false, .bool false, .bool false, .bool false, .bool false, .slice none 0 0], .int .i64 1]) (by simp [results, Tryz.results61, go_sem]) rfl ⟨rfl, (Below.refl _ _).alloc (Nat.le_refl _) _⟩
  · rw [if_neg hc] at HTE; exact absurd HTE.out h
set_option maxRecDepth 100000 in
set_option maxHeartbeats 4000000 in
theorem refTarget_ok (x y : Int) (w : World) (x1 : 1 ≤ x) (xy : x ≤ y) (y2 : y ≤ 9999) :
    Calls Tryz.prog 61 #[.int .i64 x, .int .i64 y] w fun e w' => (∃ v, e = .returned (.tuple #[.agg #[.bool false, .bool false, .bool false, .bool false, .bool false, .bool true, .bool true, v], .int .i64 0]) ∧ RI w' .i64 v (rlist x (y - x + 1).toNat)) ∧ Below w.heap.size w w' := by
  obtain ⟨N, HNE⟩ : ∃ N : Nat, Hid ((y - x + 1).toNat = N) := ⟨_, hide rfl⟩
  have hN : x + (N : Int) = y + 1 := by have := HNE.out; omega
  rw [HNE.out]
  obtain ⟨i0, hi, hz0, hz1, hz2⟩ := info_parts Tryz.infoI
  have HB0 : Hid (Below w.heap.size w ((w.alloc (.cells #[.bool false, .bool false, .bool false, .bool false, .bool false, .bool false, .bool false, .slice none 0 0] 51)).alloc (.cells #[.bool false, .bool false, .bool false, .bool false, .bool false, .bool true, .bool true, .slice none 0 0] 51))) := hide (((Below.refl _ _).alloc (Nat.le_refl _) _).alloc (by simp) _)
  have HR0 : Hid (Blk ((w.alloc (.cells #[.bool false, .bool false, .bool false, .bool false, .bool false, .bool false, .bool false, .slice none 0 0] 51)).alloc (.cells #[.bool false, .bool false, .bool false, .bool false, .bool false, .bool true, .bool true, .slice none 0 0] 51)) w.heap.size #[.bool false, .bool false, .bool false, .bool false, .bool false, .bool false, .bool false, .slice none 0 0] 51) := hide ((Blk.new _ _ _).alloc _)
  have HX0 : Hid (Blk ((w.alloc (.cells #[.bool false, .bool false, .bool false, .bool false, .bool false, .bool false, .bool false, .slice none 0 0] 51)).alloc (.cells #[.bool false, .bool false, .bool false, .bool false, .bool false, .bool true, .bool true, .slice none 0 0] 51)) (w.heap.size + 1) #[.bool false, .bool false, .bool false, .bool false, .bool false, .bool true, .bool true, .slice none 0 0] 51) := by
    have h := Blk.new (w.alloc (.cells #[.bool false, .bool false, .bool false, .bool false, .bool false, .bool false, .bool false, .slice none 0 0] 51)) #[.bool false, .bool false, .bool false, .bool false, .bool false, .bool true, .bool true, .slice none 0 0] 51
    simp only [World.size_alloc] at h
    exact hide h
  have HO0 : Hid (((w.alloc (.cells #[.bool false, .bool false, .bool false, .bool false, .bool false, .bool false, .bool false, .slice none 0 0] 51)).alloc (.cells #[.bool false, .bool false, .bool false, .bool false, .bool false, .bool true, .bool true, .slice none 0 0] 51)).ownsRow (w.heap.size + 2) 3 1 (.slice none 0 0) (6 * 0) (lv .i64 (rlist x 0))) := hide (World.ownsRow_nil _ _ _ _)
  go_enter Tryz.func61, Tryz.ntmps61
  go_wp2_with fail
  go_loopw [7] (fun i wr => ∃ (k : Nat) (v : Value), k ≤ N ∧ i = .int .i64 (x + k) ∧ Hid (Blk wr w.heap.size #[.bool false, .bool false, .bool false, .bool false, .bool false, .bool false, .bool false, .slice none 0 0] 51) ∧ Hid (Blk wr (w.heap.size + 1) #[.bool false, .bool false, .bool false, .bool false, .bool false, .bool true, .bool true, v] 51) ∧ Hid (wr.ownsRow (w.heap.size + 2) 3 1 v (6 * k) (lv .i64 (rlist x k))) ∧ Hid (Below w.heap.size w wr)) (fun i _ => (y + 1 - intOf i).toNat)
  case atStart => exact ⟨0, .slice none 0 0, Nat.zero_le _, by simp, HR0, HX0, HO0, HB0⟩
  case round =>
    clear HR0 HX0 HO0 HB0
    obtain ⟨k, v, hk, rfl, HR, HX, HO, HB⟩ := hrel
    obtain ⟨ad, cap, rfl⟩ := own_slice HO.out
    by_cases hlt : k < N
    · have hle : x + (k : Int) ≤ y := by omega
      obtain ⟨z, HZ⟩ : ∃ z, Hid (x + (k : Int) = z) := ⟨_, hide rfl⟩
      have z1 : 1 ≤ z := by have := HZ.out; omega
      have z2 : z ≤ 9999 := by have := HZ.out; omega
      have HTS : Hid (rlist x (k + 1) = rlist x k ++ ryear z) := by show rlist x k ++ ryear (x + k) = _; rw [HZ.out]
      have hzk := HZ.out
      rw [HZ.out] at hle ⊢
      have HEA := hide (fun W : World => refEaster_any z W)
      rw [(ea_ok (yearB_yes z1 z2)).1, (ea_ok (yearB_yes z1 z2)).2] at HEA
      obtain ⟨e0, e9⟩ := easterI_b z1 z2
      have HTY : Hid (ryear z = [easterI z - 2, easterI z + 1, numI z 1 1, numI z 5 1, numI z 12 25, numI z 12 26]) := hide rfl
      obtain ⟨ea, HEE⟩ : ∃ ea, Hid (easterI z = ea) := ⟨_, hide rfl⟩
      rw [HEE.out] at HEA HTY e0 e9
      go_wp2_with fail
      refine (HEA.out _).mono ?_
      rintro e w1 ⟨rfl, hb1⟩
      have HB1 := hide (HB.out.trans (hb1.mono HB.out.size))
      have HO1 := hide (own_later HO.out hb1)
      have HR1 := hide (HR.out.later hb1)
      have HX1 := hide (HX.out.later hb1)
      clear hb1 HB HO HR HX
      have b7 : w1.cell? ⟨w.heap.size + 1, 7, none⟩ = some (.slice ad (6 * k) cap) := HX1.out.cell 7
      have hs1 : w.heap.size + 1 < w1.heap.size := HX1.out.lt
      go_wp2_with (first
        | (at_builtin; refine wpList_append_own _ rfl _ _ 40 rfl _ 3 i0 (.int .i64 0) 1 8 Tryz.underlying40 hi hz0 hz1 hz2 rfl (by decide) _ _ _ rfl (HO1.out.alloc _) ⟨_, 0, none⟩ 2 2 [.int .i64 (ea - 2), .int .i64 (ea + 1)] rfl rfl ?c1 ?c2 ?c3 ?c4 ?c5 ?_)
        | go_in)
      case c1 =>
        intro j u hj
        match j, hj with
        | 0, hj => simp at hj; subst hj; simp [Addr.add]
        | 1, hj => simp at hj; subst hj; simp [Addr.add]
      case c2 => first | exact ⟨rfl, rfl⟩ | (intro u hu; simp at hu; rcases hu with rfl | rfl <;> rfl)
      case c3 => unfold maxLen; omega
      case c4 => omega
      case c5 => simp; omega
      intro v2 w2 hown2 hgrow2 _
      have HB2 := hide ((HB1.out.alloc HB1.out.size (.cells #[.int .i64 (ea - 2), .int .i64 (ea + 1)] 3)).grown hgrow2 (by simp; omega) (fun j hj => by have := (HO1.out.lt j hj).1; omega))
      have HR2 := hide ((HR1.out.alloc (.cells #[.int .i64 (ea - 2), .int .i64 (ea + 1)] 3)).kept hgrow2 (ownKind (HO1.out.alloc _)) (by decide))
      have HX2 := hide ((HX1.out.alloc (.cells #[.int .i64 (ea - 2), .int .i64 (ea + 1)] 3)).kept hgrow2 (ownKind (HO1.out.alloc _)) (by decide))
      have HO2 : Hid (w2.ownsRow (w.heap.size + 2) 3 1 v2 (6 * k + 2) (lv .i64 (rlist x k ++ [ea - 2, ea + 1]))) := by rw [lv_app]; exact hide hown2
      obtain ⟨ad2, cap2, rfl⟩ := own_slice HO2.out
      clear hown2 hgrow2 HB1 HO1 HR1 HX1 b7
      have b7 := HX2.out.cell 7
      have f7 := HX2.out.free 7
      simp at b7
      have hs2 : w.heap.size + 1 < w2.heap.size := HX2.out.lt
      obtain ⟨q1, q2, q3, q4⟩ := right_days z1
      have HN0 := hide (fun W : World => refNumber_any z 1 1 W)
      have ok0 := num_ok ((rightB_iff z 1 1).2 ⟨q1, z2⟩)
      rw [ok0.1, ok0.2] at HN0
      obtain ⟨d0, HD0⟩ : ∃ d, Hid (numI z 1 1 = d) := ⟨_, hide rfl⟩
      rw [HD0.out] at HN0 HTY
      unfold dateV at HN0
      clear ok0
      have HN1 := hide (fun W : World => refNumber_any z 5 1 W)
      have ok1 := num_ok ((rightB_iff z 5 1).2 ⟨q2, z2⟩)
      rw [ok1.1, ok1.2] at HN1
      obtain ⟨d1, HD1⟩ : ∃ d, Hid (numI z 5 1 = d) := ⟨_, hide rfl⟩
      rw [HD1.out] at HN1 HTY
      unfold dateV at HN1
      clear ok1
      have HN2 := hide (fun W : World => refNumber_any z 12 25 W)
      have ok2 := num_ok ((rightB_iff z 12 25).2 ⟨q3, z2⟩)
      rw [ok2.1, ok2.2] at HN2
      obtain ⟨d2, HD2⟩ : ∃ d, Hid (numI z 12 25 = d) := ⟨_, hide rfl⟩
      rw [HD2.out] at HN2 HTY
      unfold dateV at HN2
      clear ok2
      have HN3 := hide (fun W : World => refNumber_any z 12 26 W)
      have ok3 := num_ok ((rightB_iff z 12 26).2 ⟨q4, z2⟩)
      rw [ok3.1, ok3.2] at HN3
      obtain ⟨d3, HD3⟩ : ∃ d, Hid (numI z 12 26 = d) := ⟨_, hide rfl⟩
      rw [HD3.out] at HN3 HTY
      unfold dateV at HN3
      clear ok3
      have HL3 : Hid (Blk ((w2.setCell ⟨w.heap.size + 1, 7, none⟩ (.slice ad2 (6 * k + 2) cap2)).alloc (.cells #[.int .i64 0, .int .i64 1, .int .i64 1, .int .i64 0, .int .i64 5, .int .i64 1, .int .i64 0, .int .i64 12, .int .i64 25, .int .i64 0, .int .i64 12, .int .i64 26] 25)) w2.heap.size #[.int .i64 0, .int .i64 1, .int .i64 1, .int .i64 0, .int .i64 5, .int .i64 1, .int .i64 0, .int .i64 12, .int .i64 25, .int .i64 0, .int .i64 12, .int .i64 26] 25) := by
        have h := Blk.new (w2.setCell ⟨w.heap.size + 1, 7, none⟩ (.slice ad2 (6 * k + 2) cap2)) #[.int .i64 0, .int .i64 1, .int .i64 1, .int .i64 0, .int .i64 5, .int .i64 1, .int .i64 0, .int .i64 12, .int .i64 25, .int .i64 0, .int .i64 12, .int .i64 26] 25
        rw [show (w2.setCell ⟨w.heap.size + 1, 7, none⟩ (.slice ad2 (6 * k + 2) cap2)).heap.size = w2.heap.size by simp] at h
        exact hide h
      have HR3 := hide ((HR2.out.other (p := w.heap.size + 1) 7 (.slice ad2 (6 * k + 2) cap2) (by omega)).alloc (.cells #[.int .i64 0, .int .i64 1, .int .i64 1, .int .i64 0, .int .i64 5, .int .i64 1, .int .i64 0, .int .i64 12, .int .i64 25, .int .i64 0, .int .i64 12, .int .i64 26] 25))
      have HX3 := hide ((HX2.out.set 7 (.slice ad2 (6 * k + 2) cap2)).alloc (.cells #[.int .i64 0, .int .i64 1, .int .i64 1, .int .i64 0, .int .i64 5, .int .i64 1, .int .i64 0, .int .i64 12, .int .i64 25, .int .i64 0, .int .i64 12, .int .i64 26] 25))
      simp only [List.setIfInBounds_toArray, List.set_cons_zero, List.set_cons_succ] at HX3
      have HO3 := hide ((ownsRow_setCell_below HO2.out (a := ⟨w.heap.size + 1, 7, none⟩) (by simp) (.slice ad2 (6 * k + 2) cap2)).alloc (.cells #[.int .i64 0, .int .i64 1, .int .i64 1, .int .i64 0, .int .i64 5, .int .i64 1, .int .i64 0, .int .i64 12, .int .i64 25, .int .i64 0, .int .i64 12, .int .i64 26] 25))
      have HB3 := hide ((HB2.out.setCell (p := ⟨w.heap.size + 1, 7, none⟩) (by simp) (.slice ad2 (6 * k + 2) cap2)).alloc (by simp; omega) (.cells #[.int .i64 0, .int .i64 1, .int .i64 1, .int .i64 0, .int .i64 5, .int .i64 1, .int .i64 0, .int .i64 12, .int .i64 25, .int .i64 0, .int .i64 12, .int .i64 26] 25))
      go_wp2_with fail
      clear HR2 HX2 HO2 HB2 b7 f7
      go_loopw [61] (fun i wr => ∃ (j : Nat) (v : Value), j ≤ 4 ∧ i = .int .i64 (j : Int) ∧ Hid (Blk wr w.heap.size #[.bool false, .bool false, .bool false, .bool false, .bool false, .bool false, .bool false, .slice none 0 0] 51) ∧ Hid (Blk wr (w.heap.size + 1) #[.bool false, .bool false, .bool false, .bool false, .bool false, .bool true, .bool true, v] 51) ∧ Hid (Blk wr w2.heap.size #[.int .i64 0, .int .i64 1, .int .i64 1, .int .i64 0, .int .i64 5, .int .i64 1, .int .i64 0, .int .i64 12, .int .i64 25, .int .i64 0, .int .i64 12, .int .i64 26] 25) ∧ Hid (wr.ownsRow (w.heap.size + 2) 3 1 v (6 * k + 2 + j) (lv .i64 (rlist x k ++ [ea - 2, ea + 1] ++ [d0, d1, d2, d3].take j))) ∧ Hid (Below w.heap.size w wr)) (fun i _ => (4 - intOf i).toNat)
      case atStart => exact ⟨0, .slice ad2 (6 * k + 2) cap2, by omega, rfl, HR3, HX3, HL3, by simpa using HO3, HB3⟩
      case round =>
        clear HR3 HX3 HL3 HO3 HB3
        obtain ⟨j, v, hj, rfl, HR, HX, HL, HO, HB⟩ := hrel
        obtain ⟨ad, cap, rfl⟩ := own_slice HO.out
        have hs3 : w.heap.size + 1 < wr.heap.size := HX.out.lt
        have hj5 : j = 0 ∨ j = 1 ∨ j = 2 ∨ j = 3 ∨ j = 4 := by omega
        rcases hj5 with rfl | rfl | rfl | rfl | rfl
        · rw [show ((0 : Nat) : Int) = 0 from rfl]
          have l0 : wr.cell? ⟨w2.heap.size, 0, none⟩ = some (.int .i64 0) := HL.out.cell 0
          have l1 : wr.cell? ⟨w2.heap.size, 1, none⟩ = some (.int .i64 1) := HL.out.cell 1
          have l2 : wr.cell? ⟨w2.heap.size, 2, none⟩ = some (.int .i64 1) := HL.out.cell 2
          have hl3 := HL.out.lt
          go_wp2_with fail
          refine (HN0.out _).mono ?_
          rintro e w4 ⟨rfl, hb4⟩
          have hb5 : Below wr.heap.size wr w4 := ((Below.refl _ _).alloc (Nat.le_refl _) (.cells #[.int .i64 z, .int .i64 1, .int .i64 1] 25)).trans (hb4.mono (by simp))
          have HB4 := hide (HB.out.trans (hb5.mono HB.out.size))
          have HO4 := hide (own_later HO.out hb5)
          have HR4 := hide (HR.out.later hb5)
          have HX4 := hide (HX.out.later hb5)
          have HL4 := hide (HL.out.later hb5)
          clear hb4 hb5 HB HO HR HX HL l0 l1 l2
          have b7 : w4.cell? ⟨w.heap.size + 1, 7, none⟩ = some (.slice ad (6 * k + 2 + 0) cap) := HX4.out.cell 7
          have hs4 : w.heap.size + 1 < w4.heap.size := HX4.out.lt
          go_wp2_with (first
            | (at_builtin; refine wpList_append_own _ rfl _ _ 40 rfl _ 3 i0 (.int .i64 0) 1 8 Tryz.underlying40 hi hz0 hz1 hz2 rfl (by decide) _ _ _ rfl (HO4.out.alloc _) ⟨_, 0, none⟩ 1 1 [.int .i64 d0] rfl rfl ?c1 ?c2 ?c3 ?c4 ?c5 ?_)
            | go_in)
          case c1 =>
            intro j u hj
            match j, hj with
            | 0, hj => simp at hj; subst hj; simp [Addr.add]
          case c2 => first | exact rfl | (intro u hu; simp at hu; subst hu; rfl)
          case c3 => unfold maxLen; omega
          case c4 => omega
          case c5 => simp; omega
          intro v5 w5 hown5 hgrow5 _
          have HB5 := hide ((HB4.out.alloc HB4.out.size (.cells #[.int .i64 d0] 3)).grown hgrow5 (by simp; omega) (fun j hj => by have := (HO4.out.lt j hj).1; omega))
          have HR5 := hide ((HR4.out.alloc (.cells #[.int .i64 d0] 3)).kept hgrow5 (ownKind (HO4.out.alloc _)) (by decide))
          have HX5 := hide ((HX4.out.alloc (.cells #[.int .i64 d0] 3)).kept hgrow5 (ownKind (HO4.out.alloc _)) (by decide))
          have HL5 := hide ((HL4.out.alloc (.cells #[.int .i64 d0] 3)).kept hgrow5 (ownKind (HO4.out.alloc _)) (by decide))
          have HO5 : Hid (w5.ownsRow (w.heap.size + 2) 3 1 v5 (6 * k + 2 + 1) (lv .i64 (rlist x k ++ [ea - 2, ea + 1] ++ [d0, d1, d2, d3].take 1))) := by
            rw [show rlist x k ++ [ea - 2, ea + 1] ++ [d0, d1, d2, d3].take 1 = (rlist x k ++ [ea - 2, ea + 1]) ++ [d0] by simp, lv_app]
            exact hide hown5
          obtain ⟨ad5, cap5, rfl⟩ := own_slice HO5.out
          clear hown5 hgrow5 HB4 HO4 HR4 HX4 HL4 b7
          have b7 := HX5.out.cell 7
          have f7 := HX5.out.free 7
          simp at b7
          have hs5 : w.heap.size + 1 < w5.heap.size := HX5.out.lt
          have HX6 := hide (HX5.out.set 7 (.slice ad5 (6 * k + 2 + 1) cap5))
          simp only [List.setIfInBounds_toArray, List.set_cons_zero, List.set_cons_succ] at HX6
          go_wp2_with fail
          go_roundw
          case rel => exact ⟨1, .slice ad5 (6 * k + 2 + 1) cap5, by omega, by go_num, hide (HR5.out.other 7 _ (by omega)), HX6, hide (HL5.out.other 7 _ (by omega)), hide (ownsRow_setCell_below HO5.out (a := ⟨w.heap.size + 1, 7, none⟩) (by simp) _), hide (HB5.out.setCell (p := ⟨w.heap.size + 1, 7, none⟩) (by simp) _)⟩
          case measure => simp [intOf]
        · rw [show ((1 : Nat) : Int) = 1 from rfl]
          have l0 : wr.cell? ⟨w2.heap.size, 3, none⟩ = some (.int .i64 0) := HL.out.cell 3
          have l1 : wr.cell? ⟨w2.heap.size, 4, none⟩ = some (.int .i64 5) := HL.out.cell 4
          have l2 : wr.cell? ⟨w2.heap.size, 5, none⟩ = some (.int .i64 1) := HL.out.cell 5
          have hl3 := HL.out.lt
          go_wp2_with fail
          refine (HN1.out _).mono ?_
          rintro e w4 ⟨rfl, hb4⟩
          have hb5 : Below wr.heap.size wr w4 := ((Below.refl _ _).alloc (Nat.le_refl _) (.cells #[.int .i64 z, .int .i64 5, .int .i64 1] 25)).trans (hb4.mono (by simp))
          have HB4 := hide (HB.out.trans (hb5.mono HB.out.size))
          have HO4 := hide (own_later HO.out hb5)
          have HR4 := hide (HR.out.later hb5)
          have HX4 := hide (HX.out.later hb5)
          have HL4 := hide (HL.out.later hb5)
          clear hb4 hb5 HB HO HR HX HL l0 l1 l2
          have b7 : w4.cell? ⟨w.heap.size + 1, 7, none⟩ = some (.slice ad (6 * k + 2 + 1) cap) := HX4.out.cell 7
          have hs4 : w.heap.size + 1 < w4.heap.size := HX4.out.lt
          go_wp2_with (first
            | (at_builtin; refine wpList_append_own _ rfl _ _ 40 rfl _ 3 i0 (.int .i64 0) 1 8 Tryz.underlying40 hi hz0 hz1 hz2 rfl (by decide) _ _ _ rfl (HO4.out.alloc _) ⟨_, 0, none⟩ 1 1 [.int .i64 d1] rfl rfl ?c1 ?c2 ?c3 ?c4 ?c5 ?_)
            | go_in)
          case c1 =>
            intro j u hj
            match j, hj with
            | 0, hj => simp at hj; subst hj; simp [Addr.add]
          case c2 => first | exact rfl | (intro u hu; simp at hu; subst hu; rfl)
          case c3 => unfold maxLen; omega
          case c4 => omega
          case c5 => simp; omega
          intro v5 w5 hown5 hgrow5 _
          have HB5 := hide ((HB4.out.alloc HB4.out.size (.cells #[.int .i64 d1] 3)).grown hgrow5 (by simp; omega) (fun j hj => by have := (HO4.out.lt j hj).1; omega))
          have HR5 := hide ((HR4.out.alloc (.cells #[.int .i64 d1] 3)).kept hgrow5 (ownKind (HO4.out.alloc _)) (by decide))
          have HX5 := hide ((HX4.out.alloc (.cells #[.int .i64 d1] 3)).kept hgrow5 (ownKind (HO4.out.alloc _)) (by decide))
          have HL5 := hide ((HL4.out.alloc (.cells #[.int .i64 d1] 3)).kept hgrow5 (ownKind (HO4.out.alloc _)) (by decide))
          have HO5 : Hid (w5.ownsRow (w.heap.size + 2) 3 1 v5 (6 * k + 2 + 2) (lv .i64 (rlist x k ++ [ea - 2, ea + 1] ++ [d0, d1, d2, d3].take 2))) := by
            rw [show rlist x k ++ [ea - 2, ea + 1] ++ [d0, d1, d2, d3].take 2 = (rlist x k ++ [ea - 2, ea + 1, d0]) ++ [d1] by simp, lv_app]
            exact hide hown5
          obtain ⟨ad5, cap5, rfl⟩ := own_slice HO5.out
          clear hown5 hgrow5 HB4 HO4 HR4 HX4 HL4 b7
          have b7 := HX5.out.cell 7
          have f7 := HX5.out.free 7
          simp at b7
          have hs5 : w.heap.size + 1 < w5.heap.size := HX5.out.lt
          have HX6 := hide (HX5.out.set 7 (.slice ad5 (6 * k + 2 + 2) cap5))
          simp only [List.setIfInBounds_toArray, List.set_cons_zero, List.set_cons_succ] at HX6
          go_wp2_with fail
          go_roundw
          case rel => exact ⟨2, .slice ad5 (6 * k + 2 + 2) cap5, by omega, by go_num, hide (HR5.out.other 7 _ (by omega)), HX6, hide (HL5.out.other 7 _ (by omega)), hide (ownsRow_setCell_below HO5.out (a := ⟨w.heap.size + 1, 7, none⟩) (by simp) _), hide (HB5.out.setCell (p := ⟨w.heap.size + 1, 7, none⟩) (by simp) _)⟩
          case measure => simp [intOf]
        · rw [show ((2 : Nat) : Int) = 2 from rfl]
          have l0 : wr.cell? ⟨w2.heap.size, 6, none⟩ = some (.int .i64 0) := HL.out.cell 6
          have l1 : wr.cell? ⟨w2.heap.size, 7, none⟩ = some (.int .i64 12) := HL.out.cell 7
          have l2 : wr.cell? ⟨w2.heap.size, 8, none⟩ = some (.int .i64 25) := HL.out.cell 8
          have hl3 := HL.out.lt
          go_wp2_with fail
          refine (HN2.out _).mono ?_
          rintro e w4 ⟨rfl, hb4⟩
          have hb5 : Below wr.heap.size wr w4 := ((Below.refl _ _).alloc (Nat.le_refl _) (.cells #[.int .i64 z, .int .i64 12, .int .i64 25] 25)).trans (hb4.mono (by simp))
          have HB4 := hide (HB.out.trans (hb5.mono HB.out.size))
          have HO4 := hide (own_later HO.out hb5)
          have HR4 := hide (HR.out.later hb5)
          have HX4 := hide (HX.out.later hb5)
          have HL4 := hide (HL.out.later hb5)
          clear hb4 hb5 HB HO HR HX HL l0 l1 l2
          have b7 : w4.cell? ⟨w.heap.size + 1, 7, none⟩ = some (.slice ad (6 * k + 2 + 2) cap) := HX4.out.cell 7
          have hs4 : w.heap.size + 1 < w4.heap.size := HX4.out.lt
          go_wp2_with (first
            | (at_builtin; refine wpList_append_own _ rfl _ _ 40 rfl _ 3 i0 (.int .i64 0) 1 8 Tryz.underlying40 hi hz0 hz1 hz2 rfl (by decide) _ _ _ rfl (HO4.out.alloc _) ⟨_, 0, none⟩ 1 1 [.int .i64 d2] rfl rfl ?c1 ?c2 ?c3 ?c4 ?c5 ?_)
            | go_in)
          case c1 =>
            intro j u hj
            match j, hj with
            | 0, hj => simp at hj; subst hj; simp [Addr.add]
          case c2 => first | exact rfl | (intro u hu; simp at hu; subst hu; rfl)
          case c3 => unfold maxLen; omega
          case c4 => omega
          case c5 => simp; omega
          intro v5 w5 hown5 hgrow5 _
          have HB5 := hide ((HB4.out.alloc HB4.out.size (.cells #[.int .i64 d2] 3)).grown hgrow5 (by simp; omega) (fun j hj => by have := (HO4.out.lt j hj).1; omega))
          have HR5 := hide ((HR4.out.alloc (.cells #[.int .i64 d2] 3)).kept hgrow5 (ownKind (HO4.out.alloc _)) (by decide))
          have HX5 := hide ((HX4.out.alloc (.cells #[.int .i64 d2] 3)).kept hgrow5 (ownKind (HO4.out.alloc _)) (by decide))
          have HL5 := hide ((HL4.out.alloc (.cells #[.int .i64 d2] 3)).kept hgrow5 (ownKind (HO4.out.alloc _)) (by decide))
          have HO5 : Hid (w5.ownsRow (w.heap.size + 2) 3 1 v5 (6 * k + 2 + 3) (lv .i64 (rlist x k ++ [ea - 2, ea + 1] ++ [d0, d1, d2, d3].take 3))) := by
            rw [show rlist x k ++ [ea - 2, ea + 1] ++ [d0, d1, d2, d3].take 3 = (rlist x k ++ [ea - 2, ea + 1, d0, d1]) ++ [d2] by simp, lv_app]
            exact hide hown5
          obtain ⟨ad5, cap5, rfl⟩ := own_slice HO5.out
          clear hown5 hgrow5 HB4 HO4 HR4 HX4 HL4 b7
          have b7 := HX5.out.cell 7
          have f7 := HX5.out.free 7
          simp at b7
          have hs5 : w.heap.size + 1 < w5.heap.size := HX5.out.lt
          have HX6 := hide (HX5.out.set 7 (.slice ad5 (6 * k + 2 + 3) cap5))
          simp only [List.setIfInBounds_toArray, List.set_cons_zero, List.set_cons_succ] at HX6
          go_wp2_with fail
          go_roundw
          case rel => exact ⟨3, .slice ad5 (6 * k + 2 + 3) cap5, by omega, by go_num, hide (HR5.out.other 7 _ (by omega)), HX6, hide (HL5.out.other 7 _ (by omega)), hide (ownsRow_setCell_below HO5.out (a := ⟨w.heap.size + 1, 7, none⟩) (by simp) _), hide (HB5.out.setCell (p := ⟨w.heap.size + 1, 7, none⟩) (by simp) _)⟩
          case measure => simp [intOf]
        · rw [show ((3 : Nat) : Int) = 3 from rfl]
          have l0 : wr.cell? ⟨w2.heap.size, 9, none⟩ = some (.int .i64 0) := HL.out.cell 9
          have l1 : wr.cell? ⟨w2.heap.size, 10, none⟩ = some (.int .i64 12) := HL.out.cell 10
          have l2 : wr.cell? ⟨w2.heap.size, 11, none⟩ = some (.int .i64 26) := HL.out.cell 11
          have hl3 := HL.out.lt
          go_wp2_with fail
          refine (HN3.out _).mono ?_
          rintro e w4 ⟨rfl, hb4⟩
          have hb5 : Below wr.heap.size wr w4 := ((Below.refl _ _).alloc (Nat.le_refl _) (.cells #[.int .i64 z, .int .i64 12, .int .i64 26] 25)).trans (hb4.mono (by simp))
          have HB4 := hide (HB.out.trans (hb5.mono HB.out.size))
          have HO4 := hide (own_later HO.out hb5)
          have HR4 := hide (HR.out.later hb5)
          have HX4 := hide (HX.out.later hb5)
          have HL4 := hide (HL.out.later hb5)
          clear hb4 hb5 HB HO HR HX HL l0 l1 l2
          have b7 : w4.cell? ⟨w.heap.size + 1, 7, none⟩ = some (.slice ad (6 * k + 2 + 3) cap) := HX4.out.cell 7
          have hs4 : w.heap.size + 1 < w4.heap.size := HX4.out.lt
          go_wp2_with (first
            | (at_builtin; refine wpList_append_own _ rfl _ _ 40 rfl _ 3 i0 (.int .i64 0) 1 8 Tryz.underlying40 hi hz0 hz1 hz2 rfl (by decide) _ _ _ rfl (HO4.out.alloc _) ⟨_, 0, none⟩ 1 1 [.int .i64 d3] rfl rfl ?c1 ?c2 ?c3 ?c4 ?c5 ?_)
            | go_in)
          case c1 =>
            intro j u hj
            match j, hj with
            | 0, hj => simp at hj; subst hj; simp [Addr.add]
          case c2 => first | exact rfl | (intro u hu; simp at hu; subst hu; rfl)
          case c3 => unfold maxLen; omega
          case c4 => omega
          case c5 => simp; omega
          intro v5 w5 hown5 hgrow5 _
          have HB5 := hide ((HB4.out.alloc HB4.out.size (.cells #[.int .i64 d3] 3)).grown hgrow5 (by simp; omega) (fun j hj => by have := (HO4.out.lt j hj).1; omega))
          have HR5 := hide ((HR4.out.alloc (.cells #[.int .i64 d3] 3)).kept hgrow5 (ownKind (HO4.out.alloc _)) (by decide))
          have HX5 := hide ((HX4.out.alloc (.cells #[.int .i64 d3] 3)).kept hgrow5 (ownKind (HO4.out.alloc _)) (by decide))
          have HL5 := hide ((HL4.out.alloc (.cells #[.int .i64 d3] 3)).kept hgrow5 (ownKind (HO4.out.alloc _)) (by decide))
          have HO5 : Hid (w5.ownsRow (w.heap.size + 2) 3 1 v5 (6 * k + 2 + 4) (lv .i64 (rlist x k ++ [ea - 2, ea + 1] ++ [d0, d1, d2, d3].take 4))) := by
            rw [show rlist x k ++ [ea - 2, ea + 1] ++ [d0, d1, d2, d3].take 4 = (rlist x k ++ [ea - 2, ea + 1, d0, d1, d2]) ++ [d3] by simp, lv_app]
            exact hide hown5
          obtain ⟨ad5, cap5, rfl⟩ := own_slice HO5.out
          clear hown5 hgrow5 HB4 HO4 HR4 HX4 HL4 b7
          have b7 := HX5.out.cell 7
          have f7 := HX5.out.free 7
          simp at b7
          have hs5 : w.heap.size + 1 < w5.heap.size := HX5.out.lt
          have HX6 := hide (HX5.out.set 7 (.slice ad5 (6 * k + 2 + 4) cap5))
          simp only [List.setIfInBounds_toArray, List.set_cons_zero, List.set_cons_succ] at HX6
          go_wp2_with fail
          go_roundw
          case rel => exact ⟨4, .slice ad5 (6 * k + 2 + 4) cap5, by omega, by go_num, hide (HR5.out.other 7 _ (by omega)), HX6, hide (HL5.out.other 7 _ (by omega)), hide (ownsRow_setCell_below HO5.out (a := ⟨w.heap.size + 1, 7, none⟩) (by simp) _), hide (HB5.out.setCell (p := ⟨w.heap.size + 1, 7, none⟩) (by simp) _)⟩
          case measure => simp [intOf]
        · rw [show ((4 : Nat) : Int) = 4 from rfl]
          have HO6 : Hid (wr.ownsRow (w.heap.size + 2) 3 1 (.slice ad (6 * k + 2 + 4) cap) (6 * (k + 1)) (lv .i64 (rlist x (k + 1)))) := by
            rw [HTS.out, HTY.out, show rlist x k ++ [ea - 2, ea + 1, d0, d1, d2, d3] = rlist x k ++ [ea - 2, ea + 1] ++ [d0, d1, d2, d3].take 4 by simp, show 6 * (k + 1) = 6 * k + 2 + 4 by omega]
            exact HO
          go_wp2_with fail
          go_roundw
          case rel => exact ⟨k + 1, .slice ad (6 * k + 2 + 4) cap, by omega, by go_num, HR, HX, HO6, HB⟩
          case measure => simp [intOf]; omega
    · have e : k = N := by omega
      subst e
      have hle : ¬ x + (k : Int) ≤ y := by omega
      have hc : ∀ j : Nat, wr.cell? ⟨w.heap.size + 1, j, none⟩ = (#[.bool false, .bool false, .bool false, .bool false, .bool false, .bool true, .bool true, .slice ad (6 * k) cap] : Array Value)[j]? := HX.out.cell
      have b0 := hc 0
      have b1 := hc 1
      have b2 := hc 2
      have b3 := hc 3
      have b4 := hc 4
      have b5 := hc 5
      have b6 := hc 6
      have b7 := hc 7
      clear hc
      simp at b0 b1 b2 b3 b4 b5 b6 b7
      have hs9 : w.heap.size + 1 < wr.heap.size := HX.out.lt
      have HRI : Hid (RI (wr.setRow w.heap.size #[.bool false, .bool false, .bool false, .bool false, .bool false, .bool true, .bool true, .slice ad (6 * k) cap]) .i64 (.slice ad (6 * k) cap) (rlist x k)) := by
        have h := ri_of_owns HO.out
        obtain ⟨a, c, he, h⟩ := h
        refine hide ⟨a, c, he, ?_⟩
        rcases h with h | ⟨b, off, rfl, hlt, hcell⟩
        · exact .inl h
        · have hb2 : w.heap.size + 2 ≤ b := by
            have h9 := he
            simp only [Value.slice.injEq] at h9
            exact (HO.out.lt b (by rw [h9.1]; rfl)).1
          refine .inr ⟨b, off, rfl, by simpa [World.setRow] using hlt, fun j x hx => ?_⟩
          rw [← hcell j x hx]
          refine World.cell?_of_block ?_
          show (World.setRow _ _ _).heap[b]? = _
          unfold World.setRow
          simp only [Array.getElem?_modify]
          rw [if_neg (by omega)]
      have HRB : Hid (wr.heap[w.heap.size]? = some (.cells #[.bool false, .bool false, .bool false, .bool false, .bool false, .bool false, .bool false, .slice none 0 0] 51 (0, 0))) := hide HR.out
      go_wp2_with (first
        | (refine wpList_store_row rfl 51 (.tmp 4) _ rfl w.heap.size #[.bool false, .bool false, .bool false, .bool false, .bool false, .bool true, .bool true, .slice ad (6 * k) cap] rfl rfl _ _ HRB.out Tryz.sizeCal rfl (by simp [Value.oneCell']) ?_))
      have HW := setRow_heap _ _ _ #[.bool false, .bool false, .bool false, .bool false, .bool false, .bool true, .bool true, .slice ad (6 * k) cap] _ _ HRB.out
      have hld := run_loadVar_row (P := Tryz.prog) (wr.setRow w.heap.size #[.bool false, .bool false, .bool false, .bool false, .bool false, .bool true, .bool true, .slice ad (6 * k) cap]) w.heap.size 51 51 _ (0, 0) _ HW Tryz.underlying51 rfl Tryz.sizeCal
      refine bodyPost_ret (v := .tuple #[.agg #[.bool false, .bool false, .bool false, .bool false, .bool false, .bool true, .bool true, .slice ad (6 * k) cap], .int .i64 0]) ?_ rfl ⟨⟨_, rfl, HRI.out⟩, below_setRow HB.out (Nat.le_refl _) _⟩
      rw [results_cell_tmp rfl]
      simp [asAddr, Result.andThen, hld]
theorem refTarget_any (x y : Int) (w : World) :
    Calls Tryz.prog 61 #[.int .i64 x, .int .i64 y] w fun e w' => ((taE x y ≠ 0 ∧ e = .returned (.tuple #[.agg #[.bool false, .bool false, .bool false, .bool false, .bool false, .bool false, .bool false, .slice none 0 0], .int .i64 (taE x y)])) ∨ (taE x y = 0 ∧ ∃ v, e = .returned (.tuple #[.agg #[.bool false, .bool false, .bool false, .bool false, .bool false, .bool true, .bool true, v], .int .i64 0]) ∧ RI w' .i64 v (rlist x (y - x + 1).toNat))) ∧ Below w.heap.size w w' := by
  by_cases h : taE x y = 0
  · have h1 : yearB x = true ∧ yearB y = true ∧ x ≤ y := by
      unfold taE at h
      cases hx : yearB x <;> cases hy : yearB y <;> simp [hx, hy] at h
      · refine ⟨rfl, rfl, ?_⟩; omega
    obtain ⟨hx, hy, hxy⟩ := h1
    have a := (yearB_iff x).1 hx
    have b := (yearB_iff y).1 hy
    refine (refTarget_ok x y w a.1 hxy b.2).mono ?_
    rintro e w' ⟨h2, hb⟩
    exact ⟨.inr ⟨h, h2⟩, hb⟩
  · refine (refTarget_bad x y w h).mono ?_
    rintro e w' ⟨h2, hb⟩
    exact ⟨.inl ⟨h, h2⟩, hb⟩
end Go.Proofs.YtdfeehimnfogmaaGreatDoor
