/-
  My own text: the order of the rests: a sort, by its contract.
-/
import Derived.Test.YthmbfdjbjljaiaaGreatDoorCmpFn
import Derived.Test.YthmbfdjbjljaiaaGreatDoorOver
import Derived.Test.YthmbfdjbjljaiaaGreatDoorSplit
import Derived.Shelf.SlSortCmp.NoneTotal
import Derived.Shelf.Lay
import Derived.Ground.SlsfProg
import Derived.Lib.OwnBridge
import Derived.OwnWalk
import Derived.Deep.OwnRows
namespace Go.Proofs
open Go.Shelf
shelf_lay_g SlLaysF.n6 Slsf 6 at Tryz 71 as Tryz.sortL
end Go.Proofs
namespace Go.Proofs.YthmbfdjbjljaiaaGreatDoor
open Go.RowKit Go.Sort Go.Lib Go.Shelf

/-- The order: the greater rest first; of equal ones the first. -/
def cfR {n : Nat} (R : Fin n → Int) (x y : Fin n) : Int := orI (sgn (R y) (R x)) (sgn (x.val : Int) (y.val : Int))
theorem ltR {n : Nat} (R : Fin n → Int) (x y : Fin n) : ltOf (cfR R) x y = decide (R y < R x ∨ (R y = R x ∧ x.val < y.val)) := by
  unfold ltOf cfR orI
  by_cases h1 : R y < R x
  · rw [sgn_lt h1]; simp [h1]
  · by_cases h2 : R x < R y
    · rw [sgn_gt h2]; simp; omega
    · have h3 : R y = R x := by omega
      rw [sgn_eq h3, if_pos rfl]
      by_cases h4 : x.val < y.val
      · rw [sgn_lt (by omega)]; simp [h3, h4]
      · have h5 : ¬ sgn (x.val : Int) (y.val : Int) < 0 := by unfold sgn; rw [if_neg (by omega)]; split <;> omega
        simp [h1, h4, h5]
theorem swoR {n : Nat} (R : Fin n → Int) : SWO (ltOf (cfR R)) where
  irrefl x := by rw [ltR]; simp
  trans x y z h1 h2 := by rw [ltR] at *; simp at *; omega
  ntrans x y z h1 h2 := by rw [ltR] at *; simp at *; omega
theorem totR {n : Nat} (R : Fin n → Int) (x y : Fin n) (h1 : ltOf (cfR R) x y = false) (h2 : ltOf (cfR R) y x = false) : x = y := by
  rw [ltR] at *; simp at *; apply Fin.ext; omega
/-- The places, in the order of their rests. -/
def ordF {n : Nat} (R : Fin n → Int) : List (Fin n) := (Array.ofFn (fun i : Fin n => i)).toList.mergeSort fun x y => !ltOf (cfR R) y x
theorem ordF_len {n : Nat} (R : Fin n → Int) : (ordF R).length = n := by unfold ordF; rw [List.length_mergeSort]; simp
def encF {n : Nat} (x : Fin n) : Value := .int .i64 (x.val : Int)
/-- A list of places, in a row of its own. -/
def RowP {n : Nat} (w : World) (g : Nat) (d : List (Fin n)) : Prop := g < w.heap.size ∧ ∀ (j : Nat) (x : Fin n), d[j]? = some x → w.cell? ⟨g, j, none⟩ = some (encF x) ∧ w.frozen? ⟨g, j, none⟩ = false
theorem Tryz.infoInt : (Tryz.prog.info? 3).map (fun i => (i.zero, i.size, i.bytes)) = some (some (.int .i64 0), 1, 8) := by kernel_rfl
theorem eg_cmp : ∀ args w, (callFunc 72 args).run Tryz.prog w = .ok (.enter 72 args) w := enters_of Tryz.func72 (by kernel_rfl) rfl
instance inhF {n : Nat} [h : NeZero n] : Inhabited (Fin n) := ⟨0⟩
theorem sortW_other {α : Type} [Inhabited α] (enc : α → Value) (W : World) (blk off n : Nat) (dk : Array α) (os : Array Obj) (a : Addr) (h1 : a.block ≠ blk) (h2 : a.block < W.heap.size) : (sortWorld enc W blk off n dk os).cell? a = W.cell? a := by
  refine World.cell?_of_block (w := W) ?_
  have h3 : a.block < (putRow enc (Sort.ahead W n) blk off dk).heap.size := by simpa [putRow, mapBlock, Sort.ahead] using h2
  show (grow (putRow enc (Sort.ahead W n) blk off dk) os).heap[a.block]? = _
  simp only [grow]
  rw [Array.getElem?_append_left h3]
  simp [putRow, mapBlock, Sort.ahead, Array.getElem?_modify, Ne.symm h1]
/-- What the sort asks of the closure. -/
theorem cmp_lays {n : Nat} [NeZero n] (R : Fin n → Int) (rb b off cap g : Nat) (W : World) (hn : n ≤ 140737488355328) (hrb : rb < W.heap.size) (hbl : b < W.heap.size) (h1 : rb ≠ g) (h2 : b ≠ g)
    (c0 : W.cell? ⟨rb, 0, none⟩ = some (.slice (some ⟨b, off, none⟩) n cap)) (hc : ∀ i : Fin n, W.cell? ⟨b, off + i.val, none⟩ = some (.int .u64 (R i))) :
    CmpLays1 Tryz.prog 72 #[.pointer (some ⟨rb, 0, none⟩)] encF (cfR R) g 0 n W := by
  intro m os dk hs x y
  exact rest_cmp (R x) (R y) n rb b off cap x.val y.val _ x.isLt y.isLt hn
    ((sortW_other _ _ _ _ _ _ _ ⟨rb, 0, none⟩ h1 hrb).trans c0)
    ((sortW_other _ _ _ _ _ _ _ ⟨b, off + x.val, none⟩ h2 hbl).trans (hc x))
    ((sortW_other _ _ _ _ _ _ _ ⟨b, off + y.val, none⟩ h2 hbl).trans (hc y))

theorem grow_below (w : World) (os : Array Obj) : Below w.heap.size w (grow w os) := by
  refine ⟨rfl, rfl, rfl, by simp [grow], fun k hk => ?_⟩
  simp only [grow]; rw [Array.getElem?_append_left hk]
theorem below_sortW {α : Type} [Inhabited α] {enc : α → Value} {B : Nat} {w0 w : World} {g m : Nat} {d : Array α} {os : Array Obj} (h : Below B w0 w) (hg : B ≤ g) (hB : B ≤ w.heap.size) : Below B w0 (sortWorld enc w g 0 m d os) := by
  have h1 : Below B w0 (putRow enc (Sort.ahead w m) g 0 d) := below_putRow h hg
  have h2 : Below (putRow enc (Sort.ahead w m) g 0 d).heap.size (putRow enc (Sort.ahead w m) g 0 d) (grow (putRow enc (Sort.ahead w m) g 0 d) os) := grow_below _ _
  exact h1.trans (h2.mono (by simpa [putRow, mapBlock, Sort.ahead] using hB))

set_option maxRecDepth 100000 in
set_option maxHeartbeats 2000000 in
theorem byRest_any {n : Nat} [NeZero n] (R : Fin n → Int) (b off cap : Nat) (w : World) (hn : n ≤ 17592186044416) (hbl : b < w.heap.size) (hc : ∀ i : Fin n, w.cell? ⟨b, off + i.val, none⟩ = some (.int .u64 (R i))) :
    Calls Tryz.prog 47 #[.slice (some ⟨b, off, none⟩) n cap] w fun e w' => ∃ g, e = .returned (.slice (some ⟨g, 0, none⟩) n n) ∧ w.heap.size ≤ g ∧ RowP w' g (ordF R) ∧ Below w.heap.size w w' := by
  have hmk := run_make_row' (P := Tryz.prog) 56 3 (.int .i64 0) 8 Tryz.underlying56 Tryz.infoInt rfl .i64 .i64 n (by omega) (by omega)
  have HC := hide hc
  clear hc
  go_enter Tryz.func47, Tryz.ntmps47
  go_wp2
  go_loopw [10] (fun i wr => ∃ k : Nat, k ≤ n ∧ i = .int .i64 k ∧ wr.rowIs (w.heap.size + 1) 3 n (fun j => if j < k then .int .i64 j else .int .i64 0) ∧ wr.cell? ⟨w.heap.size, 0, none⟩ = some (.slice (some ⟨b, off, none⟩) n cap) ∧ Below w.heap.size w wr) (fun i _ => n - (intOf i).toNat)
  case atStart =>
    refine ⟨0, Nat.zero_le _, rfl, ?_, ?_, ((Below.refl _ _).alloc (Nat.le_refl _) _).alloc (by simp) _⟩
    · have h := World.rowIs_made (w.alloc (.cells #[.slice (some ⟨b, off, none⟩) n cap] 82)) (.int .i64 0) n 3
      rw [show (w.alloc (.cells #[.slice (some ⟨b, off, none⟩) n cap] 82)).heap.size = w.heap.size + 1 by simp] at h
      simpa using h
    · exact (((Below.refl _ (w.alloc (.cells #[.slice (some ⟨b, off, none⟩) n cap] 82))).alloc (Nat.le_refl _) _).cell (p := ⟨w.heap.size, 0, none⟩) (by simp)).trans (by simp)
  case round =>
    obtain ⟨k, hk, rfl, hRow, hbox, hB⟩ := hrel
    by_cases hlt : k < n
    · have cK := hRow.cell hlt
      have fK := hRow.frozen k
      go_wp2
      go_roundw
      case rel => exact ⟨k + 1, by omega, by go_num, (hRow.set k (.int .i64 (k : Int))).congr fun j _ => row_step (fun j => .int .i64 (j : Int)) _ _ k j rfl, cell_other hbox (Or.inl (by omega)), hB.setCell (p := ⟨w.heap.size + 1, k, none⟩) (by simp) _⟩
      case measure => simp [intOf]; omega
    · have hkn : k = n := by omega
      subst hkn
      have hds : (Array.ofFn (fun i : Fin k => i)).size = k := by simp
      have hlt1 : w.heap.size + 1 < wr.heap.size := hRow.lt
      have hH : Holds encF wr (w.heap.size + 1) 0 (Array.ofFn (fun i : Fin k => i)) := by
        intro j hj
        have hj' : j < k := by rw [hds] at hj; exact hj
        refine ⟨?_, hRow.frozen _⟩
        have h := hRow.cell hj'
        rw [if_pos hj'] at h
        rw [Nat.zero_add, h]
        simp [encF, hj']
      have hsort := Any.slices_SortFunc_total Tryz.sortL encF (fun _ => rfl) (cfR R) (swoR R) 72 #[.pointer (some ⟨w.heap.size, 0, none⟩)] (w.heap.size + 1) 0 k (Array.ofFn (fun i : Fin k => i)) wr eg_cmp
        (by rw [hds]; exact cmp_lays R w.heap.size b off cap (w.heap.size + 1) wr (by omega) (by omega) (by omega) (by omega) (by omega) hbox (fun i => (hB.cell (p := ⟨b, off + i.val, none⟩) hbl).trans (HC.out i))) hH hlt1 (by rw [hds]; omega) (totR R)
      rw [hds] at hsort
      change Calls Tryz.prog 71 _ _ _ at hsort
      have HSO := hide hsort
      have HH := hide hH
      clear hsort hmk hds hH
      go_wp2_with fail
      refine HSO.out.mono ?_
      rintro e w5 ⟨rfl, m, os, hw⟩
      have hw5 : w5 = sortWorld encF wr (w.heap.size + 1) 0 m (ordF R).toArray os := hw
      have HP := hide (holds_sortWorld encF wr (w.heap.size + 1) 0 m (Array.ofFn (fun i : Fin k => i)) (ordF R).toArray os hlt1 HH.out (by simp [ordF_len]))
      have hlt5 := lt_sortWorld encF wr (w.heap.size + 1) 0 m (ordF R).toArray os hlt1
      have hB5 : Below w.heap.size w (sortWorld encF wr (w.heap.size + 1) 0 m (ordF R).toArray os) := below_sortW hB (by omega) hB.size
      have hrp : RowP (sortWorld encF wr (w.heap.size + 1) 0 m (ordF R).toArray os) (w.heap.size + 1) (ordF R) := by
        refine ⟨hlt5, fun j x hx => ?_⟩
        have hj : j < (ordF R).length := (List.getElem?_eq_some_iff.1 hx).1
        have h := HP.out j (by simpa using hj)
        rw [Nat.zero_add] at h
        have e1 : (ordF R).toArray[j]! = x := by
          rw [getElem!_pos (ordF R).toArray j (by simpa using hj)]
          simpa using (List.getElem?_eq_some_iff.1 hx).2
        rw [e1] at h
        exact h
      rw [← hw5] at hrp hB5
      have HRP := hide hrp
      clear hrp HP hbox hw hw5 hlt5 HSO HH hRow
      go_wp2_with fail
      go_ret
      exact ⟨_, rfl, by omega, HRP.out, hB5⟩
end Go.Proofs.YthmbfdjbjljaiaaGreatDoor
