/-
  My own text: LV7, LV8, LV9 in one.
-/
import Derived.Test.YtcdhblfefpkjgaaDoorLK5
import Derived.Test.YtcdhblfefpkjgaaDoorLV6
import Derived.Test.YtcdhblfefpkjgaaDoorQRz
namespace Go.Proofs.YtcdhblfefpkjgaaDoor
open Go.RowKit

theorem okind {w : World} {B : Nat} {e : TypeId} {size n : Nat} {v : Value} {xs : List Value} (h : w.ownsRow B e size v n xs) : ∀ g, v.ownBlock = some g → B ≤ g ∧ ∃ c f, w.heap[g]? = some (.cells c e f) := by
  intro g hg
  rcases h.2 with ⟨rfl, _⟩ | ⟨g', cap, cur, rfl, hb, hh, _⟩
  · cases hg
  · cases hg; exact ⟨hb, _, _, hh⟩
/-- Lists of places of one's own in a row of one's own, beside a row of numbers. -/
structure GT (B : Nat) (w0 w : World) (P : Nat) (NUM : List Nat) (v : Value) (k : Nat) (V : Nat → Value) (X : Nat → List Nat) : Prop where
  out : w.ownsRow B 41 1 v k ((List.range k).map V)
  num : NV w P NUM
  own : ∀ i, i < k → IN.OM w B (V i) (ni (X i))
  ap : ∀ i j, i < k → j < k → i ≠ j → ∀ g, (V i).ownBlock = some g → (V j).ownBlock = some g → False
  np : ∀ i, i < k → (V i).ownBlock ≠ some P
  lo : B ≤ P
  low : Below B w0 w
  bs : B ≤ w.heap.size
theorem GT.later {B : Nat} {w0 w w' : World} {P : Nat} {NUM : List Nat} {v : Value} {k : Nat} {V : Nat → Value} {X : Nat → List Nat} (h : GT B w0 w P NUM v k V X) (hb : Below w.heap.size w w') : GT B w0 w' P NUM v k V X :=
  ⟨owns_lat h.out hb, h.num.later hb, fun i hi => (h.own i hi).later hb, h.ap, h.np, h.lo, h.low.trans (hb.mono h.bs), Nat.le_trans h.bs hb.size⟩
theorem GT.cell {B : Nat} {w0 w : World} {P : Nat} {NUM : List Nat} {k : Nat} {V : Nat → Value} {X : Nat → List Nat} {v : Value} {g : Nat} (h : GT B w0 w P NUM v k V X) (hg : v.ownBlock = some g) {i : Nat} (hi : i < k) : w.cell? ⟨g, i, none⟩ = some (V i) := by
  rcases h.out.2 with ⟨rfl, _⟩ | ⟨g', cap, cur, rfl, hb, hh, hx⟩
  · cases hg
  · cases hg
    rw [World.ownsRow.cellAt h.out i (by omega), List.getElem?_map, List.getElem?_range hi]; rfl
theorem GT.outP {B : Nat} {w0 w : World} {P : Nat} {NUM : List Nat} {v : Value} {k : Nat} {V : Nat → Value} {X : Nat → List Nat} (h : GT B w0 w P NUM v k V X) : v.ownBlock ≠ some P := by
  intro e
  obtain ⟨_, c, f, hh⟩ := okind h.out P e
  obtain ⟨c2, hp, _⟩ := h.num
  rw [hp] at hh
  injection hh with hh
  injection hh with _ hh
  exact absurd hh (by decide)
theorem GT.outV {B : Nat} {w0 w : World} {P : Nat} {NUM : List Nat} {v : Value} {k : Nat} {V : Nat → Value} {X : Nat → List Nat} (h : GT B w0 w P NUM v k V X) {i : Nat} (hi : i < k) : ∀ g, v.ownBlock = some g → (V i).ownBlock ≠ some g := by
  intro g hg e
  obtain ⟨_, c, f, hh⟩ := okind h.out g hg
  obtain ⟨c2, f2, hk⟩ := IN.OM.kind (h.own i hi) g e
  rw [hk] at hh
  injection hh with hh
  injection hh with _ hh
  exact absurd hh (by decide)
/-- A number is told. -/
theorem GT.setN {B : Nat} {w0 w : World} {P : Nat} {NUM : List Nat} {v : Value} {k : Nat} {V : Nat → Value} {X : Nat → List Nat} (h : GT B w0 w P NUM v k V X) (x y : Nat) : GT B w0 (w.setCell ⟨P, x, none⟩ (.int .i64 ((y : Nat) : Int))) P (NUM.set x y) v k V X := by
  have hk : ∀ q, q ≠ P → (w.setCell ⟨P, x, none⟩ (.int .i64 ((y : Nat) : Int))).heap[q]? = w.heap[q]? := fun q hq => Below.heap_setCell _ _ _ q hq
  refine ⟨owns_blk h.out fun q hq => hk q (fun e => h.outP (by rw [hq, e])), h.num.set x y, fun i hi => owns_blk (h.own i hi) fun q hq => hk q (fun e => h.np i hi (by rw [hq, e])), h.ap, h.np, h.lo, gb_below h.low (gb_set w P x _) h.lo h.bs, ?_⟩
  have := (gb_set w P x (.int .i64 ((y : Nat) : Int))).size
  exact Nat.le_trans h.bs this
/-- A list more. -/
theorem GT.more {B : Nat} {w0 w w' : World} {P : Nat} {NUM : List Nat} {v v' : Value} {k : Nat} {V : Nat → Value} {X : Nat → List Nat} (h : GT B w0 w P NUM v k V X) (hx : X k = []) (hV : V k = .slice none 0 0)
    (ho : w'.ownsRow B 41 1 v' (k + 1) ((List.range k).map V ++ [.slice none 0 0])) (hg : w.grownBy w' v.ownBlock) : GT B w0 w' P NUM v' (k + 1) V X := by
  have hno : (V k).ownBlock = none := by rw [hV]; rfl
  have hk : ∀ q, q < w.heap.size → v.ownBlock ≠ some q → w'.heap[q]? = w.heap[q]? := fun q hq hn => hg.block q hq (fun e => hn e.symm)
  refine ⟨by rw [List.range_succ, List.map_append, List.map_singleton, hV]; exact ho, h.num.block (hk P h.num.lt h.outP), fun i hi => ?_, fun i j hi hj hne g h1 h2 => ?_, fun i hi => ?_, h.lo, h.low.grown hg h.bs (fun q hq => (okind h.out q hq).1), Nat.le_trans h.bs hg.size⟩
  · by_cases e : i = k
    · subst e; rw [hx, hV]; exact World.ownsRow_nil w' B 3 1
    · have hi' : i < k := by omega
      exact owns_blk (h.own i hi') fun q hq => hk q (Array.getElem?_eq_some_iff.1 (okind (h.own i hi') q hq).2.choose_spec.choose_spec).1 (fun e2 => h.outV hi' q e2 hq)
  · by_cases e : i = k
    · rw [e, hno] at h1; cases h1
    · by_cases e2 : j = k
      · rw [e2, hno] at h2; cases h2
      · exact h.ap i j (by omega) (by omega) hne g h1 h2
  · by_cases e : i = k
    · rw [e, hno]; exact fun q => by cases q
    · exact h.np i (by omega)
def up1 {α : Type} (V : Nat → α) (i : Nat) (x : α) : Nat → α := fun j => if j = i then x else V j
theorem up1_same {α : Type} (V : Nat → α) (i : Nat) (x : α) : up1 V i x i = x := if_pos rfl
theorem up1_ne {α : Type} (V : Nat → α) {i j : Nat} (x : α) (h : j ≠ i) : up1 V i x j = V j := if_neg h
theorem map_up1 {α : Type} (V : Nat → α) (i k : Nat) (x : α) : (List.range k).map (up1 V i x) = ((List.range k).map V).set i x := by
  apply List.ext_getElem (by simp)
  intro j h1 h2
  rw [List.getElem_set]
  simp only [List.getElem_map, List.getElem_range]
  by_cases e : i = j
  · subst e; rw [if_pos rfl, up1_same]
  · rw [if_neg e, up1_ne _ _ (fun q => e q.symm)]
/-- A list is longer by one. -/
theorem GT.push {B : Nat} {w0 w w1 : World} {P : Nat} {NUM : List Nat} {k g cap : Nat} {V : Nat → Value} {X : Nat → List Nat} (h : GT B w0 w P NUM (.slice (some ⟨g, 0, none⟩) k cap) k V X) {i y : Nat} (hi : i < k) {v' : Value}
    (hO : IN.OM w1 B v' (ni (X i ++ [y]))) (hg : Grew w (V i) w1 v') : GT B w0 (w1.setCell ⟨g, i, none⟩ v') P NUM (.slice (some ⟨g, 0, none⟩) k cap) k (up1 V i v') (up1 X i (X i ++ [y])) := by
  have hgl : g < w.heap.size := (Array.getElem?_eq_some_iff.1 (okind h.out g rfl).2.choose_spec.choose_spec).1
  have hk1 : ∀ q, q < w.heap.size → (V i).ownBlock ≠ some q → w1.heap[q]? = w.heap[q]? := fun q hq hn => hg.grown.block q hq (fun e => hn e.symm)
  have hk2 : ∀ q, q ≠ g → (w1.setCell ⟨g, i, none⟩ v').heap[q]? = w1.heap[q]? := fun q hq => Below.heap_setCell _ _ _ q hq
  have hgV : (V i).ownBlock ≠ some g := h.outV hi g rfl
  have hPg : P ≠ g := fun e => h.outP (by rw [e]; rfl)
  have hnew : ∀ q, v'.ownBlock = some q → (V i).ownBlock = some q ∨ w.heap.size ≤ q := fun q hq => hg.lies q hq
  have hlt : ∀ j, j < k → ∀ q, (V j).ownBlock = some q → q < w.heap.size := fun j hj q hq => (Array.getElem?_eq_some_iff.1 (okind (h.own j hj) q hq).2.choose_spec.choose_spec).1
  have hvg : ∀ q, v'.ownBlock = some q → q ≠ g := fun q hq e => by
    subst e
    rcases hnew q hq with h2 | h2
    · exact hgV h2
    · omega
  refine ⟨?_, ?_, fun j hj => ?_, fun a c ha hc hne q h1 h2 => ?_, fun j hj => ?_, h.lo, ?_, ?_⟩
  · rcases h.out.2 with ⟨q, _⟩ | ⟨g', cap', cur, q, hb, hh, h1, h2, h3, h4⟩
    · cases q
    · cases q
      have r1 := blk_setCell_same (hk1 g hgl hgV ▸ hh) i v'
      refine ⟨by simp, .inr ⟨g, cap, _, rfl, hb, r1, h1, h2, by simp [h3], ?_⟩⟩
      rw [map_up1, ← h4]
      simp only [Array.toList_setIfInBounds]
      rw [List.take_set]
  · exact h.num.block ((hk2 P hPg).trans (hk1 P h.num.lt (h.np i hi)))
  · by_cases e : j = i
    · subst e
      rw [up1_same, up1_same]
      exact owns_blk hO fun q hq => hk2 q (hvg q hq)
    · rw [up1_ne _ _ e, up1_ne _ _ e]
      exact owns_blk (h.own j hj) fun q hq => (hk2 q (fun e2 => h.outV hj q (by rw [e2]; rfl) hq)).trans (hk1 q (hlt j hj q hq) (fun e2 => h.ap j i hj hi e q hq e2))
  · by_cases ea : a = i
    · have ec : c ≠ i := fun e => hne (by rw [ea, e])
      rw [ea, up1_same] at h1
      rw [up1_ne _ _ ec] at h2
      rcases hnew q h1 with h3 | h3
      · exact h.ap i c hi hc (fun e => ec e.symm) q h3 h2
      · have := hlt c hc q h2; omega
    · rw [up1_ne _ _ ea] at h1
      by_cases ec : c = i
      · rw [ec, up1_same] at h2
        rcases hnew q h2 with h3 | h3
        · exact h.ap a i ha hi ea q h1 h3
        · have := hlt a ha q h1; omega
      · rw [up1_ne _ _ ec] at h2
        exact h.ap a c ha hc hne q h1 h2
  · by_cases e : j = i
    · rw [e, up1_same]
      intro q
      rcases hnew P q with h3 | h3
      · exact h.np i hi h3
      · have := h.num.lt; omega
    · rw [up1_ne _ _ e]; exact h.np j hj
  · have l1 : Below B w0 w1 := h.low.grown hg.grown h.bs (fun q hq => (okind (h.own i hi) q hq).1)
    exact gb_below l1 (gb_set w1 g i v') (okind h.out g rfl).1 (Nat.le_trans h.bs hg.grown.size)
  · exact Nat.le_trans h.bs (Nat.le_trans hg.grown.size (gb_set w1 g i v').size)
end Go.Proofs.YtcdhblfefpkjgaaDoor
namespace Go.Proofs.YtcdhblfefpkjgaaDoor
open Go.RowKit

theorem HdOk.mono {hd : Nat → Nat} {k n : Nat} (h : HdOk hd n) (hk : k ≤ n) : HdOk hd k := ⟨fun x hx => h.le x (by omega), fun x hx => h.hh x (by omega)⟩
/-- The members below k of the i-th group. -/
def gX (hd : Nat → Nat) (n k i : Nat) : List Nat := memT hd k (gT (hsT hd n) i)
theorem gX_zero (hd : Nat → Nat) (n i : Nat) : gX hd n 0 i = [] := rfl
theorem gX_all (hd : Nat → Nat) (n : Nat) : (List.range (hsT hd n).length).map (gX hd n n) = (hsT hd n).map (memT hd n) := by
  apply List.ext_getElem (by simp)
  intro j h1 h2
  have hj : j < (hsT hd n).length := by simpa using h1
  simp only [List.getElem_map, List.getElem_range]
  unfold gX
  have e := gT_at hj
  rw [List.getElem?_eq_getElem hj] at e
  rw [Option.some.inj e]
/-- A new group begins empty. -/
theorem gX_new {hd : Nat → Nat} {n k : Nat} (h : HdOk hd n) (hk : k < n) (he : hd k = k) : gX hd n k (hsT hd k).length = [] := by
  unfold gX
  rw [← nu_head hk he, g_nu h hk, he]
  unfold memT
  rw [List.filter_eq_nil_iff]
  intro x hx
  have hx := List.mem_range.1 hx
  have := h.le x (by omega)
  rw [decide_eq_true_eq]
  omega
/-- A thing comes to its group. -/
theorem gX_push {hd : Nat → Nat} {n k : Nat} (h : HdOk hd n) (hk : k < n) {i : Nat} (hi : i < (hsT hd n).length) : gX hd n (k + 1) i = up1 (gX hd n k) (nuT hd n k) (gX hd n k (nuT hd n k) ++ [k]) i := by
  by_cases e : i = nuT hd n k
  · subst e
    rw [up1_same]
    unfold gX
    rw [memT_succ, if_pos (g_nu h hk).symm]
  · rw [up1_ne _ _ e]
    unfold gX
    rw [memT_succ, if_neg]
    intro q
    rw [← g_nu h hk] at q
    exact e (g_inj (hsT_rs hd n) hi (nu_lt h hk) q.symm)
/-- How many groups there are. -/
theorem hsT_up {hd : Nat → Nat} {k : Nat} : (hsT hd (k + 1)).length = (hsT hd k).length + (if hd k = k then 1 else 0) := by
  rw [hsT_succ]
  by_cases e : hd k = k
  · rw [if_pos e, if_pos e]; simp
  · rw [if_neg e, if_neg e]; rfl
theorem nu_in {hd : Nat → Nat} {n k : Nat} (h : HdOk hd n) (hk : k < n) : nuT hd n k < (hsT hd (k + 1)).length := by
  rw [← nu_grow h (show k + 1 ≤ n by omega) (Nat.lt_succ_self k)]
  exact nu_lt (h.mono (by omega)) (Nat.lt_succ_self k)
theorem hsT_le {hd : Nat → Nat} {k n : Nat} (hk : k ≤ n) : (hsT hd k).length ≤ (hsT hd n).length := by
  obtain ⟨t, ht⟩ := hsT_pre hd hk
  rw [ht]; simp
/-- The numbers that are told below k. -/
def NuS (hd : Nat → Nat) (n k : Nat) (NUM : List Nat) : Prop := NUM.length = n ∧ ∀ x, x < k → NUM[x]? = some (nuT hd n x)
theorem NuS.zero {hd : Nat → Nat} {n : Nat} : NuS hd n 0 (List.replicate n 0) := ⟨List.length_replicate, fun x h => absurd h (Nat.not_lt_zero x)⟩
/-- A head gets the next number; each thing gets its head's. -/
theorem NuS.head {hd : Nat → Nat} {n k : Nat} {NUM : List Nat} (h : NuS hd n k NUM) (hk : k < n) (he : hd k = k) : NuS hd n (k + 1) (NUM.set k (hsT hd k).length) := by
  refine ⟨by rw [List.length_set]; exact h.1, fun x hx => ?_⟩
  by_cases e : x = k
  · subst e; rw [List.getElem?_set_self (by rw [h.1]; exact hk), nu_head hk he]
  · rw [List.getElem?_set_ne (fun q => e q.symm)]; exact h.2 x (by omega)
theorem NuS.next {hd : Nat → Nat} {n k : Nat} {NUM : List Nat} (h : NuS hd n k NUM) (hk : k < n) : NuS hd n (k + 1) (NUM.set k (nuT hd n k)) := by
  refine ⟨by rw [List.length_set]; exact h.1, fun x hx => ?_⟩
  by_cases e : x = k
  · subst e; rw [List.getElem?_set_self (by rw [h.1]; exact hk)]
  · rw [List.getElem?_set_ne (fun q => e q.symm)]; exact h.2 x (by omega)
/-- The number of a thing's head is there. -/
theorem NuS.lead {hd : Nat → Nat} {n k : Nat} {NUM : List Nat} (h : NuS hd n k NUM) (ho : HdOk hd n) (hk : k < n) (he : hd k ≠ k) : NUM[hd k]? = some (nuT hd n k) := by
  have := ho.le k hk
  rw [h.2 (hd k) (by omega), nu_lead ho hk]
theorem NuS.same {hd : Nat → Nat} {n : Nat} {NUM : List Nat} (h : NuS hd n n NUM) : NUM = nuL hd n := by
  apply List.ext_getElem?
  intro x
  by_cases hx : x < n
  · rw [h.2 x hx]; unfold nuL; rw [List.getElem?_map, List.getElem?_range hx]; rfl
  · rw [List.getElem?_eq_none (by rw [h.1]; omega), List.getElem?_eq_none (by rw [nuL_len]; omega)]
end Go.Proofs.YtcdhblfefpkjgaaDoor
namespace Go.Proofs.YtcdhblfefpkjgaaDoor
open Go.RowKit

theorem GT.congr {B : Nat} {w0 w : World} {P : Nat} {NUM : List Nat} {v : Value} {k : Nat} {V V' : Nat → Value} {X X' : Nat → List Nat} (h : GT B w0 w P NUM v k V X) (hV : ∀ i, i < k → V' i = V i) (hX : ∀ i, i < k → X i = X' i) : GT B w0 w P NUM v k V' X' :=
  ⟨by rw [show (List.range k).map V' = (List.range k).map V from List.map_congr_left fun i hi => hV i (List.mem_range.1 hi)]; exact h.out, h.num, fun i hi => by rw [hV i hi, ← hX i hi]; exact h.own i hi, fun i j hi hj => by rw [hV i hi, hV j hj]; exact h.ap i j hi hj, fun i hi => by rw [hV i hi]; exact h.np i hi, h.lo, h.low, h.bs⟩
theorem GT.base {B : Nat} {w0 w : World} {P : Nat} {NUM : List Nat} {a : Option Addr} {c k : Nat} {V : Nat → Value} {X : Nat → List Nat} (h : GT B w0 w P NUM (.slice a k c) k V X) (hk : 0 < k) : ∃ g, a = some ⟨g, 0, none⟩ := by
  rcases h.out.2 with ⟨q, h0⟩ | ⟨g', cap, cur, q, _⟩
  · omega
  · cases q; exact ⟨_, rfl⟩
theorem GT.sl {B : Nat} {w0 w : World} {P : Nat} {NUM : List Nat} {v : Value} {k : Nat} {V : Nat → Value} {X : Nat → List Nat} (h : GT B w0 w P NUM v k V X) {i : Nat} (hi : i < k) : ∃ a c, V i = .slice a (X i).length c := by
  obtain ⟨a, c, e⟩ := IN.OM.slice (h.own i hi)
  rw [ni_len] at e
  exact ⟨a, c, e⟩
theorem GT.side {B : Nat} {w0 w w1 : World} {P : Nat} {NUM : List Nat} {k g cap : Nat} {V : Nat → Value} {X : Nat → List Nat} (h : GT B w0 w P NUM (.slice (some ⟨g, 0, none⟩) k cap) k V X) {i : Nat} (hi : i < k) {v' : Value} (hg : Grew w (V i) w1 v') {x j : Nat} {u z : Value}
    (h1 : w.cell? ⟨P, x, none⟩ = some u) (h2 : w.cell? ⟨g, j, none⟩ = some z) : w1.cell? ⟨P, x, none⟩ = some u ∧ w1.cell? ⟨g, j, none⟩ = some z ∧ w1.frozen? ⟨g, j, none⟩ = false := by
  obtain ⟨_, c, f, hh⟩ := okind h.out g rfl
  have hgl := (Array.getElem?_eq_some_iff.1 hh).1
  refine ⟨hg.grown.cell h1 (fun e => h.np i hi e.symm), hg.grown.cell h2 (fun e => h.outV hi g rfl e.symm), ?_⟩
  rcases h.out.2 with ⟨q, _⟩ | ⟨g', cap', cur, q, hb, hh2, _⟩
  · cases q
  · cases q
    exact nofz ((hg.grown.block g hgl (fun e => h.outV hi g rfl e.symm)).trans hh2) j
theorem GT.start (w : World) (n : Nat) (V : Nat → Value) (X : Nat → List Nat) : GT w.heap.size w (w.alloc (.cells (madeCells #[.int .i64 0] n) 3)) w.heap.size (List.replicate n 0) (.slice none 0 0) 0 V X :=
  ⟨World.ownsRow_nil _ _ _ _, NV.made w n, fun i h => absurd h (Nat.not_lt_zero i), fun i _ h => absurd h (Nat.not_lt_zero i), fun i h => absurd h (Nat.not_lt_zero i), Nat.le_refl _, (Below.refl _ _).alloc (Nat.le_refl _) _, by simp⟩
set_option maxRecDepth 100000 in
set_option maxHeartbeats 8000000 in
theorem gathered_any (n Q : Nat) (HD : List Nat) (hd : Nat → Nat) (w : World) (hQ : NV w Q HD) (hl : HD.length = n) (hn : n ≤ 4096) (hhd : ∀ x, x < n → HD[x]? = some (hd x)) (ho : HdOk hd n) :
    Calls Tryd.prog 25 #[.slice (some ⟨Q, 0, none⟩) n n] w fun e w' => ∃ (P : Nat) (v : Value) (V : Nat → Value), e = .returned (.tuple #[v, .slice (some ⟨P, 0, none⟩) n n]) ∧ GT w.heap.size w w' P (nuL hd n) v (hsT hd n).length V (gX hd n n) := by
  have HO := hide ho
  have HN4 := hide hn
  have HQ := hide (And.intro hQ hhd)
  have hmk := run_make_row' (P := Tryd.prog) 41 3 (.int .i64 0) 8 Tryd.underlying41 Tryd.infoIn rfl .i64 .i64 n (by omega) (by omega)
  have HE0 := hide (GT.start w n (fun _ => .slice none 0 0) (gX hd n 0))
  have HQl := hide hQ.lt
  clear hQ hl hn hhd ho
  go_enter Tryd.func25, Tryd.ntmps25
  go_wp2_with fail
  generalize (w.alloc (.cells (madeCells #[.int .i64 0] n) 3)) = w1 at *
  obtain ⟨P, hP⟩ : ∃ P, Hid (w.heap.size = P) := ⟨_, hide rfl⟩
  have HE1 : Hid (GT w.heap.size w w1 P (List.replicate n 0) (.slice none 0 0) 0 (fun _ => .slice none 0 0) (gX hd n 0)) := hide (by
    have h := HE0.out
    rw [hP.out] at h ⊢
    exact h)
  rw [hP.out]
  clear hmk HE0
  go_loopw [2, 10] (fun v i wr => ∃ (k : Nat) (a : Option Addr) (c K : Nat) (NUM : List Nat) (V : Nat → Value), k ≤ n ∧ i = .int .i64 (k : Int) ∧ v = .slice a K c ∧ Hid (K = (hsT hd k).length) ∧ Hid (NuS hd n k NUM) ∧ Hid (GT w.heap.size w wr P NUM (.slice a K c) K V (gX hd n k))) (fun _ i _ => n - (intOf i).toNat)
  case atStart => exact ⟨0, none, 0, 0, _, _, Nat.zero_le _, rfl, rfl, hide rfl, hide NuS.zero, HE1⟩
  case round =>
    clear HE1
    obtain ⟨k, a, c, K, NUM, V, hkle, rfl, rfl, HK, HS, HG⟩ := hrel
    by_cases hkn : k < n
    · have wk : wrap64 ((k : Int) + 1) = (k : Int) + 1 := by have := HN4.out; unfold wrap64; omega
      have k0 : (0 : Int) ≤ (k : Int) := by omega
      have k1 : (k : Int) < (n : Int) := by omega
      obtain ⟨y, hy⟩ : ∃ y, hd k = y := ⟨_, rfl⟩
      have HY := hide hy
      have HC := hide (fun (W : World) (hb : Below w.heap.size w W) => (hb.cell (p := ⟨Q, k, none⟩) HQl.out).trans (HQ.out.1.cell (HQ.out.2 k hkn)))
      have c0 := HC.out _ HG.out.low
      rw [hy] at c0
      obtain ⟨z0, hz0⟩ : ∃ z, NUM[k]? = some z := ⟨_, List.getElem?_eq_getElem (by rw [HS.out.1]; exact hkn)⟩
      have c1 := HG.out.num.cell hz0
      have f1 := HG.out.num.frozen k
      obtain ⟨nu, hnu0⟩ : ∃ nu, Hid (nuT hd n k = nu) := ⟨_, hide rfl⟩
      have HNU := hnu0
      clear hnu0 hz0
      by_cases he : y = k
      · have hk : hd k = k := by rw [hy, he]
        rw [he] at c0
        have hnK : nu = K := by rw [HK.out, ← nu_head hkn hk, HNU.out]
        subst hnK
        obtain ⟨w2, hw2⟩ : ∃ V, wr.setCell ⟨P, k, none⟩ (.int .i64 (nu : Int)) = V := ⟨_, rfl⟩
        have HG2 := hide (HG.out.setN k nu)
        rw [hw2] at HG2
        have HKN := hide (show nu ≤ 4096 by rw [HK.out]; exact Nat.le_trans (hsT_len hd k) (by have := HN4.out; omega))
        obtain ⟨it6, hit6, hz06, hz16, hz26⟩ := info_parts Tryd.infoRow
        have HO6 := hide HG2.out.out
        obtain ⟨cs6, hcs6⟩ : ∃ cs, (List.range nu).map V = cs := ⟨_, rfl⟩
        rw [hcs6] at HO6
        have HCS6 := hide hcs6
        have HHK := hide hk
        clear hcs6 hk
        go_wp2_with (first
          | (at_builtin; refine wpList_append_own_at _ rfl _ _ 29 rfl w.heap.size 41 it6 (.slice none 0 0) 1 24 Tryd.underlying29 hit6 hz06 hz16 hz26 rfl (by decide) _ _ _ rfl (HO6.out.alloc _) ⟨_, 0, none⟩ 1 1 [.slice none 0 0] rfl rfl ?c1 ?c2 ?c3 ?c4 ?c5 ?_))
        case c3 => have := HKN.out; unfold maxLen; omega
        case c4 => have := HKN.out; omega
        case c5 => have := HG2.out.bs; simp; omega
        case c1 => first | exact cell_one_new _ _ _ | exact fun j u hj => by rw [Addr.add_lit, cell_of_row _ _ _ _ _ _ (alloc_new w2 _), Nat.zero_add]; simpa using hj
        case c2 => first | rfl | exact ⟨rfl, trivial⟩ | (intro u hu; simp at hu; subst hu; rfl)
        intro v6 w6 hown6 hgrow6 _ _
        rw [← HCS6.out, show (List.range nu).map V = (List.range nu).map (up1 V nu (.slice none 0 0)) from List.map_congr_left fun i hi => (up1_ne _ _ (by have := List.mem_range.1 hi; omega)).symm] at hown6
        have hs6 := hown6.2
        obtain ⟨a6, c6, hv6⟩ : ∃ a c, v6 = .slice a (nu + 1) c := by
          rcases hs6 with ⟨q, h0⟩ | ⟨g', cap, cur, q, _⟩
          · omega
          · exact ⟨_, _, q⟩
        subst hv6
        have HG6 := hide (((HG2.out.later ((Below.refl _ _).alloc (Nat.le_refl _) _)).congr (V' := up1 V nu (.slice none 0 0)) (fun i hi => up1_ne _ _ (by omega)) (fun _ _ => rfl)).more (by rw [HK.out]; exact gX_new HO.out hkn HHK.out) (up1_same _ _ _) hown6 hgrow6)
        clear hown6 hgrow6 hs6 HO6 HCS6 HG2 hw2 c0 c1 f1 hit6 hz06 hz16 hz26
        obtain ⟨KK, hKK⟩ : ∃ KK, nu + 1 = KK := ⟨_, rfl⟩
        rw [hKK] at HG6 ⊢
        have HKK : Hid (KK = (hsT hd (k + 1)).length) := hide (by rw [hsT_up, if_pos HHK.out, ← HK.out, hKK])
        obtain ⟨V7, hV7⟩ : ∃ V7, up1 V nu (.slice none 0 0) = V7 := ⟨_, rfl⟩
        rw [hV7] at HG6
        have c0 := HC.out _ HG6.out.low
        rw [hy, he] at c0
        have HNy : Hid ((NUM.set k nu)[k]? = some nu) := hide (List.getElem?_set_self (by rw [HS.out.1]; exact hkn))
        have c2 := HG6.out.num.cell HNy.out
        have f1 := HG6.out.num.frozen k
        obtain ⟨w7, hw7⟩ : ∃ V, w6.setCell ⟨P, k, none⟩ (.int .i64 (nu : Int)) = V := ⟨_, rfl⟩
        have HG7 := hide (HG6.out.setN k nu)
        rw [hw7] at HG7
        obtain ⟨NUM7, hN7⟩ : ∃ M, (NUM.set k nu).set k nu = M := ⟨_, rfl⟩
        have HS7 : Hid (NuS hd n (k + 1) NUM7) := hide (by rw [← hN7, List.set_set]; have h := HS.out.head hkn HHK.out; rw [← HK.out] at h; exact h)
        rw [hN7] at HG7
        clear HS HG HG6 hN7 HK hV7 hKK HNy hy
        go_wp2_with fail
        clear c0 c2 f1 hw7
        have hnu : nu < KK := by have := nu_in HO.out hkn; rw [← HKK.out, HNU.out] at this; exact this
        obtain ⟨g, rfl⟩ := HG7.out.base (by omega)
        obtain ⟨la, lc, hv5⟩ := HG7.out.sl hnu
        obtain ⟨m, hm⟩ : ∃ m, Hid ((gX hd n k nu).length = m) := ⟨_, hide rfl⟩
        rw [hm.out] at hv5
        have hml : m ≤ 4096 := by rw [← hm.out]; unfold gX memT; exact Nat.le_trans (List.length_filter_le _ _) (by rw [List.length_range]; have := HN4.out; omega)
        have HVE := hide hv5
        have hNk : NUM7[k]? = some nu := by rw [HS7.out.2 k (Nat.lt_succ_self k), HNU.out]
        obtain ⟨D, hD⟩ : ∃ D, World.drew w7 = D := ⟨_, rfl⟩
        have HGD := hide (HG7.out.later (by rw [← hD]; exact (Below.refl _ _).drew) : GT w.heap.size w D P NUM7 (.slice (some ⟨g, 0, none⟩) KK c6) KK V7 (gX hd n k))
        have CS : Hid (D.cell? ⟨P, k, none⟩ = some (.int .i64 (nu : Int)) ∧ D.cell? ⟨g, nu, none⟩ = some (.slice la m lc)) := hide ⟨HGD.out.num.cell hNk, by rw [← HVE.out]; exact HGD.out.cell rfl hnu⟩
        have HNK := hide hNk
        have n0 : (0 : Int) ≤ (nu : Int) := by omega
        have n1 : (nu : Int) < (KK : Int) := by omega
        clear hv5 hNk HG7
        refine z_begins (S := fun W : World => W.cell? ⟨P, k, none⟩ = some (.int .i64 (nu : Int)) ∧ W.cell? ⟨g, nu, none⟩ = some (.slice la m lc)) 16 17 #[false, false, false, false, false, false, false, false, false, false, false, false, false, false, false, false, false] (by kernel_rfl) (by kernel_rfl) (by kernel_rfl) (by rw [hD]; exact CS.out) (fun hHeld => ?_)
        rw [hD] at hHeld ⊢
        clear hD
        refine zk (v := ?_) 0 37 #[true, false, false, false, false, false, false, false, false, false, false, false, false, false, false, false, false] rfl rfl (by kernel_rfl) (by kernel_rfl) (by kernel_rfl) (by kernel_rfl) (fun _ _ _ h => h) (by kernel_rfl) (by rfl) ?hy hHeld ?_
        case hy => rintro W ⟨s1, s2⟩; first | (go_simp; done) | (go_simp; with_reducible rfl)
        simp only [List.setIfInBounds_toArray, List.set_cons_zero, List.set_cons_succ]
        refine zk (v := ?_) 1 38 #[true, true, false, false, false, false, false, false, false, false, false, false, false, false, false, false, false] rfl rfl (by kernel_rfl) (by kernel_rfl) (by kernel_rfl) (by kernel_rfl) (fun _ _ _ h => h) (by kernel_rfl) (by rfl) ?hy hHeld ?_
        case hy => rintro W ⟨s1, s2⟩; first | (go_simp; done) | (go_simp; with_reducible rfl)
        simp only [List.setIfInBounds_toArray, List.set_cons_zero, List.set_cons_succ]
        refine zk (v := ?_) 2 39 #[true, true, true, false, false, false, false, false, false, false, false, false, false, false, false, false, false] rfl rfl (by kernel_rfl) (by kernel_rfl) (by kernel_rfl) (by kernel_rfl) (fun _ _ _ h => h) (by kernel_rfl) (by rfl) ?hy hHeld ?_
        case hy => rintro W ⟨s1, s2⟩; first | (go_simp; done) | (go_simp; with_reducible rfl)
        simp only [List.setIfInBounds_toArray, List.set_cons_zero, List.set_cons_succ]
        refine zk (v := ?_) 3 40 #[true, true, true, true, false, false, false, false, false, false, false, false, false, false, false, false, false] rfl rfl (by kernel_rfl) (by kernel_rfl) (by kernel_rfl) (by kernel_rfl) (fun _ _ _ h => h) (by kernel_rfl) (by rfl) ?hy hHeld ?_
        case hy => rintro W ⟨s1, s2⟩; first | (go_simp; done) | (go_simp; with_reducible rfl)
        simp only [List.setIfInBounds_toArray, List.set_cons_zero, List.set_cons_succ]
        refine zk (v := ?_) 4 41 #[true, true, true, true, true, false, false, false, false, false, false, false, false, false, false, false, false] rfl rfl (by kernel_rfl) (by kernel_rfl) (by kernel_rfl) (by kernel_rfl) (fun _ _ _ h => h) (by kernel_rfl) (by rfl) ?hy hHeld ?_
        case hy => rintro W ⟨s1, s2⟩; first | (go_simp; done) | (go_simp; with_reducible rfl)
        simp only [List.setIfInBounds_toArray, List.set_cons_zero, List.set_cons_succ]
        refine zk (v := ?_) 5 42 #[true, true, true, true, true, true, false, false, false, false, false, false, false, false, false, false, false] rfl rfl (by kernel_rfl) (by kernel_rfl) (by kernel_rfl) (by kernel_rfl) (fun _ _ _ h => h) (by kernel_rfl) (by rfl) ?hy hHeld ?_
        case hy => rintro W ⟨s1, s2⟩; first | (go_simp; done) | (go_simp; with_reducible rfl)
        simp only [List.setIfInBounds_toArray, List.set_cons_zero, List.set_cons_succ]
        refine zk (v := ?_) 6 43 #[true, true, true, true, true, true, true, false, false, false, false, false, false, false, false, false, false] rfl rfl (by kernel_rfl) (by kernel_rfl) (by kernel_rfl) (by kernel_rfl) (fun _ _ _ h => h) (by kernel_rfl) (by rfl) ?hy hHeld ?_
        case hy => rintro W ⟨s1, s2⟩; first | (go_simp; done) | (go_simp; with_reducible rfl)
        simp only [List.setIfInBounds_toArray, List.set_cons_zero, List.set_cons_succ]
        refine zk (v := ?_) 7 44 #[true, true, true, true, true, true, true, true, false, false, false, false, false, false, false, false, false] rfl rfl (by kernel_rfl) (by kernel_rfl) (by kernel_rfl) (by kernel_rfl) (fun _ _ _ h => h) (by kernel_rfl) (by rfl) ?hy hHeld ?_
        case hy => rintro W ⟨s1, s2⟩; first | (go_simp; done) | (go_simp; with_reducible rfl)
        simp only [List.setIfInBounds_toArray, List.set_cons_zero, List.set_cons_succ]
        refine zk (v := ?_) 8 45 #[true, true, true, true, true, true, true, true, true, false, false, false, false, false, false, false, false] rfl rfl (by kernel_rfl) (by kernel_rfl) (by kernel_rfl) (by kernel_rfl) (fun _ _ _ h => h) (by kernel_rfl) (by rfl) ?hy hHeld ?_
        case hy => rintro W ⟨s1, s2⟩; first | (go_simp; done) | (go_simp; with_reducible rfl)
        simp only [List.setIfInBounds_toArray, List.set_cons_zero, List.set_cons_succ]
        refine zk (v := ?_) 9 46 #[true, true, true, true, true, true, true, true, true, true, false, false, false, false, false, false, false] rfl rfl (by kernel_rfl) (by kernel_rfl) (by kernel_rfl) (by kernel_rfl) (fun _ _ _ h => h) (by kernel_rfl) (by rfl) ?hy hHeld ?_
        case hy => rintro W ⟨s1, s2⟩; first | (go_simp; done) | (go_simp; with_reducible rfl)
        simp only [List.setIfInBounds_toArray, List.set_cons_zero, List.set_cons_succ]
        refine zk (v := ?_) 10 47 #[true, true, true, true, true, true, true, true, true, true, true, false, false, false, false, false, false] rfl rfl (by kernel_rfl) (by kernel_rfl) (by kernel_rfl) (by kernel_rfl) (fun _ _ _ h => h) (by kernel_rfl) (by rfl) ?hy hHeld ?_
        case hy => rintro W ⟨s1, s2⟩; first | (go_simp; done) | (go_simp; with_reducible rfl)
        simp only [List.setIfInBounds_toArray, List.set_cons_zero, List.set_cons_succ]
        refine zk (v := ?_) 11 48 #[true, true, true, true, true, true, true, true, true, true, true, true, false, false, false, false, false] rfl rfl (by kernel_rfl) (by kernel_rfl) (by kernel_rfl) (by kernel_rfl) (fun _ _ _ h => h) (by kernel_rfl) (by rfl) ?hy hHeld ?_
        case hy => rintro W ⟨s1, s2⟩; first | (go_simp; done) | (go_simp; with_reducible rfl)
        simp only [List.setIfInBounds_toArray, List.set_cons_zero, List.set_cons_succ]
        refine zk (v := ?_) 12 49 #[true, true, true, true, true, true, true, true, true, true, true, true, true, false, false, false, false] rfl rfl (by kernel_rfl) (by kernel_rfl) (by kernel_rfl) (by kernel_rfl) (fun _ _ _ h => h) (by kernel_rfl) (by rfl) ?hy hHeld ?_
        case hy => rintro W ⟨s1, s2⟩; first | (go_simp; done) | (go_simp; with_reducible rfl)
        simp only [List.setIfInBounds_toArray, List.set_cons_zero, List.set_cons_succ]
        have hbA := (Below.refl D.heap.size D).alloc (Nat.le_refl _) (.cells #[.int .i64 (k : Int)] 3)
        have HGA := hide (HGD.out.later hbA)
        have CA : Hid ((World.alloc D (.cells #[.int .i64 (k : Int)] 3)).cell? ⟨P, k, none⟩ = some (.int .i64 (nu : Int)) ∧ (World.alloc D (.cells #[.int .i64 (k : Int)] 3)).cell? ⟨g, nu, none⟩ = some (.slice la m lc)) := hide ⟨HGA.out.num.cell HNK.out, by rw [← HVE.out]; exact HGA.out.cell rfl hnu⟩
        obtain ⟨v5, w5, hrun5, hO5, hg5⟩ := run_append_in _ w.heap.size 41 (V7 nu) _ (k : Int) D.heap.size (HGA.out.own nu hnu) (cell_of_row _ _ 0 _ _ _ (alloc_new D (.cells #[.int .i64 (k : Int)] 3))) (by rw [ni_len, hm.out]; omega) HGA.out.bs
        rw [← show ni (gX hd n k nu ++ [k]) = ni (gX hd n k nu) ++ [((k : Nat) : Int)] by rw [ni_app]; rfl] at hO5
        obtain ⟨na5, nc5, hvv5⟩ : ∃ a c, v5 = .slice a (m + 1) c := by obtain ⟨a, c, e⟩ := IN.OM.slice hO5; rw [ni_len, List.length_append, hm.out] at e; exact ⟨a, c, e⟩
        subst hvv5
        rw [HVE.out] at hrun5
        have HRUN5 := hide hrun5
        have HP5 := hide (HGA.out.push hnu hO5 hg5)
        have C5 : Hid (w5.cell? ⟨P, k, none⟩ = some (.int .i64 (nu : Int)) ∧ w5.cell? ⟨g, nu, none⟩ = some (.slice la m lc) ∧ w5.frozen? ⟨g, nu, none⟩ = false) := hide (HGA.out.side hnu hg5 CA.out.1 CA.out.2)
        have hfz := C5.out.2.2
        have hcx := C5.out.2.1
        obtain ⟨W5, hW5⟩ : ∃ xw, World.setCell w5 ⟨g, nu, none⟩ (.slice na5 (m + 1) nc5) = xw := ⟨_, rfl⟩
        rw [hW5] at HP5
        clear hO5 hg5 hrun5 hbA
        refine z_ready 13 #[true, true, true, true, true, true, true, true, true, true, true, true, true, true, false, false, false] rfl (by kernel_rfl) (by kernel_rfl) (by rfl) (fun K hK => ?_)
        go_simp
        refine hK.out _ _ (fun _ => CA.out) (fun hHeld => ?_)
        clear hK K
        refine z_ready 14 #[true, true, true, true, true, true, true, true, true, true, true, true, true, true, true, false, false] rfl (by kernel_rfl) (by kernel_rfl) (by rfl) (fun K hK => ?_)
        refine op_append_gen _ _ rfl _ ⟨D.heap.size, 0, none⟩ 1 1 rfl rfl _ w5 HRUN5.out ?_
        simp only [Act.put, List.setIfInBounds_toArray]
        refine hK.out _ _ (fun _ => ⟨C5.out.1, C5.out.2.1⟩) (fun hHeld => ?_)
        clear hK K
        refine z_ready 15 #[true, true, true, true, true, true, true, true, true, true, true, true, true, true, true, true, false] rfl (by kernel_rfl) (by kernel_rfl) (by rfl) (fun K hK => ?_)
        go_simp
        refine hK.out _ _ (fun _ => ⟨C5.out.1, C5.out.2.1⟩) (fun hHeld => ?_)
        clear hK K
        refine z_ready 16 #[true, true, true, true, true, true, true, true, true, true, true, true, true, true, true, true, true] rfl (by kernel_rfl) (by kernel_rfl) (by rfl) (fun K hK => ?_)
        go_simp
        refine hK.out _ _ (fun h => absurd rfl h) (fun _ => ?_)
        clear hK K
        refine z_done (by kernel_rfl) ?_ _
        have HZ : Hid (GT w.heap.size w W5 P NUM7 (.slice (some ⟨g, 0, none⟩) KK c6) KK (up1 V7 nu (.slice na5 (m + 1) nc5)) (gX hd n (k + 1))) := hide (HP5.out.congr (fun _ _ => rfl) fun i hi => by rw [← HNU.out]; exact (gX_push HO.out hkn (Nat.lt_of_lt_of_le hi (by rw [HKK.out]; exact hsT_le (by omega)))).symm)
        clear hW5 hfz hcx HRUN5 HP5 C5 CA HGA HGD HVE hm
        try clear hHeld
        go_wp2_with fail
        go_roundw
        case rel => exact ⟨k + 1, some ⟨g, 0, none⟩, c6, KK, NUM7, _, by omega, by go_num, rfl, HKK, HS7, HZ⟩
        case measure => first | (rw [wk]; simp [intOf]; omega) | (simp [intOf]; omega)
      · have t := show ((y : Int) == (k : Int)) = false by rw [beq_eq_false_iff_ne]; omega
        have hyk : y < k := by have := HO.out.le k hkn; rw [hy] at this; omega
        have y0 : (0 : Int) ≤ (y : Int) := by omega
        have y1 : (y : Int) < (n : Int) := by omega
        have HNy : Hid (NUM[y]? = some nu) := hide (by rw [← HNU.out, ← hy]; exact HS.out.lead HO.out hkn (by rw [hy]; exact he))
        have c2 := HG.out.num.cell HNy.out
        obtain ⟨w7, hw7⟩ : ∃ V, wr.setCell ⟨P, k, none⟩ (.int .i64 (nu : Int)) = V := ⟨_, rfl⟩
        have HG7 := hide (HG.out.setN k nu)
        rw [hw7] at HG7
        obtain ⟨NUM7, hN7⟩ : ∃ M, NUM.set k nu = M := ⟨_, rfl⟩
        have HS7 : Hid (NuS hd n (k + 1) NUM7) := hide (by rw [← hN7, ← HNU.out]; exact HS.out.next hkn)
        rw [hN7] at HG7
        have HKK : Hid (K = (hsT hd (k + 1)).length) := hide (by rw [hsT_up, if_neg (by rw [hy]; exact he), HK.out]; rfl)
        obtain ⟨KK, hKK⟩ : ∃ KK, K = KK := ⟨_, rfl⟩
        rw [hKK] at HKK HG7 ⊢
        obtain ⟨c6, hc6⟩ : ∃ c6, c = c6 := ⟨_, rfl⟩
        rw [hc6] at HG7 ⊢
        obtain ⟨V7, hV7⟩ : ∃ V7, V = V7 := ⟨_, rfl⟩
        rw [hV7] at HG7
        clear HS HG hN7 HK hV7 hKK hc6 HNy hy
        go_wp2_with fail
        clear c0 c1 c2 f1 hw7 t
        have hnu : nu < KK := by have := nu_in HO.out hkn; rw [← HKK.out, HNU.out] at this; exact this
        obtain ⟨g, rfl⟩ := HG7.out.base (by omega)
        obtain ⟨la, lc, hv5⟩ := HG7.out.sl hnu
        obtain ⟨m, hm⟩ : ∃ m, Hid ((gX hd n k nu).length = m) := ⟨_, hide rfl⟩
        rw [hm.out] at hv5
        have hml : m ≤ 4096 := by rw [← hm.out]; unfold gX memT; exact Nat.le_trans (List.length_filter_le _ _) (by rw [List.length_range]; have := HN4.out; omega)
        have HVE := hide hv5
        have hNk : NUM7[k]? = some nu := by rw [HS7.out.2 k (Nat.lt_succ_self k), HNU.out]
        obtain ⟨D, hD⟩ : ∃ D, World.drew w7 = D := ⟨_, rfl⟩
        have HGD := hide (HG7.out.later (by rw [← hD]; exact (Below.refl _ _).drew) : GT w.heap.size w D P NUM7 (.slice (some ⟨g, 0, none⟩) KK c6) KK V7 (gX hd n k))
        have CS : Hid (D.cell? ⟨P, k, none⟩ = some (.int .i64 (nu : Int)) ∧ D.cell? ⟨g, nu, none⟩ = some (.slice la m lc)) := hide ⟨HGD.out.num.cell hNk, by rw [← HVE.out]; exact HGD.out.cell rfl hnu⟩
        have HNK := hide hNk
        have n0 : (0 : Int) ≤ (nu : Int) := by omega
        have n1 : (nu : Int) < (KK : Int) := by omega
        clear hv5 hNk HG7
        refine z_begins (S := fun W : World => W.cell? ⟨P, k, none⟩ = some (.int .i64 (nu : Int)) ∧ W.cell? ⟨g, nu, none⟩ = some (.slice la m lc)) 16 17 #[false, false, false, false, false, false, false, false, false, false, false, false, false, false, false, false, false] (by kernel_rfl) (by kernel_rfl) (by kernel_rfl) (by rw [hD]; exact CS.out) (fun hHeld => ?_)
        rw [hD] at hHeld ⊢
        clear hD
        refine zk (v := ?_) 0 37 #[true, false, false, false, false, false, false, false, false, false, false, false, false, false, false, false, false] rfl rfl (by kernel_rfl) (by kernel_rfl) (by kernel_rfl) (by kernel_rfl) (fun _ _ _ h => h) (by kernel_rfl) (by rfl) ?hy hHeld ?_
        case hy => rintro W ⟨s1, s2⟩; first | (go_simp; done) | (go_simp; with_reducible rfl)
        simp only [List.setIfInBounds_toArray, List.set_cons_zero, List.set_cons_succ]
        refine zk (v := ?_) 1 38 #[true, true, false, false, false, false, false, false, false, false, false, false, false, false, false, false, false] rfl rfl (by kernel_rfl) (by kernel_rfl) (by kernel_rfl) (by kernel_rfl) (fun _ _ _ h => h) (by kernel_rfl) (by rfl) ?hy hHeld ?_
        case hy => rintro W ⟨s1, s2⟩; first | (go_simp; done) | (go_simp; with_reducible rfl)
        simp only [List.setIfInBounds_toArray, List.set_cons_zero, List.set_cons_succ]
        refine zk (v := ?_) 2 39 #[true, true, true, false, false, false, false, false, false, false, false, false, false, false, false, false, false] rfl rfl (by kernel_rfl) (by kernel_rfl) (by kernel_rfl) (by kernel_rfl) (fun _ _ _ h => h) (by kernel_rfl) (by rfl) ?hy hHeld ?_
        case hy => rintro W ⟨s1, s2⟩; first | (go_simp; done) | (go_simp; with_reducible rfl)
        simp only [List.setIfInBounds_toArray, List.set_cons_zero, List.set_cons_succ]
        refine zk (v := ?_) 3 40 #[true, true, true, true, false, false, false, false, false, false, false, false, false, false, false, false, false] rfl rfl (by kernel_rfl) (by kernel_rfl) (by kernel_rfl) (by kernel_rfl) (fun _ _ _ h => h) (by kernel_rfl) (by rfl) ?hy hHeld ?_
        case hy => rintro W ⟨s1, s2⟩; first | (go_simp; done) | (go_simp; with_reducible rfl)
        simp only [List.setIfInBounds_toArray, List.set_cons_zero, List.set_cons_succ]
        refine zk (v := ?_) 4 41 #[true, true, true, true, true, false, false, false, false, false, false, false, false, false, false, false, false] rfl rfl (by kernel_rfl) (by kernel_rfl) (by kernel_rfl) (by kernel_rfl) (fun _ _ _ h => h) (by kernel_rfl) (by rfl) ?hy hHeld ?_
        case hy => rintro W ⟨s1, s2⟩; first | (go_simp; done) | (go_simp; with_reducible rfl)
        simp only [List.setIfInBounds_toArray, List.set_cons_zero, List.set_cons_succ]
        refine zk (v := ?_) 5 42 #[true, true, true, true, true, true, false, false, false, false, false, false, false, false, false, false, false] rfl rfl (by kernel_rfl) (by kernel_rfl) (by kernel_rfl) (by kernel_rfl) (fun _ _ _ h => h) (by kernel_rfl) (by rfl) ?hy hHeld ?_
        case hy => rintro W ⟨s1, s2⟩; first | (go_simp; done) | (go_simp; with_reducible rfl)
        simp only [List.setIfInBounds_toArray, List.set_cons_zero, List.set_cons_succ]
        refine zk (v := ?_) 6 43 #[true, true, true, true, true, true, true, false, false, false, false, false, false, false, false, false, false] rfl rfl (by kernel_rfl) (by kernel_rfl) (by kernel_rfl) (by kernel_rfl) (fun _ _ _ h => h) (by kernel_rfl) (by rfl) ?hy hHeld ?_
        case hy => rintro W ⟨s1, s2⟩; first | (go_simp; done) | (go_simp; with_reducible rfl)
        simp only [List.setIfInBounds_toArray, List.set_cons_zero, List.set_cons_succ]
        refine zk (v := ?_) 7 44 #[true, true, true, true, true, true, true, true, false, false, false, false, false, false, false, false, false] rfl rfl (by kernel_rfl) (by kernel_rfl) (by kernel_rfl) (by kernel_rfl) (fun _ _ _ h => h) (by kernel_rfl) (by rfl) ?hy hHeld ?_
        case hy => rintro W ⟨s1, s2⟩; first | (go_simp; done) | (go_simp; with_reducible rfl)
        simp only [List.setIfInBounds_toArray, List.set_cons_zero, List.set_cons_succ]
        refine zk (v := ?_) 8 45 #[true, true, true, true, true, true, true, true, true, false, false, false, false, false, false, false, false] rfl rfl (by kernel_rfl) (by kernel_rfl) (by kernel_rfl) (by kernel_rfl) (fun _ _ _ h => h) (by kernel_rfl) (by rfl) ?hy hHeld ?_
        case hy => rintro W ⟨s1, s2⟩; first | (go_simp; done) | (go_simp; with_reducible rfl)
        simp only [List.setIfInBounds_toArray, List.set_cons_zero, List.set_cons_succ]
        refine zk (v := ?_) 9 46 #[true, true, true, true, true, true, true, true, true, true, false, false, false, false, false, false, false] rfl rfl (by kernel_rfl) (by kernel_rfl) (by kernel_rfl) (by kernel_rfl) (fun _ _ _ h => h) (by kernel_rfl) (by rfl) ?hy hHeld ?_
        case hy => rintro W ⟨s1, s2⟩; first | (go_simp; done) | (go_simp; with_reducible rfl)
        simp only [List.setIfInBounds_toArray, List.set_cons_zero, List.set_cons_succ]
        refine zk (v := ?_) 10 47 #[true, true, true, true, true, true, true, true, true, true, true, false, false, false, false, false, false] rfl rfl (by kernel_rfl) (by kernel_rfl) (by kernel_rfl) (by kernel_rfl) (fun _ _ _ h => h) (by kernel_rfl) (by rfl) ?hy hHeld ?_
        case hy => rintro W ⟨s1, s2⟩; first | (go_simp; done) | (go_simp; with_reducible rfl)
        simp only [List.setIfInBounds_toArray, List.set_cons_zero, List.set_cons_succ]
        refine zk (v := ?_) 11 48 #[true, true, true, true, true, true, true, true, true, true, true, true, false, false, false, false, false] rfl rfl (by kernel_rfl) (by kernel_rfl) (by kernel_rfl) (by kernel_rfl) (fun _ _ _ h => h) (by kernel_rfl) (by rfl) ?hy hHeld ?_
        case hy => rintro W ⟨s1, s2⟩; first | (go_simp; done) | (go_simp; with_reducible rfl)
        simp only [List.setIfInBounds_toArray, List.set_cons_zero, List.set_cons_succ]
        refine zk (v := ?_) 12 49 #[true, true, true, true, true, true, true, true, true, true, true, true, true, false, false, false, false] rfl rfl (by kernel_rfl) (by kernel_rfl) (by kernel_rfl) (by kernel_rfl) (fun _ _ _ h => h) (by kernel_rfl) (by rfl) ?hy hHeld ?_
        case hy => rintro W ⟨s1, s2⟩; first | (go_simp; done) | (go_simp; with_reducible rfl)
        simp only [List.setIfInBounds_toArray, List.set_cons_zero, List.set_cons_succ]
        have hbA := (Below.refl D.heap.size D).alloc (Nat.le_refl _) (.cells #[.int .i64 (k : Int)] 3)
        have HGA := hide (HGD.out.later hbA)
        have CA : Hid ((World.alloc D (.cells #[.int .i64 (k : Int)] 3)).cell? ⟨P, k, none⟩ = some (.int .i64 (nu : Int)) ∧ (World.alloc D (.cells #[.int .i64 (k : Int)] 3)).cell? ⟨g, nu, none⟩ = some (.slice la m lc)) := hide ⟨HGA.out.num.cell HNK.out, by rw [← HVE.out]; exact HGA.out.cell rfl hnu⟩
        obtain ⟨v5, w5, hrun5, hO5, hg5⟩ := run_append_in _ w.heap.size 41 (V7 nu) _ (k : Int) D.heap.size (HGA.out.own nu hnu) (cell_of_row _ _ 0 _ _ _ (alloc_new D (.cells #[.int .i64 (k : Int)] 3))) (by rw [ni_len, hm.out]; omega) HGA.out.bs
        rw [← show ni (gX hd n k nu ++ [k]) = ni (gX hd n k nu) ++ [((k : Nat) : Int)] by rw [ni_app]; rfl] at hO5
        obtain ⟨na5, nc5, hvv5⟩ : ∃ a c, v5 = .slice a (m + 1) c := by obtain ⟨a, c, e⟩ := IN.OM.slice hO5; rw [ni_len, List.length_append, hm.out] at e; exact ⟨a, c, e⟩
        subst hvv5
        rw [HVE.out] at hrun5
        have HRUN5 := hide hrun5
        have HP5 := hide (HGA.out.push hnu hO5 hg5)
        have C5 : Hid (w5.cell? ⟨P, k, none⟩ = some (.int .i64 (nu : Int)) ∧ w5.cell? ⟨g, nu, none⟩ = some (.slice la m lc) ∧ w5.frozen? ⟨g, nu, none⟩ = false) := hide (HGA.out.side hnu hg5 CA.out.1 CA.out.2)
        have hfz := C5.out.2.2
        have hcx := C5.out.2.1
        obtain ⟨W5, hW5⟩ : ∃ xw, World.setCell w5 ⟨g, nu, none⟩ (.slice na5 (m + 1) nc5) = xw := ⟨_, rfl⟩
        rw [hW5] at HP5
        clear hO5 hg5 hrun5 hbA
        refine z_ready 13 #[true, true, true, true, true, true, true, true, true, true, true, true, true, true, false, false, false] rfl (by kernel_rfl) (by kernel_rfl) (by rfl) (fun K hK => ?_)
        go_simp
        refine hK.out _ _ (fun _ => CA.out) (fun hHeld => ?_)
        clear hK K
        refine z_ready 14 #[true, true, true, true, true, true, true, true, true, true, true, true, true, true, true, false, false] rfl (by kernel_rfl) (by kernel_rfl) (by rfl) (fun K hK => ?_)
        refine op_append_gen _ _ rfl _ ⟨D.heap.size, 0, none⟩ 1 1 rfl rfl _ w5 HRUN5.out ?_
        simp only [Act.put, List.setIfInBounds_toArray]
        refine hK.out _ _ (fun _ => ⟨C5.out.1, C5.out.2.1⟩) (fun hHeld => ?_)
        clear hK K
        refine z_ready 15 #[true, true, true, true, true, true, true, true, true, true, true, true, true, true, true, true, false] rfl (by kernel_rfl) (by kernel_rfl) (by rfl) (fun K hK => ?_)
        go_simp
        refine hK.out _ _ (fun _ => ⟨C5.out.1, C5.out.2.1⟩) (fun hHeld => ?_)
        clear hK K
        refine z_ready 16 #[true, true, true, true, true, true, true, true, true, true, true, true, true, true, true, true, true] rfl (by kernel_rfl) (by kernel_rfl) (by rfl) (fun K hK => ?_)
        go_simp
        refine hK.out _ _ (fun h => absurd rfl h) (fun _ => ?_)
        clear hK K
        refine z_done (by kernel_rfl) ?_ _
        have HZ : Hid (GT w.heap.size w W5 P NUM7 (.slice (some ⟨g, 0, none⟩) KK c6) KK (up1 V7 nu (.slice na5 (m + 1) nc5)) (gX hd n (k + 1))) := hide (HP5.out.congr (fun _ _ => rfl) fun i hi => by rw [← HNU.out]; exact (gX_push HO.out hkn (Nat.lt_of_lt_of_le hi (by rw [HKK.out]; exact hsT_le (by omega)))).symm)
        clear hW5 hfz hcx HRUN5 HP5 C5 CA HGA HGD HVE hm
        try clear hHeld
        go_wp2_with fail
        go_roundw
        case rel => exact ⟨k + 1, some ⟨g, 0, none⟩, c6, KK, NUM7, _, by omega, by go_num, rfl, HKK, HS7, HZ⟩
        case measure => first | (rw [wk]; simp [intOf]; omega) | (simp [intOf]; omega)
    · obtain rfl : k = n := by omega
      have e := HS.out.same
      have HGZ := hide HG.out
      rw [e] at HGZ
      go_wp2_with fail
      go_ret2
      exact ⟨P, _, V, rfl, by rw [← HK.out]; exact HGZ.out⟩
end Go.Proofs.YtcdhblfefpkjgaaDoor
