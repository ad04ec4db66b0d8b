/-
  My own text: SK3, SK4 in one.
-/
import Derived.Test.YtehacdijleommaaGreatDoorSK2
import Derived.WalkSmall
import Derived.Sort.Grow
import Derived.Shelf.SlSortCmp.WholeK
import Derived.Shelf.SlSortCmp.NoneTotal
import Derived.Shelf.Lay
import Derived.Ground.SlsfProg
namespace Go.Proofs.YtehacdijleommaaGreatDoor
open Go.RowKit Go.Sort

def sgn (a b : Int) : Int := if a < b then -1 else if b < a then 1 else 0
theorem sgn_lt {a b : Int} (h : a < b) : sgn a b = -1 := if_pos h
theorem sgn_gt {a b : Int} (h : b < a) : sgn a b = 1 := by unfold sgn; rw [if_neg (by omega), if_pos h]
theorem sgn_eq {a b : Int} (h : a = b) : sgn a b = 0 := by unfold sgn; rw [if_neg (by omega), if_neg (by omega)]
theorem sgn_bounds (a b : Int) : -1 ≤ sgn a b ∧ sgn a b ≤ 1 := by unfold sgn; split; omega; split <;> omega
theorem ret_c {a b : Int} (h : a = b) : Ending.returned (.int .i64 a) = .returned (.int .i64 b) := by rw [h]
/-- The first that is not zero. -/
def orI (a b : Int) : Int := if a = 0 then b else a

theorem nanI (x : Value) (w : World) (a : Int) (hx : x = .int .i64 a) : Calls Tryz.prog 79 #[x] w fun e w' => e = .returned (.bool false) ∧ w' = w := by
  subst hx
  go_enter Tryz.func79, Tryz.ntmps79
  go_wp2
  go_ret
  exact ⟨rfl, rfl⟩

set_option maxHeartbeats 400000 in
theorem compareI (a b : Int) (w : World) : Calls Tryz.prog 48 #[.int .i64 a, .int .i64 b] w fun e w' => e = .returned (.int .i64 (sgn a b)) ∧ w' = w := by
  rcases Int.lt_trichotomy a b with h | h | h
  · have H := hide (sgn_lt h)
    go_enter Tryz.func48, Tryz.ntmps48
    go_wp2_with (first | (go_at_call 79; refine (nanI _ _ _ rfl).mono ?_; rintro e w' ⟨rfl, rfl⟩) | go_in)
    go_ret
    exact ⟨ret_c H.out.symm, rfl⟩
  · subst h
    have H := hide (sgn_eq (rfl : a = a))
    go_enter Tryz.func48, Tryz.ntmps48
    go_wp2_with (first | (go_at_call 79; refine (nanI _ _ _ rfl).mono ?_; rintro e w' ⟨rfl, rfl⟩) | go_in)
    go_ret
    exact ⟨ret_c H.out.symm, rfl⟩
  · have H := hide (sgn_gt h)
    have h2 : ¬ a < b := by omega
    go_enter Tryz.func48, Tryz.ntmps48
    go_wp2_with (first | (go_at_call 79; refine (nanI _ _ _ rfl).mono ?_; rintro e w' ⟨rfl, rfl⟩) | go_in)
    go_ret
    exact ⟨ret_c H.out.symm, rfl⟩

set_option maxRecDepth 100000 in
set_option maxHeartbeats 1000000 in
theorem or_two (a b : Int) (g cap : Nat) (w : World) (h0 : w.cell? ⟨g, 0, none⟩ = some (.int .i64 a)) (h1 : w.cell? ⟨g, 1, none⟩ = some (.int .i64 b)) :
    Calls Tryz.prog 47 #[.slice (some ⟨g, 0, none⟩) 2 cap] w fun e w' => e = .returned (.int .i64 (orI a b)) ∧ w' = w := by
  by_cases ha : a = 0
  · subst ha
    by_cases hb : b = 0
    · subst hb
      have H : Hid (orI 0 0 = 0) := rfl
      go_enter Tryz.func47, Tryz.ntmps47
      go_wp2
      go_loop [8] (fun i => ∃ k : Nat, k ≤ 2 ∧ i = .int .i64 k) (fun i => 2 - (intOf i).toNat)
      case atStart => exact ⟨0, by omega, rfl⟩
      case round =>
        obtain ⟨k, hk, rfl⟩ := hrel
        by_cases k2 : k = 2
        · subst k2
          go_wp2
          go_ret
          exact ⟨ret_c H.out.symm, rfl⟩
        by_cases k1 : k = 1
        · subst k1
          go_wp2
          go_round
          case rel => exact ⟨2, by omega, rfl⟩
          case measure => simp [intOf]
        obtain rfl : k = 0 := by omega
        go_wp2
        go_round
        case rel => exact ⟨1, by omega, rfl⟩
        case measure => simp [intOf]
    · have H : Hid (orI 0 b = b) := rfl
      have hb' : (b == 0) = false := by simpa using hb
      go_enter Tryz.func47, Tryz.ntmps47
      go_wp2
      go_loop [8] (fun i => ∃ k : Nat, k ≤ 1 ∧ i = .int .i64 k) (fun i => 1 - (intOf i).toNat)
      case atStart => exact ⟨0, by omega, rfl⟩
      case round =>
        obtain ⟨k, hk, rfl⟩ := hrel
        by_cases k1 : k = 1
        · subst k1
          go_wp2
          go_ret
          exact ⟨ret_c H.out.symm, rfl⟩
        obtain rfl : k = 0 := by omega
        go_wp2
        go_round
        case rel => exact ⟨1, by omega, rfl⟩
        case measure => simp [intOf]
  · have H : Hid (orI a b = a) := if_neg ha
    have ha' : (a == 0) = false := by simpa using ha
    go_enter Tryz.func47, Tryz.ntmps47
    go_wp2
    go_loop [8] (fun i => i = .int .i64 0) (fun i => 0)
    case atStart => rfl
    case round =>
      subst hrel
      go_wp2
      go_ret
      exact ⟨ret_c H.out.symm, rfl⟩

theorem alloc_grow1 (W : World) (o : Obj) (q : Nat) (os : Array Obj) : (grow (W.drewN q) os).alloc o = grow (W.drewN q) (os.push o) := by
  rw [alloc_eq_grow]
  simp [grow]
theorem grow_zero (W : World) : grow (W.drewN 0) #[] = W := by simp [grow, World.drewN]
theorem grow_draw (W : World) (a q : Nat) (os : Array Obj) : (grow (W.drewN a) os).drewN q = grow (W.drewN (a + q)) os := by simp [grow, World.drewN, Nat.add_assoc]
theorem grow_two (W : World) (o1 o2 : Obj) : (W.alloc o1).alloc o2 = grow (W.drewN 0) #[o1, o2] := by
  conv => lhs; rw [← grow_zero W]
  rw [alloc_grow1, alloc_grow1]; rfl
theorem grow_three (W : World) (o1 o2 o3 : Obj) (q : Nat) : ((grow (W.drewN 0) #[o1, o2]).drewN q).alloc o3 = grow (W.drewN q) #[o1, o2, o3] := by
  rw [grow_draw, alloc_grow1, Nat.zero_add]; rfl
/-- Draws alone. -/
def Dr (W : World) : Type := { w' : World // ∃ q, w' = W.drewN q }
theorem Dr.call {W : World} (x : Dr W) {P : Program} {f : FuncId} {args : Array Value} {v : Value} (h : Calls P f args x.1 fun e w' => e = .returned v ∧ w' = x.1) :
    Calls P f args x.1 fun e w' => e = .returned v ∧ ∃ y : Dr W, w' = y.1 := h.mono fun _ _ ⟨he, hw⟩ => ⟨he, x, hw⟩
theorem Dr.cell {W : World} (x : Dr W) (a : Addr) : x.1.cell? a = W.cell? a := by
  obtain ⟨_, q, rfl⟩ := x
  rfl
def cfK (x y : Ky) : Int := orI (sgn x.1 y.1) (sgn x.2 y.2)
set_option maxRecDepth 100000 in
set_option maxHeartbeats 400000 in
theorem rising_any (x y : Ky) (W : World) :
    Calls Tryz.prog 22 #[.agg #[.int .i64 x.1, .int .i64 x.2], .agg #[.int .i64 y.1, .int .i64 y.2]] W fun e w' => e = .returned (.int .i64 (cfK x y)) ∧ ∃ q os, w' = grow (W.drewN q) os := by
  unfold cfK
  obtain ⟨W2, hW2⟩ : ∃ W2, (W.alloc (.cells #[.int .i64 x.1, .int .i64 x.2] 29)).alloc (.cells #[.int .i64 y.1, .int .i64 y.2] 29) = W2 := ⟨_, rfl⟩
  have HW2 : Hid (W2 = grow (W.drewN 0) #[.cells #[.int .i64 x.1, .int .i64 x.2] 29, .cells #[.int .i64 y.1, .int .i64 y.2] 29]) := hide (by
    rw [← hW2]; exact grow_two W _ _)
  have a1 : (W.alloc (.cells #[.int .i64 x.1, .int .i64 x.2] 29)).heap.size = W.heap.size + 1 := by simp
  have k1 : W2.heap[W.heap.size]? = some (.cells #[.int .i64 x.1, .int .i64 x.2] 29 (0, 0)) := by rw [← hW2]; exact (Below.heap_alloc _ _ _ (by simp)).trans (alloc_newV W _)
  have k2 : W2.heap[W.heap.size + 1]? = some (.cells #[.int .i64 y.1, .int .i64 y.2] 29 (0, 0)) := by rw [← hW2, ← a1]; exact alloc_newV _ _
  have y0 : ∀ z : Dr W2, z.1.cell? ⟨W.heap.size, 0, none⟩ = some (.int .i64 x.1) := fun z => by rw [z.cell, cell_of_row _ _ 0 _ _ _ k1]; rfl
  have y1 : ∀ z : Dr W2, z.1.cell? ⟨W.heap.size, 1, none⟩ = some (.int .i64 x.2) := fun z => by rw [z.cell, cell_of_row _ _ 1 _ _ _ k1]; rfl
  have y2 : ∀ z : Dr W2, z.1.cell? ⟨W.heap.size + 1, 0, none⟩ = some (.int .i64 y.1) := fun z => by rw [z.cell, cell_of_row _ _ 0 _ _ _ k2]; rfl
  have y3 : ∀ z : Dr W2, z.1.cell? ⟨W.heap.size + 1, 1, none⟩ = some (.int .i64 y.2) := fun z => by rw [z.cell, cell_of_row _ _ 1 _ _ _ k2]; rfl
  haveI : Nonempty (Dr W2) := ⟨⟨W2, 0, rfl⟩⟩
  clear a1 k1 k2
  go_enter Tryz.func22, Tryz.ntmps22
  go_wp2_with fail
  refine region_qtails (C := fun w' => ∃ z : Dr W2, w' = z.1) 10 2 rfl (by kernel_rfl) (by kernel_rfl) ⟨⟨_, 1, rfl⟩, rfl⟩ ?_
  simp only [List.take_succ_cons, List.take_zero, List.drop_succ_cons, List.drop_zero]
  repeat (first
    | go_big_quiet_skip
    | (go_big_quiet_want; (go_big_quiet_op; first
        | go_big_quiet_on
        | (apply Exists.intro; refine ⟨fun x => ?_, ?_⟩; (go_at_call 48; exact x.call (compareI _ _ x.1)); go_big_quiet_on))))
  refine wpQuiet_nil ?_
  rintro w3 ⟨z, rfl⟩
  obtain ⟨w3, q, rfl⟩ := z
  dsimp only
  clear y0 y1 y2 y3 this hW2
  generalize hs : sgn x.1 y.1 = s at *
  have Hs := hide hs
  clear hs
  generalize ht : sgn x.2 y.2 = t at *
  have Ht := hide ht
  clear ht
  obtain ⟨W3, hW3⟩ : ∃ W3, (W2.drewN q).alloc (.cells #[.int .i64 s, .int .i64 t] 3) = W3 := ⟨_, rfl⟩
  have k3 : W3.heap[W2.heap.size]? = some (.cells #[.int .i64 s, .int .i64 t] 3 (0, 0)) := by rw [← hW3]; exact alloc_newV (W2.drewN q) _
  have HOr := hide (or_two s t W2.heap.size 2 W3 (by rw [cell_of_row _ _ 0 _ _ _ k3]; rfl) (by rw [cell_of_row _ _ 1 _ _ _ k3]; rfl))
  have HW3 : Hid (W3 = grow (W.drewN q) (#[.cells #[.int .i64 x.1, .int .i64 x.2] 29, .cells #[.int .i64 y.1, .int .i64 y.2] 29, .cells #[.int .i64 s, .int .i64 t] 3])) := hide (by
    rw [← hW3, HW2.out]; exact grow_three W _ _ _ q)
  clear k3
  go_wp2_with fail
  refine HOr.out.mono ?_
  rintro e w4 ⟨rfl, rfl⟩
  go_wp2_with fail
  go_ret
  exact ⟨by rw [Hs.out, Ht.out]; rfl, q, _, HW3.out⟩
end Go.Proofs.YtehacdijleommaaGreatDoor
namespace Go.Proofs
open Go.Shelf
shelf_lay_g SlLaysF0.n6 Slsf 6 at Tryz 21 as Tryz.sortK
end Go.Proofs
namespace Go.Proofs.YtehacdijleommaaGreatDoor
open Go.RowKit Go.Sort Go.Lib Go.Shelf

theorem ltK (x y : Ky) : ltOf cfK x y = decide (x.1 < y.1 ∨ (x.1 = y.1 ∧ x.2 < y.2)) := by
  unfold ltOf cfK orI
  by_cases h1 : x.1 < y.1
  · rw [sgn_lt h1]; simp [h1]
  · by_cases h2 : y.1 < x.1
    · rw [sgn_gt h2]; simp; omega
    · have h3 : x.1 = y.1 := by omega
      rw [sgn_eq h3, if_pos rfl]
      by_cases h4 : x.2 < y.2
      · rw [sgn_lt h4]; simp [h3, h4]
      · have h5 : ¬ sgn x.2 y.2 < 0 := by unfold sgn; rw [if_neg h4]; split <;> omega
        simp [h1, h4, h5]
theorem swoK : SWO (ltOf cfK) where
  irrefl x := by rw [ltK]; simp
  trans x y z h1 h2 := by rw [ltK] at *; simp at *; omega
  ntrans x y z h1 h2 := by rw [ltK] at *; simp at *; omega
theorem totK (x y : Ky) (h1 : ltOf cfK x y = false) (h2 : ltOf cfK y x = false) : x = y := by
  rw [ltK] at *; simp at *; apply Prod.ext <;> omega
/-- Rising. -/
def SrtK (L : List Ky) : Prop := L.Pairwise fun a b => ltOf cfK b a = false
def encKy (k : Ky) : List Value := [.int .i64 k.1, .int .i64 k.2]
theorem kc_flat (L : List Ky) (j : Nat) (hj : j < L.length * 2) : (kc L)[j]? = some ((encKy (L.toArray[j / 2]!))[j % 2]!) := by
  have h2 : j / 2 < L.length := by omega
  have hk : L[j / 2]? = some (L.toArray[j / 2]!) := by
    rw [List.getElem?_eq_getElem h2]
    simp [h2]
  have ha := kc_at L (j / 2) _ hk
  rcases Nat.mod_two_eq_zero_or_one j with h | h
  · rw [h]
    have e : j / 2 * 2 = j := by omega
    rw [e] at ha
    exact ha.1
  · rw [h]
    have e : j / 2 * 2 + 1 = j := by omega
    rw [e] at ha
    exact ha.2
theorem eg_rise : ∀ args w, (callFunc 22 args).run Tryz.prog w = .ok (.enter 22 args) w := enters_of Tryz.func22 (by kernel_rfl) rfl
theorem sortWK_other {W : World} {blk off n : Nat} {dk : Array Ky} {os : Array Obj} {y : Nat} (h1 : y ≠ blk) (h2 : y < W.heap.size) : (sortWorldK encKy 2 W blk off n dk os).heap[y]? = W.heap[y]? := by
  have h3 : y < (putRowK encKy 2 (Sort.ahead W n) blk off dk).heap.size := by simpa [putRowK, putRow, mapBlock, Sort.ahead] using h2
  show (grow (putRowK encKy 2 (Sort.ahead W n) blk off dk) os).heap[y]? = _
  simp only [grow]
  rw [Array.getElem?_append_left h3]
  simp [putRowK, putRow, mapBlock, Sort.ahead, Array.getElem?_modify, Ne.symm h1]
theorem sortWK_blk {W : World} {blk off n : Nat} {dk : Array Ky} {os : Array Obj} {cur : Array Value} {t : TypeId} {fz : Nat × Nat} (h : W.heap[blk]? = some (.cells cur t fz)) : ∃ cur', (sortWorldK encKy 2 W blk off n dk os).heap[blk]? = some (.cells cur' t fz) ∧ cur'.size = cur.size := by
  have h2 := (Array.getElem?_eq_some_iff.1 h).1
  have h3 : blk < (putRowK encKy 2 (Sort.ahead W n) blk off dk).heap.size := by simpa [putRowK, putRow, mapBlock, Sort.ahead] using h2
  refine ⟨putCells id off (flatK encKy 2 dk) cur, ?_, by simp [putCells]⟩
  show (grow (putRowK encKy 2 (Sort.ahead W n) blk off dk) os).heap[blk]? = _
  simp only [grow]
  rw [Array.getElem?_append_left h3]
  simp [putRowK, putRow, mapBlock, Sort.ahead, Array.getElem?_modify, h, onCells]
theorem sortWK_size (W : World) (blk off n : Nat) (dk : Array Ky) (os : Array Obj) : W.heap.size ≤ (sortWorldK encKy 2 W blk off n dk os).heap.size := by
  show _ ≤ (grow (putRowK encKy 2 (Sort.ahead W n) blk off dk) os).heap.size
  simp [grow, putRowK, putRow, mapBlock, Sort.ahead]
theorem cmp_laysK (blk off size : Nat) (W : World) : CmpLays Tryz.prog 22 #[] encKy 2 cfK blk off size W := by
  intro m os dk hs x y
  exact rising_any x y _
theorem sortK_any (v : Value) (B : Nat) (L : List Ky) (w : World) (h : OR w B 29 2 v L.length (kc L)) (h0 : 0 < L.length) (hl : L.length < 4611686018427387904) :
    Calls Tryz.prog 21 #[v, .func (.func 22) #[] #[]] w fun e w' => ∃ L' : List Ky, e = .returned (.tuple #[]) ∧ L'.Perm L ∧ SrtK L' ∧ OR w' B 29 2 v L.length (kc L') ∧ NF (fun x => v.ownBlock = some x) w.heap.size w w' := by
  rcases h.2 with ⟨rfl, hn⟩ | ⟨g, off, cap, cur, rfl, hg, hh, hn, hm, hsz, hc⟩
  · omega
  have hH : HoldsK encKy 2 w g off L.toArray := fun j hj => by
    rw [size_flatK] at hj
    rw [get_flatK encKy 2 L.toArray j hj]
    have hj' : j < L.length * 2 := by simpa using hj
    exact ⟨hc j _ (kc_flat L j hj'), by unfold World.frozen?; simp [hh]⟩
  have hsort := AnyQ.slices_SortFunc Tryz.sortK 2 (fun w => by kernel_rfl) (fun w => by kernel_rfl) encKy (fun _ => rfl) (fun x u hu => by simp [encKy] at hu; rcases hu with rfl | rfl <;> rfl) cfK swoK 22 #[] g off cap L.toArray w eg_rise (cmp_laysK g off _ w) hH (Array.getElem?_eq_some_iff.1 hh).1 (by simpa using hl)
  refine (show Calls Tryz.prog 21 #[.slice (some ⟨g, off, none⟩) L.length cap, .func (.func 22) #[] #[]] w _ from hsort).mono ?_
  rintro e w' ⟨rfl, d', n, os, hp, hs, rfl⟩
  obtain ⟨hp1, _, hp2⟩ := hp
  have hd : d'.toList.length = L.length := by simpa using hp1
  have hds : d'.size = L.length := by simpa using hp1
  obtain ⟨cur', hh', hsz'⟩ := sortWK_blk (off := off) (n := n) (dk := d') (os := os) hh
  have hH' : HoldsK encKy 2 (sortWorldK encKy 2 w g off n d' os) g off d' := by
    have h1 := holdsK_putRowK encKy 2 (Sort.ahead w n) g off L.toArray d' hH hp1
    refine holdsK_grow encKy 2 _ os g off d' ?_ h1
    have := (Array.getElem?_eq_some_iff.1 hh).1
    simpa [putRowK, putRow, mapBlock, Sort.ahead] using this
  refine ⟨d'.toList, rfl, ?_, ?_, ⟨by rw [kc_len, hd], .inr ⟨g, off, cap, cur', rfl, hg, hh', hn, hm, by omega, fun j u hj => ?_⟩⟩, ⟨rfl, rfl, rfl, sortWK_size w g off n d' os, fun y hy hS => sortWK_other (fun e => hS (by rw [e]; rfl)) hy⟩⟩
  · have e1 : (d'.extract 0 L.toArray.size).toList = d'.toList := by rw [← hp1]; simp
    have e2 : (L.toArray.extract 0 L.toArray.size).toList = L := by simp
    rw [e1, e2] at hp2
    exact hp2
  · unfold SrtK
    rw [List.pairwise_iff_getElem]
    intro i j hi hj hij
    have := hs i j (Nat.zero_le _) hij (by simpa [hds] using hj)
    simp only [Array.length_toList] at hi hj
    rw [getElem!_pos d' i hi, getElem!_pos d' j hj] at this
    simpa using this
  · have hjl : j < d'.size * 2 := by
      have := (List.getElem?_eq_some_iff.1 hj).1
      rw [kc_len] at this
      simpa using this
    have h1 := (hH' j (by rw [size_flatK]; exact hjl)).1
    rw [get_flatK encKy 2 d' j hjl] at h1
    have h2 := kc_flat d'.toList j (by simpa using hjl)
    rw [hj] at h2
    rw [Option.some.inj h2]
    exact h1
theorem sortK0_any (a : Option Addr) (cap : Nat) (fv : Value) (w : World) :
    Calls Tryz.prog 21 #[.slice a 0 cap, fv] w fun e w' => e = .returned (.tuple #[]) ∧ w' = w := AnyF.slices_SortFunc_none Tryz.sortK a cap fv w
end Go.Proofs.YtehacdijleommaaGreatDoor
