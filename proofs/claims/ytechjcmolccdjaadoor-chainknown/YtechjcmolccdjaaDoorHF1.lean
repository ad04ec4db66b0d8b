/-
  My own text: the law ChainKnown (printed by mkhf1.py).
-/
import Derived.Test.YtechjcmolccdjaaDoorHE6
import Derived.Test.YtechjcmolccdjaaDoorHD8
namespace Go.Proofs.YtechjcmolccdjaaDoor
open Go.RowKit Go.Shelf

/-- The chain of the example, and the world it lies in. -/
structure KX (w : World) (cb : Nat) (L : List Ver) (W : World) : Prop where
  ch : CH W cb cb L
  low : Below w.heap.size w W
  new : w.heap.size ≤ cb
theorem KX.later {w W W' : World} {cb : Nat} {L : List Ver} (h : KX w cb L W) (hb : Below W.heap.size W W') : KX w cb L W' := ⟨h.ch.later hb, h.low.trans (hb.mono h.low.size), h.new⟩
theorem KX.fr {w W W' : World} {cb : Nat} {L L' : List Ver} (h : KX w cb L W) (hc : CH W' cb cb L') (hf : Fr W W' cb) : KX w cb L' W' := ⟨hc, h.low.trans ((hf.below h.ch).mono h.new), h.new⟩
theorem lk_of {L : List Ver} (h1 : Ris L) (h2 : ∀ p ∈ L, 0 ≤ p.1) (h3 : ∀ p ∈ L, p.1 ≤ 9223372036854775807) : LK L L.length := ⟨h1, h2, h3, Nat.le_refl _⟩
theorem lk0 : LK [] 0 := LK.nil
theorem lk1 : LK [((0 : Int), [97])] 1 := lk_of ⟨by simp, trivial⟩ (by simp) (by simp)
theorem lk2 : LK [((0 : Int), [97]), (3, [98])] 2 := lk_of ⟨by simp, by simp, trivial⟩ (by simp) (by simp)
theorem lk3 : LK [((0 : Int), [97]), (3, [98]), (7, [99])] 3 := lk_of ⟨by simp, by simp, by simp, trivial⟩ (by simp) (by simp)
theorem lk4 : LK [((3 : Int), [98]), (7, [99])] 2 := lk_of ⟨by simp, by simp, trivial⟩ (by simp) (by simp)
theorem rv_blk {W : World} {g cap : Nat} {L : List Ver} {t : TypeId} {fz : Nat × Nat} (h : W.heap[g]? = some (.cells (vc L).toArray t fz)) : RV W (.slice (some ⟨g, 0, none⟩) L.length cap) L := by
  refine ⟨_, cap, rfl, fun i p hp => ⟨g, 0, rfl, ?_, ?_⟩⟩
  · rw [cell_of_row W g _ _ _ _ h, Nat.zero_add, List.getElem?_toArray]; exact (vc_at L i p hp).1
  · rw [cell_of_row W g _ _ _ _ h, Nat.zero_add, List.getElem?_toArray]; exact (vc_at L i p hp).2
def acC : List Ac → List Value
  | [] => []
  | p :: r => .bool p.1 :: .int .i64 p.2.1 :: .string ⟨p.2.2.toArray⟩ :: acC r
theorem acC_at : ∀ (L : List Ac) (j : Nat) (p : Ac), L[j]? = some p → (acC L)[j * 3]? = some (.bool p.1) ∧ (acC L)[j * 3 + 1]? = some (.int .i64 p.2.1) ∧ (acC L)[j * 3 + 2]? = some (.string ⟨p.2.2.toArray⟩)
  | q :: r, 0, p, h => by obtain rfl : q = p := Option.some.inj h; exact ⟨rfl, rfl, rfl⟩
  | q :: r, j + 1, p, h => by rw [show (j + 1) * 3 = j * 3 + 1 + 1 + 1 by omega]; exact acC_at r j p h
theorem rac_blk {W : World} {g cap n : Nat} {L : List Ac} {t : TypeId} {fz : Nat × Nat} (h : W.heap[g]? = some (.cells (acC L).toArray t fz)) (hn : n ≤ L.length) : RAc W (.slice (some ⟨g, 0, none⟩) n cap) (L.take n) := by
  refine ⟨some ⟨g, 0, none⟩, cap, by rw [List.length_take, Nat.min_eq_left hn], fun i p hp => ⟨g, 0, rfl, ?_⟩⟩
  rw [List.getElem?_take] at hp
  split at hp
  · have := acC_at L i p hp
    rw [cell_of_row W g _ _ _ _ h, cell_of_row W g _ _ _ _ h, cell_of_row W g _ _ _ _ h, Nat.zero_add, List.getElem?_toArray, List.getElem?_toArray, List.getElem?_toArray]
    exact this
  · cases hp
def opC : List Oq → List Value
  | [] => []
  | p :: r => .int .i64 p.1 :: .int .i64 p.2.1 :: .int .i64 p.2.2.1 :: .string ⟨p.2.2.2.toArray⟩ :: opC r
theorem opC_at : ∀ (L : List Oq) (j : Nat) (p : Oq), L[j]? = some p → (opC L)[j * 4]? = some (.int .i64 p.1) ∧ (opC L)[j * 4 + 1]? = some (.int .i64 p.2.1) ∧ (opC L)[j * 4 + 2]? = some (.int .i64 p.2.2.1) ∧ (opC L)[j * 4 + 3]? = some (.string ⟨p.2.2.2.toArray⟩)
  | q :: r, 0, p, h => by obtain rfl : q = p := Option.some.inj h; exact ⟨rfl, rfl, rfl, rfl⟩
  | q :: r, j + 1, p, h => by rw [show (j + 1) * 4 = j * 4 + 1 + 1 + 1 + 1 by omega]; exact opC_at r j p h
theorem rop_blk {W : World} {g cap : Nat} {L : List Oq} {t : TypeId} {fz : Nat × Nat} (h : W.heap[g]? = some (.cells (opC L).toArray t fz)) : ROp W (.slice (some ⟨g, 0, none⟩) L.length cap) L := by
  refine ⟨_, cap, rfl, fun i p hp => ⟨g, 0, rfl, ?_⟩⟩
  have := opC_at L i p hp
  rw [cell_of_row W g _ _ _ _ h, cell_of_row W g _ _ _ _ h, cell_of_row W g _ _ _ _ h, cell_of_row W g _ _ _ _ h, Nat.zero_add, List.getElem?_toArray, List.getElem?_toArray, List.getElem?_toArray, List.getElem?_toArray]
  exact this
def kEnds : List Oq := [(0, 0, 9223372036854775807, [122]), (0, 1, 9223372036854775807, []), (0, 1, 9223372036854775806, []), (0, 0, 9223372036854775807, []), (0, 3, 9223372036854775807, []), (0, 5, 0, []), (0, 2, 0, []), (0, 1, -9223372036854775808, []), (0, 3, -9223372036854775808, []), (0, 0, -9223372036854775808, [])]
def kPuts : List Ac := [(false, 3, [98]), (false, 7, [99])]
def kActs : List Ac := [(false, 9, [101]), (true, 8, [])]
def kTurned : List Ac := [(true, 8, []), (false, 9, [101]), (true, 9223372036854775807, [])]
def kFew : List Ac := [(false, 0, [97]), (false, 1, [98]), (false, 2, [99]), (false, 3, [100]), (false, 90, [101])]
/-- The rows of the examples. -/
structure KR (w : World) (gE gP gA gT gF : Nat) (W : World) : Prop where
  e : W.heap[gE]? = some (.cells (opC kEnds).toArray 29 (0, 0))
  p : W.heap[gP]? = some (.cells (acC kPuts).toArray 64 (0, 0))
  a : W.heap[gA]? = some (.cells (acC kActs).toArray 64 (0, 0))
  t : W.heap[gT]? = some (.cells (acC kTurned).toArray 64 (0, 0))
  f : W.heap[gF]? = some (.cells (acC kFew).toArray 64 (0, 0))
  low : Below w.heap.size w W
theorem KR.later {w W W' : World} {gE gP gA gT gF : Nat} (h : KR w gE gP gA gT gF W) (hb : Below W.heap.size W W') : KR w gE gP gA gT gF W' :=
  ⟨(hb.block _ (Array.getElem?_eq_some_iff.1 h.e).1).trans h.e, (hb.block _ (Array.getElem?_eq_some_iff.1 h.p).1).trans h.p, (hb.block _ (Array.getElem?_eq_some_iff.1 h.a).1).trans h.a, (hb.block _ (Array.getElem?_eq_some_iff.1 h.t).1).trans h.t, (hb.block _ (Array.getElem?_eq_some_iff.1 h.f).1).trans h.f, h.low.trans (hb.mono h.low.size)⟩
theorem rac_nil (W : World) : RAc W (.slice none 0 0) [] := ⟨none, 0, rfl, fun i p hp => by simp at hp⟩
theorem walksX {w W : World} {gE gP gA gT gF : Nat} (vp va : Value) (ps acts : List Ac) (stop : Int) (h : KR w gE gP gA gT gF W) (h1 : RAc W vp ps) (h2 : RAc W va acts) (hl : ps.length + 2 * acts.length ≤ 1099511627776) (hN : ∀ p ∈ ps, p.2.1 ≤ 9223372036854775807) (hNa : ∀ p ∈ acts, p.2.1 ≤ 9223372036854775807) :
    Calls Tryd.prog 28 #[vp, va, .int .i64 stop] W fun e w' => e = .returned (.bool true) ∧ KR w gE gP gA gT gF w' := by
  refine (walks_any vp va ps acts stop W h1 h2 hl hN hNa).mono ?_
  rintro e w' ⟨rfl, hb⟩
  exact ⟨rfl, h.later hb⟩
theorem kFewN : ∀ p ∈ kFew, p.2.1 ≤ 9223372036854775807 := by unfold kFew; simp
theorem kActsN : ∀ p ∈ kActs, p.2.1 ≤ 9223372036854775807 := by unfold kActs; simp
theorem kTurnedN : ∀ p ∈ kTurned, p.2.1 ≤ 9223372036854775807 := by unfold kTurned; simp
theorem kPutsN : ∀ p ∈ kPuts, p.2.1 ≤ 9223372036854775807 := by unfold kPuts; simp
theorem kEndsN : ∀ p ∈ kEnds, p.2.2.1 ≤ 9223372036854775807 := by unfold kEnds; simp
theorem putX {w W : World} {cb k : Nat} {L L' : List Ver} (n : Int) (s : List UInt8) (e : Int) (h : KX w cb L W) (hk : LK L k) (hl : k ≤ 5864062014804) (h1 : ptL n s L = L') (h2 : ptE n L = e) :
    Calls Tryd.prog 27 #[.pointer (some ⟨cb, 0, none⟩), .int .i64 n, .string ⟨s.toArray⟩] W fun en w' => en = .returned (errV e) ∧ KX w cb L' w' := by
  refine (put_any n s cb cb k L W h.ch hk hl).mono ?_
  rintro en w' ⟨rfl, hc, hf⟩
  refine ⟨by rw [← h2]; rfl, ?_⟩
  rw [← h1]
  exact h.fr hc hf
theorem pruneX {w W : World} {cb k m : Nat} {L L' : List Ver} (n : Int) (h : KX w cb L W) (hk : LK L k) (hl : k ≤ 5864062014804) (h1 : ab n L - 1 = m) (h2 : L.drop m = L') :
    Calls Tryd.prog 26 #[.pointer (some ⟨cb, 0, none⟩), .int .i64 n] W fun en w' => en = .returned (.int .i64 (m : Int)) ∧ KX w cb L' w' := by
  refine (prune_any n cb cb k L W h.ch hk hl).mono ?_
  rintro en w' ⟨rfl, hc, hf⟩
  rw [h1] at hc ⊢
  rw [h2] at hc
  exact ⟨rfl, h.fr hc hf⟩
theorem atX {w W : World} {cb k : Nat} {L : List Ver} (q : Int) (s : List UInt8) (b : Bool) (h : KX w cb L W) (hk : LK L k) (hl : k ≤ 5864062014804) (h1 : atS q L = s) (h2 : atB q L = b) :
    Calls Tryd.prog 24 #[.pointer (some ⟨cb, 0, none⟩), .int .i64 q] W fun en w' => en = .returned (.tuple #[.string ⟨s.toArray⟩, .bool b]) ∧ KX w cb L w' := by
  refine (atq_any q cb cb L W h.ch hk.ris (by have := hk.len; omega)).mono ?_
  rintro en w' ⟨rfl, hb⟩
  rw [h1, h2]
  exact ⟨rfl, h.later hb⟩
theorem lenX {w W : World} {cb n : Nat} {L : List Ver} (h : KX w cb L W) (h1 : L.length = n) :
    Calls Tryd.prog 11 #[.pointer (some ⟨cb, 0, none⟩)] W fun en w' => en = .returned (.int .i64 (n : Int)) ∧ KX w cb L w' := by
  refine (len_any cb cb L W h.ch).mono ?_
  rintro en w' ⟨rfl, hb⟩
  rw [h1]
  exact ⟨rfl, h.later hb⟩
theorem plainX {w W : World} {cb : Nat} {L : List Ver} (h : KX w cb L W) (HE : Hid (ErrType w)) :
    Calls Tryd.prog 18 #[.iface 86 (.int .i64 1), .int .i64 1] W fun en w' => en = .returned (.bool true) ∧ KX w cb L w' := by
  rw [← errV_pos (show (1 : Int) ≤ 1 by omega)]
  refine (plain_errV 1 1 W (by omega) (by omega) (HE.out.below h.low)).mono ?_
  rintro en w' ⟨rfl, hb⟩
  exact ⟨rfl, h.later hb⟩
set_option maxRecDepth 100000 in
set_option maxHeartbeats 8000000 in
theorem known_any (w : World) (HE : Hid (ErrType w)) :
    Calls Tryd.prog 5 #[] w fun e w' => e = .returned (.bool true) ∧ Below w.heap.size w w' := by
  have HNW := hide (new_any w)
  go_enter Tryd.func5, Tryd.ntmps5
  go_wp2_with fail
  refine HNW.out.mono ?_
  rintro e w1 ⟨rfl, hC, hb⟩
  obtain ⟨cb, hcb⟩ : ∃ cb, cb = w.heap.size := ⟨_, rfl⟩
  have X1 : Hid (KX w cb [] w1) := hide ⟨by rw [hcb]; exact hC, hb, by omega⟩
  rw [← hcb]
  clear hC hb HNW hcb
  go_wp2_with fail
  refine (works_any w1 (hide (HE.out.below X1.out.low))).mono ?_
  rintro e w2 ⟨rfl, hb⟩
  have X2 := hide (X1.out.later hb)
  clear hb X1
  go_wp2_with fail
  refine (atX 5 [] false X2.out lk0 (by omega) rfl rfl).mono ?_
  rintro e w3 ⟨rfl, hX⟩
  have X3 := hide hX
  clear hX X2
  go_wp2_with fail
  refine (lastq_any cb cb [] w3 X3.out.ch trivial (fun p hp => by cases hp) (by simp)).mono ?_
  rintro e w4 ⟨rfl, hb⟩
  have X4 := hide (X3.out.later hb)
  clear hb X3
  go_wp2_with fail
  refine (pruneX 5 (m := 0) (L' := []) X4.out lk0 (by omega) rfl rfl).mono ?_
  rintro e w5 ⟨rfl, hX⟩
  have X5 := hide hX
  clear hX X4
  go_wp2_with fail
  refine (lenX (n := 0) X5.out rfl).mono ?_
  rintro e w6 ⟨rfl, hX⟩
  have X6 := hide hX
  clear hX X5
  go_wp2_with fail
  refine (putX (-1) [120] 1 (L' := []) X6.out lk0 (by omega) rfl rfl).mono ?_
  rintro e w7 ⟨rfl, hX⟩
  have X7 := hide hX
  clear hX X6
  rw [errV_pos (show (1 : Int) ≤ 1 by omega)]
  go_wp2_with fail
  refine (putX 0 [97] 0 (L' := [((0 : Int), [97])]) X7.out lk0 (by omega) rfl rfl).mono ?_
  rintro e w8 ⟨rfl, hX⟩
  have X8 := hide hX
  clear hX X7
  rw [errV_zero]
  go_wp2_with fail
  refine (putX 0 [98] 1 (L' := [((0 : Int), [97])]) X8.out lk1 (by omega) rfl rfl).mono ?_
  rintro e w9 ⟨rfl, hX⟩
  have X9 := hide hX
  clear hX X8
  rw [errV_pos (show (1 : Int) ≤ 1 by omega)]
  go_wp2_with fail
  refine (putX 3 [98] 0 (L' := [((0 : Int), [97]), (3, [98])]) X9.out lk1 (by omega) rfl rfl).mono ?_
  rintro e w10 ⟨rfl, hX⟩
  have X10 := hide hX
  clear hX X9
  rw [errV_zero]
  go_wp2_with fail
  refine (putX 7 [99] 0 (L' := [((0 : Int), [97]), (3, [98]), (7, [99])]) X10.out lk2 (by omega) rfl rfl).mono ?_
  rintro e w11 ⟨rfl, hX⟩
  have X11 := hide hX
  clear hX X10
  rw [errV_zero]
  go_wp2_with fail
  refine (putX 4 [100] 1 (L' := [((0 : Int), [97]), (3, [98]), (7, [99])]) X11.out lk3 (by omega) rfl rfl).mono ?_
  rintro e w12 ⟨rfl, hX⟩
  have X12 := hide hX
  clear hX X11
  rw [errV_pos (show (1 : Int) ≤ 1 by omega)]
  go_wp2_with fail
  refine (plainX X12.out HE).mono ?_
  rintro e w13 ⟨rfl, hX⟩
  have X13 := hide hX
  clear hX X12
  go_wp2_with fail
  refine (plainX X13.out HE).mono ?_
  rintro e w14 ⟨rfl, hX⟩
  have X14 := hide hX
  clear hX X13
  go_wp2_with fail
  refine (plainX X14.out HE).mono ?_
  rintro e w15 ⟨rfl, hX⟩
  have X15 := hide hX
  clear hX X14
  go_wp2_with fail
  refine (allr_any cb cb [((0 : Int), [97]), (3, [98]), (7, [99])] 3 w15 X15.out.ch lk3.ris lk3.pos (by simp) (by simp)).mono ?_
  rintro e w16 ⟨v16, rfl, ho, hb⟩
  have X16 := hide (X15.out.later hb)
  have R16 := hide ho.rv
  obtain ⟨a16, c16, rfl⟩ := ho.slc
  clear ho hb X15
  obtain ⟨W17, hW17⟩ : ∃ W17, w16.alloc (.cells #[.int .i64 0, .string ⟨#[97]⟩, .int .i64 3, .string ⟨#[98]⟩, .int .i64 7, .string ⟨#[99]⟩] 62) = W17 := ⟨_, rfl⟩
  have B17 : Hid (Below w16.heap.size w16 W17) := hide (by rw [← hW17]; exact alloc_below _ _)
  have R17 : Hid (RV W17 (.slice (some ⟨w16.heap.size, 0, none⟩) 3 3) [((0 : Int), [97]), (3, [98]), (7, [99])]) := hide (by rw [← hW17]; exact rv_blk (L := [((0 : Int), [97]), (3, [98]), (7, [99])]) (t := 62) (fz := (0, 0)) (alloc_newV w16 _))
  have S17 := hide (R16.out.later B17.out)
  have X17 := hide (X16.out.later B17.out)
  clear R16 X16
  go_wp2_with fail
  refine (same_any _ _ [((0 : Int), [97]), (3, [98]), (7, [99])] W17 S17.out R17.out (by simp)).mono ?_
  rintro e w18 ⟨rfl, hb⟩
  have X18 := hide (X17.out.later hb)
  clear hb X17 R17 S17 B17 hW17
  go_wp2_with fail
  refine (pruneX 2 (m := 0) (L' := [((0 : Int), [97]), (3, [98]), (7, [99])]) X18.out lk3 (by omega) rfl rfl).mono ?_
  rintro e w19 ⟨rfl, hX⟩
  have X19 := hide hX
  clear hX X18
  go_wp2_with fail
  refine (pruneX 6 (m := 1) (L' := [((3 : Int), [98]), (7, [99])]) X19.out lk3 (by omega) rfl rfl).mono ?_
  rintro e w20 ⟨rfl, hX⟩
  have X20 := hide hX
  clear hX X19
  go_wp2_with fail
  refine (atX 2 [] false X20.out lk4 (by omega) rfl rfl).mono ?_
  rintro e w21 ⟨rfl, hX⟩
  have X21 := hide hX
  clear hX X20
  go_wp2_with fail
  refine (atX 6 [98] true X21.out lk4 (by omega) rfl rfl).mono ?_
  rintro e w22 ⟨rfl, hX⟩
  have X22 := hide hX
  clear hX X21
  go_wp2_with fail
  refine (lenX (n := 2) X22.out rfl).mono ?_
  rintro e w23 ⟨rfl, hX⟩
  have X23 := hide hX
  clear hX X22
  go_wp2_with fail
  have KR0 : Hid (KR w w23.heap.size (w23.heap.size + 1) (w23.heap.size + 1 + 1) (w23.heap.size + 1 + 1 + 1) (w23.heap.size + 1 + 1 + 1 + 1) (((((w23.alloc (.cells #[.int .i64 0, .int .i64 0, .int .i64 9223372036854775807, .string ⟨#[122]⟩, .int .i64 0, .int .i64 1, .int .i64 9223372036854775807, .string ⟨#[]⟩, .int .i64 0, .int .i64 1, .int .i64 9223372036854775806, .string ⟨#[]⟩, .int .i64 0, .int .i64 0, .int .i64 9223372036854775807, .string ⟨#[]⟩, .int .i64 0, .int .i64 3, .int .i64 9223372036854775807, .string ⟨#[]⟩, .int .i64 0, .int .i64 5, .int .i64 0, .string ⟨#[]⟩, .int .i64 0, .int .i64 2, .int .i64 0, .string ⟨#[]⟩, .int .i64 0, .int .i64 1, .int .i64 (-9223372036854775808), .string ⟨#[]⟩, .int .i64 0, .int .i64 3, .int .i64 (-9223372036854775808), .string ⟨#[]⟩, .int .i64 0, .int .i64 0, .int .i64 (-9223372036854775808), .string ⟨#[]⟩] 29)).alloc (.cells #[.bool false, .int .i64 3, .string ⟨#[98]⟩, .bool false, .int .i64 7, .string ⟨#[99]⟩] 64)).alloc (.cells #[.bool false, .int .i64 9, .string ⟨#[101]⟩, .bool true, .int .i64 8, .string ⟨#[]⟩] 64)).alloc (.cells #[.bool true, .int .i64 8, .string ⟨#[]⟩, .bool false, .int .i64 9, .string ⟨#[101]⟩, .bool true, .int .i64 9223372036854775807, .string ⟨#[]⟩] 64)).alloc (.cells #[.bool false, .int .i64 0, .string ⟨#[97]⟩, .bool false, .int .i64 1, .string ⟨#[98]⟩, .bool false, .int .i64 2, .string ⟨#[99]⟩, .bool false, .int .i64 3, .string ⟨#[100]⟩, .bool false, .int .i64 90, .string ⟨#[101]⟩] 64))) := hide (by
    have low := X23.out.low
    have hE : (w23.alloc (.cells #[.int .i64 0, .int .i64 0, .int .i64 9223372036854775807, .string ⟨#[122]⟩, .int .i64 0, .int .i64 1, .int .i64 9223372036854775807, .string ⟨#[]⟩, .int .i64 0, .int .i64 1, .int .i64 9223372036854775806, .string ⟨#[]⟩, .int .i64 0, .int .i64 0, .int .i64 9223372036854775807, .string ⟨#[]⟩, .int .i64 0, .int .i64 3, .int .i64 9223372036854775807, .string ⟨#[]⟩, .int .i64 0, .int .i64 5, .int .i64 0, .string ⟨#[]⟩, .int .i64 0, .int .i64 2, .int .i64 0, .string ⟨#[]⟩, .int .i64 0, .int .i64 1, .int .i64 (-9223372036854775808), .string ⟨#[]⟩, .int .i64 0, .int .i64 3, .int .i64 (-9223372036854775808), .string ⟨#[]⟩, .int .i64 0, .int .i64 0, .int .i64 (-9223372036854775808), .string ⟨#[]⟩] 29)).heap[w23.heap.size]? = some (.cells (opC kEnds).toArray 29 (0, 0)) := alloc_newV w23 _
    have bE := alloc_below w23 (.cells #[.int .i64 0, .int .i64 0, .int .i64 9223372036854775807, .string ⟨#[122]⟩, .int .i64 0, .int .i64 1, .int .i64 9223372036854775807, .string ⟨#[]⟩, .int .i64 0, .int .i64 1, .int .i64 9223372036854775806, .string ⟨#[]⟩, .int .i64 0, .int .i64 0, .int .i64 9223372036854775807, .string ⟨#[]⟩, .int .i64 0, .int .i64 3, .int .i64 9223372036854775807, .string ⟨#[]⟩, .int .i64 0, .int .i64 5, .int .i64 0, .string ⟨#[]⟩, .int .i64 0, .int .i64 2, .int .i64 0, .string ⟨#[]⟩, .int .i64 0, .int .i64 1, .int .i64 (-9223372036854775808), .string ⟨#[]⟩, .int .i64 0, .int .i64 3, .int .i64 (-9223372036854775808), .string ⟨#[]⟩, .int .i64 0, .int .i64 0, .int .i64 (-9223372036854775808), .string ⟨#[]⟩] 29)
    have zE : (w23.alloc (.cells #[.int .i64 0, .int .i64 0, .int .i64 9223372036854775807, .string ⟨#[122]⟩, .int .i64 0, .int .i64 1, .int .i64 9223372036854775807, .string ⟨#[]⟩, .int .i64 0, .int .i64 1, .int .i64 9223372036854775806, .string ⟨#[]⟩, .int .i64 0, .int .i64 0, .int .i64 9223372036854775807, .string ⟨#[]⟩, .int .i64 0, .int .i64 3, .int .i64 9223372036854775807, .string ⟨#[]⟩, .int .i64 0, .int .i64 5, .int .i64 0, .string ⟨#[]⟩, .int .i64 0, .int .i64 2, .int .i64 0, .string ⟨#[]⟩, .int .i64 0, .int .i64 1, .int .i64 (-9223372036854775808), .string ⟨#[]⟩, .int .i64 0, .int .i64 3, .int .i64 (-9223372036854775808), .string ⟨#[]⟩, .int .i64 0, .int .i64 0, .int .i64 (-9223372036854775808), .string ⟨#[]⟩] 29)).heap.size = w23.heap.size + 1 := by simp
    generalize (w23.alloc (.cells #[.int .i64 0, .int .i64 0, .int .i64 9223372036854775807, .string ⟨#[122]⟩, .int .i64 0, .int .i64 1, .int .i64 9223372036854775807, .string ⟨#[]⟩, .int .i64 0, .int .i64 1, .int .i64 9223372036854775806, .string ⟨#[]⟩, .int .i64 0, .int .i64 0, .int .i64 9223372036854775807, .string ⟨#[]⟩, .int .i64 0, .int .i64 3, .int .i64 9223372036854775807, .string ⟨#[]⟩, .int .i64 0, .int .i64 5, .int .i64 0, .string ⟨#[]⟩, .int .i64 0, .int .i64 2, .int .i64 0, .string ⟨#[]⟩, .int .i64 0, .int .i64 1, .int .i64 (-9223372036854775808), .string ⟨#[]⟩, .int .i64 0, .int .i64 3, .int .i64 (-9223372036854775808), .string ⟨#[]⟩, .int .i64 0, .int .i64 0, .int .i64 (-9223372036854775808), .string ⟨#[]⟩] 29)) = V1 at *
    have hP : (V1.alloc (.cells #[.bool false, .int .i64 3, .string ⟨#[98]⟩, .bool false, .int .i64 7, .string ⟨#[99]⟩] 64)).heap[V1.heap.size]? = some (.cells (acC kPuts).toArray 64 (0, 0)) := alloc_newV V1 _
    have bP := alloc_below V1 (.cells #[.bool false, .int .i64 3, .string ⟨#[98]⟩, .bool false, .int .i64 7, .string ⟨#[99]⟩] 64)
    have zP : (V1.alloc (.cells #[.bool false, .int .i64 3, .string ⟨#[98]⟩, .bool false, .int .i64 7, .string ⟨#[99]⟩] 64)).heap.size = V1.heap.size + 1 := by simp
    rw [zE] at hP zP
    generalize (V1.alloc (.cells #[.bool false, .int .i64 3, .string ⟨#[98]⟩, .bool false, .int .i64 7, .string ⟨#[99]⟩] 64)) = V2 at *
    have hA : (V2.alloc (.cells #[.bool false, .int .i64 9, .string ⟨#[101]⟩, .bool true, .int .i64 8, .string ⟨#[]⟩] 64)).heap[V2.heap.size]? = some (.cells (acC kActs).toArray 64 (0, 0)) := alloc_newV V2 _
    have bA := alloc_below V2 (.cells #[.bool false, .int .i64 9, .string ⟨#[101]⟩, .bool true, .int .i64 8, .string ⟨#[]⟩] 64)
    have zA : (V2.alloc (.cells #[.bool false, .int .i64 9, .string ⟨#[101]⟩, .bool true, .int .i64 8, .string ⟨#[]⟩] 64)).heap.size = V2.heap.size + 1 := by simp
    rw [zP] at hA zA
    generalize (V2.alloc (.cells #[.bool false, .int .i64 9, .string ⟨#[101]⟩, .bool true, .int .i64 8, .string ⟨#[]⟩] 64)) = V3 at *
    have hT : (V3.alloc (.cells #[.bool true, .int .i64 8, .string ⟨#[]⟩, .bool false, .int .i64 9, .string ⟨#[101]⟩, .bool true, .int .i64 9223372036854775807, .string ⟨#[]⟩] 64)).heap[V3.heap.size]? = some (.cells (acC kTurned).toArray 64 (0, 0)) := alloc_newV V3 _
    have bT := alloc_below V3 (.cells #[.bool true, .int .i64 8, .string ⟨#[]⟩, .bool false, .int .i64 9, .string ⟨#[101]⟩, .bool true, .int .i64 9223372036854775807, .string ⟨#[]⟩] 64)
    have zT : (V3.alloc (.cells #[.bool true, .int .i64 8, .string ⟨#[]⟩, .bool false, .int .i64 9, .string ⟨#[101]⟩, .bool true, .int .i64 9223372036854775807, .string ⟨#[]⟩] 64)).heap.size = V3.heap.size + 1 := by simp
    rw [zA] at hT zT
    generalize (V3.alloc (.cells #[.bool true, .int .i64 8, .string ⟨#[]⟩, .bool false, .int .i64 9, .string ⟨#[101]⟩, .bool true, .int .i64 9223372036854775807, .string ⟨#[]⟩] 64)) = V4 at *
    have hF : (V4.alloc (.cells #[.bool false, .int .i64 0, .string ⟨#[97]⟩, .bool false, .int .i64 1, .string ⟨#[98]⟩, .bool false, .int .i64 2, .string ⟨#[99]⟩, .bool false, .int .i64 3, .string ⟨#[100]⟩, .bool false, .int .i64 90, .string ⟨#[101]⟩] 64)).heap[V4.heap.size]? = some (.cells (acC kFew).toArray 64 (0, 0)) := alloc_newV V4 _
    have bF := alloc_below V4 (.cells #[.bool false, .int .i64 0, .string ⟨#[97]⟩, .bool false, .int .i64 1, .string ⟨#[98]⟩, .bool false, .int .i64 2, .string ⟨#[99]⟩, .bool false, .int .i64 3, .string ⟨#[100]⟩, .bool false, .int .i64 90, .string ⟨#[101]⟩] 64)
    have zF : (V4.alloc (.cells #[.bool false, .int .i64 0, .string ⟨#[97]⟩, .bool false, .int .i64 1, .string ⟨#[98]⟩, .bool false, .int .i64 2, .string ⟨#[99]⟩, .bool false, .int .i64 3, .string ⟨#[100]⟩, .bool false, .int .i64 90, .string ⟨#[101]⟩] 64)).heap.size = V4.heap.size + 1 := by simp
    rw [zT] at hF zF
    generalize (V4.alloc (.cells #[.bool false, .int .i64 0, .string ⟨#[97]⟩, .bool false, .int .i64 1, .string ⟨#[98]⟩, .bool false, .int .i64 2, .string ⟨#[99]⟩, .bool false, .int .i64 3, .string ⟨#[100]⟩, .bool false, .int .i64 90, .string ⟨#[101]⟩] 64)) = V5 at *
    have bAll := bP.trans (((bA.trans ((bT.trans (bF.mono bT.size)).mono bA.size))).mono bP.size)
    have bAT := bA.trans ((bT.trans (bF.mono bT.size)).mono bA.size)
    have bTF := bT.trans (bF.mono bT.size)
    exact ⟨(bAll.block _ (by omega)).trans hE, (bAT.block _ (by omega)).trans hP, (bTF.block _ (by omega)).trans hA, (bF.block _ (by omega)).trans hT, hF, (low.trans (bE.mono low.size)).trans (bAll.mono (Nat.le_trans low.size bE.size))⟩)
  generalize (((((w23.alloc (.cells #[.int .i64 0, .int .i64 0, .int .i64 9223372036854775807, .string ⟨#[122]⟩, .int .i64 0, .int .i64 1, .int .i64 9223372036854775807, .string ⟨#[]⟩, .int .i64 0, .int .i64 1, .int .i64 9223372036854775806, .string ⟨#[]⟩, .int .i64 0, .int .i64 0, .int .i64 9223372036854775807, .string ⟨#[]⟩, .int .i64 0, .int .i64 3, .int .i64 9223372036854775807, .string ⟨#[]⟩, .int .i64 0, .int .i64 5, .int .i64 0, .string ⟨#[]⟩, .int .i64 0, .int .i64 2, .int .i64 0, .string ⟨#[]⟩, .int .i64 0, .int .i64 1, .int .i64 (-9223372036854775808), .string ⟨#[]⟩, .int .i64 0, .int .i64 3, .int .i64 (-9223372036854775808), .string ⟨#[]⟩, .int .i64 0, .int .i64 0, .int .i64 (-9223372036854775808), .string ⟨#[]⟩] 29)).alloc (.cells #[.bool false, .int .i64 3, .string ⟨#[98]⟩, .bool false, .int .i64 7, .string ⟨#[99]⟩] 64)).alloc (.cells #[.bool false, .int .i64 9, .string ⟨#[101]⟩, .bool true, .int .i64 8, .string ⟨#[]⟩] 64)).alloc (.cells #[.bool true, .int .i64 8, .string ⟨#[]⟩, .bool false, .int .i64 9, .string ⟨#[101]⟩, .bool true, .int .i64 9223372036854775807, .string ⟨#[]⟩] 64)).alloc (.cells #[.bool false, .int .i64 0, .string ⟨#[97]⟩, .bool false, .int .i64 1, .string ⟨#[98]⟩, .bool false, .int .i64 2, .string ⟨#[99]⟩, .bool false, .int .i64 3, .string ⟨#[100]⟩, .bool false, .int .i64 90, .string ⟨#[101]⟩] 64)) = WL at *
  obtain ⟨gF, hgF⟩ : ∃ gF, gF = w23.heap.size + 1 + 1 + 1 + 1 := ⟨_, rfl⟩
  rw [← hgF] at KR0 ⊢
  obtain ⟨gT, hgT⟩ : ∃ gT, gT = w23.heap.size + 1 + 1 + 1 := ⟨_, rfl⟩
  rw [← hgT] at KR0 ⊢
  obtain ⟨gA, hgA⟩ : ∃ gA, gA = w23.heap.size + 1 + 1 := ⟨_, rfl⟩
  rw [← hgA] at KR0 ⊢
  obtain ⟨gP, hgP⟩ : ∃ gP, gP = w23.heap.size + 1 := ⟨_, rfl⟩
  rw [← hgP] at KR0 ⊢
  obtain ⟨gE, hgE⟩ : ∃ gE, gE = w23.heap.size := ⟨_, rfl⟩
  rw [← hgE] at KR0 ⊢
  clear hgF hgT hgA hgP hgE X23
  have RF := hide (fun (V : World) (n : Nat) (h : KR w gE gP gA gT gF V) (hn : n ≤ 5) => rac_blk (cap := 5) h.f (show n ≤ kFew.length from hn))
  have RP := hide (fun (V : World) (h : KR w gE gP gA gT gF V) => rac_blk (cap := 2) h.p (show 2 ≤ kPuts.length from Nat.le_refl _))
  have RA := hide (fun (V : World) (h : KR w gE gP gA gT gF V) => rac_blk (cap := 2) h.a (show 2 ≤ kActs.length from Nat.le_refl _))
  have RT := hide (fun (V : World) (h : KR w gE gP gA gT gF V) => rac_blk (cap := 3) h.t (show 3 ≤ kTurned.length from Nat.le_refl _))
  go_loopw [18] (fun i wr => ∃ k : Nat, k ≤ 8 ∧ i = .int .i64 (k : Int) ∧ Hid (KR w gE gP gA gT gF wr)) (fun i _ => 8 - (intOf i).toNat)
  case atStart => exact ⟨0, by omega, rfl, KR0⟩
  case round =>
    clear KR0
    obtain ⟨k, hk, rfl, KK⟩ := hrel
    by_cases hlt : k < 8
    · have hd1 : decide ((k : Int) < 8) = true := decide_eq_true (by omega)
      have wk : wrap64 ((k : Int) + 1) = (k : Int) + 1 := by unfold wrap64; omega
      obtain ⟨m, hm⟩ : ∃ m, m = k % 5 := ⟨_, rfl⟩
      have hr : (k : Int).tmod 5 = (m : Int) := by rw [Int.tmod_eq_emod_of_nonneg (by omega)]; omega
      have m0 : (0 : Int) ≤ (m : Int) := by omega
      have m5 : (m : Int) ≤ 5 := by omega
      have HM : Hid (m ≤ 5) := hide (by omega)
      clear hm
      go_wp2_with fail
      refine (walksX _ _ _ [] (k : Int) KK.out (RF.out wr 5 KK.out (by omega)) (rac_nil wr) (by decide) kFewN (fun p hp => by cases hp)).mono ?_
      rintro e w2 ⟨rfl, hK2⟩
      have K2 := hide hK2
      clear hK2 KK
      go_wp2_with fail
      refine (walksX _ _ _ _ (k : Int) K2.out (RF.out w2 5 K2.out (by omega)) (RA.out w2 K2.out) (by decide) kFewN kActsN).mono ?_
      rintro e w3 ⟨rfl, hK3⟩
      have K3 := hide hK3
      clear hK3 K2
      go_wp2_with fail
      refine (walksX _ _ _ _ (k : Int) K3.out (RF.out w3 m K3.out HM.out) (RT.out w3 K3.out) (by rw [List.length_take]; have : (kTurned.take 3).length = 3 := rfl; omega) (fun p hp => kFewN p (List.mem_of_mem_take hp)) kTurnedN).mono ?_
      rintro e w4 ⟨rfl, hK4⟩
      have K4 := hide hK4
      clear hK4 K3
      go_wp2_with fail
      go_roundw
      case rel => exact ⟨k + 1, by omega, by go_num, K4⟩
      case measure => simp [intOf]; omega
    · have e : k = 8 := by omega
      subst e
      rw [show ((8 : Nat) : Int) = 8 from rfl]
      go_wp2_with fail
      refine (script_any (.slice (some ⟨gE, 0, none⟩) 10 10) kEnds wr (rop_blk (L := kEnds) (cap := 10) KK.out.e) (by decide) kEndsN (hide (HE.out.below KK.out.low))).mono ?_
      rintro e w2 ⟨rfl, hb⟩
      have K2 := hide (KK.out.later hb)
      clear hb KK
      go_wp2_with fail
      refine (walksX _ _ _ _ 0 K2.out (RP.out w2 K2.out) (RA.out w2 K2.out) (by decide) kPutsN kActsN).mono ?_
      rintro e w3 ⟨rfl, hK3⟩
      have K3 := hide hK3
      clear hK3 K2
      go_wp2_with fail
      refine (walksX _ _ _ _ 0 K3.out (RP.out w3 K3.out) (RT.out w3 K3.out) (by decide) kPutsN kTurnedN).mono ?_
      rintro e w4 ⟨rfl, hK4⟩
      have K4 := hide hK4
      clear hK4 K3
      go_wp2_with fail
      refine (walksX _ _ _ _ 2 K4.out (RP.out w4 K4.out) (RT.out w4 K4.out) (by decide) kPutsN kTurnedN).mono ?_
      rintro e w5 ⟨rfl, hK5⟩
      have K5 := hide hK5
      clear hK5 K4
      go_wp2_with fail
      refine (walksX _ _ [] _ 0 K5.out (rac_nil w5) (RA.out w5 K5.out) (by decide) (fun p hp => by cases hp) kActsN).mono ?_
      rintro e w6 ⟨rfl, hK6⟩
      have K6 := hide hK6
      clear hK6 K5
      go_wp2_with fail
      go_ret
      exact ⟨rfl, K6.out.low⟩
end Go.Proofs.YtechjcmolccdjaaDoor
