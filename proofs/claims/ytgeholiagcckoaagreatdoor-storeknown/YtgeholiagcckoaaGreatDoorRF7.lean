/-
  My own text: RF1, RF2, RF3, RF4, RF5, RF6, RF7 in one.
-/
import Derived.Test.YtgeholiagcckoaaGreatDoorSM10
import Derived.Test.YtgeholiagcckoaaGreatDoorHD5
namespace Go.Proofs.YtgeholiagcckoaaGreatDoor
open Go.RowKit

/-- A row of the document's store: a key, its versions, the value that holds them. -/
abbrev Rw := Ky × List Ver × Value
def rwc : List Rw → List Value
  | [] => []
  | p :: r => .int .i64 p.1.1 :: .int .i64 p.1.2 :: p.2.2 :: rwc r
theorem rwc_len : ∀ l : List Rw, (rwc l).length = l.length * 3
  | [] => rfl
  | p :: r => by simp only [rwc, List.length_cons, rwc_len r]; omega
theorem rwc_app : ∀ a b : List Rw, rwc (a ++ b) = rwc a ++ rwc b
  | [], _ => rfl
  | p :: r, b => by simp only [List.cons_append, rwc, rwc_app r b]
theorem rwc_at : ∀ (L : List Rw) (j : Nat) (p : Rw), L[j]? = some p → (rwc L)[j * 3]? = some (.int .i64 p.1.1) ∧ (rwc L)[j * 3 + 1]? = some (.int .i64 p.1.2) ∧ (rwc L)[j * 3 + 2]? = some p.2.2
  | q :: r, 0, p, h => by
    obtain rfl : q = p := Option.some.inj h
    exact ⟨rfl, rfl, rfl⟩
  | q :: r, j + 1, p, h => by
    have := rwc_at r j p h
    rw [show (j + 1) * 3 = j * 3 + 1 + 1 + 1 by omega]
    exact this
/-- Readers: a number, and whether it has ended. -/
def rdc : List (Int × Bool) → List Value
  | [] => []
  | p :: r => .int .i64 p.1 :: .bool p.2 :: rdc r
/-- The place of a key's row. -/
def rat (R : List Rw) (k : Ky) : Int := match R.findIdx? fun p => decide (p.1 = k) with
  | some i => (i : Int)
  | none => -1
/-- The document's store. H: its blocks. -/
structure RF (B : Nat) (W : World) (rb : Nat) (sh : Int) (R : List Rw) (D : List (Int × Bool)) (vr vd : Value) (kk : Nat) (H : Nat → Prop) : Prop where
  hdr : W.heap[rb]? = some (.cells #[.int .i64 sh, vr, vd] 92 (0, 0))
  rows : OR W B 129 3 vr R.length (rwc R)
  rds : OR W B 166 2 vd D.length (rdc D)
  ver : ∀ p ∈ R, OR W B 180 2 p.2.2 p.2.1.length (vc p.2.1) ∧ LK p.2.1 kk
  nd : (R.map (·.1)).Nodup
  hb : H rb
  hr : ∀ g, vr.ownBlock = some g → H g
  hd : ∀ g, vd.ownBlock = some g → H g
  hv : ∀ p ∈ R, ∀ g, p.2.2.ownBlock = some g → H g
  lt : ∀ x, H x → B ≤ x ∧ x < W.heap.size
  len : R.length ≤ kk ∧ D.length ≤ kk
theorem RF.kept {B : Nat} {W W' : World} {rb : Nat} {sh : Int} {R : List Rw} {D : List (Int × Bool)} {vr vd : Value} {kk : Nat} {H : Nat → Prop} (h : RF B W rb sh R D vr vd kk H) (hk : ∀ x, H x → W'.heap[x]? = W.heap[x]?) (hs : W.heap.size ≤ W'.heap.size) : RF B W' rb sh R D vr vd kk H :=
  ⟨(hk rb h.hb).trans h.hdr, h.rows.kept (fun g hg => hk g (h.hr g hg)), h.rds.kept (fun g hg => hk g (h.hd g hg)), fun p hp => ⟨(h.ver p hp).1.kept (fun g hg => hk g (h.hv p hp g hg)), (h.ver p hp).2⟩, h.nd, h.hb, h.hr, h.hd, h.hv, fun x hx => ⟨(h.lt x hx).1, Nat.lt_of_lt_of_le (h.lt x hx).2 hs⟩, h.len⟩
theorem RF.later {B : Nat} {W W' : World} {rb : Nat} {sh : Int} {R : List Rw} {D : List (Int × Bool)} {vr vd : Value} {kk : Nat} {H : Nat → Prop} (h : RF B W rb sh R D vr vd kk H) (hb : Below W.heap.size W W') : RF B W' rb sh R D vr vd kk H :=
  h.kept (fun x hx => hb.block x (h.lt x hx).2) hb.size
theorem OR.rowAt {W : World} {B : Nat} {v : Value} {R : List Rw} (h : OR W B 129 3 v R.length (rwc R)) : ∃ a cap, v = .slice a R.length cap ∧ ∀ (i : Nat) (p : Rw), R[i]? = some p → ∃ g off, a = some ⟨g, off, none⟩ ∧ W.cell? ⟨g, off + i * 3, none⟩ = some (.int .i64 p.1.1) ∧ W.cell? ⟨g, off + i * 3 + 1, none⟩ = some (.int .i64 p.1.2) ∧ W.cell? ⟨g, off + i * 3 + 2, none⟩ = some p.2.2 := by
  rcases h.2 with ⟨rfl, h0⟩ | ⟨g, off, cap, cur, rfl, _, _, _, _, _, h5⟩
  · refine ⟨none, 0, by rw [h0], fun i k hk => ?_⟩
    have := (List.getElem?_eq_some_iff.1 hk).1
    omega
  · refine ⟨_, cap, rfl, fun i p hp => ⟨g, off, rfl, ?_, ?_, ?_⟩⟩
    · exact h5 _ _ (rwc_at R i p hp).1
    · have := h5 _ _ (rwc_at R i p hp).2.1
      rw [← Nat.add_assoc] at this; exact this
    · have := h5 _ _ (rwc_at R i p hp).2.2
      rw [← Nat.add_assoc] at this; exact this
theorem rat_some {R : List Rw} {k : Ky} {i : Nat} {p : Rw} (hp : R[i]? = some p) (hk : p.1 = k) (hb : ∀ j, j < i → ∀ q : Rw, R[j]? = some q → q.1 ≠ k) : rat R k = (i : Int) := by
  have hi := (List.getElem?_eq_some_iff.1 hp).1
  have : R.findIdx? (fun p => decide (p.1 = k)) = some i := by
    rw [List.findIdx?_eq_some_iff_getElem]
    refine ⟨hi, ?_, fun j hj => ?_⟩
    · rw [(List.getElem?_eq_some_iff.1 hp).2]; exact decide_eq_true hk
    · have := hb j hj _ (List.getElem?_eq_getElem (by omega))
      simpa using this
  unfold rat; rw [this]
theorem rat_none {R : List Rw} {k : Ky} (hb : ∀ (j : Nat) (q : Rw), R[j]? = some q → q.1 ≠ k) : rat R k = -1 := by
  have : R.findIdx? (fun p => decide (p.1 = k)) = none := by
    rw [List.findIdx?_eq_none_iff]
    intro q hq
    obtain ⟨j, hj⟩ := List.getElem?_of_mem hq
    simpa using hb j q hj
  unfold rat; rw [this]
theorem Tryz.eqKy (x y a b : Int) (w : World) : (binOp .eql 26 (.agg #[.int .i64 x, .int .i64 y]) (.agg #[.int .i64 a, .int .i64 b])).run Tryz.prog w = .ok (.bool (decide (x = a) && decide (y = b))) w := by
  by_cases h1 : x = a <;> by_cases h2 : y = b <;> simp [go_sem, h1, h2]
set_option maxRecDepth 100000 in
set_option maxHeartbeats 1000000 in
theorem rAt_any (k : Ky) (B rb : Nat) (sh : Int) (R : List Rw) (D : List (Int × Bool)) (vr vd : Value) (kk : Nat) (H : Nat → Prop) (w : World) (h : RF B w rb sh R D vr vd kk H) (hl : kk ≤ 4611686018427387904) :
    Calls Tryz.prog 114 #[.pointer (some ⟨rb, 0, none⟩), .agg #[.int .i64 k.1, .int .i64 k.2]] w fun e w' => e = .returned (.int .i64 (rat R k)) ∧ Below w.heap.size w w' := by
  have c0 : w.cell? ⟨rb, 1, none⟩ = some vr := by rw [cell_of_row _ _ 1 _ _ _ h.hdr]; rfl
  have hrl := h.len.1
  obtain ⟨a, cap, rfl, hc⟩ := h.rows.rowAt
  have HC := hide hc
  have hq := Tryz.eqKy
  obtain ⟨k1, k2⟩ := k
  clear h hc
  dsimp only
  go_enter Tryz.func114, Tryz.ntmps114
  go_wp2_with fail
  obtain ⟨w1, hw1⟩ : ∃ w1, w1 = w.alloc (Obj.cells #[.int .i64 k1, .int .i64 k2] 26) := ⟨_, rfl⟩
  rw [← hw1]
  have HW := hide (show Below w.heap.size w w1 by rw [hw1]; exact (Below.refl _ _).alloc (Nat.le_refl _) _)
  have b0 : w1.heap[w.heap.size]? = some (.cells #[.int .i64 k1, .int .i64 k2] 26 (0, 0)) := by rw [hw1]; exact alloc_newV w _
  have x0 : w1.cell? ⟨w.heap.size, 0, none⟩ = some (.int .i64 k1) := by rw [cell_of_row _ _ 0 _ _ _ b0]; rfl
  have x1 : w1.cell? ⟨w.heap.size, 1, none⟩ = some (.int .i64 k2) := by rw [cell_of_row _ _ 1 _ _ _ b0]; rfl
  have HX := hide (And.intro x0 x1)
  have HC0 := hide c0
  clear hw1 b0 x0 x1 c0
  go_loopw [5] (fun i wr => ∃ j : Nat, j ≤ R.length ∧ i = .int .i64 (j : Int) ∧ Hid (∀ x, x < j → ∀ q : Rw, R[x]? = some q → q.1 ≠ (k1, k2)) ∧ Hid (Below w1.heap.size w1 wr)) (fun i _ => R.length - (intOf i).toNat)
  case atStart => exact ⟨0, Nat.zero_le _, rfl, hide (fun x hx => absurd hx (Nat.not_lt_zero _)), hide (Below.refl _ _)⟩
  case round =>
    obtain ⟨j, hj, rfl, HN, HB⟩ := hrel
    have HBW := hide (HW.out.trans (HB.out.mono HW.out.size))
    have z0 : wr.cell? ⟨rb, 1, none⟩ = some (.slice a R.length cap) := (HBW.out.cell (p := ⟨rb, 1, none⟩) (World.block_lt_of_cell? _ _ HC0.out)).trans HC0.out
    by_cases hlt : j < R.length
    · obtain ⟨⟨⟨p1, p2⟩, L, v⟩, hp⟩ : ∃ p, R[j]? = some p := ⟨_, List.getElem?_eq_getElem hlt⟩
      obtain ⟨g, off, rfl, d0, d1, _⟩ := HC.out j _ hp
      have hgl : g < w.heap.size := World.block_lt_of_cell? _ _ d0
      have e0 : wr.cell? ⟨g, off + j * 3, none⟩ = some (.int .i64 p1) := (HBW.out.cell (p := ⟨g, _, none⟩) hgl).trans d0
      have e1 : wr.cell? ⟨g, off + j * 3 + 1, none⟩ = some (.int .i64 p2) := (HBW.out.cell (p := ⟨g, _, none⟩) hgl).trans d1
      have f0 : wr.cell? ⟨w.heap.size, 0, none⟩ = some (.int .i64 k1) := (HB.out.cell (p := ⟨w.heap.size, _, none⟩) (World.block_lt_of_cell? _ _ HX.out.1)).trans HX.out.1
      have f1 : wr.cell? ⟨w.heap.size, 1, none⟩ = some (.int .i64 k2) := (HB.out.cell (p := ⟨w.heap.size, _, none⟩) (World.block_lt_of_cell? _ _ HX.out.2)).trans HX.out.2
      clear d0 d1 hgl
      have hd1 : decide ((j : Int) < (R.length : Int)) = true := by rw [decide_eq_true_eq]; omega
      have j0 : (0 : Int) ≤ (j : Int) := by omega
      have j1 : (j : Int) < (R.length : Int) := by omega
      have wk : wrap64 ((j : Int) + 1) = (j : Int) + 1 := by unfold wrap64; omega
      have HX0 := hide ((Below.refl wr.heap.size wr).drew)
      haveI : Nonempty (Gr wr) := ⟨⟨_, HX0.out⟩⟩
      have yz : ∀ x : Gr wr, x.1.cell? ⟨rb, 1, none⟩ = some (.slice (some ⟨g, off, none⟩) R.length cap) := fun x => (x.2.cell (p := ⟨rb, _, none⟩) (World.block_lt_of_cell? _ _ z0)).trans z0
      have y0 : ∀ x : Gr wr, x.1.cell? ⟨g, off + j * 3, none⟩ = some (.int .i64 p1) := fun x => (x.2.cell (p := ⟨g, _, none⟩) (World.block_lt_of_cell? _ _ e0)).trans e0
      have y1 : ∀ x : Gr wr, x.1.cell? ⟨g, off + j * 3 + 1, none⟩ = some (.int .i64 p2) := fun x => (x.2.cell (p := ⟨g, _, none⟩) (World.block_lt_of_cell? _ _ e1)).trans e1
      have y2 : ∀ x : Gr wr, x.1.cell? ⟨w.heap.size, 0, none⟩ = some (.int .i64 k1) := fun x => (x.2.cell (p := ⟨w.heap.size, _, none⟩) (World.block_lt_of_cell? _ _ f0)).trans f0
      have y3 : ∀ x : Gr wr, x.1.cell? ⟨w.heap.size, 1, none⟩ = some (.int .i64 k2) := fun x => (x.2.cell (p := ⟨w.heap.size, _, none⟩) (World.block_lt_of_cell? _ _ f1)).trans f1
      have yq : ∀ x : Gr wr, (binOp .eql 26 (.agg #[.int .i64 p1, .int .i64 p2]) (.agg #[.int .i64 k1, .int .i64 k2])).run Tryz.prog x.1 = .ok (.bool (decide (p1 = k1) && decide (p2 = k2))) x.1 := fun x => hq p1 p2 k1 k2 x.1
      go_wp2_with fail
      refine region_class (C := fun w' => ∃ x : Gr wr, w' = x.1) (by kernel_rfl) (by kernel_rfl) ⟨⟨_, HX0.out⟩, rfl⟩ ?_
      repeat (first
        | go_big_quiet_skip
        | (go_big_quiet_want; (go_big_quiet_op; go_big_quiet_on)))
      refine wpQuiet_nil ?_
      rintro w3 ⟨x, rfl⟩
      obtain ⟨w3, hx3⟩ := x
      dsimp only
      have HB3 := hide (HB.out.trans (hx3.mono HB.out.size))
      clear yz y0 y1 y2 y3 yq this HX0 hx3 e0 e1 f0 f1 z0
      obtain ⟨bq, hbq⟩ : ∃ bq, (decide (p1 = k1) && decide (p2 = k2)) = bq := ⟨_, rfl⟩
      rw [hbq]
      have HQ : Hid (decide ((p1, p2) = (k1, k2)) = bq) := hide (by rw [← hbq, ← Bool.decide_and, decide_eq_decide, Prod.mk.injEq])
      clear hbq
      cases bq with
      | true =>
        have HR := hide (rat_some hp (of_decide_eq_true HQ.out) HN.out)
        clear HQ
        go_wp2_with fail
        go_ret
        exact ⟨by rw [HR.out]; rfl, HW.out.trans (HB3.out.mono HW.out.size)⟩
      | false =>
        have HK := hide (of_decide_eq_false HQ.out)
        clear HQ
        go_wp2_with fail
        go_roundw
        case rel =>
          refine ⟨j + 1, by omega, by go_num, hide ?_, HB3⟩
          intro x hx q hq2
          by_cases hxj : x = j
          · subst hxj
            rw [hp] at hq2
            obtain rfl := Option.some.inj hq2
            exact HK.out
          · exact HN.out x (by omega) q hq2
        case measure => simp [intOf]; omega
    · have e : j = R.length := by omega
      subst e
      have HR := hide (rat_none (R := R) (k := (k1, k2)) (fun x q hx => HN.out x (List.getElem?_eq_some_iff.1 hx).1 q hx))
      go_wp2_with fail
      go_ret
      exact ⟨by rw [HR.out]; rfl, HBW.out⟩
end Go.Proofs.YtgeholiagcckoaaGreatDoor
namespace Go.Proofs.YtgeholiagcckoaaGreatDoor
open Go.RowKit

/-- The row of a key. -/
def rgo (R : List Rw) (k : Ky) : List Ver := match R.find? fun p => decide (p.1 = k) with
  | some p => p.2.1
  | none => []
theorem rat_cases (R : List Rw) (k : Ky) : (rat R k = -1 ∧ rgo R k = [] ∧ ∀ p ∈ R, p.1 ≠ k) ∨ ∃ (i : Nat) (p : Rw), R[i]? = some p ∧ p.1 = k ∧ rat R k = (i : Int) ∧ rgo R k = p.2.1 := by
  induction R with
  | nil => exact Or.inl ⟨rfl, rfl, fun p hp => absurd hp (List.not_mem_nil)⟩
  | cons q r ih =>
    by_cases hq : q.1 = k
    · exact Or.inr ⟨0, q, rfl, hq, by simp [rat, List.findIdx?_cons, hq], by simp [rgo, hq]⟩
    · rcases ih with ⟨h1, h2, h3⟩ | ⟨i, p, h1, h2, h3, h4⟩
      · refine Or.inl ⟨rat_none ?_, by simpa [rgo, hq] using h2, ?_⟩
        · intro j x hx
          cases j with
          | zero => obtain rfl := Option.some.inj hx; exact hq
          | succ j => exact h3 _ (List.mem_of_getElem? hx)
        · intro p hp
          rcases List.mem_cons.1 hp with rfl | hp
          · exact hq
          · exact h3 p hp
      · refine Or.inr ⟨i + 1, p, h1, h2, ?_, by simpa [rgo, hq] using h4⟩
        have hi : r.findIdx? (fun p => decide (p.1 = k)) = some i := by
          unfold rat at h3
          cases hf : r.findIdx? (fun p => decide (p.1 = k)) with
          | none => rw [hf] at h3; simp at h3
          | some m => rw [hf] at h3; simp at h3; rw [show m = i by omega]
        unfold rat
        rw [List.findIdx?_cons, hi]
        simp [hq]
set_option maxRecDepth 100000 in
set_option maxHeartbeats 1000000 in
theorem rRow_any (k : Ky) (B rb : Nat) (sh : Int) (R : List Rw) (D : List (Int × Bool)) (vr vd : Value) (kk : Nat) (H : Nat → Prop) (w : World) (h : RF B w rb sh R D vr vd kk H) (hl : kk ≤ 4611686018427387904) :
    Calls Tryz.prog 100 #[.pointer (some ⟨rb, 0, none⟩), .agg #[.int .i64 k.1, .int .i64 k.2]] w fun e w' => (∃ v, e = .returned v ∧ OR w' B 180 2 v (rgo R k).length (vc (rgo R k)) ∧ ((rat R k = -1 ∧ v = .slice none 0 0) ∨ ∃ (i : Nat) (p : Rw), R[i]? = some p ∧ p.1 = k ∧ rat R k = (i : Int) ∧ v = p.2.2)) ∧ Below w.heap.size w w' := by
  have c0 : w.cell? ⟨rb, 1, none⟩ = some vr := by rw [cell_of_row _ _ 1 _ _ _ h.hdr]; rfl
  have HA := hide (fun (W : World) (hb : Below w.heap.size w W) => rAt_any k B rb sh R D vr vd kk H W (h.later hb) hl)
  have HH := hide h
  obtain ⟨k1, k2⟩ := k
  dsimp only at HA ⊢
  have HC0 := hide c0
  obtain ⟨a, cap, rfl, hc⟩ := h.rows.rowAt
  have HC := hide hc
  clear h hc c0
  go_enter Tryz.func100, Tryz.ntmps100
  go_wp2_with fail
  refine (HA.out _ ((Below.refl _ _).alloc (Nat.le_refl _) _)).mono ?_
  rintro e w2 ⟨rfl, hb⟩
  have B2 := hide (((Below.refl _ _).alloc (Nat.le_refl _) _).trans (hb.mono (by simp)) : Below w.heap.size w w2)
  clear hb HA
  rcases rat_cases R (k1, k2) with ⟨r1, r2, _⟩ | ⟨i, p, r1, r2, r3, r4⟩
  · rw [r1]
    have RR := hide (And.intro r1 r2)
    clear r1 r2
    go_wp2_with fail
    go_ret
    exact ⟨⟨_, rfl, by rw [RR.out.2]; exact OR.nil _ _ _ _, Or.inl ⟨RR.out.1, rfl⟩⟩, B2.out⟩
  · rw [r3]
    have RR := hide (And.intro r1 (And.intro r2 (And.intro r3 r4)))
    obtain ⟨g, off, rfl, _, _, q3⟩ := HC.out i p r1
    have hlt := (List.getElem?_eq_some_iff.1 r1).1
    have z0 := (B2.out.cell (World.block_lt_of_cell? _ _ HC0.out)).trans HC0.out
    have z1 := (B2.out.cell (World.block_lt_of_cell? _ _ q3)).trans q3
    have d1 : decide ((i : Int) < 0) = false := decide_eq_false (by omega)
    have i0 : (0 : Int) ≤ (i : Int) := by omega
    have i1 : (i : Int) < (R.length : Int) := by omega
    clear r1 r2 r3 r4 q3
    go_wp2_with fail
    go_ret
    exact ⟨⟨_, rfl, by rw [RR.out.2.2.2]; exact ((HH.out.later B2.out).ver p (List.mem_of_getElem? RR.out.1)).1, Or.inr ⟨i, p, RR.out.1, RR.out.2.1, RR.out.2.2.1, rfl⟩⟩, B2.out⟩
end Go.Proofs.YtgeholiagcckoaaGreatDoor
namespace Go.Proofs.YtgeholiagcckoaaGreatDoor
open Go.RowKit

theorem RF.lk {B : Nat} {W : World} {rb : Nat} {sh : Int} {R : List Rw} {D : List (Int × Bool)} {vr vd : Value} {kk : Nat} {H : Nat → Prop} (h : RF B W rb sh R D vr vd kk H) (k : Ky) : LK (rgo R k) kk := by
  rcases rat_cases R k with ⟨_, r2, _⟩ | ⟨i, p, r1, _, _, r4⟩
  · rw [r2]; exact ⟨trivial, fun p hp => (by cases hp), fun p hp => (by cases hp), Nat.zero_le _⟩
  · rw [r4]; exact (h.ver p (List.mem_of_getElem? r1)).2
set_option maxRecDepth 100000 in
set_option maxHeartbeats 1000000 in
theorem rSAt_any (k : Ky) (n : Int) (B rb : Nat) (sh : Int) (R : List Rw) (D : List (Int × Bool)) (vr vd : Value) (kk : Nat) (H : Nat → Prop) (w : World) (h : RF B w rb sh R D vr vd kk H) (hl : kk ≤ 4611686018427387904) :
    Calls Tryz.prog 72 #[.pointer (some ⟨rb, 0, none⟩), .agg #[.int .i64 k.1, .int .i64 k.2], .int .i64 n] w fun e w' => e = .returned (.tuple #[.string ⟨(atS n (rgo R k)).toArray⟩, .bool (atB n (rgo R k))]) ∧ Below w.heap.size w w' := by
  have HA := hide (fun (W : World) (hb : Below w.heap.size w W) => rRow_any k B rb sh R D vr vd kk H W (h.later hb) hl)
  have HL := hide (h.lk k)
  obtain ⟨k1, k2⟩ := k
  dsimp only at HA ⊢
  clear h
  go_enter Tryz.func72, Tryz.ntmps72
  go_wp2_with fail
  refine (HA.out _ ((Below.refl _ _).alloc (Nat.le_refl _) _)).mono ?_
  rintro e w2 ⟨⟨v, rfl, ho, _⟩, hb⟩
  have B2 := hide (((Below.refl _ _).alloc (Nat.le_refl _) _).trans (hb.mono (by simp)) : Below w.heap.size w w2)
  have HT := hide (refAt_any v (rgo R (k1, k2)) n w2 ho.rv HL.out.ris (by have := HL.out.len; omega))
  clear hb HA ho
  go_wp2_with fail
  refine HT.out.mono ?_
  rintro e w3 ⟨rfl, hb⟩
  have B3 := hide (B2.out.trans (hb.mono B2.out.size))
  clear hb HT
  go_wp2_with fail
  go_ret2
  exact ⟨rfl, B3.out⟩
set_option maxRecDepth 100000 in
set_option maxHeartbeats 1000000 in
theorem rSLast_any (k : Ky) (B rb : Nat) (sh : Int) (R : List Rw) (D : List (Int × Bool)) (vr vd : Value) (kk : Nat) (H : Nat → Prop) (w : World) (h : RF B w rb sh R D vr vd kk H) (hl : kk ≤ 4611686018427387904) :
    Calls Tryz.prog 73 #[.pointer (some ⟨rb, 0, none⟩), .agg #[.int .i64 k.1, .int .i64 k.2]] w fun e w' => e = .returned (.tuple #[.string ⟨(laP (rgo R k)).2.toArray⟩, .int .i64 (laP (rgo R k)).1, .bool (laB (rgo R k))]) ∧ Below w.heap.size w w' := by
  have HA := hide (fun (W : World) (hb : Below w.heap.size w W) => rRow_any k B rb sh R D vr vd kk H W (h.later hb) hl)
  have HL := hide (h.lk k)
  obtain ⟨k1, k2⟩ := k
  dsimp only at HA ⊢
  clear h
  go_enter Tryz.func73, Tryz.ntmps73
  go_wp2_with fail
  refine (HA.out _ ((Below.refl _ _).alloc (Nat.le_refl _) _)).mono ?_
  rintro e w2 ⟨⟨v, rfl, ho, _⟩, hb⟩
  have B2 := hide (((Below.refl _ _).alloc (Nat.le_refl _) _).trans (hb.mono (by simp)) : Below w.heap.size w w2)
  have HT := hide (refLast_any v (rgo R (k1, k2)) w2 ho.rv HL.out.ris HL.out.max (by have := HL.out.len; omega))
  clear hb HA ho
  go_wp2_with fail
  refine HT.out.mono ?_
  rintro e w3 ⟨rfl, hb⟩
  have B3 := hide (B2.out.trans (hb.mono B2.out.size))
  clear hb HT
  go_wp2_with fail
  go_ret3
  exact ⟨rfl, B3.out⟩
/-- Oldest: the least number of those that have not ended, below m. -/
def oldD (m : Int) : List (Int × Bool) → Int
  | [] => m
  | p :: r => oldD (if p.2 = false ∧ p.1 < m then p.1 else m) r
theorem oldD_app : ∀ (a b : List (Int × Bool)) (m : Int), oldD m (a ++ b) = oldD (oldD m a) b
  | [], _, _ => rfl
  | p :: r, b, m => by simp only [List.cons_append, oldD, oldD_app r b]
theorem rdc_at : ∀ (L : List (Int × Bool)) (j : Nat) (p : Int × Bool), L[j]? = some p → (rdc L)[j * 2]? = some (.int .i64 p.1) ∧ (rdc L)[j * 2 + 1]? = some (.bool p.2)
  | q :: r, 0, p, h => by
    obtain rfl : q = p := Option.some.inj h
    exact ⟨rfl, rfl⟩
  | q :: r, j + 1, p, h => by
    have := rdc_at r j p h
    rw [show (j + 1) * 2 = j * 2 + 1 + 1 by omega]
    exact this
theorem OR.rdAt {W : World} {B : Nat} {v : Value} {D : List (Int × Bool)} (h : OR W B 166 2 v D.length (rdc D)) : ∃ a cap, v = .slice a D.length cap ∧ ∀ (i : Nat) (p : Int × Bool), D[i]? = some p → ∃ g off, a = some ⟨g, off, none⟩ ∧ W.cell? ⟨g, off + i * 2, none⟩ = some (.int .i64 p.1) ∧ W.cell? ⟨g, off + i * 2 + 1, none⟩ = some (.bool p.2) := by
  rcases h.2 with ⟨rfl, h0⟩ | ⟨g, off, cap, cur, rfl, _, _, _, _, _, h5⟩
  · refine ⟨none, 0, by rw [h0], fun i k hk => ?_⟩
    have := (List.getElem?_eq_some_iff.1 hk).1
    omega
  · refine ⟨_, cap, rfl, fun i p hp => ⟨g, off, rfl, ?_, ?_⟩⟩
    · exact h5 _ _ (rdc_at D i p hp).1
    · have := h5 _ _ (rdc_at D i p hp).2
      rw [← Nat.add_assoc] at this; exact this
set_option maxRecDepth 100000 in
set_option maxHeartbeats 1000000 in
theorem rOld_any (n : Int) (B rb : Nat) (sh : Int) (R : List Rw) (D : List (Int × Bool)) (vr vd : Value) (kk : Nat) (H : Nat → Prop) (w : World) (h : RF B w rb sh R D vr vd kk H) (hl : kk ≤ 4611686018427387904) :
    Calls Tryz.prog 76 #[.pointer (some ⟨rb, 0, none⟩), .int .i64 n] w fun e w' => e = .returned (.int .i64 (oldD n D)) ∧ Below w.heap.size w w' := by
  have c0 : w.cell? ⟨rb, 2, none⟩ = some vd := by rw [cell_of_row _ _ 2 _ _ _ h.hdr]; rfl
  have hrl := h.len.2
  obtain ⟨a, cap, rfl, hc⟩ := h.rds.rdAt
  have HC := hide hc
  have HC0 := hide c0
  clear h hc c0
  go_enter Tryz.func76, Tryz.ntmps76
  go_wp2_with fail
  go_loopw [1, 5] (fun m i wr => ∃ j : Nat, j ≤ D.length ∧ i = .int .i64 (j : Int) ∧ m = .int .i64 (oldD n (D.take j)) ∧ Hid (Below w.heap.size w wr)) (fun _ i _ => D.length - (intOf i).toNat)
  case atStart => exact ⟨0, Nat.zero_le _, rfl, by rw [List.take_zero]; rfl, hide (Below.refl _ _)⟩
  case round =>
    obtain ⟨j, hj, rfl, rfl, HB⟩ := hrel
    have z0 : wr.cell? ⟨rb, 2, none⟩ = some (.slice a D.length cap) := (HB.out.cell (p := ⟨rb, 2, none⟩) (World.block_lt_of_cell? _ _ HC0.out)).trans HC0.out
    by_cases hlt : j < D.length
    · obtain ⟨⟨N, E⟩, hp⟩ : ∃ p, D[j]? = some p := ⟨_, List.getElem?_eq_getElem hlt⟩
      obtain ⟨g, off, rfl, d0, d1⟩ := HC.out j _ hp
      have e0 := (HB.out.cell (World.block_lt_of_cell? _ _ d0)).trans d0
      have e1 := (HB.out.cell (World.block_lt_of_cell? _ _ d1)).trans d1
      dsimp only at e0 e1
      obtain ⟨m, hm⟩ : ∃ m, m = oldD n (D.take j) := ⟨_, rfl⟩
      have hs : oldD n (D.take (j + 1)) = if E = false ∧ N < m then N else m := by
        rw [List.take_add_one, hp, oldD_app, ← hm]; rfl
      rw [← hm]
      have HS := hide hs
      have hd1 : decide ((j : Int) < (D.length : Int)) = true := by rw [decide_eq_true_eq]; omega
      have j0 : (0 : Int) ≤ (j : Int) := by omega
      have j1 : (j : Int) < (D.length : Int) := by omega
      have wk : wrap64 ((j : Int) + 1) = (j : Int) + 1 := by unfold wrap64; omega
      clear d0 d1 hp hs hm
      cases E with
      | true =>
        go_wp2_with fail
        go_roundw
        case rel => exact ⟨j + 1, by omega, by go_num, by rw [HS.out, if_neg (by simp)], HB⟩
        case measure => simp [intOf]; omega
      | false =>
        by_cases hN : N < m
        · have hd2 : decide (N < m) = true := decide_eq_true hN
          go_wp2_with fail
          go_roundw
          case rel => exact ⟨j + 1, by omega, by go_num, by rw [HS.out, if_pos ⟨rfl, hN⟩], HB⟩
          case measure => simp [intOf]; omega
        · have hd2 : decide (N < m) = false := decide_eq_false hN
          go_wp2_with fail
          go_roundw
          case rel => exact ⟨j + 1, by omega, by go_num, by rw [HS.out, if_neg (fun q => hN q.2)], HB⟩
          case measure => simp [intOf]; omega
    · have e : j = D.length := by omega
      subst e
      rw [List.take_length]
      go_wp2_with fail
      go_ret
      exact ⟨rfl, HB.out⟩
end Go.Proofs.YtgeholiagcckoaaGreatDoor
namespace Go.Proofs.YtgeholiagcckoaaGreatDoor
open Go.RowKit

def rwl (R : List Rw) : Nat := (R.map fun p => p.2.1.length).sum
theorem rwl_take (R : List Rw) (j : Nat) : rwl (R.take j) ≤ rwl R := by
  conv => rhs; rw [← List.take_append_drop j R]
  unfold rwl; rw [List.map_append, List.sum_append]; omega
set_option maxRecDepth 100000 in
set_option maxHeartbeats 1000000 in
theorem rVers_any (B rb : Nat) (sh : Int) (R : List Rw) (D : List (Int × Bool)) (vr vd : Value) (kk : Nat) (H : Nat → Prop) (w : World) (h : RF B w rb sh R D vr vd kk H) (hl : kk ≤ 4611686018427387904) (ht : rwl R ≤ 4611686018427387904) :
    Calls Tryz.prog 51 #[.pointer (some ⟨rb, 0, none⟩)] w fun e w' => e = .returned (.int .i64 (rwl R : Int)) ∧ Below w.heap.size w w' := by
  have c0 : w.cell? ⟨rb, 1, none⟩ = some vr := by rw [cell_of_row _ _ 1 _ _ _ h.hdr]; rfl
  have HH := hide h
  have hrl := h.len.1
  obtain ⟨a, cap, rfl, hc⟩ := h.rows.rowAt
  have HC := hide hc
  have HC0 := hide c0
  clear h hc c0
  go_enter Tryz.func51, Tryz.ntmps51
  go_wp2_with fail
  go_loopw [3, 4] (fun m i wr => ∃ j : Nat, j ≤ R.length ∧ i = .int .i64 (j : Int) ∧ m = .int .i64 (rwl (R.take j) : Int) ∧ Hid (Below w.heap.size w wr)) (fun _ i _ => R.length - (intOf i).toNat)
  case atStart => exact ⟨0, Nat.zero_le _, rfl, by rw [List.take_zero]; rfl, hide (Below.refl _ _)⟩
  case round =>
    obtain ⟨j, hj, rfl, rfl, HB⟩ := hrel
    have z0 : wr.cell? ⟨rb, 1, none⟩ = some (.slice a R.length cap) := (HB.out.cell (p := ⟨rb, 1, none⟩) (World.block_lt_of_cell? _ _ HC0.out)).trans HC0.out
    by_cases hlt : j < R.length
    · obtain ⟨⟨q, L, v⟩, hp⟩ : ∃ p, R[j]? = some p := ⟨_, List.getElem?_eq_getElem hlt⟩
      obtain ⟨g, off, rfl, _, _, d2⟩ := HC.out j _ hp
      have e2 := (HB.out.cell (World.block_lt_of_cell? _ _ d2)).trans d2
      obtain ⟨a', cap', hv⟩ := (HH.out.ver _ (List.mem_of_getElem? hp)).1.slc
      dsimp only at e2 hv
      rw [hv] at e2
      obtain ⟨m, hm⟩ : ∃ m, m = rwl (R.take j) := ⟨_, rfl⟩
      have hs : rwl (R.take (j + 1)) = m + L.length := by
        rw [List.take_add_one, hp, hm]; unfold rwl; rw [List.map_append, List.sum_append]; rfl
      have hle := rwl_take R (j + 1)
      rw [hs] at hle
      rw [← hm]
      have HS := hide hs
      have hd1 : decide ((j : Int) < (R.length : Int)) = true := by rw [decide_eq_true_eq]; omega
      have j0 : (0 : Int) ≤ (j : Int) := by omega
      have j1 : (j : Int) < (R.length : Int) := by omega
      have wk : wrap64 ((j : Int) + 1) = (j : Int) + 1 := by unfold wrap64; omega
      have wm : wrap64 ((m : Int) + (L.length : Int)) = (m : Int) + (L.length : Int) := by unfold wrap64; omega
      clear d2 hp hs hm hv
      go_wp2_with fail
      go_roundw
      case rel => exact ⟨j + 1, by omega, by go_num, by rw [HS.out, Int.natCast_add], HB⟩
      case measure => simp [intOf]; omega
    · have e : j = R.length := by omega
      subst e
      rw [List.take_length]
      go_wp2_with fail
      go_ret
      exact ⟨rfl, HB.out⟩
/-- A reader ends. -/
def clB (D : List (Int × Bool)) (n : Int) : Bool := decide (1 ≤ n) && match D[(n - 1).toNat]? with
  | some p => !p.2
  | none => false
def clD (D : List (Int × Bool)) (n : Int) : List (Int × Bool) := if clB D n then (match D[(n - 1).toNat]? with
  | some p => D.set (n - 1).toNat (p.1, true)
  | none => D) else D
set_option maxRecDepth 100000 in
set_option maxHeartbeats 1000000 in
theorem rCloseNo_any (n : Int) (B rb : Nat) (sh : Int) (R : List Rw) (D : List (Int × Bool)) (vr vd : Value) (kk : Nat) (H : Nat → Prop) (w : World) (h : RF B w rb sh R D vr vd kk H) (hl : kk < 5864062014804) (hn : clB D n = false) (hn0 : -9223372036854775808 ≤ n) :
    Calls Tryz.prog 75 #[.pointer (some ⟨rb, 0, none⟩), .int .i64 n] w fun e w' => e = .returned (.bool false) ∧ Below w.heap.size w w' := by
  have c0 : w.cell? ⟨rb, 2, none⟩ = some vd := by rw [cell_of_row _ _ 2 _ _ _ h.hdr]; rfl
  have hrl := h.len.2
  obtain ⟨a, cap, rfl, hc⟩ := h.rds.rdAt
  clear h
  by_cases h1 : n < 1
  · have d1 : decide (n < 1) = true := decide_eq_true h1
    clear hn hc
    go_enter Tryz.func75, Tryz.ntmps75
    go_wp2_with fail
    go_ret
    exact ⟨rfl, Below.refl _ _⟩
  · have d1 : decide (n < 1) = false := decide_eq_false h1
    by_cases h2 : (D.length : Int) < n
    · have d2 : decide ((D.length : Int) < n) = true := decide_eq_true h2
      clear hn hc
      go_enter Tryz.func75, Tryz.ntmps75
      go_wp2_with fail
      go_ret
      exact ⟨rfl, Below.refl _ _⟩
    · have d2 : decide ((D.length : Int) < n) = false := decide_eq_false h2
      obtain ⟨j, rfl⟩ : ∃ j : Nat, n = (j : Int) + 1 := ⟨(n - 1).toNat, by omega⟩
      obtain ⟨⟨N, E⟩, hp⟩ : ∃ p, D[j]? = some p := ⟨_, List.getElem?_eq_getElem (by omega)⟩
      obtain ⟨g, off, rfl, _, e1⟩ := hc j _ hp
      dsimp only at e1
      obtain rfl : E = true := by
        unfold clB at hn
        rw [show ((j : Int) + 1 - 1).toNat = j by omega, hp, show decide ((1 : Int) ≤ (j : Int) + 1) = true by rw [decide_eq_true_eq]; omega] at hn
        simpa using hn
      have w1 : wrap64 ((j : Int) + 1 - 1) = (j : Int) := by unfold wrap64; omega
      have j0 : (0 : Int) ≤ (j : Int) := by omega
      have j1 : (j : Int) < (D.length : Int) := by omega
      clear hn hc hp
      go_enter Tryz.func75, Tryz.ntmps75
      go_wp2_with fail
      go_ret
      exact ⟨rfl, Below.refl _ _⟩
end Go.Proofs.YtgeholiagcckoaaGreatDoor
namespace Go.Proofs.YtgeholiagcckoaaGreatDoor
open Go.RowKit

theorem or_ne {W : World} {B B' k k' n n' : Nat} {e e' : TypeId} {v v' : Value} {xs xs' : List Value} (h : OR W B e k v n xs) (h' : OR W B' e' k' v' n' xs') (he : e ≠ e') : ∀ g, v.ownBlock = some g → v'.ownBlock ≠ some g := by
  intro g hg
  rcases h.2 with ⟨rfl, _⟩ | ⟨g', off, cap, cur, rfl, _, hh, _⟩
  · cases hg
  · obtain rfl : g' = g := Option.some.inj hg
    exact h'.row_ne hh he
/-- What a call of the document's store leaves alone. -/
structure RFr (w w' : World) (H H' : Nat → Prop) : Prop where
  os : w'.os = w.os
  tape : w'.tape = w.tape
  output : w'.output = w.output
  size : w.heap.size ≤ w'.heap.size
  block : ∀ x, x < w.heap.size → ¬ H x → w'.heap[x]? = w.heap[x]?
  grow : ∀ x, H' x → H x ∨ w.heap.size ≤ x
  keep : ∀ x, H x → H' x
abbrev hN (w w' : World) (H : Nat → Prop) : Nat → Prop := fun x => H x ∨ (w.heap.size ≤ x ∧ x < w'.heap.size)
theorem RF.move {B : Nat} {w w5 : World} {rb : Nat} {sh : Int} {R : List Rw} {D D' : List (Int × Bool)} {vr vd v' : Value} {kk : Nat} {H : Nat → Prop} (h : RF B w rb sh R D vr vd kk H)
    (hdr : w5.heap[rb]? = some (.cells #[.int .i64 sh, vr, v'] 92 (0, 0))) (keep : ∀ g, g < w.heap.size → g ≠ rb → vd.ownBlock ≠ some g → w5.heap[g]? = w.heap[g]?)
    (rds : OR w5 B 166 2 v' D'.length (rdc D')) (r3 : ∀ g, v'.ownBlock = some g → vd.ownBlock = some g ∨ w.heap.size ≤ g) (size : w.heap.size ≤ w5.heap.size) (len : D'.length ≤ kk + 1) :
    RF B w5 rb sh R D' vr v' (kk + 1) (hN w w5 H) := by
  have hB := (h.lt rb h.hb).1
  have hrb := (h.lt rb h.hb).2
  refine ⟨hdr, h.rows.kept (fun g hg => keep g (h.lt g (h.hr g hg)).2 (fun e => ?_) (or_ne h.rows h.rds (by decide) g hg)), rds, fun p hp => ⟨(h.ver p hp).1.kept (fun g hg => keep g (h.lt g (h.hv p hp g hg)).2 (fun e => ?_) (or_ne (h.ver p hp).1 h.rds (by decide) g hg)), (h.ver p hp).2.up⟩, h.nd, Or.inl h.hb, fun g hg => Or.inl (h.hr g hg), fun g hg => ?_, fun p hp g hg => Or.inl (h.hv p hp g hg), fun x hx => ?_, by have := h.len; omega⟩
  · exact h.rows.row_ne h.hdr (by decide) (by rw [hg, e])
  · exact (h.ver p hp).1.row_ne h.hdr (by decide) (by rw [hg, e])
  · rcases r3 g hg with q | q
    · exact Or.inl (h.hd g q)
    · exact Or.inr ⟨q, (rds.lt hg).2⟩
  · rcases hx with hx | hx
    · exact ⟨(h.lt x hx).1, Nat.lt_of_lt_of_le (h.lt x hx).2 size⟩
    · exact ⟨by omega, hx.2⟩
theorem rdc_app : ∀ a b : List (Int × Bool), rdc (a ++ b) = rdc a ++ rdc b
  | [], _ => rfl
  | p :: r, b => by simp only [List.cons_append, rdc, rdc_app r b]
theorem open_end {B : Nat} {w W3 w4 : World} {rb : Nat} {sh n : Int} {R : List Rw} {D : List (Int × Bool)} {vr vd v' : Value} {kk : Nat} {H : Nat → Prop} (h : RF B w rb sh R D vr vd kk H)
    (hA : Below w.heap.size w W3) (r1 : OR w4 B 166 2 v' (D.length + 1) (rdc D ++ [.int .i64 n, .bool false])) (r2 : W3.grownBy w4 vd.ownBlock) (r3 : ∀ g, v'.ownBlock = some g → vd.ownBlock = some g ∨ W3.heap.size ≤ g) :
    w4.heap[rb]? = some (.cells #[.int .i64 sh, vr, vd] 92 (0, 0)) ∧ (w4.setCell ⟨rb, 2, none⟩ v').cell? ⟨rb, 2, none⟩ = some v' ∧ RF B (w4.setCell ⟨rb, 2, none⟩ v') rb sh R (D ++ [(n, false)]) vr v' (kk + 1) (hN w (w4.setCell ⟨rb, 2, none⟩ v') H) ∧ RFr w (w4.setCell ⟨rb, 2, none⟩ v') H (hN w (w4.setCell ⟨rb, 2, none⟩ v') H) := by
  have hrb := (h.lt rb h.hb).2
  have h4 : w4.heap[rb]? = some (.cells #[.int .i64 sh, vr, vd] 92 (0, 0)) := (r2.block rb (Nat.lt_of_lt_of_le hrb hA.size) (fun e => h.rds.row_ne h.hdr (by decide) e.symm)).trans ((hA.block rb hrb).trans h.hdr)
  have h5 := setCell_eq_setRow w4 rb 2 _ _ _ v' h4
  have h6 : (w4.setCell ⟨rb, 2, none⟩ v').heap[rb]? = some (.cells #[.int .i64 sh, vr, v'] 92 (0, 0)) := by rw [h5]; exact setRow_heap w4 rb _ _ _ _ h4
  have hn' : v'.ownBlock ≠ some rb := r1.row_ne h4 (by decide)
  have hsz : (w4.setCell ⟨rb, 2, none⟩ v').heap.size = w4.heap.size := by simp [World.setCell]
  have hkeep : ∀ g, g < w.heap.size → g ≠ rb → vd.ownBlock ≠ some g → (w4.setCell ⟨rb, 2, none⟩ v').heap[g]? = w.heap[g]? := fun g hg hne hrow => by
    rw [Below.heap_setCell _ _ _ g hne, r2.block g (Nat.lt_of_lt_of_le hg hA.size) (fun e => hrow e.symm)]
    exact hA.block g hg
  have hsize : w.heap.size ≤ (w4.setCell ⟨rb, 2, none⟩ v').heap.size := by rw [hsz]; exact Nat.le_trans hA.size r2.size
  refine ⟨h4, by rw [cell_of_row _ rb 2 _ _ _ h6]; rfl, h.move h6 hkeep ?_ (fun g hg => (r3 g hg).imp id (fun q => Nat.le_trans hA.size q)) hsize (by rw [List.length_append]; have := h.len.2; simp; omega), ⟨r2.os.trans hA.os, r2.tape.trans hA.tape, r2.output.trans hA.output, hsize, fun x hx hnx => hkeep x hx (fun e => hnx (e ▸ h.hb)) (fun e => hnx (h.hd x e)), fun x hx => hx.imp id And.left, fun x hx => Or.inl hx⟩⟩
  rw [rdc_app, List.length_append]
  exact r1.kept (fun g hg => Below.heap_setCell _ _ _ g (fun e => hn' (by have e' : g = rb := e; rw [← e']; exact hg)))
end Go.Proofs.YtgeholiagcckoaaGreatDoor
namespace Go.Proofs.YtgeholiagcckoaaGreatDoor
open Go.RowKit

theorem Tryz.infoReader : (Tryz.prog.info? 166).map (fun i => (i.zero, i.size, i.bytes)) = some (some (.agg #[.int .i64 0, .bool false]), 2, 16) := by kernel_rfl
set_option maxRecDepth 100000 in
set_option maxHeartbeats 1000000 in
theorem rOpen_any (n : Int) (B rb : Nat) (sh : Int) (R : List Rw) (D : List (Int × Bool)) (vr vd : Value) (kk : Nat) (H : Nat → Prop) (w : World) (h : RF B w rb sh R D vr vd kk H) (hl : kk < 5864062014804) :
    Calls Tryz.prog 74 #[.pointer (some ⟨rb, 0, none⟩), .int .i64 n] w fun e w' => e = .returned (.int .i64 ((D.length : Int) + 1)) ∧ ∃ vd', RF B w' rb sh R (D ++ [(n, false)]) vr vd' (kk + 1) (hN w w' H) ∧ RFr w w' H (hN w w' H) := by
  have c0 : w.cell? ⟨rb, 2, none⟩ = some vd := by rw [cell_of_row _ _ 2 _ _ _ h.hdr]; rfl
  obtain ⟨i0, hi, hz0, hz1, hz2⟩ := info_parts Tryz.infoReader
  have HI := hide (And.intro hi (And.intro hz0 (And.intro hz1 hz2)))
  have HH := hide h
  have HLL := hide (And.intro hl h.len.2)
  obtain ⟨W3, hW3⟩ : ∃ W3, w.alloc (.cells #[.int .i64 n, .bool false] 166) = W3 := ⟨_, rfl⟩
  have HB3 : Hid (Below w.heap.size w W3) := hide (by rw [← hW3]; exact (Below.refl _ _).alloc (Nat.le_refl _) _)
  have HO3 : Hid (OR W3 B 166 2 vd D.length (rdc D)) := hide (h.rds.later HB3.out)
  have HN3 : Hid (∀ j u, ([.int .i64 n, .bool false] : List Value)[j]? = some u → W3.cell? ((⟨w.heap.size, 0, none⟩ : Addr).add j) = some u) := hide (fun j u hj => by
    rw [← hW3, Addr.add_lit, cell_of_row _ w.heap.size _ _ _ _ (alloc_newV w _)]
    match j, hj with
    | 0, hj => cases hj; rfl
    | 1, hj => cases hj; rfl)
  have HZ3 : Hid (B ≤ W3.heap.size) := hide (by have := h.lt rb h.hb; have := HB3.out.size; omega)
  clear h hi hz0 hz1 hz2 hl
  go_enter Tryz.func74, Tryz.ntmps74
  go_wp2_with (at_builtin; refine wp_append_or W3 B 90 166 i0 _ 2 16 rfl _ _ rfl Tryz.underlying90 HI.out.1 HI.out.2.1 HI.out.2.2.1 HI.out.2.2.2 rfl (by decide) vd D.length (rdc D) rfl HO3.out ⟨w.heap.size, 0, none⟩ 1 [.int .i64 n, .bool false] rfl rfl HN3.out (by intro u hu; simp at hu; rcases hu with rfl | rfl <;> rfl) (by have := HLL.out; unfold maxLen; omega) (by have := HLL.out; omega) HZ3.out ?_)
  intro v' w4 r1 r2 r3
  have HE := hide (open_end (n := n) HH.out HB3.out r1 r2 r3)
  have k4 := HE.out.1
  have c4 : w4.cell? ⟨rb, 2, none⟩ = some vd := by rw [cell_of_row w4 rb 2 _ _ _ k4]; rfl
  have f4 : w4.frozen? ⟨rb, 2, none⟩ = false := by unfold World.frozen?; simp [k4]
  have e4 := HE.out.2.1
  obtain ⟨a4, cap4, rfl⟩ := r1.slc
  clear r1 r2 r3 k4 hW3 c0
  go_wp2_with fail
  go_ret
  exact ⟨rfl, _, HE.out.2.2.1, HE.out.2.2.2⟩
end Go.Proofs.YtgeholiagcckoaaGreatDoor
namespace Go.Proofs.YtgeholiagcckoaaGreatDoor
open Go.RowKit

theorem OR.setAt {w : World} {B k n g off cap i : Nat} {e : TypeId} {u : Value} {xs : List Value} (h : OR w B e k (.slice (some ⟨g, off, none⟩) n cap) n xs) (hi : i < xs.length) : OR (w.setCell ⟨g, off + i, none⟩ u) B e k (.slice (some ⟨g, off, none⟩) n cap) n (xs.set i u) := by
  rcases h.2 with ⟨q, _⟩ | ⟨g', off', cap', cur, q, hB, hh, hn1, hn2, hcs, hcell⟩
  · cases q
  · cases q
    have h5 := setCell_eq_setRow w g (off + i) _ _ _ u hh
    have h6 : (w.setCell ⟨g, off + i, none⟩ u).heap[g]? = some (.cells (cur.setIfInBounds (off + i) u) e (0, 0)) := by rw [h5]; exact setRow_heap w g _ _ _ _ hh
    refine ⟨by rw [List.length_set]; exact h.1, Or.inr ⟨g, off, cap, _, rfl, hB, h6, hn1, hn2, by simp [hcs], fun j x hj => ?_⟩⟩
    rw [cell_of_row _ g (off + j) _ _ _ h6]
    have hlt : off + i < cur.size := by
      have := hcell i _ (List.getElem?_eq_getElem hi)
      rw [cell_of_row _ g (off + i) _ _ _ hh] at this
      exact (Array.getElem?_eq_some_iff.1 this).1
    by_cases hij : i = j
    · subst hij
      rw [List.getElem?_set_self hi] at hj
      rw [Array.getElem?_setIfInBounds_self_of_lt hlt]; exact hj
    · rw [List.getElem?_set_ne hij] at hj
      have := hcell j x hj
      rw [cell_of_row _ g (off + j) _ _ _ hh] at this
      rw [Array.getElem?_setIfInBounds_ne (by omega)]; exact this
theorem rdc_len : ∀ l : List (Int × Bool), (rdc l).length = l.length * 2
  | [] => rfl
  | p :: r => by simp only [rdc, List.length_cons, rdc_len r]; omega
theorem rdc_end : ∀ (D : List (Int × Bool)) (j : Nat) (p : Int × Bool), D[j]? = some p → rdc (D.set j (p.1, true)) = (rdc D).set (j * 2 + 1) (.bool true)
  | q :: r, 0, p, h => by
    obtain rfl : q = p := Option.some.inj h
    rfl
  | q :: r, j + 1, p, h => by
    have := rdc_end r j p h
    rw [show (j + 1) * 2 + 1 = j * 2 + 1 + 1 + 1 by omega]
    simp only [List.set_cons_succ, rdc, this]
theorem clB_at {D : List (Int × Bool)} {n : Int} (h : clB D n = true) : ∃ (j : Nat) (N : Int), n = (j : Int) + 1 ∧ D[j]? = some (N, false) ∧ clD D n = D.set j (N, true) := by
  have h0 := h
  unfold clB at h
  rw [Bool.and_eq_true, decide_eq_true_eq] at h
  obtain ⟨h1, h2⟩ := h
  cases hp : D[(n - 1).toNat]? with
  | none => rw [hp] at h2; cases h2
  | some p =>
    rw [hp] at h2
    obtain ⟨N, E⟩ := p
    have hE : E = false := by simpa using h2
    subst hE
    exact ⟨(n - 1).toNat, N, by omega, hp, by unfold clD; rw [if_pos h0, hp]⟩
set_option maxRecDepth 100000 in
set_option maxHeartbeats 1000000 in
theorem rCloseYes_any (n : Int) (B rb : Nat) (sh : Int) (R : List Rw) (D : List (Int × Bool)) (vr vd : Value) (kk : Nat) (H : Nat → Prop) (w : World) (h : RF B w rb sh R D vr vd kk H) (hl : kk < 5864062014804) (hn : clB D n = true) :
    Calls Tryz.prog 75 #[.pointer (some ⟨rb, 0, none⟩), .int .i64 n] w fun e w' => e = .returned (.bool true) ∧ RF B w' rb sh R (clD D n) vr vd (kk + 1) (hN w w' H) ∧ RFr w w' H (hN w w' H) := by
  obtain ⟨j, N, rfl, hp, hD⟩ := clB_at hn
  rw [hD]
  have c0 : w.cell? ⟨rb, 2, none⟩ = some vd := by rw [cell_of_row _ _ 2 _ _ _ h.hdr]; rfl
  have hrl := h.len.2
  have hlt := (List.getElem?_eq_some_iff.1 hp).1
  have HH := hide h
  obtain ⟨a, cap, rfl, hc⟩ := h.rds.rdAt
  obtain ⟨g, off, rfl, _, e1⟩ := hc j _ hp
  dsimp only at e1
  have hg := h.hd g rfl
  have hgb : ∃ cur, w.heap[g]? = some (.cells cur 166 (0, 0)) := by
    rcases h.rds.2 with ⟨q, _⟩ | ⟨g', _, _, cur, q, _, hh, _⟩
    · cases q
    · cases q; exact ⟨cur, hh⟩
  obtain ⟨cur, hcur⟩ := hgb
  have hne : rb ≠ g := ne_type h.hdr hcur (by decide)
  have f1 : w.frozen? ⟨g, off + j * 2 + 1, none⟩ = false := by unfold World.frozen?; simp [hcur]
  have HE : Hid (RF B (w.setCell ⟨g, off + j * 2 + 1, none⟩ (.bool true)) rb sh R (D.set j (N, true)) vr (.slice (some ⟨g, off, none⟩) D.length cap) (kk + 1) (hN w (w.setCell ⟨g, off + j * 2 + 1, none⟩ (.bool true)) H) ∧ RFr w (w.setCell ⟨g, off + j * 2 + 1, none⟩ (.bool true)) H (hN w (w.setCell ⟨g, off + j * 2 + 1, none⟩ (.bool true)) H)) := hide (by
    have hsz : (w.setCell ⟨g, off + j * 2 + 1, none⟩ (.bool true)).heap.size = w.heap.size := by simp [World.setCell]
    have hk : ∀ x, x ≠ g → (w.setCell ⟨g, off + j * 2 + 1, none⟩ (.bool true)).heap[x]? = w.heap[x]? := fun x hx => Below.heap_setCell _ _ _ x hx
    refine ⟨h.move ((hk rb hne).trans h.hdr) (fun x _ _ hx => hk x (fun e => hx (by rw [e]; rfl))) ?_ (fun x hx => Or.inl hx) (Nat.le_of_eq hsz.symm) (by rw [List.length_set]; omega), ⟨rfl, rfl, rfl, Nat.le_of_eq hsz.symm, fun x hx hnx => hk x (fun e => hnx (e ▸ hg)), fun x hx => hx.imp id And.left, fun x hx => Or.inl hx⟩⟩
    rw [rdc_end D j _ hp, List.length_set]
    have := OR.setAt (u := .bool true) h.rds (i := j * 2 + 1) (by rw [rdc_len]; omega)
    rw [← Nat.add_assoc] at this
    exact this)
  have d1 : decide ((j : Int) + 1 < 1) = false := decide_eq_false (by omega)
  have d2 : decide ((D.length : Int) < (j : Int) + 1) = false := decide_eq_false (by omega)
  have w1 : wrap64 ((j : Int) + 1 - 1) = (j : Int) := by unfold wrap64; omega
  have j0 : (0 : Int) ≤ (j : Int) := by omega
  have j1 : (j : Int) < (D.length : Int) := by omega
  clear h hn hD hp hc hcur hg
  go_enter Tryz.func75, Tryz.ntmps75
  go_wp2_with fail
  go_ret
  exact ⟨rfl, HE.out⟩
end Go.Proofs.YtgeholiagcckoaaGreatDoor
