/-
  My own text: a reader: what it holds, a number read.
-/
import Derived.Test.YthalmfbcdkihgaaDoorW6
namespace Go.Proofs.YthalmfbcdkihgaaDoor
open Go.RowKit Go.Extern

theorem Tryd.nilNeqG (i : Nat) (w : World) : (eqGuard .neq 37 (.tmp i) (.const .nilIface) .nilIface .nilIface).run Tryd.prog w = .ok () w := by kernel_rfl
theorem Tryd.nilNeq (w : World) : (binOp .neq 37 .nilIface .nilIface).run Tryd.prog w = .ok (.bool false) w := by kernel_rfl
theorem Tryd.nilEqlG (i : Nat) (w : World) : (eqGuard .eql 37 (.tmp i) (.const .nilIface) .nilIface .nilIface).run Tryd.prog w = .ok () w := by kernel_rfl
theorem Tryd.nilEql (w : World) : (binOp .eql 37 .nilIface .nilIface).run Tryd.prog w = .ok (.bool true) w := by kernel_rfl

theorem beg_rng (l : List UInt8) : 0 ≤ (beg l).1 ∧ (beg l).1 < 18446744073709551616 ∧ ((beg l).2.2 = 0 ∨ (beg l).2.2 = 2 ∨ (beg l).2.2 = 4) ∧ ((beg l).2.2 = 0 → 1 ≤ (beg l).2.1 ∧ (beg l).2.1 ≤ l.length ∧ (beg l).2.1 ≤ 9) := by
  cases l with
  | nil => exact ⟨by decide, by decide, .inr (.inl rfl), fun h => by cases h⟩
  | cons c t =>
    have c8 := c.toNat_lt
    by_cases h1 : c.toNat < 248
    · rw [beg_lo h1]
      exact ⟨by show 0 ≤ (c.toNat : Int); omega, by show (c.toNat : Int) < _; omega, .inl rfl, fun _ => ⟨Nat.le_refl _, by simp, by show 1 ≤ 9; decide⟩⟩
    · by_cases h2 : t.length < c.toNat - 247
      · rw [beg_short h1 h2]; exact ⟨by decide, by decide, .inr (.inl rfl), fun h => by cases h⟩
      · by_cases h3 : nb (bval (t.take (c.toNat - 247))) = c.toNat - 247
        · rw [beg_ok h1 h2 h3]
          have hr := bval_rng (t.take (c.toNat - 247))
          rw [List.length_take, Nat.min_eq_left (by omega)] at hr
          have h8 := pow_8 (k := c.toNat - 247) (by omega) hr.2
          have h7 : 1 + (c.toNat - 247) ≤ t.length + 1 := by omega
          have h6 : 1 + (c.toNat - 247) ≤ 9 := by omega
          simp only [List.length_cons]
          exact ⟨hr.1, h8, Or.inl trivial, fun _ => ⟨Nat.le_add_right _ _, h7, h6⟩⟩
        · rw [beg_bad h1 h2 h3]; exact ⟨by decide, by decide, .inr (.inr rfl), fun h => by cases h⟩

/-- A number read: it, the bytes that are left, the error. -/
def rdU (most : Int) (l : List UInt8) (e : Int) : Int × List UInt8 × Int :=
  if e ≠ 0 then (0, l, e) else if (beg l).2.2 ≠ 0 then (0, l, (beg l).2.2) else if most < (beg l).1 then (0, l, 5) else ((beg l).1, l.drop (beg l).2.1, 0)
theorem rdU_err {most : Int} {l : List UInt8} {e : Int} (h : e ≠ 0) : rdU most l e = (0, l, e) := by unfold rdU; rw [if_pos h]
theorem rdU_bad {most : Int} {l : List UInt8} (h : (beg l).2.2 ≠ 0) : rdU most l 0 = (0, l, (beg l).2.2) := by unfold rdU; rw [if_neg (by simp), if_pos h]
theorem rdU_many {most : Int} {l : List UInt8} (h : (beg l).2.2 = 0) (h2 : most < (beg l).1) : rdU most l 0 = (0, l, 5) := by unfold rdU; rw [if_neg (by simp), if_neg (by simp [h]), if_pos h2]
theorem rdU_ok {most : Int} {l : List UInt8} (h : (beg l).2.2 = 0) (h2 : ¬ most < (beg l).1) : rdU most l 0 = ((beg l).1, l.drop (beg l).2.1, 0) := by unfold rdU; rw [if_neg (by simp), if_neg (by simp [h]), if_neg h2]

/-- Nothing but block r has changed. -/
structure Only (r : Nat) (w w' : World) : Prop where
  os : w'.os = w.os
  tape : w'.tape = w.tape
  output : w'.output = w.output
  size : w.heap.size ≤ w'.heap.size
  block : ∀ k, k < w.heap.size → k ≠ r → w'.heap[k]? = w.heap[k]?
theorem Only.refl (r : Nat) (w : World) : Only r w w := ⟨rfl, rfl, rfl, Nat.le_refl _, fun _ _ _ => rfl⟩
theorem Only.trans {r : Nat} {w w1 w2 : World} (h : Only r w w1) (k : Only r w1 w2) : Only r w w2 :=
  ⟨k.os.trans h.os, k.tape.trans h.tape, k.output.trans h.output, Nat.le_trans h.size k.size, fun j hj hr => (k.block j (Nat.lt_of_lt_of_le hj h.size) hr).trans (h.block j hj hr)⟩
theorem Only.set (r : Nat) (w : World) (i : Nat) (u : Value) : Only r w (w.setCell ⟨r, i, none⟩ u) := ⟨rfl, rfl, rfl, by simp, fun k _ hr => Below.heap_setCell _ _ _ _ hr⟩
theorem Only.toBelow {r B : Nat} {a w w' : World} (h : Only r w w') (hb : Below B a w) (hB : B ≤ w.heap.size) (hr : B ≤ r) : Below B a w' :=
  hb.trans ⟨h.os, h.tape, h.output, h.size, fun k hk => h.block k (by omega) (by omega)⟩
theorem Only.below {r : Nat} {w w1 w2 : World} (h : Only r w w1) (hb : Below w1.heap.size w1 w2) : Only r w w2 :=
  ⟨hb.os.trans h.os, hb.tape.trans h.tape, hb.output.trans h.output, Nat.le_trans h.size hb.size, fun j hj hr => (hb.block j (Nat.lt_of_lt_of_le hj h.size)).trans (h.block j hj hr)⟩
theorem Only.drew {r : Nat} {w w1 : World} (h : Only r w w1) (n : Nat) : Only r w (w1.drewN n) := ⟨h.os, h.tape, h.output, h.size, h.block⟩

/-- A reader at block r (of type t) that has these bytes left, in block g, and this error. -/
def Rd (w : World) (t r g : Nat) (l : List UInt8) (e : Int) : Prop := (∃ v, Blk w r #[v, errV e] t ∧ RG w g v l) ∧ g ≠ r
theorem Rd.lt {w : World} {t r g : Nat} {l : List UInt8} {e : Int} (h : Rd w t r g l e) : r < w.heap.size := by
  obtain ⟨⟨v, hb, _⟩, _⟩ := h; exact hb.lt
theorem Rd.keep {w w1 : World} {t r g : Nat} {l : List UInt8} {e : Int} (h : Rd w t r g l e) (hs : w.heap.size ≤ w1.heap.size) (h1 : w1.heap[r]? = w.heap[r]?) (h2 : l ≠ [] → g < w.heap.size → w1.heap[g]? = w.heap[g]?) : Rd w1 t r g l e := by
  obtain ⟨⟨v, hb, hg⟩, hne⟩ := h
  exact ⟨⟨v, h1.trans hb, hg.keep hs h2⟩, hne⟩
theorem Rd.later {w w1 : World} {t r g : Nat} {l : List UInt8} {e : Int} (h : Rd w t r g l e) (hb : Below w.heap.size w w1) : Rd w1 t r g l e := h.keep hb.size (hb.block r h.lt) (fun _ => hb.block g)
theorem Rd.moved {w w1 : World} {t r g B q : Nat} {v v' : Value} {l L : List UInt8} {e : Int} (h : Rd w t r g l e) (hw : Wr w B q v L) (hm : Moved w w1 q v v') (hr : r < B) (hg : l ≠ [] → g < B) : Rd w1 t r g l e := by
  have ha := hw.2.1.at
  refine h.keep hm.size (hm.block r h.lt (by have := hw.2.2; omega) (fun e => by have := ha r e.symm; omega)) (fun hn hlt => hm.block g hlt (by have := hw.2.2; have := hg hn; omega) (fun e => by have := ha g e.symm; have := hg hn; omega))
theorem Wr.only {w w1 : World} {B q r : Nat} {v : Value} {L : List UInt8} (h : Wr w B q v L) (ho : Only r w w1) (hr : r < B) : Wr w1 B q v L := by
  obtain ⟨h1, h2, h3⟩ := h
  refine ⟨(ho.block q h1.lt (by omega)).trans h1, ⟨h2.1, ?_⟩, h3⟩
  rcases h2.2 with hn | ⟨g, cap, cur, hv, hg, hh, hrest⟩
  · exact .inl hn
  · exact .inr ⟨g, cap, cur, hv, hg, (ho.block g (Array.getElem?_eq_some_iff.1 hh).1 (by omega)).trans hh, hrest⟩
theorem Rd.glt {w : World} {t r g : Nat} {l : List UInt8} {e : Int} (h : Rd w t r g l e) (hn : l ≠ []) : g < w.heap.size := by
  obtain ⟨⟨v, hb, a, cap, _, _, hr⟩, _⟩ := h
  rcases hr with h0 | ⟨off, _, hlt, _⟩
  · exact absurd h0 hn
  · exact hlt
theorem Rd.setErr {w : World} {t r g : Nat} {v : Value} {l : List UInt8} {e e' : Int} (hb : Blk w r #[v, errV e] t) (hg : RG w g v l) (hne : g ≠ r) : Rd (w.setCell ⟨r, 1, none⟩ (errV e')) t r g l e' :=
  ⟨⟨v, hb.set 1 _, hg.keep (by simp) (fun _ _ => Below.heap_setCell _ _ _ _ hne)⟩, hne⟩
theorem Rd.setRest {w : World} {t r g : Nat} {v v' : Value} {l' : List UInt8} {e : Int} (hb : Blk w r #[v, errV e] t) (hg : RG w g v' l') (hne : g ≠ r) : Rd (w.setCell ⟨r, 0, none⟩ v') t r g l' e :=
  ⟨⟨v', hb.set 0 _, hg.keep (by simp) (fun _ _ => Below.heap_setCell _ _ _ _ hne)⟩, hne⟩
theorem rg_drop {w : World} {g off cap n : Nat} {l : List UInt8} (h : RG w g (.slice (some ⟨g, off, none⟩) l.length cap) l) (hn : n ≤ l.length) : RG w g (.slice (some ⟨g, off + n, none⟩) (l.length - n) (cap - n)) (l.drop n) := by
  obtain ⟨a, c, hv, hc, hr⟩ := h
  cases hv
  refine ⟨_, _, by rw [List.length_drop], by rw [List.length_drop]; omega, ?_⟩
  rcases hr with h | ⟨o, ho, hlt, hcell⟩
  · left; rw [h]; exact List.drop_nil
  · cases ho
    refine .inr ⟨off + n, rfl, hlt, fun j d hj => ?_⟩
    have := hcell (n + j) d (by rw [List.getElem?_drop] at hj; exact hj)
    rw [← this, Nat.add_assoc]
theorem rg_drop_all {w : World} {g off n : Nat} {v : Value} {l : List UInt8} (_h : RG w g v l) (hn : l.length ≤ n) : RG w g (.slice (some ⟨g, off, none⟩) 0 0) (l.drop n) := by
  rw [List.drop_eq_nil_of_le hn]
  exact ⟨_, _, rfl, Nat.le_refl _, .inl rfl⟩
theorem RG.any {w w' : World} {g g' : Nat} {v : Value} (h : RG w g v []) : RG w' g' v [] := by
  obtain ⟨a, c, hv, hc, _⟩ := h
  exact ⟨a, c, hv, hc, .inl rfl⟩
theorem rg_take {w : World} {g off cap n : Nat} {l : List UInt8} (h : RG w g (.slice (some ⟨g, off, none⟩) l.length cap) l) (hn : n ≤ l.length) : RG w g (.slice (some ⟨g, off, none⟩) n cap) (l.take n) := by
  obtain ⟨a, c, hv, hc, hr⟩ := h
  cases hv
  refine ⟨_, _, by rw [List.length_take, Nat.min_eq_left hn], by rw [List.length_take]; omega, ?_⟩
  rcases hr with h | ⟨o, ho, hlt, hcell⟩
  · left; rw [h]; exact List.take_nil
  · cases ho
    refine .inr ⟨off, rfl, hlt, fun j d hj => ?_⟩
    refine hcell j d ?_
    rw [List.getElem?_take] at hj
    split at hj
    · exact hj
    · cases hj

set_option maxRecDepth 100000 in
set_option maxHeartbeats 1000000 in
theorem srcUint_any (most : Int) (t r g : Nat) (l : List UInt8) (e : Int) (w : World) (hd : Rd w t r g l e) (he : 0 ≤ e) (hl : l.length ≤ 140737488355328) :
    Calls Tryd.prog 17 #[.pointer (some ⟨r, 0, none⟩), .int .u64 most] w fun en w' => en = .returned (.int .u64 (rdU most l e).1) ∧ Rd w' t r g (rdU most l e).2.1 (rdU most l e).2.2 ∧ Only r w w' := by
  obtain ⟨⟨v, hb, hg⟩, hne⟩ := hd
  have c0 : w.cell? ⟨r, 0, none⟩ = some v := hb.cell 0
  have c1 : w.cell? ⟨r, 1, none⟩ = some (errV e) := hb.cell 1
  have f0 := hb.free 0
  have f1 := hb.free 1
  have HBl := hide hb
  have HRG := hide hg
  have HB := hide (begins_any g v l w hg hl)
  obtain ⟨x0, x1, hcase, hsz⟩ := beg_rng l
  obtain ⟨a, cap, rfl, hcap, hr⟩ := hg
  have nG := Tryd.nilNeqG
  have nN := Tryd.nilNeq
  have eG := Tryd.nilEqlG
  have eE := Tryd.nilEql
  clear hb
  by_cases h0 : e = 0
  · subst h0
    rw [errV_zero] at c1
    by_cases hb0 : (beg l).2.2 = 0
    · obtain ⟨s1, s2, s9⟩ := hsz hb0
      rw [hb0, errV_zero] at HB
      by_cases hm : most < (beg l).1
      · rw [rdU_many hb0 hm]
        obtain ⟨X, hX⟩ : ∃ X, Hid ((beg l).1 = X) := ⟨_, hide rfl⟩
        obtain ⟨n, hn⟩ : ∃ n, Hid ((beg l).2.1 = n) := ⟨_, hide rfl⟩
        rw [hX.out] at HB hm
        rw [hn.out] at HB
        clear hb0 hcase hsz s1 s2 s9 x0 x1 hr
        have HD := hide (Rd.setErr (e' := 5) HBl.out HRG.out hne)
        rw [errV_pos (by decide)] at HD
        go_enter Tryd.func17, Tryd.ntmps17
        go_wp2_with fail
        refine HB.out.mono ?_
        rintro en w1 ⟨rfl, hw⟩
        obtain rfl := hw.symm
        go_wp2_with fail
        go_ret
        exact ⟨rfl, HD.out, Only.set _ _ _ _⟩
      · rw [rdU_ok hb0 hm]
        rcases hr with h | ⟨off, rfl, hgl, hc⟩
        · have h9 : l.length = 0 := by rw [h]; rfl
          omega
        obtain ⟨X, hX⟩ : ∃ X, Hid ((beg l).1 = X) := ⟨_, hide rfl⟩
        obtain ⟨n, hn⟩ : ∃ n, Hid ((beg l).2.1 = n) := ⟨_, hide rfl⟩
        rw [hX.out] at HB hm x0 x1
        rw [hn.out] at HB s1 s2 s9
        rw [hX.out, hn.out]
        clear hb0 hcase hsz hc
        by_cases hcn : cap = n
        · subst hcn
          have HD := hide (Rd.setRest HBl.out (rg_drop_all (off := off) HRG.out hcap) hne)
          go_enter Tryd.func17, Tryd.ntmps17
          go_wp2_with fail
          refine HB.out.mono ?_
          rintro en w1 ⟨rfl, hw⟩
          obtain rfl := hw.symm
          go_wp2_with fail
          go_ret
          exact ⟨rfl, HD.out, Only.set _ _ _ _⟩
        · have HD := hide (Rd.setRest HBl.out (rg_drop (n := n) HRG.out s2) hne)
          go_enter Tryd.func17, Tryd.ntmps17
          go_wp2_with fail
          refine HB.out.mono ?_
          rintro en w1 ⟨rfl, hw⟩
          obtain rfl := hw.symm
          go_wp2_with fail
          go_ret
          exact ⟨rfl, HD.out, Only.set _ _ _ _⟩
    · rw [rdU_bad hb0]
      obtain ⟨X, hX⟩ : ∃ X, Hid ((beg l).1 = X) := ⟨_, hide rfl⟩
      obtain ⟨n, hn⟩ : ∃ n, Hid ((beg l).2.1 = n) := ⟨_, hide rfl⟩
      rw [hX.out, hn.out] at HB
      obtain ⟨k, hk⟩ : ∃ k, Hid ((beg l).2.2 = k) := ⟨_, hide rfl⟩
      rw [hk.out] at HB hb0 hcase ⊢
      have k1 : 1 ≤ k := by omega
      have HD := hide (Rd.setErr (e' := k) HBl.out HRG.out hne)
      rw [errV_pos k1] at HB HD
      clear hsz hr x0 x1 hcase hb0
      go_enter Tryd.func17, Tryd.ntmps17
      go_wp2_with fail
      refine HB.out.mono ?_
      rintro en w1 ⟨rfl, hw⟩
      obtain rfl := hw.symm
      go_wp2_with fail
      go_ret
      exact ⟨rfl, HD.out, Only.set _ _ _ _⟩
  · rw [rdU_err h0]
    rw [errV_pos (by omega)] at c1
    have HD : Hid (Rd w t r g l e) := hide ⟨⟨_, HBl.out, HRG.out⟩, hne⟩
    clear hsz hr x0 x1 hcase HB
    go_enter Tryd.func17, Tryd.ntmps17
    go_wp2_with fail
    go_ret
    exact ⟨rfl, HD.out, Only.refl _ _⟩

/-! ### what is left, the error, the end -/
theorem left_any (t r g : Nat) (l : List UInt8) (e : Int) (w : World) (hd : Rd w t r g l e) :
    Calls Tryd.prog 18 #[.pointer (some ⟨r, 0, none⟩)] w fun en w' => en = .returned (.int .i64 (l.length : Int)) ∧ w' = w := by
  obtain ⟨⟨v, hb, hg⟩, hne⟩ := hd
  obtain ⟨a, cap, rfl, hcap, hr⟩ := hg
  have c0 : w.cell? ⟨r, 0, none⟩ = some (.slice a l.length cap) := hb.cell 0
  clear hr hb
  go_enter Tryd.func18, Tryd.ntmps18
  go_wp2
  go_ret
  exact ⟨rfl, rfl⟩
theorem err_any (t r g : Nat) (l : List UInt8) (e : Int) (w : World) (hd : Rd w t r g l e) (he : 0 ≤ e) :
    Calls Tryd.prog 16 #[.pointer (some ⟨r, 0, none⟩)] w fun en w' => en = .returned (errV e) ∧ w' = w := by
  obtain ⟨⟨v, hb, hg⟩, hne⟩ := hd
  have c1 : w.cell? ⟨r, 1, none⟩ = some (errV e) := hb.cell 1
  clear hg hb
  by_cases h0 : e = 0
  · subst h0
    rw [errV_zero] at c1 ⊢
    go_enter Tryd.func16, Tryd.ntmps16
    go_wp2
    go_ret
    exact ⟨rfl, rfl⟩
  · rw [errV_pos (by omega)] at c1 ⊢
    go_enter Tryd.func16, Tryd.ntmps16
    go_wp2
    go_ret
    exact ⟨rfl, rfl⟩
/-- What End answers. -/
def endE (l : List UInt8) (e : Int) : Int := if e = 0 ∧ l ≠ [] then 3 else e
set_option maxRecDepth 100000 in
theorem end_any (t r g : Nat) (l : List UInt8) (e : Int) (w : World) (hd : Rd w t r g l e) (he : 0 ≤ e) :
    Calls Tryd.prog 15 #[.pointer (some ⟨r, 0, none⟩)] w fun en w' => en = .returned (errV (endE l e)) ∧ w' = w := by
  obtain ⟨⟨v, hb, hg⟩, hne⟩ := hd
  obtain ⟨a, cap, rfl, hcap, hr⟩ := hg
  have c0 : w.cell? ⟨r, 0, none⟩ = some (.slice a l.length cap) := hb.cell 0
  have c1 : w.cell? ⟨r, 1, none⟩ = some (errV e) := hb.cell 1
  have eG := Tryd.nilEqlG
  have eE := Tryd.nilEql
  clear hr hb
  by_cases h0 : e = 0
  · subst h0
    rw [errV_zero] at c1
    by_cases h1 : l = []
    · subst h1
      go_enter Tryd.func15, Tryd.ntmps15
      go_wp2
      go_ret
      exact ⟨rfl, rfl⟩
    · have hp : 0 < l.length := List.length_pos_iff.2 h1
      have : endE l 0 = 3 := by unfold endE; rw [if_pos ⟨rfl, h1⟩]
      rw [this, errV_pos (by decide)]
      clear this h1
      go_enter Tryd.func15, Tryd.ntmps15
      go_wp2
      go_ret
      exact ⟨rfl, rfl⟩
  · have : endE l e = e := by unfold endE; rw [if_neg (by simp [h0])]
    rw [this]
    rw [errV_pos (by omega)] at c1 ⊢
    clear this
    go_enter Tryd.func15, Tryd.ntmps15
    go_wp2
    go_ret
    exact ⟨rfl, rfl⟩

/-! ### a new reader -/
set_option maxRecDepth 100000 in
set_option maxHeartbeats 1000000 in
theorem newReader_any (v : Value) (l : List UInt8) (w : World) (hv : RB w v l) (hl : l.length ≤ 140737488355328) :
    Calls Tryd.prog 12 #[v] w fun en w' => ∃ r g, en = .returned (.pointer (some ⟨r, 0, none⟩)) ∧ Rd w' 42 r g l 0 ∧ w.heap.size ≤ r ∧ (l ≠ [] → w.heap.size ≤ g) ∧ Below w.heap.size w w' := by
  have HC := hide (clone_any v l w hv hl)
  obtain ⟨g0, a0, cap0, rfl, _, _⟩ := hv
  go_enter Tryd.func12, Tryd.ntmps12
  go_wp2_with fail
  refine HC.out.mono ?_
  rintro en w1 ⟨v1, rfl, ho, hb⟩
  have HG : ∃ g, Hid (RG w1 g v1 l ∧ g ≠ w1.heap.size ∧ (l ≠ [] → w.heap.size ≤ g)) := by
    obtain ⟨g, hg, hgo⟩ := ho.rg
    by_cases h : l = []
    · subst h
      exact ⟨w1.heap.size + 1, hide ⟨hg.any, by omega, fun h => absurd rfl h⟩⟩
    · exact ⟨g, hide ⟨hg, Nat.ne_of_lt (World.ownsRow.lt ho g (hgo h)).2, fun _ => ho.at g (hgo h)⟩⟩
  obtain ⟨g, HG⟩ := HG
  obtain ⟨a1, c1, rfl⟩ := ho.slice
  have HB := hide hb
  clear ho hb
  go_wp2_with fail
  have HBk := hide (Blk.new w1 #[.slice a1 l.length c1, .nilIface] 42)
  go_ret
  exact ⟨w1.heap.size, g, rfl, ⟨⟨_, HBk.out, HG.out.1.later ((Below.refl _ _).alloc (Nat.le_refl _) _)⟩, HG.out.2.1⟩, HB.out.size, HG.out.2.2, HB.out.alloc HB.out.size _⟩
end Go.Proofs.YthalmfbcdkihgaaDoor
