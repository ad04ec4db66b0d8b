/-
  My own text: the document's own reader.
-/
import Derived.Test.YthalmfbcdkihgaaDoorWR1
import Derived.Deep.RegionWith
namespace Go.Proofs.YthalmfbcdkihgaaDoor
open Go.RowKit Go.Extern

/-- The document's reader at place o of block q: of the bytes of v, n are read; the error. -/
structure Rf (w : World) (q o : Nat) (v : Value) (n : Nat) (e : Int) : Prop where
  c0 : w.cell? ⟨q, o, none⟩ = some v
  c1 : w.cell? ⟨q, o + 1, none⟩ = some (.int .i64 n)
  c2 : w.cell? ⟨q, o + 2, none⟩ = some (.int .i64 e)
  f1 : w.frozen? ⟨q, o + 1, none⟩ = false
  f2 : w.frozen? ⟨q, o + 2, none⟩ = false
/-- Nothing but what that reader has read, and its error, has changed. -/
structure Ch (q o : Nat) (w w' : World) : Prop where
  only : Only q w w'
  cell : ∀ j, j ≠ o + 1 → j ≠ o + 2 → w'.cell? ⟨q, j, none⟩ = w.cell? ⟨q, j, none⟩
  froz : ∀ j, w'.frozen? ⟨q, j, none⟩ = w.frozen? ⟨q, j, none⟩
theorem Ch.refl (q o : Nat) (w : World) : Ch q o w w := ⟨Only.refl _ _, fun _ _ _ => rfl, fun _ => rfl⟩
theorem Ch.trans {q o : Nat} {w w1 w2 : World} (h : Ch q o w w1) (k : Ch q o w1 w2) : Ch q o w w2 := ⟨h.only.trans k.only, fun j a b => (k.cell j a b).trans (h.cell j a b), fun j => (k.froz j).trans (h.froz j)⟩
theorem cell_ne {w : World} {q i j : Nat} {u : Value} (h : i ≠ j) : (w.setCell ⟨q, i, none⟩ u).cell? ⟨q, j, none⟩ = w.cell? ⟨q, j, none⟩ := World.cell?_setCell_other w _ _ _ (fun e => h (by injection e))
theorem Ch.set1 (q o : Nat) (w : World) (u : Value) : Ch q o w (w.setCell ⟨q, o + 1, none⟩ u) := ⟨Only.set _ _ _ _, fun _ a _ => cell_ne (fun e => a e.symm), fun _ => World.frozen?_setCell _ _ _ _⟩
theorem Ch.set2 (q o : Nat) (w : World) (u : Value) : Ch q o w (w.setCell ⟨q, o + 2, none⟩ u) := ⟨Only.set _ _ _ _, fun _ _ b => cell_ne (fun e => b e.symm), fun _ => World.frozen?_setCell _ _ _ _⟩
theorem Rf.set1 {w : World} {q o n : Nat} {v : Value} {e : Int} (h : Rf w q o v n e) (m : Nat) : Rf (w.setCell ⟨q, o + 1, none⟩ (.int .i64 m)) q o v m e :=
  ⟨(cell_ne (by omega)).trans h.c0, World.cell?_setCell_same _ _ _ h.c1, (cell_ne (by omega)).trans h.c2, (World.frozen?_setCell _ _ _ _).trans h.f1, (World.frozen?_setCell _ _ _ _).trans h.f2⟩
theorem Rf.set2 {w : World} {q o n : Nat} {v : Value} {e : Int} (h : Rf w q o v n e) (k : Int) : Rf (w.setCell ⟨q, o + 2, none⟩ (.int .i64 k)) q o v n k :=
  ⟨(cell_ne (by omega)).trans h.c0, (cell_ne (by omega)).trans h.c1, World.cell?_setCell_same _ _ _ h.c2, (World.frozen?_setCell _ _ _ _).trans h.f1, (World.frozen?_setCell _ _ _ _).trans h.f2⟩
theorem RG.only {w w1 : World} {q g : Nat} {v : Value} {l : List UInt8} (h : RG w g v l) (ho : Only q w w1) (hne : g ≠ q) : RG w1 g v l := h.keep ho.size (fun _ hlt => ho.block g hlt hne)

theorem Ch.drew (q o : Nat) (w : World) : Ch q o w w.drew := ⟨⟨rfl, rfl, rfl, Nat.le_refl _, fun _ _ _ => rfl⟩, fun _ _ _ => rfl, fun _ => rfl⟩
theorem Rf.drew {w : World} {q o n : Nat} {v : Value} {e : Int} (h : Rf w q o v n e) : Rf w.drew q o v n e := ⟨h.c0, h.c1, h.c2, h.f1, h.f2⟩
theorem RG.drew {w : World} {g : Nat} {v : Value} {l : List UInt8} (h : RG w g v l) : RG w.drew g v l := h.keep (Nat.le_refl _) (fun _ _ => rfl)

/-- What the next number is, where there was no error. -/
def fm (e : Int) (l : List UInt8) : Int × Nat × Int := if e ≠ 0 then (0, 0, e) else beg l
theorem fm_err {e : Int} {l : List UInt8} (h : e ≠ 0) : fm e l = (0, 0, e) := by unfold fm; rw [if_pos h]
theorem fm_ok (l : List UInt8) : fm 0 l = beg l := by unfold fm; rw [if_neg (by simp)]
theorem fm_rng (e : Int) (l : List UInt8) (he : 0 ≤ e) (h24 : e ≤ 24) : 0 ≤ (fm e l).1 ∧ (fm e l).1 < 18446744073709551616 ∧ 0 ≤ (fm e l).2.2 ∧ (fm e l).2.2 ≤ 24 ∧ ((fm e l).2.2 = 0 → (fm e l).2.1 ≤ l.length ∧ (fm e l).2.1 ≤ 9) := by
  by_cases h : e = 0
  · subst h
    rw [fm_ok]
    obtain ⟨a, b, c, d⟩ := beg_rng l
    exact ⟨a, b, by omega, by omega, fun h => ⟨(d h).2.1, (d h).2.2⟩⟩
  · rw [fm_err h]
    exact ⟨by show (0 : Int) ≤ 0; omega, by show (0 : Int) < _; omega, he, h24, fun h2 => absurd h2 h⟩
theorem rdU_fm (most : Int) (l : List UInt8) (e : Int) : rdU most l e = if (fm e l).2.2 ≠ 0 then (0, l, (fm e l).2.2) else if most < (fm e l).1 then (0, l, 5) else ((fm e l).1, l.drop (fm e l).2.1, 0) := by
  by_cases h : e = 0
  · subst h; rw [fm_ok]; unfold rdU; rw [if_neg (by simp)]
  · rw [rdU_err h, fm_err h, if_pos h]

theorem ret_ff {a b : Int} {x y : Int} (h1 : a = x) (h2 : b = y) : Ending.returned (.tuple #[.int .u64 a, .int .i64 b]) = .returned (.tuple #[.int .u64 x, .int .i64 y]) := by rw [h1, h2]
set_option maxRecDepth 100000 in
set_option maxHeartbeats 1000000 in
theorem refForm_any (q o g n : Nat) (v : Value) (L : List UInt8) (e : Int) (w : World) (hf : Rf w q o v n e) (hg : RG w g v L) (hn : n ≤ L.length) (hl : L.length ≤ 140737488355328) :
    Calls Tryd.prog 82 #[.pointer (some ⟨q, o, none⟩)] w fun en w' => en = .returned (.tuple #[.int .u64 (fm e (L.drop n)).1, .int .i64 ((fm e (L.drop n)).2.1 : Int)]) ∧ Rf w' q o v n (fm e (L.drop n)).2.2 ∧ Ch q o w w' := by
  have HF := hide hf
  have c0 := hf.c0
  have c1 := hf.c1
  have c2 := hf.c2
  have f2 := hf.f2
  clear hf
  by_cases he : e = 0
  · subst he
    rw [fm_ok]
    have HU : Hid (∀ W u, RG W g u (L.drop n) → _) := hide (fun W u hu => refUint_any g u (L.drop n) W hu (by rw [List.length_drop]; omega))
    have HS := hide (fun k => HF.out.drew.set2 k)
    obtain ⟨X, hX⟩ : ∃ X, Hid ((beg (L.drop n)).1 = X) := ⟨_, hide rfl⟩
    obtain ⟨N, hN⟩ : ∃ N, Hid ((beg (L.drop n)).2.1 = N) := ⟨_, hide rfl⟩
    obtain ⟨E, hE⟩ : ∃ E, Hid ((beg (L.drop n)).2.2 = E) := ⟨_, hide rfl⟩
    rw [hX.out, hN.out, hE.out] at HU
    rw [hX.out, hN.out, hE.out]
    by_cases h0 : L = []
    · subst h0
      obtain ⟨a, cap, rfl, hcap, _⟩ := hg
      have hn0 : n = 0 := by simpa using hn
      subst hn0
      clear hX hN hE
      cases a with
      | none =>
        go_enter Tryd.func82, Tryd.ntmps82
        go_wp2_with fail
        go_region_with (go_at_call 72; refine (HU.out _ _ ⟨_, _, rfl, Nat.zero_le _, .inl rfl⟩).mono ?_; rintro en w1 ⟨rfl, hw⟩; obtain rfl := hw.symm)
        all_goals
          go_wp2_with fail
          go_ret2
          exact ⟨rfl, HS.out E, (Ch.drew _ _ _).trans (Ch.set2 _ _ _ _)⟩
      | some ad =>
        go_enter Tryd.func82, Tryd.ntmps82
        go_wp2_with fail
        go_region_with (go_at_call 72; refine (HU.out _ _ ⟨_, _, rfl, Nat.zero_le _, .inl rfl⟩).mono ?_; rintro en w1 ⟨rfl, hw⟩; obtain rfl := hw.symm)
        all_goals
          go_wp2_with fail
          go_ret2
          exact ⟨rfl, HS.out E, (Ch.drew _ _ _).trans (Ch.set2 _ _ _ _)⟩
    · have HG := hide hg
      obtain ⟨a, cap, rfl, hcap, hr⟩ := hg
      obtain ⟨off, rfl⟩ : ∃ off, a = some ⟨g, off, none⟩ := by
        rcases hr with h | ⟨off, h, _⟩
        · exact absurd h h0
        · exact ⟨off, h⟩
      have HR1 := hide (fun hc : cap = n => rg_drop_all (off := off) (n := n) HG.out (by omega))
      have HR2 := hide (rg_drop (n := n) HG.out hn)
      clear hr h0 hX hN hE HG
      by_cases hcn : cap = n
      · subst hcn
        have HUa := hide (HU.out _ _ (HR1.out rfl).drew)
        clear HR1 HR2 HU
        go_enter Tryd.func82, Tryd.ntmps82
        go_wp2_with fail
        go_region_with (go_at_call 72; refine HUa.out.mono ?_; rintro en w1 ⟨rfl, hw⟩; obtain rfl := hw.symm)
        all_goals
          go_wp2_with fail
          go_ret2
          exact ⟨rfl, HS.out E, (Ch.drew _ _ _).trans (Ch.set2 _ _ _ _)⟩
      · have HUa := hide (HU.out _ _ HR2.out.drew)
        clear HR1 HR2 HU
        go_enter Tryd.func82, Tryd.ntmps82
        go_wp2_with fail
        go_region_with (go_at_call 72; refine HUa.out.mono ?_; rintro en w1 ⟨rfl, hw⟩; obtain rfl := hw.symm)
        all_goals
          go_wp2_with fail
          go_ret2
          exact ⟨rfl, HS.out E, (Ch.drew _ _ _).trans (Ch.set2 _ _ _ _)⟩
  · rw [fm_err he]
    have hne : (e != 0) = true := by simpa using he
    go_enter Tryd.func82, Tryd.ntmps82
    go_wp2_with fail
    go_ret2
    exact ⟨rfl, HF.out, Ch.refl _ _ _⟩
end Go.Proofs.YthalmfbcdkihgaaDoor
