/-
  My own text: what the document's own reader answers: numbers, what is left, the end.
-/
import Derived.Test.YthalmfbcdkihgaaDoorWQ1
namespace Go.Proofs.YthalmfbcdkihgaaDoor
open Go.RowKit Go.Extern

/-- The document's reader behind a call. -/
def After (w w' : World) (q o : Nat) (v : Value) (L l' : List UInt8) (e' : Int) : Prop := (∃ n', n' ≤ L.length ∧ L.drop n' = l' ∧ Rf w' q o v n' e') ∧ Ch q o w w'
set_option maxRecDepth 100000 in
set_option maxHeartbeats 1000000 in
theorem refRUint_any (most : Int) (q o g n : Nat) (v : Value) (L : List UInt8) (e : Int) (w : World) (hf : Rf w q o v n e) (hg : RG w g v L) (hn : n ≤ L.length) (he : 0 ≤ e) (h24 : e ≤ 24) (hl : L.length ≤ 140737488355328) :
    Calls Tryd.prog 69 #[.pointer (some ⟨q, o, none⟩), .int .u64 most] w fun en w' => en = .returned (.int .u64 (rdU most (L.drop n) e).1) ∧ After w w' q o v L (rdU most (L.drop n) e).2.1 (rdU most (L.drop n) e).2.2 := by
  have HM := hide (refForm_any q o g n v L e w hf hg hn hl)
  rw [rdU_fm]
  obtain ⟨x0, x1, y0, y1, z⟩ := fm_rng e (L.drop n) he h24
  rw [List.length_drop] at z
  clear hf hg
  obtain ⟨X, hX⟩ : ∃ X, Hid ((fm e (L.drop n)).1 = X) := ⟨_, hide rfl⟩
  obtain ⟨N, hN⟩ : ∃ N, Hid ((fm e (L.drop n)).2.1 = N) := ⟨_, hide rfl⟩
  obtain ⟨E, hE⟩ : ∃ E, Hid ((fm e (L.drop n)).2.2 = E) := ⟨_, hide rfl⟩
  rw [hX.out, hN.out, hE.out] at HM
  rw [hX.out, hN.out, hE.out]
  rw [hX.out] at x0 x1
  rw [hE.out] at y0 y1
  rw [hE.out, hN.out] at z
  clear hX hN hE
  by_cases h : E = 0
  · subst h
    obtain ⟨z1, z9⟩ := z rfl
    rw [if_neg (by simp)]
    clear z
    by_cases hm : most < X
    · rw [if_pos hm]
      have dm : decide (most < X) = true := by rw [decide_eq_true_eq]; exact hm
      go_enter Tryd.func69, Tryd.ntmps69
      go_wp2_with fail
      refine HM.out.mono ?_
      rintro en w1 ⟨rfl, hf1, hc1⟩
      have c2 := hf1.c2
      have f2 := hf1.f2
      have HS := hide (hf1.set2 5)
      have HC := hide (hc1.trans (Ch.set2 q o w1 (.int .i64 5)))
      clear hf1 hc1
      go_wp2_with fail
      go_ret
      exact ⟨rfl, ⟨n, hn, rfl, HS.out⟩, HC.out⟩
    · rw [if_neg hm]
      have dm : decide (most < X) = false := by rw [decide_eq_false_iff_not]; exact hm
      go_enter Tryd.func69, Tryd.ntmps69
      go_wp2_with fail
      refine HM.out.mono ?_
      rintro en w1 ⟨rfl, hf1, hc1⟩
      have c1 := hf1.c1
      have c2 := hf1.c2
      have f1 := hf1.f1
      have HS := hide (hf1.set1 (n + N))
      rw [Int.natCast_add] at HS
      have HC := hide (hc1.trans (Ch.set1 q o w1 (.int .i64 ((n : Int) + (N : Int)))))
      clear hf1 hc1
      go_wp2_with fail
      go_ret
      exact ⟨rfl, ⟨n + N, by omega, by rw [List.drop_drop], HS.out⟩, HC.out⟩
  · rw [if_pos h]
    have hne : (E != 0) = true := by simpa using h
    have heq : (E == 0) = false := by simpa using h
    go_enter Tryd.func69, Tryd.ntmps69
    go_wp2_with fail
    refine HM.out.mono ?_
    rintro en w1 ⟨rfl, hf1, hc1⟩
    have c2 := hf1.c2
    have HS := hide hf1
    have HC := hide hc1
    clear hf1 hc1
    go_wp2_with fail
    go_ret
    exact ⟨rfl, ⟨n, hn, rfl, HS.out⟩, HC.out⟩

theorem refUnfolded_any (u : Int) (w : World) (h1 : 0 ≤ u) (h2 : u < 18446744073709551616) :
    Calls Tryd.prog 83 #[.int .u64 u] w fun en w' => en = .returned (.int .i64 (unfI u)) ∧ w' = w := by
  by_cases h : u % 2 = 0
  · have e : unfI u = u / 2 := by unfold unfI; rw [if_neg (by omega)]
    rw [e]
    have hd : (u % 2 == 0) = true := by simpa using h
    go_enter Tryd.func83, Tryd.ntmps83
    go_wp2
    go_ret
    exact ⟨ret_i (by omega), rfl⟩
  · have e : unfI u = -(u / 2) - 1 := by unfold unfI; rw [if_pos (by omega)]
    rw [e]
    have hd : (u % 2 == 0) = false := by simpa using h
    go_enter Tryd.func83, Tryd.ntmps83
    go_wp2
    go_ret
    exact ⟨ret_i (by omega), rfl⟩

set_option maxRecDepth 100000 in
set_option maxHeartbeats 1000000 in
theorem refRInt_any (q o g n : Nat) (v : Value) (L : List UInt8) (e : Int) (w : World) (hf : Rf w q o v n e) (hg : RG w g v L) (hn : n ≤ L.length) (he : 0 ≤ e) (h24 : e ≤ 24) (hl : L.length ≤ 140737488355328) :
    Calls Tryd.prog 70 #[.pointer (some ⟨q, o, none⟩)] w fun en w' => en = .returned (.int .i64 (rdI (L.drop n) e).1) ∧ After w w' q o v L (rdI (L.drop n) e).2.1 (rdI (L.drop n) e).2.2 := by
  have HM := hide (refForm_any q o g n v L e w hf hg hn hl)
  unfold rdI
  rw [rdU_fm]
  obtain ⟨x0, x1, y0, y1, z⟩ := fm_rng e (L.drop n) he h24
  rw [List.length_drop] at z
  clear hf hg
  obtain ⟨X, hX⟩ : ∃ X, Hid ((fm e (L.drop n)).1 = X) := ⟨_, hide rfl⟩
  obtain ⟨N, hN⟩ : ∃ N, Hid ((fm e (L.drop n)).2.1 = N) := ⟨_, hide rfl⟩
  obtain ⟨E, hE⟩ : ∃ E, Hid ((fm e (L.drop n)).2.2 = E) := ⟨_, hide rfl⟩
  rw [hX.out, hN.out, hE.out] at HM
  rw [hX.out, hN.out, hE.out]
  rw [hX.out] at x0 x1
  rw [hE.out] at y0 y1
  rw [hE.out, hN.out] at z
  clear hX hN hE
  by_cases h : E = 0
  · subst h
    obtain ⟨z1, z9⟩ := z rfl
    rw [if_neg (by simp), if_neg (by omega)]
    clear z
    have HUn := hide (fun W : World => refUnfolded_any X W x0 x1)
    obtain ⟨Y, hY⟩ : ∃ Y, Hid (unfI X = Y) := ⟨_, hide rfl⟩
    rw [hY.out] at HUn
    dsimp only
    rw [hY.out]
    go_enter Tryd.func70, Tryd.ntmps70
    go_wp2_with fail
    refine HM.out.mono ?_
    rintro en w1 ⟨rfl, hf1, hc1⟩
    have c1 := hf1.c1
    have c2 := hf1.c2
    have f1 := hf1.f1
    have HS := hide (hf1.set1 (n + N))
    rw [Int.natCast_add] at HS
    have HC := hide (hc1.trans (Ch.set1 q o w1 (.int .i64 ((n : Int) + (N : Int)))))
    clear hf1 hc1
    go_wp2_with fail
    refine (HUn.out _).mono ?_
    rintro en w2 ⟨rfl, hw⟩
    subst hw
    go_wp2_with fail
    go_ret
    exact ⟨rfl, ⟨n + N, by omega, by rw [List.drop_drop], HS.out⟩, HC.out⟩
  · rw [if_pos h]
    have hne : (E != 0) = true := by simpa using h
    have hu0 : unfI 0 = 0 := by decide
    dsimp only
    rw [hu0]
    go_enter Tryd.func70, Tryd.ntmps70
    go_wp2_with fail
    refine HM.out.mono ?_
    rintro en w1 ⟨rfl, hf1, hc1⟩
    have c2 := hf1.c2
    have HS := hide hf1
    have HC := hide hc1
    clear hf1 hc1
    go_wp2_with fail
    go_ret
    exact ⟨rfl, ⟨n, hn, rfl, HS.out⟩, HC.out⟩

theorem refLeft_any (q o g n : Nat) (v : Value) (L : List UInt8) (e : Int) (w : World) (hf : Rf w q o v n e) (hg : RG w g v L) (hn : n ≤ L.length) (hl : L.length ≤ 140737488355328) :
    Calls Tryd.prog 50 #[.pointer (some ⟨q, o, none⟩)] w fun en w' => en = .returned (.int .i64 ((L.drop n).length : Int)) ∧ w' = w.drew := by
  obtain ⟨a, cap, rfl, hcap, _⟩ := hg
  have c0 := hf.c0
  have c1 := hf.c1
  clear hf
  have HD : Hid ((L.length : Int) - (n : Int) = ((L.drop n).length : Int)) := hide (by rw [List.length_drop]; omega)
  have HWr : Hid (IntKind.i64.wrap ((L.length : Int) - (n : Int)) = (L.length : Int) - (n : Int)) := hide (by rw [IntKind.wrap_i64]; omega)
  rw [← HD.out]
  go_enter Tryd.func50, Tryd.ntmps50
  go_wp2_with fail
  go_region_with fail
  all_goals
    go_wp2_with fail
    go_ret
    exact ⟨(show Ending.returned (.int .i64 (IntKind.i64.wrap ((L.length : Int) - (n : Int)))) = _ from ret_i HWr.out), rfl⟩
set_option maxRecDepth 100000 in
theorem refEnd_any (q o g n : Nat) (v : Value) (L : List UInt8) (e : Int) (w : World) (hf : Rf w q o v n e) (hg : RG w g v L) (hn : n ≤ L.length) (hl : L.length ≤ 140737488355328) :
    Calls Tryd.prog 52 #[.pointer (some ⟨q, o, none⟩)] w fun en w' => en = .returned (.int .i64 (endE (L.drop n) e)) ∧ (w' = w ∨ w' = w.drew) := by
  have HL := hide (refLeft_any q o g n v L e w hf hg hn hl)
  have c2 := hf.c2
  clear hf hg
  unfold endE
  by_cases h : e = 0
  · subst h
    by_cases h0 : L.drop n = []
    · rw [if_neg (by simp [h0])]
      rw [h0] at HL
      go_enter Tryd.func52, Tryd.ntmps52
      go_wp2_with fail
      refine HL.out.mono ?_
      rintro en w1 ⟨rfl, rfl⟩
      have c3 : w.drew.cell? ⟨q, o + 2, none⟩ = some (.int .i64 0) := c2
      go_wp2_with fail
      go_ret
      exact ⟨rfl, .inr rfl⟩
    · rw [if_pos ⟨rfl, h0⟩]
      have hp : 0 < (L.drop n).length := List.length_pos_iff.2 h0
      have dp : decide (0 < ((L.drop n).length : Int)) = true := by rw [decide_eq_true_eq]; omega
      obtain ⟨K, hK⟩ : ∃ K, Hid ((L.drop n).length = K) := ⟨_, hide rfl⟩
      rw [hK.out] at HL dp hp
      have dk : decide (0 < K) = true := by rw [decide_eq_true_eq]; exact hp
      clear h0
      go_enter Tryd.func52, Tryd.ntmps52
      go_wp2_with fail
      refine HL.out.mono ?_
      rintro en w1 ⟨rfl, rfl⟩
      have c3 : w.drew.cell? ⟨q, o + 2, none⟩ = some (.int .i64 0) := c2
      go_wp2_with fail
      go_ret
      exact ⟨rfl, .inr rfl⟩
  · rw [if_neg (by simp [h])]
    have heq : (e == 0) = false := by simpa using h
    go_enter Tryd.func52, Tryd.ntmps52
    go_wp2_with fail
    go_ret
    exact ⟨rfl, .inl rfl⟩
end Go.Proofs.YthalmfbcdkihgaaDoor
