/-
  My own text: parts of a year: the document's.
-/
import Derived.Test.YtdfeehimnfogmaaGreatDoorD13
import Derived.Test.YtdfeehimnfogmaaGreatDoorD6
namespace Go.Proofs.YtdfeehimnfogmaaGreatDoor
open Go.RowKit

theorem ret_iii {a b c d e f : Int} (h : a = b) (h1 : c = d) (h2 : e = f) : Ending.returned (.tuple #[.int .i64 a, .int .i64 c, .int .i64 e]) = .returned (.tuple #[.int .i64 b, .int .i64 d, .int .i64 f]) := by rw [h, h1, h2]
set_option maxRecDepth 100000 in
set_option maxHeartbeats 4000000 in
theorem refFraction_any (a b s : Int) (w : World) :
    Calls Tryz.prog 51 #[.int .i64 a, .int .i64 b, .int .i64 s] w fun e w' => e = .returned (.tuple #[.int .i64 (frA a b s), .int .i64 (frW a b s), .int .i64 (frE a b s)]) ∧ Below w.heap.size w w' := by
  have HA := hide (fun W : World => refOf_any a W)
  have HB := hide (fun W : World => refOf_any b W)
  cases ha : dayB a
  · rw [(fr_date (b := b) (s := s) (.inl ha)).1, (fr_date (b := b) (s := s) (.inl ha)).2.1, (fr_date (b := b) (s := s) (.inl ha)).2.2]
    rw [(of_bad ha).1, (of_bad ha).2] at HA
    obtain ⟨x, y, z, h⟩ := ofV_parts b
    rw [h] at HB
    clear ha h
    unfold dateV at HA HB
    generalize ofE b = eb at *
    go_enter Tryz.func51, Tryz.ntmps51
    go_wp2_with fail
    refine (HA.out _).mono ?_
    rintro e w1 ⟨rfl, hb1⟩
    have hB2 : Below w.heap.size w (w1.alloc (.cells #[.int .i64 0, .int .i64 0, .int .i64 0] 25)) := hb1.alloc hb1.size _
    go_wp2_with fail
    refine (HB.out _).mono ?_
    rintro e w3 ⟨rfl, hb3⟩
    have hB3 := hB2.trans (hb3.mono hB2.size)
    have hB4 : Hid (Below w.heap.size w (w3.alloc (.cells #[.int .i64 x, .int .i64 y, .int .i64 z] 25))) := hide (hB3.alloc hB3.size _)
    go_wp2_with fail
    go_ret3
    exact ⟨rfl, hB4.out⟩
  cases hb : dayB b
  · rw [(fr_date (a := a) (s := s) (.inr hb)).1, (fr_date (a := a) (s := s) (.inr hb)).2.1, (fr_date (a := a) (s := s) (.inr hb)).2.2]
    rw [(of_ok ha).1, (of_ok ha).2] at HA
    rw [(of_bad hb).1, (of_bad hb).2] at HB
    clear ha hb
    unfold dateV at HA HB
    generalize yearI a = ya at *
    generalize monthI a = ma at *
    generalize dayI a = da at *
    go_enter Tryz.func51, Tryz.ntmps51
    go_wp2_with fail
    refine (HA.out _).mono ?_
    rintro e w1 ⟨rfl, hb1⟩
    have hB2 : Below w.heap.size w (w1.alloc (.cells #[.int .i64 ya, .int .i64 ma, .int .i64 da] 25)) := hb1.alloc hb1.size _
    go_wp2_with fail
    refine (HB.out _).mono ?_
    rintro e w3 ⟨rfl, hb3⟩
    have hB3 := hB2.trans (hb3.mono hB2.size)
    have hB4 : Hid (Below w.heap.size w (w3.alloc (.cells #[.int .i64 0, .int .i64 0, .int .i64 0] 25))) := hide (hB3.alloc hB3.size _)
    go_wp2_with fail
    go_ret3
    exact ⟨rfl, hB4.out⟩
  have HE := hide (fun h => fr_arg (s := s) ha hb h)
  have HO := hide (fun h => fr_ok (s := s) ha hb h)
  rw [(of_ok ha).1, (of_ok ha).2] at HA
  rw [(of_ok hb).1, (of_ok hb).2] at HB
  obtain ⟨a1, a2⟩ := (dayB_iff a).1 ha
  obtain ⟨b1, b2⟩ := (dayB_iff b).1 hb
  clear ha hb
  have qa := yearI_b a1 a2
  have qb := yearI_b b1 b2
  have ra := monthI_b a1
  have rb := monthI_b b1
  have sa := dayI_b a1
  have sb := dayI_b b1
  unfold dateV at HA HB
  generalize yearI a = ya at *
  generalize monthI a = ma at *
  generalize dayI a = da at *
  generalize yearI b = yb at *
  generalize monthI b = mb at *
  generalize dayI b = db at *
  obtain ⟨qa0, qa1⟩ := qa
  obtain ⟨qb0, qb1⟩ := qb
  obtain ⟨ra0, ra1⟩ := ra
  obtain ⟨rb0, rb1⟩ := rb
  obtain ⟨sa0, sa1⟩ := sa
  obtain ⟨sb0, sb1⟩ := sb
  by_cases hc : s < 0
  · have h := HE.out (.inl hc)
    rw [h.1, h.2.1, h.2.2]
    clear h HE HO
    have hcd : decide (s < 0) = true := decide_eq_true hc
    go_enter Tryz.func51, Tryz.ntmps51
    go_wp2_with fail
    refine (HA.out _).mono ?_
    rintro e w1 ⟨rfl, hb1⟩
    have hB2 : Below w.heap.size w (w1.alloc (.cells #[.int .i64 ya, .int .i64 ma, .int .i64 da] 25)) := hb1.alloc hb1.size _
    go_wp2_with fail
    refine (HB.out _).mono ?_
    rintro e w3 ⟨rfl, hb3⟩
    have hB3 := hB2.trans (hb3.mono hB2.size)
    have hB4 : Hid (Below w.heap.size w (w3.alloc (.cells #[.int .i64 yb, .int .i64 mb, .int .i64 db] 25))) := hide (hB3.alloc hB3.size _)
    go_wp2_with fail
    go_ret3
    exact ⟨rfl, hB4.out⟩
  have hs0 := hc
  clear hc
  by_cases hc : 3 < s
  · have h := HE.out (.inr (.inl hc))
    rw [h.1, h.2.1, h.2.2]
    clear h HE HO
    have hcd : decide (3 < s) = true := decide_eq_true hc
    go_enter Tryz.func51, Tryz.ntmps51
    go_wp2_with fail
    refine (HA.out _).mono ?_
    rintro e w1 ⟨rfl, hb1⟩
    have hB2 : Below w.heap.size w (w1.alloc (.cells #[.int .i64 ya, .int .i64 ma, .int .i64 da] 25)) := hb1.alloc hb1.size _
    go_wp2_with fail
    refine (HB.out _).mono ?_
    rintro e w3 ⟨rfl, hb3⟩
    have hB3 := hB2.trans (hb3.mono hB2.size)
    have hB4 : Hid (Below w.heap.size w (w3.alloc (.cells #[.int .i64 yb, .int .i64 mb, .int .i64 db] 25))) := hide (hB3.alloc hB3.size _)
    go_wp2_with fail
    go_ret3
    exact ⟨rfl, hB4.out⟩
  have h3s := hc
  clear hc
  by_cases hc : b < a
  · have h := HE.out (.inr (.inr hc))
    rw [h.1, h.2.1, h.2.2]
    clear h HE HO
    have hcd : decide (b < a) = true := decide_eq_true hc
    go_enter Tryz.func51, Tryz.ntmps51
    go_wp2_with fail
    refine (HA.out _).mono ?_
    rintro e w1 ⟨rfl, hb1⟩
    have hB2 : Below w.heap.size w (w1.alloc (.cells #[.int .i64 ya, .int .i64 ma, .int .i64 da] 25)) := hb1.alloc hb1.size _
    go_wp2_with fail
    refine (HB.out _).mono ?_
    rintro e w3 ⟨rfl, hb3⟩
    have hB3 := hB2.trans (hb3.mono hB2.size)
    have hB4 : Hid (Below w.heap.size w (w3.alloc (.cells #[.int .i64 yb, .int .i64 mb, .int .i64 db] 25))) := hide (hB3.alloc hB3.size _)
    go_wp2_with fail
    go_ret3
    exact ⟨rfl, hB4.out⟩
  have hba := hc
  clear hc
  obtain ⟨hA, hW, hE0⟩ := HO.out (by omega)
  rw [hA, hW, hE0]
  clear hA hW hE0 HO HE
  have hdc : decide (b < a) = false := decide_eq_false hba
  rcases bases (s := s) (by omega) (by omega) with rfl | rfl | rfl | rfl
  · rw [if_pos (by omega), if_neg (by omega)]
    go_enter Tryz.func51, Tryz.ntmps51
    go_wp2_with fail
    refine (HA.out _).mono ?_
    rintro e w1 ⟨rfl, hb1⟩
    have hB2 : Below w.heap.size w (w1.alloc (.cells #[.int .i64 ya, .int .i64 ma, .int .i64 da] 25)) := hb1.alloc hb1.size _
    go_wp2_with fail
    refine (HB.out _).mono ?_
    rintro e w3 ⟨rfl, hb3⟩
    have hB3 := hB2.trans (hb3.mono hB2.size)
    have hB4 : Hid (Below w.heap.size w (w3.alloc (.cells #[.int .i64 yb, .int .i64 mb, .int .i64 db] 25))) := hide (hB3.alloc hB3.size _)
    go_wp2_with fail
    go_ret3
    exact ⟨rfl, hB4.out⟩
  · rw [if_pos (by omega), if_pos (by omega)]
    go_enter Tryz.func51, Tryz.ntmps51
    go_wp2_with fail
    refine (HA.out _).mono ?_
    rintro e w1 ⟨rfl, hb1⟩
    have hB2 : Below w.heap.size w (w1.alloc (.cells #[.int .i64 ya, .int .i64 ma, .int .i64 da] 25)) := hb1.alloc hb1.size _
    go_wp2_with fail
    refine (HB.out _).mono ?_
    rintro e w3 ⟨rfl, hb3⟩
    have hB3 := hB2.trans (hb3.mono hB2.size)
    have hB4 : Hid (Below w.heap.size w (w3.alloc (.cells #[.int .i64 yb, .int .i64 mb, .int .i64 db] 25))) := hide (hB3.alloc hB3.size _)
    go_wp2_with fail
    go_ret3
    exact ⟨rfl, hB4.out⟩
  · rw [if_neg (by omega), if_neg (by omega), show (((2 : Int)) == 3) = false from rfl]
    by_cases hd : da = 31
    · subst hd
      by_cases he : db = 31
      · subst he
        have HZ : Hid (th ya ma 31 yb mb 31 false = 360 * (yb - ya) + 30 * (mb - ma) + (30) - (30)) := by
          show _ = _; unfold th
          rw [show thB 31 31 false = 30 by rfl, show thA 31 = 30 by rfl]
        go_enter Tryz.func51, Tryz.ntmps51
        go_wp2_with fail
        refine (HA.out _).mono ?_
        rintro e w1 ⟨rfl, hb1⟩
        have hB2 : Below w.heap.size w (w1.alloc (.cells #[.int .i64 ya, .int .i64 ma, .int .i64 31] 25)) := hb1.alloc hb1.size _
        go_wp2_with fail
        refine (HB.out _).mono ?_
        rintro e w3 ⟨rfl, hb3⟩
        have hB3 := hB2.trans (hb3.mono hB2.size)
        have hB4 : Hid (Below w.heap.size w (w3.alloc (.cells #[.int .i64 yb, .int .i64 mb, .int .i64 31] 25))) := hide (hB3.alloc hB3.size _)
        have T := ((Trio.new w1 ya ma (31) 25).later hb3)
        have hne : w1.heap.size ≠ w3.heap.size := by have := hb3.size; simp at this; omega
        have hle := hb1.size
        have hle3 : w.heap.size ≤ w3.heap.size := hB3.size
        have T4 := T.alloc (.cells #[.int .i64 yb, .int .i64 mb, .int .i64 31] 25)
        have U4 := Trio.new w3 yb mb (31) 25
        have p0 := T4.c0
        have p1 := T4.c1
        have p2 := T4.c2
        have pf0 := T4.f0
        have pf1 := T4.f1
        have pf2 := T4.f2
        have q0 := U4.c0
        have q1 := U4.c1
        have q2 := U4.c2
        have qf0 := U4.f0
        have qf1 := U4.f1
        have qf2 := U4.f2
        have T5 := T4.put2 30
        have U5 := U4.other (o := 2) (.int .i64 30) hne
        have r0 := T5.c0
        have r1 := T5.c1
        have r2 := T5.c2
        have rf0 := T5.f0
        have rf1 := T5.f1
        have rf2 := T5.f2
        have u0 := U5.c0
        have u1 := U5.c1
        have u2 := U5.c2
        have uf0 := U5.f0
        have uf1 := U5.f1
        have uf2 := U5.f2
        have T6 := T5.other (o := 2) (.int .i64 30) (fun e => hne e.symm)
        have U6 := U5.put2 30
        have x0 := T6.c0
        have x1 := T6.c1
        have x2 := T6.c2
        have xf0 := T6.f0
        have xf1 := T6.f1
        have xf2 := T6.f2
        have z0 := U6.c0
        have z1 := U6.c1
        have z2 := U6.c2
        have zf0 := U6.f0
        have zf1 := U6.f1
        have zf2 := U6.f2
        go_wp2_with fail
        go_ret3
        exact ⟨ret_iii (by rw [HZ.out]; try omega) rfl rfl, ((hB4.out.setCell (p := ⟨w1.heap.size, 2, none⟩) hle _).setCell (p := ⟨w3.heap.size, 2, none⟩) hle3 _)⟩
      · have he2 : (db == 31) = false := by simpa using he
        have HZ : Hid (th ya ma 31 yb mb db false = 360 * (yb - ya) + 30 * (mb - ma) + (db) - (30)) := by
          show _ = _; unfold th
          rw [show thB 31 db false = db by exact if_neg (fun h => he h.1), show thA 31 = 30 by rfl]
        go_enter Tryz.func51, Tryz.ntmps51
        go_wp2_with fail
        refine (HA.out _).mono ?_
        rintro e w1 ⟨rfl, hb1⟩
        have hB2 : Below w.heap.size w (w1.alloc (.cells #[.int .i64 ya, .int .i64 ma, .int .i64 31] 25)) := hb1.alloc hb1.size _
        go_wp2_with fail
        refine (HB.out _).mono ?_
        rintro e w3 ⟨rfl, hb3⟩
        have hB3 := hB2.trans (hb3.mono hB2.size)
        have hB4 : Hid (Below w.heap.size w (w3.alloc (.cells #[.int .i64 yb, .int .i64 mb, .int .i64 db] 25))) := hide (hB3.alloc hB3.size _)
        have T := ((Trio.new w1 ya ma (31) 25).later hb3)
        have hne : w1.heap.size ≠ w3.heap.size := by have := hb3.size; simp at this; omega
        have hle := hb1.size
        have hle3 : w.heap.size ≤ w3.heap.size := hB3.size
        have T4 := T.alloc (.cells #[.int .i64 yb, .int .i64 mb, .int .i64 db] 25)
        have U4 := Trio.new w3 yb mb (db) 25
        have p0 := T4.c0
        have p1 := T4.c1
        have p2 := T4.c2
        have pf0 := T4.f0
        have pf1 := T4.f1
        have pf2 := T4.f2
        have q0 := U4.c0
        have q1 := U4.c1
        have q2 := U4.c2
        have qf0 := U4.f0
        have qf1 := U4.f1
        have qf2 := U4.f2
        have T5 := T4.put2 30
        have U5 := U4.other (o := 2) (.int .i64 30) hne
        have r0 := T5.c0
        have r1 := T5.c1
        have r2 := T5.c2
        have rf0 := T5.f0
        have rf1 := T5.f1
        have rf2 := T5.f2
        have u0 := U5.c0
        have u1 := U5.c1
        have u2 := U5.c2
        have uf0 := U5.f0
        have uf1 := U5.f1
        have uf2 := U5.f2
        go_wp2_with fail
        go_ret3
        exact ⟨ret_iii (by rw [HZ.out]; try omega) rfl rfl, (hB4.out.setCell (p := ⟨w1.heap.size, 2, none⟩) hle _)⟩
    have hd2 : (da == 31) = false := by simpa using hd
    by_cases he : db = 31
    · subst he
      by_cases h30 : da = 30
      · subst h30
        clear hd hd2
        have HZ : Hid (th ya ma 30 yb mb 31 false = 360 * (yb - ya) + 30 * (mb - ma) + (30) - (30)) := by
          show _ = _; unfold th
          rw [show thB 30 31 false = 30 by rfl, show thA 30 = 30 by rfl]
        go_enter Tryz.func51, Tryz.ntmps51
        go_wp2_with fail
        refine (HA.out _).mono ?_
        rintro e w1 ⟨rfl, hb1⟩
        have hB2 : Below w.heap.size w (w1.alloc (.cells #[.int .i64 ya, .int .i64 ma, .int .i64 30] 25)) := hb1.alloc hb1.size _
        go_wp2_with fail
        refine (HB.out _).mono ?_
        rintro e w3 ⟨rfl, hb3⟩
        have hB3 := hB2.trans (hb3.mono hB2.size)
        have hB4 : Hid (Below w.heap.size w (w3.alloc (.cells #[.int .i64 yb, .int .i64 mb, .int .i64 31] 25))) := hide (hB3.alloc hB3.size _)
        have T := ((Trio.new w1 ya ma (30) 25).later hb3)
        have hne : w1.heap.size ≠ w3.heap.size := by have := hb3.size; simp at this; omega
        have hle := hb1.size
        have hle3 : w.heap.size ≤ w3.heap.size := hB3.size
        have T4 := T.alloc (.cells #[.int .i64 yb, .int .i64 mb, .int .i64 31] 25)
        have U4 := Trio.new w3 yb mb (31) 25
        have p0 := T4.c0
        have p1 := T4.c1
        have p2 := T4.c2
        have pf0 := T4.f0
        have pf1 := T4.f1
        have pf2 := T4.f2
        have q0 := U4.c0
        have q1 := U4.c1
        have q2 := U4.c2
        have qf0 := U4.f0
        have qf1 := U4.f1
        have qf2 := U4.f2
        have T5 := T.alloc (.cells #[.int .i64 yb, .int .i64 mb, .int .i64 30] 25)
        have r0 := T5.c0
        have r1 := T5.c1
        have r2 := T5.c2
        have rf0 := T5.f0
        have rf1 := T5.f1
        have rf2 := T5.f2
        go_wp2_with fail
        go_ret3
        exact ⟨ret_iii (by rw [HZ.out]; try omega) rfl rfl, (hB3.alloc hB3.size _)⟩
      · have h302 : (da == 30) = false := by simpa using h30
        have HZ : Hid (th ya ma da yb mb 31 false = 360 * (yb - ya) + 30 * (mb - ma) + (31) - (da)) := by
          show _ = _; unfold th
          rw [show thB da 31 false = 31 by (unfold thB thA; rw [if_neg hd]; exact if_neg (fun h => h.2.elim (fun q => by cases q) h30)), show thA da = da by exact if_neg hd]
        go_enter Tryz.func51, Tryz.ntmps51
        go_wp2_with fail
        refine (HA.out _).mono ?_
        rintro e w1 ⟨rfl, hb1⟩
        have hB2 : Below w.heap.size w (w1.alloc (.cells #[.int .i64 ya, .int .i64 ma, .int .i64 da] 25)) := hb1.alloc hb1.size _
        go_wp2_with fail
        refine (HB.out _).mono ?_
        rintro e w3 ⟨rfl, hb3⟩
        have hB3 := hB2.trans (hb3.mono hB2.size)
        have hB4 : Hid (Below w.heap.size w (w3.alloc (.cells #[.int .i64 yb, .int .i64 mb, .int .i64 31] 25))) := hide (hB3.alloc hB3.size _)
        have T := ((Trio.new w1 ya ma (da) 25).later hb3)
        have hne : w1.heap.size ≠ w3.heap.size := by have := hb3.size; simp at this; omega
        have hle := hb1.size
        have hle3 : w.heap.size ≤ w3.heap.size := hB3.size
        have T4 := T.alloc (.cells #[.int .i64 yb, .int .i64 mb, .int .i64 31] 25)
        have U4 := Trio.new w3 yb mb (31) 25
        have p0 := T4.c0
        have p1 := T4.c1
        have p2 := T4.c2
        have pf0 := T4.f0
        have pf1 := T4.f1
        have pf2 := T4.f2
        have q0 := U4.c0
        have q1 := U4.c1
        have q2 := U4.c2
        have qf0 := U4.f0
        have qf1 := U4.f1
        have qf2 := U4.f2
        go_wp2_with fail
        go_ret3
        exact ⟨ret_iii (by rw [HZ.out]; try omega) rfl rfl, hB4.out⟩
    have he2 : (db == 31) = false := by simpa using he
    have HZ : Hid (th ya ma da yb mb db false = 360 * (yb - ya) + 30 * (mb - ma) + (db) - (da)) := by
      show _ = _; unfold th
      rw [show thB da db false = db by exact if_neg (fun h => he h.1), show thA da = da by exact if_neg hd]
    go_enter Tryz.func51, Tryz.ntmps51
    go_wp2_with fail
    refine (HA.out _).mono ?_
    rintro e w1 ⟨rfl, hb1⟩
    have hB2 : Below w.heap.size w (w1.alloc (.cells #[.int .i64 ya, .int .i64 ma, .int .i64 da] 25)) := hb1.alloc hb1.size _
    go_wp2_with fail
    refine (HB.out _).mono ?_
    rintro e w3 ⟨rfl, hb3⟩
    have hB3 := hB2.trans (hb3.mono hB2.size)
    have hB4 : Hid (Below w.heap.size w (w3.alloc (.cells #[.int .i64 yb, .int .i64 mb, .int .i64 db] 25))) := hide (hB3.alloc hB3.size _)
    have T := ((Trio.new w1 ya ma (da) 25).later hb3)
    have hne : w1.heap.size ≠ w3.heap.size := by have := hb3.size; simp at this; omega
    have hle := hb1.size
    have hle3 : w.heap.size ≤ w3.heap.size := hB3.size
    have T4 := T.alloc (.cells #[.int .i64 yb, .int .i64 mb, .int .i64 db] 25)
    have U4 := Trio.new w3 yb mb (db) 25
    have p0 := T4.c0
    have p1 := T4.c1
    have p2 := T4.c2
    have pf0 := T4.f0
    have pf1 := T4.f1
    have pf2 := T4.f2
    have q0 := U4.c0
    have q1 := U4.c1
    have q2 := U4.c2
    have qf0 := U4.f0
    have qf1 := U4.f1
    have qf2 := U4.f2
    go_wp2_with fail
    go_ret3
    exact ⟨ret_iii (by rw [HZ.out]; try omega) rfl rfl, hB4.out⟩
  · rw [if_neg (by omega), if_neg (by omega), show (((3 : Int)) == 3) = true from rfl]
    by_cases hd : da = 31
    · subst hd
      by_cases he : db = 31
      · subst he
        have HZ : Hid (th ya ma 31 yb mb 31 true = 360 * (yb - ya) + 30 * (mb - ma) + (30) - (30)) := by
          show _ = _; unfold th
          rw [show thB 31 31 true = 30 by rfl, show thA 31 = 30 by rfl]
        go_enter Tryz.func51, Tryz.ntmps51
        go_wp2_with fail
        refine (HA.out _).mono ?_
        rintro e w1 ⟨rfl, hb1⟩
        have hB2 : Below w.heap.size w (w1.alloc (.cells #[.int .i64 ya, .int .i64 ma, .int .i64 31] 25)) := hb1.alloc hb1.size _
        go_wp2_with fail
        refine (HB.out _).mono ?_
        rintro e w3 ⟨rfl, hb3⟩
        have hB3 := hB2.trans (hb3.mono hB2.size)
        have hB4 : Hid (Below w.heap.size w (w3.alloc (.cells #[.int .i64 yb, .int .i64 mb, .int .i64 31] 25))) := hide (hB3.alloc hB3.size _)
        have T := ((Trio.new w1 ya ma (31) 25).later hb3)
        have hne : w1.heap.size ≠ w3.heap.size := by have := hb3.size; simp at this; omega
        have hle := hb1.size
        have hle3 : w.heap.size ≤ w3.heap.size := hB3.size
        have T4 := T.alloc (.cells #[.int .i64 yb, .int .i64 mb, .int .i64 31] 25)
        have U4 := Trio.new w3 yb mb (31) 25
        have p0 := T4.c0
        have p1 := T4.c1
        have p2 := T4.c2
        have pf0 := T4.f0
        have pf1 := T4.f1
        have pf2 := T4.f2
        have q0 := U4.c0
        have q1 := U4.c1
        have q2 := U4.c2
        have qf0 := U4.f0
        have qf1 := U4.f1
        have qf2 := U4.f2
        have T5 := T4.put2 30
        have U5 := U4.other (o := 2) (.int .i64 30) hne
        have r0 := T5.c0
        have r1 := T5.c1
        have r2 := T5.c2
        have rf0 := T5.f0
        have rf1 := T5.f1
        have rf2 := T5.f2
        have u0 := U5.c0
        have u1 := U5.c1
        have u2 := U5.c2
        have uf0 := U5.f0
        have uf1 := U5.f1
        have uf2 := U5.f2
        have T6 := T5.other (o := 2) (.int .i64 30) (fun e => hne e.symm)
        have U6 := U5.put2 30
        have x0 := T6.c0
        have x1 := T6.c1
        have x2 := T6.c2
        have xf0 := T6.f0
        have xf1 := T6.f1
        have xf2 := T6.f2
        have z0 := U6.c0
        have z1 := U6.c1
        have z2 := U6.c2
        have zf0 := U6.f0
        have zf1 := U6.f1
        have zf2 := U6.f2
        go_wp2_with fail
        go_ret3
        exact ⟨ret_iii (by rw [HZ.out]; try omega) rfl rfl, ((hB4.out.setCell (p := ⟨w1.heap.size, 2, none⟩) hle _).setCell (p := ⟨w3.heap.size, 2, none⟩) hle3 _)⟩
      · have he2 : (db == 31) = false := by simpa using he
        have HZ : Hid (th ya ma 31 yb mb db true = 360 * (yb - ya) + 30 * (mb - ma) + (db) - (30)) := by
          show _ = _; unfold th
          rw [show thB 31 db true = db by exact if_neg (fun h => he h.1), show thA 31 = 30 by rfl]
        go_enter Tryz.func51, Tryz.ntmps51
        go_wp2_with fail
        refine (HA.out _).mono ?_
        rintro e w1 ⟨rfl, hb1⟩
        have hB2 : Below w.heap.size w (w1.alloc (.cells #[.int .i64 ya, .int .i64 ma, .int .i64 31] 25)) := hb1.alloc hb1.size _
        go_wp2_with fail
        refine (HB.out _).mono ?_
        rintro e w3 ⟨rfl, hb3⟩
        have hB3 := hB2.trans (hb3.mono hB2.size)
        have hB4 : Hid (Below w.heap.size w (w3.alloc (.cells #[.int .i64 yb, .int .i64 mb, .int .i64 db] 25))) := hide (hB3.alloc hB3.size _)
        have T := ((Trio.new w1 ya ma (31) 25).later hb3)
        have hne : w1.heap.size ≠ w3.heap.size := by have := hb3.size; simp at this; omega
        have hle := hb1.size
        have hle3 : w.heap.size ≤ w3.heap.size := hB3.size
        have T4 := T.alloc (.cells #[.int .i64 yb, .int .i64 mb, .int .i64 db] 25)
        have U4 := Trio.new w3 yb mb (db) 25
        have p0 := T4.c0
        have p1 := T4.c1
        have p2 := T4.c2
        have pf0 := T4.f0
        have pf1 := T4.f1
        have pf2 := T4.f2
        have q0 := U4.c0
        have q1 := U4.c1
        have q2 := U4.c2
        have qf0 := U4.f0
        have qf1 := U4.f1
        have qf2 := U4.f2
        have T5 := T4.put2 30
        have U5 := U4.other (o := 2) (.int .i64 30) hne
        have r0 := T5.c0
        have r1 := T5.c1
        have r2 := T5.c2
        have rf0 := T5.f0
        have rf1 := T5.f1
        have rf2 := T5.f2
        have u0 := U5.c0
        have u1 := U5.c1
        have u2 := U5.c2
        have uf0 := U5.f0
        have uf1 := U5.f1
        have uf2 := U5.f2
        go_wp2_with fail
        go_ret3
        exact ⟨ret_iii (by rw [HZ.out]; try omega) rfl rfl, (hB4.out.setCell (p := ⟨w1.heap.size, 2, none⟩) hle _)⟩
    have hd2 : (da == 31) = false := by simpa using hd
    by_cases he : db = 31
    · subst he
      have HZ : Hid (th ya ma da yb mb 31 true = 360 * (yb - ya) + 30 * (mb - ma) + (30) - (da)) := by
        show _ = _; unfold th
        rw [show thB da 31 true = 30 by (unfold thB; exact if_pos ⟨rfl, .inl rfl⟩), show thA da = da by exact if_neg hd]
      go_enter Tryz.func51, Tryz.ntmps51
      go_wp2_with fail
      refine (HA.out _).mono ?_
      rintro e w1 ⟨rfl, hb1⟩
      have hB2 : Below w.heap.size w (w1.alloc (.cells #[.int .i64 ya, .int .i64 ma, .int .i64 da] 25)) := hb1.alloc hb1.size _
      go_wp2_with fail
      refine (HB.out _).mono ?_
      rintro e w3 ⟨rfl, hb3⟩
      have hB3 := hB2.trans (hb3.mono hB2.size)
      have hB4 : Hid (Below w.heap.size w (w3.alloc (.cells #[.int .i64 yb, .int .i64 mb, .int .i64 31] 25))) := hide (hB3.alloc hB3.size _)
      have T := ((Trio.new w1 ya ma (da) 25).later hb3)
      have hne : w1.heap.size ≠ w3.heap.size := by have := hb3.size; simp at this; omega
      have hle := hb1.size
      have hle3 : w.heap.size ≤ w3.heap.size := hB3.size
      have T4 := T.alloc (.cells #[.int .i64 yb, .int .i64 mb, .int .i64 31] 25)
      have U4 := Trio.new w3 yb mb (31) 25
      have p0 := T4.c0
      have p1 := T4.c1
      have p2 := T4.c2
      have pf0 := T4.f0
      have pf1 := T4.f1
      have pf2 := T4.f2
      have q0 := U4.c0
      have q1 := U4.c1
      have q2 := U4.c2
      have qf0 := U4.f0
      have qf1 := U4.f1
      have qf2 := U4.f2
      have T5 := T.alloc (.cells #[.int .i64 yb, .int .i64 mb, .int .i64 30] 25)
      have r0 := T5.c0
      have r1 := T5.c1
      have r2 := T5.c2
      have rf0 := T5.f0
      have rf1 := T5.f1
      have rf2 := T5.f2
      go_wp2_with fail
      go_ret3
      exact ⟨ret_iii (by rw [HZ.out]; try omega) rfl rfl, (hB3.alloc hB3.size _)⟩
    have he2 : (db == 31) = false := by simpa using he
    have HZ : Hid (th ya ma da yb mb db true = 360 * (yb - ya) + 30 * (mb - ma) + (db) - (da)) := by
      show _ = _; unfold th
      rw [show thB da db true = db by exact if_neg (fun h => he h.1), show thA da = da by exact if_neg hd]
    go_enter Tryz.func51, Tryz.ntmps51
    go_wp2_with fail
    refine (HA.out _).mono ?_
    rintro e w1 ⟨rfl, hb1⟩
    have hB2 : Below w.heap.size w (w1.alloc (.cells #[.int .i64 ya, .int .i64 ma, .int .i64 da] 25)) := hb1.alloc hb1.size _
    go_wp2_with fail
    refine (HB.out _).mono ?_
    rintro e w3 ⟨rfl, hb3⟩
    have hB3 := hB2.trans (hb3.mono hB2.size)
    have hB4 : Hid (Below w.heap.size w (w3.alloc (.cells #[.int .i64 yb, .int .i64 mb, .int .i64 db] 25))) := hide (hB3.alloc hB3.size _)
    have T := ((Trio.new w1 ya ma (da) 25).later hb3)
    have hne : w1.heap.size ≠ w3.heap.size := by have := hb3.size; simp at this; omega
    have hle := hb1.size
    have hle3 : w.heap.size ≤ w3.heap.size := hB3.size
    have T4 := T.alloc (.cells #[.int .i64 yb, .int .i64 mb, .int .i64 db] 25)
    have U4 := Trio.new w3 yb mb (db) 25
    have p0 := T4.c0
    have p1 := T4.c1
    have p2 := T4.c2
    have pf0 := T4.f0
    have pf1 := T4.f1
    have pf2 := T4.f2
    have q0 := U4.c0
    have q1 := U4.c1
    have q2 := U4.c2
    have qf0 := U4.f0
    have qf1 := U4.f1
    have qf2 := U4.f2
    go_wp2_with fail
    go_ret3
    exact ⟨ret_iii (by rw [HZ.out]; try omega) rfl rfl, hB4.out⟩
end Go.Proofs.YtdfeehimnfogmaaGreatDoor
