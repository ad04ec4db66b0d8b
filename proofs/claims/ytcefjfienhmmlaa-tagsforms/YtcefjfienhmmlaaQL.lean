/-
  My own text: the law that a text that is read is the one that is written.
-/
import Derived.Test.YtcefjfienhmmlaaQW
namespace Go.Proofs.Ytcefjfienhmmlaa
open Go.RowKit

theorem errV5 : ∃ u, errV 5 = .iface 32 u := errV_iface (by omega)
set_option maxRecDepth 100000 in
set_option maxHeartbeats 4000000 in
/-- Parse of any text: items, or none and an error. -/
theorem parse_all (T : List UInt8) (w : World) (hT : T.length ≤ 140737488355328) (hm : ML w) :
    (∃ l n b, T.length ≤ 1048576 ∧ rdT T = .ok l n b ∧ Calls Try.prog 4 #[.string ⟨T.toArray⟩] w fun e w' => (∃ a cap, e = .returned (.tuple #[.slice a l.length cap, .nilIface]) ∧ PT w' (fun x => w.heap.size ≤ x ∧ x < w'.heap.size) (.slice a l.length cap) l) ∧ Below w.heap.size w w')
    ∨ ((1048576 < T.length ∨ ∃ no n at_, rdT T = .bad no n at_) ∧ ∃ ty u, Calls Try.prog 4 #[.string ⟨T.toArray⟩] w fun e w' => e = .returned (.tuple #[.slice none 0 0, .iface ty u]) ∧ Below w.heap.size w w') := by
  by_cases hb : T.length ≤ 1048576
  · cases hr : rdT T with
    | ok l n b => exact .inl ⟨l, n, b, hb, rfl, parse_ok T l w hb (readsOk hb hr) hm⟩
    | bad no n at_ => exact .inr ⟨.inr ⟨no, n, at_, rfl⟩, _, _, parse_bad T no n at_ w hb (readsBad hb hr) hm⟩
  · obtain ⟨u, hu⟩ := errV5
    have h := parse_big T w (by omega) hT
    rw [hu] at h
    exact .inr ⟨.inl (by omega), _, _, h⟩
set_option maxRecDepth 100000 in
set_option maxHeartbeats 4000000 in
theorem forms_law (s t : List UInt8) (w : World) (hs : s.length ≤ 140737488355328) (ht : t.length ≤ 140737488355328) (hm : ML w) :
    Calls Try.prog 3 #[.string ⟨s.toArray⟩, .string ⟨t.toArray⟩] w fun e w' => e = .returned (.bool true) ∧ Below w.heap.size w w' := by
  have HW := hide (fun (W : World) (h : ML W) => works_any W h)
  have HM := hide hm
  have HT := hide ht
  rcases parse_all s w hs hm with ⟨l, n, b, hsl, hr, hp⟩ | ⟨_, ty, u, hp⟩
  · have HP := hide hp
    obtain ⟨p1, p2, p3⟩ := rdT_print hsl hr
    have HPR := hide (fun (W : World) (v : Value) (h : RT W v l) => tPrint_any l v W (by omega) h)
    rw [p1, p2, errV_zero] at HPR
    have HRS := hide hr
    have HWT : Hid (wts l ≤ 1099511627776) := hide (by omega)
    clear hp hr p1 p2 p3 hm hs
    go_enter Try.func3, Try.ntmps3
    go_wp2_with fail
    refine HP.out.mono ?_
    rintro e w1 ⟨⟨a, cap, rfl, hpt⟩, hb1⟩
    have B1 := hide hb1
    have R1 := hide (PT_rt _ _ _ (Nat.le_refl _) hpt)
    clear hb1 hpt HP
    go_wp2_with fail
    refine (HPR.out w1 _ R1.out).mono ?_
    rintro e w2 ⟨rfl, hb2⟩
    have B2 := hide (B1.out.trans (hb2.mono B1.out.size))
    have R2 := hide (RT_later R1.out hb2)
    clear hb2 HPR
    rcases parse_all t w2 HT.out (HM.out.later B2.out) with ⟨m, n', b', htl, hr2, hp⟩ | ⟨hno, ty, u, hp⟩
    · have HP := hide hp
      have HEQ : Hid (eqL l m = (s == t)) := by
        show _ = _
        have h1 := rdT_text HRS.out
        have h2 := rdT_text hr2
        cases he : s == t with
        | true =>
          have e : s = t := beq_iff_eq.1 he
          have hl : l = m := by
            have := HRS.out
            rw [e, hr2] at this
            cases this; rfl
          rw [hl]; exact eqL_refl m
        | false =>
          cases hq : eqL l m with
          | false => rfl
          | true =>
            have e := (eqL_iff _ l m (Nat.le_refl _)).1 hq
            rw [← h1.2, ← h2.2, e] at he
            simp at he
      clear hp hr2 htl
      have HSM := hide (fun (va vb : Value) (W : World) (h1 : RT W va l) (h2 : RT W vb m) => sameItems_all _ l m va vb W (Nat.le_refl _) HWT.out h1 h2)
      rw [HEQ.out] at HSM
      clear HEQ
      cases hst : s == t
      all_goals
        rw [hst] at HSM
        go_wp2_with fail
        refine HP.out.mono ?_
        rintro e w3 ⟨⟨a2, cap2, rfl, hpt⟩, hb3⟩
        have B3 := hide (B2.out.trans (hb3.mono B2.out.size))
        have R3 := hide (RT_later R2.out hb3)
        have M3 := hide (PT_rt _ _ _ (Nat.le_refl _) hpt)
        clear hb3 hpt
        go_wp2_with fail
        refine (HSM.out _ _ _ R3.out M3.out).mono ?_
        rintro e w4 ⟨rfl, hb4⟩
        have B4 := hide (B3.out.trans (hb4.mono B3.out.size))
        clear hb4
        go_wp2_with fail
        refine (HW.out _ (HM.out.later B4.out)).mono ?_
        rintro e w5 ⟨rfl, hb5⟩
        have B5 := hide (B4.out.trans (hb5.mono B4.out.size))
        clear hb5
        go_wp2_with fail
        go_ret
        exact ⟨rfl, B5.out⟩
    · have HP := hide hp
      have hst : (s == t) = false := beq_eq_false_iff_ne.2 (fun e => by
        rcases hno with h | ⟨x, y, z, h⟩
        · rw [← e] at h; omega
        · rw [← e, HRS.out] at h; cases h)
      clear hp hno
      go_wp2_with fail
      refine HP.out.mono ?_
      rintro e w3 ⟨rfl, hb3⟩
      have B3 := hide (B2.out.trans (hb3.mono B2.out.size))
      clear hb3
      go_wp2_with fail
      refine (HW.out _ (HM.out.later B3.out)).mono ?_
      rintro e w5 ⟨rfl, hb5⟩
      have B5 := hide (B3.out.trans (hb5.mono B3.out.size))
      clear hb5
      go_wp2_with fail
      go_ret
      exact ⟨rfl, B5.out⟩
  · have HP := hide hp
    clear hp hm hs ht
    go_enter Try.func3, Try.ntmps3
    go_wp2_with fail
    refine HP.out.mono ?_
    rintro e w1 ⟨rfl, hb1⟩
    have B1 := hide hb1
    clear hb1
    go_wp2_with fail
    refine (HW.out _ (HM.out.later B1.out)).mono ?_
    rintro e w5 ⟨rfl, hb5⟩
    have B5 := hide (B1.out.trans (hb5.mono B1.out.size))
    clear hb5
    go_wp2_with fail
    go_ret
    exact ⟨rfl, B5.out⟩
end Go.Proofs.Ytcefjfienhmmlaa
