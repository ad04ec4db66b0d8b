/-
  My own text: the law of a fault's place.
-/
import Derived.Test.YtpkgaidnpooahaaGreatDoorOP
import Derived.Test.YtpkgaidnpooahaaGreatDoorEP
import Derived.Test.YtpkgaidnpooahaaGreatDoorQW
namespace Go.Proofs.YtpkgaidnpooahaaGreatDoor
open Go.RowKit

/-- A fault's number is one of the document's. -/
def NoOkP : Res → Prop
  | .ok _ _ _ => True
  | .bad no _ _ => 1 ≤ no ∧ no ≤ 24
theorem bad_noP (T : List UInt8) : ∀ (F d : Nat) (nm : List UInt8) (l : List Tr) (n b : Nat), b ≤ T.length → T.length - b < F → NoOkP (rd T F d nm l n b) := by
  intro F
  induction F with
  | zero => intro d nm l n b _ h; omega
  | succ f ih =>
    intro d nm l n b hb hF
    by_cases hbe : b = T.length
    · rw [rd, if_pos hbe]
      split
      · exact ⟨by omega, by omega⟩
      · exact trivial
    · have hn := nxt_gt (T := T) (b := b) (by omega)
      have ho := own_len T b
      cases hck : chkE ⟨n, b, ownL T b, endL T b⟩ with
      | some na =>
        obtain ⟨no, at_⟩ := na
        rw [rd_line hbe hck]
        unfold chkE at hck
        have hf := fstNot_le inS (ownL T b)
        dsimp only at hck
        split at hck
        · cases hck; exact ⟨by omega, by omega⟩
        · split at hck
          · cases hck; exact ⟨by omega, by omega⟩
          · split at hck
            · cases hck; exact ⟨by omega, by omega⟩
            · cases hck
      | none =>
        rw [rd_stp hbe hck]
        clear hck
        generalize ownL T b = tx at *
        generalize nxtB T b = nb at *
        have go : ∀ d nm l n, NoOkP (rd T f d nm l n nb) := fun d nm l n => ih d nm l n nb hn.2 (by omega)
        have hc := cut_len (tx.drop 1) [58]
        rw [List.length_drop] at hc
        unfold stp
        split
        · split
          · exact ⟨by omega, by omega⟩
          · split
            · exact ⟨by omega, by omega⟩
            · split
              · exact ⟨by omega, by omega⟩
              · exact go _ _ _ _
        · rename_i h58
          have h1 : 0 < tx.length := by
            cases tx with
            | nil => simp at h58
            | cons a r => simp
          split
          · exact ⟨by omega, by omega⟩
          · split
            · split
              · exact ⟨by omega, by omega⟩
              · split
                · exact ⟨by omega, by omega⟩
                · have h1 := rd_good T f (d + 1) (Lib.cut (tx.drop 1) [58]).2.1 [] (n + 1) nb hn.2 (by omega)
                  have h2 := go (d + 1) (Lib.cut (tx.drop 1) [58]).2.1 [] (n + 1)
                  split
                  · rename_i heq
                    rw [heq] at h2; exact h2
                  · rename_i heq
                    rw [heq] at h1
                    exact ih _ _ _ _ _ h1.2 (by have := h1.1; omega)
            · split
              · split
                · exact ⟨by omega, by omega⟩
                · split
                  · exact ⟨by omega, by omega⟩
                  · exact trivial
              · rename_i hnc _ _
                split
                · rename_i heq
                  unfold fldO at heq
                  split at heq
                  · cases heq; exact ⟨by omega, by omega⟩
                  · split at heq
                    · cases heq
                    · rename_i hhd
                      have hr : 0 < (Lib.cut (tx.drop 1) [58]).2.1.length := by
                        cases hq : (Lib.cut (tx.drop 1) [58]).2.1 with
                        | nil => rw [hq] at hhd; simp [hdB] at hhd
                        | cons a r => simp
                      split at heq
                      · cases heq; exact ⟨by omega, by omega⟩
                      · cases heq
                · exact go _ _ _ _
theorem rdT_noP {T : List UInt8} {no m at_ : Int} (h : rdT T = .bad no m at_) : 1 ≤ no ∧ no ≤ 24 := by
  have h' : rd T (T.length + 1) 0 [] [] 1 0 = .bad no m at_ := h
  have := bad_noP T (T.length + 1) 0 [] [] 1 0 (Nat.zero_le _) (by omega)
  rw [h'] at this; exact this
theorem cl_len : ∀ (N : List (List UInt8)) (k : Nat), (∀ x ∈ N, x.length ≤ k) → (cl N).length ≤ N.length * (k + 8)
  | [], _, _ => by simp [cl]
  | a :: N, k, h => by
    have ih := cl_len N k (fun x hx => h x (List.mem_cons_of_mem _ hx))
    have ha := h a (List.mem_cons_self ..)
    have e : cl (a :: N) = bC a ++ cl N := rfl
    rw [e, List.length_append, List.length_cons, Nat.succ_mul]
    have : (bC a).length ≤ k + 8 := by simp [bC]; omega
    omega
/-- The text that open makes is no greater than a machine's. -/
theorem open_len {T : List UInt8} {j : Nat} (hT : T.length ≤ 1048576) (hj : j ≤ 1048577) : (T.take (sc T j 0 []).1 ++ cl (sc T j 0 []).2).length ≤ 140737488355328 := by
  rw [List.length_append, List.length_take]
  have h1 := sc_len T j 0 []
  have h2 := cl_len (sc T j 0 []).2 T.length (fun x hx => by
    rcases sc_mem T j 0 [] x hx with h | h
    · cases h
    · exact h)
  have h3 : (sc T j 0 []).2.length * (T.length + 8) ≤ 1048577 * 1048584 := Nat.mul_le_mul (by simp at h1; omega) (by omega)
  omega
theorem errV5 : errV 5 = .iface 38 (.int .i64 5) := errV_pos (by omega)
set_option maxRecDepth 100000 in
set_option maxHeartbeats 4000000 in
theorem places_law (s : List UInt8) (w : World) (hs : s.length ≤ 140737488355328) (hE : Hid (ErrType w)) (hm : ML w) :
    Calls Tryz.prog 16 #[.string ⟨s.toArray⟩] w fun e w' => e = .returned (.bool true) ∧ Below w.heap.size w w' := by
  have HW := hide (fun (W : World) (h : ML W) => works_any W h)
  have HM := hide hm
  clear hm
  by_cases hbig : s.length ≤ 1048576
  · cases hr : rdT s with
    | ok l n b =>
      have HP := hide (parse_ok s l w hbig (readsOk hbig hr) HM.out)
      clear hr hs
      go_enter Tryz.func16, Tryz.ntmps16
      go_wp2_with fail
      refine HP.out.mono ?_
      rintro e w1 ⟨⟨a, cap, rfl, _⟩, hb1⟩
      have B1 := hide hb1
      clear hb1 HP
      go_wp2_with fail
      refine (HW.out _ (HM.out.later B1.out)).mono ?_
      rintro e w5 ⟨rfl, hb5⟩
      have B5 := hide (B1.out.trans (hb5.mono B1.out.size))
      clear hb5
      go_wp2_with fail
      go_ret
      exact ⟨rfl, B5.out⟩
    | bad no m at_ =>
      have HP := hide (parse_bad s no m at_ w hbig (readsBad hbig hr) HM.out)
      obtain ⟨n1, n2⟩ := rdT_noP hr
      obtain ⟨j, bm, N, rfl, ⟨a1, a2⟩, hj1, hj2, hsc, k, n, b, hrt⟩ := rdT_open hr
      have hj : j ≤ s.length := by omega
      have HPL := hide (fun (W : World) (h : ErrType W) => place_fault no (((1 + j : Nat) : Int)) at_ W n1 n2 h)
      have HO : Hid (∀ (x : Int) (W : World), x = (j : Int) → Calls Tryz.prog 34 #[.string ⟨s.toArray⟩, .int .i64 x] W fun e w' => e = .returned (.string ⟨(s.take (sc s j 0 []).1 ++ cl (sc s j 0 []).2).toArray⟩) ∧ Below W.heap.size W w') := hide (fun x W hx => by
        rw [hx]; exact open_any s j W hbig (by omega))
      have hol := open_len (T := s) (j := j) hbig (by omega)
      rw [hsc] at hol HO
      dsimp only at hol HO
      obtain ⟨t, ht⟩ : ∃ t, t = s.take bm ++ cl N := ⟨_, rfl⟩
      rw [← ht] at hol HO hrt
      clear ht hsc n1 n2 hr hj1 hj2
      unfold fltV at HP HPL
      obtain ⟨ln, hln⟩ : ∃ ln : Int, ln = ((1 + j : Nat) : Int) := ⟨_, rfl⟩
      rw [← hln] at HP HPL
      have hl1 : 1 ≤ ln := by omega
      have hl2 : ln ≤ (s.length : Int) + 1 := by omega
      have HLN : Hid (ln - 1 = (j : Int)) := hide (by omega)
      clear hln hj hs
      by_cases hbt : t.length ≤ 1048576
      · have HP2 := hide (fun (W : World) (h : ML W) => parse_ok t k W hbt (readsOk hbt hrt) h)
        clear hrt
        go_enter Tryz.func16, Tryz.ntmps16
        go_wp2_with fail
        refine HP.out.mono ?_
        rintro e w1 ⟨rfl, hb1⟩
        have B1 := hide hb1
        clear hb1 HP
        go_wp2_with fail
        refine (HPL.out _ (hE.out.below B1.out)).mono ?_
        rintro e w2 ⟨rfl, hb2⟩
        have B2 := hide (B1.out.trans (hb2.mono B1.out.size))
        clear hb2 HPL
        go_wp2_with fail
        refine (HO.out _ _ ?_).mono ?_
        · exact HLN.out
        rintro e w3 ⟨rfl, hb3⟩
        have B3 := hide (B2.out.trans (hb3.mono B2.out.size))
        clear hb3 HO
        go_wp2_with fail
        refine (HP2.out _ (HM.out.later B3.out)).mono ?_
        rintro e w4 ⟨⟨a, cap, rfl, _⟩, hb4⟩
        have B4 := hide (B3.out.trans (hb4.mono B3.out.size))
        clear hb4 HP2
        go_wp2_with fail
        refine (HW.out _ (HM.out.later B4.out)).mono ?_
        rintro e w5 ⟨rfl, hb5⟩
        have B5 := hide (B4.out.trans (hb5.mono B4.out.size))
        clear hb5
        go_wp2_with fail
        go_ret
        exact ⟨rfl, B5.out⟩
      · have hbt2 : 1048576 < t.length := by omega
        have HP2 := hide (fun (W : World) => parse_big t W hbt2 hol)
        rw [errV5] at HP2
        clear hrt hbt
        go_enter Tryz.func16, Tryz.ntmps16
        go_wp2_with fail
        refine HP.out.mono ?_
        rintro e w1 ⟨rfl, hb1⟩
        have B1 := hide hb1
        clear hb1 HP
        go_wp2_with fail
        refine (HPL.out _ (hE.out.below B1.out)).mono ?_
        rintro e w2 ⟨rfl, hb2⟩
        have B2 := hide (B1.out.trans (hb2.mono B1.out.size))
        clear hb2 HPL
        go_wp2_with fail
        refine (HO.out _ _ ?_).mono ?_
        · exact HLN.out
        rintro e w3 ⟨rfl, hb3⟩
        have B3 := hide (B2.out.trans (hb3.mono B2.out.size))
        clear hb3 HO
        go_wp2_with fail
        refine (HP2.out _).mono ?_
        rintro e w4 ⟨rfl, hb4⟩
        have B4 := hide (B3.out.trans (hb4.mono B3.out.size))
        clear hb4 HP2
        go_wp2_with fail
        refine (HW.out _ (HM.out.later B4.out)).mono ?_
        rintro e w5 ⟨rfl, hb5⟩
        have B5 := hide (B4.out.trans (hb5.mono B4.out.size))
        clear hb5
        go_wp2_with fail
        go_ret
        exact ⟨rfl, B5.out⟩
  · have hbig2 : 1048576 < s.length := by omega
    have HP := hide (parse_big s w hbig2 hs)
    have HPN := hide (fun (W : World) (h : ErrType W) => plain_errno 5 5 W (by omega) (by omega) h)
    rw [errV5] at HP
    clear hbig
    go_enter Tryz.func16, Tryz.ntmps16
    go_wp2_with fail
    refine HP.out.mono ?_
    rintro e w1 ⟨rfl, hb1⟩
    have B1 := hide hb1
    clear hb1 HP
    go_wp2_with fail
    refine (HPN.out _ (hE.out.below B1.out)).mono ?_
    rintro e w2 ⟨rfl, hb2⟩
    have B2 := hide (B1.out.trans (hb2.mono B1.out.size))
    clear hb2 HPN
    have h55 : ((5 : Int) == 5) = true := rfl
    go_wp2_with fail
    refine (HW.out _ (HM.out.later B2.out)).mono ?_
    rintro e w5 ⟨rfl, hb5⟩
    have B5 := hide (B2.out.trans (hb5.mono B2.out.size))
    clear hb5
    go_wp2_with fail
    go_ret
    exact ⟨rfl, B5.out⟩
end Go.Proofs.YtpkgaidnpooahaaGreatDoor
