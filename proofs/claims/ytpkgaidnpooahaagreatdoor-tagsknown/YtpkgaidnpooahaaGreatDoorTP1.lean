/-
  My own text: the numbers and the lines of faults; an error that tells this place.
-/
import Derived.Test.YtpkgaidnpooahaaGreatDoorEP
import Derived.Test.YtpkgaidnpooahaaGreatDoorQH
namespace Go.Proofs.YtpkgaidnpooahaaGreatDoor
open Go.RowKit

/-- A fault's number is one of the document's. -/
def NoOk : Res → Prop
  | .ok _ _ _ => True
  | .bad no _ _ => 1 ≤ no ∧ no ≤ 24
theorem bad_no (T : List UInt8) : ∀ (F d : Nat) (nm : List UInt8) (l : List Tr) (n b : Nat), b ≤ T.length → T.length - b < F → NoOk (rd T F d nm l n b) := by
  intro F
  induction F with
  | zero => intro d nm l n b _ h; omega
  | succ f ih =>
    intro d nm l n b hb hF
    by_cases hbe : b = T.length
    · rw [rd, if_pos hbe]
      split
      · exact ⟨by omega, by omega⟩
      · exact trivial
    · have hn := nxt_gt (T := T) (b := b) (by omega)
      have ho := own_len T b
      cases hck : chkE ⟨n, b, ownL T b, endL T b⟩ with
      | some na =>
        obtain ⟨no, at_⟩ := na
        rw [rd_line hbe hck]
        unfold chkE at hck
        have hf := fstNot_le inS (ownL T b)
        dsimp only at hck
        split at hck
        · cases hck; exact ⟨by omega, by omega⟩
        · split at hck
          · cases hck; exact ⟨by omega, by omega⟩
          · split at hck
            · cases hck; exact ⟨by omega, by omega⟩
            · cases hck
      | none =>
        rw [rd_stp hbe hck]
        clear hck
        generalize ownL T b = tx at *
        generalize nxtB T b = nb at *
        have go : ∀ d nm l n, NoOk (rd T f d nm l n nb) := fun d nm l n => ih d nm l n nb hn.2 (by omega)
        have hc := cut_len (tx.drop 1) [58]
        rw [List.length_drop] at hc
        unfold stp
        split
        · split
          · exact ⟨by omega, by omega⟩
          · split
            · exact ⟨by omega, by omega⟩
            · split
              · exact ⟨by omega, by omega⟩
              · exact go _ _ _ _
        · rename_i h58
          have h1 : 0 < tx.length := by
            cases tx with
            | nil => simp at h58
            | cons a r => simp
          split
          · exact ⟨by omega, by omega⟩
          · split
            · split
              · exact ⟨by omega, by omega⟩
              · split
                · exact ⟨by omega, by omega⟩
                · have h1 := rd_good T f (d + 1) (Lib.cut (tx.drop 1) [58]).2.1 [] (n + 1) nb hn.2 (by omega)
                  have h2 := go (d + 1) (Lib.cut (tx.drop 1) [58]).2.1 [] (n + 1)
                  split
                  · rename_i heq
                    rw [heq] at h2; exact h2
                  · rename_i heq
                    rw [heq] at h1
                    exact ih _ _ _ _ _ h1.2 (by have := h1.1; omega)
            · split
              · split
                · exact ⟨by omega, by omega⟩
                · split
                  · exact ⟨by omega, by omega⟩
                  · exact trivial
              · rename_i hnc _ _
                split
                · rename_i heq
                  unfold fldO at heq
                  split at heq
                  · cases heq; exact ⟨by omega, by omega⟩
                  · split at heq
                    · cases heq
                    · rename_i hhd
                      have hr : 0 < (Lib.cut (tx.drop 1) [58]).2.1.length := by
                        cases hq : (Lib.cut (tx.drop 1) [58]).2.1 with
                        | nil => rw [hq] at hhd; simp [hdB] at hhd
                        | cons a r => simp
                      split at heq
                      · cases heq; exact ⟨by omega, by omega⟩
                      · cases heq
                · exact go _ _ _ _
theorem rdT_no {T : List UInt8} {no m at_ : Int} (h : rdT T = .bad no m at_) : 1 ≤ no ∧ no ≤ 24 := by
  have h' : rd T (T.length + 1) 0 [] [] 1 0 = .bad no m at_ := h
  have := bad_no T (T.length + 1) 0 [] [] 1 0 (Nat.zero_le _) (by omega)
  rw [h'] at this; exact this
/-- A fault's line is none ahead. -/
def LnOk (n : Nat) : Res → Prop
  | .ok _ n' _ => n ≤ n'
  | .bad _ m _ => (n : Int) ≤ m
theorem LnOk.low {n n' : Nat} (h : n ≤ n') : ∀ {r : Res}, LnOk n' r → LnOk n r
  | .ok _ _ _, hr => Nat.le_trans h hr
  | .bad _ _ _, hr => Int.le_trans (by omega) hr
theorem bad_ln (T : List UInt8) : ∀ (F d : Nat) (nm : List UInt8) (l : List Tr) (n b : Nat), b ≤ T.length → T.length - b < F → LnOk n (rd T F d nm l n b) := by
  intro F
  induction F with
  | zero => intro d nm l n b _ h; omega
  | succ f ih =>
    intro d nm l n b hb hF
    have here : ∀ no at_ : Int, LnOk n (.bad no n at_) := fun _ _ => Int.le_refl _
    by_cases hbe : b = T.length
    · rw [rd, if_pos hbe]
      split
      · exact here _ _
      · exact Nat.le_refl n
    · have hn := nxt_gt (T := T) (b := b) (by omega)
      cases hck : chkE ⟨n, b, ownL T b, endL T b⟩ with
      | some na =>
        obtain ⟨no, at_⟩ := na
        rw [rd_line hbe hck]
        exact here _ _
      | none =>
        rw [rd_stp hbe hck]
        clear hck
        generalize ownL T b = tx at *
        generalize nxtB T b = nb at *
        have go : ∀ d nm l, LnOk n (rd T f d nm l (n + 1) nb) := fun d nm l => (ih d nm l (n + 1) nb hn.2 (by omega)).low (by omega)
        unfold stp
        split
        · split
          · exact here _ _
          · split
            · exact here _ _
            · split
              · exact here _ _
              · exact go _ _ _
        · split
          · exact here _ _
          · split
            · split
              · exact here _ _
              · split
                · exact here _ _
                · have h1 := rd_good T f (d + 1) (Lib.cut (tx.drop 1) [58]).2.1 [] (n + 1) nb hn.2 (by omega)
                  have h2 := go (d + 1) (Lib.cut (tx.drop 1) [58]).2.1 []
                  split
                  · rename_i heq
                    rw [heq] at h2; exact h2
                  · rename_i heq
                    rw [heq] at h1 h2
                    exact (ih _ _ _ _ _ h1.2 (by have := h1.1; omega)).low h2
            · split
              · split
                · exact here _ _
                · split
                  · exact here _ _
                  · exact Nat.le_succ n
              · split
                · exact here _ _
                · exact go _ _ _
theorem rdT_ln {T : List UInt8} {no m at_ : Int} (h : rdT T = .bad no m at_) : 1 ≤ m := by
  have h' : rd T (T.length + 1) 0 [] [] 1 0 = .bad no m at_ := h
  have := bad_ln T (T.length + 1) 0 [] [] 1 0 (Nat.zero_le _) (by omega)
  rw [h'] at this; exact this
set_option maxRecDepth 100000 in
set_option maxHeartbeats 2000000 in
theorem at_fault (no ln k : Int) (w : World) (h1 : 1 ≤ no) (h2 : no ≤ 24) (hE : ErrType w) :
    Calls Tryz.prog 27 #[fltV no ln k, .int .i64 no, .int .i64 ln, .int .i64 k] w fun e w' => e = .returned (.bool true) ∧ Below w.heap.size w w' := by
  have HPL := hide (place_fault no ln k w h1 h2 hE)
  have HNF := hide (fun W => num_fault no ln k W h1 h2)
  have hz : (no == 0) = false := by rw [beq_eq_false_iff_ne]; omega
  have e1 : (no == no) = true := by simp
  have e2 : (ln == ln) = true := by simp
  have e3 : (k == k) = true := by simp
  clear h1 h2 hE
  unfold fltV at *
  go_enter Tryz.func27, Tryz.ntmps27
  go_wp2_with fail
  refine HPL.out.mono ?_
  rintro e w1 ⟨rfl, hb1⟩
  have B1 := hide hb1
  clear hb1 HPL
  go_wp2_with fail
  refine (HNF.out _).mono ?_
  rintro e w2 ⟨rfl, hb2⟩
  have B2 := hide (B1.out.trans (hb2.mono B1.out.size))
  clear hb2
  go_wp2_with fail
  go_ret
  first
  | exact ⟨rfl, B2.out⟩
  | exact ⟨by simp, B2.out⟩
end Go.Proofs.YtpkgaidnpooahaaGreatDoor
