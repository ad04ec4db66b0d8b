/-
  My own text: what is read is right, prints as the text that was read, and the fuel suffices.
-/
import Derived.Test.YtklhbhhkooddoaaQF
import Derived.Test.YtklhbhhkooddoaaQE
namespace Go.Proofs.Ytklhbhhkooddoaa
open Go.RowKit

theorem chk_no {n : Lin} {no at_ : Int} (h : chkE n = some (no, at_)) : no ≠ 0 := by
  unfold chkE at h
  split at h
  · cases h; omega
  · split at h
    · cases h; omega
    · split at h
      · cases h; omega
      · cases h
theorem fld_no {tag rest : List UInt8} {len : Nat} {no at_ : Int} (h : fldO tag rest len = some (no, at_)) : no ≠ 0 := by
  unfold fldO at h
  split at h
  · cases h; omega
  · split at h
    · cases h
    · split at h
      · cases h; omega
      · cases h
/-- How far a reading has come. -/
def Good (T : List UInt8) (b : Nat) : Res → Prop
  | .ok _ _ b' => b ≤ b' ∧ b' ≤ T.length
  | .bad no _ _ => no ≠ 0
theorem Good.low {T : List UInt8} {b c : Nat} (h : b ≤ c) : ∀ {r : Res}, Good T c r → Good T b r
  | .ok _ _ _, hr => ⟨Nat.le_trans h hr.1, hr.2⟩
  | .bad _ _ _, hr => hr
theorem rd_good (T : List UInt8) : ∀ (F d : Nat) (nm : List UInt8) (l : List Tr) (n b : Nat), b ≤ T.length → T.length - b < F → Good T b (rd T F d nm l n b) := by
  intro F
  induction F with
  | zero => intro d nm l n b _ h; omega
  | succ f ih =>
    intro d nm l n b hb hF
    by_cases hbe : b = T.length
    · rw [rd, if_pos hbe]
      split
      · show (2 : Int) ≠ 0; omega
      · exact ⟨Nat.le_refl _, hb⟩
    · have hn := nxt_gt (T := T) (b := b) (by omega)
      cases hck : chkE ⟨n, b, ownL T b, endL T b⟩ with
      | some na =>
        obtain ⟨no, at_⟩ := na
        rw [rd_line hbe hck]; exact chk_no hck
      | none =>
        rw [rd_stp hbe hck]
        generalize ownL T b = tx
        generalize nxtB T b = nb at *
        have go : ∀ d nm l n, Good T b (rd T f d nm l n nb) := fun d nm l n => (ih d nm l n nb hn.2 (by omega)).low (by omega)
        unfold stp
        split
        · split
          · show (4 : Int) ≠ 0; omega
          · split
            · show (4 : Int) ≠ 0; omega
            · split
              · show (4 : Int) ≠ 0; omega
              · exact go _ _ _ _
        · split
          · show (4 : Int) ≠ 0; omega
          · split
            · split
              · show (5 : Int) ≠ 0; omega
              · split
                · show (4 : Int) ≠ 0; omega
                · have h1 := ih (d + 1) (Lib.cut (tx.drop 1) [58]).2.1 [] (n + 1) nb hn.2 (by omega)
                  split
                  · rename_i heq
                    rw [heq] at h1; exact h1
                  · rename_i heq
                    rw [heq] at h1
                    exact (ih _ _ _ _ _ h1.2 (by have := h1.1; omega)).low (by have := h1.1; omega)
            · split
              · split
                · show (10 : Int) ≠ 0; omega
                · split
                  · show (4 : Int) ≠ 0; omega
                  · exact ⟨by omega, hn.2⟩
              · split
                · rename_i heq
                  exact fld_no heq
                · exact go _ _ _ _
/-- What a reading that ends well has read. -/
structure Rdd (T : List UInt8) (d : Nat) (nm : List UInt8) (l : List Tr) (b : Nat) (l' : List Tr) (b' : Nat) : Prop where
  err : errL l' d = 0
  txt : ∃ s, T.drop b = s ++ T.drop b' ∧ txtL l' ++ (if d = 0 then [] else bC nm) = txtL l ++ s
  fin : d = 0 → b' = T.length
  le : b' ≤ T.length
theorem Rdd.later {T : List UInt8} {d : Nat} {nm : List UInt8} {l l1 : List Tr} {b b1 : Nat} {l' : List Tr} {b' : Nat} (h : Rdd T d nm l1 b1 l' b') (s : List UInt8) (h1 : T.drop b = s ++ T.drop b1) (h2 : txtL l1 = txtL l ++ s) : Rdd T d nm l b l' b' := by
  obtain ⟨r, e1, e2⟩ := h.txt
  exact ⟨h.err, ⟨s ++ r, by rw [h1, e1, List.append_assoc], by rw [e2, h2, List.append_assoc]⟩, h.fin, h.le⟩
theorem rd_ok (T : List UInt8) : ∀ (F d : Nat) (nm : List UInt8) (l : List Tr) (n b : Nat) (l' : List Tr) (n' b' : Nat), rd T F d nm l n b = .ok l' n' b' → b ≤ T.length → d ≤ 8 → errL l d = 0 → Rdd T d nm l b l' b' := by
  intro F
  induction F with
  | zero => intro d nm l n b l' n' b' h; cases h
  | succ f ih =>
    intro d nm l n b l' n' b' h hb hd hl
    by_cases hbe : b = T.length
    · rw [rd, if_pos hbe] at h
      split at h
      · cases h
      · rename_i h0
        cases h
        have hd0 : d = 0 := by omega
        exact ⟨hl, ⟨[], by simp, by rw [if_pos hd0]⟩, fun _ => hbe, hb⟩
    · cases hck : chkE ⟨n, b, ownL T b, endL T b⟩ with
      | some na =>
        obtain ⟨no, at_⟩ := na
        rw [rd_line hbe hck] at h; cases h
      | none =>
        rw [rd_stp hbe hck] at h
        obtain ⟨hen, h0⟩ := chk_none hck
        have ha := chk_all hck
        obtain ⟨hdr, hnb⟩ := own_yes hen
        have hn2 := (nxt_gt (T := T) (b := b) (by omega)).2
        dsimp only at h0 ha
        clear hck hen hnb
        generalize ownL T b = tx at *
        generalize nxtB T b = nb at *
        by_cases h58 : tx.getD 0 0 = 58
        · cases hfo : (Lib.cut (tx.drop 1) [58]).2.2 with
          | false => rw [stp_cut h58 hfo] at h; cases h
          | true =>
            rw [stp_stq h58 hfo] at h
            have hx : tx = 58 :: tx.drop 1 := by
              cases tx with
              | nil => simp at h0
              | cons a r => simp at h58; rw [h58]; rfl
            have hcut := cut_yes hfo
            generalize (Lib.cut (tx.drop 1) [58]).1 = tag at *
            generalize (Lib.cut (tx.drop 1) [58]).2.1 = rest at *
            have htx : tx = [58] ++ tag ++ [58] ++ rest := by rw [hx, hcut]; simp
            have har : rest.all inS = true := by
              rw [htx] at ha
              simp only [List.all_append, Bool.and_eq_true] at ha
              exact ha.2
            unfold stq at h
            by_cases htr : tag = r16
            · rw [if_pos htr] at h
              by_cases h8 : 8 ≤ d
              · rw [if_pos h8] at h; cases h
              · rw [if_neg h8] at h
                cases hnm : nameB rest with
                | false => rw [hnm] at h; cases h
                | true =>
                  rw [hnm] at h
                  simp only [Bool.not_true, Bool.false_eq_true, if_false] at h
                  cases hrd : rd T f (d + 1) rest [] (n + 1) nb with
                  | bad a b c => rw [hrd] at h; cases h
                  | ok k n1 b1 =>
                    rw [hrd] at h
                    have r1 := ih (d + 1) rest [] (n + 1) nb k n1 b1 hrd hn2 (by omega) rfl
                    obtain ⟨s1, e1, e2⟩ := r1.txt
                    rw [if_neg (Nat.succ_ne_zero d)] at e2
                    have he := err_block (nm := rest) (k := k) (d := d) (by omega) hnm (by have := r1.err; rw [show (((d + 1 : Nat)) : Int) = (d : Int) + 1 by omega] at this; exact this)
                    have r2 := ih d nm (l ++ [.mk ⟨[], [], [], rest⟩ k]) n1 b1 l' n' b' h r1.le hd (errL_app0 hl (by rw [errL_one]; exact he))
                    refine r2.later (tx ++ [10] ++ s1) (by rw [hdr, e1, List.append_assoc (tx ++ [10])]) ?_
                    rw [txtL_app, txtL_one, txtI_eq]
                    have e3 : txtL k ++ bC rest = s1 := by rw [e2]; simp [txtL]
                    show txtL l ++ (bO rest ++ txtL k ++ bC rest) = _
                    rw [List.append_assoc (bO rest), e3, htx, htr]
                    simp [bO, r16]
            · rw [if_neg htr] at h
              by_cases hts : tag = s16
              · rw [if_pos hts] at h
                by_cases hd0 : d = 0
                · rw [if_pos hd0] at h; cases h
                · rw [if_neg hd0] at h
                  by_cases hrn : rest = nm
                  · rw [if_neg (fun e => e hrn)] at h
                    cases h
                    refine ⟨hl, ⟨tx ++ [10], hdr, ?_⟩, fun e => absurd e hd0, hn2⟩
                    rw [if_neg hd0, htx, hts, hrn]
                    simp [bC, s16]
                  · rw [if_pos hrn] at h; cases h
              · rw [if_neg hts] at h
                cases hfl : fldO tag rest tx.length with
                | some na => rw [hfl] at h; cases h
                | none =>
                  rw [hfl] at h
                  obtain ⟨he, ht⟩ := err_field (d := d) hfl har
                  have r2 := ih d nm _ _ _ l' n' b' h hn2 hd (errL_app0 hl (by rw [errL_one]; exact he))
                  refine r2.later (tx ++ [10]) hdr ?_
                  rw [txtL_app, txtL_one, ht, htx]
        · by_cases h45 : tx.getD 0 0 = 45
          · rw [stp_dash h58 h45] at h; cases h
          · rcases List.eq_nil_or_concat l with rfl | ⟨l0, a, hl0⟩
            · rw [stp_none h58 h45] at h; cases h
            · rw [List.concat_eq_append] at hl0
              subst hl0
              cases hta : a.itm.tag.isEmpty with
              | true => rw [stp_block h58 h45 hta] at h; cases h
              | false =>
                rw [stp_more h58 h45 hta] at h
                obtain ⟨g1, g2⟩ := errL_left hl
                rw [errL_one] at g2
                have r2 := ih d nm _ _ _ l' n' b' h hn2 hd (errL_app0 g1 (by rw [errL_one]; exact err_more g2 hta ha h0 h58 h45))
                refine r2.later (tx ++ [10]) hdr ?_
                rw [txtL_app, txtL_one, txt_more hta, txtL_app, txtL_one, List.append_assoc]
end Go.Proofs.Ytklhbhhkooddoaa
