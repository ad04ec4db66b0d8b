/-
  My own text: what stands ahead of a fault, its open blocks ended, is a message's text.
-/
import Derived.Test.YtpkgaidnpooahaaGreatDoorQY
namespace Go.Proofs.YtpkgaidnpooahaaGreatDoor
open Go.RowKit

/-- What a line does to the names of the open blocks, the newest first. -/
def scS (tx : List UInt8) (S : List (List UInt8)) : List (List UInt8) :=
  if 5 < tx.length ∧ tx.take 5 = [58, 49, 54, 82, 58] then tx.drop 5 :: S
  else if 5 < tx.length ∧ tx.take 5 = [58, 49, 54, 83, 58] then S.tail else S
/-- So many lines on. -/
def sc (T : List UInt8) : Nat → Nat → List (List UInt8) → Nat × List (List UInt8)
  | 0, b, S => (b, S)
  | k + 1, b, S => if b < T.length then sc T k (nxtB T b) (scS (ownL T b) S) else (b, S)
theorem sc_end {T : List UInt8} {b : Nat} (h : ¬ b < T.length) (S : List (List UInt8)) : ∀ k, sc T k b S = (b, S)
  | 0 => rfl
  | k + 1 => by rw [sc, if_neg h]
theorem sc_add (T : List UInt8) : ∀ (j k b : Nat) (S : List (List UInt8)), sc T (j + k) b S = sc T k (sc T j b S).1 (sc T j b S).2 := by
  intro j
  induction j with
  | zero => intro k b S; rw [Nat.zero_add]; rfl
  | succ j ih =>
    intro k b S
    by_cases h : b < T.length
    · rw [show j + 1 + k = (j + k) + 1 by omega, sc, if_pos h, ih, sc, if_pos h]
    · rw [sc_end h, sc_end h, sc_end h]
theorem sc_step {T : List UInt8} {b : Nat} (h : b < T.length) (k : Nat) (S : List (List UInt8)) : sc T (k + 1) b S = sc T k (nxtB T b) (scS (ownL T b) S) := by rw [sc, if_pos h]
def cl (N : List (List UInt8)) : List UInt8 := (N.map bC).flatten
theorem scS_more {tx : List UInt8} (h : tx.getD 0 0 ≠ 58) (S : List (List UInt8)) : scS tx S = S := by
  unfold scS
  cases tx with
  | nil => simp
  | cons a r =>
    have ha : a ≠ 58 := h
    rw [if_neg (fun e => ha (by have := e.2; rw [List.take_succ_cons] at this; exact (List.cons.inj this).1)), if_neg (fun e => ha (by have := e.2; rw [List.take_succ_cons] at this; exact (List.cons.inj this).1))]
theorem scS_open {nm : List UInt8} (h : nm ≠ []) (S : List (List UInt8)) : scS ([58] ++ r16 ++ [58] ++ nm) S = nm :: S := by
  cases nm with
  | nil => exact absurd rfl h
  | cons a r => simp [scS, r16]
theorem scS_shut {nm : List UInt8} (h : nm ≠ []) (S : List (List UInt8)) : scS ([58] ++ s16 ++ [58] ++ nm) S = S.tail := by
  cases nm with
  | nil => exact absurd rfl h
  | cons a r => simp [scS, s16]
theorem scS_field {tag rest : List UInt8} (h : tagB tag = true) (S : List (List UInt8)) : scS ([58] ++ tag ++ [58] ++ rest) S = S := by
  obtain ⟨_, h1, h2⟩ := tag_colon h
  have hl : tag.length = 2 ∨ tag.length = 3 := by
    by_cases e2 : tag.length = 2
    · exact .inl e2
    · by_cases e3 : tag.length = 3
      · exact .inr e3
      · rw [tagB_len e2 e3] at h; cases h
  unfold scS
  match tag, hl, h1, h2 with
  | [a, b], _, _, _ => simp
  | [a, b, c], _, h1, h2 =>
    rw [if_neg (fun e => h1 (by have := e.2; simp at this; obtain ⟨rfl, rfl, rfl⟩ := this; rfl)), if_neg (fun e => h2 (by have := e.2; simp at this; obtain ⟨rfl, rfl, rfl⟩ := this; rfl))]
  | [], hl, _, _ => simp at hl
  | [a], hl, _, _ => simp at hl
  | a :: b :: c :: d :: r, hl, _, _ => simp at hl
theorem fld_tag {tag rest : List UInt8} {len : Nat} (h : fldO tag rest len = none) : tagB tag = true := by
  unfold fldO at h
  cases hq : tagB tag with
  | true => rfl
  | false => rw [hq] at h; simp at h
theorem name_ne {nm : List UInt8} (h : nameB nm = true) : nm ≠ [] := fun e => by rw [e] at h; simp [nameB] at h
/-- A block that is read to its end has been opened and shut. -/
theorem sc_ok (T : List UInt8) : ∀ (F d : Nat) (nm : List UInt8) (l : List Tr) (n b : Nat) (l' : List Tr) (n' b' : Nat), rd T F d nm l n b = .ok l' n' b' → b ≤ T.length → T.length - b < F → 0 < d → nm ≠ [] → ∃ j, n' = n + j ∧ b + j ≤ b' ∧ b' ≤ T.length ∧ ∀ S, sc T j b (nm :: S) = (b', S) := by
  intro F
  induction F with
  | zero => intro d nm l n b l' n' b' h; cases h
  | succ f ih =>
    intro d nm l n b l' n' b' h hb hF hd hnn
    by_cases hbe : b = T.length
    · rw [rd, if_pos hbe, if_pos hd] at h; cases h
    · cases hck : chkE ⟨n, b, ownL T b, endL T b⟩ with
      | some na =>
        obtain ⟨no, at_⟩ := na
        rw [rd_line hbe hck] at h; cases h
      | none =>
        rw [rd_stp hbe hck] at h
        obtain ⟨hen, h0⟩ := chk_none hck
        have hn2 := (nxt_gt (T := T) (b := b) (by omega))
        have hst : ∀ k S, sc T (k + 1) b S = sc T k (nxtB T b) (scS (ownL T b) S) := sc_step (by omega)
        dsimp only at h0
        clear hck hen
        generalize ownL T b = tx at *
        generalize nxtB T b = nb at *
        have keep : ∀ (l1 : List Tr), (∀ S, scS tx S = S) → rd T f d nm l1 (n + 1) nb = .ok l' n' b' → ∃ j, n' = n + j ∧ b + j ≤ b' ∧ b' ≤ T.length ∧ ∀ S, sc T j b (nm :: S) = (b', S) := fun l1 hs h1 => by
          obtain ⟨j, g1, g2, g3, g4⟩ := ih d nm l1 (n + 1) nb l' n' b' h1 hn2.2 (by omega) hd hnn
          exact ⟨j + 1, by omega, by omega, g3, fun S => by rw [hst, hs]; exact g4 S⟩
        by_cases h58 : tx.getD 0 0 = 58
        · cases hfo : (Lib.cut (tx.drop 1) [58]).2.2 with
          | false => rw [stp_cut h58 hfo] at h; cases h
          | true =>
            rw [stp_stq h58 hfo] at h
            have hx : tx = 58 :: tx.drop 1 := by
              cases tx with
              | nil => simp at h0
              | cons a r => simp at h58; rw [h58]; rfl
            have hcut := cut_yes hfo
            generalize (Lib.cut (tx.drop 1) [58]).1 = tag at *
            generalize (Lib.cut (tx.drop 1) [58]).2.1 = rest at *
            have htx : tx = [58] ++ tag ++ [58] ++ rest := by rw [hx, hcut]; simp
            unfold stq at h
            by_cases htr : tag = r16
            · rw [if_pos htr] at h
              by_cases h8 : 8 ≤ d
              · rw [if_pos h8] at h; cases h
              · rw [if_neg h8] at h
                cases hnm : nameB rest with
                | false => rw [hnm] at h; cases h
                | true =>
                  rw [hnm] at h
                  simp only [Bool.not_true, Bool.false_eq_true, if_false] at h
                  cases hrd : rd T f (d + 1) rest [] (n + 1) nb with
                  | bad a b c => rw [hrd] at h; cases h
                  | ok k n1 b1 =>
                    rw [hrd] at h
                    obtain ⟨j1, a1, a2, a3, a4⟩ := ih (d + 1) rest [] (n + 1) nb k n1 b1 hrd hn2.2 (by omega) (by omega) (name_ne hnm)
                    obtain ⟨j2, c1, c2, c3, c4⟩ := ih d nm _ n1 b1 l' n' b' h a3 (by omega) hd hnn
                    refine ⟨j1 + j2 + 1, by omega, by omega, c3, fun S => ?_⟩
                    rw [hst, htx, htr, scS_open (name_ne hnm), sc_add, a4]
                    exact c4 S
            · rw [if_neg htr] at h
              by_cases hts : tag = s16
              · rw [if_pos hts] at h
                by_cases hd0 : d = 0
                · rw [if_pos hd0] at h; cases h
                · rw [if_neg hd0] at h
                  by_cases hrn : rest = nm
                  · rw [if_neg (fun e => e hrn)] at h
                    cases h
                    refine ⟨1, rfl, by omega, hn2.2, fun S => ?_⟩
                    rw [hst, htx, hts, hrn, scS_shut hnn]; rfl
                  · rw [if_pos hrn] at h; cases h
              · rw [if_neg hts] at h
                cases hfl : fldO tag rest tx.length with
                | some na => rw [hfl] at h; cases h
                | none =>
                  rw [hfl] at h
                  exact keep _ (fun S => by rw [htx, scS_field (fld_tag hfl)]) h
        · by_cases h45 : tx.getD 0 0 = 45
          · rw [stp_dash h58 h45] at h; cases h
          · rcases List.eq_nil_or_concat l with rfl | ⟨l0, a, hl0⟩
            · rw [stp_none h58 h45] at h; cases h
            · rw [List.concat_eq_append] at hl0
              subst hl0
              cases hta : a.itm.tag.isEmpty with
              | true => rw [stp_block h58 h45 hta] at h; cases h
              | false =>
                rw [stp_more h58 h45 hta] at h
                exact keep _ (fun S => scS_more h58 S) h
/-- Where a fault was met: so many lines on, these blocks open, and what stands ahead is a message's text. -/
structure Bad (T : List UInt8) (d : Nat) (l : List Tr) (n b : Nat) (m : Int) (j bm : Nat) (N : List (List UInt8)) (k : List Tr) (s : List UInt8) : Prop where
  num : m = ((n + j : Nat) : Int)
  far : b + j ≤ bm
  le : bm ≤ T.length
  scan : ∀ S, sc T j b S = (bm, N ++ S)
  err : errL k d = 0
  drop : T.drop b = s ++ T.drop bm
  txt : txtL k = txtL l ++ s ++ cl N
theorem Bad.here {T : List UInt8} {d : Nat} {l : List Tr} {n b : Nat} (hb : b ≤ T.length) (hl : errL l d = 0) : Bad T d l n b (n : Int) 0 b [] l [] :=
  ⟨rfl, Nat.le_refl _, hb, fun _ => rfl, hl, rfl, by simp [cl]⟩
theorem bad_open (T : List UInt8) : ∀ (F d : Nat) (nm : List UInt8) (l : List Tr) (n b : Nat) (no m at_ : Int), rd T F d nm l n b = .bad no m at_ → b ≤ T.length → T.length - b < F → d ≤ 8 → errL l d = 0 → ∃ j bm N k s, Bad T d l n b m j bm N k s := by
  intro F
  induction F with
  | zero => intro d nm l n b no m at_ _ _ h; omega
  | succ f ih =>
    intro d nm l n b no m at_ h hb hF hd hl
    have here : ∀ {x y z : Int}, Res.bad x (n : Int) z = Res.bad no m at_ → ∃ j bm N k s, Bad T d l n b m j bm N k s := fun e => by
      injection e with _ e2 _
      rw [← e2]
      exact ⟨_, _, _, _, _, Bad.here hb hl⟩
    by_cases hbe : b = T.length
    · rw [rd, if_pos hbe] at h
      split at h
      · exact here (y := 0) h
      · cases h
    · cases hck : chkE ⟨n, b, ownL T b, endL T b⟩ with
      | some na =>
        obtain ⟨no, at_⟩ := na
        rw [rd_line hbe hck] at h; exact here (y := 0) h
      | none =>
        rw [rd_stp hbe hck] at h
        obtain ⟨hen, h0⟩ := chk_none hck
        have ha := chk_all hck
        obtain ⟨hdr, hnb⟩ := own_yes hen
        have hn2 := (nxt_gt (T := T) (b := b) (by omega))
        have hst : ∀ k S, sc T (k + 1) b S = sc T k (nxtB T b) (scS (ownL T b) S) := sc_step (by omega)
        dsimp only at h0 ha
        clear hck hen hnb
        generalize ownL T b = tx at *
        generalize nxtB T b = nb at *
        have keep : ∀ (l1 : List Tr), (∀ S, scS tx S = S) → errL l1 d = 0 → txtL l1 = txtL l ++ (tx ++ [10]) → rd T f d nm l1 (n + 1) nb = .bad no m at_ → ∃ j bm N k s, Bad T d l n b m j bm N k s := fun l1 hs he ht h1 => by
          obtain ⟨j, bm, N, k, s, g⟩ := ih d nm l1 (n + 1) nb no m at_ h1 hn2.2 (by omega) hd he
          exact ⟨j + 1, bm, N, k, tx ++ [10] ++ s, by rw [g.num]; congr 1; omega, by have := g.far; omega, g.le, fun S => by rw [hst, hs]; exact g.scan S, g.err, by rw [hdr, g.drop, List.append_assoc (tx ++ [10])], by rw [g.txt, ht]; simp⟩
        by_cases h58 : tx.getD 0 0 = 58
        · cases hfo : (Lib.cut (tx.drop 1) [58]).2.2 with
          | false => rw [stp_cut h58 hfo] at h; exact here (y := 0) h
          | true =>
            rw [stp_stq h58 hfo] at h
            have hx : tx = 58 :: tx.drop 1 := by
              cases tx with
              | nil => simp at h0
              | cons a r => simp at h58; rw [h58]; rfl
            have hcut := cut_yes hfo
            generalize (Lib.cut (tx.drop 1) [58]).1 = tag at *
            generalize (Lib.cut (tx.drop 1) [58]).2.1 = rest at *
            have htx : tx = [58] ++ tag ++ [58] ++ rest := by rw [hx, hcut]; simp
            have har : rest.all inS = true := by
              rw [htx] at ha
              simp only [List.all_append, Bool.and_eq_true] at ha
              exact ha.2
            unfold stq at h
            by_cases htr : tag = r16
            · rw [if_pos htr] at h
              by_cases h8 : 8 ≤ d
              · rw [if_pos h8] at h; exact here (y := 0) h
              · rw [if_neg h8] at h
                cases hnm : nameB rest with
                | false => rw [hnm] at h; exact here (y := 0) h
                | true =>
                  rw [hnm] at h
                  simp only [Bool.not_true, Bool.false_eq_true, if_false] at h
                  cases hrd : rd T f (d + 1) rest [] (n + 1) nb with
                  | bad x y z =>
                    rw [hrd] at h
                    injection h with _ e2 _
                    subst e2
                    obtain ⟨j, bm, N, k, s, g⟩ := ih (d + 1) rest [] (n + 1) nb x y z hrd hn2.2 (by omega) (by omega) rfl
                    have he := err_block (nm := rest) (k := k) (d := d) (by omega) hnm (by have := g.err; rw [show (((d + 1 : Nat)) : Int) = (d : Int) + 1 by omega] at this; exact this)
                    refine ⟨j + 1, bm, N ++ [rest], l ++ [.mk ⟨[], [], [], rest⟩ k], tx ++ [10] ++ s, by rw [g.num]; congr 1; omega, by have := g.far; omega, g.le, fun S => ?_, errL_app0 hl (by rw [errL_one]; exact he), by rw [hdr, g.drop, List.append_assoc (tx ++ [10])], ?_⟩
                    · rw [hst, htx, htr, scS_open (name_ne hnm), g.scan]; simp
                    · rw [txtL_app, txtL_one, txtI_eq]
                      show txtL l ++ (bO rest ++ txtL k ++ bC rest) = _
                      rw [g.txt, htx, htr]
                      simp [bO, r16, cl, txtL]
                  | ok k n1 b1 =>
                    rw [hrd] at h
                    obtain ⟨j1, a1, a2, a3, a4⟩ := sc_ok T f (d + 1) rest [] (n + 1) nb k n1 b1 hrd hn2.2 (by omega) (by omega) (name_ne hnm)
                    have r1 := rd_ok T f (d + 1) rest [] (n + 1) nb k n1 b1 hrd hn2.2 (by omega) rfl
                    obtain ⟨s1, e1, e2⟩ := r1.txt
                    rw [if_neg (Nat.succ_ne_zero d)] at e2
                    have he := err_block (nm := rest) (k := k) (d := d) (by omega) hnm (by have := r1.err; rw [show (((d + 1 : Nat)) : Int) = (d : Int) + 1 by omega] at this; exact this)
                    obtain ⟨j, bm, N, k2, s, g⟩ := ih d nm (l ++ [.mk ⟨[], [], [], rest⟩ k]) n1 b1 no m at_ h a3 (by omega) hd (errL_app0 hl (by rw [errL_one]; exact he))
                    refine ⟨j1 + j + 1, bm, N, k2, tx ++ [10] ++ s1 ++ s, by rw [g.num]; congr 1; omega, by have := g.far; omega, g.le, fun S => ?_, g.err, by rw [hdr, e1, g.drop]; simp, ?_⟩
                    · rw [hst, htx, htr, scS_open (name_ne hnm), sc_add, a4]; exact g.scan S
                    · have e3 : txtL k ++ bC rest = s1 := by rw [e2]; simp [txtL]
                      rw [g.txt, txtL_app, txtL_one, txtI_eq]
                      show txtL l ++ (bO rest ++ txtL k ++ bC rest) ++ s ++ cl N = _
                      rw [List.append_assoc (bO rest), e3, htx, htr]
                      simp [bO, r16]
            · rw [if_neg htr] at h
              by_cases hts : tag = s16
              · rw [if_pos hts] at h
                by_cases hd0 : d = 0
                · rw [if_pos hd0] at h; exact here (y := 0) h
                · rw [if_neg hd0] at h
                  by_cases hrn : rest = nm
                  · rw [if_neg (fun e => e hrn)] at h; cases h
                  · rw [if_pos hrn] at h; exact here (y := 0) h
              · rw [if_neg hts] at h
                cases hfl : fldO tag rest tx.length with
                | some na => rw [hfl] at h; exact here (y := 0) h
                | none =>
                  rw [hfl] at h
                  obtain ⟨he, ht⟩ := err_field (d := d) hfl har
                  exact keep _ (fun S => by rw [htx, scS_field (fld_tag hfl)]) (errL_app0 hl (by rw [errL_one]; exact he)) (by rw [txtL_app, txtL_one, ht, htx]) h
        · by_cases h45 : tx.getD 0 0 = 45
          · rw [stp_dash h58 h45] at h; exact here (y := 0) h
          · rcases List.eq_nil_or_concat l with rfl | ⟨l0, a, hl0⟩
            · rw [stp_none h58 h45] at h; exact here (y := 0) h
            · rw [List.concat_eq_append] at hl0
              subst hl0
              cases hta : a.itm.tag.isEmpty with
              | true => rw [stp_block h58 h45 hta] at h; exact here (y := 0) h
              | false =>
                rw [stp_more h58 h45 hta] at h
                obtain ⟨g1, g2⟩ := errL_left hl
                rw [errL_one] at g2
                exact keep _ (fun S => scS_more h58 S) (errL_app0 g1 (by rw [errL_one]; exact err_more g2 hta ha h0 h58 h45)) (by rw [txtL_app, txtL_one, txt_more hta, txtL_app, txtL_one, List.append_assoc]) h
/-- A fault's place lies in the text, or right behind it. -/
def AtOk (T : List UInt8) : Res → Prop
  | .ok _ _ _ => True
  | .bad _ _ at_ => 1 ≤ at_ ∧ at_ ≤ (T.length : Int) + 1
theorem at_one (T : List UInt8) (no n : Int) : AtOk T (.bad no n 1) := ⟨Int.le_refl _, by omega⟩
theorem bad_at (T : List UInt8) : ∀ (F d : Nat) (nm : List UInt8) (l : List Tr) (n b : Nat), b ≤ T.length → T.length - b < F → AtOk T (rd T F d nm l n b) := by
  intro F
  induction F with
  | zero => intro d nm l n b _ h; omega
  | succ f ih =>
    intro d nm l n b hb hF
    by_cases hbe : b = T.length
    · rw [rd, if_pos hbe]
      split
      · exact at_one T _ _
      · exact trivial
    · have hn := nxt_gt (T := T) (b := b) (by omega)
      have ho := own_len T b
      cases hck : chkE ⟨n, b, ownL T b, endL T b⟩ with
      | some na =>
        obtain ⟨no, at_⟩ := na
        rw [rd_line hbe hck]
        unfold chkE at hck
        have hf := fstNot_le inS (ownL T b)
        dsimp only at hck
        split at hck
        · cases hck; exact ⟨by omega, by omega⟩
        · split at hck
          · cases hck; exact ⟨by omega, by omega⟩
          · split at hck
            · cases hck; exact at_one T _ _
            · cases hck
      | none =>
        rw [rd_stp hbe hck]
        clear hck
        generalize ownL T b = tx at *
        generalize nxtB T b = nb at *
        have go : ∀ d nm l n, AtOk T (rd T f d nm l n nb) := fun d nm l n => ih d nm l n nb hn.2 (by omega)
        have hc := cut_len (tx.drop 1) [58]
        rw [List.length_drop] at hc
        unfold stp
        split
        · split
          · exact at_one T _ _
          · split
            · exact at_one T _ _
            · split
              · exact at_one T _ _
              · exact go _ _ _ _
        · rename_i h58
          have h1 : 0 < tx.length := by
            cases tx with
            | nil => simp at h58
            | cons a r => simp
          split
          · exact ⟨by omega, by omega⟩
          · split
            · split
              · exact at_one T _ _
              · split
                · exact ⟨by omega, by omega⟩
                · have h1 := rd_good T f (d + 1) (Lib.cut (tx.drop 1) [58]).2.1 [] (n + 1) nb hn.2 (by omega)
                  have h2 := go (d + 1) (Lib.cut (tx.drop 1) [58]).2.1 [] (n + 1)
                  split
                  · rename_i heq
                    rw [heq] at h2; exact h2
                  · rename_i heq
                    rw [heq] at h1
                    exact ih _ _ _ _ _ h1.2 (by have := h1.1; omega)
            · split
              · split
                · exact at_one T _ _
                · split
                  · exact ⟨by omega, by omega⟩
                  · exact trivial
              · rename_i hnc _ _
                split
                · rename_i heq
                  unfold fldO at heq
                  split at heq
                  · cases heq; exact ⟨by omega, by omega⟩
                  · split at heq
                    · cases heq
                    · rename_i hhd
                      have hr : 0 < (Lib.cut (tx.drop 1) [58]).2.1.length := by
                        cases hq : (Lib.cut (tx.drop 1) [58]).2.1 with
                        | nil => rw [hq] at hhd; simp [hdB] at hhd
                        | cons a r => simp
                      split at heq
                      · cases heq; exact ⟨by omega, by omega⟩
                      · cases heq
                · exact go _ _ _ _
/-- The lines ahead of a fault, the open blocks ended, are read. -/
theorem rdT_open {T : List UInt8} {no m at_ : Int} (h : rdT T = .bad no m at_) : ∃ j bm N, m = ((1 + j : Nat) : Int) ∧ (1 ≤ at_ ∧ at_ ≤ (T.length : Int) + 1) ∧ j ≤ bm ∧ bm ≤ T.length ∧ sc T j 0 [] = (bm, N) ∧ ∃ k n b, rdT (T.take bm ++ cl N) = .ok k n b := by
  obtain ⟨j, bm, N, k, s, g⟩ := bad_open T (T.length + 1) 0 [] [] 1 0 no m at_ h (Nat.zero_le _) (by omega) (by omega) rfl
  have hs : s = T.take bm := by
    have h1 := g.drop
    rw [List.drop_zero] at h1
    have hl := congrArg List.length h1
    rw [List.length_append, List.length_drop] at hl
    have := g.le
    have e : T.take bm = (s ++ T.drop bm).take bm := by rw [← h1]
    rw [e, List.take_left' (by omega)]
  obtain ⟨n, b, hr⟩ := rdT_back k g.err
  have hat := bad_at T (T.length + 1) 0 [] [] 1 0 (Nat.zero_le _) (by omega)
  have h' : rd T (T.length + 1) 0 [] [] 1 0 = .bad no m at_ := h
  rw [h'] at hat
  refine ⟨j, bm, N, g.num, hat, by have := g.far; omega, g.le, by have := g.scan []; rw [List.append_nil] at this; exact this, k, n, b, ?_⟩
  have e : T.take bm ++ cl N = txtL k := by rw [g.txt, hs]; simp [txtL]
  rw [e]; exact hr
theorem own_none (T : List UInt8) (b : Nat) : (10 : UInt8) ∉ ownL T b := by
  intro hm
  unfold ownL Lib.cut at hm
  rcases Lib.index_spec (T.drop b) [10] with ⟨h1, h2⟩ | ⟨i, h1, h2, h3, h4⟩
  · rw [h1, if_neg (by omega)] at hm
    obtain ⟨j, hj, e⟩ := List.getElem_of_mem hm
    have := h2 j (by simpa using Nat.le_of_lt hj)
    unfold Lib.occAt at this
    rw [List.drop_eq_getElem_cons hj, e] at this
    simp at this
  · rw [h1, if_pos (by omega)] at hm
    simp only [Int.toNat_natCast] at hm
    obtain ⟨j, hj, e⟩ := List.getElem_of_mem hm
    rw [List.length_take] at hj
    rw [List.getElem_take] at e
    have := h4 j (by omega)
    unfold Lib.occAt at this
    rw [List.drop_eq_getElem_cons (by omega), e] at this
    simp at this
/-- A line's bytes are none of them the line's end; behind them stands it, or nothing. -/
theorem own_byte {T : List UInt8} {b m : Nat} (h : m < (ownL T b).length) : b + m < T.length ∧ T.getD (b + m) 0 ≠ 10 := by
  have hl := own_len T b
  refine ⟨by omega, fun e => ?_⟩
  have hx : ownL T b = (T.drop b).take (ownL T b).length := by
    cases he : endL T b with
    | true => rw [(own_yes he).1, List.append_assoc, List.take_left' rfl]
    | false => 
      have h2 : ownL T b = T.drop b := (cut_no he).1
      rw [h2, List.take_of_length_le (Nat.le_refl _)]
  have h10 : (10 : UInt8) ∉ ownL T b := own_none T b
  apply h10
  have h3 : (ownL T b)[m]? = some 10 := by
    rw [hx, List.getElem?_take_of_lt h, List.getElem?_drop, List.getElem?_eq_getElem (by omega)]
    rw [getD_at (by omega)] at e
    rw [e]
  exact List.mem_of_getElem? h3
theorem own_stop {T : List UInt8} {b : Nat} (h : b + (ownL T b).length < T.length) : T.getD (b + (ownL T b).length) 0 = 10 := by
  cases he : endL T b with
  | true =>
    have h1 := (own_yes he).1
    have h2 : (T.drop b)[(ownL T b).length]? = some 10 := by rw [h1, List.append_assoc, List.getElem?_append_right (Nat.le_refl _), Nat.sub_self]; rfl
    rw [List.getElem?_drop] at h2
    rw [List.getD_eq_getElem?_getD, h2]; rfl
  | false =>
    have h2 : ownL T b = T.drop b := (cut_no he).1
    rw [h2, List.length_drop] at h; omega
theorem own_is {T : List UInt8} {b : Nat} : (T.drop b).take (ownL T b).length = ownL T b := by
  cases he : endL T b with
  | true => 
    conv => lhs; rw [(own_yes he).1, List.append_assoc]
    exact List.take_left' rfl
  | false =>
    have h2 : ownL T b = T.drop b := (cut_no he).1
    rw [h2, List.take_of_length_le (Nat.le_refl _)]
end Go.Proofs.YtpkgaidnpooahaaGreatDoor
