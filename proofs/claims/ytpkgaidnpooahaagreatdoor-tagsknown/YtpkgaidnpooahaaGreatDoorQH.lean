/-
  My own text: QF, QG, QH in one.
-/
import Derived.Test.YtpkgaidnpooahaaGreatDoorQI
import Derived.Test.YtpkgaidnpooahaaGreatDoorT11
import Derived.Test.YtpkgaidnpooahaaGreatDoorQE
namespace Go.Proofs.YtpkgaidnpooahaaGreatDoor
open Go.RowKit

theorem inS_ten : inS 10 = false := by decide
theorem not_ten {c : UInt8} (h : inS c = true) : c ≠ 10 := fun e => by rw [e, inS_ten] at h; cases h
theorem chk_all {n : Lin} (h : chkE n = none) : n.tx.all inS = true := by
  unfold chkE at h
  split at h
  · cases h
  · split at h
    · cases h
    · rename_i h2
      rw [← fstNot_eq]
      exact decide_eq_true (by have := fstNot_le inS n.tx; omega)
theorem all_getD {p : UInt8 → Bool} {l : List UInt8} (h : l.all p = true) {j : Nat} (hj : j < l.length) : p (l.getD j 0) = true := by
  rw [getD_at hj]; exact List.all_eq_true.1 h _ (List.getElem_mem hj)
theorem getD_left {a b : List UInt8} {j : Nat} (h : j < a.length) : (a ++ b).getD j 0 = a.getD j 0 := by
  rw [getD_at (by rw [List.length_append]; omega), getD_at h, List.getElem_append_left h]
theorem getD_right {a b : List UInt8} {j : Nat} (h : a.length ≤ j) : (a ++ b).getD j 0 = b.getD (j - a.length) 0 := by
  rw [List.getD_eq_getElem?_getD, List.getElem?_append_right h, List.getD_eq_getElem?_getD]
theorem nlB_out {l : List UInt8} (h : nlB l = false) {j : Nat} (hj : j < l.length) : badAt l j = false := by
  cases hb : badAt l j with
  | false => rfl
  | true => rw [nlB_yes hj hb] at h; cases h
theorem nlB_set {l : List UInt8} (h : l.all inS = true) : nlB l = false := nlB_no (fun j hj => by
  have := not_ten (all_getD h hj)
  unfold badAt
  rw [beq_eq_false_iff_ne.2 this]; rfl)
theorem nlB_more {t tx : List UInt8} (h : nlB t = false) (ha : tx.all inS = true) (h0 : 0 < tx.length) (h58 : tx.getD 0 0 ≠ 58) (h45 : tx.getD 0 0 ≠ 45) : nlB (t ++ 10 :: tx) = false := nlB_no (fun j hj => by
  have hl : (t ++ 10 :: tx).length = t.length + 1 + tx.length := by simp; omega
  rw [hl] at hj
  unfold badAt
  rcases Nat.lt_trichotomy j t.length with hlt | heq | hgt
  · rw [getD_left hlt]
    have hb := nlB_out h hlt
    unfold badAt at hb
    by_cases hten : t.getD j 0 = 10
    · rw [hten] at hb ⊢
      simp only [beq_self_eq_true, Bool.true_and] at hb ⊢
      have hj1 : j + 1 ≠ t.length := fun e => by rw [decide_eq_true e] at hb; simp at hb
      rw [getD_left (by omega), decide_eq_false (by omega)]
      rw [decide_eq_false hj1] at hb
      exact hb
    · rw [beq_eq_false_iff_ne.2 hten]; rfl
  · subst heq
    rw [getD_right (Nat.le_refl _), Nat.sub_self, getD_right (by omega), show t.length + 1 - t.length = 1 by omega]
    have e1 : (10 :: tx).getD 1 0 = tx.getD 0 0 := rfl
    rw [e1, decide_eq_false (by omega), beq_eq_false_iff_ne.2 (not_ten (all_getD ha h0)), beq_eq_false_iff_ne.2 h58, beq_eq_false_iff_ne.2 h45]
    simp
  · rw [getD_right (by omega)]
    obtain ⟨k, hk⟩ : ∃ k, j - t.length = k + 1 := ⟨j - t.length - 1, by omega⟩
    have e1 : (10 :: tx).getD (k + 1) 0 = tx.getD k 0 := rfl
    rw [hk, e1, beq_eq_false_iff_ne.2 (not_ten (all_getD ha (by omega)))]
    rfl)
theorem txB_more {t tx : List UInt8} (h : txB t = true) (ha : tx.all inS = true) : txB (t ++ 10 :: tx) = true := by
  unfold txB at h ⊢
  rw [List.all_append, h, List.all_cons]
  have : (tx.all fun c => inS c || c == 10) = true := List.all_eq_true.2 (fun c hc => by rw [List.all_eq_true.1 ha c hc]; rfl)
  rw [this]; rfl
theorem txB_set {t : List UInt8} (ha : t.all inS = true) : txB t = true := List.all_eq_true.2 (fun c hc => by rw [List.all_eq_true.1 ha c hc]; rfl)
theorem hdB_more {t tx : List UInt8} (h : hdB t = false) : hdB (t ++ 10 :: tx) = false := by
  unfold hdB at h ⊢
  cases t with
  | nil => rfl
  | cons a r => exact h
theorem errL_app (x y : List Tr) (d : Int) : errL (x ++ y) d = if errL x d ≠ 0 then errL x d else errL y d := by
  induction x with
  | nil => simp [errL]
  | cons a r ih =>
    rw [List.cons_append, errL, ih]
    rw [errL]
    by_cases h1 : errI a d ≠ 0
    · simp only [if_pos h1]
    · simp only [if_neg h1]
theorem errL_app0 {x y : List Tr} {d : Int} (h1 : errL x d = 0) (h2 : errL y d = 0) : errL (x ++ y) d = 0 := by rw [errL_app, h1, h2]; simp
theorem errL_left {x y : List Tr} {d : Int} (h : errL (x ++ y) d = 0) : errL x d = 0 ∧ errL y d = 0 := by
  rw [errL_app] at h
  by_cases h1 : errL x d = 0
  · rw [h1] at h; simp at h; exact ⟨h1, h⟩
  · rw [if_pos h1] at h; exact absurd h h1
theorem errL_one (a : Tr) (d : Int) : errL [a] d = errI a d := by
  rw [errL, errL]; split
  · rfl
  · rename_i h; exact (Classical.not_not.1 h).symm
theorem txtL_one (a : Tr) : txtL [a] = txtI a := by rw [txtL, txtL, List.append_nil]
theorem fE_zero {tg qe ql ne ke tx nl hd : Bool} (h : fE tg qe ql ne ke tx nl hd = 0) : tg = true ∧ (qe = true ∨ ql = true) ∧ ne = true ∧ ke = true ∧ tx = true ∧ nl = false ∧ (qe = true → hd = false) := by
  unfold fE at h
  cases tg <;> cases qe <;> cases ql <;> cases ne <;> cases ke <;> cases tx <;> cases nl <;> cases hd <;> simp at h ⊢
theorem fE_make {tg qe ql ne ke tx nl hd : Bool} (h1 : tg = true) (h2 : qe = true ∨ ql = true) (h3 : ne = true) (h4 : ke = true) (h5 : tx = true) (h6 : nl = false) (h7 : qe = true → hd = false) : fE tg qe ql ne ke tx nl hd = 0 := by
  unfold fE
  subst h1; subst h3; subst h4; subst h5; subst h6
  cases qe <;> cases ql <;> cases hd <;> simp at h2 h7 ⊢
theorem err_more {a : Tr} {d : Int} {tx : List UInt8} (h : errI a d = 0) (hf : a.itm.tag.isEmpty = false) (ha : tx.all inS = true) (h0 : 0 < tx.length) (h58 : tx.getD 0 0 ≠ 58) (h45 : tx.getD 0 0 ≠ 45) : errI (a.withText (a.itm.text ++ 10 :: tx)) d = 0 := by
  have e := errI_eq a d
  rw [h] at e
  have hi : itemE a.itm a.kids.length d = 0 := by
    by_cases hz : itemE a.itm a.kids.length d = 0
    · exact hz
    · rw [if_pos hz] at e; exact absurd e.symm hz
  rw [itemE_field hf] at hi
  obtain ⟨g1, g2, g3, g4, g5, g6, g7⟩ := fE_zero hi
  have hn : fieldE (a.withText (a.itm.text ++ 10 :: tx)).itm (a.withText (a.itm.text ++ 10 :: tx)).kids.length = 0 := fE_make g1 g2 g3 g4 (txB_more g5 ha) (nlB_more g6 ha h0 h58 h45) (fun hq => hdB_more (g7 hq))
  have hf2 : (a.withText (a.itm.text ++ 10 :: tx)).itm.tag.isEmpty = false := hf
  rw [errI_eq, itemE_field hf2, hn, hf2]; simp
theorem txt_more {a : Tr} {tx : List UInt8} (hf : a.itm.tag.isEmpty = false) : txtI (a.withText (a.itm.text ++ 10 :: tx)) = txtI a ++ (tx ++ [10]) := by
  have hf2 : (a.withText (a.itm.text ++ 10 :: tx)).itm.tag.isEmpty = false := hf
  rw [txtI_eq, txtI_eq, hf, hf2]
  simp only [Bool.not_false, if_true]
  show fT { a.itm with text := a.itm.text ++ 10 :: tx } = _
  unfold fT
  simp
theorem tagB_ne {t : List UInt8} (h : tagB t = true) : t.isEmpty = false := by
  cases t with
  | nil => rw [tagB_len (by simp) (by simp)] at h; cases h
  | cons a r => rfl
theorem err_field {tag rest : List UInt8} {len : Nat} {d : Int} (h : fldO tag rest len = none) (ha : rest.all inS = true) : errI (.mk (fldI tag rest) []) d = 0 ∧ txtI (.mk (fldI tag rest) []) = [58] ++ tag ++ [58] ++ rest ++ [10] := by
  unfold fldO at h
  have htg : tagB tag = true := by
    cases hq : tagB tag with
    | true => rfl
    | false => rw [hq] at h; simp at h
  rw [htg] at h
  simp only [Bool.not_true, Bool.false_eq_true, if_false] at h
  have hne := tagB_ne htg
  cases hh : hdB rest with
  | false =>
    have e : fldI tag rest = ⟨tag, [], rest, []⟩ := by unfold fldI; rw [hh]; rfl
    rw [e]
    constructor
    · rw [errI_eq]
      have hz : itemE (Tr.mk ⟨tag, [], rest, []⟩ []).itm (Tr.mk ⟨tag, [], rest, []⟩ []).kids.length d = 0 := by
        rw [itemE_field hne]
        exact fE_make htg (.inl rfl) rfl rfl (txB_set ha) (nlB_set ha) (fun _ => hh)
      rw [hz]
      simp [Tr.itm, hne]
    · rw [txtI_eq]
      simp only [Tr.itm, hne, Bool.not_false, if_true]
      unfold fT; simp
  | true =>
    rw [hh] at h
    simp only [Bool.not_true, Bool.false_eq_true, if_false] at h
    have e : fldI tag rest = ⟨tag, (Lib.cut (rest.drop 1) [47, 47]).1, (Lib.cut (rest.drop 1) [47, 47]).2.1, []⟩ := by unfold fldI; rw [hh]; rfl
    rw [e]
    have hc : (Lib.cut (rest.drop 1) [47, 47]).2.2 = true := by
      cases hq : (Lib.cut (rest.drop 1) [47, 47]).2.2 with
      | true => rfl
      | false => rw [hq] at h; simp at h
    have hql : qualB (Lib.cut (rest.drop 1) [47, 47]).1 = true := by
      cases hq : qualB (Lib.cut (rest.drop 1) [47, 47]).1 with
      | true => rfl
      | false => rw [hc, hq] at h; simp at h
    have hr : rest = 58 :: rest.drop 1 := by
      cases rest with
      | nil => simp [hdB] at hh
      | cons a r => unfold hdB at hh; simp at hh; rw [hh]; rfl
    have hcut := cut_yes hc
    have ha2 : (Lib.cut (rest.drop 1) [47, 47]).2.1.all inS = true := by
      rw [hr, hcut] at ha
      simp only [List.all_cons, List.all_append, Bool.and_eq_true] at ha
      exact ha.2.2
    generalize (Lib.cut (rest.drop 1) [47, 47]).1 = q at *
    generalize (Lib.cut (rest.drop 1) [47, 47]).2.1 = t at *
    have hqe : q.isEmpty = false := by
      cases q with
      | nil => simp [qualB] at hql
      | cons a r => rfl
    constructor
    · rw [errI_eq]
      have hz : itemE (Tr.mk ⟨tag, q, t, []⟩ []).itm (Tr.mk ⟨tag, q, t, []⟩ []).kids.length d = 0 := by
        rw [itemE_field hne]
        exact fE_make htg (.inr hql) rfl rfl (txB_set ha2) (nlB_set ha2) (fun hq => by rw [show (Tr.mk ⟨tag, q, t, []⟩ []).itm.qual.isEmpty = q.isEmpty from rfl, hqe] at hq; cases hq)
      rw [hz]
      simp [Tr.itm, hne]
    · rw [txtI_eq]
      simp only [Tr.itm, hne, Bool.not_false, if_true]
      unfold fT
      simp only [hqe, Bool.false_eq_true, if_false]
      rw [hr, hcut]; simp
theorem err_block {nm : List UInt8} {k : List Tr} {d : Nat} (hd : d < 8) (hn : nameB nm = true) (hk : errL k ((d : Int) + 1) = 0) : errI (.mk ⟨[], [], [], nm⟩ k) d = 0 := by
  have hne : nm.isEmpty = false := by
    cases nm with
    | nil => simp [nameB] at hn
    | cons a r => rfl
  rw [errI_eq]
  have hz : itemE (Tr.mk ⟨[], [], [], nm⟩ k).itm (Tr.mk ⟨[], [], [], nm⟩ k).kids.length d = 0 := by
    rw [itemE_block rfl hne]
    unfold blockE bE
    rw [decide_eq_false (by omega)]
    simp [Tr.itm, hn]
  rw [hz]
  simp [Tr.itm, Tr.kids, hk]
end Go.Proofs.YtpkgaidnpooahaaGreatDoor
namespace Go.Proofs.YtpkgaidnpooahaaGreatDoor
open Go.RowKit

theorem chk_no {n : Lin} {no at_ : Int} (h : chkE n = some (no, at_)) : no ≠ 0 := by
  unfold chkE at h
  split at h
  · cases h; omega
  · split at h
    · cases h; omega
    · split at h
      · cases h; omega
      · cases h
theorem fld_no {tag rest : List UInt8} {len : Nat} {no at_ : Int} (h : fldO tag rest len = some (no, at_)) : no ≠ 0 := by
  unfold fldO at h
  split at h
  · cases h; omega
  · split at h
    · cases h
    · split at h
      · cases h; omega
      · cases h
/-- How far a reading has come. -/
def Good (T : List UInt8) (b : Nat) : Res → Prop
  | .ok _ _ b' => b ≤ b' ∧ b' ≤ T.length
  | .bad no _ _ => no ≠ 0
theorem Good.low {T : List UInt8} {b c : Nat} (h : b ≤ c) : ∀ {r : Res}, Good T c r → Good T b r
  | .ok _ _ _, hr => ⟨Nat.le_trans h hr.1, hr.2⟩
  | .bad _ _ _, hr => hr
theorem rd_good (T : List UInt8) : ∀ (F d : Nat) (nm : List UInt8) (l : List Tr) (n b : Nat), b ≤ T.length → T.length - b < F → Good T b (rd T F d nm l n b) := by
  intro F
  induction F with
  | zero => intro d nm l n b _ h; omega
  | succ f ih =>
    intro d nm l n b hb hF
    by_cases hbe : b = T.length
    · rw [rd, if_pos hbe]
      split
      · show (2 : Int) ≠ 0; omega
      · exact ⟨Nat.le_refl _, hb⟩
    · have hn := nxt_gt (T := T) (b := b) (by omega)
      cases hck : chkE ⟨n, b, ownL T b, endL T b⟩ with
      | some na =>
        obtain ⟨no, at_⟩ := na
        rw [rd_line hbe hck]; exact chk_no hck
      | none =>
        rw [rd_stp hbe hck]
        generalize ownL T b = tx
        generalize nxtB T b = nb at *
        have go : ∀ d nm l n, Good T b (rd T f d nm l n nb) := fun d nm l n => (ih d nm l n nb hn.2 (by omega)).low (by omega)
        unfold stp
        split
        · split
          · show (4 : Int) ≠ 0; omega
          · split
            · show (4 : Int) ≠ 0; omega
            · split
              · show (4 : Int) ≠ 0; omega
              · exact go _ _ _ _
        · split
          · show (4 : Int) ≠ 0; omega
          · split
            · split
              · show (5 : Int) ≠ 0; omega
              · split
                · show (4 : Int) ≠ 0; omega
                · have h1 := ih (d + 1) (Lib.cut (tx.drop 1) [58]).2.1 [] (n + 1) nb hn.2 (by omega)
                  split
                  · rename_i heq
                    rw [heq] at h1; exact h1
                  · rename_i heq
                    rw [heq] at h1
                    exact (ih _ _ _ _ _ h1.2 (by have := h1.1; omega)).low (by have := h1.1; omega)
            · split
              · split
                · show (10 : Int) ≠ 0; omega
                · split
                  · show (4 : Int) ≠ 0; omega
                  · exact ⟨by omega, hn.2⟩
              · split
                · rename_i heq
                  exact fld_no heq
                · exact go _ _ _ _
/-- What a reading that ends well has read. -/
structure Rdd (T : List UInt8) (d : Nat) (nm : List UInt8) (l : List Tr) (b : Nat) (l' : List Tr) (b' : Nat) : Prop where
  err : errL l' d = 0
  txt : ∃ s, T.drop b = s ++ T.drop b' ∧ txtL l' ++ (if d = 0 then [] else bC nm) = txtL l ++ s
  fin : d = 0 → b' = T.length
  le : b' ≤ T.length
theorem Rdd.later {T : List UInt8} {d : Nat} {nm : List UInt8} {l l1 : List Tr} {b b1 : Nat} {l' : List Tr} {b' : Nat} (h : Rdd T d nm l1 b1 l' b') (s : List UInt8) (h1 : T.drop b = s ++ T.drop b1) (h2 : txtL l1 = txtL l ++ s) : Rdd T d nm l b l' b' := by
  obtain ⟨r, e1, e2⟩ := h.txt
  exact ⟨h.err, ⟨s ++ r, by rw [h1, e1, List.append_assoc], by rw [e2, h2, List.append_assoc]⟩, h.fin, h.le⟩
theorem rd_ok (T : List UInt8) : ∀ (F d : Nat) (nm : List UInt8) (l : List Tr) (n b : Nat) (l' : List Tr) (n' b' : Nat), rd T F d nm l n b = .ok l' n' b' → b ≤ T.length → d ≤ 8 → errL l d = 0 → Rdd T d nm l b l' b' := by
  intro F
  induction F with
  | zero => intro d nm l n b l' n' b' h; cases h
  | succ f ih =>
    intro d nm l n b l' n' b' h hb hd hl
    by_cases hbe : b = T.length
    · rw [rd, if_pos hbe] at h
      split at h
      · cases h
      · rename_i h0
        cases h
        have hd0 : d = 0 := by omega
        exact ⟨hl, ⟨[], by simp, by rw [if_pos hd0]⟩, fun _ => hbe, hb⟩
    · cases hck : chkE ⟨n, b, ownL T b, endL T b⟩ with
      | some na =>
        obtain ⟨no, at_⟩ := na
        rw [rd_line hbe hck] at h; cases h
      | none =>
        rw [rd_stp hbe hck] at h
        obtain ⟨hen, h0⟩ := chk_none hck
        have ha := chk_all hck
        obtain ⟨hdr, hnb⟩ := own_yes hen
        have hn2 := (nxt_gt (T := T) (b := b) (by omega)).2
        dsimp only at h0 ha
        clear hck hen hnb
        generalize ownL T b = tx at *
        generalize nxtB T b = nb at *
        by_cases h58 : tx.getD 0 0 = 58
        · cases hfo : (Lib.cut (tx.drop 1) [58]).2.2 with
          | false => rw [stp_cut h58 hfo] at h; cases h
          | true =>
            rw [stp_stq h58 hfo] at h
            have hx : tx = 58 :: tx.drop 1 := by
              cases tx with
              | nil => simp at h0
              | cons a r => simp at h58; rw [h58]; rfl
            have hcut := cut_yes hfo
            generalize (Lib.cut (tx.drop 1) [58]).1 = tag at *
            generalize (Lib.cut (tx.drop 1) [58]).2.1 = rest at *
            have htx : tx = [58] ++ tag ++ [58] ++ rest := by rw [hx, hcut]; simp
            have har : rest.all inS = true := by
              rw [htx] at ha
              simp only [List.all_append, Bool.and_eq_true] at ha
              exact ha.2
            unfold stq at h
            by_cases htr : tag = r16
            · rw [if_pos htr] at h
              by_cases h8 : 8 ≤ d
              · rw [if_pos h8] at h; cases h
              · rw [if_neg h8] at h
                cases hnm : nameB rest with
                | false => rw [hnm] at h; cases h
                | true =>
                  rw [hnm] at h
                  simp only [Bool.not_true, Bool.false_eq_true, if_false] at h
                  cases hrd : rd T f (d + 1) rest [] (n + 1) nb with
                  | bad a b c => rw [hrd] at h; cases h
                  | ok k n1 b1 =>
                    rw [hrd] at h
                    have r1 := ih (d + 1) rest [] (n + 1) nb k n1 b1 hrd hn2 (by omega) rfl
                    obtain ⟨s1, e1, e2⟩ := r1.txt
                    rw [if_neg (Nat.succ_ne_zero d)] at e2
                    have he := err_block (nm := rest) (k := k) (d := d) (by omega) hnm (by have := r1.err; rw [show (((d + 1 : Nat)) : Int) = (d : Int) + 1 by omega] at this; exact this)
                    have r2 := ih d nm (l ++ [.mk ⟨[], [], [], rest⟩ k]) n1 b1 l' n' b' h r1.le hd (errL_app0 hl (by rw [errL_one]; exact he))
                    refine r2.later (tx ++ [10] ++ s1) (by rw [hdr, e1, List.append_assoc (tx ++ [10])]) ?_
                    rw [txtL_app, txtL_one, txtI_eq]
                    have e3 : txtL k ++ bC rest = s1 := by rw [e2]; simp [txtL]
                    show txtL l ++ (bO rest ++ txtL k ++ bC rest) = _
                    rw [List.append_assoc (bO rest), e3, htx, htr]
                    simp [bO, r16]
            · rw [if_neg htr] at h
              by_cases hts : tag = s16
              · rw [if_pos hts] at h
                by_cases hd0 : d = 0
                · rw [if_pos hd0] at h; cases h
                · rw [if_neg hd0] at h
                  by_cases hrn : rest = nm
                  · rw [if_neg (fun e => e hrn)] at h
                    cases h
                    refine ⟨hl, ⟨tx ++ [10], hdr, ?_⟩, fun e => absurd e hd0, hn2⟩
                    rw [if_neg hd0, htx, hts, hrn]
                    simp [bC, s16]
                  · rw [if_pos hrn] at h; cases h
              · rw [if_neg hts] at h
                cases hfl : fldO tag rest tx.length with
                | some na => rw [hfl] at h; cases h
                | none =>
                  rw [hfl] at h
                  obtain ⟨he, ht⟩ := err_field (d := d) hfl har
                  have r2 := ih d nm _ _ _ l' n' b' h hn2 hd (errL_app0 hl (by rw [errL_one]; exact he))
                  refine r2.later (tx ++ [10]) hdr ?_
                  rw [txtL_app, txtL_one, ht, htx]
        · by_cases h45 : tx.getD 0 0 = 45
          · rw [stp_dash h58 h45] at h; cases h
          · rcases List.eq_nil_or_concat l with rfl | ⟨l0, a, hl0⟩
            · rw [stp_none h58 h45] at h; cases h
            · rw [List.concat_eq_append] at hl0
              subst hl0
              cases hta : a.itm.tag.isEmpty with
              | true => rw [stp_block h58 h45 hta] at h; cases h
              | false =>
                rw [stp_more h58 h45 hta] at h
                obtain ⟨g1, g2⟩ := errL_left hl
                rw [errL_one] at g2
                have r2 := ih d nm _ _ _ l' n' b' h hn2 hd (errL_app0 g1 (by rw [errL_one]; exact err_more g2 hta ha h0 h58 h45))
                refine r2.later (tx ++ [10]) hdr ?_
                rw [txtL_app, txtL_one, txt_more hta, txtL_app, txtL_one, List.append_assoc]
end Go.Proofs.YtpkgaidnpooahaaGreatDoor
namespace Go.Proofs.YtpkgaidnpooahaaGreatDoor
open Go.RowKit

/-- The reading of a whole text. -/
def rdT (T : List UInt8) : Res := rd T (T.length + 1) 0 [] [] 1 0
theorem rdT_good (T : List UInt8) : Good T 0 (rdT T) := rd_good T (T.length + 1) 0 [] [] 1 0 (Nat.zero_le _) (by omega)
theorem rdT_calls (T : List UInt8) (hT : T.length ≤ 1048576) (p t q : Nat) (W : World) (hN : NS W p t q T 1 0) (hA : Apt p t q) (hm : ML W) :
    Calls Tryz.prog 41 #[.agg (rdC T (nxF p t q)), .int .i64 0, .string ⟨#[]⟩] W fun e w' => Mv p q W w' ∧ Out p t q T W w' e 0 (rdT T) := by
  have h := ritems_any p t q T hA hT (T.length + 1) 0 [] 1 0 W (by omega) (by omega) hN (Nat.zero_le _) (by omega) hm (fun a b c e => by
    have hg := rdT_good T
    unfold rdT at hg
    rw [e] at hg; exact hg)
  exact h
theorem readsOk {T : List UInt8} {l : List Tr} {n b : Nat} (hT : T.length ≤ 1048576) (h : rdT T = .ok l n b) : ReadsOk T l := fun p t q W hN hA hm => by
  refine (rdT_calls T hT p t q W hN hA hm).mono ?_
  rintro e w' ⟨h1, h2⟩
  rw [h] at h2
  obtain ⟨a, cap, h3, h4, _⟩ := h2
  exact ⟨h1, a, cap, h3, h4⟩
theorem readsBad {T : List UInt8} {no n at_ : Int} (hT : T.length ≤ 1048576) (h : rdT T = .bad no n at_) : ReadsBad T no n at_ := fun p t q W hN hA hm => by
  refine (rdT_calls T hT p t q W hN hA hm).mono ?_
  rintro e w' ⟨h1, h2⟩
  rw [h] at h2
  exact ⟨h1, h2⟩
theorem rdT_text {T : List UInt8} {l : List Tr} {n b : Nat} (h : rdT T = .ok l n b) : errL l 0 = 0 ∧ txtL l = T := by
  have r := rd_ok T (T.length + 1) 0 [] [] 1 0 l n b h (Nat.zero_le _) (by omega) rfl
  obtain ⟨s, e1, e2⟩ := r.txt
  have hb := r.fin rfl
  rw [hb, List.drop_of_length_le (Nat.le_refl _), List.append_nil, List.drop_zero] at e1
  rw [if_pos rfl, List.append_nil] at e2
  refine ⟨r.err, ?_⟩
  rw [e2, e1]; simp [txtL]
theorem wts_txt : ∀ (D : Nat) (l : List Tr) (d : Int), wts l ≤ D → errL l d = 0 → wts l ≤ (txtL l).length := by
  intro D
  induction D using Nat.strongRecOn with
  | ind D ih =>
    intro l
    induction l with
    | nil => intro d _ _; simp [wts]
    | cons a r ihr =>
      intro d hD he
      obtain ⟨g1, g2⟩ := errL_left (x := [a]) (y := r) he
      rw [errL_one] at g1
      rw [wts_cons] at hD ⊢
      have hw := wt_eq a
      have h2 := ihr d (by omega) g2
      have e := errI_eq a d
      rw [g1] at e
      have hi : itemE a.itm a.kids.length d = 0 := by
        by_cases hz : itemE a.itm a.kids.length d = 0
        · exact hz
        · rw [if_pos hz] at e; exact absurd e.symm hz
      rw [txtL, List.length_append, txtI_eq]
      cases hta : a.itm.tag.isEmpty with
      | false =>
        rw [itemE_field hta] at hi
        obtain ⟨_, _, q3, q4, _⟩ := fE_zero hi
        have n0 : a.itm.name.length = 0 := by rw [List.isEmpty_iff] at q3; rw [q3]; rfl
        have k0 : wts a.kids = 0 := by
          have := of_decide_eq_true q4
          rw [List.length_eq_zero_iff.1 this]; simp [wts]
        simp only [Bool.not_false, if_true]
        have hf : 1 + a.itm.tag.length + a.itm.qual.length + a.itm.text.length ≤ (fT a.itm).length := by
          unfold fT
          cases hq : a.itm.qual with
          | nil => simp; omega
          | cons x y => simp; omega
        omega
      | true =>
        rw [hta] at e
        rw [hi] at e
        simp only [ne_eq, not_true, if_false, Bool.not_true, Bool.false_eq_true] at e
        have h3 := ih (wts a.kids) (by omega) a.kids (d + 1) (Nat.le_refl _) e.symm
        have hne : a.itm.name.isEmpty = false := by
          cases hn : a.itm.name.isEmpty with
          | false => rfl
          | true => rw [itemE_none hta hn] at hi; omega
        rw [itemE_block hta hne] at hi
        unfold blockE bE at hi
        have hq : a.itm.qual.isEmpty = true := by
          cases hn : a.itm.qual.isEmpty with
          | true => rfl
          | false => rw [hn] at hi; split at hi <;> simp at hi
        have htx : a.itm.text.isEmpty = true := by
          cases hn : a.itm.text.isEmpty with
          | true => rfl
          | false => rw [hn] at hi; split at hi <;> simp at hi
        rw [List.isEmpty_iff] at hq htx hta
        simp only [Bool.not_true, Bool.false_eq_true, if_false, bO, bC, List.length_append, List.length_cons, List.length_nil]
        rw [hta, hq, htx] at hw
        simp only [List.length_nil] at hw
        omega
theorem rdT_print {T : List UInt8} {l : List Tr} {n b : Nat} (hT : T.length ≤ 1048576) (h : rdT T = .ok l n b) : prE l = 0 ∧ prT l = T ∧ wts l ≤ T.length := by
  obtain ⟨h1, h2⟩ := rdT_text h
  have h3 : prE l = 0 := by unfold prE; rw [h1, h2]; simp; omega
  refine ⟨h3, by unfold prT; rw [h3]; simp [h2], ?_⟩
  have := wts_txt (wts l) l 0 (Nat.le_refl _) h1
  rw [h2] at this; exact this
end Go.Proofs.YtpkgaidnpooahaaGreatDoor
