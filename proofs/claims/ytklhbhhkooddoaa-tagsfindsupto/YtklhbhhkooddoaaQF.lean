/-
  My own text: what is read is right, and prints as the text that was read.
-/
import Derived.Test.YtklhbhhkooddoaaQI
import Derived.Test.YtklhbhhkooddoaaT11
namespace Go.Proofs.Ytklhbhhkooddoaa
open Go.RowKit

theorem inS_ten : inS 10 = false := by decide
theorem not_ten {c : UInt8} (h : inS c = true) : c ≠ 10 := fun e => by rw [e, inS_ten] at h; cases h
theorem chk_all {n : Lin} (h : chkE n = none) : n.tx.all inS = true := by
  unfold chkE at h
  split at h
  · cases h
  · split at h
    · cases h
    · rename_i h2
      rw [← fstNot_eq]
      exact decide_eq_true (by have := fstNot_le inS n.tx; omega)
theorem all_getD {p : UInt8 → Bool} {l : List UInt8} (h : l.all p = true) {j : Nat} (hj : j < l.length) : p (l.getD j 0) = true := by
  rw [getD_at hj]; exact List.all_eq_true.1 h _ (List.getElem_mem hj)
theorem getD_left {a b : List UInt8} {j : Nat} (h : j < a.length) : (a ++ b).getD j 0 = a.getD j 0 := by
  rw [getD_at (by rw [List.length_append]; omega), getD_at h, List.getElem_append_left h]
theorem getD_right {a b : List UInt8} {j : Nat} (h : a.length ≤ j) : (a ++ b).getD j 0 = b.getD (j - a.length) 0 := by
  rw [List.getD_eq_getElem?_getD, List.getElem?_append_right h, List.getD_eq_getElem?_getD]
theorem nlB_out {l : List UInt8} (h : nlB l = false) {j : Nat} (hj : j < l.length) : badAt l j = false := by
  cases hb : badAt l j with
  | false => rfl
  | true => rw [nlB_yes hj hb] at h; cases h
theorem nlB_set {l : List UInt8} (h : l.all inS = true) : nlB l = false := nlB_no (fun j hj => by
  have := not_ten (all_getD h hj)
  unfold badAt
  rw [beq_eq_false_iff_ne.2 this]; rfl)
theorem nlB_more {t tx : List UInt8} (h : nlB t = false) (ha : tx.all inS = true) (h0 : 0 < tx.length) (h58 : tx.getD 0 0 ≠ 58) (h45 : tx.getD 0 0 ≠ 45) : nlB (t ++ 10 :: tx) = false := nlB_no (fun j hj => by
  have hl : (t ++ 10 :: tx).length = t.length + 1 + tx.length := by simp; omega
  rw [hl] at hj
  unfold badAt
  rcases Nat.lt_trichotomy j t.length with hlt | heq | hgt
  · rw [getD_left hlt]
    have hb := nlB_out h hlt
    unfold badAt at hb
    by_cases hten : t.getD j 0 = 10
    · rw [hten] at hb ⊢
      simp only [beq_self_eq_true, Bool.true_and] at hb ⊢
      have hj1 : j + 1 ≠ t.length := fun e => by rw [decide_eq_true e] at hb; simp at hb
      rw [getD_left (by omega), decide_eq_false (by omega)]
      rw [decide_eq_false hj1] at hb
      exact hb
    · rw [beq_eq_false_iff_ne.2 hten]; rfl
  · subst heq
    rw [getD_right (Nat.le_refl _), Nat.sub_self, getD_right (by omega), show t.length + 1 - t.length = 1 by omega]
    have e1 : (10 :: tx).getD 1 0 = tx.getD 0 0 := rfl
    rw [e1, decide_eq_false (by omega), beq_eq_false_iff_ne.2 (not_ten (all_getD ha h0)), beq_eq_false_iff_ne.2 h58, beq_eq_false_iff_ne.2 h45]
    simp
  · rw [getD_right (by omega)]
    obtain ⟨k, hk⟩ : ∃ k, j - t.length = k + 1 := ⟨j - t.length - 1, by omega⟩
    have e1 : (10 :: tx).getD (k + 1) 0 = tx.getD k 0 := rfl
    rw [hk, e1, beq_eq_false_iff_ne.2 (not_ten (all_getD ha (by omega)))]
    rfl)
theorem txB_more {t tx : List UInt8} (h : txB t = true) (ha : tx.all inS = true) : txB (t ++ 10 :: tx) = true := by
  unfold txB at h ⊢
  rw [List.all_append, h, List.all_cons]
  have : (tx.all fun c => inS c || c == 10) = true := List.all_eq_true.2 (fun c hc => by rw [List.all_eq_true.1 ha c hc]; rfl)
  rw [this]; rfl
theorem txB_set {t : List UInt8} (ha : t.all inS = true) : txB t = true := List.all_eq_true.2 (fun c hc => by rw [List.all_eq_true.1 ha c hc]; rfl)
theorem hdB_more {t tx : List UInt8} (h : hdB t = false) : hdB (t ++ 10 :: tx) = false := by
  unfold hdB at h ⊢
  cases t with
  | nil => rfl
  | cons a r => exact h
theorem errL_app (x y : List Tr) (d : Int) : errL (x ++ y) d = if errL x d ≠ 0 then errL x d else errL y d := by
  induction x with
  | nil => simp [errL]
  | cons a r ih =>
    rw [List.cons_append, errL, ih]
    rw [errL]
    by_cases h1 : errI a d ≠ 0
    · simp only [if_pos h1]
    · simp only [if_neg h1]
theorem errL_app0 {x y : List Tr} {d : Int} (h1 : errL x d = 0) (h2 : errL y d = 0) : errL (x ++ y) d = 0 := by rw [errL_app, h1, h2]; simp
theorem errL_left {x y : List Tr} {d : Int} (h : errL (x ++ y) d = 0) : errL x d = 0 ∧ errL y d = 0 := by
  rw [errL_app] at h
  by_cases h1 : errL x d = 0
  · rw [h1] at h; simp at h; exact ⟨h1, h⟩
  · rw [if_pos h1] at h; exact absurd h h1
theorem errL_one (a : Tr) (d : Int) : errL [a] d = errI a d := by
  rw [errL, errL]; split
  · rfl
  · rename_i h; exact (Classical.not_not.1 h).symm
theorem txtL_one (a : Tr) : txtL [a] = txtI a := by rw [txtL, txtL, List.append_nil]
theorem fE_zero {tg qe ql ne ke tx nl hd : Bool} (h : fE tg qe ql ne ke tx nl hd = 0) : tg = true ∧ (qe = true ∨ ql = true) ∧ ne = true ∧ ke = true ∧ tx = true ∧ nl = false ∧ (qe = true → hd = false) := by
  unfold fE at h
  cases tg <;> cases qe <;> cases ql <;> cases ne <;> cases ke <;> cases tx <;> cases nl <;> cases hd <;> simp at h ⊢
theorem fE_make {tg qe ql ne ke tx nl hd : Bool} (h1 : tg = true) (h2 : qe = true ∨ ql = true) (h3 : ne = true) (h4 : ke = true) (h5 : tx = true) (h6 : nl = false) (h7 : qe = true → hd = false) : fE tg qe ql ne ke tx nl hd = 0 := by
  unfold fE
  subst h1; subst h3; subst h4; subst h5; subst h6
  cases qe <;> cases ql <;> cases hd <;> simp at h2 h7 ⊢
theorem err_more {a : Tr} {d : Int} {tx : List UInt8} (h : errI a d = 0) (hf : a.itm.tag.isEmpty = false) (ha : tx.all inS = true) (h0 : 0 < tx.length) (h58 : tx.getD 0 0 ≠ 58) (h45 : tx.getD 0 0 ≠ 45) : errI (a.withText (a.itm.text ++ 10 :: tx)) d = 0 := by
  have e := errI_eq a d
  rw [h] at e
  have hi : itemE a.itm a.kids.length d = 0 := by
    by_cases hz : itemE a.itm a.kids.length d = 0
    · exact hz
    · rw [if_pos hz] at e; exact absurd e.symm hz
  rw [itemE_field hf] at hi
  obtain ⟨g1, g2, g3, g4, g5, g6, g7⟩ := fE_zero hi
  have hn : fieldE (a.withText (a.itm.text ++ 10 :: tx)).itm (a.withText (a.itm.text ++ 10 :: tx)).kids.length = 0 := fE_make g1 g2 g3 g4 (txB_more g5 ha) (nlB_more g6 ha h0 h58 h45) (fun hq => hdB_more (g7 hq))
  have hf2 : (a.withText (a.itm.text ++ 10 :: tx)).itm.tag.isEmpty = false := hf
  rw [errI_eq, itemE_field hf2, hn, hf2]; simp
theorem txt_more {a : Tr} {tx : List UInt8} (hf : a.itm.tag.isEmpty = false) : txtI (a.withText (a.itm.text ++ 10 :: tx)) = txtI a ++ (tx ++ [10]) := by
  have hf2 : (a.withText (a.itm.text ++ 10 :: tx)).itm.tag.isEmpty = false := hf
  rw [txtI_eq, txtI_eq, hf, hf2]
  simp only [Bool.not_false, if_true]
  show fT { a.itm with text := a.itm.text ++ 10 :: tx } = _
  unfold fT
  simp
theorem tagB_ne {t : List UInt8} (h : tagB t = true) : t.isEmpty = false := by
  cases t with
  | nil => rw [tagB_len (by simp) (by simp)] at h; cases h
  | cons a r => rfl
theorem err_field {tag rest : List UInt8} {len : Nat} {d : Int} (h : fldO tag rest len = none) (ha : rest.all inS = true) : errI (.mk (fldI tag rest) []) d = 0 ∧ txtI (.mk (fldI tag rest) []) = [58] ++ tag ++ [58] ++ rest ++ [10] := by
  unfold fldO at h
  have htg : tagB tag = true := by
    cases hq : tagB tag with
    | true => rfl
    | false => rw [hq] at h; simp at h
  rw [htg] at h
  simp only [Bool.not_true, Bool.false_eq_true, if_false] at h
  have hne := tagB_ne htg
  cases hh : hdB rest with
  | false =>
    have e : fldI tag rest = ⟨tag, [], rest, []⟩ := by unfold fldI; rw [hh]; rfl
    rw [e]
    constructor
    · rw [errI_eq]
      have hz : itemE (Tr.mk ⟨tag, [], rest, []⟩ []).itm (Tr.mk ⟨tag, [], rest, []⟩ []).kids.length d = 0 := by
        rw [itemE_field hne]
        exact fE_make htg (.inl rfl) rfl rfl (txB_set ha) (nlB_set ha) (fun _ => hh)
      rw [hz]
      simp [Tr.itm, hne]
    · rw [txtI_eq]
      simp only [Tr.itm, hne, Bool.not_false, if_true]
      unfold fT; simp
  | true =>
    rw [hh] at h
    simp only [Bool.not_true, Bool.false_eq_true, if_false] at h
    have e : fldI tag rest = ⟨tag, (Lib.cut (rest.drop 1) [47, 47]).1, (Lib.cut (rest.drop 1) [47, 47]).2.1, []⟩ := by unfold fldI; rw [hh]; rfl
    rw [e]
    have hc : (Lib.cut (rest.drop 1) [47, 47]).2.2 = true := by
      cases hq : (Lib.cut (rest.drop 1) [47, 47]).2.2 with
      | true => rfl
      | false => rw [hq] at h; simp at h
    have hql : qualB (Lib.cut (rest.drop 1) [47, 47]).1 = true := by
      cases hq : qualB (Lib.cut (rest.drop 1) [47, 47]).1 with
      | true => rfl
      | false => rw [hc, hq] at h; simp at h
    have hr : rest = 58 :: rest.drop 1 := by
      cases rest with
      | nil => simp [hdB] at hh
      | cons a r => unfold hdB at hh; simp at hh; rw [hh]; rfl
    have hcut := cut_yes hc
    have ha2 : (Lib.cut (rest.drop 1) [47, 47]).2.1.all inS = true := by
      rw [hr, hcut] at ha
      simp only [List.all_cons, List.all_append, Bool.and_eq_true] at ha
      exact ha.2.2
    generalize (Lib.cut (rest.drop 1) [47, 47]).1 = q at *
    generalize (Lib.cut (rest.drop 1) [47, 47]).2.1 = t at *
    have hqe : q.isEmpty = false := by
      cases q with
      | nil => simp [qualB] at hql
      | cons a r => rfl
    constructor
    · rw [errI_eq]
      have hz : itemE (Tr.mk ⟨tag, q, t, []⟩ []).itm (Tr.mk ⟨tag, q, t, []⟩ []).kids.length d = 0 := by
        rw [itemE_field hne]
        exact fE_make htg (.inr hql) rfl rfl (txB_set ha2) (nlB_set ha2) (fun hq => by rw [show (Tr.mk ⟨tag, q, t, []⟩ []).itm.qual.isEmpty = q.isEmpty from rfl, hqe] at hq; cases hq)
      rw [hz]
      simp [Tr.itm, hne]
    · rw [txtI_eq]
      simp only [Tr.itm, hne, Bool.not_false, if_true]
      unfold fT
      simp only [hqe, Bool.false_eq_true, if_false]
      rw [hr, hcut]; simp
theorem err_block {nm : List UInt8} {k : List Tr} {d : Nat} (hd : d < 8) (hn : nameB nm = true) (hk : errL k ((d : Int) + 1) = 0) : errI (.mk ⟨[], [], [], nm⟩ k) d = 0 := by
  have hne : nm.isEmpty = false := by
    cases nm with
    | nil => simp [nameB] at hn
    | cons a r => rfl
  rw [errI_eq]
  have hz : itemE (Tr.mk ⟨[], [], [], nm⟩ k).itm (Tr.mk ⟨[], [], [], nm⟩ k).kids.length d = 0 := by
    rw [itemE_block rfl hne]
    unfold blockE bE
    rw [decide_eq_false (by omega)]
    simp [Tr.itm, hn]
  rw [hz]
  simp [Tr.itm, Tr.kids, hk]
end Go.Proofs.Ytklhbhhkooddoaa
