/-
  My own text: the text of a message is read as that message.
-/
import Derived.Test.YtbnjahldbnanbaaDoorQH
namespace Go.Proofs.YtbnjahldbnanbaaDoor
open Go.RowKit

theorem rd_fuel (T : List UInt8) : ∀ (F F' d : Nat) (nm : List UInt8) (l : List Tr) (n b : Nat), b ≤ T.length → T.length - b < F → T.length - b < F' → rd T F d nm l n b = rd T F' d nm l n b := by
  intro F
  induction F with
  | zero => intro F' d nm l n b _ h; omega
  | succ f ih =>
    intro F' d nm l n b hb h1 h2
    obtain ⟨f', rfl⟩ : ∃ f', F' = f' + 1 := ⟨F' - 1, by omega⟩
    by_cases hbe : b = T.length
    · rw [rd, if_pos hbe, rd, if_pos hbe]
    · have hn := nxt_gt (T := T) (b := b) (by omega)
      cases hck : chkE ⟨n, b, ownL T b, endL T b⟩ with
      | some na =>
        obtain ⟨no, at_⟩ := na
        rw [rd_line hbe hck, rd_line hbe hck]
      | none =>
        rw [rd_stp hbe hck, rd_stp hbe hck]
        generalize ownL T b = tx
        generalize nxtB T b = nb at *
        have go : ∀ d nm l n, rd T f d nm l n nb = rd T f' d nm l n nb := fun d nm l n => ih f' d nm l n nb hn.2 (by omega) (by omega)
        have hg : ∀ d nm l n, Good T nb (rd T f d nm l n nb) := fun d nm l n => rd_good T f d nm l n nb hn.2 (by omega)
        unfold stp
        rw [← go (d + 1)]
        have h3 := hg (d + 1) (Lib.cut (tx.drop 1) [58]).2.1 [] (n + 1)
        cases hrd : rd T f (d + 1) (Lib.cut (tx.drop 1) [58]).2.1 [] (n + 1) nb with
        | bad x y z => simp only [go]
        | ok k n1 b1 =>
          rw [hrd] at h3
          have e1 := ih f' d nm (l ++ [.mk ⟨[], [], [], (Lib.cut (tx.drop 1) [58]).2.1⟩ k]) n1 b1 h3.2 (by have := h3.1; omega) (by have := h3.1; omega)
          simp only [go, e1]
/-- A reading with as much fuel as it needs. -/
def rdc (T : List UInt8) (d : Nat) (nm : List UInt8) (l : List Tr) (n b : Nat) : Res := rd T (T.length - b + 1) d nm l n b
theorem rdc_of {T : List UInt8} {F d : Nat} {nm : List UInt8} {l : List Tr} {n b : Nat} (hb : b ≤ T.length) (h : T.length - b < F) : rd T F d nm l n b = rdc T d nm l n b := rd_fuel T F _ d nm l n b hb h (by omega)
theorem cut_one {x r : List UInt8} {c : UInt8} (h : c ∉ x) : Lib.cut (x ++ c :: r) [c] = (x, r, true) := by
  have hi : Lib.index (x ++ c :: r) [c] = (x.length : Int) := by
    rcases Lib.index_spec (x ++ c :: r) [c] with ⟨_, h2⟩ | ⟨i, h1, h2, h3, h4⟩
    · have := h2 x.length (by simp)
      unfold Lib.occAt at this
      rw [List.drop_left] at this
      simp at this
    · rw [h1]
      congr 1
      rcases Nat.lt_trichotomy i x.length with hlt | heq | hgt
      · exfalso
        unfold Lib.occAt at h3
        rw [List.drop_append_of_le_length (by omega), List.drop_eq_getElem_cons hlt] at h3
        obtain ⟨z, hz⟩ := List.isPrefixOf_iff_prefix.1 h3
        rw [List.cons_append] at hz
        have := (List.cons.inj hz).1
        exact h (this ▸ List.getElem_mem hlt)
      · exact heq
      · exfalso
        have := h4 x.length hgt
        unfold Lib.occAt at this
        rw [List.drop_left] at this
        simp at this
  unfold Lib.cut
  rw [hi, if_pos (by omega)]
  simp
theorem cut_two {x r : List UInt8} {c : UInt8} (h : c ∉ x) : Lib.cut (x ++ c :: c :: r) [c, c] = (x, r, true) := by
  have hi : Lib.index (x ++ c :: c :: r) [c, c] = (x.length : Int) := by
    rcases Lib.index_spec (x ++ c :: c :: r) [c, c] with ⟨_, h2⟩ | ⟨i, h1, h2, h3, h4⟩
    · have := h2 x.length (by simp)
      unfold Lib.occAt at this
      rw [List.drop_left] at this
      simp at this
    · rw [h1]
      congr 1
      rcases Nat.lt_trichotomy i x.length with hlt | heq | hgt
      · exfalso
        unfold Lib.occAt at h3
        rw [List.drop_append_of_le_length (by omega), List.drop_eq_getElem_cons hlt] at h3
        obtain ⟨z, hz⟩ := List.isPrefixOf_iff_prefix.1 h3
        rw [List.cons_append] at hz
        have := (List.cons.inj hz).1
        exact h (this ▸ List.getElem_mem hlt)
      · exact heq
      · exfalso
        have := h4 x.length hgt
        unfold Lib.occAt at this
        rw [List.drop_left] at this
        simp at this
  unfold Lib.cut
  rw [hi, if_pos (by omega)]
  simp
theorem own_of {T x r : List UInt8} {b : Nat} (h : T.drop b = x ++ 10 :: r) (hx : (10 : UInt8) ∉ x) : ownL T b = x ∧ endL T b = true ∧ nxtB T b = b + x.length + 1 ∧ T.drop (b + x.length + 1) = r ∧ b + x.length + 1 ≤ T.length ∧ b ≠ T.length := by
  have hl := congrArg List.length h
  simp at hl
  have h1 : ownL T b = x := by unfold ownL; rw [h, cut_one hx]
  have h2 : endL T b = true := by unfold endL; rw [h, cut_one hx]
  refine ⟨h1, h2, by unfold nxtB; rw [h1]; omega, ?_, by omega, by omega⟩
  rw [Nat.add_assoc, ← List.drop_drop, h]
  rw [show x ++ 10 :: r = (x ++ [10]) ++ r by simp, List.drop_left' (by simp)]
theorem chk_good {n b : Nat} {x : List UInt8} (ha : x.all inS = true) (h0 : x ≠ []) : chkE ⟨n, b, x, true⟩ = none := by
  unfold chkE
  have h1 : fstNot inS x = x.length := of_decide_eq_true (by rw [fstNot_eq]; exact ha)
  have h2 : x.isEmpty = false := by cases x with
    | nil => exact absurd rfl h0
    | cons a r => rfl
  simp [h1, h2]
theorem no_ten {x : List UInt8} (ha : x.all inS = true) : (10 : UInt8) ∉ x := fun h => not_ten (List.all_eq_true.1 ha _ h) rfl
/-- One line of a text that check lets through. -/
theorem rdc_line {T x r : List UInt8} {d : Nat} {nm : List UInt8} {l : List Tr} {n b : Nat} (h : T.drop b = x ++ 10 :: r) (ha : x.all inS = true) (h0 : x ≠ []) : rdc T d nm l n b = stp T (T.length - b) d nm l n (b + x.length + 1) x := by
  obtain ⟨h1, h2, h3, _, _, h6⟩ := own_of h (no_ten ha)
  unfold rdc
  rw [rd_stp h6 (by rw [h1, h2]; exact chk_good ha h0), h1, h3]
theorem rdc_more {T x r : List UInt8} {d : Nat} {nm : List UInt8} {l : List Tr} {a : Tr} {n b : Nat} (h : T.drop b = x ++ 10 :: r) (ha : x.all inS = true) (h0 : x ≠ []) (h58 : x.getD 0 0 ≠ 58) (h45 : x.getD 0 0 ≠ 45) (hf : a.itm.tag.isEmpty = false) :
    rdc T d nm (l ++ [a]) n b = rdc T d nm (l ++ [a.withText (a.itm.text ++ 10 :: x)]) (n + 1) (b + x.length + 1) := by
  obtain ⟨_, _, _, _, h5, _⟩ := own_of h (no_ten ha)
  rw [rdc_line h ha h0, stp_more h58 h45 hf, rdc_of (by omega) (by omega)]
theorem dg_ne {c : UInt8} (h : isDg c = true) : c ≠ 58 := fun e => by rw [e] at h; revert h; decide
theorem cp_ne {c : UInt8} (h : isCp c = true) : c ≠ 58 := fun e => by rw [e] at h; revert h; decide
theorem tag_colon {t : List UInt8} (h : tagB t = true) : (58 : UInt8) ∉ t ∧ t ≠ r16 ∧ t ≠ s16 := by
  have hl : t.length = 2 ∨ t.length = 3 := by
    by_cases h2 : t.length = 2
    · exact .inl h2
    · by_cases h3 : t.length = 3
      · exact .inr h3
      · rw [tagB_len h2 h3] at h; cases h
  have hrs : t ≠ r16 ∧ t ≠ s16 := by
    unfold tagB at h
    simp only [Bool.and_eq_true, Bool.not_eq_true', beq_eq_false_iff_ne] at h
    exact ⟨h.1.2, h.2⟩
  refine ⟨?_, hrs⟩
  rcases hl with hl | hl
  · rw [tagB_two hl] at h
    match t, hl with
    | [a, b], _ =>
      simp at h
      intro hm
      simp at hm
      rcases hm with e | e
      · exact dg_ne h.1 e.symm
      · exact dg_ne h.2 e.symm
  · rw [tagB_three hl] at h
    match t, hl with
    | [a, b, c], _ =>
      simp at h
      intro hm
      simp at hm
      rcases hm with e | e | e
      · exact dg_ne h.1.1.1.1 e.symm
      · exact dg_ne h.1.1.1.2 e.symm
      · exact cp_ne h.1.1.2 e.symm
theorem split_ten : ∀ t : List UInt8, (10 : UInt8) ∉ t ∨ ∃ x y, t = x ++ 10 :: y ∧ (10 : UInt8) ∉ x
  | [] => .inl (by simp)
  | a :: r => by
    by_cases ha : a = 10
    · exact .inr ⟨[], r, by rw [ha]; rfl, by simp⟩
    · rcases split_ten r with h | ⟨x, y, h1, h2⟩
      · exact .inl (by simp [h]; exact fun e => ha e.symm)
      · exact .inr ⟨a :: x, y, by rw [h1]; rfl, by simp [h2]; exact fun e => ha e.symm⟩
theorem set_of {x : List UInt8} (h : txB x = true) (h2 : (10 : UInt8) ∉ x) : x.all inS = true := List.all_eq_true.2 (fun c hc => by
  have := List.all_eq_true.1 h c hc
  rw [Bool.or_eq_true] at this
  rcases this with h3 | h3
  · exact h3
  · exact absurd (beq_iff_eq.1 h3 ▸ hc) h2)
theorem nlB_suf {a b : List UInt8} (h : nlB (a ++ b) = false) : nlB b = false := nlB_no (fun j hj => by
  have hb := nlB_out h (j := a.length + j) (by rw [List.length_append]; omega)
  unfold badAt at hb ⊢
  rw [getD_right (by omega), show a.length + j - a.length = j by omega, getD_right (by omega), show a.length + j + 1 - a.length = j + 1 by omega] at hb
  have e : decide (a.length + j + 1 = (a ++ b).length) = decide (j + 1 = b.length) := by
    rw [List.length_append]; congr 1; exact propext ⟨fun h => by omega, fun h => by omega⟩
  rw [e] at hb; exact hb)
theorem nl_head {t : List UInt8} (h : nlB (10 :: t) = false) : t ≠ [] ∧ t.getD 0 0 ≠ 10 ∧ t.getD 0 0 ≠ 58 ∧ t.getD 0 0 ≠ 45 := by
  have hb := nlB_out h (j := 0) (by simp)
  unfold badAt at hb
  cases t with
  | nil => simp at hb
  | cons a r =>
    simp at hb
    exact ⟨by simp, by simpa using hb.1.1, by simpa using hb.1.2, by simpa using hb.2⟩
theorem withText_text (a : Tr) (t : List UInt8) : (a.withText t).itm.text = t := rfl
theorem withText_two (a : Tr) (t u : List UInt8) : (a.withText t).withText u = a.withText u := rfl
theorem withText_self (a : Tr) : a.withText a.itm.text = a := by cases a; rfl
/-- The further lines of a field. -/
theorem rdc_lines (T : List UInt8) (d : Nat) (nm : List UInt8) (l : List Tr) (a : Tr) (hf : a.itm.tag.isEmpty = false) : ∀ (D : Nat) (t1 t2 r : List UInt8) (n b : Nat), t2.length ≤ D → nlB (10 :: t2) = false → txB t2 = true → T.drop b = t2 ++ 10 :: r → b ≤ T.length →
    ∃ n', rdc T d nm (l ++ [a.withText t1]) n b = rdc T d nm (l ++ [a.withText (t1 ++ 10 :: t2)]) n' (b + t2.length + 1) := by
  intro D
  induction D with
  | zero =>
    intro t1 t2 r n b hD h1 _ _ _
    have := (nl_head h1).1
    exact absurd (List.eq_nil_of_length_eq_zero (by omega)) this
  | succ D ih =>
    intro t1 t2 r n b hD h1 h2 hT hb
    obtain ⟨g1, g2, g3, g4⟩ := nl_head h1
    rcases split_ten t2 with hx | ⟨x, y, rfl, hx⟩
    · have hs := rdc_more (a := a.withText t1) (d := d) (nm := nm) (l := l) (n := n) hT (set_of h2 hx) g1 g3 g4 hf
      exact ⟨n + 1, hs⟩
    · have hxe : x ≠ [] := fun e => by rw [e] at g2; exact g2 rfl
      have hx0 : (x ++ 10 :: y).getD 0 0 = x.getD 0 0 := getD_left (List.length_pos_iff.2 hxe)
      rw [hx0] at g3 g4
      have htx : txB x = true ∧ txB y = true := by
        unfold txB at h2 ⊢
        rw [List.all_append, List.all_cons] at h2
        simp only [Bool.and_eq_true] at h2
        exact ⟨h2.1, h2.2.2⟩
      have hT1 : T.drop b = x ++ 10 :: (y ++ 10 :: r) := by rw [hT]; simp
      have hs := rdc_more (a := a.withText t1) (d := d) (nm := nm) (l := l) (n := n) hT1 (set_of htx.1 hx) hxe g3 g4 hf
      obtain ⟨_, _, _, h4, h5, _⟩ := own_of hT1 hx
      have hnl : nlB (10 :: y) = false := nlB_suf (a := 10 :: x) (by simpa using h1)
      obtain ⟨n', e⟩ := ih (t1 ++ 10 :: x) y r (n + 1) (b + x.length + 1) (by simp at hD; omega) hnl htx.2 h4 h5
      refine ⟨n', ?_⟩
      rw [hs, withText_text, withText_two, e]
      congr 1
      · simp
      · simp; omega
theorem fld_back {tag q t : List UInt8} (len : Nat) (htg : tagB tag = true) (hq : q = [] ∨ qualB q = true) (hh : q = [] → hdB t = false) :
    fldO tag ((if q.isEmpty then [] else [58] ++ q ++ [47, 47]) ++ t) len = none ∧ fldI tag ((if q.isEmpty then [] else [58] ++ q ++ [47, 47]) ++ t) = ⟨tag, q, t, []⟩ := by
  by_cases hqe : q = []
  · subst hqe
    have h := hh rfl
    simp only [List.isEmpty_nil, if_true, List.nil_append]
    unfold fldO fldI
    rw [htg, h]; simp
  · have hql : qualB q = true := hq.resolve_left hqe
    have hqf : q.isEmpty = false := by cases q with
      | nil => exact absurd rfl hqe
      | cons a r => rfl
    rw [hqf]
    simp only [Bool.false_eq_true, if_false]
    have hd : hdB ([58] ++ q ++ [47, 47] ++ t) = true := rfl
    have hdr : ([58] ++ q ++ [47, 47] ++ t).drop 1 = q ++ 47 :: 47 :: t := by simp
    have hc : Lib.cut (q ++ 47 :: 47 :: t) [47, 47] = (q, t, true) := cut_two (fun hm => by
      unfold qualB at hql
      rw [Bool.and_eq_true] at hql
      have := List.all_eq_true.1 hql.2 _ hm
      revert this; decide)
    unfold fldO fldI
    rw [htg, hd, hdr, hc]
    simp [hql]
end Go.Proofs.YtbnjahldbnanbaaDoor
