/-
  My own text: QX, QY in one.
-/
import Derived.Test.YtpkgaidnpooahaaGreatDoorQH
namespace Go.Proofs.YtpkgaidnpooahaaGreatDoor
open Go.RowKit

theorem rd_fuel (T : List UInt8) : ∀ (F F' d : Nat) (nm : List UInt8) (l : List Tr) (n b : Nat), b ≤ T.length → T.length - b < F → T.length - b < F' → rd T F d nm l n b = rd T F' d nm l n b := by
  intro F
  induction F with
  | zero => intro F' d nm l n b _ h; omega
  | succ f ih =>
    intro F' d nm l n b hb h1 h2
    obtain ⟨f', rfl⟩ : ∃ f', F' = f' + 1 := ⟨F' - 1, by omega⟩
    by_cases hbe : b = T.length
    · rw [rd, if_pos hbe, rd, if_pos hbe]
    · have hn := nxt_gt (T := T) (b := b) (by omega)
      cases hck : chkE ⟨n, b, ownL T b, endL T b⟩ with
      | some na =>
        obtain ⟨no, at_⟩ := na
        rw [rd_line hbe hck, rd_line hbe hck]
      | none =>
        rw [rd_stp hbe hck, rd_stp hbe hck]
        generalize ownL T b = tx
        generalize nxtB T b = nb at *
        have go : ∀ d nm l n, rd T f d nm l n nb = rd T f' d nm l n nb := fun d nm l n => ih f' d nm l n nb hn.2 (by omega) (by omega)
        have hg : ∀ d nm l n, Good T nb (rd T f d nm l n nb) := fun d nm l n => rd_good T f d nm l n nb hn.2 (by omega)
        unfold stp
        rw [← go (d + 1)]
        have h3 := hg (d + 1) (Lib.cut (tx.drop 1) [58]).2.1 [] (n + 1)
        cases hrd : rd T f (d + 1) (Lib.cut (tx.drop 1) [58]).2.1 [] (n + 1) nb with
        | bad x y z => simp only [go]
        | ok k n1 b1 =>
          rw [hrd] at h3
          have e1 := ih f' d nm (l ++ [.mk ⟨[], [], [], (Lib.cut (tx.drop 1) [58]).2.1⟩ k]) n1 b1 h3.2 (by have := h3.1; omega) (by have := h3.1; omega)
          simp only [go, e1]
/-- A reading with as much fuel as it needs. -/
def rdc (T : List UInt8) (d : Nat) (nm : List UInt8) (l : List Tr) (n b : Nat) : Res := rd T (T.length - b + 1) d nm l n b
theorem rdc_of {T : List UInt8} {F d : Nat} {nm : List UInt8} {l : List Tr} {n b : Nat} (hb : b ≤ T.length) (h : T.length - b < F) : rd T F d nm l n b = rdc T d nm l n b := rd_fuel T F _ d nm l n b hb h (by omega)
theorem cut_one {x r : List UInt8} {c : UInt8} (h : c ∉ x) : Lib.cut (x ++ c :: r) [c] = (x, r, true) := by
  have hi : Lib.index (x ++ c :: r) [c] = (x.length : Int) := by
    rcases Lib.index_spec (x ++ c :: r) [c] with ⟨_, h2⟩ | ⟨i, h1, h2, h3, h4⟩
    · have := h2 x.length (by simp)
      unfold Lib.occAt at this
      rw [List.drop_left] at this
      simp at this
    · rw [h1]
      congr 1
      rcases Nat.lt_trichotomy i x.length with hlt | heq | hgt
      · exfalso
        unfold Lib.occAt at h3
        rw [List.drop_append_of_le_length (by omega), List.drop_eq_getElem_cons hlt] at h3
        obtain ⟨z, hz⟩ := List.isPrefixOf_iff_prefix.1 h3
        rw [List.cons_append] at hz
        have := (List.cons.inj hz).1
        exact h (this ▸ List.getElem_mem hlt)
      · exact heq
      · exfalso
        have := h4 x.length hgt
        unfold Lib.occAt at this
        rw [List.drop_left] at this
        simp at this
  unfold Lib.cut
  rw [hi, if_pos (by omega)]
  simp
theorem cut_two {x r : List UInt8} {c : UInt8} (h : c ∉ x) : Lib.cut (x ++ c :: c :: r) [c, c] = (x, r, true) := by
  have hi : Lib.index (x ++ c :: c :: r) [c, c] = (x.length : Int) := by
    rcases Lib.index_spec (x ++ c :: c :: r) [c, c] with ⟨_, h2⟩ | ⟨i, h1, h2, h3, h4⟩
    · have := h2 x.length (by simp)
      unfold Lib.occAt at this
      rw [List.drop_left] at this
      simp at this
    · rw [h1]
      congr 1
      rcases Nat.lt_trichotomy i x.length with hlt | heq | hgt
      · exfalso
        unfold Lib.occAt at h3
        rw [List.drop_append_of_le_length (by omega), List.drop_eq_getElem_cons hlt] at h3
        obtain ⟨z, hz⟩ := List.isPrefixOf_iff_prefix.1 h3
        rw [List.cons_append] at hz
        have := (List.cons.inj hz).1
        exact h (this ▸ List.getElem_mem hlt)
      · exact heq
      · exfalso
        have := h4 x.length hgt
        unfold Lib.occAt at this
        rw [List.drop_left] at this
        simp at this
  unfold Lib.cut
  rw [hi, if_pos (by omega)]
  simp
theorem own_of {T x r : List UInt8} {b : Nat} (h : T.drop b = x ++ 10 :: r) (hx : (10 : UInt8) ∉ x) : ownL T b = x ∧ endL T b = true ∧ nxtB T b = b + x.length + 1 ∧ T.drop (b + x.length + 1) = r ∧ b + x.length + 1 ≤ T.length ∧ b ≠ T.length := by
  have hl := congrArg List.length h
  simp at hl
  have h1 : ownL T b = x := by unfold ownL; rw [h, cut_one hx]
  have h2 : endL T b = true := by unfold endL; rw [h, cut_one hx]
  refine ⟨h1, h2, by unfold nxtB; rw [h1]; omega, ?_, by omega, by omega⟩
  rw [Nat.add_assoc, ← List.drop_drop, h]
  rw [show x ++ 10 :: r = (x ++ [10]) ++ r by simp, List.drop_left' (by simp)]
theorem chk_good {n b : Nat} {x : List UInt8} (ha : x.all inS = true) (h0 : x ≠ []) : chkE ⟨n, b, x, true⟩ = none := by
  unfold chkE
  have h1 : fstNot inS x = x.length := of_decide_eq_true (by rw [fstNot_eq]; exact ha)
  have h2 : x.isEmpty = false := by cases x with
    | nil => exact absurd rfl h0
    | cons a r => rfl
  simp [h1, h2]
theorem no_ten {x : List UInt8} (ha : x.all inS = true) : (10 : UInt8) ∉ x := fun h => not_ten (List.all_eq_true.1 ha _ h) rfl
/-- One line of a text that check lets through. -/
theorem rdc_line {T x r : List UInt8} {d : Nat} {nm : List UInt8} {l : List Tr} {n b : Nat} (h : T.drop b = x ++ 10 :: r) (ha : x.all inS = true) (h0 : x ≠ []) : rdc T d nm l n b = stp T (T.length - b) d nm l n (b + x.length + 1) x := by
  obtain ⟨h1, h2, h3, _, _, h6⟩ := own_of h (no_ten ha)
  unfold rdc
  rw [rd_stp h6 (by rw [h1, h2]; exact chk_good ha h0), h1, h3]
theorem rdc_more {T x r : List UInt8} {d : Nat} {nm : List UInt8} {l : List Tr} {a : Tr} {n b : Nat} (h : T.drop b = x ++ 10 :: r) (ha : x.all inS = true) (h0 : x ≠ []) (h58 : x.getD 0 0 ≠ 58) (h45 : x.getD 0 0 ≠ 45) (hf : a.itm.tag.isEmpty = false) :
    rdc T d nm (l ++ [a]) n b = rdc T d nm (l ++ [a.withText (a.itm.text ++ 10 :: x)]) (n + 1) (b + x.length + 1) := by
  obtain ⟨_, _, _, _, h5, _⟩ := own_of h (no_ten ha)
  rw [rdc_line h ha h0, stp_more h58 h45 hf, rdc_of (by omega) (by omega)]
theorem dg_ne {c : UInt8} (h : isDg c = true) : c ≠ 58 := fun e => by rw [e] at h; revert h; decide
theorem cp_ne {c : UInt8} (h : isCp c = true) : c ≠ 58 := fun e => by rw [e] at h; revert h; decide
theorem tag_colon {t : List UInt8} (h : tagB t = true) : (58 : UInt8) ∉ t ∧ t ≠ r16 ∧ t ≠ s16 := by
  have hl : t.length = 2 ∨ t.length = 3 := by
    by_cases h2 : t.length = 2
    · exact .inl h2
    · by_cases h3 : t.length = 3
      · exact .inr h3
      · rw [tagB_len h2 h3] at h; cases h
  have hrs : t ≠ r16 ∧ t ≠ s16 := by
    unfold tagB at h
    simp only [Bool.and_eq_true, Bool.not_eq_true', beq_eq_false_iff_ne] at h
    exact ⟨h.1.2, h.2⟩
  refine ⟨?_, hrs⟩
  rcases hl with hl | hl
  · rw [tagB_two hl] at h
    match t, hl with
    | [a, b], _ =>
      simp at h
      intro hm
      simp at hm
      rcases hm with e | e
      · exact dg_ne h.1 e.symm
      · exact dg_ne h.2 e.symm
  · rw [tagB_three hl] at h
    match t, hl with
    | [a, b, c], _ =>
      simp at h
      intro hm
      simp at hm
      rcases hm with e | e | e
      · exact dg_ne h.1.1.1.1 e.symm
      · exact dg_ne h.1.1.1.2 e.symm
      · exact cp_ne h.1.1.2 e.symm
theorem split_ten : ∀ t : List UInt8, (10 : UInt8) ∉ t ∨ ∃ x y, t = x ++ 10 :: y ∧ (10 : UInt8) ∉ x
  | [] => .inl (by simp)
  | a :: r => by
    by_cases ha : a = 10
    · exact .inr ⟨[], r, by rw [ha]; rfl, by simp⟩
    · rcases split_ten r with h | ⟨x, y, h1, h2⟩
      · exact .inl (by simp [h]; exact fun e => ha e.symm)
      · exact .inr ⟨a :: x, y, by rw [h1]; rfl, by simp [h2]; exact fun e => ha e.symm⟩
theorem set_of {x : List UInt8} (h : txB x = true) (h2 : (10 : UInt8) ∉ x) : x.all inS = true := List.all_eq_true.2 (fun c hc => by
  have := List.all_eq_true.1 h c hc
  rw [Bool.or_eq_true] at this
  rcases this with h3 | h3
  · exact h3
  · exact absurd (beq_iff_eq.1 h3 ▸ hc) h2)
theorem nlB_suf {a b : List UInt8} (h : nlB (a ++ b) = false) : nlB b = false := nlB_no (fun j hj => by
  have hb := nlB_out h (j := a.length + j) (by rw [List.length_append]; omega)
  unfold badAt at hb ⊢
  rw [getD_right (by omega), show a.length + j - a.length = j by omega, getD_right (by omega), show a.length + j + 1 - a.length = j + 1 by omega] at hb
  have e : decide (a.length + j + 1 = (a ++ b).length) = decide (j + 1 = b.length) := by
    rw [List.length_append]; congr 1; exact propext ⟨fun h => by omega, fun h => by omega⟩
  rw [e] at hb; exact hb)
theorem nl_head {t : List UInt8} (h : nlB (10 :: t) = false) : t ≠ [] ∧ t.getD 0 0 ≠ 10 ∧ t.getD 0 0 ≠ 58 ∧ t.getD 0 0 ≠ 45 := by
  have hb := nlB_out h (j := 0) (by simp)
  unfold badAt at hb
  cases t with
  | nil => simp at hb
  | cons a r =>
    simp at hb
    exact ⟨by simp, by simpa using hb.1.1, by simpa using hb.1.2, by simpa using hb.2⟩
theorem withText_text (a : Tr) (t : List UInt8) : (a.withText t).itm.text = t := rfl
theorem withText_two (a : Tr) (t u : List UInt8) : (a.withText t).withText u = a.withText u := rfl
theorem withText_self (a : Tr) : a.withText a.itm.text = a := by cases a; rfl
/-- The further lines of a field. -/
theorem rdc_lines (T : List UInt8) (d : Nat) (nm : List UInt8) (l : List Tr) (a : Tr) (hf : a.itm.tag.isEmpty = false) : ∀ (D : Nat) (t1 t2 r : List UInt8) (n b : Nat), t2.length ≤ D → nlB (10 :: t2) = false → txB t2 = true → T.drop b = t2 ++ 10 :: r → b ≤ T.length →
    ∃ n', rdc T d nm (l ++ [a.withText t1]) n b = rdc T d nm (l ++ [a.withText (t1 ++ 10 :: t2)]) n' (b + t2.length + 1) := by
  intro D
  induction D with
  | zero =>
    intro t1 t2 r n b hD h1 _ _ _
    have := (nl_head h1).1
    exact absurd (List.eq_nil_of_length_eq_zero (by omega)) this
  | succ D ih =>
    intro t1 t2 r n b hD h1 h2 hT hb
    obtain ⟨g1, g2, g3, g4⟩ := nl_head h1
    rcases split_ten t2 with hx | ⟨x, y, rfl, hx⟩
    · have hs := rdc_more (a := a.withText t1) (d := d) (nm := nm) (l := l) (n := n) hT (set_of h2 hx) g1 g3 g4 hf
      exact ⟨n + 1, hs⟩
    · have hxe : x ≠ [] := fun e => by rw [e] at g2; exact g2 rfl
      have hx0 : (x ++ 10 :: y).getD 0 0 = x.getD 0 0 := getD_left (List.length_pos_iff.2 hxe)
      rw [hx0] at g3 g4
      have htx : txB x = true ∧ txB y = true := by
        unfold txB at h2 ⊢
        rw [List.all_append, List.all_cons] at h2
        simp only [Bool.and_eq_true] at h2
        exact ⟨h2.1, h2.2.2⟩
      have hT1 : T.drop b = x ++ 10 :: (y ++ 10 :: r) := by rw [hT]; simp
      have hs := rdc_more (a := a.withText t1) (d := d) (nm := nm) (l := l) (n := n) hT1 (set_of htx.1 hx) hxe g3 g4 hf
      obtain ⟨_, _, _, h4, h5, _⟩ := own_of hT1 hx
      have hnl : nlB (10 :: y) = false := nlB_suf (a := 10 :: x) (by simpa using h1)
      obtain ⟨n', e⟩ := ih (t1 ++ 10 :: x) y r (n + 1) (b + x.length + 1) (by simp at hD; omega) hnl htx.2 h4 h5
      refine ⟨n', ?_⟩
      rw [hs, withText_text, withText_two, e]
      congr 1
      · simp
      · simp; omega
theorem fld_back {tag q t : List UInt8} (len : Nat) (htg : tagB tag = true) (hq : q = [] ∨ qualB q = true) (hh : q = [] → hdB t = false) :
    fldO tag ((if q.isEmpty then [] else [58] ++ q ++ [47, 47]) ++ t) len = none ∧ fldI tag ((if q.isEmpty then [] else [58] ++ q ++ [47, 47]) ++ t) = ⟨tag, q, t, []⟩ := by
  by_cases hqe : q = []
  · subst hqe
    have h := hh rfl
    simp only [List.isEmpty_nil, if_true, List.nil_append]
    unfold fldO fldI
    rw [htg, h]; simp
  · have hql : qualB q = true := hq.resolve_left hqe
    have hqf : q.isEmpty = false := by cases q with
      | nil => exact absurd rfl hqe
      | cons a r => rfl
    rw [hqf]
    simp only [Bool.false_eq_true, if_false]
    have hd : hdB ([58] ++ q ++ [47, 47] ++ t) = true := rfl
    have hdr : ([58] ++ q ++ [47, 47] ++ t).drop 1 = q ++ 47 :: 47 :: t := by simp
    have hc : Lib.cut (q ++ 47 :: 47 :: t) [47, 47] = (q, t, true) := cut_two (fun hm => by
      unfold qualB at hql
      rw [Bool.and_eq_true] at hql
      have := List.all_eq_true.1 hql.2 _ hm
      revert this; decide)
    unfold fldO fldI
    rw [htg, hd, hdr, hc]
    simp [hql]
end Go.Proofs.YtpkgaidnpooahaaGreatDoor
namespace Go.Proofs.YtpkgaidnpooahaaGreatDoor
open Go.RowKit

theorem sg_in {c : UInt8} (h : sg c = true) : inS c = true := by
  unfold sg at h; unfold inS
  rw [Bool.or_eq_true] at h
  rcases h with h | h <;> rw [h] <;> simp
theorem all_sg {l : List UInt8} (h : l.all sg = true) : l.all inS = true := List.all_eq_true.2 (fun c hc => sg_in (List.all_eq_true.1 h c hc))
theorem in58 : inS 58 = true := by decide
theorem in47 : inS 47 = true := by decide
theorem name_in {nm : List UInt8} (h : nameB nm = true) : nm.all inS = true := by
  unfold nameB at h; rw [Bool.and_eq_true] at h; exact all_sg h.2
theorem qual_in {q : List UInt8} (h : qualB q = true) : q.all inS = true := by
  unfold qualB at h; rw [Bool.and_eq_true] at h; exact all_sg h.2
theorem dg_in {c : UInt8} (h : isDg c = true) : inS c = true := by unfold inS; rw [h]; rfl
theorem cp_in {c : UInt8} (h : isCp c = true) : inS c = true := by unfold inS; rw [h]; simp
theorem tag_in {t : List UInt8} (h : tagB t = true) : t.all inS = true := by
  have hl : t.length = 2 ∨ t.length = 3 := by
    by_cases h2 : t.length = 2
    · exact .inl h2
    · by_cases h3 : t.length = 3
      · exact .inr h3
      · rw [tagB_len h2 h3] at h; cases h
  rcases hl with hl | hl
  · rw [tagB_two hl] at h
    match t, hl with
    | [a, b], _ =>
      simp at h
      simp [dg_in h.1, dg_in h.2]
  · rw [tagB_three hl] at h
    match t, hl with
    | [a, b, c], _ =>
      simp at h
      simp [dg_in h.1.1.1.1, dg_in h.1.1.1.2, cp_in h.1.1.2]
def qT (q : List UInt8) : List UInt8 := if q.isEmpty then [] else [58] ++ q ++ [47, 47]
theorem qT_in {q : List UInt8} (h : q = [] ∨ qualB q = true) : (qT q).all inS = true := by
  unfold qT
  split
  · rfl
  · rename_i hq
    have : qualB q = true := h.resolve_left (fun e => hq (by rw [e]; rfl))
    simp only [List.all_append, List.all_cons, List.all_nil, Bool.and_true, in58, in47, qual_in this]
theorem rdc_first {T r : List UInt8} {d : Nat} {nm : List UInt8} {l : List Tr} {n b : Nat} {tag q t : List UInt8} (h : T.drop b = ([58] ++ tag ++ [58] ++ (qT q ++ t)) ++ 10 :: r) (htg : tagB tag = true) (hq : q = [] ∨ qualB q = true) (hh : q = [] → hdB t = false) (ht : t.all inS = true) :
    rdc T d nm l n b = rdc T d nm (l ++ [.mk ⟨tag, q, t, []⟩ []]) (n + 1) (b + ([58] ++ tag ++ [58] ++ (qT q ++ t)).length + 1) := by
  have ha : ([58] ++ tag ++ [58] ++ (qT q ++ t)).all inS = true := by
    simp only [List.all_append, List.all_cons, List.all_nil, Bool.and_true, in58, tag_in htg, qT_in hq, ht]
  obtain ⟨_, _, _, _, h5, _⟩ := own_of h (no_ten ha)
  rw [rdc_line h ha (by simp)]
  obtain ⟨c1, c2, c3⟩ := tag_colon htg
  have hdr : ([58] ++ tag ++ [58] ++ (qT q ++ t)).drop 1 = tag ++ 58 :: (qT q ++ t) := by simp
  have hcut := cut_one (r := qT q ++ t) c1
  rw [stp_stq rfl (by rw [hdr, hcut]), hdr, hcut]
  generalize hx : ([58] ++ tag ++ [58] ++ (qT q ++ t)) = x at *
  obtain ⟨f1, f2⟩ := fld_back (tag := tag) (q := q) (t := t) x.length htg hq hh
  unfold stq
  dsimp only
  rw [if_neg c2, if_neg c3]
  have e : qT q ++ t = (if q.isEmpty then [] else [58] ++ q ++ [47, 47]) ++ t := rfl
  rw [e, f1, f2]
  dsimp only
  rw [rdc_of (by omega) (by omega)]
theorem fT_qT (i : Itm) : fT i = ([58] ++ i.tag ++ [58] ++ (qT i.qual ++ i.text)) ++ [10] := by
  unfold fT qT; simp
theorem rdc_field {T r : List UInt8} {d : Nat} {nm : List UInt8} {l : List Tr} {n b : Nat} {a : Tr} {e : Int} (h : T.drop b = fT a.itm ++ r) (he : errI a e = 0) (hf : a.itm.tag.isEmpty = false) :
    ∃ n', rdc T d nm l n b = rdc T d nm (l ++ [a]) n' (b + (fT a.itm).length) := by
  have hi : itemE a.itm a.kids.length e = 0 := by
    have e1 := errI_eq a e
    rw [he] at e1
    by_cases hz : itemE a.itm a.kids.length e = 0
    · exact hz
    · rw [if_pos hz] at e1; exact absurd e1.symm hz
  rw [itemE_field hf] at hi
  obtain ⟨g1, g2, g3, g4, g5, g6, g7⟩ := fE_zero hi
  obtain ⟨⟨tag, q, t, nme⟩, kids⟩ := a
  simp only [Tr.itm, Tr.kids] at *
  have hn0 : nme = [] := List.isEmpty_iff.1 g3
  have hk0 : kids = [] := List.length_eq_zero_iff.1 (of_decide_eq_true g4)
  subst hn0 hk0
  have hq : q = [] ∨ qualB q = true := g2.imp (fun h => List.isEmpty_iff.1 h) id
  have hh : q = [] → hdB t = false := fun e => g7 (by rw [e]; rfl)
  rw [fT_qT] at h ⊢
  simp only at h ⊢
  rcases split_ten t with hx | ⟨t0, t2, rfl, hx⟩
  · refine ⟨n + 1, ?_⟩
    rw [rdc_first (q := q) (t := t) (r := r) (by rw [h]; simp) g1 hq hh (set_of g5 hx)]
    congr 1
    simp only [List.length_append, List.length_cons, List.length_nil]; omega
  · have hT : T.drop b = ([58] ++ tag ++ [58] ++ (qT q ++ t0)) ++ 10 :: (t2 ++ 10 :: r) := by rw [h]; simp
    have htx : txB t0 = true ∧ txB t2 = true := by
      unfold txB at g5 ⊢
      rw [List.all_append, List.all_cons] at g5
      simp only [Bool.and_eq_true] at g5
      exact ⟨g5.1, g5.2.2⟩
    have hh0 : q = [] → hdB t0 = false := fun e => by
      have := hh e
      cases t0 with
      | nil => rfl
      | cons x y => exact this
    have hs0 := set_of htx.1 hx
    have s1 := rdc_first (d := d) (nm := nm) (l := l) (n := n) hT g1 hq hh0 hs0
    have ha : ([58] ++ tag ++ [58] ++ (qT q ++ t0)).all inS = true := by
      simp only [List.all_append, List.all_cons, List.all_nil, Bool.and_true, in58, tag_in g1, qT_in hq, hs0]
    obtain ⟨_, _, _, h4, h5, _⟩ := own_of hT (no_ten ha)
    have hnl : nlB (10 :: t2) = false := nlB_suf g6
    obtain ⟨n', e2⟩ := rdc_lines T d nm l (.mk ⟨tag, q, t0, []⟩ []) hf t2.length t0 t2 r (n + 1) _ (Nat.le_refl _) hnl htx.2 h4 h5
    refine ⟨n', ?_⟩
    rw [s1]
    have w1 : (Tr.mk ⟨tag, q, t0, []⟩ []).withText t0 = .mk ⟨tag, q, t0, []⟩ [] := rfl
    have w2 : (Tr.mk ⟨tag, q, t0, []⟩ []).withText (t0 ++ 10 :: t2) = .mk ⟨tag, q, t0 ++ 10 :: t2, []⟩ [] := rfl
    rw [w1, w2] at e2
    rw [e2]
    congr 1
    simp; omega
theorem bO_len (nm : List UInt8) : bO nm = ([58] ++ r16 ++ [58] ++ nm) ++ [10] := by unfold bO r16; simp
theorem bC_len (nm : List UInt8) : bC nm = ([58] ++ s16 ++ [58] ++ nm) ++ [10] := by unfold bC s16; simp
theorem r16_in : r16.all inS = true := by decide
theorem s16_in : s16.all inS = true := by decide
theorem rdc_open {T r : List UInt8} {d : Nat} {nm : List UInt8} {l : List Tr} {n b : Nat} {nam : List UInt8} (h : T.drop b = bO nam ++ r) (hn : nameB nam = true) (hd : d < 8) :
    (∀ k n' b', rdc T (d + 1) nam [] (n + 1) (b + (bO nam).length) = .ok k n' b' → rdc T d nm l n b = rdc T d nm (l ++ [.mk ⟨[], [], [], nam⟩ k]) n' b') ∧ b + (bO nam).length ≤ T.length ∧ T.drop (b + (bO nam).length) = r := by
  rw [bO_len] at h ⊢
  have ha : ([58] ++ r16 ++ [58] ++ nam).all inS = true := by
    simp only [List.all_append, List.all_cons, List.all_nil, Bool.and_true, in58, r16_in, name_in hn]
  have h' : T.drop b = ([58] ++ r16 ++ [58] ++ nam) ++ 10 :: r := by rw [h]; simp
  obtain ⟨_, _, _, h4, h5, _⟩ := own_of h' (no_ten ha)
  have hl : (([58] ++ r16 ++ [58] ++ nam) ++ [10]).length = ([58] ++ r16 ++ [58] ++ nam).length + 1 := by simp only [List.length_append, List.length_cons, List.length_nil]
  rw [hl, ← Nat.add_assoc]
  refine ⟨fun k n' b' hk => ?_, h5, h4⟩
  rw [rdc_line h' ha (by simp)]
  have hdr : ([58] ++ r16 ++ [58] ++ nam).drop 1 = r16 ++ 58 :: nam := by simp
  have hcut := cut_one (x := r16) (c := 58) (r := nam) (by decide)
  rw [stp_stq rfl (by rw [hdr, hcut]), hdr, hcut]
  generalize hx : ([58] ++ r16 ++ [58] ++ nam) = x at *
  unfold stq
  dsimp only
  rw [if_pos rfl, if_neg (by omega), hn]
  have hr := hk
  rw [← rdc_of (F := T.length - b) h5 (by omega)] at hr
  have hg := rd_good T (T.length - b) (d + 1) nam [] (n + 1) (b + x.length + 1) h5 (by omega)
  rw [hr] at hg
  simp only [Bool.not_true, Bool.false_eq_true, if_false]
  rw [hr]
  dsimp only
  rw [rdc_of hg.2 (by have := hg.1; have := hg.2; omega)]
theorem rdc_close {T r : List UInt8} {d : Nat} {nm : List UInt8} {l : List Tr} {n b : Nat} (h : T.drop b = bC nm ++ r) (hn : nameB nm = true) (hd : d ≠ 0) : rdc T d nm l n b = .ok l (n + 1) (b + (bC nm).length) := by
  rw [bC_len] at h ⊢
  have ha : ([58] ++ s16 ++ [58] ++ nm).all inS = true := by
    simp only [List.all_append, List.all_cons, List.all_nil, Bool.and_true, in58, s16_in, name_in hn]
  have h' : T.drop b = ([58] ++ s16 ++ [58] ++ nm) ++ 10 :: r := by rw [h]; simp
  have hl : (([58] ++ s16 ++ [58] ++ nm) ++ [10]).length = ([58] ++ s16 ++ [58] ++ nm).length + 1 := by simp only [List.length_append, List.length_cons, List.length_nil]
  rw [hl, ← Nat.add_assoc, rdc_line h' ha (by simp)]
  have hdr : ([58] ++ s16 ++ [58] ++ nm).drop 1 = s16 ++ 58 :: nm := by simp
  have hcut := cut_one (x := s16) (c := 58) (r := nm) (by decide)
  rw [stp_stq rfl (by rw [hdr, hcut]), hdr, hcut]
  generalize ([58] ++ s16 ++ [58] ++ nm) = x
  unfold stq
  dsimp only
  rw [if_neg (by decide), if_pos rfl, if_neg hd, if_neg (fun h => h rfl)]
theorem drop_more {T x r : List UInt8} {b : Nat} (h : T.drop b = x ++ r) (hb : b ≤ T.length) : T.drop (b + x.length) = r ∧ b + x.length ≤ T.length := by
  have hl := congrArg List.length h
  rw [List.length_drop, List.length_append] at hl
  refine ⟨?_, by omega⟩
  rw [← List.drop_drop, h, List.drop_left]
/-- The items of a message, read one behind the other. -/
theorem rdc_list (T : List UInt8) : ∀ (D : Nat) (m : List Tr) (d : Nat) (nm : List UInt8) (l : List Tr) (n b : Nat) (r : List UInt8), wts m ≤ D → errL m d = 0 → d ≤ 8 → T.drop b = txtL m ++ r → b ≤ T.length →
    ∃ n', rdc T d nm l n b = rdc T d nm (l ++ m) n' (b + (txtL m).length) := by
  intro D
  induction D using Nat.strongRecOn with
  | ind D ih =>
    intro m
    induction m with
    | nil =>
      intro d nm l n b r _ _ _ _ _
      exact ⟨n, by simp [txtL]⟩
    | cons a m ihm =>
      intro d nm l n b r hD he hd hT hb
      obtain ⟨e1, e2⟩ := errL_left (x := [a]) (y := m) he
      rw [errL_one] at e1
      rw [wts_cons] at hD
      have hw := wt_eq a
      rw [txtL] at hT ⊢
      rw [List.append_assoc] at hT
      have hone : ∃ n', rdc T d nm l n b = rdc T d nm (l ++ [a]) n' (b + (txtI a).length) := by
        cases hf : a.itm.tag.isEmpty with
        | false =>
          have ht : txtI a = fT a.itm := by rw [txtI_eq, hf]; rfl
          rw [ht] at hT ⊢
          exact rdc_field hT e1 hf
        | true =>
          have ht : txtI a = bO a.itm.name ++ txtL a.kids ++ bC a.itm.name := by rw [txtI_eq, hf]; rfl
          have eq1 := errI_eq a (d : Int)
          rw [e1, hf] at eq1
          have hi : itemE a.itm a.kids.length d = 0 := by
            by_cases hz : itemE a.itm a.kids.length d = 0
            · exact hz
            · rw [if_pos hz] at eq1; exact absurd eq1.symm hz
          rw [hi] at eq1
          simp only [ne_eq, not_true, if_false, Bool.not_true, Bool.false_eq_true] at eq1
          have hne : a.itm.name.isEmpty = false := by
            cases hn : a.itm.name.isEmpty with
            | false => rfl
            | true => rw [itemE_none hf hn] at hi; omega
          rw [itemE_block hf hne] at hi
          obtain ⟨h8, hnb, hqe, hte⟩ : (decide (8 ≤ (d : Int)) = false) ∧ nameB a.itm.name = true ∧ a.itm.qual.isEmpty = true ∧ a.itm.text.isEmpty = true := by
            unfold blockE bE at hi
            cases q1 : decide (8 ≤ (d : Int)) <;> cases q2 : nameB a.itm.name <;> cases q3 : a.itm.qual.isEmpty <;> cases q4 : a.itm.text.isEmpty <;> rw [q1, q2, q3, q4] at hi <;> simp at hi ⊢
          have hd8 : d < 8 := by have := of_decide_eq_false h8; omega
          have ha : a = .mk ⟨[], [], [], a.itm.name⟩ a.kids := by
            obtain ⟨⟨tg, q, t, nme⟩, kids⟩ := a
            simp only [Tr.itm, Tr.kids] at *
            rw [List.isEmpty_iff.1 hf, List.isEmpty_iff.1 hqe, List.isEmpty_iff.1 hte]
          rw [ht] at hT ⊢
          have hT1 : T.drop b = bO a.itm.name ++ (txtL a.kids ++ (bC a.itm.name ++ (txtL m ++ r))) := by rw [hT]; simp
          obtain ⟨o1, o2, o3⟩ := rdc_open (nm := nm) (l := l) (n := n) hT1 hnb hd8
          obtain ⟨n1, k1⟩ := ih (wts a.kids) (by omega) a.kids (d + 1) a.itm.name [] (n + 1) (b + (bO a.itm.name).length) (bC a.itm.name ++ (txtL m ++ r)) (Nat.le_refl _) (by rw [show (((d + 1 : Nat)) : Int) = (d : Int) + 1 by omega]; exact eq1.symm) (by omega) o3 o2
          obtain ⟨d1, d2⟩ := drop_more o3 o2
          rw [rdc_close d1 hnb (by omega), List.nil_append] at k1
          refine ⟨n1 + 1, ?_⟩
          rw [o1 _ _ _ k1, ← ha]
          congr 1
          simp only [List.length_append]; omega
      obtain ⟨n1, h1⟩ := hone
      obtain ⟨d1, d2⟩ := drop_more hT hb
      obtain ⟨n2, h2⟩ := ihm d nm (l ++ [a]) n1 (b + (txtI a).length) r (by omega) e2 hd d1 d2
      refine ⟨n2, ?_⟩
      rw [h1, h2]
      congr 1
      · simp
      · simp only [List.length_append]; omega
/-- A message is read back from its text. -/
theorem rdT_back (m : List Tr) (h : errL m 0 = 0) : ∃ n b, rdT (txtL m) = .ok m n b := by
  obtain ⟨n', e⟩ := rdc_list (txtL m) (wts m) m 0 [] [] 1 0 [] (Nat.le_refl _) h (by omega) (by simp) (Nat.zero_le _)
  refine ⟨n', (txtL m).length, ?_⟩
  have : rdT (txtL m) = rdc (txtL m) 0 [] [] 1 0 := rfl
  rw [this, e, Nat.zero_add]
  unfold rdc
  rw [rd, if_pos rfl]; simp
end Go.Proofs.YtpkgaidnpooahaaGreatDoor
