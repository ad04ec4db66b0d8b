/-
  My own text: DP1, DP2, DP3 in one.
-/
import Derived.Test.YtpkgaidnpooahaaGreatDoorQY
import Derived.Deep.RegionHeld3
import Derived.Deep.RegionWith
namespace Go.Proofs.YtpkgaidnpooahaaGreatDoor
open Go.RowKit

/-- What the document's reading holds: the outer blocks and their items, the outermost first; the innermost one's name and items; was the line ahead a field's? -/
structure DS where
  S : List (List UInt8 × List Tr)
  nm : List UInt8
  l : List Tr
  fl : Bool
inductive DR where
  | bad (no at_ : Int)
  | ok (s : DS)
/-- What the whole reading comes to. -/
inductive DO where
  | ok (l : List Tr)
  | bad (no n at_ : Int)
def moreL (l : List Tr) (tx : List UInt8) : List Tr := match l.getLast? with
  | none => l
  | some a => l.dropLast ++ [a.withText (a.itm.text ++ 10 :: tx)]
/-- One line is read. -/
def dln (s : DS) (tx : List UInt8) : DR :=
  if fstNot inS tx < tx.length then .bad 6 (fstNot inS tx + 1)
  else if tx.isEmpty then .bad 4 1
  else if tx.getD 0 0 ≠ 58 then
    (if tx.getD 0 0 = 45 then .bad 4 1 else if !s.fl then .bad 4 1 else .ok ⟨s.S, s.nm, moreL s.l tx, s.fl⟩)
  else if !(Lib.cut (tx.drop 1) [58]).2.2 then .bad 4 (tx.length + 1)
  else if (Lib.cut (tx.drop 1) [58]).1 = r16 then
    (if 8 ≤ s.S.length then .bad 5 1
     else if !nameB (Lib.cut (tx.drop 1) [58]).2.1 then .bad 4 6
     else .ok ⟨s.S ++ [(s.nm, s.l)], (Lib.cut (tx.drop 1) [58]).2.1, [], false⟩)
  else if (Lib.cut (tx.drop 1) [58]).1 = s16 then
    (match s.S.getLast? with
     | none => .bad 10 1
     | some q => if (Lib.cut (tx.drop 1) [58]).2.1 ≠ s.nm then .bad 4 6 else .ok ⟨s.S.dropLast, q.1, q.2 ++ [.mk ⟨[], [], [], s.nm⟩ s.l], false⟩)
  else match fldO (Lib.cut (tx.drop 1) [58]).1 (Lib.cut (tx.drop 1) [58]).2.1 tx.length with
    | some q => .bad q.1 q.2
    | none => .ok ⟨s.S, s.nm, s.l ++ [.mk (fldI (Lib.cut (tx.drop 1) [58]).1 (Lib.cut (tx.drop 1) [58]).2.1) []], true⟩
/-- Lines are read; en: is the last one ended? -/
def drn (en : Bool) : List (List UInt8) → DS → Nat → DO
  | [], s, n => if s.S.isEmpty then .ok s.l else .bad 2 n 1
  | tx :: r, s, n => if !en && r.isEmpty then .bad 2 n (tx.length + 1) else match dln s tx with
    | .bad no at_ => .bad no n at_
    | .ok s' => drn en r s' (n + 1)
/-- The lines of a text from a place on. -/
def lnF (T : List UInt8) : Nat → Nat → List (List UInt8)
  | 0, _ => []
  | f + 1, b => if b < T.length then ownL T b :: lnF T f (nxtB T b) else []
def lnE (T : List UInt8) : Nat → Nat → Bool
  | 0, _ => true
  | f + 1, b => if b < T.length then endL T b && lnE T f (nxtB T b) else true
def toDO : Res → DO
  | .ok l _ _ => .ok l
  | .bad no n at_ => .bad no n at_
/-- What a reading comes to behind the end of a block, outward. -/
def unw (T : List UInt8) : List (List UInt8 × List Tr) → List UInt8 → Res → Res
  | [], _, r => r
  | q :: S, nm, .ok k n b => unw T S q.1 (rdc T S.length q.1 (q.2 ++ [.mk ⟨[], [], [], nm⟩ k]) n b)
  | _ :: _, _, .bad no n at_ => .bad no n at_
theorem unw_bad (T : List UInt8) (S : List (List UInt8 × List Tr)) (nm : List UInt8) (no n at_ : Int) : unw T S nm (.bad no n at_) = .bad no n at_ := by cases S <;> rfl
theorem lnF_end (T : List UInt8) (f b : Nat) (h : ¬ b < T.length) : lnF T f b = [] := by
  cases f with
  | zero => rfl
  | succ f => rw [lnF, if_neg h]
theorem lnE_some (T : List UInt8) : ∀ (f b : Nat), lnE T f b = false → lnF T f b ≠ []
  | 0, b, h => by rw [lnE] at h; cases h
  | f + 1, b, h => by
    rw [lnE] at h
    rw [lnF]
    split at h
    · rename_i hb; rw [if_pos hb]; exact List.cons_ne_nil _ _
    · cases h
theorem end_no {T : List UInt8} {b : Nat} (hb : b ≤ T.length) (h : endL T b = false) : nxtB T b = T.length := by
  have := (cut_no h).1
  unfold nxtB ownL
  rw [this, List.length_drop]; omega
def flOf (l : List Tr) : Bool := match l.getLast? with
  | none => false
  | some a => !a.itm.tag.isEmpty
theorem flOf_snoc (l : List Tr) (a : Tr) : flOf (l ++ [a]) = !a.itm.tag.isEmpty := by unfold flOf; rw [List.getLast?_concat]
theorem rdc_stp {T : List UInt8} {d : Nat} {nm : List UInt8} {l : List Tr} {n b : Nat} (hb : b ≠ T.length) (hb2 : b ≤ T.length) (hc : chkE ⟨n, b, ownL T b, endL T b⟩ = none) : rdc T d nm l n b = stp T (T.length - b) d nm l n (nxtB T b) (ownL T b) := by
  rw [← rdc_of (F := T.length - b + 1) hb2 (by omega), rd_stp hb hc]
theorem rdc_bad {T : List UInt8} {d : Nat} {nm : List UInt8} {l : List Tr} {n b : Nat} {no at_ : Int} (hb : b ≠ T.length) (hb2 : b ≤ T.length) (hc : chkE ⟨n, b, ownL T b, endL T b⟩ = some (no, at_)) : rdc T d nm l n b = .bad no n at_ := by
  rw [← rdc_of (F := T.length - b + 1) hb2 (by omega), rd_line hb hc]
theorem cut_lens {tx : List UInt8} (h : (Lib.cut (tx.drop 1) [58]).2.2 = true) (h0 : 0 < tx.length) : tx.length = (Lib.cut (tx.drop 1) [58]).1.length + (Lib.cut (tx.drop 1) [58]).2.1.length + 2 := by
  have e := congrArg List.length (cut_yes h)
  simp only [List.length_append, List.length_drop, List.length_cons, List.length_nil] at e
  omega
set_option maxHeartbeats 1000000 in
theorem drn_rd (T : List UInt8) (en : Bool) : ∀ (f b n : Nat) (s : DS), b ≤ T.length → T.length - b < f → lnE T f b = en → s.fl = flOf s.l →
    drn en (lnF T f b) s n = toDO (unw T s.S.reverse s.nm (rdc T s.S.length s.nm s.l n b)) := by
  intro f
  induction f with
  | zero => intro b n s _ h; omega
  | succ f ih =>
    intro b n s hb hF hen hfl
    obtain ⟨S, nm, l, fl⟩ := s
    dsimp only at hfl ⊢
    by_cases hbe : b = T.length
    · rw [lnF_end T _ b (by omega), drn, ← rdc_of (F := T.length - b + 1) hb (by omega), rd, if_pos hbe]
      cases S with
      | nil => rfl
      | cons q S =>
        rw [if_neg (by simp), if_pos (by simp), unw_bad]; rfl
    · have hlt : b < T.length := by omega
      have hn := nxt_gt hlt
      rw [lnE, if_pos hlt] at hen
      rw [lnF, if_pos hlt, drn]
      cases hee : endL T b with
      | false =>
        have hnb := end_no hb hee
        rw [hee] at hen
        simp only [Bool.false_and] at hen
        rw [lnF_end T _ _ (by omega), ← hen]
        have hck : chkE ⟨n, b, ownL T b, endL T b⟩ = some (2, ((ownL T b).length : Int) + 1) := by unfold chkE; rw [hee]; rfl
        rw [rdc_bad hbe hb hck, unw_bad]
        rfl
      | true =>
        rw [hee, Bool.true_and] at hen
        have hr : (!en && (lnF T f (nxtB T b)).isEmpty) = false := by
          cases en with
          | true => rfl
          | false =>
            have := lnE_some T f (nxtB T b) hen
            cases hq : lnF T f (nxtB T b) with
            | nil => exact absurd hq this
            | cons x y => rfl
        rw [hr, if_neg (by decide)]
        have go := ih (nxtB T b) (n + 1)
        have fu : ∀ d nm l n, rd T (T.length - b) d nm l n (nxtB T b) = rdc T d nm l n (nxtB T b) := fun d nm l n => rdc_of hn.2 (by omega)
        cases hck : chkE ⟨n, b, ownL T b, endL T b⟩ with
        | some na =>
          obtain ⟨no, at_⟩ := na
          rw [rdc_bad hbe hb hck, unw_bad]
          unfold chkE at hck
          rw [hee] at hck
          dsimp only at hck
          rw [if_neg (by decide)] at hck
          unfold dln
          dsimp only
          by_cases hs : fstNot inS (ownL T b) < (ownL T b).length
          · rw [if_pos hs] at hck ⊢
            cases hck; rfl
          · rw [if_neg hs] at hck ⊢
            by_cases he : (ownL T b).isEmpty = true
            · rw [if_pos he] at hck ⊢
              cases hck; rfl
            · rw [if_neg he] at hck; cases hck
        | none =>
          rw [rdc_stp hbe hb hck]
          unfold chkE at hck
          rw [hee] at hck
          dsimp only at hck
          rw [if_neg (by decide)] at hck
          unfold dln
          dsimp only
          by_cases hs : fstNot inS (ownL T b) < (ownL T b).length
          · rw [if_pos hs] at hck; cases hck
          rw [if_neg hs] at hck ⊢
          by_cases he : (ownL T b).isEmpty = true
          · rw [if_pos he] at hck; cases hck
          rw [if_neg he] at hck ⊢
          have h0 : 0 < (ownL T b).length := by
            cases hq : ownL T b with
            | nil => rw [hq] at he; simp at he
            | cons x y => simp
          clear hck hs he hee hr
          generalize ownL T b = tx at *
          generalize nxtB T b = nb at *
          unfold stp
          by_cases h58 : tx.getD 0 0 ≠ 58
          · rw [if_pos h58, if_pos h58]
            by_cases h45 : tx.getD 0 0 = 45
            · rw [if_pos h45, if_pos h45, unw_bad]; rfl
            · rw [if_neg h45, if_neg h45]
              unfold moreL
              unfold flOf at hfl
              cases hg : l.getLast? with
              | none => rw [hg] at hfl; rw [hfl]; dsimp only; rw [unw_bad]; rfl
              | some a =>
                rw [hg] at hfl
                dsimp only at hfl ⊢
                rw [hfl]
                cases ha : a.itm.tag.isEmpty with
                | true => rw [if_pos (by decide), if_pos (by decide), unw_bad]; rfl
                | false =>
                  rw [if_neg (by decide), if_neg (by decide)]
                  dsimp only
                  rw [go _ hn.2 (by omega) hen (by rw [flOf_snoc]; show true = !a.itm.tag.isEmpty; rw [ha]; rfl), fu]
          · rw [if_neg h58, if_neg h58]
            cases hf : (Lib.cut (tx.drop 1) [58]).2.2 with
            | false => rw [if_pos (by decide), if_pos (by decide), unw_bad]; rfl
            | true =>
              have hl := cut_lens hf h0
              generalize Lib.cut (tx.drop 1) [58] = cc at *
              obtain ⟨tag, rest, found⟩ := cc
              dsimp only at hl hf ⊢
              simp only [Bool.not_true, Bool.false_eq_true, if_false]
              by_cases hr : tag = r16
              · rw [if_pos hr, if_pos hr]
                by_cases h8 : 8 ≤ S.length
                · rw [if_pos h8, if_pos h8, unw_bad]; rfl
                · rw [if_neg h8, if_neg h8]
                  cases hnm : nameB rest with
                  | false =>
                    rw [if_pos (by decide), if_pos (by decide), unw_bad]
                    have : ((tx.length : Int) - rest.length + 1) = 6 := by rw [hr] at hl; simp [r16] at hl; omega
                    rw [this]; rfl
                  | true =>
                    simp only [Bool.not_true, Bool.false_eq_true, if_false]
                    rw [go _ hn.2 (by omega) hen rfl]
                    dsimp only
                    rw [List.reverse_append, List.reverse_singleton, List.singleton_append, List.length_append, List.length_singleton]
                    have hg := rd_good T (T.length - b) (S.length + 1) rest [] (n + 1) nb hn.2 (by omega)
                    rw [fu] at hg ⊢
                    cases hq : rdc T (S.length + 1) rest [] (n + 1) nb with
                    | bad no m at_ => rw [unw_bad, unw_bad]
                    | ok k n' b' =>
                      rw [hq] at hg
                      rw [unw]
                      dsimp only
                      rw [List.length_reverse, rdc_of hg.2 (by have := hg.1; omega)]
              · rw [if_neg hr, if_neg hr]
                by_cases hs : tag = s16
                · rw [if_pos hs, if_pos hs]
                  rcases List.eq_nil_or_concat S with rfl | ⟨S', q, rfl⟩
                  · rfl
                  · rw [List.concat_eq_append, List.getLast?_concat, if_neg (by simp)]
                    dsimp only
                    by_cases hnm : rest ≠ nm
                    · rw [if_pos hnm, if_pos hnm, unw_bad]
                      have : ((tx.length : Int) - rest.length + 1) = 6 := by rw [hs] at hl; simp [s16] at hl; omega
                      rw [this]; rfl
                    · rw [if_neg hnm, if_neg hnm]
                      dsimp only
                      rw [go _ hn.2 (by omega) hen (by rw [flOf_snoc]; rfl)]
                      dsimp only
                      rw [List.dropLast_concat, List.reverse_append, List.reverse_singleton, List.singleton_append, unw, List.length_reverse]
                · rw [if_neg hs, if_neg hs]
                  cases hfo : fldO tag rest tx.length with
                  | some q => dsimp only; rw [unw_bad]; rfl
                  | none =>
                    dsimp only
                    have ht := (fldI_text tag rest tx.length hfo).1
                    have htb : tagB tag = true := by
                      unfold fldO at hfo
                      cases hq : tagB tag with
                      | true => rfl
                      | false => rw [hq] at hfo; simp at hfo
                    rw [go _ hn.2 (by omega) hen (by rw [flOf_snoc]; show true = !(fldI tag rest).tag.isEmpty; rw [ht, tagB_ne htb]; rfl), fu]
/-- The document's reading and the program's. -/
theorem drn_rdT (T : List UInt8) : drn (lnE T (T.length + 1) 0) (lnF T (T.length + 1) 0) ⟨[], [], [], false⟩ 1 = toDO (rdT T) := by
  rw [drn_rd T _ (T.length + 1) 0 1 ⟨[], [], [], false⟩ (Nat.zero_le _) (by omega) rfl rfl]
  dsimp only [List.reverse_nil, unw]
  rw [← rdc_of (F := T.length + 1) (Nat.zero_le _) (by omega)]; rfl
end Go.Proofs.YtpkgaidnpooahaaGreatDoor
namespace Go.Proofs.YtpkgaidnpooahaaGreatDoor
open Go.RowKit Go.Extern

theorem Tryz.infoSt : (Tryz.prog.info? 9).map (fun i => (i.zero, i.size, i.bytes)) = some (some (.string ⟨#[]⟩), 1, 16) := by kernel_rfl
def sw (l : List (List UInt8)) : List Value := l.map fun x => .string ⟨x.toArray⟩
theorem wpSt {w : World} {o : Oper} {a : Act} {K : Act → World → Prop} {Q : Exit → Act → World → Prop} (s x : Operand) (ho : o.op = .call { callee := .builtin .append, args := #[s, x], argTypes := #[33, 33] }) (B : Nat) (v : Value) (n : Nat) (xs : List Value) (p : List UInt8) (b : Nat)
    (hs : a.eval s = v) (hx : a.eval x = .slice (some ⟨b, 0, none⟩) 1 1) (hown : w.ownsRow B 9 1 v n xs) (hc0 : w.cell? ⟨b, 0, none⟩ = some (.string ⟨p.toArray⟩)) (hn : n ≤ 2097152) (hB : B ≤ w.heap.size)
    (h : ∀ v' w', w'.ownsRow B 9 1 v' (n + 1) (xs ++ [.string ⟨p.toArray⟩]) → w.grownBy w' v.ownBlock → K (a.put o.dst v') w') : o.wp Tryz.prog a w K Q := by
  obtain ⟨i0, hi, hz0, hz1, hz2⟩ := info_parts Tryz.infoSt
  refine wp_append_own _ s x 33 ho B 9 i0 (.string ⟨#[]⟩) 1 16 Tryz.underlying33 hi hz0 hz1 hz2 rfl (by decide) v n xs hs hown ⟨b, 0, none⟩ 1 1 [.string ⟨p.toArray⟩] hx rfl ?_ ?_ (by unfold maxLen; omega) (by omega) hB (fun v' w' h1 h2 _ => h v' w' h1 h2)
  · intro j u hj
    match j, hj with
    | 0, hj => simp at hj; subst hj; simpa [Addr.add] using hc0
  · intro u hu
    simp only [List.mem_cons, List.not_mem_nil, or_false] at hu
    subst hu; rfl
theorem st_shape {w : World} {B : Nat} {e : TypeId} {k : Nat} {v : Value} {n : Nat} {xs : List Value} (h : w.ownsRow B e k v n xs) : ∃ a cap, v = .slice a n cap := by
  rcases h.2 with ⟨rfl, rfl⟩ | ⟨g, cap, cur, rfl, _⟩
  · exact ⟨none, 0, rfl⟩
  · exact ⟨_, cap, rfl⟩
theorem cut_none10 {s : List UInt8} (h : (10 : UInt8) ∉ s) : (Lib.cut s [10]).1 = s ∧ (Lib.cut s [10]).2.2 = false := by
  cases hc : (Lib.cut s [10]).2.2 with
  | false => exact ⟨(cut_no hc).1, rfl⟩
  | true =>
    have e := cut_yes hc
    exact absurd (by rw [e]; simp) h
/-- A line that an end follows. -/
theorem line_at {T : List UInt8} {F i : Nat} (hF : F ≤ i) (hi : i < T.length) (h10 : T.getD i 0 = 10) (hn : ∀ m, F ≤ m → m < i → T.getD m 0 ≠ 10) : ownL T F = (T.drop F).take (i - F) ∧ endL T F = true ∧ nxtB T F = i + 1 := by
  have hs : T.drop F = (T.drop F).take (i - F) ++ 10 :: T.drop (i + 1) := by
    have e1 : (T.drop F).drop (i - F) = T.getD i 0 :: T.drop (i + 1) := by
      rw [List.drop_drop, show F + (i - F) = i by omega, List.drop_eq_getElem_cons hi]
      simp [List.getD_eq_getElem?_getD, hi]
    rw [h10] at e1
    rw [← e1, List.take_append_drop]
  have hnot : (10 : UInt8) ∉ (T.drop F).take (i - F) := by
    intro h
    obtain ⟨m, hm, e⟩ := List.getElem_of_mem h
    have hm2 : m < i - F := by simp at hm; omega
    refine hn (F + m) (by omega) (by omega) ?_
    rw [List.getElem_take, List.getElem_drop] at e
    simp [List.getD_eq_getElem?_getD, show F + m < T.length by omega, e]
  obtain ⟨h1, h2, h3, _⟩ := own_of hs hnot
  refine ⟨h1, h2, ?_⟩
  rw [h3, List.length_take, List.length_drop]; omega
/-- The last line, that is not ended. -/
theorem line_last {T : List UInt8} {F : Nat} (hF : F < T.length) (hn : ∀ m, F ≤ m → m < T.length → T.getD m 0 ≠ 10) : ownL T F = T.drop F ∧ endL T F = false ∧ nxtB T F = T.length := by
  have hnot : (10 : UInt8) ∉ T.drop F := by
    intro h
    obtain ⟨m, hm, e⟩ := List.getElem_of_mem h
    have hm2 : m < T.length - F := by simp at hm; omega
    refine hn (F + m) (by omega) (by omega) ?_
    rw [List.getElem_drop] at e
    simp [List.getD_eq_getElem?_getD, show F + m < T.length by omega, e]
  obtain ⟨h1, h2⟩ := cut_none10 hnot
  exact ⟨h1, h2, end_no (by omega) h2⟩
/-- So far: the lines that are there, and those that follow. -/
structure LQ (T : List UInt8) (acc : List (List UInt8)) (F : Nat) : Prop where
  all : ∃ f, T.length - F < f ∧ acc ++ lnF T f F = lnF T (T.length + 1) 0 ∧ lnE T f F = lnE T (T.length + 1) 0
  len : acc.length ≤ F
theorem LQ.start (T : List UInt8) : LQ T [] 0 := ⟨⟨T.length + 1, by omega, rfl, rfl⟩, Nat.le_refl _⟩
theorem LQ.step {T : List UInt8} {acc : List (List UInt8)} {F i : Nat} (h : LQ T acc F) (hF : F ≤ i) (hi : i < T.length) (h10 : T.getD i 0 = 10) (hn : ∀ m, F ≤ m → m < i → T.getD m 0 ≠ 10) : LQ T (acc ++ [(T.drop F).take (i - F)]) (i + 1) := by
  obtain ⟨f, h1, h2, h3⟩ := h.all
  obtain ⟨e1, e2, e3⟩ := line_at hF hi h10 hn
  obtain ⟨f, rfl⟩ : ∃ f', f = f' + 1 := ⟨f - 1, by omega⟩
  rw [lnF, if_pos (by omega), e1, e3] at h2
  rw [lnE, if_pos (by omega), e2, e3, Bool.true_and] at h3
  exact ⟨⟨f, by omega, by rw [List.append_assoc]; exact h2, h3⟩, by have := h.len; simp; omega⟩
theorem LQ.last {T : List UInt8} {acc : List (List UInt8)} {F : Nat} (h : LQ T acc F) (hF : F < T.length) (hn : ∀ m, F ≤ m → m < T.length → T.getD m 0 ≠ 10) : acc ++ [T.drop F] = lnF T (T.length + 1) 0 ∧ lnE T (T.length + 1) 0 = false := by
  obtain ⟨f, h1, h2, h3⟩ := h.all
  obtain ⟨e1, e2, e3⟩ := line_last hF hn
  obtain ⟨f, rfl⟩ : ∃ f', f = f' + 1 := ⟨f - 1, by omega⟩
  rw [lnF, if_pos hF, e1, e3, lnF_end T _ _ (by omega)] at h2
  rw [lnE, if_pos hF, e2, Bool.false_and] at h3
  exact ⟨h2, h3.symm⟩
theorem LQ.full {T : List UInt8} {acc : List (List UInt8)} {F : Nat} (h : LQ T acc F) (hF : ¬ F < T.length) : acc = lnF T (T.length + 1) 0 ∧ lnE T (T.length + 1) 0 = true := by
  obtain ⟨f, h1, h2, h3⟩ := h.all
  obtain ⟨f, rfl⟩ : ∃ f', f = f' + 1 := ⟨f - 1, by omega⟩
  rw [lnF_end T _ _ hF, List.append_nil] at h2
  rw [lnE, if_neg hF] at h3
  exact ⟨h2, h3.symm⟩
set_option maxRecDepth 100000 in
set_option maxHeartbeats 4000000 in
theorem dLines_any (T : List UInt8) (w : World) (hT : T.length ≤ 1048576) :
    Calls Tryz.prog 49 #[.string ⟨T.toArray⟩] w fun e w' => (∃ a cap, e = .returned (.tuple #[.slice a (lnF T (T.length + 1) 0).length cap, .bool (lnE T (T.length + 1) 0)]) ∧ w'.ownsRow w.heap.size 9 1 (.slice a (lnF T (T.length + 1) 0).length cap) (lnF T (T.length + 1) 0).length (sw (lnF T (T.length + 1) 0))) ∧ Below w.heap.size w w' := by
  go_enter Tryz.func49, Tryz.ntmps49
  go_wp2_with fail
  go_loopw [4, 5, 6] (fun v f k wr => ∃ (i F : Nat) (acc : List (List UInt8)) (a : Option Addr) (cap : Nat), i ≤ T.length ∧ F ≤ i ∧ acc.length ≤ F ∧ v = .slice a acc.length cap ∧ f = .int .i64 (F : Int) ∧ k = .int .i64 (i : Int) ∧ Hid (LQ T acc F) ∧ Hid (∀ m, F ≤ m → m < i → T.getD m 0 ≠ 10) ∧ Hid (wr.ownsRow w.heap.size 9 1 (.slice a acc.length cap) acc.length (sw acc)) ∧ Hid (Below w.heap.size w wr)) (fun _ _ k _ => T.length - (intOf k).toNat)
  case atStart => exact ⟨0, 0, [], none, 0, by omega, by omega, by simp, rfl, rfl, rfl, hide (LQ.start T), hide (fun m h1 h2 => by omega), hide ⟨by simp [sw], .inl ⟨rfl, rfl⟩⟩, hide (Below.refl _ _)⟩
  case round =>
    obtain ⟨i, F, acc, a, cap, hi, hFi, hal, rfl, rfl, rfl, HQ, HN, HO, HB⟩ := hrel
    have hbs := HB.out.size
    by_cases hlt : i < T.length
    · have hs1 : i < (⟨T.toArray⟩ : ByteArray).size := by rw [bytes_size]; exact hlt
      obtain ⟨c, hc, Hc⟩ : ∃ c, (⟨T.toArray⟩ : ByteArray)[i]'hs1 = c ∧ Hid (T.getD i 0 = c) := ⟨_, rfl, by rw [getD_at hlt]; exact hide rfl⟩
      by_cases h10 : c = 10
      · have hcb : ((c.toNat : Int) == 10) = true := by rw [h10]; rfl
        have HQ2 := hide (HQ.out.step hFi hlt (by rw [Hc.out]; exact h10) HN.out)
        obtain ⟨nm, hsl, Hnm⟩ : ∃ nm : List UInt8, (⟨T.toArray⟩ : ByteArray).extract F i = ⟨nm.toArray⟩ ∧ Hid (nm = (T.drop F).take (i - F)) := ⟨(T.drop F).take (i - F), by apply ByteArray.ext; simp [List.extract_eq_take_drop], hide rfl⟩
        clear h10 Hc HN HQ
        go_wp2_with (at_builtin; refine BigFrame.wpList_want (by rfl) ?_; intro K hK; refine wpSt _ _ rfl w.heap.size _ _ _ nm _ rfl rfl (HO.out.alloc _) ?c1 ?c2 ?c3 (fun v2 W2 hO2 hg2 => hK _ _ ?_))
        try (case c1 => simp)
        case c2 => omega
        case c3 => (first | omega | (simp; omega))
        have HO3 : Hid (W2.ownsRow w.heap.size 9 1 v2 (acc ++ [nm]).length (sw (acc ++ [nm]))) := hide (by unfold sw; rw [List.map_append, List.length_append]; exact hO2)
        have HB3 : Hid (Below w.heap.size w W2) := hide ((HB.out.alloc hbs _).grown hg2 (Nat.le_trans hbs (by simp)) (fun g e => (World.ownsRow.lt HO.out g e).1))
        obtain ⟨a2, cap2, rfl⟩ := st_shape hO2
        clear hO2 hg2 HO HB
        go_wp2_with fail
        go_roundw
        case rel => exact ⟨i + 1, i + 1, acc ++ [nm], a2, cap2, by omega, by omega, by simp; omega, by simp, by go_num, by go_num, by rw [Hnm.out]; exact HQ2, hide (fun m h1 h2 => by omega), by simpa using HO3, HB3⟩
        case measure => simp [intOf]; omega
      · have hcb : ((c.toNat : Int) == 10) = false := (u8_lit rfl 10 rfl).trans (beq_eq_false_iff_ne.2 h10)
        have HN2 : Hid (∀ m, F ≤ m → m < i + 1 → T.getD m 0 ≠ 10) := hide (fun m h1 h2 => by
          by_cases e : m = i
          · subst e; rw [Hc.out]; exact h10
          · exact HN.out m h1 (by omega))
        clear h10 Hc HN
        go_wp2_with fail
        go_roundw
        case rel => exact ⟨i + 1, F, acc, a, cap, by omega, by omega, hal, rfl, rfl, by go_num, HQ, HN2, HO, HB⟩
        case measure => simp [intOf]; omega
    · have hie : i = T.length := by omega
      subst hie
      by_cases hF : F < T.length
      · obtain ⟨HE1, HE2⟩ := HQ.out.last hF HN.out
        obtain ⟨nm, hsl, Hnm⟩ : ∃ nm : List UInt8, (⟨T.toArray⟩ : ByteArray).extract F T.length = ⟨nm.toArray⟩ ∧ Hid (nm = T.drop F) := ⟨T.drop F, by apply ByteArray.ext; simp; exact List.take_of_length_le (by simp), hide rfl⟩
        rw [← Hnm.out] at HE1
        replace HE1 := hide HE1
        replace HE2 := hide HE2
        clear HN HQ
        go_wp2_with (at_builtin; refine BigFrame.wpList_want (by rfl) ?_; intro K hK; refine wpSt _ _ rfl w.heap.size _ _ _ nm _ rfl rfl (HO.out.alloc _) ?c1 ?c2 ?c3 (fun v2 W2 hO2 hg2 => hK _ _ ?_))
        try (case c1 => simp)
        case c2 => omega
        case c3 => (first | omega | (simp; omega))
        have HO3 : Hid (W2.ownsRow w.heap.size 9 1 v2 (acc ++ [nm]).length (sw (acc ++ [nm]))) := hide (by unfold sw; rw [List.map_append, List.length_append]; exact hO2)
        have HB3 : Hid (Below w.heap.size w W2) := hide ((HB.out.alloc hbs _).grown hg2 (Nat.le_trans hbs (by simp)) (fun g e => (World.ownsRow.lt HO.out g e).1))
        obtain ⟨a2, cap2, rfl⟩ := st_shape hO2
        clear hO2 hg2 HO HB
        go_wp2_with fail
        go_ret2
        rw [← HE1.out, HE2.out]
        exact ⟨⟨a2, cap2, by simp, by simpa using HO3.out⟩, HB3.out⟩
      · obtain ⟨HE1, HE2⟩ := HQ.out.full hF
        replace HE1 := hide HE1
        replace HE2 := hide HE2
        clear HN HQ
        go_wp2_with fail
        go_ret2
        rw [← HE1.out, HE2.out]
        exact ⟨⟨a, cap, rfl, HO.out⟩, HB.out⟩
end Go.Proofs.YtpkgaidnpooahaaGreatDoor
namespace Go.Proofs.YtpkgaidnpooahaaGreatDoor
open Go.RowKit Go.Extern

/-- A row of open blocks, as cells: a name, its items. -/
def lvC : List (List UInt8 × List Tr) → List Value → List Value
  | q :: lv, v :: vs => .string ⟨q.1.toArray⟩ :: v :: lvC lv vs
  | _, _ => []
theorem lvC_snoc : ∀ (lv : List (List UInt8 × List Tr)) (vs : List Value) (q : List UInt8 × List Tr) (v : Value), lv.length = vs.length → lvC (lv ++ [q]) (vs ++ [v]) = lvC lv vs ++ [.string ⟨q.1.toArray⟩, v]
  | [], [], q, v, _ => by simp [lvC]
  | b :: r, u :: s, q, v, h => by
    have := lvC_snoc r s q v (by simpa using h)
    simp only [List.cons_append, lvC, this]
theorem lvC_len : ∀ (lv : List (List UInt8 × List Tr)) (vs : List Value), lv.length = vs.length → (lvC lv vs).length = lv.length * 2
  | [], [], _ => by simp [lvC]
  | b :: r, u :: s, h => by
    have := lvC_len r s (by simpa using h)
    simp only [lvC, List.length_cons, this]; omega
/-- Items in memory of their own, all of it in blocks of P. -/
structure LV (w : World) (B : Nat) (P : Nat → Prop) (v : Value) (l : List Tr) (V : List Value) : Prop where
  len : V.length = l.length
  row : w.ownsRow B 25 5 v l.length (ic l V)
  own : ∀ x, v.ownBlock = some x → P x
  kids : ∀ (j : Nat) (a : Tr) (u : Value), l[j]? = some a → V[j]? = some u → PT w (fun x => P x ∧ v.ownBlock ≠ some x) u a.kids
theorem LV.nil (w : World) (B : Nat) (P : Nat → Prop) : LV w B P (.slice none 0 0) [] [] := ⟨rfl, World.ownsRow_nil _ _ _ _, fun x h => by simp [Value.ownBlock] at h, fun j a u h _ => by simp at h⟩
theorem LV.kept {w w' : World} {B : Nat} {P P' : Nat → Prop} {v : Value} {l : List Tr} {V : List Value} (h : LV w B P v l V) (hs : w.heap.size ≤ w'.heap.size) (hb : ∀ x, P x → x < w.heap.size → w'.heap[x]? = w.heap[x]?) (hP : ∀ x, P x → x < w.heap.size → P' x) : LV w' B P' v l V :=
  ⟨h.len, owns_blkq h.row (fun g hg => hb g (h.own g hg) (own_ltq h.row g hg).2), fun x hx => hP x (h.own x hx) (own_ltq h.row x hx).2, fun j a u h1 h2 => PT_kept (fun g hg hg2 => hb g hg.1 hg2) hs (fun g hg hg2 => ⟨hP g hg.1 hg2, hg.2⟩) _ _ _ (Nat.le_refl _) (h.kids j a u h1 h2)⟩
theorem LV.snoc {w w1 : World} {B : Nat} {P P' : Nat → Prop} {v v' u : Value} {l : List Tr} {V : List Value} {a : Tr} (h : LV w B P v l V) (hO : w1.ownsRow B 25 5 v' (l.length + 1) (ic l V ++ (iC a.itm u).toList)) (hg : ∀ x, x < w.heap.size → v.ownBlock ≠ some x → w1.heap[x]? = w.heap[x]?) (hs : w.heap.size ≤ w1.heap.size) (hr : ∀ x, v'.ownBlock = some x → v.ownBlock = some x ∨ w.heap.size ≤ x)
    (hP : ∀ x, P x → x < w.heap.size → P' x) (hP2 : ∀ x, w.heap.size ≤ x → P' x) (hu : PT w (fun x => P x ∧ v.ownBlock ≠ some x) u a.kids) : LV w1 B P' v' (l ++ [a]) (V ++ [u]) := by
  have new : ∀ x, P x ∧ v.ownBlock ≠ some x → x < w.heap.size → P' x ∧ v'.ownBlock ≠ some x := fun x h1 h2 => ⟨hP x h1.1 h2, fun e => by
    rcases hr x e with h | h
    · exact h1.2 h
    · omega⟩
  refine ⟨by simp [h.len], ?_, fun x hx => ?_, ?_⟩
  · rw [ic_snoc _ _ _ _ h.len.symm, List.length_append]; exact hO
  · rcases hr x hx with e | e
    · exact hP x (h.own x e) (own_ltq h.row x e).2
    · exact hP2 x e
  · intro j b x h1 h2
    by_cases hj : j < l.length
    · rw [List.getElem?_append_left hj] at h1
      rw [List.getElem?_append_left (by rw [h.len]; exact hj)] at h2
      exact PT_kept (fun g hg' hg2 => hg g hg2 hg'.2) hs new _ _ _ (Nat.le_refl _) (h.kids j b x h1 h2)
    · rw [List.getElem?_append_right (by omega)] at h1
      rw [List.getElem?_append_right (by rw [h.len]; omega)] at h2
      have hj0 : j - l.length = 0 := by have := (List.getElem?_eq_some_iff.1 h1).1; simp at this; omega
      rw [hj0] at h1; rw [h.len, hj0] at h2
      simp at h1 h2; subst h1; subst h2
      exact PT_kept (fun g hg' hg2 => hg g hg2 hg'.2) hs new _ _ _ (Nat.le_refl _) hu
theorem LV.pt {w : World} {B : Nat} {P : Nat → Prop} {v : Value} {l : List Tr} {V : List Value} (h : LV w B P v l V) : PT w P v l := by
  rcases h.row.2 with ⟨rfl, h0⟩ | ⟨g, cap, cur, rfl, hb, hh, _⟩
  · have : l = [] := List.length_eq_zero_iff.1 h0
    subst this
    exact ⟨none, 0, rfl, .inl rfl⟩
  · have hlt := (Array.getElem?_eq_some_iff.1 hh).1
    refine ⟨_, _, rfl, .inr ⟨g, 0, rfl, hlt, h.own g rfl, PR_mk (fun k a hk => ?_)⟩⟩
    have hc : ∀ j u, (ic l V)[j]? = some u → w.cell? ⟨g, j, none⟩ = some u := fun j u hj => by
      have := World.ownsRow.cells h.row rfl j u hj
      rw [Addr.add_lit, Nat.zero_add] at this; exact this
    have hkl := (List.getElem?_eq_some_iff.1 hk).1
    obtain ⟨u, hu⟩ : ∃ u, V[k]? = some u := ⟨_, List.getElem?_eq_getElem (by rw [h.len]; exact hkl)⟩
    obtain ⟨e0, e1, e2, e3, e4⟩ := ic_at l V k a u hk hu
    rw [Nat.zero_add]
    exact PI_iff.2 ⟨hc _ _ e0, hc _ _ e1, hc _ _ e2, hc _ _ e3, u, hc _ _ e4, PT_kept (fun _ _ _ => rfl) (Nat.le_refl _) (fun x hx _ => hx.1) _ _ _ (Nat.le_refl _) (h.kids k a u hk hu)⟩
/-- The last item's text is another one. -/
theorem LV.text {w : World} {B g cap : Nat} {P : Nat → Prop} {l : List Tr} {a : Tr} {V : List Value} {u : Value} (h : LV w B P (.slice (some ⟨g, 0, none⟩) (l.length + 1) cap) (l ++ [a]) (V ++ [u])) (t : List UInt8) :
    LV (w.setCell ⟨g, l.length * 5 + 2, none⟩ (.string ⟨t.toArray⟩)) B P (.slice (some ⟨g, 0, none⟩) (l.length + 1) cap) (l ++ [a.withText t]) (V ++ [u]) := by
  have hl : l.length = V.length := by have := h.len; simp at this; omega
  have hO := own_set h.row (g := g) rfl (l.length * 5 + 2) (.string ⟨t.toArray⟩)
  have he : (ic (l ++ [a]) (V ++ [u])).set (l.length * 5 + 2) (.string ⟨t.toArray⟩) = ic (l ++ [a.withText t]) (V ++ [u]) := by
    rw [ic_snoc _ _ _ _ hl, ic_snoc _ _ _ _ hl, List.set_append_right _ _ (by rw [ic_len _ _ hl]; omega), ic_len _ _ hl, Nat.add_sub_cancel_left]
    rfl
  rw [he] at hO
  refine ⟨by simp [hl], by simpa using hO, h.own, fun j b x h1 h2 => ?_⟩
  have key : ∀ (c : Tr), (l ++ [a])[j]? = some c → c.kids = b.kids → PT (w.setCell ⟨g, l.length * 5 + 2, none⟩ (.string ⟨t.toArray⟩)) (fun y => P y ∧ (Value.slice (some ⟨g, 0, none⟩) (l.length + 1) cap).ownBlock ≠ some y) x b.kids := fun c hc hk => by
    rw [← hk]
    exact PT_kept (fun k hk' _ => Below.heap_setCell w _ _ k (fun e => hk'.2 (by rw [e]; rfl))) (by simp [World.setCell]) (fun k hk' _ => hk') _ _ _ (Nat.le_refl _) (h.kids j c x hc h2)
  by_cases hj : j < l.length
  · rw [List.getElem?_append_left hj] at h1
    exact key b (by rw [List.getElem?_append_left hj]; exact h1) rfl
  · rw [List.getElem?_append_right (by omega)] at h1
    have hj0 : j - l.length = 0 := by have := (List.getElem?_eq_some_iff.1 h1).1; simp at this; omega
    rw [hj0] at h1; simp at h1; subst h1
    exact key a (by rw [List.getElem?_append_right (by omega), hj0]; rfl) rfl

/-- What the reading holds, at R; the row of open blocks at L; lab tells whose a block is. -/
structure DM (w : World) (B R L cap : Nat) (lab : Nat → Nat) (lv : List (List UInt8 × List Tr)) (vs : List Value) (fl : Bool) : Prop where
  bx : Bk w R #[.slice (some ⟨L, 0, none⟩) lv.length cap, .bool fl] 87
  row : w.ownsRow B 84 2 (.slice (some ⟨L, 0, none⟩) lv.length cap) lv.length (lvC lv vs)
  len : vs.length = lv.length
  lvl : ∀ k q v, lv[k]? = some q → vs[k]? = some v → ∃ V, LV w B (fun x => lab x = k + 2) v q.2 V
  lR : lab R = 0
  lL : lab L = 1
  bR : B ≤ R
theorem DM.later {w w' : World} {B R L cap : Nat} {lab : Nat → Nat} {lv : List (List UInt8 × List Tr)} {vs : List Value} {fl : Bool} (h : DM w B R L cap lab lv vs fl) (hb : Below w.heap.size w w') : DM w' B R L cap lab lv vs fl :=
  ⟨h.bx.later hb, owns_blkq h.row (fun g hg => hb.block g (own_ltq h.row g hg).2), h.len, fun k q v h1 h2 => by
    obtain ⟨V, hV⟩ := h.lvl k q v h1 h2
    exact ⟨V, hV.kept hb.size (fun x _ hx => hb.block x hx) (fun x hx _ => hx)⟩, h.lR, h.lL, h.bR⟩
theorem DM.top {w : World} {B R L cap : Nat} {lab : Nat → Nat} {lv : List (List UInt8 × List Tr)} {vs : List Value} {q : List UInt8 × List Tr} {v : Value} {fl : Bool} (h : DM w B R L cap lab (lv ++ [q]) (vs ++ [v]) fl) : lv.length = vs.length ∧ (∃ V, LV w B (fun x => lab x = lv.length + 2) v q.2 V) ∧ w.cell? ⟨L, lv.length * 2, none⟩ = some (.string ⟨q.1.toArray⟩) ∧ w.cell? ⟨L, lv.length * 2 + 1, none⟩ = some v := by
  have hl : lv.length = vs.length := by have := h.len; simp at this; omega
  refine ⟨hl, h.lvl lv.length q v (by simp) (by rw [hl]; simp), ?_, ?_⟩
  all_goals
    have hc := fun j u hj => World.ownsRow.cells h.row rfl j u hj
    rw [lvC_snoc _ _ _ _ hl] at hc
  · have := hc (lv.length * 2) (.string ⟨q.1.toArray⟩) (by rw [List.getElem?_append_right (by rw [lvC_len _ _ hl]; omega), lvC_len _ _ hl, Nat.sub_self]; rfl)
    rw [Addr.add_lit, Nat.zero_add] at this; exact this
  · have := hc (lv.length * 2 + 1) v (by rw [List.getElem?_append_right (by rw [lvC_len _ _ hl]; omega), lvC_len _ _ hl, Nat.add_sub_cancel_left]; rfl)
    rw [Addr.add_lit, Nat.zero_add] at this; exact this
/-- The mark of a field. -/
theorem DM.mark {w : World} {B R L cap : Nat} {lab : Nat → Nat} {lv : List (List UInt8 × List Tr)} {vs : List Value} {fl : Bool} (h : DM w B R L cap lab lv vs fl) (f : Bool) : DM (w.setCell ⟨R, 1, none⟩ (.bool f)) B R L cap lab lv vs f := by
  have hne : ∀ x, lab x ≠ 0 → (w.setCell ⟨R, 1, none⟩ (.bool f)).heap[x]? = w.heap[x]? := fun x hx => Below.heap_setCell w ⟨R, 1, none⟩ _ x (fun e => hx (by rw [e]; exact h.lR))
  refine ⟨?_, owns_blkq h.row (fun g hg => hne g (by cases hg; rw [h.lL]; decide)), h.len, fun k q v h1 h2 => ?_, h.lR, h.lL, h.bR⟩
  · have := h.bx
    unfold Bk at this ⊢
    simp only [World.setCell, Array.getElem?_modify, if_true]
    rw [this]; rfl
  · obtain ⟨V, hV⟩ := h.lvl k q v h1 h2
    exact ⟨V, hV.kept (by simp [World.setCell]) (fun x hx _ => hne x (by rw [hx]; omega)) (fun x hx _ => hx)⟩
/-- Another row of open blocks. -/
theorem bx_set {w : World} {R : Nat} {u v : Value} {t : TypeId} {fl : Value} (h : Bk w R #[u, fl] t) : Bk (w.setCell ⟨R, 0, none⟩ v) R #[v, fl] t := by
  unfold Bk at h ⊢
  simp only [World.setCell, Array.getElem?_modify, if_true]
  rw [h]; rfl
/-- One item more in the innermost block. -/
theorem DM.add {w w1 : World} {B R L cap : Nat} {lab : Nat → Nat} {lv : List (List UInt8 × List Tr)} {vs : List Value} {nm : List UInt8} {l : List Tr} {v v' u : Value} {fl : Bool} {a : Tr} {V : List Value} (h : DM w B R L cap lab (lv ++ [(nm, l)]) (vs ++ [v]) fl)
    (hV : LV w B (fun x => lab x = lv.length + 2) v l V) (hO : w1.ownsRow B 25 5 v' (l.length + 1) (ic l V ++ (iC a.itm u).toList)) (hg : w.grownBy w1 v.ownBlock) (hr : ∀ x, v'.ownBlock = some x → v.ownBlock = some x ∨ w.heap.size ≤ x)
    (hu : PT w (fun x => lab x = lv.length + 2 ∧ v.ownBlock ≠ some x) u a.kids) : DM (w1.setCell ⟨L, lv.length * 2 + 1, none⟩ v') B R L cap (fun x => if w.heap.size ≤ x then lv.length + 2 else lab x) (lv ++ [(nm, l ++ [a])]) (vs ++ [v']) fl := by
  have hl := h.top.1
  have hLlt := own_ltq h.row L rfl
  have hRlt := h.bx.lt
  have vne : ∀ x, lab x ≠ lv.length + 2 → some x ≠ v.ownBlock := fun x hx e => hx (hV.own x e.symm)
  have keep : ∀ x, x < w.heap.size → lab x ≠ lv.length + 2 → x ≠ L → (w1.setCell ⟨L, lv.length * 2 + 1, none⟩ v').heap[x]? = w.heap[x]? := fun x h1 h2 h3 => (Below.heap_setCell w1 ⟨L, lv.length * 2 + 1, none⟩ _ x h3).trans (hg.block x h1 (vne x h2))
  have hsz : w.heap.size ≤ (w1.setCell ⟨L, lv.length * 2 + 1, none⟩ v').heap.size := by simpa [World.setCell] using hg.size
  have hRL : R ≠ L := fun e => by have := h.lR; rw [e, h.lL] at this; cases this
  refine ⟨?_, ?_, by simp [hl], fun k q x h1 h2 => ?_, by rw [if_neg (by omega)]; exact h.lR, by rw [if_neg (by omega)]; exact h.lL, h.bR⟩
  · have e : w1.heap[R]? = w.heap[R]? := hg.block R hRlt (vne R (by rw [h.lR]; omega))
    have := h.bx
    unfold Bk at this ⊢
    rw [keep R hRlt (by rw [h.lR]; omega) hRL, this]; simp
  · have r1 : w1.ownsRow B 84 2 (.slice (some ⟨L, 0, none⟩) (lv ++ [(nm, l)]).length cap) (lv ++ [(nm, l)]).length (lvC (lv ++ [(nm, l)]) (vs ++ [v])) := owns_blkq h.row (fun g e => by cases e; exact hg.block L hLlt.2 (vne L (by rw [h.lL]; omega)))
    have r2 := own_set r1 (g := L) rfl (lv.length * 2 + 1) v'
    have e : (lvC (lv ++ [(nm, l)]) (vs ++ [v])).set (lv.length * 2 + 1) v' = lvC (lv ++ [(nm, l ++ [a])]) (vs ++ [v']) := by
      rw [lvC_snoc _ _ _ _ hl, lvC_snoc _ _ _ _ hl, List.set_append_right _ _ (by rw [lvC_len _ _ hl]; omega), lvC_len _ _ hl, Nat.add_sub_cancel_left]
      rfl
    rw [e] at r2
    simpa using r2
  · by_cases hk : k < lv.length
    · rw [List.getElem?_append_left hk] at h1
      rw [List.getElem?_append_left (by omega)] at h2
      obtain ⟨V', hV'⟩ := h.lvl k q x (by rw [List.getElem?_append_left hk]; exact h1) (by rw [List.getElem?_append_left (by omega)]; exact h2)
      exact ⟨V', hV'.kept hsz (fun y hy hy2 => keep y hy2 (by rw [hy]; omega) (fun e => by rw [e, h.lL] at hy; omega)) (fun y hy hy2 => by rw [if_neg (by omega)]; exact hy)⟩
    · have hk0 : k - lv.length = 0 := by rw [List.getElem?_append_right (by omega)] at h1; have := (List.getElem?_eq_some_iff.1 h1).1; simp at this; omega
      rw [List.getElem?_append_right (by omega), hk0] at h1
      rw [List.getElem?_append_right (by omega), ← hl, hk0] at h2
      simp at h1 h2; subst h1; subst h2
      have ke : k = lv.length := by omega
      subst ke
      have s1 : LV w1 B (fun x => (if w.heap.size ≤ x then lv.length + 2 else lab x) = lv.length + 2) v' (l ++ [a]) (V ++ [u]) := hV.snoc hO (fun x h1 h2 => hg.block x h1 (fun e => h2 e.symm)) hg.size hr (fun x h1 h2 => by rw [if_neg (by omega)]; exact h1) (fun x h1 => by rw [if_pos h1]) hu
      exact ⟨V ++ [u], s1.kept (by simp [World.setCell]) (fun y hy hy2 => Below.heap_setCell w1 ⟨L, lv.length * 2 + 1, none⟩ _ y (fun e => by
        have e2 : y = L := e
        rw [e2, if_neg (by omega), h.lL] at hy; omega)) (fun y hy _ => hy)⟩
/-- A block begins. -/
theorem DM.push {w w1 : World} {B R L cap L' cap' : Nat} {lab : Nat → Nat} {lv : List (List UInt8 × List Tr)} {vs : List Value} {nm : List UInt8} {fl : Bool} (h : DM w B R L cap lab lv vs fl)
    (hO : w1.ownsRow B 84 2 (.slice (some ⟨L', 0, none⟩) (lv.length + 1) cap') (lv.length + 1) (lvC lv vs ++ [.string ⟨nm.toArray⟩, .slice none 0 0])) (hg : w.grownBy w1 (some L)) (hr : L' = L ∨ w.heap.size ≤ L') :
    DM (w1.setCell ⟨R, 0, none⟩ (.slice (some ⟨L', 0, none⟩) (lv.length + 1) cap')) B R L' cap' (fun x => if w.heap.size ≤ x then 1 else lab x) (lv ++ [(nm, [])]) (vs ++ [.slice none 0 0]) fl := by
  have hRlt := h.bx.lt
  have hLlt := own_ltq h.row L rfl
  have hRL : R ≠ L := fun e => by have := h.lR; rw [e, h.lL] at this; cases this
  have hRL' : R ≠ L' := fun e => by rcases hr with e2 | e2 <;> omega
  have keep : ∀ x, x < w.heap.size → lab x ≠ 0 → lab x ≠ 1 → (w1.setCell ⟨R, 0, none⟩ (.slice (some ⟨L', 0, none⟩) (lv.length + 1) cap')).heap[x]? = w.heap[x]? := fun x h1 h2 h3 => (Below.heap_setCell w1 ⟨R, 0, none⟩ _ x (fun e => h2 (by rw [e]; exact h.lR))).trans (hg.block x h1 (fun e => h3 (by cases e; exact h.lL)))
  have hsz : w.heap.size ≤ (w1.setCell ⟨R, 0, none⟩ (.slice (some ⟨L', 0, none⟩) (lv.length + 1) cap')).heap.size := by simpa [World.setCell] using hg.size
  refine ⟨?_, ?_, by simp [h.len], fun k q x h1 h2 => ?_, by rw [if_neg (by omega)]; exact h.lR, ?_, h.bR⟩
  · have e : w1.heap[R]? = w.heap[R]? := hg.block R hRlt (fun e => hRL (by cases e; rfl))
    have b1 : Bk w1 R #[.slice (some ⟨L, 0, none⟩) lv.length cap, .bool fl] 87 := e.trans h.bx
    simpa using bx_set b1 (v := .slice (some ⟨L', 0, none⟩) (lv.length + 1) cap')
  · rw [lvC_snoc _ _ _ _ h.len.symm]
    simpa using owns_blkq hO (fun g e => by cases e; exact Below.heap_setCell w1 ⟨R, 0, none⟩ _ L' (fun e => hRL' e.symm))
  · by_cases hk : k < lv.length
    · rw [List.getElem?_append_left hk] at h1
      rw [List.getElem?_append_left (by rw [h.len]; omega)] at h2
      obtain ⟨V', hV'⟩ := h.lvl k q x h1 h2
      exact ⟨V', hV'.kept hsz (fun y hy hy2 => keep y hy2 (by rw [hy]; omega) (by rw [hy]; omega)) (fun y hy hy2 => by rw [if_neg (by omega)]; exact hy)⟩
    · have hk0 : k - lv.length = 0 := by rw [List.getElem?_append_right (by omega)] at h1; have := (List.getElem?_eq_some_iff.1 h1).1; simp at this; omega
      rw [List.getElem?_append_right (by omega), hk0] at h1
      rw [List.getElem?_append_right (by rw [h.len]; omega), h.len, hk0] at h2
      simp at h1 h2; subst h1; subst h2
      exact ⟨[], LV.nil _ _ _⟩
  · rcases hr with e | e
    · rw [e, if_neg (by omega)]; exact h.lL
    · rw [if_pos e]
/-- A block ends: its items are those of an item to come. -/
theorem DM.pop {w : World} {B R L cap : Nat} {lab : Nat → Nat} {lv : List (List UInt8 × List Tr)} {vs : List Value} {q p : List UInt8 × List Tr} {v u : Value} {fl : Bool} (h : DM w B R L cap lab ((lv ++ [q]) ++ [p]) ((vs ++ [v]) ++ [u]) fl) :
    ∃ lab', DM (w.setCell ⟨R, 0, none⟩ (.slice (some ⟨L, 0, none⟩) (lv ++ [q]).length cap)) B R L cap lab' (lv ++ [q]) (vs ++ [v]) fl ∧ PT (w.setCell ⟨R, 0, none⟩ (.slice (some ⟨L, 0, none⟩) (lv ++ [q]).length cap)) (fun x => lab' x = lv.length + 2 ∧ v.ownBlock ≠ some x) u p.2 := by
  obtain ⟨hl2, ⟨VP, hVP⟩, _, _⟩ := h.top
  have hl : lv.length = vs.length := by simp at hl2; omega
  have hRL : R ≠ L := fun e => by have := h.lR; rw [e, h.lL] at this; cases this
  have keep : ∀ x, lab x ≠ 0 → (w.setCell ⟨R, 0, none⟩ (.slice (some ⟨L, 0, none⟩) (lv ++ [q]).length cap)).heap[x]? = w.heap[x]? := fun x hx => Below.heap_setCell w ⟨R, 0, none⟩ _ x (fun e => hx (by rw [e]; exact h.lR))
  have hsz : w.heap.size ≤ (w.setCell ⟨R, 0, none⟩ (.slice (some ⟨L, 0, none⟩) (lv ++ [q]).length cap)).heap.size := by simp [World.setCell]
  have hln : (lv ++ [q]).length = lv.length + 1 := by simp
  rw [hln] at hVP
  obtain ⟨VV, hVV⟩ := h.lvl lv.length q v (by simp) (by rw [hl]; simp)
  refine ⟨fun x => if lab x = lv.length + 1 + 2 then lv.length + 2 else lab x, ⟨bx_set h.bx, ?_, by simp [hl], fun k r x h1 h2 => ?_, ?_, ?_, h.bR⟩, ?_⟩
  · have r0 := owns_blkq h.row (w' := w.setCell ⟨R, 0, none⟩ (.slice (some ⟨L, 0, none⟩) (lv ++ [q]).length cap)) (fun g e => by cases e; exact keep L (by rw [h.lL]; decide))
    rw [lvC_snoc _ _ _ _ hl2] at r0
    rcases r0.2 with ⟨hn, _⟩ | ⟨g, c, cur, hv, hb, hh, h3, h4, h5, h6⟩
    · cases hn
    · injection hv with e1 _ e2
      injection e1 with e1
      injection e1 with e1
      subst e1; subst e2
      have hlen : (lvC (lv ++ [q]) (vs ++ [v])).length = (lv ++ [q]).length * 2 := lvC_len _ _ hl2
      have h3' : (lv ++ [q]).length ≤ cap := by
        have : ((lv ++ [q]) ++ [p]).length = (lv ++ [q]).length + 1 := by simp
        omega
      refine ⟨hlen, .inr ⟨L, cap, cur, rfl, hb, hh, h3', h4, h5, ?_⟩⟩
      have e := congrArg (List.take ((lv ++ [q]).length * 2)) h6
      rw [List.take_take, show min ((lv ++ [q]).length * 2) (((lv ++ [q]) ++ [p]).length * 2) = (lv ++ [q]).length * 2 by simp] at e
      rw [e, List.take_left' hlen]
  · have hkl : k < (lv ++ [q]).length := (List.getElem?_eq_some_iff.1 h1).1
    obtain ⟨V', hV'⟩ := h.lvl k r x (by rw [List.getElem?_append_left hkl]; exact h1) (by rw [List.getElem?_append_left (by rw [← hl2]; exact hkl)]; exact h2)
    exact ⟨V', hV'.kept hsz (fun y hy _ => keep y (by rw [hy]; omega)) (fun y hy _ => by rw [hy, if_neg (by rw [hln] at hkl; omega)])⟩
  · rw [if_neg (by rw [h.lR]; omega)]; exact h.lR
  · rw [if_neg (by rw [h.lL]; omega)]; exact h.lL
  · exact PT_kept (fun g hg _ => keep g (by rw [hg]; omega)) hsz (fun g hg _ => ⟨by show (if lab g = lv.length + 1 + 2 then lv.length + 2 else lab g) = lv.length + 2; rw [if_pos hg], fun e => by have := hVV.own g e; omega⟩) _ _ _ (Nat.le_refl _) hVP.pt
/-- The last item of the innermost block has a longer text. -/
theorem DM.text {w : World} {B R L cap g c : Nat} {lab : Nat → Nat} {lv : List (List UInt8 × List Tr)} {vs : List Value} {nm : List UInt8} {l : List Tr} {a : Tr} {V : List Value} {u : Value} {fl : Bool} (h : DM w B R L cap lab (lv ++ [(nm, l ++ [a])]) (vs ++ [.slice (some ⟨g, 0, none⟩) (l.length + 1) c]) fl)
    (hV : LV w B (fun x => lab x = lv.length + 2) (.slice (some ⟨g, 0, none⟩) (l.length + 1) c) (l ++ [a]) (V ++ [u])) (t : List UInt8) :
    DM (w.setCell ⟨g, l.length * 5 + 2, none⟩ (.string ⟨t.toArray⟩)) B R L cap lab (lv ++ [(nm, l ++ [a.withText t])]) (vs ++ [.slice (some ⟨g, 0, none⟩) (l.length + 1) c]) fl := by
  have hl := h.top.1
  have hg := hV.own g rfl
  have keep : ∀ x, lab x ≠ lv.length + 2 → (w.setCell ⟨g, l.length * 5 + 2, none⟩ (.string ⟨t.toArray⟩)).heap[x]? = w.heap[x]? := fun x hx => Below.heap_setCell w ⟨g, l.length * 5 + 2, none⟩ _ x (fun e => hx (by rw [e]; exact hg))
  refine ⟨?_, ?_, by simp [hl], fun k q x h1 h2 => ?_, h.lR, h.lL, h.bR⟩
  · have := h.bx
    unfold Bk at this ⊢
    rw [keep R (by rw [h.lR]; omega), this]; simp
  · have r1 := owns_blkq h.row (w' := w.setCell ⟨g, l.length * 5 + 2, none⟩ (.string ⟨t.toArray⟩)) (fun y e => by cases e; exact keep L (by rw [h.lL]; omega))
    rw [lvC_snoc _ _ _ _ hl] at r1 ⊢
    simpa using r1
  · by_cases hk : k < lv.length
    · rw [List.getElem?_append_left hk] at h1
      rw [List.getElem?_append_left (by omega)] at h2
      obtain ⟨V', hV'⟩ := h.lvl k q x (by rw [List.getElem?_append_left hk]; exact h1) (by rw [List.getElem?_append_left (by omega)]; exact h2)
      exact ⟨V', hV'.kept (by simp [World.setCell]) (fun y hy _ => keep y (by rw [hy]; omega)) (fun y hy _ => hy)⟩
    · have hk0 : k - lv.length = 0 := by rw [List.getElem?_append_right (by omega)] at h1; have := (List.getElem?_eq_some_iff.1 h1).1; simp at this; omega
      rw [List.getElem?_append_right (by omega), hk0] at h1
      rw [List.getElem?_append_right (by omega), ← hl, hk0] at h2
      simp at h1 h2; subst h1; subst h2
      have ke : k = lv.length := by omega
      subst ke
      exact ⟨_, hV.text t⟩
end Go.Proofs.YtpkgaidnpooahaaGreatDoor
