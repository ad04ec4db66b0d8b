/-
  My own text: layer 22: sides that match by fields match by faces; the mathematics.
-/
import Derived.Test.YtdfhfjkcafchiaaDoorMFa
namespace Go.Proofs.YtdfhfjkcafchiaaDoor
open Go.RowKit LC

/-- The face of a notice that an office has sent. -/
def faceF (n : Ntc) (q : Q4) : Fc := ⟨n.tr, n.st, n.code, n.qty, n.py, if n.py then n.cur else [], if n.rc then n.oth else n.acc, if n.rc then n.acc else n.oth, if n.rc then bq n.agt else q, if n.rc then q else bq n.agt⟩
/-- Do two faces differ? -/
def nfB (f g : Fc) : Bool := !decide (f.tr = g.tr ∧ f.st = g.st ∧ f.code = g.code ∧ f.qty = g.qty ∧ f.py = g.py ∧ f.cur = g.cur ∧ f.a0 = g.a0 ∧ f.a1 = g.a1 ∧ f.q0 = g.q0 ∧ f.q1 = g.q1)
/-- What the program's Fit answers. -/
def mfV (p : Int) (n : Ntc) (q : Int) (m : Ntc) (bs : List (List UInt8)) (t : Int) : Int × Bool :=
  if n.rc || (!m.rc || (n.cn || m.cn)) then (0, false)
  else if !whB (faceF n (oA bs p)) || (nfB (faceF n (oA bs p)) (faceF m (oA bs q)) || !neB n m t) then (0, false) else (wth n, true)
theorem bq_iff (l : List UInt8) : bq l ≠ qZ ↔ (LC.formR l (LC.bicF l)).1 = 0 := by
  constructor
  · intro h
    by_cases e : (LC.formR l (LC.bicF l)).1 = 0
    · exact e
    · exact absurd (by unfold bq; rw [if_neg e]; rfl) h
  · intro e h
    unfold bq at h
    rw [if_pos e] at h
    have hl : l.length = (LC.bicF l).length := by
      rcases LC.form_cases l (LC.bicF l) with ⟨h1, _⟩ | ⟨_, h1⟩
      · exact h1.1
      · exact absurd e h1
    have h8 : 8 ≤ (LC.bicF l).length := by unfold LC.bicF; split <;> simp [LC.bic8, LC.bic11]
    unfold qZ at h
    injection h with h1 _
    have h2 := congrArg List.length h1
    rw [List.length_take, List.length_nil] at h2
    omega
theorem is_iff (bs : List (List UInt8)) (p : Int) (l : List UInt8) : isB bs p l = true ↔ (bq l = oA bs p ∧ bq l ≠ qZ) := by
  unfold isB oA
  by_cases h0 : p < 0
  · rw [if_pos h0, if_pos h0]
    simp [qZ]
  · rw [if_neg h0, if_neg h0]
    cases hb : bs[p.toNat]? with
    | none => simp [qZ]
    | some s =>
      dsimp only
      unfold sbB
      simp only [Bool.and_eq_true, decide_eq_true_eq]
      constructor
      · rintro ⟨_, h2, h3⟩
        exact ⟨h3.symm, (bq_iff l).2 h2⟩
      · rintro ⟨h3, h2⟩
        exact ⟨(bq_iff s).1 (by rw [← h3]; exact h2), (bq_iff l).1 h2, h3.symm⟩
/-- Both say the same. -/
theorem fit_same (p : Int) (n : Ntc) (q : Int) (m : Ntc) (bs : List (List UInt8)) (t : Int) : fitV p n q m bs t = mfV p n q m bs t := by
  have h1 := is_iff bs q n.agt
  have h2 := is_iff bs p m.agt
  obtain ⟨ref, prev, cn, rc, py, tr, st, code, qty, acc, agt, oth, amt, cur, pri⟩ := n
  obtain ⟨ref2, prev2, cn2, rc2, py2, tr2, st2, code2, qty2, acc2, agt2, oth2, amt2, cur2, pri2⟩ := m
  dsimp only at h1 h2
  unfold fitV mfV faceF nfB whB neB wth
  dsimp only
  cases rc
  case true => simp
  cases rc2
  case false => simp
  cases cn
  case true => simp
  cases cn2
  case true => simp
  simp only [Bool.false_eq_true, if_false, Bool.true_eq_false, if_true, Bool.or_false, Bool.not_true]
  by_cases e1 : tr = tr2
  case neg => simp [e1]
  by_cases e2 : st = st2
  case neg => simp [e2]
  by_cases e3 : code = code2
  case neg => simp [e3]
  by_cases e4 : qty = qty2
  case neg => simp [e4]
  by_cases e5 : py = py2
  case neg => simp [e5]
  by_cases e6 : acc = oth2
  case neg => simp [e6]
  by_cases e7 : oth = acc2
  case neg => simp [e7]
  subst e1 e2 e3 e4 e5 e6 e7
  cases i1 : isB bs q agt with
  | false =>
    rw [i1] at h1
    by_cases w : bq agt = qZ
    · simp [w]
    · have hn : ¬ bq agt = oA bs q := fun e => by
        have := h1.2 ⟨e, w⟩
        simp at this
      simp [hn]
  | true =>
    obtain ⟨a1, a2⟩ := h1.1 i1
    cases i2 : isB bs p agt2 with
    | false =>
      rw [i2] at h2
      by_cases w : oA bs p = qZ
      · simp [w]
      · have hn : ¬ oA bs p = bq agt2 := fun e => by
          have := h2.2 ⟨e.symm, by rw [← e]; exact w⟩
          simp at this
        simp [hn]
    | true =>
      obtain ⟨b1, b2⟩ := h2.1 i2
      have b3 : ¬ oA bs p = qZ := by rw [← b1]; exact b2
      cases py with
      | false => simp [a1, b1, b3]; rw [← a1]; exact a2
      | true =>
        have a3 : ¬ oA bs q = qZ := by rw [← a1]; exact a2
        by_cases e8 : cur = cur2
        · subst e8
          cases e9 : nrB amt amt2 t <;> simp [a1, b1, b3, a3]
        · simp [e8]
end Go.Proofs.YtdfhfjkcafchiaaDoor
