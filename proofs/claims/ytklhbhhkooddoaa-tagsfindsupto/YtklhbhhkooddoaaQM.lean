/-
  My own text: lines of a text, mathematics.
-/
import Derived.Test.YtklhbhhkooddoaaQB2
namespace Go.Proofs.Ytklhbhhkooddoaa
open Go.RowKit

theorem pre_split {s sub : List UInt8} (h : sub.isPrefixOf s = true) : s = sub ++ s.drop sub.length := by
  obtain ⟨r, rfl⟩ := List.isPrefixOf_iff_prefix.1 h
  simp
theorem occ_split {s sub : List UInt8} {i : Nat} (h : Lib.occAt s sub i = true) : s = s.take i ++ sub ++ s.drop (i + sub.length) := by
  have h1 := pre_split (s := s.drop i) (sub := sub) h
  rw [List.drop_drop] at h1
  rw [List.append_assoc, ← h1, List.take_append_drop]
theorem cut_yes {s sep : List UInt8} (h : (Lib.cut s sep).2.2 = true) : s = (Lib.cut s sep).1 ++ sep ++ (Lib.cut s sep).2.1 := by
  unfold Lib.cut at h ⊢
  rcases Lib.index_spec s sep with ⟨h1, _⟩ | ⟨i, h1, h2, h3, _⟩
  · rw [h1] at h; simp at h
  · rw [h1, if_pos (by omega)]
    exact occ_split h3
theorem cut_no {s sep : List UInt8} (h : (Lib.cut s sep).2.2 = false) : (Lib.cut s sep).1 = s ∧ (Lib.cut s sep).2.1 = [] := by
  unfold Lib.cut at h ⊢
  split at h
  · simp at h
  · rw [if_neg (by assumption)]; exact ⟨rfl, rfl⟩
theorem own_yes {T : List UInt8} {b : Nat} (h : endL T b = true) : T.drop b = ownL T b ++ [10] ++ T.drop (nxtB T b) ∧ nxtB T b = b + (ownL T b).length + 1 := by
  obtain ⟨r, h1⟩ : ∃ r, T.drop b = ownL T b ++ [10] ++ r := ⟨_, cut_yes h⟩
  have hl : T.length - b = (ownL T b).length + 1 + r.length := by
    have := congrArg List.length h1
    rw [List.length_drop] at this; simp at this; omega
  have hn : nxtB T b = b + (ownL T b).length + 1 := by unfold nxtB; omega
  refine ⟨?_, hn⟩
  rw [hn]
  have h2 : T.drop (b + (ownL T b).length + 1) = r := by
    rw [Nat.add_assoc, ← List.drop_drop, h1, List.drop_left' (by simp)]
  rw [h2]; exact h1
theorem own_take {T : List UInt8} {b : Nat} (h : endL T b = true) : T.take (nxtB T b) = T.take b ++ ownL T b ++ [10] := by
  obtain ⟨h1, h2⟩ := own_yes h
  have e : T.take (nxtB T b) = T.take b ++ (T.drop b).take ((ownL T b).length + 1) := by rw [h2, Nat.add_assoc, List.take_add]
  rw [e, h1, List.take_left' (by simp), List.append_assoc]
/-- The last item, if it is a field, ends where the reading stands. -/
def TI (T : List UInt8) (l : List Tr) (b : Nat) : Prop := ∀ a, l.getLast? = some a → a.itm.tag.isEmpty = false → ∃ pre, T.take b = pre ++ a.itm.text ++ [10]
theorem TI.nil (T : List UInt8) (b : Nat) : TI T [] b := fun a h => by simp at h
theorem TI.block (T : List UInt8) (l : List Tr) (b : Nat) (nm : List UInt8) (k : List Tr) : TI T (l ++ [.mk ⟨[], [], [], nm⟩ k]) b := fun a h h2 => by
  simp at h; subst h; simp [Tr.itm] at h2
theorem TI.line {T : List UInt8} {b : Nat} (l : List Tr) (a : Tr) (pre : List UInt8) (h : endL T b = true) (ho : ownL T b = pre ++ a.itm.text) : TI T (l ++ [a]) (nxtB T b) := fun c hc _ => by
  simp at hc; subst hc
  exact ⟨T.take b ++ pre, by rw [own_take h, ho]; simp⟩
theorem TI.more {T : List UInt8} {b : Nat} {l : List Tr} {a : Tr} (ht : TI T (l ++ [a]) b) (hf : a.itm.tag.isEmpty = false) (h : endL T b = true) (hb : b ≤ T.length) :
    a.itm.text.length + 1 ≤ b ∧ b + (ownL T b).length ≤ T.length ∧ (T.drop (b - 1 - a.itm.text.length)).take (a.itm.text.length + 1 + (ownL T b).length) = a.itm.text ++ 10 :: ownL T b ∧ TI T (l ++ [a.withText (a.itm.text ++ 10 :: ownL T b)]) (nxtB T b) := by
  obtain ⟨pre, hp⟩ := ht a (by simp) hf
  obtain ⟨h1, h2⟩ := own_yes h
  have hl := congrArg List.length hp
  simp at hl
  have hl2 := congrArg List.length h1
  simp at hl2
  refine ⟨by omega, by omega, ?_, fun c hc _ => ?_⟩
  · have hT : T = pre ++ (a.itm.text ++ [10] ++ T.drop b) := by rw [← List.append_assoc, ← List.append_assoc, ← hp, List.take_append_drop]
    have e : T.drop (b - 1 - a.itm.text.length) = a.itm.text ++ [10] ++ T.drop b := by
      rw [show b - 1 - a.itm.text.length = pre.length by omega]
      conv => lhs; rw [hT]
      rw [List.drop_left]
    rw [e, h1]
    have e2 : a.itm.text ++ [10] ++ (ownL T b ++ [10] ++ T.drop (nxtB T b)) = (a.itm.text ++ 10 :: ownL T b) ++ ([10] ++ T.drop (nxtB T b)) := by simp
    rw [e2, List.take_left' (by simp; omega)]
  · simp at hc; subst hc
    exact ⟨pre, by rw [own_take h, hp]; simp [Tr.withText, Tr.itm]⟩
theorem fldI_text (tag rest : List UInt8) (len : Nat) (h : fldO tag rest len = none) : (fldI tag rest).tag = tag ∧ ∃ pre, rest = pre ++ (fldI tag rest).text := by
  unfold fldO at h
  unfold fldI
  cases hh : hdB rest with
  | false => exact ⟨rfl, [], by simp⟩
  | true =>
    rw [hh] at h
    simp only [Bool.not_true, Bool.false_eq_true, if_false] at h ⊢
    refine ⟨trivial, ?_⟩
    split at h
    · cases h
    · split at h
      · cases h
      · rename_i h3
        have hc : (Lib.cut (rest.drop 1) [47, 47]).2.2 = true := by
          cases hq : (Lib.cut (rest.drop 1) [47, 47]).2.2 with
          | true => rfl
          | false => rw [hq] at h3; simp at h3
        refine ⟨rest.take 1 ++ ((Lib.cut (rest.drop 1) [47, 47]).1 ++ [47, 47]), ?_⟩
        have := cut_yes hc
        rw [List.append_assoc, ← this, List.take_append_drop]
end Go.Proofs.Ytklhbhhkooddoaa
