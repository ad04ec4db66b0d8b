/-
  My own text: Parse; what it reads, Print writes.
-/
import Derived.Test.YtklhbhhkooddoaaQG
namespace Go.Proofs.Ytklhbhhkooddoaa
open Go.RowKit

/-- The reading of a whole text. -/
def rdT (T : List UInt8) : Res := rd T (T.length + 1) 0 [] [] 1 0
theorem rdT_good (T : List UInt8) : Good T 0 (rdT T) := rd_good T (T.length + 1) 0 [] [] 1 0 (Nat.zero_le _) (by omega)
theorem rdT_calls (T : List UInt8) (hT : T.length ≤ 1048576) (p t q : Nat) (W : World) (hN : NS W p t q T 1 0) (hA : Apt p t q) (hm : ML W) :
    Calls Try.prog 41 #[.agg (rdC T (nxF p t q)), .int .i64 0, .string ⟨#[]⟩] W fun e w' => Mv p q W w' ∧ Out p t q T W w' e 0 (rdT T) := by
  have h := ritems_any p t q T hA hT (T.length + 1) 0 [] 1 0 W (by omega) (by omega) hN (Nat.zero_le _) (by omega) hm (fun a b c e => by
    have hg := rdT_good T
    unfold rdT at hg
    rw [e] at hg; exact hg)
  exact h
theorem readsOk {T : List UInt8} {l : List Tr} {n b : Nat} (hT : T.length ≤ 1048576) (h : rdT T = .ok l n b) : ReadsOk T l := fun p t q W hN hA hm => by
  refine (rdT_calls T hT p t q W hN hA hm).mono ?_
  rintro e w' ⟨h1, h2⟩
  rw [h] at h2
  obtain ⟨a, cap, h3, h4, _⟩ := h2
  exact ⟨h1, a, cap, h3, h4⟩
theorem readsBad {T : List UInt8} {no n at_ : Int} (hT : T.length ≤ 1048576) (h : rdT T = .bad no n at_) : ReadsBad T no n at_ := fun p t q W hN hA hm => by
  refine (rdT_calls T hT p t q W hN hA hm).mono ?_
  rintro e w' ⟨h1, h2⟩
  rw [h] at h2
  exact ⟨h1, h2⟩
theorem rdT_text {T : List UInt8} {l : List Tr} {n b : Nat} (h : rdT T = .ok l n b) : errL l 0 = 0 ∧ txtL l = T := by
  have r := rd_ok T (T.length + 1) 0 [] [] 1 0 l n b h (Nat.zero_le _) (by omega) rfl
  obtain ⟨s, e1, e2⟩ := r.txt
  have hb := r.fin rfl
  rw [hb, List.drop_of_length_le (Nat.le_refl _), List.append_nil, List.drop_zero] at e1
  rw [if_pos rfl, List.append_nil] at e2
  refine ⟨r.err, ?_⟩
  rw [e2, e1]; simp [txtL]
theorem wts_txt : ∀ (D : Nat) (l : List Tr) (d : Int), wts l ≤ D → errL l d = 0 → wts l ≤ (txtL l).length := by
  intro D
  induction D using Nat.strongRecOn with
  | ind D ih =>
    intro l
    induction l with
    | nil => intro d _ _; simp [wts]
    | cons a r ihr =>
      intro d hD he
      obtain ⟨g1, g2⟩ := errL_left (x := [a]) (y := r) he
      rw [errL_one] at g1
      rw [wts_cons] at hD ⊢
      have hw := wt_eq a
      have h2 := ihr d (by omega) g2
      have e := errI_eq a d
      rw [g1] at e
      have hi : itemE a.itm a.kids.length d = 0 := by
        by_cases hz : itemE a.itm a.kids.length d = 0
        · exact hz
        · rw [if_pos hz] at e; exact absurd e.symm hz
      rw [txtL, List.length_append, txtI_eq]
      cases hta : a.itm.tag.isEmpty with
      | false =>
        rw [itemE_field hta] at hi
        obtain ⟨_, _, q3, q4, _⟩ := fE_zero hi
        have n0 : a.itm.name.length = 0 := by rw [List.isEmpty_iff] at q3; rw [q3]; rfl
        have k0 : wts a.kids = 0 := by
          have := of_decide_eq_true q4
          rw [List.length_eq_zero_iff.1 this]; simp [wts]
        simp only [Bool.not_false, if_true]
        have hf : 1 + a.itm.tag.length + a.itm.qual.length + a.itm.text.length ≤ (fT a.itm).length := by
          unfold fT
          cases hq : a.itm.qual with
          | nil => simp; omega
          | cons x y => simp; omega
        omega
      | true =>
        rw [hta] at e
        rw [hi] at e
        simp only [ne_eq, not_true, if_false, Bool.not_true, Bool.false_eq_true] at e
        have h3 := ih (wts a.kids) (by omega) a.kids (d + 1) (Nat.le_refl _) e.symm
        have hne : a.itm.name.isEmpty = false := by
          cases hn : a.itm.name.isEmpty with
          | false => rfl
          | true => rw [itemE_none hta hn] at hi; omega
        rw [itemE_block hta hne] at hi
        unfold blockE bE at hi
        have hq : a.itm.qual.isEmpty = true := by
          cases hn : a.itm.qual.isEmpty with
          | true => rfl
          | false => rw [hn] at hi; split at hi <;> simp at hi
        have htx : a.itm.text.isEmpty = true := by
          cases hn : a.itm.text.isEmpty with
          | true => rfl
          | false => rw [hn] at hi; split at hi <;> simp at hi
        rw [List.isEmpty_iff] at hq htx hta
        simp only [Bool.not_true, Bool.false_eq_true, if_false, bO, bC, List.length_append, List.length_cons, List.length_nil]
        rw [hta, hq, htx] at hw
        simp only [List.length_nil] at hw
        omega
theorem rdT_print {T : List UInt8} {l : List Tr} {n b : Nat} (hT : T.length ≤ 1048576) (h : rdT T = .ok l n b) : prE l = 0 ∧ prT l = T ∧ wts l ≤ T.length := by
  obtain ⟨h1, h2⟩ := rdT_text h
  have h3 : prE l = 0 := by unfold prE; rw [h1, h2]; simp; omega
  refine ⟨h3, by unfold prT; rw [h3]; simp [h2], ?_⟩
  have := wts_txt (wts l) l 0 (Nat.le_refl _) h1
  rw [h2] at this; exact this
end Go.Proofs.Ytklhbhhkooddoaa
