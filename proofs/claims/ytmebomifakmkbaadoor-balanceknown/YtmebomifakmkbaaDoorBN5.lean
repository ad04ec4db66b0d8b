/-
  My own text: shown() of BalanceKnown, and the law (printed by mkbn5.py).
-/
import Derived.Test.YtmebomifakmkbaaDoorBN1
import Derived.Test.YtmebomifakmkbaaDoorBT
namespace Go.Proofs.YtmebomifakmkbaaDoor
open Go.RowKit

theorem mok7 : MOk [(7, 3)] := by
  intro p hp
  obtain rfl := List.mem_singleton.1 hp
  have htop : top = 9223372036854775807 := rfl
  refine ⟨?_, ?_, ?_, ?_⟩ <;> dsimp only <;> omega
theorem mok0 : MOk [] := fun p hp => by cases hp
theorem ans_ok {w w' : World} {s : List UInt8} {o : Out} {a : Int} {M : List Mk} {n : Nat} {e : Ending} (h : Ans w w' s o e) (ho : o = .ok a M) (hn : M.length = n) : ∃ ad c, e = .returned (.tuple #[.agg #[.int .i64 a, .slice ad n c], .nilIface]) ∧ RM w' (.slice ad n c) M := by
  subst ho
  obtain ⟨v, he, hO⟩ := h.ok
  obtain ⟨ad, c, e2⟩ := OM.slice hO
  subst e2
  subst hn
  exact ⟨ad, c, he, OM.rm hO⟩
theorem mk_a (W : World) : Calls Tryd.prog 28 #[.agg #[.int .i64 5, .slice Option.none 0 0], .int .i64 3, .int .i64 7] W fun e w' => ∃ ad c, e = .returned (.tuple #[.agg #[.int .i64 2, .slice ad 1 c], .nilIface]) ∧ RM w' (.slice ad 1 c) [(7, 3)] ∧ Below W.heap.size W w' :=
  (mark_any 5 3 7 _ [] W RM.none mok0 (by decide) (by decide) (by decide)).mono fun e w' ⟨hA, hb⟩ => by
    obtain ⟨ad, c, he, hr⟩ := ans_ok hA (show markO 5 [] 3 7 = .ok 2 [(7, 3)] from rfl) (n := 1) rfl
    exact ⟨ad, c, he, hr, hb⟩
theorem mk_b (W : World) (u : Value) (hu : RM W u [(7, 3)]) : Calls Tryd.prog 28 #[.agg #[.int .i64 2, u], .int .i64 1, .int .i64 4] W fun e w' => ∃ ad c, e = .returned (.tuple #[.agg #[.int .i64 1, .slice ad 2 c], .nilIface]) ∧ RM w' (.slice ad 2 c) [(4, 1), (7, 3)] ∧ Below W.heap.size W w' :=
  (mark_any 2 1 4 _ [(7, 3)] W hu mok7 (by decide) (by decide) (by decide)).mono fun e w' ⟨hA, hb⟩ => by
    obtain ⟨ad, c, he, hr⟩ := ans_ok hA (show markO 2 [(7, 3)] 1 4 = .ok 1 [(4, 1), (7, 3)] from rfl) (n := 2) rfl
    exact ⟨ad, c, he, hr, hb⟩
theorem db_c (W : World) (u : Value) (hu : RM W u [(7, 3)]) : Calls Tryd.prog 31 #[.agg #[.int .i64 2, u], .int .i64 4, .int .i64 7] W fun e w' => ∃ ad c, e = .returned (.tuple #[.agg #[.int .i64 1, .slice ad 0 c], .nilIface]) ∧ RM w' (.slice ad 0 c) [] ∧ Below W.heap.size W w' :=
  (debit_any 2 4 7 _ [(7, 3)] W hu mok7 (by decide) (by decide) (by decide)).mono fun e w' ⟨hA, hb⟩ => by
    obtain ⟨ad, c, he, hr⟩ := ans_ok hA (show debitO 2 [(7, 3)] 4 7 = .ok 1 [] from rfl) (n := 0) rfl
    exact ⟨ad, c, he, hr, hb⟩
theorem db_d (W : World) (u : Value) (hu : RM W u [(7, 3)]) : Calls Tryd.prog 31 #[.agg #[.int .i64 2, u], .int .i64 2, .int .i64 9] W fun e w' => ∃ ad c, e = .returned (.tuple #[.agg #[.int .i64 0, .slice ad 1 c], .nilIface]) ∧ RM w' (.slice ad 1 c) [(7, 3)] ∧ Below W.heap.size W w' :=
  (debit_any 2 2 9 _ [(7, 3)] W hu mok7 (by decide) (by decide) (by decide)).mono fun e w' ⟨hA, hb⟩ => by
    obtain ⟨ad, c, he, hr⟩ := ans_ok hA (show debitO 2 [(7, 3)] 2 9 = .ok 0 [(7, 3)] from rfl) (n := 1) rfl
    exact ⟨ad, c, he, hr, hb⟩
theorem um_u (W : World) (u : Value) (hu : RM W u [(7, 3)]) : Calls Tryd.prog 29 #[.agg #[.int .i64 2, u], .int .i64 3, .int .i64 7] W fun e w' => ∃ ad c, e = .returned (.tuple #[.agg #[.int .i64 5, .slice ad 0 c], .nilIface]) ∧ RM w' (.slice ad 0 c) [] ∧ Below W.heap.size W w' :=
  (unmark_any 2 3 7 _ [(7, 3)] W hu mok7 (by decide) (by decide) (by decide)).mono fun e w' ⟨hA, hb⟩ => by
    obtain ⟨ad, c, he, hr⟩ := ans_ok hA (show unmarkO 2 [(7, 3)] 3 7 = .ok 5 [] from rfl) (n := 0) rfl
    exact ⟨ad, c, he, hr, hb⟩
theorem um_f : ∃ F : Value, (∀ (W : World) (u : Value), RM W u [(7, 3)] → Calls Tryd.prog 29 #[.agg #[.int .i64 2, u], .int .i64 4, .int .i64 7] W fun e w' => e = .returned (.tuple #[posZ, F]) ∧ Below W.heap.size W w') ∧ (∀ W : World, ErrType W → Calls Tryd.prog 36 #[F, .int .i64 18] W fun e w' => e = .returned (.bool true) ∧ Below W.heap.size W w') := by
  refine ⟨refV [117, 110, 109, 97, 114, 107] (.iface 74 (.int .i64 18)), fun W u hu => ?_, fun W hE => (plain_rn [117, 110, 109, 97, 114, 107] 18 18 W (by decide) (by decide) hE).mono fun e w' ⟨he, hb⟩ => ⟨by rw [he]; rfl, hb⟩⟩
  have h := unmark_any 2 4 7 u [(7, 3)] W hu mok7 (by decide) (by decide) (by decide)
  rw [show unmarkO 2 [(7, 3)] 4 7 = .no 74 (.int .i64 18) from rfl] at h
  exact h
theorem um_g : ∃ F : Value, (∀ (W : World) (u : Value), RM W u [(7, 3)] → Calls Tryd.prog 29 #[.agg #[.int .i64 2, u], .int .i64 1, .int .i64 8] W fun e w' => e = .returned (.tuple #[posZ, F]) ∧ Below W.heap.size W w') ∧ (∀ W : World, ErrType W → Calls Tryd.prog 36 #[F, .int .i64 19] W fun e w' => e = .returned (.bool true) ∧ Below W.heap.size W w') := by
  refine ⟨refV [117, 110, 109, 97, 114, 107] (.iface 74 (.int .i64 19)), fun W u hu => ?_, fun W hE => (plain_rn [117, 110, 109, 97, 114, 107] 19 19 W (by decide) (by decide) hE).mono fun e w' ⟨he, hb⟩ => ⟨by rw [he]; rfl, hb⟩⟩
  have h := unmark_any 2 1 8 u [(7, 3)] W hu mok7 (by decide) (by decide) (by decide)
  rw [show unmarkO 2 [(7, 3)] 1 8 = .no 74 (.int .i64 19) from rfl] at h
  exact h
theorem cr_h : ∃ F : Value, (∀ (W : World) (u : Value), RM W u [(7, 3)] → Calls Tryd.prog 30 #[.agg #[.int .i64 9223372036854775804, u], .int .i64 1] W fun e w' => e = .returned (.tuple #[posZ, F]) ∧ Below W.heap.size W w') ∧ (∀ W : World, ErrType W → Calls Tryd.prog 36 #[F, .int .i64 9] W fun e w' => e = .returned (.bool true) ∧ Below W.heap.size W w') := by
  refine ⟨refV [99, 114, 101, 100, 105, 116] (.iface 74 (.int .i64 9)), fun W u hu => ?_, fun W hE => (plain_rn [99, 114, 101, 100, 105, 116] 9 9 W (by decide) (by decide) hE).mono fun e w' ⟨he, hb⟩ => ⟨by rw [he]; rfl, hb⟩⟩
  have h := credit_any 9223372036854775804 1 u [(7, 3)] W hu mok7 (by decide) (by decide) (by decide)
  rw [show creditO 9223372036854775804 [(7, 3)] 1 = .no 74 (.int .i64 9) from rfl] at h
  exact h
theorem ck_w : ∃ F : Value, (∀ (W : World) (u : Value), RM W u [(7, 1), (7, 1)] → Calls Tryd.prog 11 #[.agg #[.int .i64 0, u]] W fun e w' => e = .returned F ∧ Below W.heap.size W w') ∧ (∀ W : World, ErrType W → Calls Tryd.prog 35 #[F, .int .i64 1, .int .i64 0, .int .i64 1] W fun e w' => e = .returned (.bool true) ∧ Below W.heap.size W w') := by
  refine ⟨fltV 1 0 1, fun W u hu => ?_, fun W hE => at_fault 1 0 1 W (by decide) (by decide) hE⟩
  have h := check_any 0 u [(7, 1), (7, 1)] W hu (fun p hp => by
    have htop : top = 9223372036854775807 := rfl
    simp at hp
    subst hp
    refine ⟨?_, ?_, ?_, ?_⟩ <;> dsimp only <;> omega) (by decide) (by decide)
  rw [show ck 0 [(7, 1), (7, 1)] = (1, 1) from rfl] at h
  exact h
theorem ck_b : ∃ F : Value, (∀ (W : World) (u : Value), RM W u [(0, 0)] → Calls Tryd.prog 11 #[.agg #[.int .i64 (-1), u]] W fun e w' => e = .returned F ∧ Below W.heap.size W w') ∧ (∀ W : World, ErrType W → Calls Tryd.prog 35 #[F, .int .i64 1, .int .i64 0, .int .i64 (-1)] W fun e w' => e = .returned (.bool true) ∧ Below W.heap.size W w') := by
  refine ⟨fltV 1 0 (-1), fun W u hu => ?_, fun W hE => at_fault 1 0 (-1) W (by decide) (by decide) hE⟩
  have h := check_any (-1) u [(0, 0)] W hu (fun p hp => by
    have htop : top = 9223372036854775807 := rfl
    simp at hp
    subst hp
    refine ⟨?_, ?_, ?_, ?_⟩ <;> dsimp only <;> omega) (by decide) (by decide)
  rw [show ck (-1) [(0, 0)] = (1, (-1)) from rfl] at h
  exact h
theorem cv_7 (W : World) (u : Value) (hu : RM W u [(7, 3)]) : Calls Tryd.prog 18 #[.agg #[.int .i64 2, u], .int .i64 7] W fun e w' => e = .returned (.int .i64 5) ∧ Below W.heap.size W w' := by
  have h := cover_any 2 7 u [(7, 3)] W hu mok7 (by decide) (by decide)
  rw [show covV 2 [(7, 3)] 7 = 5 from rfl] at h
  exact h
theorem md_8 (W : World) (u : Value) (hu : RM W u [(7, 3)]) : Calls Tryd.prog 16 #[.agg #[.int .i64 2, u], .int .i64 8] W fun e w' => e = .returned (.int .i64 0) ∧ Below W.heap.size W w' := by
  have h := marked_any 2 8 u [(7, 3)] W hu mok7 (by decide) (by decide)
  rw [show mkdV 2 [(7, 3)] 8 = 0 from rfl] at h
  exact h
end Go.Proofs.YtmebomifakmkbaaDoor
