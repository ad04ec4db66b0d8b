/-
  My own text: orders in memory, by the program: New, Left, payable, Take.
-/
import Derived.Test.YtmojckejjjlkjabY2
import Derived.Test.YtmojckejjjlkjabGWR
import Derived.Test.YtmojckejjjlkjabSEP
import Derived.Test.YtmojckejjjlkjabGr0
namespace Go.Proofs.Ytmojckejjjlkjab
open Go.RowKit

/-- An order. -/
structure Od where
  Q : Int
  A : Int
  L : Int
  K : Int
  D : Int
  P : List (Int × Int)
structure Od.Ok (o : Od) : Prop where
  Q0 : 0 < o.Q
  Q1 : o.Q ≤ 9223372036854775807
  A0 : 0 ≤ o.A
  A1 : o.A ≤ 9223372036854775807
  L0 : 0 < o.L
  L1 : o.L ≤ 9223372036854775807
  K0 : 0 ≤ o.K
  K1 : o.K ≤ 9223372036854775807
  D0 : 0 ≤ o.D
  DQ : o.D ≤ o.Q
/-- .. in memory: its box, and its parts. -/
structure OB (w : World) (g : Nat) (o : Od) (pv : Value) : Prop where
  box : w.heap[g]? = some (.cells #[.int .i64 o.Q, .int .i64 o.A, .int .i64 o.L, .int .i64 o.K, .int .i64 o.D, pv] 46 (0, 0))
  row : TL.OM w 0 pv o.P
  nl : o.P = [] → pv = .slice none 0 0
theorem six_cells {w : World} {o : Obj} {a b c d e f : Value} {t : TypeId} {g : Nat} (h : w.heap[g]? = some o) (ho : o = .cells #[a, b, c, d, e, f] t (0, 0)) : w.cell? ⟨g, 0, none⟩ = some a ∧ w.cell? ⟨g, 1, none⟩ = some b ∧ w.cell? ⟨g, 2, none⟩ = some c ∧ w.cell? ⟨g, 3, none⟩ = some d ∧ w.cell? ⟨g, 4, none⟩ = some e ∧ w.cell? ⟨g, 5, none⟩ = some f := by
  subst ho
  exact ⟨by rw [cell_of_row _ _ 0 _ _ _ h]; rfl, by rw [cell_of_row _ _ 1 _ _ _ h]; rfl, by rw [cell_of_row _ _ 2 _ _ _ h]; rfl, by rw [cell_of_row _ _ 3 _ _ _ h]; rfl, by rw [cell_of_row _ _ 4 _ _ _ h]; rfl, by rw [cell_of_row _ _ 5 _ _ _ h]; rfl⟩
theorem setB {w : World} {g : Nat} {cs cs' : Array Value} {t : TypeId} (h : w.heap[g]? = some (.cells cs t (0, 0))) (i : Nat) (v : Value) (hc : cs.setIfInBounds i v = cs') : (w.setCell ⟨g, i, none⟩ v).heap[g]? = some (.cells cs' t (0, 0)) := by
  rw [setCell_eq_setRow w g i cs t (0, 0) v h, setRow_heap _ _ _ _ _ _ h, hc]
theorem nofz {w : World} {g : Nat} {cs : Array Value} {t : TypeId} (h : w.heap[g]? = some (.cells cs t (0, 0))) (i : Nat) : w.frozen? ⟨g, i, none⟩ = false := by unfold World.frozen?; simp [h]
theorem FS.trans {O : Nat → Prop} {w w1 w2 : World} (h : FS O w w1) (k : FS O w1 w2) : FS O w w2 :=
  ⟨k.os.trans h.os, k.tape.trans h.tape, k.output.trans h.output, Nat.le_trans h.size k.size, fun y hy hn => (k.block y (Nat.lt_of_lt_of_le hy h.size) hn).trans (h.block y hy hn)⟩
theorem OB.ne {w : World} {g : Nat} {o : Od} {pv : Value} (h : OB w g o pv) {x : Nat} (hx : pv.ownBlock = some x) : x ≠ g := by
  intro e
  subst e
  obtain ⟨c, fz, hk⟩ := ownsRow_kind h.row x hx
  rw [h.box] at hk
  cases hk
theorem OB.lt {w : World} {g : Nat} {o : Od} {pv : Value} (h : OB w g o pv) : g < w.heap.size := (Array.getElem?_eq_some_iff.1 h.box).1
theorem OB.later {w w' : World} {g : Nat} {o : Od} {pv : Value} (h : OB w g o pv) (hb : Below w.heap.size w w') : OB w' g o pv :=
  ⟨(hb.block g (Array.getElem?_eq_some_iff.1 h.box).1).trans h.box, h.row.later hb, h.nl⟩
/-- What settled has grown. -/
theorem OB.setD {w : World} {g : Nat} {o : Od} {pv : Value} (h : OB w g o pv) (D : Int) : OB (w.setCell ⟨g, 4, none⟩ (.int .i64 D)) g { o with D := D } pv :=
  ⟨setB h.box 4 _ rfl, owns_blk h.row (fun x hx => Below.heap_setCell _ _ _ _ (by simpa using h.ne hx)), h.nl⟩
/-- The parts have another row. -/
theorem OB.setP {w : World} {g : Nat} {o : Od} {pv v : Value} {P : List (Int × Int)} (hb : w.heap[g]? = some (.cells #[.int .i64 o.Q, .int .i64 o.A, .int .i64 o.L, .int .i64 o.K, .int .i64 o.D, pv] 46 (0, 0))) (hr : TL.OM w 0 v P) (hn : ∀ x, v.ownBlock = some x → x ≠ g) (h0 : P ≠ []) : OB (w.setCell ⟨g, 5, none⟩ v) g { o with P := P } v :=
  ⟨setB hb 5 _ rfl, owns_blk hr (fun x hx => Below.heap_setCell _ _ _ _ (by simpa using hn x hx)), fun e => absurd e h0⟩
/-- What Left answers. -/
def Od.lq (o : Od) : Int := o.Q - o.D
def Od.lm (o : Od) : Int := o.A - sh o.A o.D o.Q
set_option maxHeartbeats 1000000 in
theorem left_any (g : Nat) (o : Od) (pv : Value) (w : World) (h : OB w g o pv) (ok : o.Ok) :
    Calls Try.prog 12 #[.pointer (some ⟨g, 0, none⟩)] w fun e w' => e = .returned (.tuple #[.int .i64 o.lq, .int .i64 o.lm]) ∧ Below w.heap.size w w' := by
  have g0 : ∀ x : Gr w, x.1.cell? ⟨g, 0, none⟩ = some (.int .i64 o.Q) := fun x => (six_cells (h.later x.2).box rfl).1
  have g1 : ∀ x : Gr w, x.1.cell? ⟨g, 1, none⟩ = some (.int .i64 o.A) := fun x => (six_cells (h.later x.2).box rfl).2.1
  have g4 : ∀ x : Gr w, x.1.cell? ⟨g, 4, none⟩ = some (.int .i64 o.D) := fun x => (six_cells (h.later x.2).box rfl).2.2.2.2.1
  have C := fun w => share_any o.A o.D o.Q 0 w ok.A1 (by have := ok.DQ; have := ok.Q1; omega) ok.Q1
  rw [md_down ok.A0 ok.A1 ok.D0 ok.DQ ok.Q0] at C
  have b := sh_bnd ok.A0 ok.D0 ok.DQ ok.Q0
  have w1 : wrap64 (o.Q - o.D) = o.lq := by have := ok.DQ; have := ok.D0; have := ok.Q1; unfold Od.lq wrap64; omega
  have w2 : wrap64 (o.A - sh o.A o.D o.Q) = o.lm := by have := ok.A1; have := ok.A0; unfold Od.lm wrap64; omega
  obtain ⟨q, hq⟩ : ∃ q, o.lq = q := ⟨_, rfl⟩
  obtain ⟨m, hm⟩ : ∃ m, o.lm = m := ⟨_, rfl⟩
  rw [hq] at w1
  rw [hm] at w2
  rw [hq, hm]
  clear hq hm b ok h
  have HC := hide C
  clear C
  go_enter Try.func12, Try.ntmps12
  go_wp2_with fail
  have HG0 := hide ((Below.refl w.heap.size w).drew)
  haveI : Nonempty (Gr w) := ⟨⟨_, HG0.out⟩⟩
  refine region_class (C := fun w' => ∃ x : Gr w, w' = x.1) (by kernel_rfl) (by kernel_rfl) ⟨⟨_, HG0.out⟩, rfl⟩ ?_
  repeat (first
    | go_big_quiet_skip
    | (go_big_quiet_want; (go_big_quiet_op; first
        | go_big_quiet_on
        | (apply Exists.intro; refine ⟨fun x => ?_, ?_⟩; (first
            | (go_at_call 18; exact x.call (HC.out x.1))
            ); go_big_quiet_on))))
  refine wpQuiet_nil ?_
  rintro w9 ⟨x, rfl⟩
  obtain ⟨w9, hx9⟩ := x
  dsimp only
  clear HG0 this
  clear g0 g1 g4
  go_wp2_with fail
  go_ret2
  exact ⟨by rw [← w1, ← w2]; rfl, hx9⟩
/-- What there is of too much money, as a sum. -/
theorem too_much {A S c : Int} (h0 : 0 ≤ S) (h1 : S ≤ A) (h2 : 0 ≤ c) (h3 : ¬ A - S ≤ c) (h4 : A ≤ 9223372036854775807) : wrap64 (A - (A - S)) = S ∧ wrap64 (S + c) = S + c ∧ wrap64 (S + c + 1) = S + c + 1 ∧ 0 < A ∧ 0 ≤ S + c + 1 ∧ S + c + 1 ≤ A := by
  unfold wrap64; omega
theorem pay_nums {x D r Q : Int} (hr : x - 1 - D = r) (h0 : 0 ≤ r) (h1 : r ≤ Q - D) (h2 : 0 ≤ D) (h3 : Q ≤ 9223372036854775807) : wrap64 (x - 1) = x - 1 ∧ wrap64 (x - 1 - D) = r := by
  unfold wrap64; omega
set_option maxHeartbeats 1000000 in
theorem payable_any (g : Nat) (o : Od) (pv : Value) (c : Int) (w : World) (h : OB w g o pv) (ok : o.Ok) (hc0 : 0 ≤ c) :
    Calls Try.prog 17 #[.pointer (some ⟨g, 0, none⟩), .int .i64 c] w fun e w' => e = .returned (.int .i64 (pay o.Q o.A o.D c)) ∧ Below w.heap.size w w' := by
  have HL := hide (left_any g o pv w h ok)
  have HO := hide h
  have b := sh_bnd ok.A0 ok.D0 ok.DQ ok.Q0
  have pb := pay_bnd ok.Q0 ok.A0 ok.D0 ok.DQ hc0
  obtain ⟨r, hr⟩ : ∃ r, pay o.Q o.A o.D c = r := ⟨_, rfl⟩
  rw [hr] at pb ⊢
  by_cases k : o.A - sh o.A o.D o.Q ≤ c
  · have e : r = o.lq := by rw [← hr]; unfold pay Od.lq; rw [if_pos k]
    have d1 : decide (o.lm ≤ c) = true := decide_eq_true k
    rw [e]
    clear hr pb b k h e
    obtain ⟨q, hq⟩ : ∃ q, o.lq = q := ⟨_, rfl⟩
    obtain ⟨m, hm⟩ : ∃ m, o.lm = m := ⟨_, rfl⟩
    rw [hq, hm] at HL
    rw [hm] at d1
    rw [hq]
    clear hq hm
    go_enter Try.func17, Try.ntmps17
    go_wp2_with fail
    refine HL.out.mono ?_
    rintro e w1 ⟨rfl, hb1⟩
    go_wp2_with fail
    go_ret
    exact ⟨rfl, hb1⟩
  · have e : cl (o.Q * (sh o.A o.D o.Q + c + 1)) o.A - 1 - o.D = r := by rw [← hr]; unfold pay; rw [if_neg k]
    obtain ⟨t1, t2, t3, t4, t5, t6⟩ := too_much b.1 b.2 hc0 k ok.A1
    obtain ⟨p1, p2⟩ := pay_nums e pb.1 pb.2 ok.D0 ok.Q1
    have d1 : decide (o.lm ≤ c) = false := decide_eq_false k
    have C := fun w => share_any o.Q (sh o.A o.D o.Q + c + 1) o.A 1 w ok.Q1 (by have := ok.A1; omega) ok.A1
    rw [md_up (by have := ok.Q0; omega) ok.Q1 t5 t6 t4] at C
    have HC := hide C
    rw [show o.A - (o.A - sh o.A o.D o.Q) = o.A - o.lm from rfl] at t1
    clear C hr pb b k h e t4 t5 t6
    obtain ⟨q, hq⟩ : ∃ q, o.lq = q := ⟨_, rfl⟩
    obtain ⟨m, hm⟩ : ∃ m, o.lm = m := ⟨_, rfl⟩
    rw [hq, hm] at HL
    rw [hm] at d1 t1
    clear hq hm
    obtain ⟨S, hS⟩ : ∃ S, sh o.A o.D o.Q = S := ⟨_, rfl⟩
    rw [hS] at t1 t2 t3 p1 p2 HC
    clear hS
    obtain ⟨u, hu⟩ : ∃ u, S + c = u := ⟨_, rfl⟩
    rw [hu] at t2 t3 p1 p2 HC
    obtain ⟨v, hv⟩ : ∃ v, u + 1 = v := ⟨_, rfl⟩
    rw [hv] at t3 p1 p2 HC
    obtain ⟨x, hx⟩ : ∃ x, cl (o.Q * v) o.A = x := ⟨_, rfl⟩
    rw [hx] at p1 p2 HC
    obtain ⟨y, hy⟩ : ∃ y, x - 1 = y := ⟨_, rfl⟩
    rw [hy] at p1 p2
    clear hx
    go_enter Try.func17, Try.ntmps17
    go_wp2_with fail
    refine HL.out.mono ?_
    rintro e w1 ⟨rfl, hb1⟩
    have HB1 := hide hb1
    have h1 := HO.out.later hb1
    have g0 : ∀ x : Gr w1, x.1.cell? ⟨g, 0, none⟩ = some (.int .i64 o.Q) := fun x => (six_cells (h1.later x.2).box rfl).1
    have g1 : ∀ x : Gr w1, x.1.cell? ⟨g, 1, none⟩ = some (.int .i64 o.A) := fun x => (six_cells (h1.later x.2).box rfl).2.1
    have g4 : ∀ x : Gr w1, x.1.cell? ⟨g, 4, none⟩ = some (.int .i64 o.D) := fun x => (six_cells (h1.later x.2).box rfl).2.2.2.2.1
    have f1 : w1.cell? ⟨g, 1, none⟩ = some (.int .i64 o.A) := (six_cells h1.box rfl).2.1
    clear HL hb1 h1
    go_wp2_with fail
    have HG0 := hide ((Below.refl w1.heap.size w1).drew)
    haveI : Nonempty (Gr w1) := ⟨⟨_, HG0.out⟩⟩
    refine region_class (C := fun w' => ∃ x : Gr w1, w' = x.1) (by kernel_rfl) (by kernel_rfl) ⟨⟨_, HG0.out⟩, rfl⟩ ?_
    repeat (first
      | go_big_quiet_skip
      | (go_big_quiet_want; (go_big_quiet_op; first
          | go_big_quiet_on
          | (apply Exists.intro; refine ⟨fun x => ?_, ?_⟩; (first
              | (go_at_call 18; exact x.call (HC.out x.1))
              ); go_big_quiet_on))))
    refine wpQuiet_nil ?_
    rintro w9 ⟨x, rfl⟩
    obtain ⟨w9, hx9⟩ := x
    dsimp only
    clear HG0 this
    clear g0 g1 g4
    go_wp2_with fail
    go_ret
    exact ⟨by rw [← p2]; rfl, HB1.out.trans (hx9.mono HB1.out.size)⟩
end Go.Proofs.Ytmojckejjjlkjab
