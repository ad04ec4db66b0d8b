/-
  My own text: are two rows of pairs the same? (printed by mkpx.py)
-/
import Derived.Test.YtegemfkadclnkaaPX1
namespace Go.Proofs.Ytegemfkadclnkaa
open Go.RowKit

theorem below_dq {B : Nat} {a w : World} (h : Below B a w) (n : Nat) : Below B a (w.drewN n) := h.trans ⟨rfl, rfl, rfl, Nat.le_refl _, fun _ _ => rfl⟩
theorem eqMk (a b c d : Int) (W : World) : (Op.equalIn 10000 25 (.agg #[.int .i64 a, .int .i64 b]) (.agg #[.int .i64 c, .int .i64 d])).run Try.prog W = .ok (a == c && b == d) W := eqPr (a, b) (c, d) W
theorem take_step {A B : List Pr} {k : Nat} {p : Pr} (h : A.take k = B.take k) (ha : A[k]? = some p) (hb : B[k]? = some p) : A.take (k + 1) = B.take (k + 1) := by
  rw [List.take_add_one, List.take_add_one, h, ha, hb]
theorem take_ne {A B : List Pr} {k : Nat} {p q : Pr} (ha : A[k]? = some p) (hb : B[k]? = some q) (h : ¬ p = q) : ¬ A = B := fun e => by
  rw [e, hb] at ha; exact h (Option.some.inj ha).symm
set_option maxRecDepth 100000 in
set_option maxHeartbeats 2000000 in
theorem sameM_any (va vb : Value) (A B : List Pr) (w : World) (ha : RM w va A) (hb : RM w vb B) (hl : A.length ≤ 4611686018427387904) (hl2 : B.length ≤ 4611686018427387904) :
    Calls Try.prog 19 #[va, vb] w fun e w' => e = .returned (.bool (decide (A = B))) ∧ Below w.heap.size w w' := by
  obtain ⟨aa, ca, rfl, _, hca⟩ := ha
  obtain ⟨ab, cb, rfl, _, hcb⟩ := hb
  have HA := hide hca
  have HB := hide hcb
  have HL := hide (And.intro hl hl2)
  have hg : Try.prog.eqGuardType Try.prog.depth 25 = false := by kernel_rfl
  clear hca hcb hl hl2
  by_cases hln : A.length = B.length
  · have hne : ((A.length : Int) != (B.length : Int)) = false := by rw [bne_eq_false_iff_eq, hln]
    obtain ⟨R, HR⟩ : ∃ R : Bool, Hid (decide (A = B) = R) := ⟨_, hide rfl⟩
    rw [HR.out]
    have HLN := hide hln
    rw [← hln]
    rw [← hln] at hne
    clear hln
    go_enter Try.func19, Try.ntmps19
    go_wp2_with fail
    go_loopw [5] (fun i wr => ∃ k : Nat, k ≤ A.length ∧ i = .int .i64 (k : Int) ∧ Hid (A.take k = B.take k) ∧ Hid (Below w.heap.size w wr)) (fun i _ => A.length - (intOf i).toNat)
    case atStart => exact ⟨0, Nat.zero_le _, rfl, hide (by rw [List.take_zero, List.take_zero]), hide (Below.refl _ _)⟩
    case round =>
      obtain ⟨k, hk, rfl, HT, HW⟩ := hrel
      by_cases hlt : k < A.length
      · obtain ⟨⟨N, Q⟩, hp⟩ : ∃ p, A[k]? = some p := ⟨_, List.getElem?_eq_getElem hlt⟩
        obtain ⟨⟨N2, Q2⟩, hp2⟩ : ∃ p, B[k]? = some p := ⟨_, List.getElem?_eq_getElem (by have := HLN.out; omega)⟩
        obtain ⟨g, off, rfl, hgl, hc⟩ := HA.out.resolve_left (fun h => by rw [h] at hlt; simp at hlt)
        obtain ⟨g', off', rfl, hgl', hc'⟩ := HB.out.resolve_left (fun h => by rw [h] at hp2; simp at hp2)
        have z1 : wr.cell? ⟨g, off + k * 2, none⟩ = some (.int .i64 N) := (HW.out.cell (p := ⟨g, _, none⟩) hgl).trans (hc k _ hp).1
        have z2 : wr.cell? ⟨g, off + k * 2 + 1, none⟩ = some (.int .i64 Q) := (HW.out.cell (p := ⟨g, _, none⟩) hgl).trans (hc k _ hp).2
        have z3 : wr.cell? ⟨g', off' + k * 2, none⟩ = some (.int .i64 N2) := (HW.out.cell (p := ⟨g', _, none⟩) hgl').trans (hc' k _ hp2).1
        have z4 : wr.cell? ⟨g', off' + k * 2 + 1, none⟩ = some (.int .i64 Q2) := (HW.out.cell (p := ⟨g', _, none⟩) hgl').trans (hc' k _ hp2).2
        have hd1 : decide ((k : Int) < (A.length : Int)) = true := by rw [decide_eq_true_eq]; omega
        have k0 : (0 : Int) ≤ (k : Int) := by omega
        have k1 : (k : Int) < (A.length : Int) := by omega
        have wk : wrap64 ((k : Int) + 1) = (k : Int) + 1 := by have := HL.out.1; unfold wrap64; omega
        have HP := hide (And.intro hp hp2)
        have ev := eqMk N Q N2 Q2
        clear hp hp2 hc hc'
        cases hE : (N == N2 && Q == Q2) with
        | true =>
          rw [hE] at ev
          have HT2 := hide (take_step HT.out HP.out.1 (by
            have h1 := HP.out.2
            rw [Bool.and_eq_true, beq_iff_eq, beq_iff_eq] at hE
            rw [h1, hE.1, hE.2]))
          clear hE HP
          go_wp2_with fail
          go_quiet (fail)
          have HW2 := hide (below_dq HW.out nq)
          go_wp2_with fail
          go_roundw
          case rel => exact ⟨k + 1, by omega, by go_num, HT2, HW2⟩
          case measure => first | (rw [wk]; simp [intOf]; omega) | (simp [intOf]; omega)
        | false =>
          rw [hE] at ev
          have HF := HR.out
          rw [decide_eq_false (take_ne HP.out.1 HP.out.2 (fun e => by
            rw [Prod.mk.injEq] at e
            rw [e.1, e.2] at hE
            simp at hE))] at HF
          subst HF
          clear hE HP
          go_wp2_with fail
          go_quiet (fail)
          have HW2 := hide (below_dq HW.out nq)
          go_wp2_with fail
          go_ret
          exact ⟨rfl, HW2.out⟩
      · have e : k = A.length := by omega
        subst e
        have HF := HR.out
        rw [decide_eq_true (by have h1 := HT.out; rw [List.take_length, HLN.out, List.take_length] at h1; exact h1)] at HF
        subst HF
        go_wp2_with fail
        go_ret
        exact ⟨rfl, HW.out⟩
  · have hne : ((A.length : Int) != (B.length : Int)) = true := by rw [bne_iff_ne]; omega
    rw [decide_eq_false (fun e => hln (by rw [e]))]
    have hne2 : ¬ (A.length : Int) = (B.length : Int) := by omega
    go_enter Try.func19, Try.ntmps19
    go_wp2_with fail
    go_ret
    exact ⟨rfl, Below.refl _ _⟩
end Go.Proofs.Ytegemfkadclnkaa
