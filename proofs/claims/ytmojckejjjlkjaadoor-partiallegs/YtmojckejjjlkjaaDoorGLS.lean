/-
  My own text: are two rows of Legs the same? A row copied (printed by mkrow16.py out of PX4).
-/
import Derived.Test.YtmojckejjjlkjaaDoorGLR
namespace Go.Proofs.YtmojckejjjlkjaaDoor.LG
open Go.RowKit

theorem take_step {A B : List El} {k : Nat} {p : El} (h : A.take k = B.take k) (ha : A[k]? = some p) (hb : B[k]? = some p) : A.take (k + 1) = B.take (k + 1) := by
  rw [List.take_add_one, List.take_add_one, h, ha, hb]
theorem take_ne {A B : List El} {k : Nat} {p q : El} (ha : A[k]? = some p) (hb : B[k]? = some q) (h : ¬ p = q) : ¬ A = B := fun e => by
  rw [e, hb] at ha; exact h (Option.some.inj ha).symm
set_option maxRecDepth 100000 in
set_option maxHeartbeats 2000000 in
theorem sameM_any (va vb : Value) (A B : List El) (w : World) (ha : RM w va A) (hb : RM w vb B) (hl : A.length ≤ 4611686018427387904) (hl2 : B.length ≤ 4611686018427387904) :
    Calls Tryd.prog 23 #[va, vb] w fun e w' => e = .returned (.bool (decide (A = B))) ∧ Below w.heap.size w w' := by
  obtain ⟨aa, ca, rfl, _, hca⟩ := ha
  obtain ⟨ab, cb, rfl, _, hcb⟩ := hb
  have HA := hide hca
  have HB := hide hcb
  have HL := hide (And.intro hl hl2)
  have hg : Tryd.prog.eqGuardType Tryd.prog.depth 83 = false := by kernel_rfl
  clear hca hcb hl hl2
  by_cases hln : A.length = B.length
  · have hne : ((A.length : Int) != (B.length : Int)) = false := by rw [bne_eq_false_iff_eq, hln]
    obtain ⟨R, HR⟩ : ∃ R : Bool, Hid (decide (A = B) = R) := ⟨_, hide rfl⟩
    rw [HR.out]
    have HLN := hide hln
    rw [← hln]
    rw [← hln] at hne
    clear hln
    go_enter Tryd.func23, Tryd.ntmps23
    go_wp2_with fail
    go_loopw [5] (fun i wr => ∃ k : Nat, k ≤ A.length ∧ i = .int .i64 (k : Int) ∧ Hid (A.take k = B.take k) ∧ Hid (Below w.heap.size w wr)) (fun i _ => A.length - (intOf i).toNat)
    case atStart => exact ⟨0, Nat.zero_le _, rfl, hide (by rw [List.take_zero, List.take_zero]), hide (Below.refl _ _)⟩
    case round =>
      obtain ⟨k, hk, rfl, HT, HW⟩ := hrel
      by_cases hlt : k < A.length
      · obtain ⟨⟨N0, N1, N2, N3, N4⟩, hp⟩ : ∃ p, A[k]? = some p := ⟨_, List.getElem?_eq_getElem hlt⟩
        obtain ⟨⟨M0, M1, M2, M3, M4⟩, hp2⟩ : ∃ p, B[k]? = some p := ⟨_, List.getElem?_eq_getElem (by have := HLN.out; omega)⟩
        obtain ⟨g, off, rfl, hgl, hc⟩ := HA.out.resolve_left (fun h => by rw [h] at hlt; simp at hlt)
        obtain ⟨g', off', rfl, hgl', hc'⟩ := HB.out.resolve_left (fun h => by rw [h] at hp2; simp at hp2)
        have z0 : wr.cell? ⟨g, off + k * 5, none⟩ = some (.int .i64 N0) := (HW.out.cell (p := ⟨g, _, none⟩) hgl).trans (hc k _ hp).1
        have z1 : wr.cell? ⟨g, off + k * 5 + 1, none⟩ = some (.int .i64 N1) := (HW.out.cell (p := ⟨g, _, none⟩) hgl).trans (hc k _ hp).2.1
        have z2 : wr.cell? ⟨g, off + k * 5 + 2, none⟩ = some (.int .i64 N2) := (HW.out.cell (p := ⟨g, _, none⟩) hgl).trans (hc k _ hp).2.2.1
        have z3 : wr.cell? ⟨g, off + k * 5 + 3, none⟩ = some (.int .i64 N3) := (HW.out.cell (p := ⟨g, _, none⟩) hgl).trans (hc k _ hp).2.2.2.1
        have z4 : wr.cell? ⟨g, off + k * 5 + 4, none⟩ = some (.int .i64 N4) := (HW.out.cell (p := ⟨g, _, none⟩) hgl).trans (hc k _ hp).2.2.2.2
        have y0 : wr.cell? ⟨g', off' + k * 5, none⟩ = some (.int .i64 M0) := (HW.out.cell (p := ⟨g', _, none⟩) hgl').trans (hc' k _ hp2).1
        have y1 : wr.cell? ⟨g', off' + k * 5 + 1, none⟩ = some (.int .i64 M1) := (HW.out.cell (p := ⟨g', _, none⟩) hgl').trans (hc' k _ hp2).2.1
        have y2 : wr.cell? ⟨g', off' + k * 5 + 2, none⟩ = some (.int .i64 M2) := (HW.out.cell (p := ⟨g', _, none⟩) hgl').trans (hc' k _ hp2).2.2.1
        have y3 : wr.cell? ⟨g', off' + k * 5 + 3, none⟩ = some (.int .i64 M3) := (HW.out.cell (p := ⟨g', _, none⟩) hgl').trans (hc' k _ hp2).2.2.2.1
        have y4 : wr.cell? ⟨g', off' + k * 5 + 4, none⟩ = some (.int .i64 M4) := (HW.out.cell (p := ⟨g', _, none⟩) hgl').trans (hc' k _ hp2).2.2.2.2
        have hd1 : decide ((k : Int) < (A.length : Int)) = true := by rw [decide_eq_true_eq]; omega
        have k0 : (0 : Int) ≤ (k : Int) := by omega
        have k1 : (k : Int) < (A.length : Int) := by omega
        have wk : wrap64 ((k : Int) + 1) = (k : Int) + 1 := by have := HL.out.1; unfold wrap64; omega
        have HP := hide (And.intro hp hp2)
        have ev := eqMk N0 N1 N2 N3 N4 M0 M1 M2 M3 M4
        clear hp hp2 hc hc'
        cases hE : (N0 == M0 && N1 == M1 && N2 == M2 && N3 == M3 && N4 == M4) with
        | true =>
          rw [hE] at ev
          have HT2 := hide (take_step HT.out HP.out.1 (by
            have h1 := HP.out.2
            simp only [Bool.and_eq_true, beq_iff_eq] at hE
            rw [h1]
            simp [hE]))
          clear hE HP
          go_wp2_with fail
          go_quiet (fail)
          have HW2 := hide (below_dN HW.out nq)
          go_wp2_with fail
          go_roundw
          case rel => exact ⟨k + 1, by omega, by go_num, HT2, HW2⟩
          case measure => first | (rw [wk]; simp [intOf]; omega) | (simp [intOf]; omega)
        | false =>
          rw [hE] at ev
          have HF := HR.out
          rw [decide_eq_false (take_ne HP.out.1 HP.out.2 (fun e => by
            simp only [Prod.mk.injEq] at e
            simp [e] at hE))] at HF
          subst HF
          clear hE HP
          go_wp2_with fail
          go_quiet (fail)
          have HW2 := hide (below_dN HW.out nq)
          go_wp2_with fail
          go_ret
          exact ⟨rfl, HW2.out⟩
      · have e : k = A.length := by omega
        subst e
        have HF := HR.out
        rw [decide_eq_true (by have h1 := HT.out; rw [List.take_length, HLN.out, List.take_length] at h1; exact h1)] at HF
        subst HF
        go_wp2_with fail
        go_ret
        exact ⟨rfl, HW.out⟩
  · have hne : ((A.length : Int) != (B.length : Int)) = true := by rw [bne_iff_ne]; omega
    rw [decide_eq_false (fun e => hln (by rw [e]))]
    have hne2 : ¬ (A.length : Int) = (B.length : Int) := by omega
    go_enter Tryd.func23, Tryd.ntmps23
    go_wp2_with fail
    go_ret
    exact ⟨rfl, Below.refl _ _⟩
end Go.Proofs.YtmojckejjjlkjaaDoor.LG
