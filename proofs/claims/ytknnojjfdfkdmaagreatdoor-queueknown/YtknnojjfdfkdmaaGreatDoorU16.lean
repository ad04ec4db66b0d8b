/-
  My own text: layer 19: Meets; the law's own list: find, without, holds.
-/
import Derived.Test.YtknnojjfdfkdmaaGreatDoorU15
namespace Go.Proofs.YtknnojjfdfkdmaaGreatDoor
open Go.RowKit Go.Extern Go.MapKept Go.ChangeMaps

theorem meets_step {A B : List Ky} {i : Nat} {p : Ky} (h : A[i]? = some p) : meetsB (A.take (i + 1)) B = (meetsB (A.take i) B || decide (p ∈ B)) := by
  rw [List.take_add_one, h]
  unfold meetsB
  rw [List.any_append]
  simp
set_option maxRecDepth 100000 in
set_option maxHeartbeats 1000000 in
theorem meets_any (va vb : Value) (A B : List Ky) (w : World) (ha : KY.RM w va A) (hb : KY.RM w vb B) (hl : A.length ≤ 8796093022000) (hl2 : B.length ≤ 8796093022000) :
    Calls Tryz.prog 61 #[va, vb] w fun e w' => e = .returned (.bool (meetsB A B)) ∧ Below w.heap.size w w' := by
  obtain ⟨aa, ca, rfl, _, hca⟩ := ha
  obtain ⟨ab, cb, rfl, _, hcb⟩ := hb
  have HA := hide hca
  have HB := hide hcb
  have HL := hide hl
  have HL2 := hide hl2
  have hg : Tryz.prog.eqGuardType Tryz.prog.depth 23 = false := by kernel_rfl
  obtain ⟨R, HR⟩ : ∃ R : Bool, Hid (meetsB A B = R) := ⟨_, hide rfl⟩
  rw [HR.out]
  clear hca hcb hl hl2
  go_enter Tryz.func61, Tryz.ntmps61
  go_wp2_with fail
  go_loopw [5] (fun i wr => ∃ k : Nat, k ≤ A.length ∧ i = .int .i64 (k : Int) ∧ Hid (meetsB (A.take k) B = false) ∧ Hid (Below w.heap.size w wr)) (fun i _ => A.length - (intOf i).toNat)
  case atStart => exact ⟨0, Nat.zero_le _, rfl, hide rfl, hide (Below.refl _ _)⟩
  case round =>
    obtain ⟨k, hk, rfl, HT, HW⟩ := hrel
    by_cases hlt : k < A.length
    · obtain ⟨⟨N0, N1⟩, hp⟩ : ∃ p, A[k]? = some p := ⟨_, List.getElem?_eq_getElem hlt⟩
      obtain ⟨g, off, rfl, hgl, hc⟩ := HA.out.resolve_left (fun h => by rw [h] at hlt; simp at hlt)
      have Z0 := hide (hc k _ hp).1
      have Z1 := hide (hc k _ hp).2
      have HGL := hide hgl
      obtain ⟨hd1, i0, i1, wk⟩ := ix hlt HL.out
      have HP := hide hp
      clear hc hgl hp
      obtain ⟨W0, rfl⟩ : ∃ W0, W0 = wr := ⟨wr, rfl⟩
      go_wp2_with fail
      go_loopw [6] (fun i wr => ∃ n : Nat, n ≤ B.length ∧ i = .int .i64 (n : Int) ∧ Hid (∀ q ∈ B.take n, ¬ (N0, N1) = q) ∧ Hid (Below w.heap.size w wr)) (fun i _ => B.length - (intOf i).toNat)
      case atStart => exact ⟨0, Nat.zero_le _, rfl, hide (fun q hq => by simp at hq), HW⟩
      case round =>
        clear HW
        obtain ⟨n, hn, rfl, HN, HW⟩ := hrel
        by_cases hltn : n < B.length
        · obtain ⟨⟨M0, M1⟩, hp2⟩ : ∃ p, B[n]? = some p := ⟨_, List.getElem?_eq_getElem hltn⟩
          obtain ⟨g', off', rfl, hgl', hc'⟩ := HB.out.resolve_left (fun h => by rw [h] at hltn; simp at hltn)
          have z0 : wr.cell? ⟨g, off + k * 2, none⟩ = some (.int .i64 N0) := (HW.out.cell (p := ⟨g, _, none⟩) HGL.out).trans Z0.out
          have z1 : wr.cell? ⟨g, off + k * 2 + 1, none⟩ = some (.int .i64 N1) := (HW.out.cell (p := ⟨g, _, none⟩) HGL.out).trans Z1.out
          have y0 : wr.cell? ⟨g', off' + n * 2, none⟩ = some (.int .i64 M0) := (HW.out.cell (p := ⟨g', _, none⟩) hgl').trans (hc' n _ hp2).1
          have y1 : wr.cell? ⟨g', off' + n * 2 + 1, none⟩ = some (.int .i64 M1) := (HW.out.cell (p := ⟨g', _, none⟩) hgl').trans (hc' n _ hp2).2
          obtain ⟨hdn, m0, m1, wn⟩ := ix hltn HL2.out
          have ev := KY.eqMk N0 N1 M0 M1
          have HP2 := hide hp2
          clear hc' hgl' hp2
          cases hE : (N0 == M0 && N1 == M1) with
          | true =>
            rw [hE] at ev
            have HF : Hid (R = true) := hide (by
              rw [← HR.out, meetsB_iff]
              simp only [Bool.and_eq_true, beq_iff_eq] at hE
              exact ⟨(N0, N1), List.mem_of_getElem? HP.out, by rw [hE.1, hE.2]; exact List.mem_of_getElem? HP2.out⟩)
            clear hE
            go_wp2_with fail
            go_quiet (fail)
            have HW2 := hide (below_dN HW.out nq)
            go_wp2_with fail
            go_ret
            exact ⟨by rw [HF.out]; rfl, HW2.out⟩
          | false =>
            rw [hE] at ev
            have HN2 : Hid (∀ q ∈ B.take (n + 1), ¬ (N0, N1) = q) := hide (fun q hq e => by
              rw [List.take_add_one, HP2.out] at hq
              rcases List.mem_append.1 hq with h1 | h1
              · exact HN.out q h1 e
              · have e2 : q = (M0, M1) := by simpa using h1
                rw [e2] at e
                simp only [Prod.mk.injEq] at e
                rw [e.1, e.2] at hE
                simp at hE)
            clear hE
            go_wp2_with fail
            go_quiet (fail)
            have HW2 := hide (below_dN HW.out nq)
            go_wp2_with fail
            go_roundw
            case rel => exact ⟨n + 1, hltn, congrArg (Value.int .i64) wn, HN2, HW2⟩
            case measure => first | exact meas_up hltn | (rw [wn]; exact meas_up hltn)
        · have e : n = B.length := by omega
          subst e
          have HT2 : Hid (meetsB (A.take (k + 1)) B = false) := hide (by
            rw [meets_step HP.out, HT.out, Bool.false_or, decide_eq_false_iff_not]
            intro hm
            exact HN.out _ (by rw [List.take_length]; exact hm) rfl)
          go_wp2_with fail
          go_roundw
          case rel => exact ⟨k + 1, hlt, congrArg (Value.int .i64) wk, HT2, HW⟩
          case measure => first | exact meas_up hlt | (rw [wk]; exact meas_up hlt)
    · have e : k = A.length := by omega
      subst e
      have HF : Hid (R = false) := hide (by rw [← HR.out]; have := HT.out; rwa [List.take_length] at this)
      go_wp2_with fail
      go_ret
      exact ⟨by rw [HF.out]; rfl, HW.out⟩
/-- What the law itself knows of an entry. -/
structure Kn where
  id : Int
  ks : List Ky
  ka : Option Addr
  kc : Nat
  d : Bool
  o : Bool
def Kn.kv (p : Kn) : Value := .slice p.ka p.ks.length p.kc
def nc : List Kn → List Value
  | [] => []
  | p :: t => .int .i64 p.id :: p.kv :: .bool p.d :: .bool p.o :: nc t
theorem nc_app (a b : List Kn) : nc (a ++ b) = nc a ++ nc b := by
  induction a with
  | nil => rfl
  | cons p t ih => show _ :: _ :: _ :: _ :: nc (t ++ b) = _; rw [ih]; rfl
theorem nc_len (a : List Kn) : (nc a).length = a.length * 4 := by
  induction a with
  | nil => rfl
  | cons p t ih => show (nc t).length + 1 + 1 + 1 + 1 = (t.length + 1) * 4; rw [ih]; omega
theorem nc_at : ∀ {a : List Kn} {j : Nat} {p : Kn}, a[j]? = some p → (nc a)[j * 4]? = some (.int .i64 p.id) ∧ (nc a)[j * 4 + 1]? = some p.kv ∧ (nc a)[j * 4 + 2]? = some (.bool p.d) ∧ (nc a)[j * 4 + 3]? = some (.bool p.o)
  | q :: t, 0, p, h => by obtain rfl := Option.some.inj h; exact ⟨rfl, rfl, rfl, rfl⟩
  | q :: t, j + 1, p, h => by
    have ih := nc_at (a := t) (j := j) (p := p) h
    refine ⟨?_, ?_, ?_, ?_⟩
    · rw [show (j + 1) * 4 = j * 4 + 1 + 1 + 1 + 1 by omega]; exact ih.1
    · rw [show (j + 1) * 4 + 1 = j * 4 + 1 + 1 + 1 + 1 + 1 by omega]; exact ih.2.1
    · rw [show (j + 1) * 4 + 2 = j * 4 + 2 + 1 + 1 + 1 + 1 by omega]; exact ih.2.2.1
    · rw [show (j + 1) * 4 + 3 = j * 4 + 3 + 1 + 1 + 1 + 1 by omega]; exact ih.2.2.2
/-- The place of an id. -/
def fd (id : Int) : List Kn → Int
  | [] => -1
  | p :: t => if p.id = id then 0 else if fd id t < 0 then -1 else fd id t + 1
theorem fd_none {id : Int} : ∀ {L : List Kn}, (∀ p ∈ L, p.id ≠ id) → fd id L = -1
  | [], _ => rfl
  | p :: t, h => by
    unfold fd
    rw [if_neg (h p (by simp)), fd_none (fun q hq => h q (by simp [hq])), if_pos (by omega)]
theorem fd_some {id : Int} : ∀ {L : List Kn} {j : Nat} {p : Kn}, L[j]? = some p → p.id = id → (∀ i q, i < j → L[i]? = some q → q.id ≠ id) → fd id L = (j : Int)
  | p :: t, 0, q, h, e, _ => by
    obtain rfl := Option.some.inj h
    unfold fd; rw [if_pos e]; rfl
  | p :: t, j + 1, q, h, e, hn => by
    have ih := fd_some (L := t) (j := j) (p := q) h e (fun i r hi hr => hn (i + 1) r (by omega) hr)
    unfold fd
    rw [if_neg (hn 0 p (by omega) rfl), ih, if_neg (by omega)]
    omega
end Go.Proofs.YtknnojjfdfkdmaaGreatDoor
