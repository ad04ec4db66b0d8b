/-
  My own text: the law of conservation (printed by mkbc.py).
-/
import Derived.Test.YtmebomifakmkbaaDoorB8
namespace Go.Proofs.YtmebomifakmkbaaDoor
open Go.RowKit

/-- A call: its kind, its quantity, its name. -/
abbrev Cl := Int × Int × Int
/-- A row of calls. -/
def SC (w : World) (v : Value) (S : List Cl) : Prop := ∃ a cap, v = .slice a S.length cap ∧ (S = [] ∨ ∃ b off, a = some ⟨b, off, none⟩ ∧ b < w.heap.size ∧ ∀ (j : Nat) (p : Cl), S[j]? = some p → w.cell? ⟨b, off + j * 3, none⟩ = some (.int .i64 p.1) ∧ w.cell? ⟨b, off + j * 3 + 1, none⟩ = some (.int .i64 p.2.1) ∧ w.cell? ⟨b, off + j * 3 + 2, none⟩ = some (.int .i64 p.2.2))
theorem askO_lt {k q n av a : Int} {L M : List Mk} (h1 : av ≤ top) (h : askO k q n av L = .ok a M) : (k = 0 → q ≤ top - (av + sm L)) ∧ (k = 1 → q ≤ av + sm L) := by
  have hR := (ask_ok h1 h)
  obtain ⟨h1, h2, h3, h4⟩ := hR
  have ha := h3.all
  have h0 := h3.av0
  have hs := sm_pos h3.ri
  constructor
  · intro k0; rw [if_pos k0] at h4; omega
  · intro k1; rw [if_neg (by omega), if_pos k1] at h4; omega
set_option maxRecDepth 100000 in
set_option maxHeartbeats 8000000 in
theorem conserves_law (v : Value) (S : List Cl) (w : World) (h : SC w v S) (hq : ∀ p ∈ S, p.2.1 ≤ top) (hl : S.length ≤ 4611686018427387904) (hE : ErrType w) :
    Calls Tryd.prog 7 #[v] w fun e w' => e = .returned (.bool true) ∧ Below w.heap.size w w' := by
  obtain ⟨sa, scap, rfl, hc⟩ := h
  have HC := hide hc
  have HQ := hide hq
  have HL := hide hl
  have HWK := hide (works_any w hE)
  have n0 := ifNeq0
  have n1 := ifNeq
  clear hc hq hl hE
  go_enter Tryd.func7, Tryd.ntmps7
  go_wp2_with fail
  refine HWK.out.mono ?_
  rintro e w1 ⟨rfl, hb⟩
  have HB1 := hide hb
  obtain ⟨bp, hbp⟩ : ∃ bp, bp = w1.heap.size := ⟨_, rfl⟩
  have HBP : Hid (w.heap.size ≤ bp) := hide (by rw [hbp]; exact hb.size)
  have X1 : Hid (Px (w1.alloc (.cells #[.int .i64 0, .slice Option.none 0 0] 24)) bp 0 (.slice Option.none 0 0)) := hide (by rw [hbp]; exact alloc_new w1 _)
  have B1 := hide (hb.alloc hb.size (.cells #[.int .i64 0, .slice Option.none 0 0] 24))
  clear hb HWK
  go_wp2_with fail
  rw [← hbp]
  clear hbp
  generalize w1.alloc (.cells #[.int .i64 0, .slice Option.none 0 0] 24) = w2 at *
  go_loopw [4, 5] (fun s i wr => ∃ (k : Nat) (a T : Int) (M : List Mk) (vm : Value), k ≤ S.length ∧ i = .int .i64 (k : Int) ∧ s = .int .i64 T ∧ Hid (T = a + sm M) ∧ Hid (Px wr bp a vm) ∧ Hid (OM wr w.heap.size vm M) ∧ Hid (Rt a M) ∧ Hid (Below w.heap.size w wr)) (fun _ i _ => S.length - (intOf i).toNat)
  case atStart => exact ⟨0, 0, 0, [], _, Nat.zero_le _, rfl, rfl, hide rfl, X1, hide (World.ownsRow_nil _ _ _ 2), hide ⟨Int.le_refl _, Nat.zero_le _, trivial, by decide⟩, B1⟩
  case round =>
    clear X1 B1 HB1
    obtain ⟨k, a, T, M, vm, hk, rfl, rfl, HT, HX, HO, HR, HB⟩ := hrel
    by_cases hlt : k < S.length
    · obtain ⟨⟨K, Q, N⟩, hp⟩ : ∃ p, S[k]? = some p := ⟨_, List.getElem?_eq_getElem hlt⟩
      obtain ⟨b, off, ha, hbl, hcc⟩ := HC.out.resolve_left (fun h => by rw [h] at hlt; simp at hlt)
      have c0 : wr.cell? ⟨b, off + k * 3, none⟩ = some (.int .i64 K) := (HB.out.cell (p := ⟨b, _, none⟩) hbl).trans (hcc k _ hp).1
      have c1 : wr.cell? ⟨b, off + k * 3 + 1, none⟩ = some (.int .i64 Q) := (HB.out.cell (p := ⟨b, _, none⟩) hbl).trans (hcc k _ hp).2.1
      have c2 : wr.cell? ⟨b, off + k * 3 + 2, none⟩ = some (.int .i64 N) := (HB.out.cell (p := ⟨b, _, none⟩) hbl).trans (hcc k _ hp).2.2
      have c1' : wr.cell? ⟨b, off + (k * 3 + 1), none⟩ = some (.int .i64 Q) := c1
      have c2' : wr.cell? ⟨b, off + (k * 3 + 2), none⟩ = some (.int .i64 N) := c2
      subst ha
      have HQQ := hide (HQ.out _ (List.mem_of_getElem? hp))
      have hd1 : decide ((k : Int) < (S.length : Int)) = true := by rw [decide_eq_true_eq]; omega
      have k0 : (0 : Int) ≤ (k : Int) := by omega
      have k1 : (k : Int) < (S.length : Int) := by omega
      have wk : wrap64 ((k : Int) + 1) = (k : Int) + 1 := by have := HL.out; unfold wrap64; omega
      obtain ⟨a4, c4, hv4⟩ := rm_lt HO.out.rm
      subst hv4
      have BA := hide (HB.out.alloc HB.out.size (.cells #[.int .i64 K, .int .i64 Q, .int .i64 N] 40))
      have bA : Below wr.heap.size wr (wr.alloc (.cells #[.int .i64 K, .int .i64 Q, .int .i64 N] 40)) := (Below.refl _ _).alloc (Nat.le_refl _) _
      have XA := hide (blk_later HX.out bA)
      have CA := hide (alloc_new wr (.cells #[.int .i64 K, .int .i64 Q, .int .i64 N] 40))
      have OA := hide (owns_later HO.out bA)
      have HASK := hide (ask_any K Q N a (.slice a4 M.length c4) M _ (HO.out.rm.later bA) HR.out.mok HR.out.top HQQ.out (by have := HR.out.few; omega))
      obtain ⟨x0, x1⟩ := pair_cells XA.out rfl
      obtain ⟨e0, e1, e2⟩ := trip_cells CA.out
      have HRt := HR
      clear hcc hp bA
      cases hO : askO K Q N a M with
      | no t x =>
        rw [hO] at HASK
        clear hO
        go_wp2_with fail
        refine HASK.out.mono ?_
        rintro e w3 ⟨hA, hb⟩
        replace hA := hA.no
        subst hA
        unfold refV
        have B3 := hide (BA.out.trans (hb.mono BA.out.size))
        have X3 := hide (blk_later XA.out hb)
        have O3 := hide (owns_later OA.out hb)
        have b4 : Below w3.heap.size w3 (w3.alloc (.cells #[.int .i64 0, .slice Option.none 0 0] 24)) := (Below.refl _ _).alloc (Nat.le_refl _) _
        have B4 := hide (B3.out.trans (b4.mono B3.out.size))
        have X4 := hide (blk_later X3.out b4)
        have O4 := hide (owns_later O3.out b4)
        obtain ⟨z0, z1⟩ := pair_cells (alloc_new w3 (.cells #[.int .i64 0, .slice Option.none 0 0] 24)) rfl
        clear hb b4 x0 x1 e0 e1 e2 c0 c1 c2 c1' c2' HASK
        go_wp2_with fail
        go_roundw
        case rel => exact ⟨k + 1, a, T, M, _, by omega, by go_num, rfl, HT, X4, O4, HR, B4⟩
        case measure => first | (rw [wk]; simp [intOf]; omega) | (simp [intOf]; omega)
      | ok a' M' =>
        rw [hO] at HASK
        have hok := ask_ok HR.out.top hO
        have hlt2 := askO_lt HR.out.top hO
        have HR' := hide hok.2.2.1
        have HQ1 := hide hok.2.1
        have HSUM := hide hok.2.2.2
        have HLT2 := hide hlt2
        clear hO hok hlt2
        go_wp2_with fail
        refine HASK.out.mono ?_
        rintro e w3 ⟨hA, hb⟩
        obtain ⟨v', hv', hO'⟩ := hA.ok
        subst hv'
        obtain ⟨a5, c5, hv5⟩ := rm_lt hO'.rm
        subst hv5
        have O3 := hide (World.ownsRow.mono hO' BA.out.size)
        have B3 := hide (BA.out.trans (hb.mono BA.out.size))
        have X3 := hide (blk_later XA.out hb)
        have C3 := hide (blk_later CA.out hb)
        clear hA hO'
        have b4 : Below w3.heap.size w3 (w3.alloc (.cells #[.int .i64 a', .slice a5 M'.length c5] 24)) := (Below.refl _ _).alloc (Nat.le_refl _) _
        have B4 := hide (B3.out.trans (b4.mono B3.out.size))
        have X4 := hide (blk_later X3.out b4)
        have C4 := hide (blk_later C3.out b4)
        have O4 := hide (owns_later O3.out b4)
        have Z4 := hide (alloc_new w3 (.cells #[.int .i64 a', .slice a5 M'.length c5] 24))
        obtain ⟨z0, z1⟩ := pair_cells Z4.out rfl
        clear x0 x1 e0 e1 e2 c0 c1 c2 c1' c2'
        obtain ⟨e0, e1, e2⟩ := trip_cells C4.out
        obtain ⟨x0, x1⟩ := pair_cells X4.out rfl
        have f0 : (w3.alloc (.cells #[.int .i64 a', .slice a5 M'.length c5] 24)).frozen? ⟨bp, 0, none⟩ = false := by unfold World.frozen?; simp [X4.out]
        have f1 : (w3.alloc (.cells #[.int .i64 a', .slice a5 M'.length c5] 24)).frozen? ⟨bp, 1, none⟩ = false := by unfold World.frozen?; simp [X4.out]
        have dq : decide (Q < 1) = false := decide_eq_false (by have := HQ1.out; omega)
        clear hb b4 HASK
        obtain ⟨T', hT'⟩ : ∃ T', T' = a' + sm M' := ⟨_, rfl⟩
        have HT' := hide hT'
        have HF : Hid (top = 9223372036854775807) := hide rfl
        have hb0 : 0 ≤ T ∧ T ≤ top := by rw [HT.out]; have := HR.out.all; have := HR.out.av0; have := sm_pos HR.out.ri; omega
        have hb1 : 0 ≤ T' ∧ T' ≤ top := by rw [HT'.out]; have := HR'.out.all; have := HR'.out.av0; have := sm_pos HR'.out.ri; omega
        have HCK := hide (fun (W : World) (hm : OM W w.heap.size (.slice a5 M'.length c5) M') => check_any a' _ M' W hm.rm HR'.out.mok HR'.out.top (by have := HR'.out.few; omega))
        rw [ckE_yes ((ck_right HR'.out.top).2 HR'.out)] at HCK
        have HTO := hide (fun (W : World) (hm : OM W w.heap.size (.slice a5 M'.length c5) M') => total_any a' _ M' W hm.rm HR'.out.mok HR'.out.top (by have := HR'.out.few; omega))
        rw [show totV a' M' = T' by unfold totV; rw [if_pos ((ck_right HR'.out.top).2 HR'.out), hT']] at HTO
        have htt : (T' != T') = false := by simp
        clear hT'
        by_cases kz : K = 0
        · have dk0 : (K == 0) = true := by rw [beq_iff_eq]; exact kz
          have dk1 : (K == 1) = false := by rw [beq_eq_false_iff_ne]; omega
          have hs : T' = T + Q := by rw [HT'.out, HT.out, HSUM.out, if_pos kz]
          have dg : decide (9223372036854775807 - T < Q) = false := decide_eq_false (by have := HLT2.out.1 kz; have := HT.out; have := HF.out; omega)
          have wt1 : wrap64 (9223372036854775807 - T) = 9223372036854775807 - T := by have := HF.out; unfold wrap64; omega
          have wt2 : IntKind.i64.wrap (9223372036854775807 - T) = 9223372036854775807 - T := by have := HF.out; rw [IntKind.wrap_i64]; omega
          have ws : wrap64 (T + Q) = T' := by have := HF.out; rw [hs]; unfold wrap64; omega
          have ws2 : IntKind.i64.wrap (T + Q) = T' := by have := HF.out; rw [hs, IntKind.wrap_i64]; omega
          clear kz hs hb0 hb1
          go_wp2_with fail
          obtain ⟨r1, r2, r3⟩ := turn_end (a2 := a') X4.out O4.out B4.out HBP.out
          have HR1 := hide r1
          have HR2 := hide r2
          have HR3 := hide r3
          clear r1 r2 r3
          generalize (((w3.alloc (.cells #[.int .i64 a', .slice a5 M'.length c5] 24)).setCell ⟨bp, 0, none⟩ (.int .i64 a')).setCell ⟨bp, 1, none⟩ (.slice a5 M'.length c5)) = X at *
          refine (HCK.out _ HR2.out).mono ?_
          rintro e w5 ⟨rfl, hb⟩
          have B5 := hide (HR3.out.trans (hb.mono HR3.out.size))
          have X5 := hide (blk_later HR1.out hb)
          have O5 := hide (owns_later HR2.out hb)
          clear hb x0 x1 e0 e1 e2 z0 z1
          obtain ⟨x0, x1⟩ := pair_cells X5.out rfl
          go_wp2_with fail
          refine (HTO.out _ O5.out).mono ?_
          rintro e w6 ⟨rfl, hb⟩
          have B6 := hide (B5.out.trans (hb.mono B5.out.size))
          have X6 := hide (blk_later X5.out hb)
          have O6 := hide (owns_later O5.out hb)
          clear hb x0 x1
          go_wp2_with fail
          go_roundw
          case rel => exact ⟨k + 1, a', _, M', _, by omega, by go_num, rfl, HT', X6, O6, HR', B6⟩
          case measure => first | (rw [wk]; simp [intOf]; omega) | (simp [intOf]; omega)
        · by_cases ko : K = 1
          · have dk0 : (K == 0) = false := by rw [beq_eq_false_iff_ne]; exact kz
            have dk1 : (K == 1) = true := by rw [beq_iff_eq]; exact ko
            have hs : T' = T - Q := by rw [HT'.out, HT.out, HSUM.out, if_neg kz, if_pos ko]; omega
            have dg : decide (T < Q) = false := decide_eq_false (by have := HLT2.out.2 ko; have := HT.out; omega)
            have ws : wrap64 (T - Q) = T' := by have := HF.out; rw [hs]; unfold wrap64; omega
            have ws2 : IntKind.i64.wrap (T - Q) = T' := by have := HF.out; rw [hs, IntKind.wrap_i64]; omega
            clear kz ko hs hb0 hb1
            go_wp2_with fail
            obtain ⟨r1, r2, r3⟩ := turn_end (a2 := a') X4.out O4.out B4.out HBP.out
            have HR1 := hide r1
            have HR2 := hide r2
            have HR3 := hide r3
            clear r1 r2 r3
            generalize (((w3.alloc (.cells #[.int .i64 a', .slice a5 M'.length c5] 24)).setCell ⟨bp, 0, none⟩ (.int .i64 a')).setCell ⟨bp, 1, none⟩ (.slice a5 M'.length c5)) = X at *
            refine (HCK.out _ HR2.out).mono ?_
            rintro e w5 ⟨rfl, hb⟩
            have B5 := hide (HR3.out.trans (hb.mono HR3.out.size))
            have X5 := hide (blk_later HR1.out hb)
            have O5 := hide (owns_later HR2.out hb)
            clear hb x0 x1 e0 e1 e2 z0 z1
            obtain ⟨x0, x1⟩ := pair_cells X5.out rfl
            go_wp2_with fail
            refine (HTO.out _ O5.out).mono ?_
            rintro e w6 ⟨rfl, hb⟩
            have B6 := hide (B5.out.trans (hb.mono B5.out.size))
            have X6 := hide (blk_later X5.out hb)
            have O6 := hide (owns_later O5.out hb)
            clear hb x0 x1
            go_wp2_with fail
            go_roundw
            case rel => exact ⟨k + 1, a', _, M', _, by omega, by go_num, rfl, HT', X6, O6, HR', B6⟩
            case measure => first | (rw [wk]; simp [intOf]; omega) | (simp [intOf]; omega)
          · have dk0 : (K == 0) = false := by rw [beq_eq_false_iff_ne]; exact kz
            have dk1 : (K == 1) = false := by rw [beq_eq_false_iff_ne]; exact ko
            have hs : T' = T := by rw [HT'.out, HT.out, HSUM.out, if_neg kz, if_neg ko]; omega
            subst hs
            clear kz ko hb0 hb1
            go_wp2_with fail
            obtain ⟨r1, r2, r3⟩ := turn_end (a2 := a') X4.out O4.out B4.out HBP.out
            have HR1 := hide r1
            have HR2 := hide r2
            have HR3 := hide r3
            clear r1 r2 r3
            generalize (((w3.alloc (.cells #[.int .i64 a', .slice a5 M'.length c5] 24)).setCell ⟨bp, 0, none⟩ (.int .i64 a')).setCell ⟨bp, 1, none⟩ (.slice a5 M'.length c5)) = X at *
            refine (HCK.out _ HR2.out).mono ?_
            rintro e w5 ⟨rfl, hb⟩
            have B5 := hide (HR3.out.trans (hb.mono HR3.out.size))
            have X5 := hide (blk_later HR1.out hb)
            have O5 := hide (owns_later HR2.out hb)
            clear hb x0 x1 e0 e1 e2 z0 z1
            obtain ⟨x0, x1⟩ := pair_cells X5.out rfl
            go_wp2_with fail
            refine (HTO.out _ O5.out).mono ?_
            rintro e w6 ⟨rfl, hb⟩
            have B6 := hide (B5.out.trans (hb.mono B5.out.size))
            have X6 := hide (blk_later X5.out hb)
            have O6 := hide (owns_later O5.out hb)
            clear hb x0 x1
            go_wp2_with fail
            go_roundw
            case rel => exact ⟨k + 1, a', _, M', _, by omega, by go_num, rfl, HT', X6, O6, HR', B6⟩
            case measure => first | (rw [wk]; simp [intOf]; omega) | (simp [intOf]; omega)
    · have e : k = S.length := by omega
      subst e
      go_wp2_with fail
      go_ret
      exact ⟨rfl, HB.out⟩
end Go.Proofs.YtmebomifakmkbaaDoor
