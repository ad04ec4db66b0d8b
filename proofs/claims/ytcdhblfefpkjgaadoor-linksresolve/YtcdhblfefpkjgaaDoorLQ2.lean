/-
  My own text: LVH, LVI, LQ2 in one.
-/
import Derived.Test.YtcdhblfefpkjgaaDoorLS5
import Derived.Test.YtcdhblfefpkjgaaDoorLO2
namespace Go.Proofs.YtcdhblfefpkjgaaDoor
open Go.RowKit

/-- The first place of a text; -1: none. -/
def fiT (R : List (List UInt8)) (k : List UInt8) : Int := if k ∈ R then ((R.idxOf k : Nat) : Int) else -1
theorem fiT_in {R : List (List UInt8)} {k : List UInt8} (h : k ∈ R) : fiT R k = ((R.idxOf k : Nat) : Int) := if_pos h
theorem fiT_out {R : List (List UInt8)} {k : List UInt8} (h : k ∉ R) : fiT R k = -1 := if_neg h
theorem fiT_at {R : List (List UInt8)} {k : List UInt8} {j : Nat} (hj : R[j]? = some k) (h : k ∉ R.take j) : fiT R k = (j : Int) := by
  have hlt := (List.getElem?_eq_some_iff.1 hj).1
  have hm : k ∈ R := List.mem_of_getElem? hj
  rw [fiT_in hm]
  have e : R = R.take j ++ k :: R.drop (j + 1) := by
    have h1 := List.take_append_drop j R
    have h2 : R.drop j = k :: R.drop (j + 1) := by
      rw [List.drop_eq_getElem_cons hlt]
      have := (List.getElem?_eq_some_iff.1 hj).2
      rw [this]
    rw [h2] at h1
    exact h1.symm
  have e2 : R.idxOf k = j := by
    rw [e, List.idxOf_append, if_neg h, List.idxOf_cons_self, List.length_take]
    omega
  rw [e2]
theorem take_one {R : List (List UInt8)} {k p : List UInt8} {j : Nat} (hj : R[j]? = some p) (h : k ∉ R.take j) (hp : p ≠ k) : k ∉ R.take (j + 1) := by
  rw [List.take_add_one, hj]
  simp only [Option.toList_some, List.mem_append, List.mem_singleton, not_or]
  exact ⟨h, fun e => hp e.symm⟩
set_option maxRecDepth 100000 in
set_option maxHeartbeats 1000000 in
theorem rfind_any (v : Value) (R : List (List UInt8)) (k : List UInt8) (w : World) (hv : NF w v R) (hn : R.length ≤ 1000000) :
    Calls Tryd.prog 18 #[v, tx k] w fun e w' => e = .returned (.int .i64 (fiT R k)) ∧ w' = w := by
  obtain ⟨a, cap, rfl, hr⟩ := hv
  have HR := hide hr
  have HN := hide hn
  obtain ⟨n, hnn⟩ : ∃ n, R.length = n := ⟨_, rfl⟩
  have HL := hide hnn
  rw [hnn]
  unfold tx
  clear hr hn hnn
  go_enter Tryd.func18, Tryd.ntmps18
  go_wp2_with fail
  go_loopw [5] (fun i wr => ∃ j : Nat, j ≤ n ∧ i = .int .i64 (j : Int) ∧ Hid (k ∉ R.take j) ∧ wr = w) (fun i _ => n - (intOf i).toNat)
  case atStart => exact ⟨0, Nat.zero_le _, rfl, hide (by simp), rfl⟩
  case round =>
    obtain ⟨j, hj, rfl, HT, rfl⟩ := hrel
    by_cases hlt : j < n
    · obtain ⟨p, hp⟩ : ∃ p, R[j]? = some p := ⟨_, List.getElem?_eq_getElem (by rw [HL.out]; exact hlt)⟩
      obtain ⟨b, off, rfl, hgl, hc⟩ := HR.out.resolve_left (fun h => by rw [h] at hp; simp at hp)
      have c0 := hc j p hp
      have HP := hide hp
      have j0 : (0 : Int) ≤ (j : Int) := by omega
      have j1 : (j : Int) < (n : Int) := by omega
      have wk : wrap64 ((j : Int) + 1) = (j : Int) + 1 := by have := HN.out; have := HL.out; unfold wrap64; omega
      clear hp hc hgl
      unfold tx at c0
      by_cases he : p = k
      · have hpk : (p == k) = true := by rw [he]; simp
        have HE := hide he
        clear he
        go_wp2_with fail
        go_ret
        refine ⟨?_, rfl⟩
        rw [fiT_at (by rw [← HE.out]; exact HP.out) HT.out]
        rfl
      · have hpk : (p == k) = false := by simp [he]
        have HT2 := hide (take_one HP.out HT.out he)
        clear he HT
        go_wp2_with fail
        go_roundw
        case rel => exact ⟨j + 1, hlt, by go_num, HT2, by trivial⟩
        case measure => first | (rw [wk]; simp [intOf]; omega) | (simp [intOf]; omega)
    · obtain rfl : j = n := by omega
      have HF : Hid (fiT R k = -1) := hide (fiT_out (by have := HT.out; rw [List.take_of_length_le (by rw [HL.out]; exact Nat.le_refl _)] at this; exact this))
      go_wp2_with fail
      go_ret
      exact ⟨by rw [HF.out]; rfl, rfl⟩
end Go.Proofs.YtcdhblfefpkjgaaDoor
namespace Go.Proofs.YtcdhblfefpkjgaaDoor
open Go.RowKit

/-- The error of notices. -/
inductive WrR (R : List (List UInt8)) (T : List (List Lk)) : Int × Int × Int → Prop
  | many (h : tooB R.length (KT T) = true) : WrR R T (5, 0, 0)
  | twice (h : tooB R.length (KT T) = false) (x : Nat) (p : List UInt8) (hx : R[x]? = some p) (hm : p ∈ R.take x) (ho : Once R x) : WrR R T (11, 0, (x : Int))
  | link (h : tooB R.length (KT T) = false) (ho : Once R R.length) (x i : Nat) (l : List Lk) (q : Lk) (no : Int) (hl : T[x]? = some l) (hq : l[i]? = some q) (hr : Rgt R T x i) (hw : ¬ LkK q ∧ no = 24 ∨ LkK q ∧ q.2 ∉ R ∧ no = 10) : WrR R T (no, (x : Int), (i : Int))
  | ok (h : tooB R.length (KT T) = false) (ho : Once R R.length) (hr : Rgt R T T.length 0) : WrR R T (0, 0, 0)
theorem tooB_all {n : Nat} {K : Nat → Nat} (hn : n ≤ 4096) (h : ∀ x, x < n → ¬ 16 < K x) : tooB n K = false := by rw [tooB_rest h]; exact decide_eq_false (by omega)
theorem tooB_big {n : Nat} {K : Nat → Nat} (hn : 4096 < n) : tooB n K = true := by
  cases h : tooB n K with
  | true => rfl
  | false => have := (tooB_no h).1; omega
theorem Once.zero (R : List (List UInt8)) : Once R 0 := fun _ _ h => absurd h (Nat.not_lt_zero _)
theorem Once.step {R : List (List UInt8)} {j : Nat} {p : List UInt8} (h : Once R j) (hp : R[j]? = some p) (hn : p ∉ R.take j) : Once R (j + 1) := fun x q hx hq => by
  by_cases e : x = j
  · subst e; rw [hp] at hq; obtain rfl := Option.some.inj hq; exact hn
  · exact h x q (by omega) hq
theorem fiT_low {R : List (List UInt8)} {k : List UInt8} {j : Nat} (h : k ∈ R.take j) : fiT R k ≠ (j : Int) := by
  have hm : k ∈ R := List.mem_of_mem_take h
  rw [fiT_in hm]
  have e : R.idxOf k < j := by
    have h1 := List.take_append_drop j R
    have h2 : R.idxOf k = (R.take j).idxOf k := by
      conv => lhs; rw [← h1]
      rw [List.idxOf_append, if_pos h]
    have h3 := List.idxOf_lt_length_of_mem h
    rw [List.length_take] at h3
    omega
  omega
theorem fiT_neg {R : List (List UInt8)} {k : List UInt8} : fiT R k < 0 ↔ k ∉ R := by
  unfold fiT
  split
  · constructor
    · intro h; omega
    · intro h; exact absurd ‹k ∈ R› h
  · constructor
    · intro _; assumption
    · intro _; decide
theorem wrap_up {j n : Nat} (h : j < n) (hn : n ≤ 1000000) : wrap64 ((j : Int) + 1) = (j : Int) + 1 := by unfold wrap64; omega
theorem kd_in {kd : Int} {rf : List UInt8} (h : kd = 1 ∨ kd = 2 ∨ kd = 3) : LkK (kd, rf) := by
  unfold LkK; dsimp only; omega
theorem kd_out {kd : Int} {rf : List UInt8} (h : ¬ (kd = 1 ∨ kd = 2 ∨ kd = 3)) : ¬ LkK (kd, rf) ∧ (kd != 1) = true ∧ (kd != 2) = true ∧ (kd != 3) = true := by
  refine ⟨fun q => ?_, ?_, ?_, ?_⟩
  · obtain ⟨h1, h2⟩ := q; dsimp only at h1 h2; omega
  · rw [bne_iff_ne]; omega
  · rw [bne_iff_ne]; omega
  · rw [bne_iff_ne]; omega
set_option maxRecDepth 100000 in
set_option maxHeartbeats 4000000 in
theorem rwrong_any (v : Value) (R : List (List UInt8)) (T : List (List Lk)) (w : World) (hf : NF w v R) (hv : NL w v T) (hlen : T.length = R.length) (hn : R.length ≤ 1000000) (hK : ∀ l ∈ T, l.length ≤ 1000000) :
    Calls Tryd.prog 17 #[v] w fun e w' => Below w.heap.size w w' ∧ ∃ b : Int × Int × Int, e = .returned (.tuple #[.int .i64 b.1, .int .i64 b.2.1, .int .i64 b.2.2]) ∧ WrR R T b := by
  have HF := hide hf
  obtain ⟨a, cap, rfl, hr⟩ := hv
  obtain ⟨_, _, hfe, hfr⟩ := hf
  injection hfe with e1 _ e2
  subst e1 e2
  have HR := hide hr
  have HRF := hide hfr
  have HN := hide (And.intro hn hK)
  obtain ⟨n, hnn⟩ : ∃ n, T.length = n := ⟨_, rfl⟩
  have HL : Hid (T.length = n ∧ R.length = n) := hide ⟨hnn, by omega⟩
  rw [hnn]
  rw [hnn] at hlen
  rw [hnn] at HF
  clear hr hn hK hnn hlen hfr
  go_enter Tryd.func17, Tryd.ntmps17
  by_cases hbig : 4096 < n
  · have HT : Hid (tooB R.length (KT T) = true) := hide (by rw [HL.out.2]; exact tooB_big hbig)
    go_wp2_with fail
    go_ret3
    exact ⟨Below.refl _ _, (5, 0, 0), rfl, .many HT.out⟩
  have HBG := hide hbig
  go_wp2_with fail
  go_loopw [5] (fun i wr => ∃ j : Nat, i = .int .i64 (j : Int) ∧ Hid (j ≤ n ∧ ∀ x, x < j → ¬ 16 < KT T x) ∧ wr = w) (fun i _ => n - (intOf i).toNat)
  case atStart => exact ⟨0, rfl, hide ⟨Nat.zero_le _, fun x h => absurd h (Nat.not_lt_zero x)⟩, rfl⟩
  case round =>
    obtain ⟨j, rfl, HJ, hw⟩ := hrel
    have hw' := hw.symm
    subst hw'
    clear hw
    by_cases hlt : j < n
    · obtain ⟨l, hl⟩ : ∃ l, T[j]? = some l := ⟨_, List.getElem?_eq_getElem (by rw [HL.out.1]; exact hlt)⟩
      obtain ⟨b, off, rfl, hgl, hc⟩ := HR.out.resolve_left (fun h => by rw [h] at hl; simp at hl)
      obtain ⟨la, lc, c0, _⟩ := hc j l hl
      have hKj := KT_at hl
      have hll := HN.out.2 l (List.mem_of_getElem? hl)
      have wk := wrap_up hlt (by rw [← HL.out.2]; exact HN.out.1)
      have j0 : (0 : Int) ≤ (j : Int) := Int.natCast_nonneg _
      have j1 : (j : Int) < (n : Int) := Int.ofNat_lt.2 hlt
      clear hc hgl hl
      by_cases h16 : 16 < KT T j
      · have HT : Hid (tooB R.length (KT T) = true) := hide (by rw [HL.out.2]; exact tooB_yes hlt h16)
        rw [hKj] at h16
        clear hKj
        go_wp2_with fail
        go_ret3
        exact ⟨Below.refl _ _, (5, 0, 0), rfl, .many HT.out⟩
      · have HJ2 : Hid (j + 1 ≤ n ∧ ∀ x, x < j + 1 → ¬ 16 < KT T x) := hide ⟨hlt, fun x hx => by
          rcases Nat.lt_or_ge x j with h | h
          · exact HJ.out.2 x h
          · rw [show x = j by omega]; exact h16⟩
        rw [hKj] at h16
        clear hKj
        go_wp2_with fail
        go_roundw
        case rel => exact ⟨j + 1, by go_num, HJ2, by first | trivial | rfl⟩
        case measure => first | (rw [wk]; simp [intOf]; omega) | (simp [intOf]; omega)
    · have HTB : Hid (tooB R.length (KT T) = false) := hide (tooB_all (by rw [HL.out.2]; omega) (fun x hx => HJ.out.2 x (by rw [HL.out.2] at hx; have := HJ.out.1; omega)))
      clear HJ
      go_wp2_with fail
      go_loopw [6] (fun i wq => ∃ j : Nat, i = .int .i64 (j : Int) ∧ Hid (j ≤ n ∧ Once R j) ∧ Hid (Below w.heap.size w wq)) (fun i _ => n - (intOf i).toNat)
      case atStart => exact ⟨0, rfl, hide ⟨Nat.zero_le _, Once.zero R⟩, hide (Below.refl _ _)⟩
      case round =>
        obtain ⟨j, rfl, HJ, HB⟩ := hrel
        by_cases hlt2 : j < n
        · obtain ⟨p, hp⟩ : ∃ p, R[j]? = some p := ⟨_, List.getElem?_eq_getElem (by rw [HL.out.2]; exact hlt2)⟩
          obtain ⟨b, off, rfl, hgl, hc⟩ := HRF.out.resolve_left (fun h => by rw [h] at hp; simp at hp)
          have c0 := (HB.out.cell (p := ⟨b, off + j * 27, none⟩) hgl).trans (hc j p hp)
          have HP := hide hp
          have wk := wrap_up hlt2 (by rw [← HL.out.2]; exact HN.out.1)
          have j0 : (0 : Int) ≤ (j : Int) := Int.natCast_nonneg _
          have j1 : (j : Int) < (n : Int) := Int.ofNat_lt.2 hlt2
          have HC := hide (rfind_any _ R p wr (HF.out.later HB.out) HN.out.1)
          obtain ⟨sb, ht⟩ : ∃ sb, tx p = .string sb := ⟨_, rfl⟩
          rw [ht] at c0 HC
          clear hp hc hgl ht
          by_cases hin : p ∈ R.take j
          · have hne : fiT R p ≠ (j : Int) := fiT_low hin
            have HX := hide hin
            clear hin
            obtain ⟨f, hf⟩ : ∃ f, fiT R p = f := ⟨_, rfl⟩
            rw [hf] at HC hne
            have hnb : (f != (j : Int)) = true := by rw [bne_iff_ne]; exact hne
            clear hf hne
            go_wp2_with fail
            refine HC.out.mono ?_
            rintro e w2 ⟨rfl, hw⟩
            obtain rfl := hw.symm
            go_wp2_with fail
            go_ret3
            exact ⟨HB.out, (11, 0, (j : Int)), rfl, .twice HTB.out j p HP.out HX.out HJ.out.2⟩
          · rw [fiT_at HP.out hin] at HC
            have HX := hide (HJ.out.2.step HP.out hin)
            clear hin
            have hnb : ((j : Int) != (j : Int)) = false := by simp
            go_wp2_with fail
            refine HC.out.mono ?_
            rintro e w2 ⟨rfl, hw⟩
            obtain rfl := hw.symm
            go_wp2_with fail
            go_roundw
            case rel => exact ⟨j + 1, by go_num, hide ⟨hlt2, HX.out⟩, HB⟩
            case measure => first | (rw [wk]; simp [intOf]; omega) | (simp [intOf]; omega)
        · have HON : Hid (Once R R.length) := hide (by rw [HL.out.2]; have h := HJ.out.2; rw [show j = n by have := HJ.out.1; omega] at h; exact h)
          obtain ⟨W1, hW1⟩ : ∃ W1, W1 = wr := ⟨wr, rfl⟩
          subst hW1
          clear HJ
          go_wp2_with fail
          go_loopw [7] (fun i wq => ∃ j : Nat, i = .int .i64 (j : Int) ∧ Hid (j ≤ n ∧ Rgt R T j 0) ∧ Hid (Below w.heap.size w wq)) (fun i _ => n - (intOf i).toNat)
          case atStart => exact ⟨0, rfl, hide ⟨Nat.zero_le _, Rgt.zero R T⟩, HB⟩
          case round =>
            clear HB
            obtain ⟨k, rfl, HG0, HB⟩ := hrel
            by_cases hkn : k < n
            · obtain ⟨l, hl⟩ : ∃ l, T[k]? = some l := ⟨_, List.getElem?_eq_getElem (by rw [HL.out.1]; exact hkn)⟩
              obtain ⟨b, off, rfl, hgl, hc⟩ := HR.out.resolve_left (fun h => by rw [h] at hl; simp at hl)
              obtain ⟨la, lc, c0, hlr⟩ := hc k l hl
              have hll := HN.out.2 l (List.mem_of_getElem? hl)
              have wk := wrap_up hkn (by rw [← HL.out.2]; exact HN.out.1)
              have k0 : (0 : Int) ≤ (k : Int) := Int.natCast_nonneg _
              have k1 : (k : Int) < (n : Int) := Int.ofNat_lt.2 hkn
              have HC := hide (fun (W : World) (hb : Below w.heap.size w W) => (hb.cell (p := ⟨b, off + k * 27 + 26, none⟩) hgl).trans c0)
              have HLR := hide hlr
              have HTL := hide hl
              have HLL := hide hll
              have HG : Hid (Rgt R T k 0) := hide HG0.out.2
              obtain ⟨W2, hW2⟩ : ∃ W2, W2 = wr := ⟨wr, rfl⟩
              subst hW2
              clear hc c0 hlr hl hll hgl HG0
              go_wp2_with fail
              go_loopw [8] (fun i wq => ∃ e : Nat, i = .int .i64 (e : Int) ∧ Hid (e ≤ l.length ∧ Rgt R T k e) ∧ Hid (Below w.heap.size w wq)) (fun i _ => l.length - (intOf i).toNat)
              case atStart => exact ⟨0, rfl, hide ⟨Nat.zero_le _, HG.out⟩, HB⟩
              case round =>
                clear HG HB
                obtain ⟨e, rfl, HE, HB⟩ := hrel
                have y0 := HC.out _ HB.out
                by_cases hlt3 : e < l.length
                · obtain ⟨⟨kd, rf⟩, hq⟩ : ∃ q, l[e]? = some q := ⟨_, List.getElem?_eq_getElem hlt3⟩
                  obtain ⟨b2, o2, rfl, hg2, hc2⟩ := HLR.out.resolve_left (fun h => by rw [h] at hq; simp at hq)
                  obtain ⟨p1, p2⟩ := hc2 e _ hq
                  have wk2 := wrap_up hlt3 HLL.out
                  have e0 : (0 : Int) ≤ (e : Int) := Int.natCast_nonneg _
                  have e1 : (e : Int) < (l.length : Int) := Int.ofNat_lt.2 hlt3
                  obtain ⟨sb, ht⟩ : ∃ sb, tx rf = .string sb := ⟨_, rfl⟩
                  have z0 := (HB.out.cell (p := ⟨b2, o2 + e * 2, none⟩) hg2).trans p1
                  have z1 : wr.cell? ⟨b2, o2 + e * 2 + 1, none⟩ = some (.string sb) := by rw [← ht]; exact (HB.out.cell (p := ⟨b2, o2 + e * 2 + 1, none⟩) hg2).trans p2
                  have z1' : wr.cell? ⟨b2, o2 + (e * 2 + 1), none⟩ = some (.string sb) := z1
                  dsimp only at z0
                  have hbU := (Below.refl wr.heap.size wr).alloc (Nat.le_refl _) (.cells #[.int .i64 kd, .string sb] 53)
                  have HBU := hide (HB.out.trans (hbU.mono HB.out.size))
                  have HFC := hide (rfind_any _ R rf _ (HF.out.later HBU.out) HN.out.1)
                  rw [ht] at HFC
                  have N1 := alloc_new wr (.cells #[.int .i64 kd, .string sb] 53)
                  obtain ⟨s0, s1⟩ := TW.cellsA N1 rfl
                  have HQ := hide hq
                  clear p1 p2 hc2 hg2 hq ht hbU N1
                  by_cases hk : kd = 1 ∨ kd = 2 ∨ kd = 3
                  · have HKD : Hid (LkK (kd, rf)) := hide (kd_in hk)
                    obtain ⟨f, hf⟩ : ∃ f, fiT R rf = f := ⟨_, rfl⟩
                    have HFI := hide hf
                    rw [hf] at HFC
                    clear hf
                    by_cases hneg : f < 0
                    · have HNR : Hid (rf ∉ R) := hide (by have := HFI.out; exact fiT_neg.1 (by rw [this]; exact hneg))
                      rcases hk with rfl | rfl | rfl <;>
                      · go_wp2_with fail
                        refine HFC.out.mono ?_
                        rintro e w2 ⟨rfl, hw⟩
                        obtain rfl := hw.symm
                        go_wp2_with fail
                        go_ret3
                        exact ⟨HBU.out, (10, (k : Int), (_ : Int)), rfl, .link HTB.out HON.out k _ l _ 10 HTL.out HQ.out HE.out.2 (.inr ⟨HKD.out, HNR.out, rfl⟩)⟩
                    · have HE2 : Hid (e + 1 ≤ l.length ∧ Rgt R T k (e + 1)) := hide ⟨hlt3, HE.out.2.step HTL.out HQ.out ⟨HKD.out, Classical.byContradiction fun h => hneg (by rw [← HFI.out]; exact fiT_neg.2 h)⟩⟩
                      rcases hk with rfl | rfl | rfl <;>
                      · go_wp2_with fail
                        refine HFC.out.mono ?_
                        rintro e' w2 ⟨rfl, hw⟩
                        obtain rfl := hw.symm
                        go_wp2_with fail
                        go_roundw
                        case rel => exact ⟨e + 1, by go_num, HE2, HBU⟩
                        case measure => first | (rw [wk2]; simp [intOf]; omega) | (simp [intOf]; omega)
                  · have HKD : Hid (¬ LkK (kd, rf)) := hide (kd_out hk).1
                    obtain ⟨_, n1, n2, n3⟩ := kd_out (rf := rf) hk
                    clear hk
                    go_wp2_with fail
                    go_ret3
                    exact ⟨HBU.out, (24, (k : Int), (e : Int)), rfl, .link HTB.out HON.out k e l (kd, rf) 24 HTL.out HQ.out HE.out.2 (.inl ⟨HKD.out, rfl⟩)⟩
                · have HG2 : Hid (Rgt R T (k + 1) 0) := hide (by
                    have h := HE.out.2
                    rw [show e = l.length by have := HE.out.1; omega] at h
                    exact h.next HTL.out)
                  clear HE
                  go_wp2_with fail
                  go_roundw
                  case rel => exact ⟨k + 1, by go_num, hide ⟨hkn, HG2.out⟩, HB⟩
                  case measure => first | (rw [wk]; simp [intOf]; omega) | (simp [intOf]; omega)
            · have HRG : Hid (Rgt R T T.length 0) := hide (by rw [HL.out.1]; have h := HG0.out.2; rw [show k = n by have := HG0.out.1; omega] at h; exact h)
              clear HG0
              go_wp2_with fail
              go_ret3
              exact ⟨HB.out, (0, 0, 0), rfl, .ok HTB.out HON.out HRG.out⟩
end Go.Proofs.YtcdhblfefpkjgaaDoor
namespace Go.Proofs.YtcdhblfefpkjgaaDoor
open Go.RowKit

theorem awt_take {E : List (Nat × Nat)} {i : Nat} {p : Nat × Nat} (h : E[i]? = some p) (y : Nat) : awt (E.take (i + 1)) [] y = awt (E.take i) [] y + (if p.2 = y then 1 else 0) := by
  unfold awt
  rw [List.take_add_one, h, List.countP_append]
  by_cases e : p.2 = y
  · simp [e]
  · simp [e]
theorem awt_whole (E : List (Nat × Nat)) (y : Nat) : awt (E.take E.length) [] y = awt E [] y := by rw [List.take_length]
theorem awt_none (y : Nat) (E : List (Nat × Nat)) : awt (E.take 0) [] y = 0 := by simp [awt]
/-- What a thing waits for while x is being put in: i edges are looked at. -/
def dF (E : List (Nat × Nat)) (row : List Nat) (x i y : Nat) : Int := (awt E row y : Int) - (((E.take i).countP fun p => p.1 == x && p.2 == y : Nat) : Int)
theorem dF_zero (E : List (Nat × Nat)) (row : List Nat) (x y : Nat) : dF E row x 0 y = (awt E row y : Int) := by simp [dF]
theorem dF_hit {E : List (Nat × Nat)} {row : List Nat} {x i : Nat} {p : Nat × Nat} (h : E[i]? = some p) (hx : p.1 = x) (y : Nat) : dF E row x (i + 1) y = dF E row x i y - (if p.2 = y then 1 else 0) := by
  unfold dF
  rw [List.take_add_one, h, List.countP_append]
  by_cases e : p.2 = y
  · simp [e, hx]; omega
  · simp [e, hx]
theorem dF_miss {E : List (Nat × Nat)} {row : List Nat} {x i : Nat} {p : Nat × Nat} (h : E[i]? = some p) (hx : p.1 ≠ x) (y : Nat) : dF E row x (i + 1) y = dF E row x i y := by
  unfold dF
  rw [List.take_add_one, h, List.countP_append]
  simp [hx]
theorem dF_end {E : List (Nat × Nat)} {row : List Nat} {x : Nat} (hx : x ∉ row) (y : Nat) : dF E row x E.length y = (awt E (row ++ [x]) y : Int) := by
  unfold dF
  rw [List.take_length, awt_snoc E row x y hx]
  omega
theorem dF_bound (E : List (Nat × Nat)) (row : List Nat) (x i y : Nat) : -(E.length : Int) ≤ dF E row x i y ∧ dF E row x i y ≤ E.length := by
  unfold dF awt
  have h1 := List.countP_le_length (p := fun p : Nat × Nat => p.2 == y && !(row.contains p.1)) (l := E)
  have h2 := List.countP_le_length (p := fun p : Nat × Nat => p.1 == x && p.2 == y) (l := E.take i)
  have h3 : (E.take i).length ≤ E.length := by rw [List.length_take]; omega
  omega
/-- The best of the first i things. -/
def BestOk (n : Nat) (E : List (Nat × Nat)) (pr : Nat → Int) (row : List Nat) (i : Nat) (b : Option Nat) : Prop :=
  match b with
  | none => ∀ y, y < i → ¬ Av n E row y
  | some x => x < i ∧ Av n E row x ∧ ∀ y, y < i → Av n E row y → y ≠ x → bf pr x y
def bV (b : Option Nat) : Int := match b with | none => -1 | some x => (x : Int)
theorem BestOk.start (n : Nat) (E : List (Nat × Nat)) (pr : Nat → Int) (row : List Nat) : BestOk n E pr row 0 none := fun y h => absurd h (Nat.not_lt_zero y)
theorem BestOk.skip {n : Nat} {E : List (Nat × Nat)} {pr : Nat → Int} {row : List Nat} {i : Nat} {b : Option Nat} (h : BestOk n E pr row i b) (k : ¬ Av n E row i) : BestOk n E pr row (i + 1) b := by
  cases b with
  | none =>
    intro y hy
    by_cases e : y = i
    · subst e; exact k
    · exact h y (by omega)
  | some x =>
    obtain ⟨h1, h2, h3⟩ := h
    refine ⟨by omega, h2, fun y hy ha hne => ?_⟩
    by_cases e : y = i
    · subst e; exact absurd ha k
    · exact h3 y (by omega) ha hne
theorem BestOk.first {n : Nat} {E : List (Nat × Nat)} {pr : Nat → Int} {row : List Nat} {i : Nat} (h : BestOk n E pr row i none) (k : Av n E row i) : BestOk n E pr row (i + 1) (some i) :=
  ⟨by omega, k, fun y hy ha hne => absurd ha (h y (by omega))⟩
theorem BestOk.more {n : Nat} {E : List (Nat × Nat)} {pr : Nat → Int} {row : List Nat} {i x : Nat} (h : BestOk n E pr row i (some x)) (k : Av n E row i) (hp : pr x < pr i) : BestOk n E pr row (i + 1) (some i) := by
  obtain ⟨h1, h2, h3⟩ := h
  refine ⟨by omega, k, fun y hy ha hne => ?_⟩
  by_cases e : y = x
  · subst e; exact .inl hp
  · rcases h3 y (by omega) ha e with q | ⟨q, _⟩
    · exact .inl (by omega)
    · exact .inl (by omega)
theorem BestOk.keep {n : Nat} {E : List (Nat × Nat)} {pr : Nat → Int} {row : List Nat} {i x : Nat} (h : BestOk n E pr row i (some x)) (hp : ¬ pr x < pr i) : BestOk n E pr row (i + 1) (some x) := by
  obtain ⟨h1, h2, h3⟩ := h
  refine ⟨by omega, h2, fun y hy ha hne => ?_⟩
  by_cases e : y = i
  · subst e
    by_cases q : pr y < pr x
    · exact .inl q
    · exact .inr ⟨by omega, h1⟩
  · exact h3 y (by omega) ha hne
theorem BestOk.nxt {n : Nat} {E : List (Nat × Nat)} {pr : Nat → Int} {row : List Nat} {x : Nat} (h : BestOk n E pr row n (some x)) : Nxt n E pr row x := ⟨h.2.1, fun y ha hne => h.2.2 y ha.1 ha hne⟩
theorem BestOk.none_ {n : Nat} {E : List (Nat × Nat)} {pr : Nat → Int} {row : List Nat} (h : BestOk n E pr row n none) : ∀ y, ¬ Av n E row y := fun _ ha => h _ ha.1 ha
/-- When all stand nothing more may. -/
theorem Gr'.all_stand {n : Nat} {E : List (Nat × Nat)} {pr : Nat → Int} {row : List Nat} (h : Gr' n E pr row) (hl : row.length = n) : ∀ y, ¬ Av n E row y := fun _ ha => ha.2.1 (all_in h.low.1 hl h.low.2 ha.1)
theorem Gr'.len_le {n : Nat} {E : List (Nat × Nat)} {pr : Nat → Int} {row : List Nat} (h : Gr' n E pr row) : row.length ≤ n := pigeon n row h.low.1 h.low.2
end Go.Proofs.YtcdhblfefpkjgaaDoor
