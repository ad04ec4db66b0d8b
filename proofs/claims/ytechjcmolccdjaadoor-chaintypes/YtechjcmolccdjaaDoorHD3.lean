/-
  My own text: the document's Put, Last and Prune over a row of versions.
-/
import Derived.Test.YtechjcmolccdjaaDoorHD2
namespace Go.Proofs.YtechjcmolccdjaaDoor
open Go.RowKit Go.Shelf

theorem lastN_all {L : List Ver} {n : Int} (hr : Ris L) (h : lastN L < n) : ∀ (i : Nat) (p : Ver), L[i]? = some p → p.1 < n := fun i p hp => by
  have := ris_last L hr p (List.mem_of_getElem? hp); omega
/-- What a Put leaves. -/
def ptL (n : Int) (s : List UInt8) (L : List Ver) : List Ver := if lastN L < n then L ++ [(n, s)] else L
def ptE (n : Int) (L : List Ver) : Int := if lastN L < n then 0 else 1
theorem OR.slc {w : World} {B : Nat} {e : TypeId} {k : Nat} {v : Value} {n : Nat} {xs : List Value} (h : OR w B e k v n xs) : ∃ a cap, v = .slice a n cap := by
  rcases h.2 with ⟨rfl, rfl⟩ | ⟨g, off, cap, cur, rfl, _⟩ <;> exact ⟨_, _, rfl⟩
theorem ptL_no {n : Int} {s : List UInt8} {L : List Ver} (h : ¬ lastN L < n) : ptL n s L = L ∧ ptE n L = 1 := by unfold ptL ptE; rw [if_neg h, if_neg h]; exact ⟨rfl, rfl⟩
theorem ptL_yes {n : Int} {s : List UInt8} {L : List Ver} (h : lastN L < n) : ptL n s L = L ++ [(n, s)] ∧ ptE n L = 0 := by unfold ptL ptE; rw [if_pos h, if_pos h]; exact ⟨rfl, rfl⟩
set_option maxRecDepth 100000 in
set_option maxHeartbeats 2000000 in
theorem refPut_any (v : Value) (L : List Ver) (n : Int) (s : List UInt8) (B k0 : Nat) (w : World) (hv : OR w B 62 2 v L.length (vc L)) (hk : LK L k0) (hl : k0 < 5864062014804) (hB : B ≤ w.heap.size) :
    Calls Tryd.prog 15 #[v, .int .i64 n, .string ⟨s.toArray⟩] w fun e w' => ∃ v', e = .returned (.tuple #[v', .int .i64 (ptE n L)]) ∧ OR w' B 62 2 v' (ptL n s L).length (vc (ptL n s L)) ∧ Below w.heap.size w w' ∧ (∀ g, v'.ownBlock = some g → v.ownBlock = some g ∨ w.heap.size ≤ g) := by
  have HOR := hide hv
  have HRV := hide hv.rv
  obtain ⟨a, cap, rfl, hc⟩ := hv.rv
  obtain ⟨i0, hi, hiz⟩ := Option.map_eq_some_iff.1 Tryd.infoVersion
  simp only [Prod.mk.injEq] at hiz
  obtain ⟨hz0, hz1, hz2⟩ := hiz
  have HI := hide (And.intro hi (And.intro hz0 (And.intro hz1 hz2)))
  have HC := hide hc
  have HL : Hid (L.length < 5864062014804) := hide (by have := hk.len; omega)
  have HK := hide hk
  have HBB := hide hB
  clear hc hl hi hz0 hz1 hz2 hv hk hB
  by_cases hn0 : n < 0
  · have e0 : ¬ lastN L < n := by have := lastN_lo HK.out.pos; omega
    have d0 : decide (n < 0) = true := decide_eq_true hn0
    have HP := hide (ptL_no (s := s) e0)
    clear e0
    go_enter Tryd.func15, Tryd.ntmps15
    go_wp2_with fail
    go_ret2
    rw [HP.out.1, HP.out.2]
    exact ⟨_, rfl, HOR.out, Below.refl _ _, fun g hg => .inl hg⟩
  · have d0 : decide (n < 0) = false := decide_eq_false hn0
    go_enter Tryd.func15, Tryd.ntmps15
    go_wp2_with fail
    go_loopw [8] (fun i wr => ∃ k : Nat, k ≤ L.length ∧ i = .int .i64 (k : Int) ∧ Hid (∀ (j : Nat) (p : Ver), j < k → L[j]? = some p → p.1 < n) ∧ Hid (Below w.heap.size w wr)) (fun i _ => L.length - (intOf i).toNat)
    case atStart => exact ⟨0, Nat.zero_le _, rfl, hide (fun j p hj => by omega), hide (Below.refl _ _)⟩
    case round =>
      obtain ⟨k, hk, rfl, HS, HB⟩ := hrel
      by_cases hlt : k < L.length
      · obtain ⟨⟨N, V⟩, hp⟩ : ∃ p, L[k]? = some p := ⟨_, List.getElem?_eq_getElem hlt⟩
        obtain ⟨g, off, rfl, q1, _⟩ := HC.out k _ hp
        have hd1 : decide ((k : Int) < (L.length : Int)) = true := by rw [decide_eq_true_eq]; omega
        have k0 : (0 : Int) ≤ (k : Int) := by omega
        have k1 : (k : Int) < (L.length : Int) := by omega
        have z1 := (HB.out.cell (World.block_lt_of_cell? _ _ q1)).trans q1
        dsimp only at z1
        have wk : wrap64 ((k : Int) + 1) = (k : Int) + 1 := by have := HL.out; unfold wrap64; omega
        by_cases hN : n ≤ N
        · have hd2 : decide (n ≤ N) = true := decide_eq_true hN
          have e0 : ¬ lastN L < n := by have := ris_last L HK.out.ris _ (List.mem_of_getElem? hp); dsimp only at this; omega
          have HP := hide (ptL_no (s := s) e0)
          have HO2 := hide (HOR.out.later HB.out)
          clear hp q1 e0
          go_wp2_with fail
          go_ret2
          rw [HP.out.1, HP.out.2]
          exact ⟨_, rfl, HO2.out, HB.out, fun g hg => .inl hg⟩
        · have hd2 : decide (n ≤ N) = false := decide_eq_false hN
          have HS2 : Hid (∀ (j : Nat) (p : Ver), j < k + 1 → L[j]? = some p → p.1 < n) := hide (fun j p hj hjp => by
            by_cases e : j = k
            · subst e; rw [hp] at hjp; cases hjp; dsimp only; omega
            · exact HS.out j p (by omega) hjp)
          clear hp q1
          go_wp2_with fail
          go_roundw
          case rel => exact ⟨k + 1, by omega, by go_num, HS2, HB⟩
          case measure => rw [wk]; simp [intOf]; omega
      · have e : k = L.length := by omega
        subst e
        have e0 : lastN L < n := by
          rcases snoc_cases L with e | ⟨K, p, e⟩
          · rw [e, lastN_nil]; omega
          · have := HS.out K.length p (by rw [e]; simp) (by rw [e]; simp)
            rw [e, lastN_snoc]; exact this
        have HRB := hide (HRV.out.later HB.out)
        have HP := hide (ptL_yes (s := s) e0)
        clear e0
        go_wp2_with fail
        refine (copy_any _ L wr HRB.out (by have := HL.out; omega)).mono ?_
        rintro e w2 ⟨v2, rfl, ho2, hb2⟩
        have HB2 := hide (HB.out.trans (hb2.mono HB.out.size))
        have HO2 := hide ho2
        have HZ := hide HB.out.size
        have HZ2 := hide hb2.size
        obtain ⟨W3, hW3⟩ : ∃ W3, w2.alloc (.cells #[.int .i64 n, .string ⟨s.toArray⟩] 62) = W3 := ⟨_, rfl⟩
        have HW3 := hide hW3
        have HO3 : Hid (OR W3 wr.heap.size 62 2 v2 L.length (vc L)) := hide (by rw [← hW3]; exact HO2.out.later ((Below.refl _ _).alloc (Nat.le_refl _) _))
        have HN3 : Hid (∀ j u, ([.int .i64 n, .string ⟨s.toArray⟩] : List Value)[j]? = some u → W3.cell? ((⟨w2.heap.size, 0, none⟩ : Addr).add j) = some u) := hide (fun j u hj => by
          rw [← hW3, Addr.add_lit, cell_of_row _ w2.heap.size _ _ _ _ (alloc_newV w2 _)]
          match j, hj with
          | 0, hj => cases hj; rfl
          | 1, hj => cases hj; rfl)
        have HZ3 : Hid (wr.heap.size ≤ W3.heap.size) := hide (by rw [← hW3]; have := HZ2.out; simp; omega)
        clear hb2 ho2
        go_wp2_with (at_builtin; refine wp_append_or W3 wr.heap.size 26 62 i0 _ 2 24 rfl _ _ rfl Tryd.underlying26 HI.out.1 HI.out.2.1 HI.out.2.2.1 HI.out.2.2.2 rfl (by decide) v2 L.length (vc L) rfl HO3.out ⟨w2.heap.size, 0, none⟩ 1 [.int .i64 n, .string ⟨s.toArray⟩] rfl rfl HN3.out (by intro u hu; simp at hu; rcases hu with rfl | rfl <;> rfl) (by have := HL.out; unfold maxLen; omega) (by have := HL.out; omega) HZ3.out ?_)
        intro v' w4 r1 r2 _
        have HFR : Hid (∀ g, v'.ownBlock = some g → w.heap.size ≤ g) := hide (fun g hg => Nat.le_trans HZ.out (r1.lt hg).1)
        have HO4 : Hid (OR w4 B 62 2 v' (L ++ [(n, s)]).length (vc (L ++ [(n, s)]))) := hide (by rw [← vc_snoc, List.length_append]; exact r1.low (by have := HBB.out; have := HZ.out; omega))
        have HB4 : Hid (Below w.heap.size w w4) := hide (row_push (p := (n, s)) HB2.out (HO2.out.low HZ.out) HW3.out r2)
        clear r1 r2 hW3 HW3
        go_wp2_with fail
        go_ret2
        rw [HP.out.1, HP.out.2]
        exact ⟨_, rfl, HO4.out, HB4.out, fun g hg => .inr (HFR.out g hg)⟩
set_option maxRecDepth 100000 in
set_option maxHeartbeats 1000000 in
theorem refLast_any (v : Value) (L : List Ver) (w : World) (hv : RV w v L) (hr : Ris L) (hm : ∀ p ∈ L, p.1 ≤ 9223372036854775807) (hl : L.length ≤ 4611686018427387904) :
    Calls Tryd.prog 30 #[v] w fun e w' => e = .returned (.tuple #[.string ⟨(laP L).2.toArray⟩, .int .i64 (laP L).1, .bool (laB L)]) ∧ Below w.heap.size w w' := by
  have HK := hide (refCounts_any v L 9223372036854775807 w hv hr hl)
  rw [ab_max L hm] at HK
  obtain ⟨a, cap, rfl, hc⟩ := hv
  rcases Nat.eq_zero_or_pos L.length with h0 | h0
  · obtain rfl := List.eq_nil_of_length_eq_zero h0
    rw [show bI ([] : List Ver).length = -1 from rfl] at HK
    show Calls _ _ _ _ fun e w' => e = .returned (.tuple #[.string ⟨#[]⟩, .int .i64 0, .bool false]) ∧ _
    clear h0 hc hr hl hm
    go_enter Tryd.func30, Tryd.ntmps30
    go_wp2_with fail
    refine HK.out.mono ?_
    rintro e w2 ⟨rfl, hb⟩
    have B2 := hide hb
    clear hb
    go_wp2_with fail
    go_ret3
    exact ⟨rfl, B2.out⟩
  · obtain ⟨k, hk⟩ : ∃ k, L.length = k + 1 := ⟨L.length - 1, by omega⟩
    obtain ⟨⟨N, V⟩, hp⟩ : ∃ p, L[k]? = some p := ⟨_, List.getElem?_eq_getElem (by omega)⟩
    have e1 : laP L = (N, V) := by unfold laP; rw [hk, Nat.add_sub_cancel, hp]
    have e2 : laB L = true := decide_eq_true h0
    rw [e1, e2]
    have e3 : bI L.length = (k : Int) := by rw [hk, bIS]
    rw [e3] at HK
    obtain ⟨g, off, rfl, q1, q2⟩ := hc k _ hp
    dsimp only at q1 q2 ⊢
    have HQ1 := hide q1
    have HQ2 := hide q2
    have k0 : (0 : Int) ≤ (k : Int) := by omega
    have k1 : (k : Int) < (L.length : Int) := by omega
    have d1 : decide ((k : Int) < 0) = false := decide_eq_false (by omega)
    obtain ⟨ln, hln⟩ : ∃ ln, ln = L.length := ⟨_, rfl⟩
    rw [← hln] at k1 HK ⊢
    clear e1 e2 e3 h0 hc hr hl hp hk q1 q2 hm hln
    go_enter Tryd.func30, Tryd.ntmps30
    go_wp2_with fail
    refine HK.out.mono ?_
    rintro e w2 ⟨rfl, hb⟩
    have z1 := (hb.cell (World.block_lt_of_cell? _ _ HQ1.out)).trans HQ1.out
    have z2 := (hb.cell (World.block_lt_of_cell? _ _ HQ2.out)).trans HQ2.out
    have B2 := hide hb
    clear hb
    go_wp2_with fail
    go_quiet (fail)
    go_wp2_with fail
    go_ret3
    exact ⟨rfl, below_dq B2.out _⟩
end Go.Proofs.YtechjcmolccdjaaDoor
