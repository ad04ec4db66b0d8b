/-
  My own text: the document's Prune over a row of versions.
-/
import Derived.Test.YtechjcmolccdjaaDoorHD3
namespace Go.Proofs.YtechjcmolccdjaaDoor
open Go.RowKit Go.Shelf

theorem tkdr_lo {L : List Ver} {i m : Nat} (h : i < m) : (L.take (i + 1)).drop m = [] := by
  apply List.drop_eq_nil_of_le; rw [List.length_take]; omega
theorem tkdr_hi {L : List Ver} {i m : Nat} {p : Ver} (h : m ≤ i) (hp : L[i]? = some p) : (L.take (i + 1)).drop m = (L.take i).drop m ++ [p] := by
  have hlt := (List.getElem?_eq_some_iff.1 hp).1
  rw [List.take_add_one, hp, List.drop_append_of_le_length (by rw [List.length_take]; omega)]; rfl
theorem tkdr_len {L : List Ver} {i m : Nat} (hi : i ≤ L.length) : ((L.take i).drop m).length = i - m := by
  rw [List.length_drop, List.length_take, Nat.min_eq_left hi]
theorem ris_le {L : List Ver} (hr : Ris L) {i j : Nat} {p q : Ver} (hp : L[i]? = some p) (hq : L[j]? = some q) (h : i ≤ j) : p.1 ≤ q.1 := by
  have a := ab_self L j q hr hq
  exact ab_lo (n := q.1) (by omega) hp
theorem ris_lt {L : List Ver} (hr : Ris L) {i j : Nat} {p q : Ver} (hp : L[i]? = some p) (hq : L[j]? = some q) (h : i < j) : p.1 < q.1 := by
  have a := ab_self L i p hr hp
  exact ab_hi (n := p.1) hr (by omega) hq
set_option maxRecDepth 100000 in
set_option maxHeartbeats 2000000 in
theorem refPrune_any (v : Value) (L : List Ver) (n : Int) (B k0 : Nat) (w : World) (hv : OR w B 62 2 v L.length (vc L)) (hk : LK L k0) (hl : k0 ≤ 5864062014804) (hB : B ≤ w.heap.size) :
    Calls Tryd.prog 19 #[v, .int .i64 n] w fun e w' => ∃ v', e = .returned (.tuple #[v', .int .i64 ((ab n L - 1 : Nat) : Int)]) ∧ OR w' B 62 2 v' (L.drop (ab n L - 1)).length (vc (L.drop (ab n L - 1))) ∧ Below w.heap.size w w' ∧ (∀ g, v'.ownBlock = some g → v.ownBlock = some g ∨ w.heap.size ≤ g) := by
  have HOR := hide hv
  have HK := hide (refCounts_any v L n w hv.rv hk.ris (by have := hk.len; omega))
  obtain ⟨a, cap, rfl, hc⟩ := hv.rv
  obtain ⟨i0, hi, hiz⟩ := Option.map_eq_some_iff.1 Tryd.infoVersion
  simp only [Prod.mk.injEq] at hiz
  obtain ⟨hz0, hz1, hz2⟩ := hiz
  have HI := hide (And.intro hi (And.intro hz0 (And.intro hz1 hz2)))
  have HC := hide hc
  have HL : Hid (L.length ≤ 5864062014804) := hide (by have := hk.len; omega)
  have HR := hide hk.ris
  have HBB := hide hB
  clear hc hl hi hz0 hz1 hz2 hv hk hB
  rcases Nat.eq_zero_or_pos (ab n L) with h0 | h0
  · rw [h0, show 0 - 1 = 0 from rfl, List.drop_zero]
    rw [h0, bI0] at HK
    clear h0
    go_enter Tryd.func19, Tryd.ntmps19
    go_wp2_with fail
    refine HK.out.mono ?_
    rintro e w2 ⟨rfl, hb⟩
    have B2 := hide hb
    have O2 := hide (HOR.out.later hb)
    clear hb
    go_wp2_with fail
    go_ret2
    exact ⟨_, rfl, O2.out, B2.out, fun g hg => .inl hg⟩
  · obtain ⟨m, hm⟩ : ∃ m, ab n L = m + 1 := ⟨ab n L - 1, by omega⟩
    have hml : m < L.length := by have := ab_le n L; omega
    rw [hm, Nat.add_sub_cancel]
    rw [hm, bIS] at HK
    obtain ⟨⟨M, MV⟩, hpm⟩ : ∃ p, L[m]? = some p := ⟨_, List.getElem?_eq_getElem hml⟩
    obtain ⟨g, off, rfl, qm, _⟩ := HC.out m _ hpm
    dsimp only at qm
    have HQM := hide qm
    have HPM := hide hpm
    have HML := hide hml
    have m0 : (0 : Int) ≤ (m : Int) := by omega
    have m1 : (m : Int) < (L.length : Int) := by omega
    have dm : decide ((m : Int) < 0) = false := decide_eq_false (by omega)
    clear hm h0 hpm qm hml
    go_enter Tryd.func19, Tryd.ntmps19
    go_wp2_with fail
    refine HK.out.mono ?_
    rintro e w2 ⟨rfl, hb⟩
    have B2 := hide hb
    clear hb HK
    go_wp2_with fail
    go_loopw [7, 8] (fun o i wr => ∃ (k : Nat) (x : Value), k ≤ L.length ∧ i = .int .i64 (k : Int) ∧ o = x ∧ Hid (OR wr w.heap.size 62 2 x ((L.take k).drop m).length (vc ((L.take k).drop m))) ∧ Hid (Below w.heap.size w wr)) (fun _ i _ => L.length - (intOf i).toNat)
    case atStart => exact ⟨0, _, Nat.zero_le _, rfl, rfl, hide (by rw [List.take_zero, List.drop_nil]; exact OR.nil _ _ _ _), B2⟩
    case round =>
      clear B2
      obtain ⟨k, o, hk, rfl, ho, HO, HB⟩ := hrel
      have ho' := ho.symm
      clear ho
      subst ho'
      by_cases hlt : k < L.length
      · obtain ⟨⟨N, V⟩, hp⟩ : ∃ p, L[k]? = some p := ⟨_, List.getElem?_eq_getElem hlt⟩
        obtain ⟨_, _, ea, q1, q2⟩ := HC.out k _ hp
        cases ea
        have hd1 : decide ((k : Int) < (L.length : Int)) = true := by rw [decide_eq_true_eq]; omega
        have k0 : (0 : Int) ≤ (k : Int) := by omega
        have k1 : (k : Int) < (L.length : Int) := by omega
        have z1 := (HB.out.cell (World.block_lt_of_cell? _ _ q1)).trans q1
        have z2 := (HB.out.cell (World.block_lt_of_cell? _ _ q2)).trans q2
        have zm := (HB.out.cell (World.block_lt_of_cell? _ _ HQM.out)).trans HQM.out
        dsimp only at z1 z2
        have wk : wrap64 ((k : Int) + 1) = (k : Int) + 1 := by have := HL.out; unfold wrap64; omega
        by_cases hkm : m ≤ k
        · have hd2 : decide (M ≤ N) = true := decide_eq_true (ris_le HR.out HPM.out hp hkm)
          have HT : Hid ((L.take (k + 1)).drop m = (L.take k).drop m ++ [(N, V)]) := hide (tkdr_hi hkm hp)
          have HLK : Hid (((L.take k).drop m).length ≤ L.length) := hide (by rw [tkdr_len hk]; omega)
          obtain ⟨K, hK⟩ : ∃ K, K = (L.take k).drop m := ⟨_, rfl⟩
          rw [← hK] at HO HT HLK
          have HLK2 : Hid (K.length < L.length) := hide (by rw [hK, tkdr_len hk]; omega)
          clear hK
          clear hp q1 q2
          go_wp2_with fail
          go_quiet (fail)
          have HBq := hide (below_dq HB.out nq)
          have HOq := hide (HO.out.later (below_dq (Below.refl _ wr) nq))
          have y1 : (wr.drewN nq).cell? ⟨g, off + k * 2, none⟩ = some (.int .i64 N) := z1
          have y2 : (wr.drewN nq).cell? ⟨g, off + k * 2 + 1, none⟩ = some (.string ⟨V.toArray⟩) := z2
          clear z1 z2 zm HO HB
          generalize wr.drewN nq = wq at *
          obtain ⟨W3, hW3⟩ : ∃ W3, wq.alloc (.cells #[.int .i64 N, .string ⟨V.toArray⟩] 62) = W3 := ⟨_, rfl⟩
          have HW3 := hide hW3
          have HO3 : Hid (OR W3 w.heap.size 62 2 o K.length (vc K)) := hide (by rw [← hW3]; exact HOq.out.later ((Below.refl _ _).alloc (Nat.le_refl _) _))
          have HN3 : Hid (∀ j u, ([.int .i64 N, .string ⟨V.toArray⟩] : List Value)[j]? = some u → W3.cell? ((⟨wq.heap.size, 0, none⟩ : Addr).add j) = some u) := hide (fun j u hj => by
            rw [← hW3, Addr.add_lit, cell_of_row _ wq.heap.size _ _ _ _ (alloc_newV wq _)]
            match j, hj with
            | 0, hj => cases hj; rfl
            | 1, hj => cases hj; rfl)
          have HZ3 : Hid (w.heap.size ≤ W3.heap.size) := hide (by rw [← hW3]; have := HBq.out.size; simp; omega)
          go_wp2_with (at_builtin; refine wp_append_or W3 w.heap.size 26 62 i0 _ 2 24 rfl _ _ rfl Tryd.underlying26 HI.out.1 HI.out.2.1 HI.out.2.2.1 HI.out.2.2.2 rfl (by decide) o K.length (vc K) rfl HO3.out ⟨wq.heap.size, 0, none⟩ 1 [.int .i64 N, .string ⟨V.toArray⟩] rfl rfl HN3.out (by intro u hu; simp at hu; rcases hu with rfl | rfl <;> rfl) (by have := HL.out; have := HLK2.out; unfold maxLen; omega) (by have := HL.out; have := HLK2.out; omega) HZ3.out ?_)
          intro v' w4 r1 r2 _
          have HO4 : Hid (OR w4 w.heap.size 62 2 v' ((L.take (k + 1)).drop m).length (vc ((L.take (k + 1)).drop m))) := hide (by rw [HT.out, ← vc_snoc, List.length_append]; exact r1)
          have HB4 := hide (row_push (p := (N, V)) HBq.out HOq.out HW3.out r2)
          clear r1 r2 hW3 HW3 y1 y2
          go_wp2_with fail
          go_roundw
          case rel => exact ⟨k + 1, _, by omega, by go_num, rfl, HO4, HB4⟩
          case measure => rw [wk]; simp [intOf]; omega
        · have hd2 : decide (M ≤ N) = false := decide_eq_false (by have := ris_lt HR.out hp HPM.out (show k < m by omega); dsimp only at this; omega)
          have HO4 : Hid (OR wr w.heap.size 62 2 o ((L.take (k + 1)).drop m).length (vc ((L.take (k + 1)).drop m))) := hide (by
            have := HO.out
            rw [show (L.take k).drop m = [] from List.drop_eq_nil_of_le (by rw [List.length_take]; omega)] at this
            rw [tkdr_lo (by omega)]; exact this)
          clear hp q1 q2 HO
          go_wp2_with fail
          go_quiet (fail)
          have HBq := hide (below_dq HB.out nq)
          have HOq := hide (HO4.out.later (below_dq (Below.refl _ wr) nq))
          go_wp2_with fail
          go_roundw
          case rel => exact ⟨k + 1, _, by omega, by go_num, rfl, HOq, HBq⟩
          case measure => rw [wk]; simp [intOf]; omega
      · have e : k = L.length := by omega
        subst e
        have HO5 := HO.out
        rw [List.take_length] at HO5
        obtain ⟨ao, co, rfl⟩ := HO5.slc
        have HFR : Hid (∀ g, (Value.slice ao (L.drop m).length co).ownBlock = some g → w.heap.size ≤ g) := hide (fun g hg => (HO5.lt hg).1)
        have HO6 := hide (HO5.low (C := B) HBB.out)
        have hlen : (L.drop m).length = L.length - m := List.length_drop
        have ws : wrap64 ((L.length : Int) - ((L.drop m).length : Int)) = (m : Int) := by
          rw [hlen]; have := HL.out; have := HML.out; unfold wrap64; omega
        obtain ⟨K, hK⟩ : ∃ K, K = L.drop m := ⟨_, rfl⟩
        rw [← hK] at HO6 HFR ws ⊢
        have HKK := hide hK
        clear hlen HO HO5 hK
        go_wp2_with fail
        go_ret2
        rw [← HKK.out]
        refine ⟨.slice ao K.length co, ?_, HO6.out, HB.out, fun g hg => .inr (HFR.out g hg)⟩
        show Ending.returned (.tuple #[.slice ao K.length co, .int .i64 (wrap64 ((L.length : Int) - (K.length : Int)))]) = _
        rw [ws]
end Go.Proofs.YtechjcmolccdjaaDoor
