/-
  My own text: layer 19: each key once.
-/
import Derived.Test.YtknnojjfdfkdmaaGreatDoorU5d
namespace Go.Proofs.YtknnojjfdfkdmaaGreatDoor
open Go.RowKit Go.Shelf

set_option maxRecDepth 100000 in
set_option maxHeartbeats 1000000 in
theorem collectK_any (bc cap : Nat) (a : Option Addr) (L : List Ky) (w : World) (h : KY.RM w (.slice a L.length cap) L) (hc : Box w bc 24 (.slice a L.length cap)) (hl : L.length ≤ 8796093022000) :
    Calls Tryz.prog 64 #[.func (Fn.func 66) #[] #[.pointer (some ⟨bc, 0, none⟩)]] w fun e w' => ∃ v : Value, e = .returned v ∧ KY.OM w' w.heap.size v L ∧ Below w.heap.size w w' := by
  have HA := hide (callsIn_wide.1 (appSeq_in bc cap a L w h hc hl))
  clear h hc hl
  go_enter Tryz.func64, Tryz.ntmps64
  go_wp2_with fail
  refine HA.out.mono ?_
  rintro e w1 ⟨v, rfl, h1, h2⟩
  have H1 := hide h1
  have H2 := hide h2
  obtain ⟨a1, c1, hv⟩ := KY.rm_lt h1.rm
  subst hv
  clear h1 h2 HA
  go_wp2_with fail
  go_ret
  exact ⟨_, rfl, H1.out, H2.out⟩
set_option maxRecDepth 100000 in
set_option maxHeartbeats 1000000 in
theorem sortedK_any (bc cap : Nat) (a : Option Addr) (L : List Ky) (w : World) (h : KY.RM w (.slice a L.length cap) L) (hc : Box w bc 24 (.slice a L.length cap)) (hl : L.length ≤ 8796093022000) :
    Calls Tryz.prog 47 #[.func (Fn.func 66) #[] #[.pointer (some ⟨bc, 0, none⟩)], .func (.func 49) #[] #[]] w fun e w' => ∃ (v : Value) (L' : List Ky), e = .returned v ∧ KY.OM w' w.heap.size v L' ∧ L'.Perm L ∧ SrtK L' ∧ Below w.heap.size w w' := by
  have HA := hide (collectK_any bc cap a L w h hc hl)
  have HL := hide hl
  clear h hc hl
  go_enter Tryz.func47, Tryz.ntmps47
  go_wp2_with fail
  refine HA.out.mono ?_
  rintro e w1 ⟨v, rfl, h1, h2⟩
  have H1 := hide h1
  have H2 := hide h2
  obtain ⟨a1, c1, hv⟩ := KY.rm_lt h1.rm
  subst hv
  clear h1 h2 HA
  by_cases h0 : L.length = 0
  · have hL : L = [] := List.eq_nil_of_length_eq_zero h0
    subst hL
    have HS := hide (sortK0_any a1 c1 (.func (.func 49) #[] #[]) w1)
    clear h0
    go_wp2_with fail
    refine HS.out.mono ?_
    rintro e w2 ⟨rfl, rfl⟩
    clear HS
    go_wp2_with fail
    go_ret
    exact ⟨_, [], rfl, H1.out, List.Perm.refl _, List.Pairwise.nil, H2.out⟩
  · have HS := hide (sortK_any _ w.heap.size L w1 H1.out (by omega) (by have := HL.out; omega))
    clear h0
    go_wp2_with fail
    refine HS.out.mono ?_
    rintro e w2 ⟨L', rfl, p1, p2, p3, p4⟩
    have P1 := hide p1
    have P2 := hide p2
    have P3 := hide p3
    have P4 := hide (H2.out.grown p4 H2.out.size (fun k hk => (World.ownsRow.lt H1.out k hk).1))
    clear p1 p2 p3 p4 HS
    go_wp2_with fail
    go_ret
    exact ⟨_, L', rfl, P3.out, P1.out, P2.out, P4.out⟩
set_option maxRecDepth 100000 in
set_option maxHeartbeats 1000000 in
theorem once_any (v : Value) (L : List Ky) (w : World) (h : KY.RM w v L) (hl : L.length ≤ 8796093022000) :
    Calls Tryz.prog 26 #[v] w fun e w' => ∃ (v' : Value) (K : List Ky), e = .returned v' ∧ KY.OM w' w.heap.size v' K ∧ Inc K ∧ (∀ x, x ∈ K ↔ x ∈ L) ∧ K.length ≤ L.length ∧ Below w.heap.size w w' := by
  obtain ⟨a, cap, rfl⟩ := KY.rm_lt h
  have b1 := (Below.refl w.heap.size w).alloc (Nat.le_refl _) (.cells #[.slice a L.length cap] 24)
  have HV := hide (valuesK_any a L.length cap w)
  have HS := hide (sortedK_any w.heap.size cap a L (w.alloc (.cells #[.slice a L.length cap] 24)) (h.later b1) (Box.new w _ _) hl)
  have HB1 := hide b1
  have HL := hide hl
  clear h b1 hl
  go_enter Tryz.func26, Tryz.ntmps26
  go_wp2_with fail
  refine HV.out.mono ?_
  rintro e w1 ⟨rfl, rfl⟩
  clear HV
  obtain ⟨w1, hw1⟩ : ∃ w1, w.alloc (.cells #[.slice a L.length cap] 24) = w1 := ⟨_, rfl⟩
  rw [hw1] at HS HB1 ⊢
  clear hw1
  go_wp2_with fail
  refine HS.out.mono ?_
  rintro e w2 ⟨v2, L2, rfl, p1, p2, p3, p4⟩
  have HB2 := hide (HB1.out.trans (p4.mono HB1.out.size))
  have hl2 : L2.length ≤ 8796093022000 := by rw [p2.length_eq]; exact HL.out
  have HC := hide (compactK_any v2 w1.heap.size L2 w2 p1 (by omega))
  have HP := hide (And.intro p2 p3)
  have HB2' := hide (fun (w3 : World) (hg : w2.grownBy w3 v2.ownBlock) => HB2.out.grown hg HB2.out.size (fun k hk => Nat.le_trans HB1.out.size (World.ownsRow.lt p1 k hk).1))
  obtain ⟨a2, c2, hv2⟩ := KY.rm_lt p1.rm
  subst hv2
  have HL2 := hide hl2
  clear p1 p2 p3 p4 HS hl2
  go_wp2_with fail
  refine HC.out.mono ?_
  rintro e w3 ⟨v3, rfl, q1, q2⟩
  have HB3 := hide (HB2'.out w3 q2)
  obtain ⟨a3, c3, hv3⟩ := KY.rm_lt q1.rm
  subst hv3
  have HCL := hide (cloneK_any _ (dd L2) w3 q1.rm (by have := dd_len L2; have := HL2.out; omega))
  clear q1 q2 HC HB2 HB2'
  go_wp2_with fail
  refine HCL.out.mono ?_
  rintro e w4 ⟨v4, rfl, r1, r2⟩
  have R1 := hide (KY.OM.base r1 (fun g hg => Nat.le_trans HB3.out.size (World.ownsRow.lt r1 g hg).1))
  have R2 := hide (HB3.out.trans (r2.mono HB3.out.size))
  obtain ⟨a4, c4, hv4⟩ := KY.rm_lt r1.rm
  subst hv4
  clear r1 r2 HCL
  go_wp2_with fail
  go_ret
  exact ⟨_, dd L2, rfl, R1.out, dd_inc HP.out.2, fun x => by rw [dd_mem]; exact HP.out.1.mem_iff, by have := dd_len L2; rw [HP.out.1.length_eq] at this; exact this, R2.out⟩
end Go.Proofs.YtknnojjfdfkdmaaGreatDoor
