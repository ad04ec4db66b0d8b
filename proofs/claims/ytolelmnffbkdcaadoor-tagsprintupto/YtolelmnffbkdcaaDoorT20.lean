/-
  My own text: what TagsPrint asks of any message.
-/
import Derived.Test.YtolelmnffbkdcaaDoorT19
namespace Go.Proofs.YtolelmnffbkdcaaDoor
open Go.RowKit

theorem itemE_b (i : Itm) (n : Nat) (d : Int) : 0 ≤ itemE i n d ∧ itemE i n d ≤ 24 := by
  have h1 : 0 ≤ fieldE i n ∧ fieldE i n ≤ 24 := by
    unfold fieldE
    generalize tagB i.tag = a; generalize i.qual.isEmpty = b; generalize qualB i.qual = c; generalize i.name.isEmpty = e; generalize decide (n = 0) = f; generalize txB i.text = g; generalize nlB i.text = h; generalize hdB i.text = j
    revert a b c e f g h j; decide
  have h2 : 0 ≤ blockE i d ∧ blockE i d ≤ 24 := by
    unfold blockE
    generalize decide (8 ≤ d) = a; generalize nameB i.name = b; generalize i.qual.isEmpty = c; generalize i.text.isEmpty = e
    revert a b c e; decide
  unfold itemE
  split
  · exact h1
  · split
    · omega
    · exact h2
mutual
theorem errI_b : ∀ (a : Tr) (d : Int), 0 ≤ errI a d ∧ errI a d ≤ 24
  | .mk i l, d => by
    have h1 := itemE_b i l.length d
    have h2 := errL_b l (d + 1)
    rw [errI]
    split
    · exact h1
    · split
      · omega
      · exact h2
theorem errL_b : ∀ (l : List Tr) (d : Int), 0 ≤ errL l d ∧ errL l d ≤ 24
  | [], d => by rw [errL]; omega
  | a :: r, d => by
    have h1 := errI_b a d
    have h2 := errL_b r d
    rw [errL]
    split
    · exact h1
    · exact h2
end
theorem prE_b (l : List Tr) : 0 ≤ prE l ∧ prE l ≤ 24 := by
  have h := errL_b l 0
  unfold prE
  split
  · exact h
  · split <;> omega
set_option maxRecDepth 100000 in
set_option maxHeartbeats 4000000 in
theorem tagsPrint_law (l : List Tr) (v : Value) (w : World) (hD : wts l ≤ 67108864) (hv : RT w v l) (HE : Hid (ErrType w)) :
    Calls Tryd.prog 3 #[v] w fun e w' => e = .returned (.bool true) ∧ Below w.heap.size w w' := by
  have HF := hide (few_any l v w (by omega) hv)
  have HV := hide hv
  have PB := hide (prE_b l)
  clear hv
  go_enter Tryd.func3, Tryd.ntmps3
  go_wp2_with fail
  refine HF.out.mono ?_
  rintro e w0 ⟨⟨b, rfl⟩, q, rfl⟩
  have B0 := hide (below_dN (Below.refl w.heap.size w) q)
  clear HF
  cases b
  · go_wp2_with fail
    go_ret
    exact ⟨rfl, B0.out⟩
  · have HP := hide (refPrint_any l v (w.drewN q) (by omega) (RT_later HV.out B0.out))
    generalize w.drewN q = w0 at *
    go_wp2_with fail
    refine HP.out.mono ?_
    rintro e w1 ⟨rfl, hb1⟩
    have B1 := hide (B0.out.trans (hb1.mono B0.out.size))
    clear hb1 HP
    have HL := hide (lentItems_any l v w1 (by omega) (RT_later HV.out B1.out))
    go_wp2_with fail
    refine HL.out.mono ?_
    rintro e w2 ⟨g, c, rfl, hfu, hb2⟩
    have HFU := hide hfu
    have B2 := hide (B1.out.trans (hb2.mono B1.out.size))
    clear hb2 HL hfu
    have HT := hide (tPrint_any l (.slice (some ⟨g, 0, none⟩) l.length c) w2 (by omega) (FU_rt _ l g c (Nat.le_refl _) HFU.out))
    go_wp2_with fail
    refine HT.out.mono ?_
    rintro e w3 ⟨rfl, hb3⟩
    have HFU3 := hide (FU_kept (fun x _ hx => hb3.block x hx) hb3.size (fun x h _ => h) _ l g c (Nat.le_refl _) HFU.out)
    have B3 := hide (B2.out.trans (hb3.mono B2.out.size))
    clear hb3 HT
    have HPL := hide (plain_errV (prE l) (prE l) w3 PB.out.1 PB.out.2 (HE.out.below B3.out))
    generalize errV (prE l) = ev at *
    generalize prE l = pe at *
    generalize prT l = pt at *
    go_wp2_with fail
    refine HPL.out.mono ?_
    rintro e w4 ⟨rfl, hb4⟩
    rw [beq_self_eq_true]
    have HFU4 := hide (FU_kept (fun x _ hx => hb4.block x hx) hb4.size (fun x h _ => h) _ l g c (Nat.le_refl _) HFU3.out)
    have B4 := hide (B3.out.trans (hb4.mono B3.out.size))
    clear hb4 HPL
    have HK := hide (keptItems_any _ l g c v w4 (by omega) HFU4.out (RT_later HV.out B4.out))
    go_wp2_with fail
    refine HK.out.mono ?_
    rintro e w5 ⟨rfl, hb5⟩
    have B5 := hide (B4.out.trans (hb5.mono B4.out.size))
    clear hb5
    go_wp2_with fail
    go_ret
    exact ⟨rfl, B5.out⟩
end Go.Proofs.YtolelmnffbkdcaaDoor
