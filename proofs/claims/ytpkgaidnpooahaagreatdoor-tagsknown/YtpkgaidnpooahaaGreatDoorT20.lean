/-
  My own text: T19, T20 in one.
-/
import Derived.Test.YtpkgaidnpooahaaGreatDoorT18
namespace Go.Proofs.YtpkgaidnpooahaaGreatDoor
open Go.RowKit

set_option maxRecDepth 100000 in
set_option maxHeartbeats 4000000 in
theorem lentItems_any (l : List Tr) (v : Value) (w : World) (hD : wts l ≤ 1073741824) (hv : RT w v l) :
    Calls Tryz.prog 31 #[v] w fun e w' => ∃ g c, e = .returned (.slice (some ⟨g, 0, none⟩) l.length c) ∧ FU w' (fun x => w.heap.size ≤ x ∧ x < w'.heap.size) g c l ∧ Below w.heap.size w w' := by
  have HF := hide (fullItems_any (wts l) l v w (Nat.le_refl _) hD hv)
  have hll : l.length ≤ 1073741824 := by have := wts_len l; omega
  obtain ⟨a, cap, rfl, hr⟩ := hv
  clear hr
  go_enter Tryz.func31, Tryz.ntmps31
  go_wp2_with fail
  refine HF.out.mono ?_
  rintro e w1 ⟨g, c, rfl, hfu, hb1⟩
  have HFU := hide hfu
  have HB1 := hide hb1
  have hcne : ¬ c = l.length := by have := hfu.1; omega
  have hcle : (l.length : Int) ≤ (c : Int) := by have := hfu.1; omega
  clear hfu hb1
  go_wp2_with fail
  go_ret
  exact ⟨g, c, rfl, HFU.out, HB1.out⟩
theorem sizeItm5 : (Tryz.prog.info? 25).map (·.size) = some 5 := by kernel_rfl
set_option maxRecDepth 100000 in
set_option maxHeartbeats 8000000 in
theorem keptFull_any (S : Nat → Prop) : ∀ (D : Nat) (l : List Tr) (g c : Nat) (v : Value) (w : World), wts l ≤ D → D ≤ 1073741824 → FU w S g c l → RT w v l →
    Calls Tryz.prog 59 #[.slice (some ⟨g, 0, none⟩) (2 * l.length + 1) c, v] w fun e w' => e = .returned (.bool true) ∧ Below w.heap.size w w' := by
  intro D
  induction D using Nat.strongRecOn with
  | ind D ih =>
    intro l g c v w hD hD2 hf hv
    have IH := hide ih
    have HF := hide hf
    have HRT := hide hv
    obtain ⟨ab, capb, rfl, hrb⟩ := hv
    have HRB := hide hrb
    clear hrb ih
    have hll : l.length ≤ 1073741824 := by have := wts_len l; omega
    have HGL := hide hf.2.2.1
    have HEND := hide hf.2.2.2.1
    have HFL := hide hf.2.2.2.2
    clear hf
    go_enter Tryz.func59, Tryz.ntmps59
    go_wp2_with fail
    go_loopw [6] (fun i wr => ∃ k : Nat, k ≤ l.length ∧ i = .int .i64 k ∧ Hid (Below w.heap.size w wr)) (fun i _ => l.length - (intOf i).toNat)
    case atStart => exact ⟨0, Nat.zero_le _, rfl, hide (Below.refl _ _)⟩
    case round =>
      obtain ⟨k, hk, rfl, HB⟩ := hrel
      by_cases hlt : k < l.length
      · obtain ⟨t, ht⟩ : ∃ t, l[k]? = some t := ⟨_, List.getElem?_eq_getElem hlt⟩
        have HWE := hide (wt_eq t)
        have HWA := hide (wts_at ht)
        obtain ⟨ga, ca, a0, a1, a2, a3, a4, a5, a6, hfk⟩ := FI_iff.1 (FL_at HFL.out ht)
        rw [Nat.zero_add] at a0 a1 a2 a3 a4 a5 a6
        obtain ⟨bb, offb, kvb, eb, hblb, b0, b1, b2, b3, b4, hkvb⟩ := RT_at HRB.out ht
        have HRGA := hide (five_range a0 a1 a2 a3 a4)
        have HRGB := hide (five_range b0 b1 b2 b3 b4)
        have HA5 := hide a5
        have HA6 := hide a6
        have HB4 := hide b4
        have HFK := hide hfk
        have HKB := hide hkvb
        have HLB := hide hblb
        subst eb
        clear a0 a1 a2 a3 a4 a5 a6 b0 b1 b2 b3 b4 hfk hkvb hblb ht
        have HSI := hide (fun (W : World) (hW : Below w.heap.size w W) => sameItem_of t.itm (.slice (some ⟨ga, 0, none⟩) t.kids.length ca) kvb W (fun W2 h2 => sameItems_any (wts t.kids) t.kids _ kvb W2 (Nat.le_refl _) (by have := HWE.out; have := HWA.out; omega) (RT_later (FU_rt _ _ _ _ (Nat.le_refl _) HFK.out) (hW.trans (h2.mono hW.size))) (RT_later HKB.out (hW.trans (h2.mono hW.size)))))
        have HKI := hide (fun (W : World) (hW : Below w.heap.size w W) => IH.out (wts t.kids) (by have := HWE.out; have := HWA.out; omega) t.kids ga ca kvb W (Nat.le_refl _) (by have := HWE.out; have := HWA.out; omega) (FU_kept (fun x _ hx => hW.block x hx) hW.size (fun x h _ => h) _ _ _ _ (Nat.le_refl _) HFK.out) (RT_later HKB.out hW))
        go_wp2_with fail
        have HG0 := hide ((Below.refl wr.heap.size wr).drew)
        have HBx : Hid (∀ x : Gr wr, Below w.heap.size w x.1) := hide (fun x => HB.out.trans (x.2.mono HB.out.size))
        haveI : Nonempty (Gr wr) := ⟨⟨_, HG0.out⟩⟩
        have q5 : ∀ x : Gr wr, x.1.cell? ⟨g, (l.length + k) * 5, none⟩ = some (.string ⟨#[35, 102, 117, 108, 108]⟩) := fun x => ((HBx.out x).cell (p := ⟨g, _, none⟩) HGL.out).trans HA5.out
        have q6 : ∀ x : Gr wr, x.1.cell? ⟨g, (l.length + k) * 5 + 4, none⟩ = some (.slice (some ⟨ga, 0, none⟩) (2 * t.kids.length + 1) ca) := fun x => ((HBx.out x).cell (p := ⟨g, _, none⟩) HGL.out).trans HA6.out
        have q4 : ∀ x : Gr wr, x.1.cell? ⟨bb, offb + k * 5 + 4, none⟩ = some kvb := fun x => ((HBx.out x).cell (p := ⟨bb, _, none⟩) HLB.out).trans HB4.out
        refine region_class (C := fun w' => ∃ x : Gr wr, w' = x.1) (by kernel_rfl) (by kernel_rfl) ⟨⟨_, HG0.out⟩, rfl⟩ ?_
        repeat (first
          | go_big_quiet_skip
          | (go_big_quiet_want; first
              | (refine quiet_load_at 25 (.tmp 22) rfl g (k * 5) rfl (iC t.itm (.slice (some ⟨ga, 0, none⟩) t.kids.length ca)).toList _ (fun w' ⟨x, hx⟩ => by subst hx; exact rng_below (HBx.out x) HGL.out HRGA.out) Tryz.underlying25 rfl Tryz.sizeItm ?_; rw [Array.toArray_toList]; simp only [Act.put, List.setIfInBounds_toArray, List.set_cons_zero, List.set_cons_succ]; go_big_quiet_on)
              | (refine quiet_load_at 25 (.tmp 26) rfl bb (offb + k * 5) rfl (iC t.itm kvb).toList _ (fun w' ⟨x, hx⟩ => by subst hx; exact rng_below (HBx.out x) HLB.out HRGB.out) Tryz.underlying25 rfl Tryz.sizeItm ?_; rw [Array.toArray_toList]; simp only [Act.put, List.setIfInBounds_toArray, List.set_cons_zero, List.set_cons_succ]; go_big_quiet_on)
              | (go_big_quiet_op; first
                  | go_big_quiet_on
                  | (apply Exists.intro; refine ⟨fun x => ?_, ?_⟩; (first
                      | (go_at_call 22; exact x.call (HSI.out x.1 (HBx.out x)))
                      | (go_at_call 59; exact x.call (HKI.out x.1 (HBx.out x)))); go_big_quiet_on))))
        refine wpQuiet_nil ?_
        rintro w3 ⟨x, rfl⟩
        have HB3 := hide (HBx.out x)
        obtain ⟨w3, hw3⟩ := x
        dsimp only at HB3 ⊢
        clear hw3 HG0 this HBx q5 q6 q4
        go_wp2_with fail
        go_roundw
        case rel => exact ⟨k + 1, by omega, by go_num, HB3⟩
        case measure => simp [intOf]; omega
      · have hk' : k = l.length := by omega
        subst hk'
        have c0 := (HB.out.cell (p := ⟨g, _, none⟩) HGL.out).trans HEND.out
        go_wp2_with fail
        go_ret
        exact ⟨rfl, HB.out⟩
set_option maxRecDepth 100000 in
set_option maxHeartbeats 4000000 in
theorem keptItems_any (S : Nat → Prop) (l : List Tr) (g c : Nat) (v : Value) (w : World) (hD : wts l ≤ 1073741824) (hf : FU w S g c l) (hv : RT w v l) :
    Calls Tryz.prog 32 #[.slice (some ⟨g, 0, none⟩) l.length c, v] w fun e w' => e = .returned (.bool true) ∧ Below w.heap.size w w' := by
  have HK := hide (keptFull_any S (wts l) l g c v w (Nat.le_refl _) hD hf hv)
  have hll : l.length ≤ 1073741824 := by have := wts_len l; omega
  have hc0 : ¬ c = 0 := by have := hf.1; omega
  have hcle : (2 * (l.length : Int) + 1) ≤ (c : Int) := by have := hf.1; omega
  have hcne : 2 * l.length + 1 ≤ c := hf.1
  obtain ⟨a, cap, rfl, hr⟩ := hv
  clear hr hf
  go_enter Tryz.func32, Tryz.ntmps32
  go_wp2_with fail
  refine HK.out.mono ?_
  rintro e w1 ⟨rfl, hb1⟩
  have HB1 := hide hb1
  clear hb1
  go_wp2_with fail
  go_ret
  exact ⟨rfl, HB1.out⟩
end Go.Proofs.YtpkgaidnpooahaaGreatDoor
namespace Go.Proofs.YtpkgaidnpooahaaGreatDoor
open Go.RowKit

theorem itemE_b (i : Itm) (n : Nat) (d : Int) : 0 ≤ itemE i n d ∧ itemE i n d ≤ 24 := by
  have h1 : 0 ≤ fieldE i n ∧ fieldE i n ≤ 24 := by
    unfold fieldE
    generalize tagB i.tag = a; generalize i.qual.isEmpty = b; generalize qualB i.qual = c; generalize i.name.isEmpty = e; generalize decide (n = 0) = f; generalize txB i.text = g; generalize nlB i.text = h; generalize hdB i.text = j
    revert a b c e f g h j; decide
  have h2 : 0 ≤ blockE i d ∧ blockE i d ≤ 24 := by
    unfold blockE
    generalize decide (8 ≤ d) = a; generalize nameB i.name = b; generalize i.qual.isEmpty = c; generalize i.text.isEmpty = e
    revert a b c e; decide
  unfold itemE
  split
  · exact h1
  · split
    · omega
    · exact h2
mutual
theorem errI_b : ∀ (a : Tr) (d : Int), 0 ≤ errI a d ∧ errI a d ≤ 24
  | .mk i l, d => by
    have h1 := itemE_b i l.length d
    have h2 := errL_b l (d + 1)
    rw [errI]
    split
    · exact h1
    · split
      · omega
      · exact h2
theorem errL_b : ∀ (l : List Tr) (d : Int), 0 ≤ errL l d ∧ errL l d ≤ 24
  | [], d => by rw [errL]; omega
  | a :: r, d => by
    have h1 := errI_b a d
    have h2 := errL_b r d
    rw [errL]
    split
    · exact h1
    · exact h2
end
theorem prE_b (l : List Tr) : 0 ≤ prE l ∧ prE l ≤ 24 := by
  have h := errL_b l 0
  unfold prE
  split
  · exact h
  · split <;> omega
set_option maxRecDepth 100000 in
set_option maxHeartbeats 4000000 in
theorem tagsPrint_law (l : List Tr) (v : Value) (w : World) (hD : wts l ≤ 67108864) (hv : RT w v l) (HE : Hid (ErrType w)) :
    Calls Tryz.prog 15 #[v] w fun e w' => e = .returned (.bool true) ∧ Below w.heap.size w w' := by
  have HF := hide (few_any l v w (by omega) hv)
  have HV := hide hv
  have PB := hide (prE_b l)
  clear hv
  go_enter Tryz.func15, Tryz.ntmps15
  go_wp2_with fail
  refine HF.out.mono ?_
  rintro e w0 ⟨⟨b, rfl⟩, q, rfl⟩
  have B0 := hide (below_dN (Below.refl w.heap.size w) q)
  clear HF
  cases b
  · go_wp2_with fail
    go_ret
    exact ⟨rfl, B0.out⟩
  · have HP := hide (refPrint_any l v (w.drewN q) (by omega) (RT_later HV.out B0.out))
    generalize w.drewN q = w0 at *
    go_wp2_with fail
    refine HP.out.mono ?_
    rintro e w1 ⟨rfl, hb1⟩
    have B1 := hide (B0.out.trans (hb1.mono B0.out.size))
    clear hb1 HP
    have HL := hide (lentItems_any l v w1 (by omega) (RT_later HV.out B1.out))
    go_wp2_with fail
    refine HL.out.mono ?_
    rintro e w2 ⟨g, c, rfl, hfu, hb2⟩
    have HFU := hide hfu
    have B2 := hide (B1.out.trans (hb2.mono B1.out.size))
    clear hb2 HL hfu
    have HT := hide (tPrint_any l (.slice (some ⟨g, 0, none⟩) l.length c) w2 (by omega) (FU_rt _ l g c (Nat.le_refl _) HFU.out))
    go_wp2_with fail
    refine HT.out.mono ?_
    rintro e w3 ⟨rfl, hb3⟩
    have HFU3 := hide (FU_kept (fun x _ hx => hb3.block x hx) hb3.size (fun x h _ => h) _ l g c (Nat.le_refl _) HFU.out)
    have B3 := hide (B2.out.trans (hb3.mono B2.out.size))
    clear hb3 HT
    have HPL := hide (plain_errV (prE l) (prE l) w3 PB.out.1 PB.out.2 (HE.out.below B3.out))
    generalize errV (prE l) = ev at *
    generalize prE l = pe at *
    generalize prT l = pt at *
    go_wp2_with fail
    refine HPL.out.mono ?_
    rintro e w4 ⟨rfl, hb4⟩
    rw [beq_self_eq_true]
    have HFU4 := hide (FU_kept (fun x _ hx => hb4.block x hx) hb4.size (fun x h _ => h) _ l g c (Nat.le_refl _) HFU3.out)
    have B4 := hide (B3.out.trans (hb4.mono B3.out.size))
    clear hb4 HPL
    have HK := hide (keptItems_any _ l g c v w4 (by omega) HFU4.out (RT_later HV.out B4.out))
    go_wp2_with fail
    refine HK.out.mono ?_
    rintro e w5 ⟨rfl, hb5⟩
    have B5 := hide (B4.out.trans (hb5.mono B4.out.size))
    clear hb5
    go_wp2_with fail
    go_ret
    exact ⟨rfl, B5.out⟩
end Go.Proofs.YtpkgaidnpooahaaGreatDoor
