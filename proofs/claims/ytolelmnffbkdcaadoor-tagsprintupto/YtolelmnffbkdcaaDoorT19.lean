/-
  My own text: items lent, and whether they are as they were.
-/
import Derived.Test.YtolelmnffbkdcaaDoorT18
namespace Go.Proofs.YtolelmnffbkdcaaDoor
open Go.RowKit

set_option maxRecDepth 100000 in
set_option maxHeartbeats 4000000 in
theorem lentItems_any (l : List Tr) (v : Value) (w : World) (hD : wts l ≤ 1073741824) (hv : RT w v l) :
    Calls Tryd.prog 6 #[v] w fun e w' => ∃ g c, e = .returned (.slice (some ⟨g, 0, none⟩) l.length c) ∧ FU w' (fun x => w.heap.size ≤ x ∧ x < w'.heap.size) g c l ∧ Below w.heap.size w w' := by
  have HF := hide (fullItems_any (wts l) l v w (Nat.le_refl _) hD hv)
  have hll : l.length ≤ 1073741824 := by have := wts_len l; omega
  obtain ⟨a, cap, rfl, hr⟩ := hv
  clear hr
  go_enter Tryd.func6, Tryd.ntmps6
  go_wp2_with fail
  refine HF.out.mono ?_
  rintro e w1 ⟨g, c, rfl, hfu, hb1⟩
  have HFU := hide hfu
  have HB1 := hide hb1
  have hcne : ¬ c = l.length := by have := hfu.1; omega
  have hcle : (l.length : Int) ≤ (c : Int) := by have := hfu.1; omega
  clear hfu hb1
  go_wp2_with fail
  go_ret
  exact ⟨g, c, rfl, HFU.out, HB1.out⟩
theorem sizeItm5 : (Tryd.prog.info? 51).map (·.size) = some 5 := by kernel_rfl
set_option maxRecDepth 100000 in
set_option maxHeartbeats 8000000 in
theorem keptFull_any (S : Nat → Prop) : ∀ (D : Nat) (l : List Tr) (g c : Nat) (v : Value) (w : World), wts l ≤ D → D ≤ 1073741824 → FU w S g c l → RT w v l →
    Calls Tryd.prog 18 #[.slice (some ⟨g, 0, none⟩) (2 * l.length + 1) c, v] w fun e w' => e = .returned (.bool true) ∧ Below w.heap.size w w' := by
  intro D
  induction D using Nat.strongRecOn with
  | ind D ih =>
    intro l g c v w hD hD2 hf hv
    have IH := hide ih
    have HF := hide hf
    have HRT := hide hv
    obtain ⟨ab, capb, rfl, hrb⟩ := hv
    have HRB := hide hrb
    clear hrb ih
    have hll : l.length ≤ 1073741824 := by have := wts_len l; omega
    have HGL := hide hf.2.2.1
    have HEND := hide hf.2.2.2.1
    have HFL := hide hf.2.2.2.2
    clear hf
    go_enter Tryd.func18, Tryd.ntmps18
    go_wp2_with fail
    go_loopw [6] (fun i wr => ∃ k : Nat, k ≤ l.length ∧ i = .int .i64 k ∧ Hid (Below w.heap.size w wr)) (fun i _ => l.length - (intOf i).toNat)
    case atStart => exact ⟨0, Nat.zero_le _, rfl, hide (Below.refl _ _)⟩
    case round =>
      obtain ⟨k, hk, rfl, HB⟩ := hrel
      by_cases hlt : k < l.length
      · obtain ⟨t, ht⟩ : ∃ t, l[k]? = some t := ⟨_, List.getElem?_eq_getElem hlt⟩
        have HWE := hide (wt_eq t)
        have HWA := hide (wts_at ht)
        obtain ⟨ga, ca, a0, a1, a2, a3, a4, a5, a6, hfk⟩ := FI_iff.1 (FL_at HFL.out ht)
        rw [Nat.zero_add] at a0 a1 a2 a3 a4 a5 a6
        obtain ⟨bb, offb, kvb, eb, hblb, b0, b1, b2, b3, b4, hkvb⟩ := RT_at HRB.out ht
        have HRGA := hide (five_range a0 a1 a2 a3 a4)
        have HRGB := hide (five_range b0 b1 b2 b3 b4)
        have HA5 := hide a5
        have HA6 := hide a6
        have HB4 := hide b4
        have HFK := hide hfk
        have HKB := hide hkvb
        have HLB := hide hblb
        subst eb
        clear a0 a1 a2 a3 a4 a5 a6 b0 b1 b2 b3 b4 hfk hkvb hblb ht
        have HSI := hide (fun (W : World) (hW : Below w.heap.size w W) => sameItem_of t.itm (.slice (some ⟨ga, 0, none⟩) t.kids.length ca) kvb W (fun W2 h2 => sameItems_any (wts t.kids) t.kids _ kvb W2 (Nat.le_refl _) (by have := HWE.out; have := HWA.out; omega) (RT_later (FU_rt _ _ _ _ (Nat.le_refl _) HFK.out) (hW.trans (h2.mono hW.size))) (RT_later HKB.out (hW.trans (h2.mono hW.size)))))
        have HKI := hide (fun (W : World) (hW : Below w.heap.size w W) => IH.out (wts t.kids) (by have := HWE.out; have := HWA.out; omega) t.kids ga ca kvb W (Nat.le_refl _) (by have := HWE.out; have := HWA.out; omega) (FU_kept (fun x _ hx => hW.block x hx) hW.size (fun x h _ => h) _ _ _ _ (Nat.le_refl _) HFK.out) (RT_later HKB.out hW))
        go_wp2_with fail
        have HG0 := hide ((Below.refl wr.heap.size wr).drew)
        have HBx : Hid (∀ x : Gr wr, Below w.heap.size w x.1) := hide (fun x => HB.out.trans (x.2.mono HB.out.size))
        haveI : Nonempty (Gr wr) := ⟨⟨_, HG0.out⟩⟩
        have q5 : ∀ x : Gr wr, x.1.cell? ⟨g, (l.length + k) * 5, none⟩ = some (.string ⟨#[35, 102, 117, 108, 108]⟩) := fun x => ((HBx.out x).cell (p := ⟨g, _, none⟩) HGL.out).trans HA5.out
        have q6 : ∀ x : Gr wr, x.1.cell? ⟨g, (l.length + k) * 5 + 4, none⟩ = some (.slice (some ⟨ga, 0, none⟩) (2 * t.kids.length + 1) ca) := fun x => ((HBx.out x).cell (p := ⟨g, _, none⟩) HGL.out).trans HA6.out
        have q4 : ∀ x : Gr wr, x.1.cell? ⟨bb, offb + k * 5 + 4, none⟩ = some kvb := fun x => ((HBx.out x).cell (p := ⟨bb, _, none⟩) HLB.out).trans HB4.out
        refine region_class (C := fun w' => ∃ x : Gr wr, w' = x.1) (by kernel_rfl) (by kernel_rfl) ⟨⟨_, HG0.out⟩, rfl⟩ ?_
        repeat (first
          | go_big_quiet_skip
          | (go_big_quiet_want; first
              | (refine quiet_load_at 51 (.tmp 22) rfl g (k * 5) rfl (iC t.itm (.slice (some ⟨ga, 0, none⟩) t.kids.length ca)).toList _ (fun w' ⟨x, hx⟩ => by subst hx; exact rng_below (HBx.out x) HGL.out HRGA.out) Tryd.underlying51 rfl Tryd.sizeItm ?_; rw [Array.toArray_toList]; simp only [Act.put, List.setIfInBounds_toArray, List.set_cons_zero, List.set_cons_succ]; go_big_quiet_on)
              | (refine quiet_load_at 51 (.tmp 26) rfl bb (offb + k * 5) rfl (iC t.itm kvb).toList _ (fun w' ⟨x, hx⟩ => by subst hx; exact rng_below (HBx.out x) HLB.out HRGB.out) Tryd.underlying51 rfl Tryd.sizeItm ?_; rw [Array.toArray_toList]; simp only [Act.put, List.setIfInBounds_toArray, List.set_cons_zero, List.set_cons_succ]; go_big_quiet_on)
              | (go_big_quiet_op; first
                  | go_big_quiet_on
                  | (apply Exists.intro; refine ⟨fun x => ?_, ?_⟩; (first
                      | (go_at_call 29; exact x.call (HSI.out x.1 (HBx.out x)))
                      | (go_at_call 18; exact x.call (HKI.out x.1 (HBx.out x)))); go_big_quiet_on))))
        refine wpQuiet_nil ?_
        rintro w3 ⟨x, rfl⟩
        have HB3 := hide (HBx.out x)
        obtain ⟨w3, hw3⟩ := x
        dsimp only at HB3 ⊢
        clear hw3 HG0 this HBx q5 q6 q4
        go_wp2_with fail
        go_roundw
        case rel => exact ⟨k + 1, by omega, by go_num, HB3⟩
        case measure => simp [intOf]; omega
      · have hk' : k = l.length := by omega
        subst hk'
        have c0 := (HB.out.cell (p := ⟨g, _, none⟩) HGL.out).trans HEND.out
        go_wp2_with fail
        go_ret
        exact ⟨rfl, HB.out⟩
set_option maxRecDepth 100000 in
set_option maxHeartbeats 4000000 in
theorem keptItems_any (S : Nat → Prop) (l : List Tr) (g c : Nat) (v : Value) (w : World) (hD : wts l ≤ 1073741824) (hf : FU w S g c l) (hv : RT w v l) :
    Calls Tryd.prog 9 #[.slice (some ⟨g, 0, none⟩) l.length c, v] w fun e w' => e = .returned (.bool true) ∧ Below w.heap.size w w' := by
  have HK := hide (keptFull_any S (wts l) l g c v w (Nat.le_refl _) hD hf hv)
  have hll : l.length ≤ 1073741824 := by have := wts_len l; omega
  have hc0 : ¬ c = 0 := by have := hf.1; omega
  have hcle : (2 * (l.length : Int) + 1) ≤ (c : Int) := by have := hf.1; omega
  have hcne : 2 * l.length + 1 ≤ c := hf.1
  obtain ⟨a, cap, rfl, hr⟩ := hv
  clear hr hf
  go_enter Tryd.func9, Tryd.ntmps9
  go_wp2_with fail
  refine HK.out.mono ?_
  rintro e w1 ⟨rfl, hb1⟩
  have HB1 := hide hb1
  clear hb1
  go_wp2_with fail
  go_ret
  exact ⟨rfl, HB1.out⟩
end Go.Proofs.YtolelmnffbkdcaaDoor
