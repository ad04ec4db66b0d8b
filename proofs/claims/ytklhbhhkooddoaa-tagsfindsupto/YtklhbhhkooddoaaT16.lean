/-
  My own text: two lists of items that are the same are told so.
-/
import Derived.Test.YtklhbhhkooddoaaT15
import Derived.Test.YtklhbhhkooddoaaT11
import Derived.Test.YtklhbhhkooddoaaHeld
namespace Go.Proofs.Ytklhbhhkooddoaa
open Go.RowKit

theorem alloc2_news (w : World) (a b : Obj) : ((w.alloc a).alloc b).heap[w.heap.size + 1]? = some b := by
  have h := alloc_new (w.alloc a) b
  have hs : (w.alloc a).heap.size = w.heap.size + 1 := by simp
  rw [hs] at h; exact h
/-- Worlds that have grown out of W. -/
def Gr (W : World) : Type := { w' : World // Below W.heap.size W w' }
theorem Gr.call {W : World} (x : Gr W) {P : Program} {f : FuncId} {args : Array Value} {v : Value} (h : Calls P f args x.1 fun e w' => e = .returned v ∧ Below x.1.heap.size x.1 w') :
    Calls P f args x.1 fun e w' => e = .returned v ∧ ∃ y : Gr W, w' = y.1 :=
  h.mono fun _ w' ⟨he, hb⟩ => ⟨he, ⟨w', x.2.trans (hb.mono x.2.size)⟩, rfl⟩
theorem Ix.range {w : World} {g : Nat} {i : Itm} {v : Value} (h : Ix w g i v) : w.rangeAt g 0 (iC i v).toList := fun j u hj => by
  rw [Nat.zero_add, cell_of_row _ _ j _ _ _ h]; simpa using hj
set_option maxRecDepth 100000 in
set_option maxHeartbeats 4000000 in
theorem sameItem_of (i : Itm) (va vb : Value) (w : World) (hc : ∀ W : World, Below w.heap.size w W → Calls Try.prog 11 #[va, vb] W fun e w' => e = .returned (.bool true) ∧ Below W.heap.size W w') :
    Calls Try.prog 10 #[.agg (iC i va), .agg (iC i vb)] w fun e w' => e = .returned (.bool true) ∧ Below w.heap.size w w' := by
  have HC := hide hc
  have X0 := hide ((Ix.new w i va).alloc (.cells (iC i vb) 26))
  have Y0 : Hid (Ix ((w.alloc (.cells (iC i va) 26)).alloc (.cells (iC i vb) 26)) (w.heap.size + 1) i vb) := hide (alloc2_news w _ _)
  have B0 := hide (((Below.refl w.heap.size w).alloc (Nat.le_refl _) (.cells (iC i va) 26)).alloc (by simp) (.cells (iC i vb) 26))
  clear hc
  go_enter Try.func10, Try.ntmps10
  have x0 := X0.out.tag trivial
  have x1 := X0.out.qual trivial
  have x2 := X0.out.text trivial
  have x3 := X0.out.name trivial
  have x4 := X0.out.items trivial
  have y0 := Y0.out.tag trivial
  have y1 := Y0.out.qual trivial
  have y2 := Y0.out.text trivial
  have y3 := Y0.out.name trivial
  have y4 := Y0.out.items trivial
  go_wp2_with fail
  refine (HC.out _ B0.out).mono ?_
  rintro e w1 ⟨rfl, hb1⟩
  have B1 := hide (B0.out.trans (hb1.mono B0.out.size))
  clear hb1
  go_wp2_with fail
  go_ret
  exact ⟨rfl, B1.out⟩
theorem five_range {w : World} {b o : Nat} {i : Itm} {v : Value} (h0 : w.cell? ⟨b, o, none⟩ = some (.string ⟨i.tag.toArray⟩)) (h1 : w.cell? ⟨b, o + 1, none⟩ = some (.string ⟨i.qual.toArray⟩)) (h2 : w.cell? ⟨b, o + 2, none⟩ = some (.string ⟨i.text.toArray⟩)) (h3 : w.cell? ⟨b, o + 3, none⟩ = some (.string ⟨i.name.toArray⟩)) (h4 : w.cell? ⟨b, o + 4, none⟩ = some v) :
    w.rangeAt b o (iC i v).toList := fun j u hj => by
  match j, hj with
  | 0, hj => simp [iC] at hj; subst hj; exact h0
  | 1, hj => simp [iC] at hj; subst hj; exact h1
  | 2, hj => simp [iC] at hj; subst hj; exact h2
  | 3, hj => simp [iC] at hj; subst hj; exact h3
  | 4, hj => simp [iC] at hj; subst hj; exact h4
  | j + 5, hj => simp [iC] at hj
theorem rng_below {W w' : World} {b o : Nat} {cs : List Value} (hb : Below W.heap.size W w') (hlt : b < W.heap.size) (h : W.rangeAt b o cs) : w'.rangeAt b o cs := fun j v hv => by
  rw [hb.cell (p := ⟨b, o + j, none⟩) hlt]; exact h j v hv
set_option maxRecDepth 100000 in
set_option maxHeartbeats 4000000 in
theorem sameItems_any : ∀ (D : Nat) (l : List Tr) (va vb : Value) (w : World), wts l ≤ D → D ≤ 1099511627776 → RT w va l → RT w vb l →
    Calls Try.prog 11 #[va, vb] w fun e w' => e = .returned (.bool true) ∧ Below w.heap.size w w' := by
  intro D
  induction D using Nat.strongRecOn with
  | ind D ih =>
    intro l va vb w hD hD2 ha hb
    have IH := hide ih
    obtain ⟨aa, capa, rfl, hra⟩ := ha
    obtain ⟨ab, capb, rfl, hrb⟩ := hb
    have HRA := hide hra
    have HRB := hide hrb
    clear hra hrb ih
    have hll : l.length ≤ 1099511627776 := by have := wts_len l; omega
    go_enter Try.func11, Try.ntmps11
    go_wp2_with fail
    go_loopw [5] (fun i wr => ∃ k : Nat, k ≤ l.length ∧ i = .int .i64 k ∧ Hid (Below w.heap.size w wr)) (fun i _ => l.length - (intOf i).toNat)
    case atStart => exact ⟨0, Nat.zero_le _, rfl, hide (Below.refl _ _)⟩
    case round =>
      obtain ⟨k, hk, rfl, HB⟩ := hrel
      by_cases hlt : k < l.length
      · obtain ⟨t, ht⟩ : ∃ t, l[k]? = some t := ⟨_, List.getElem?_eq_getElem hlt⟩
        have HWE := hide (wt_eq t)
        have HWA := hide (wts_at ht)
        obtain ⟨ba, offa, kva, ea, hbla, a0, a1, a2, a3, a4, hkva⟩ := RT_at HRA.out ht
        obtain ⟨bb, offb, kvb, eb, hblb, b0, b1, b2, b3, b4, hkvb⟩ := RT_at HRB.out ht
        have HRGA := hide (five_range a0 a1 a2 a3 a4)
        have HRGB := hide (five_range b0 b1 b2 b3 b4)
        have HKA := hide hkva
        have HKB := hide hkvb
        have HLA := hide hbla
        have HLB := hide hblb
        subst ea eb
        clear a0 a1 a2 a3 a4 b0 b1 b2 b3 b4 hkva hkvb hbla hblb ht
        have HSI := hide (fun (W : World) (hW : Below w.heap.size w W) => sameItem_of t.itm kva kvb W (fun W2 h2 => IH.out (wts t.kids) (by have := HWE.out; have := HWA.out; omega) t.kids kva kvb W2 (Nat.le_refl _) (by have := HWE.out; have := HWA.out; omega) (RT_later HKA.out (hW.trans (h2.mono hW.size))) (RT_later HKB.out (hW.trans (h2.mono hW.size)))))
        go_wp2_with fail
        have HG0 := hide ((Below.refl wr.heap.size wr).drew)
        have HBx : Hid (∀ x : Gr wr, Below w.heap.size w x.1) := hide (fun x => HB.out.trans (x.2.mono HB.out.size))
        haveI : Nonempty (Gr wr) := ⟨⟨_, HG0.out⟩⟩
        refine region_class (C := fun w' => ∃ x : Gr wr, w' = x.1) (by kernel_rfl) (by kernel_rfl) ⟨⟨_, HG0.out⟩, rfl⟩ ?_
        repeat (first
          | go_big_quiet_skip
          | (go_big_quiet_want; first
              | (refine quiet_load_at 26 (.tmp 19) rfl ba (offa + k * 5) rfl (iC t.itm kva).toList _ (fun w' ⟨x, hx⟩ => by subst hx; exact rng_below (HBx.out x) HLA.out HRGA.out) Try.underlying26 rfl Try.sizeItm ?_; rw [Array.toArray_toList]; simp only [Act.put, List.setIfInBounds_toArray, List.set_cons_zero, List.set_cons_succ]; go_big_quiet_on)
              | (refine quiet_load_at 26 (.tmp 23) rfl bb (offb + k * 5) rfl (iC t.itm kvb).toList _ (fun w' ⟨x, hx⟩ => by subst hx; exact rng_below (HBx.out x) HLB.out HRGB.out) Try.underlying26 rfl Try.sizeItm ?_; rw [Array.toArray_toList]; simp only [Act.put, List.setIfInBounds_toArray, List.set_cons_zero, List.set_cons_succ]; go_big_quiet_on)
              | (go_big_quiet_op; first
                  | go_big_quiet_on
                  | (apply Exists.intro; refine ⟨fun x => ?_, ?_⟩; (first
                      | (go_at_call 10; exact x.call (HSI.out x.1 (HBx.out x)))); go_big_quiet_on))))
        refine wpQuiet_nil ?_
        rintro w3 ⟨x, rfl⟩
        have HB3 := hide (HBx.out x)
        obtain ⟨w3, hw3⟩ := x
        dsimp only at HB3 ⊢
        clear hw3 HG0 this HBx
        go_wp2_with fail
        go_roundw
        case rel => exact ⟨k + 1, by omega, by go_num, HB3⟩
        case measure => simp [intOf]; omega
      · have hk' : k = l.length := by omega
        subst hk'
        go_wp2_with fail
        go_ret
        exact ⟨rfl, HB.out⟩
end Go.Proofs.Ytklhbhhkooddoaa
