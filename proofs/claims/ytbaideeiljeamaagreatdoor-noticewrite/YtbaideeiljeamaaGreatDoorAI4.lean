/-
  My own text: QS, AI4 in one.
-/
import Derived.Test.YtbaideeiljeamaaGreatDoorTKB
import Derived.Test.YtbaideeiljeamaaGreatDoorAI3
import Derived.Test.YtbaideeiljeamaaGreatDoorQA2
namespace Go.Proofs.YtbaideeiljeamaaGreatDoor.TG
open Go.RowKit

def eqI (i j : Itm) : Bool := i.tag == j.tag && (i.qual == j.qual && (i.text == j.text && i.name == j.name))
mutual
def eqT : Tr → Tr → Bool
  | .mk i k, t => eqI i t.itm && eqL k t.kids
def eqL : List Tr → List Tr → Bool
  | [], m => m.isEmpty
  | a :: r, m => match m with
    | [] => false
    | b :: s => eqT a b && eqL r s
end
theorem eqT_eq (a b : Tr) : eqT a b = (eqI a.itm b.itm && eqL a.kids b.kids) := by cases a; rw [eqT]; rfl
theorem eqL_cons (a b : Tr) (r s : List Tr) : eqL (a :: r) (b :: s) = (eqT a b && eqL r s) := by rw [eqL]
theorem eqL_len : ∀ {l m : List Tr}, l.length ≠ m.length → eqL l m = false
  | [], [], h => absurd rfl h
  | [], _ :: _, _ => by rw [eqL]; rfl
  | _ :: _, [], _ => by rw [eqL]
  | a :: r, b :: s, h => by rw [eqL_cons, eqL_len (l := r) (m := s) (by simpa using h)]; simp
theorem eqL_step {l m : List Tr} {k : Nat} {a b : Tr} (h1 : l[k]? = some a) (h2 : m[k]? = some b) : eqL (l.drop k) (m.drop k) = (eqT a b && eqL (l.drop (k + 1)) (m.drop (k + 1))) := by rw [drop_cons h1, drop_cons h2, eqL_cons]
theorem eqI_iff (i j : Itm) : eqI i j = true ↔ i = j := by
  unfold eqI
  simp only [Bool.and_eq_true, beq_iff_eq]
  constructor
  · rintro ⟨h1, h2, h3, h4⟩
    cases i; cases j; simp only at h1 h2 h3 h4; subst h1 h2 h3 h4; rfl
  · rintro rfl; exact ⟨rfl, rfl, rfl, rfl⟩
theorem eqL_iff : ∀ (D : Nat) (l m : List Tr), wts l ≤ D → (eqL l m = true ↔ l = m) := by
  intro D
  induction D using Nat.strongRecOn with
  | ind D ih =>
    intro l
    induction l with
    | nil =>
      intro m _
      rw [eqL]
      cases m <;> simp
    | cons a r ihr =>
      intro m hD
      cases m with
      | nil => rw [eqL]; simp
      | cons b s =>
        rw [wts_cons] at hD
        have hw := wt_eq a
        have h1 := ihr s (by omega)
        have h2 := ih (wts a.kids) (by omega) a.kids b.kids (Nat.le_refl _)
        rw [eqL_cons, eqT_eq, Bool.and_eq_true, Bool.and_eq_true, h1, h2, eqI_iff]
        constructor
        · rintro ⟨⟨g1, g2⟩, g3⟩
          cases a; cases b; simp only [Tr.itm, Tr.kids] at g1 g2; subst g1 g2 g3; rfl
        · intro h
          cases h; exact ⟨⟨rfl, rfl⟩, rfl⟩
theorem eqL_refl (l : List Tr) : eqL l l = true := (eqL_iff _ l l (Nat.le_refl _)).2 rfl
set_option maxRecDepth 100000 in
set_option maxHeartbeats 4000000 in
theorem sameItem_any (i j : Itm) (va vb : Value) (b : Bool) (w : World) (hc : ∀ W : World, Below w.heap.size w W → Calls Tryz.prog 8 #[va, vb] W fun e w' => e = .returned (.bool b) ∧ Below W.heap.size W w') :
    Calls Tryz.prog 19 #[.agg (iC i va), .agg (iC j vb)] w fun e w' => e = .returned (.bool (eqI i j && b)) ∧ Below w.heap.size w w' := by
  have HC := hide hc
  have X0 := hide ((Ix.new w i va).alloc (.cells (iC j vb) 58))
  have Y0 : Hid (Ix ((w.alloc (.cells (iC i va) 58)).alloc (.cells (iC j vb) 58)) (w.heap.size + 1) j vb) := hide (alloc2_news w _ _)
  have B0 := hide (((Below.refl w.heap.size w).alloc (Nat.le_refl _) (.cells (iC i va) 58)).alloc (by simp) (.cells (iC j vb) 58))
  clear hc
  obtain ⟨r, HR⟩ : ∃ r, Hid ((eqI i j && b) = r) := ⟨_, hide rfl⟩
  rw [HR.out]
  unfold eqI at HR
  go_enter Tryz.func19, Tryz.ntmps19
  have x0 := X0.out.tag trivial
  have x1 := X0.out.qual trivial
  have x2 := X0.out.text trivial
  have x3 := X0.out.name trivial
  have x4 := X0.out.items trivial
  have y0 := Y0.out.tag trivial
  have y1 := Y0.out.qual trivial
  have y2 := Y0.out.text trivial
  have y3 := Y0.out.name trivial
  have y4 := Y0.out.items trivial
  cases h0 : i.tag == j.tag with
  | false =>
    have HR2 : Hid (r = false) := by show _ = _; rw [← HR.out, h0]; rfl
    go_wp2_with fail
    go_ret
    exact ⟨ret_b HR2.out.symm, B0.out⟩
  | true =>
    cases h1 : i.qual == j.qual with
    | false =>
      have HR2 : Hid (r = false) := by show _ = _; rw [← HR.out, h0, h1]; rfl
      go_wp2_with fail
      go_ret
      exact ⟨ret_b HR2.out.symm, B0.out⟩
    | true =>
      cases h2 : i.text == j.text with
      | false =>
        have HR2 : Hid (r = false) := by show _ = _; rw [← HR.out, h0, h1, h2]; rfl
        go_wp2_with fail
        go_ret
        exact ⟨ret_b HR2.out.symm, B0.out⟩
      | true =>
        cases h3 : i.name == j.name with
        | false =>
          have HR2 : Hid (r = false) := by show _ = _; rw [← HR.out, h0, h1, h2, h3]; rfl
          go_wp2_with fail
          go_ret
          exact ⟨ret_b HR2.out.symm, B0.out⟩
        | true =>
          have HR2 : Hid (r = b) := by show _ = _; rw [← HR.out, h0, h1, h2, h3]; simp
          go_wp2_with fail
          refine (HC.out _ B0.out).mono ?_
          rintro e w1 ⟨rfl, hb1⟩
          have B1 := hide (B0.out.trans (hb1.mono B0.out.size))
          clear hb1
          go_wp2_with fail
          go_ret
          exact ⟨ret_b HR2.out.symm, B1.out⟩
set_option maxRecDepth 100000 in
set_option maxHeartbeats 4000000 in
theorem sameItems_all : ∀ (D : Nat) (l m : List Tr) (va vb : Value) (w : World), wts l ≤ D → D ≤ 1099511627776 → RT w va l → RT w vb m →
    Calls Tryz.prog 8 #[va, vb] w fun e w' => e = .returned (.bool (eqL l m)) ∧ Below w.heap.size w w' := by
  intro D
  induction D using Nat.strongRecOn with
  | ind D ih =>
    intro l m va vb w hD hD2 ha hb
    have IH := hide ih
    obtain ⟨aa, capa, rfl, hra⟩ := ha
    obtain ⟨ab, capb, rfl, hrb⟩ := hb
    have HRA := hide hra
    have HRB := hide hrb
    clear hra hrb ih
    have hll : l.length ≤ 1099511627776 := by have := wts_len l; omega
    obtain ⟨R, HR⟩ : ∃ R, Hid (eqL l m = R) := ⟨_, hide rfl⟩
    rw [HR.out]
    by_cases hlm : l.length = m.length
    · rw [← hlm]
      have HLM := hide hlm
      clear hlm
      go_enter Tryz.func8, Tryz.ntmps8
      go_wp2_with fail
      go_loopw [5] (fun i wr => ∃ k : Nat, k ≤ l.length ∧ i = .int .i64 k ∧ Hid (Below w.heap.size w wr) ∧ Hid (eqL (l.drop k) (m.drop k) = R)) (fun i _ => l.length - (intOf i).toNat)
      case atStart => exact ⟨0, Nat.zero_le _, rfl, hide (Below.refl _ _), HR⟩
      case round =>
        obtain ⟨k, hk, rfl, HB, HE⟩ := hrel
        by_cases hlt : k < l.length
        · obtain ⟨t, ht⟩ : ∃ t, l[k]? = some t := ⟨_, List.getElem?_eq_getElem hlt⟩
          obtain ⟨s, hs⟩ : ∃ s, m[k]? = some s := ⟨_, List.getElem?_eq_getElem (by rw [← HLM.out]; exact hlt)⟩
          have HES := hide (HE.out.symm.trans (eqL_step ht hs))
          have HWE := hide (wt_eq t)
          have HWA := hide (wts_at ht)
          obtain ⟨ba, offa, kva, ea, hbla, a0, a1, a2, a3, a4, hkva⟩ := RT_at HRA.out ht
          obtain ⟨bb, offb, kvb, eb, hblb, b0, b1, b2, b3, b4, hkvb⟩ := RT_at HRB.out hs
          have HRGA := hide (five_range a0 a1 a2 a3 a4)
          have HRGB := hide (five_range b0 b1 b2 b3 b4)
          have HKA := hide hkva
          have HKB := hide hkvb
          have HLA := hide hbla
          have HLB := hide hblb
          subst ea eb
          clear a0 a1 a2 a3 a4 b0 b1 b2 b3 b4 hkva hkvb hbla hblb ht hs HE
          have HSI := hide (fun (W : World) (hW : Below w.heap.size w W) => sameItem_any t.itm s.itm kva kvb (eqL t.kids s.kids) W (fun W2 h2 => IH.out (wts t.kids) (by have := HWE.out; have := HWA.out; omega) t.kids s.kids kva kvb W2 (Nat.le_refl _) (by have := HWE.out; have := HWA.out; omega) (RT_later HKA.out (hW.trans (h2.mono hW.size))) (RT_later HKB.out (hW.trans (h2.mono hW.size)))))
          rw [← eqT_eq] at HSI
          cases hq : eqT t s with
          | true =>
            rw [hq] at HSI HES
            have HEN : Hid (eqL (l.drop (k + 1)) (m.drop (k + 1)) = R) := by show _ = _; rw [HES.out]; rfl
            clear hq HES
            go_wp2_with fail
            have HG0 := hide ((Below.refl wr.heap.size wr).drew)
            have HBx : Hid (∀ x : Gr wr, Below w.heap.size w x.1) := hide (fun x => HB.out.trans (x.2.mono HB.out.size))
            haveI : Nonempty (Gr wr) := ⟨⟨_, HG0.out⟩⟩
            refine region_class (C := fun w' => ∃ x : Gr wr, w' = x.1) (by kernel_rfl) (by kernel_rfl) ⟨⟨_, HG0.out⟩, rfl⟩ ?_
            repeat (first
              | go_big_quiet_skip
              | (go_big_quiet_want; first
                  | (refine quiet_load_at 58 (.tmp 19) rfl ba (offa + k * 5) rfl (iC t.itm kva).toList _ (fun w' ⟨x, hx⟩ => by subst hx; exact rng_below (HBx.out x) HLA.out HRGA.out) Tryz.underlying58 rfl Tryz.sizeItm ?_; rw [Array.toArray_toList]; simp only [Act.put, List.setIfInBounds_toArray, List.set_cons_zero, List.set_cons_succ]; go_big_quiet_on)
                  | (refine quiet_load_at 58 (.tmp 23) rfl bb (offb + k * 5) rfl (iC s.itm kvb).toList _ (fun w' ⟨x, hx⟩ => by subst hx; exact rng_below (HBx.out x) HLB.out HRGB.out) Tryz.underlying58 rfl Tryz.sizeItm ?_; rw [Array.toArray_toList]; simp only [Act.put, List.setIfInBounds_toArray, List.set_cons_zero, List.set_cons_succ]; go_big_quiet_on)
                  | (go_big_quiet_op; first
                      | go_big_quiet_on
                      | (apply Exists.intro; refine ⟨fun x => ?_, ?_⟩; (first
                          | (go_at_call 19; exact x.call (HSI.out x.1 (HBx.out x)))); go_big_quiet_on))))
            refine wpQuiet_nil ?_
            rintro w3 ⟨x, rfl⟩
            have HB3 := hide (HBx.out x)
            obtain ⟨w3, hw3⟩ := x
            dsimp only at HB3 ⊢
            clear hw3 HG0 this HBx
            go_wp2_with fail
            go_roundw
            case rel => exact ⟨k + 1, by omega, by go_num, HB3, HEN⟩
            case measure => simp [intOf]; omega
          | false =>
            rw [hq] at HSI HES
            have HEN : Hid (R = false) := by show _ = _; rw [HES.out]; rfl
            clear hq HES
            go_wp2_with fail
            have HG0 := hide ((Below.refl wr.heap.size wr).drew)
            have HBx : Hid (∀ x : Gr wr, Below w.heap.size w x.1) := hide (fun x => HB.out.trans (x.2.mono HB.out.size))
            haveI : Nonempty (Gr wr) := ⟨⟨_, HG0.out⟩⟩
            refine region_class (C := fun w' => ∃ x : Gr wr, w' = x.1) (by kernel_rfl) (by kernel_rfl) ⟨⟨_, HG0.out⟩, rfl⟩ ?_
            repeat (first
              | go_big_quiet_skip
              | (go_big_quiet_want; first
                  | (refine quiet_load_at 58 (.tmp 19) rfl ba (offa + k * 5) rfl (iC t.itm kva).toList _ (fun w' ⟨x, hx⟩ => by subst hx; exact rng_below (HBx.out x) HLA.out HRGA.out) Tryz.underlying58 rfl Tryz.sizeItm ?_; rw [Array.toArray_toList]; simp only [Act.put, List.setIfInBounds_toArray, List.set_cons_zero, List.set_cons_succ]; go_big_quiet_on)
                  | (refine quiet_load_at 58 (.tmp 23) rfl bb (offb + k * 5) rfl (iC s.itm kvb).toList _ (fun w' ⟨x, hx⟩ => by subst hx; exact rng_below (HBx.out x) HLB.out HRGB.out) Tryz.underlying58 rfl Tryz.sizeItm ?_; rw [Array.toArray_toList]; simp only [Act.put, List.setIfInBounds_toArray, List.set_cons_zero, List.set_cons_succ]; go_big_quiet_on)
                  | (go_big_quiet_op; first
                      | go_big_quiet_on
                      | (apply Exists.intro; refine ⟨fun x => ?_, ?_⟩; (first
                          | (go_at_call 19; exact x.call (HSI.out x.1 (HBx.out x)))); go_big_quiet_on))))
            refine wpQuiet_nil ?_
            rintro w3 ⟨x, rfl⟩
            have HB3 := hide (HBx.out x)
            obtain ⟨w3, hw3⟩ := x
            dsimp only at HB3 ⊢
            clear hw3 HG0 this HBx
            go_wp2_with fail
            go_ret
            exact ⟨ret_b HEN.out.symm, HB3.out⟩
        · have hk' : k = l.length := by omega
          subst hk'
          have HEN : Hid (R = true) := by
            show _ = _
            rw [← HE.out, List.drop_of_length_le (Nat.le_refl _), List.drop_of_length_le (by rw [HLM.out]; exact Nat.le_refl _), eqL]; rfl
          clear HE
          go_wp2_with fail
          go_ret
          exact ⟨ret_b HEN.out.symm, HB.out⟩
    · have HEN : Hid (R = false) := by show _ = _; rw [← HR.out, eqL_len hlm]
      go_enter Tryz.func8, Tryz.ntmps8
      have hne : ((l.length : Int) == (m.length : Int)) = false := beq_eq_false_iff_ne.2 (by omega)
      go_wp2_with fail
      go_ret
      exact ⟨ret_b HEN.out.symm, Below.refl _ _⟩
end Go.Proofs.YtbaideeiljeamaaGreatDoor.TG
namespace Go.Proofs.YtbaideeiljeamaaGreatDoor.TG
open Go.RowKit

theorem wts_len2 : ∀ (l : List Tr), l.length ≤ wts l
  | [] => by simp [wts]
  | a :: r => by
    have := wts_len2 r
    have := wt_eq a
    rw [wts_cons, List.length_cons]; omega
theorem LR_b {w : World} {g : Nat} : ∀ (l : List Tr) (off : Nat) (os : List Value), (∀ x ∈ l, ∀ (u : Value) (o : List Value), LT w u x.kids o → o.length ≤ wts x.kids + 1 ∧ ∀ a n c, Value.slice a n c ∈ o → n ≤ wts x.kids) → LR w l g off os → os.length ≤ wts l ∧ ∀ a n c, Value.slice a n c ∈ os → n ≤ wts l
  | [], _, os, _, h => by rw [LR_nil.1 h]; simp
  | x :: r, off, os, hx, h => by
    obtain ⟨o1, o2, e, h1, h2⟩ := LR_cons.1 h
    obtain ⟨u, _, hu2⟩ := LI_iff.1 h1
    obtain ⟨a1, a2⟩ := hx x (List.mem_cons_self ..) u o1 hu2
    obtain ⟨b1, b2⟩ := LR_b r (off + 5) o2 (fun y hy => hx y (List.mem_cons_of_mem _ hy)) h2
    have hw := wt_eq x
    rw [wts_cons]
    subst e
    refine ⟨by rw [List.length_append]; omega, fun a n c hm => ?_⟩
    rcases List.mem_append.1 hm with hm | hm
    · have := a2 a n c hm; omega
    · have := b2 a n c hm; omega
theorem LT_b {w : World} : ∀ (d : Nat) (l : List Tr) (v : Value) (o : List Value), wts l ≤ d → LT w v l o → o.length ≤ wts l + 1 ∧ ∀ a n c, Value.slice a n c ∈ o → n ≤ wts l := by
  intro d
  induction d using Nat.strongRecOn with
  | ind d ih =>
    intro l v o hd h
    obtain ⟨a, cap, os, rfl, rfl, h3⟩ := h
    have hl := wts_len2 l
    have hb : os.length ≤ wts l ∧ ∀ a n c, Value.slice a n c ∈ os → n ≤ wts l := by
      rcases h3 with ⟨rfl, rfl⟩ | ⟨g, _, h3⟩
      · simp
      · exact LR_b l 0 os (fun x hx u o' hu => ih (wts x.kids) (by have := wts_mem hx; omega) x.kids u o' (Nat.le_refl _) hu) h3
    refine ⟨by rw [List.length_cons]; have := hb.1; omega, fun a' n c hm => ?_⟩
    rcases List.mem_cons.1 hm with e | hm
    · cases e; exact hl
    · exact hb.2 a' n c hm
/-- Two messages, each in memory of its own, one read behind the other. -/
theorem apart_two {B M1 M2 : Nat} {l : List Tr} {va vb : Value} {W : World} (hB : B ≤ M1) (hM1 : M1 ≤ M2) (hM2 : M2 ≤ W.heap.size) (hl : wts l ≤ 1048576) (ha : PA W (fun x => B ≤ x ∧ x < M1) va l) (hb : PA W (fun x => M1 ≤ x ∧ x < M2) vb l) :
    Calls Tryz.prog 10 #[.slice (some ⟨W.heap.size, 0, none⟩) 2 2] (W.alloc (.cells #[va, vb] 27)) fun e w' => e = .returned (.bool true) ∧ Below B W w' := by
  obtain ⟨_, o1, a1, a2, a3⟩ := ha
  obtain ⟨_, o2, b1, b2, b3⟩ := hb
  have BW := (Below.refl W.heap.size W).alloc (Nat.le_refl _) (.cells #[va, vb] 27)
  have ka : ∀ u ∈ o1, ∀ g, u.ownBlock = some g → g < W.heap.size := fun u hu g hg => (a3 u hu).lt hg |>.2
  have kb : ∀ u ∈ o2, ∀ g, u.ownBlock = some g → g < W.heap.size := fun u hu g hg => (b3 u hu).lt hg |>.2
  have la := LT_kept (w' := W.alloc (.cells #[va, vb] 27)) _ l va o1 (Nat.le_refl _) a1 (fun u hu g hg => BW.block g (ka u hu g hg))
  have lb := LT_kept (w' := W.alloc (.cells #[va, vb] 27)) _ l vb o2 (Nat.le_refl _) b1 (fun u hu g hg => BW.block g (kb u hu g hg))
  have ba := LT_b _ l va o1 (Nat.le_refl _) a1
  have bb := LT_b _ l vb o2 (Nat.le_refl _) b1
  have hO : msO [(va, l, o1), (vb, l, o2)] = o1 ++ o2 := by simp [msO]
  have hp1 : 0 < o1.length := by obtain ⟨_, _, _, _, rfl, _⟩ := a1; simp
  refine (apartItems_any B W.heap.size 2 2 [(va, l, o1), (vb, l, o2)] (W.alloc (.cells #[va, vb] 27)) rfl (by omega) (by simp) (by omega) (Nat.le_refl _) ?_ ?_ ?_ ?_ ?_ ?_).mono ?_
  · intro k x hk
    match k, hk with
    | 0, hk => simp at hk; subst hk; exact ⟨by simp, la⟩
    | 1, hk => simp at hk; subst hk; exact ⟨by simp, lb⟩
  · rw [hO]
    intro u hu
    rcases List.mem_append.1 hu with hu | hu
    · exact (a3 u hu).kept (fun g _ hg => BW.block g hg) (fun g hg hg2 => ⟨hg.1, hg2⟩)
    · exact (b3 u hu).kept (fun g _ hg => BW.block g hg) (fun g hg hg2 => ⟨by have := hg.1; omega, hg2⟩)
  · rw [hO]
    refine nd_append a2 b2 (fun u hu y hy x e1 e2 => ?_)
    have := ((a3 u hu).lt e1).1.2
    have := ((b3 y hy).lt e2).1.1
    omega
  · rw [hO, List.length_append]; have := ba.1; have := bb.1; omega
  · rw [hO, List.length_append]; omega
  · rw [hO]
    intro a n c hm
    rcases List.mem_append.1 hm with hm | hm
    · have := ba.2 a n c hm; omega
    · have := bb.2 a n c hm; omega
  · rintro e w' ⟨rfl, hb'⟩
    exact ⟨rfl, (BW.mono (by omega)).trans hb'⟩
end Go.Proofs.YtbaideeiljeamaaGreatDoor.TG
