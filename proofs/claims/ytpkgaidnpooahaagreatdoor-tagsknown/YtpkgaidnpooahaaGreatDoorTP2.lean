/-
  My own text: the law of Parse.
-/
import Derived.Test.YtpkgaidnpooahaaGreatDoorTP1
import Derived.Test.YtpkgaidnpooahaaGreatDoorAI3
import Derived.Test.YtpkgaidnpooahaaGreatDoorDP9
import Derived.Test.YtpkgaidnpooahaaGreatDoorQS
namespace Go.Proofs.YtpkgaidnpooahaaGreatDoor
open Go.RowKit

theorem wts_len2 : ∀ (l : List Tr), l.length ≤ wts l
  | [] => by simp [wts]
  | a :: r => by
    have := wts_len2 r
    have := wt_eq a
    rw [wts_cons, List.length_cons]; omega
theorem LR_b {w : World} {g : Nat} : ∀ (l : List Tr) (off : Nat) (os : List Value), (∀ x ∈ l, ∀ (u : Value) (o : List Value), LT w u x.kids o → o.length ≤ wts x.kids + 1 ∧ ∀ a n c, Value.slice a n c ∈ o → n ≤ wts x.kids) → LR w l g off os → os.length ≤ wts l ∧ ∀ a n c, Value.slice a n c ∈ os → n ≤ wts l
  | [], _, os, _, h => by rw [LR_nil.1 h]; simp
  | x :: r, off, os, hx, h => by
    obtain ⟨o1, o2, e, h1, h2⟩ := LR_cons.1 h
    obtain ⟨u, _, hu2⟩ := LI_iff.1 h1
    obtain ⟨a1, a2⟩ := hx x (List.mem_cons_self ..) u o1 hu2
    obtain ⟨b1, b2⟩ := LR_b r (off + 5) o2 (fun y hy => hx y (List.mem_cons_of_mem _ hy)) h2
    have hw := wt_eq x
    rw [wts_cons]
    subst e
    refine ⟨by rw [List.length_append]; omega, fun a n c hm => ?_⟩
    rcases List.mem_append.1 hm with hm | hm
    · have := a2 a n c hm; omega
    · have := b2 a n c hm; omega
theorem LT_b {w : World} : ∀ (d : Nat) (l : List Tr) (v : Value) (o : List Value), wts l ≤ d → LT w v l o → o.length ≤ wts l + 1 ∧ ∀ a n c, Value.slice a n c ∈ o → n ≤ wts l := by
  intro d
  induction d using Nat.strongRecOn with
  | ind d ih =>
    intro l v o hd h
    obtain ⟨a, cap, os, rfl, rfl, h3⟩ := h
    have hl := wts_len2 l
    have hb : os.length ≤ wts l ∧ ∀ a n c, Value.slice a n c ∈ os → n ≤ wts l := by
      rcases h3 with ⟨rfl, rfl⟩ | ⟨g, _, h3⟩
      · simp
      · exact LR_b l 0 os (fun x hx u o' hu => ih (wts x.kids) (by have := wts_mem hx; omega) x.kids u o' (Nat.le_refl _) hu) h3
    refine ⟨by rw [List.length_cons]; have := hb.1; omega, fun a' n c hm => ?_⟩
    rcases List.mem_cons.1 hm with e | hm
    · cases e; exact hl
    · exact hb.2 a' n c hm
/-- Two messages, each in memory of its own, one read behind the other. -/
theorem apart_two {B M1 M2 : Nat} {l : List Tr} {va vb : Value} {W : World} (hB : B ≤ M1) (hM1 : M1 ≤ M2) (hM2 : M2 ≤ W.heap.size) (hl : wts l ≤ 1048576) (ha : PA W (fun x => B ≤ x ∧ x < M1) va l) (hb : PA W (fun x => M1 ≤ x ∧ x < M2) vb l) :
    Calls Tryz.prog 28 #[.slice (some ⟨W.heap.size, 0, none⟩) 2 2] (W.alloc (.cells #[va, vb] 23)) fun e w' => e = .returned (.bool true) ∧ Below B W w' := by
  obtain ⟨_, o1, a1, a2, a3⟩ := ha
  obtain ⟨_, o2, b1, b2, b3⟩ := hb
  have BW := (Below.refl W.heap.size W).alloc (Nat.le_refl _) (.cells #[va, vb] 23)
  have ka : ∀ u ∈ o1, ∀ g, u.ownBlock = some g → g < W.heap.size := fun u hu g hg => (a3 u hu).lt hg |>.2
  have kb : ∀ u ∈ o2, ∀ g, u.ownBlock = some g → g < W.heap.size := fun u hu g hg => (b3 u hu).lt hg |>.2
  have la := LT_kept (w' := W.alloc (.cells #[va, vb] 23)) _ l va o1 (Nat.le_refl _) a1 (fun u hu g hg => BW.block g (ka u hu g hg))
  have lb := LT_kept (w' := W.alloc (.cells #[va, vb] 23)) _ l vb o2 (Nat.le_refl _) b1 (fun u hu g hg => BW.block g (kb u hu g hg))
  have ba := LT_b _ l va o1 (Nat.le_refl _) a1
  have bb := LT_b _ l vb o2 (Nat.le_refl _) b1
  have hO : msO [(va, l, o1), (vb, l, o2)] = o1 ++ o2 := by simp [msO]
  have hp1 : 0 < o1.length := by obtain ⟨_, _, _, _, rfl, _⟩ := a1; simp
  refine (apartItems_any B W.heap.size 2 2 [(va, l, o1), (vb, l, o2)] (W.alloc (.cells #[va, vb] 23)) rfl (by omega) (by simp) (by omega) (Nat.le_refl _) ?_ ?_ ?_ ?_ ?_ ?_).mono ?_
  · intro k x hk
    match k, hk with
    | 0, hk => simp at hk; subst hk; exact ⟨by simp, la⟩
    | 1, hk => simp at hk; subst hk; exact ⟨by simp, lb⟩
  · rw [hO]
    intro u hu
    rcases List.mem_append.1 hu with hu | hu
    · exact (a3 u hu).kept (fun g _ hg => BW.block g hg) (fun g hg hg2 => ⟨hg.1, hg2⟩)
    · exact (b3 u hu).kept (fun g _ hg => BW.block g hg) (fun g hg hg2 => ⟨by have := hg.1; omega, hg2⟩)
  · rw [hO]
    refine nd_append a2 b2 (fun u hu y hy x e1 e2 => ?_)
    have := ((a3 u hu).lt e1).1.2
    have := ((b3 y hy).lt e2).1.1
    omega
  · rw [hO, List.length_append]; have := ba.1; have := bb.1; omega
  · rw [hO, List.length_append]; omega
  · rw [hO]
    intro a n c hm
    rcases List.mem_append.1 hm with hm | hm
    · have := ba.2 a n c hm; omega
    · have := bb.2 a n c hm; omega
  · rintro e w' ⟨rfl, hb'⟩
    exact ⟨rfl, (BW.mono (by omega)).trans hb'⟩
theorem errV5p : errV 5 = .iface 38 (.int .i64 5) := errV_pos (by omega)
set_option maxRecDepth 100000 in
set_option maxHeartbeats 4000000 in
theorem tagsParse_law (T : List UInt8) (w : World) (hT : T.length ≤ 140737488355328) (hE : Hid (ErrType w)) (hm : ML w) :
    Calls Tryz.prog 14 #[.string ⟨T.toArray⟩] w fun e w' => e = .returned (.bool true) ∧ Below w.heap.size w w' := by
  have HM := hide hm
  clear hm
  have RN : ∀ W : World, RT W (.slice none 0 0) [] := fun W => ⟨none, 0, rfl, .inl rfl⟩
  have HRN := hide RN
  have HSN := hide (fun W : World => sameItems_all 0 [] [] (.slice none 0 0) (.slice none 0 0) W (by simp [wts]) (by omega) (RN W) (RN W))
  have HAN := hide (fun (B : Nat) (W : World) (hB : B ≤ W.heap.size) => apart_two (B := B) (M1 := W.heap.size) (M2 := W.heap.size) (l := []) (W := W) hB (Nat.le_refl _) (Nat.le_refl _) (by simp [wts]) (PA.nil W _) (PA.nil W _))
  rw [eqL_refl] at HSN
  clear RN
  by_cases hb : T.length ≤ 1048576
  · have HD := hide (dParse_any T w hb)
    cases hr : rdT T with
    | ok l n b =>
      rw [hr] at HD
      dsimp only [toDO, PE] at HD
      have HP := hide (fun (W : World) (h : ML W) => parse_okA T l W hb (readsOk hb hr) h)
      have HW : Hid (wts l ≤ 1048576) := hide (by have := (rdT_print hb hr).2.2; omega)
      have HSM := hide (fun (va vb : Value) (W : World) (h1 : RT W va l) (h2 : RT W vb l) => sameItems_all _ l l va vb W (Nat.le_refl _) (by have := HW.out; omega) h1 h2)
      rw [eqL_refl] at HSM
      have HPN := hide (fun W : World => plain_nil 0 W)
      clear hr hT
      go_enter Tryz.func14, Tryz.ntmps14
      go_wp2_with fail
      refine HD.out.mono ?_
      rintro e w1 ⟨⟨a0, c0, rfl, hrt⟩, hb1⟩
      have B1 := hide hb1
      have R1 := hide hrt
      clear hb1 hrt HD
      go_wp2_with fail
      refine (HP.out _ (HM.out.later B1.out)).mono ?_
      rintro e w2 ⟨⟨a1, c1, rfl, hpa⟩, hb2⟩
      have B2 := hide (B1.out.trans (hb2.mono B1.out.size))
      have R2 := hide (RT_later R1.out hb2)
      have P2 := hide hpa
      have S12 := hide hb2.size
      clear hb2 hpa
      go_wp2_with fail
      refine (HP.out _ (HM.out.later B2.out)).mono ?_
      rintro e w3 ⟨⟨a2, c2, rfl, hpa⟩, hb3⟩
      have B3 := hide (B2.out.trans (hb3.mono B2.out.size))
      have R3 := hide (RT_later R2.out hb3)
      have P3 := hide (PA_kept (w' := w3) (S' := fun x => w1.heap.size ≤ x ∧ x < w2.heap.size) (fun g _ hg => hb3.block g hg) hb3.size (fun g hg _ => hg) _ _ _ (Nat.le_refl _) P2.out)
      have Q3 := hide hpa
      have S23 := hide hb3.size
      clear hb3 hpa P2
      go_wp2_with fail
      refine (HSM.out _ _ _ (PT_rt _ _ _ (Nat.le_refl _) P3.out.1) R3.out).mono ?_
      rintro e w4 ⟨rfl, hb4⟩
      have B4 := hide (B3.out.trans (hb4.mono B3.out.size))
      have R4 := hide (RT_later R3.out hb4)
      have P4 := hide (PA_kept (w' := w4) (S' := fun x => w1.heap.size ≤ x ∧ x < w2.heap.size) (fun g _ hg => hb4.block g hg) hb4.size (fun g hg _ => hg) _ _ _ (Nat.le_refl _) P3.out)
      have Q4 := hide (PA_kept (w' := w4) (S' := fun x => w2.heap.size ≤ x ∧ x < w3.heap.size) (fun g _ hg => hb4.block g hg) hb4.size (fun g hg _ => hg) _ _ _ (Nat.le_refl _) Q3.out)
      have S34 := hide hb4.size
      clear hb4 P3 Q3
      go_wp2_with fail
      refine (HSM.out _ _ _ (PT_rt _ _ _ (Nat.le_refl _) Q4.out.1) R4.out).mono ?_
      rintro e w5 ⟨rfl, hb5⟩
      have B5 := hide (B4.out.trans (hb5.mono B4.out.size))
      have BQ5 := hide hb5
      clear hb5
      go_wp2_with fail
      refine (HPN.out _).mono ?_
      rintro e w6 ⟨rfl, hb6⟩
      have B6 := hide (B5.out.trans (hb6.mono B5.out.size))
      have BQ6 := hide (BQ5.out.trans (hb6.mono BQ5.out.size))
      clear hb6
      go_wp2_with fail
      refine (HPN.out _).mono ?_
      rintro e w7 ⟨rfl, hb7⟩
      have B7 := hide (B6.out.trans (hb7.mono B6.out.size))
      have BQ7 := hide (BQ6.out.trans (hb7.mono BQ6.out.size))
      clear hb7
      have HAP := hide (apart_two (B := w1.heap.size) (M1 := w2.heap.size) (M2 := w3.heap.size) (W := w7) S12.out S23.out (by have := S34.out; have := BQ7.out.size; omega) HW.out
        (PA_kept (w' := w7) (fun g _ hg => BQ7.out.block g hg) BQ7.out.size (fun g hg _ => hg) _ _ _ (Nat.le_refl _) P4.out) (PA_kept (w' := w7) (fun g _ hg => BQ7.out.block g hg) BQ7.out.size (fun g hg _ => hg) _ _ _ (Nat.le_refl _) Q4.out))
      go_wp2_with fail
      refine HAP.out.mono ?_
      rintro e w8 ⟨rfl, hb8⟩
      have B8 := hide (B7.out.trans (hb8.mono B1.out.size))
      clear hb8
      go_wp2_with fail
      go_ret
      exact ⟨rfl, B8.out⟩
    | bad no n at_ =>
      obtain ⟨n1, n2⟩ := rdT_no hr
      have hl := rdT_ln hr
      rw [hr] at HD
      dsimp only [toDO, PE] at HD
      have HP := hide (fun (W : World) (h : ML W) => parse_bad T no n at_ W hb (readsBad hb hr) h)
      have HAT := hide (fun (W : World) (h : ErrType W) => at_fault no n at_ W n1 n2 h)
      have hz : (n == 0) = false := by rw [beq_eq_false_iff_ne]; omega
      unfold fltV at HP HAT
      clear hr hT n1 n2 hl
      go_enter Tryz.func14, Tryz.ntmps14
      go_wp2_with fail
      refine HD.out.mono ?_
      rintro e w1 ⟨rfl, hb1⟩
      have B1 := hide hb1
      clear hb1 HD
      go_wp2_with fail
      refine (HP.out _ (HM.out.later B1.out)).mono ?_
      rintro e w2 ⟨rfl, hb2⟩
      have B2 := hide (B1.out.trans (hb2.mono B1.out.size))
      clear hb2
      go_wp2_with fail
      refine (HP.out _ (HM.out.later B2.out)).mono ?_
      rintro e w3 ⟨rfl, hb3⟩
      have B3 := hide (B2.out.trans (hb3.mono B2.out.size))
      clear hb3
      go_wp2_with fail
      refine (HSN.out _).mono ?_
      rintro e w4 ⟨rfl, hb4⟩
      have B4 := hide (B3.out.trans (hb4.mono B3.out.size))
      clear hb4
      go_wp2_with fail
      refine (HSN.out _).mono ?_
      rintro e w5 ⟨rfl, hb5⟩
      have B5 := hide (B4.out.trans (hb5.mono B4.out.size))
      clear hb5
      go_wp2_with fail
      refine (HAT.out _ (hE.out.below B5.out)).mono ?_
      rintro e w6 ⟨rfl, hb6⟩
      have B6 := hide (B5.out.trans (hb6.mono B5.out.size))
      clear hb6
      go_wp2_with fail
      refine (HAT.out _ (hE.out.below B6.out)).mono ?_
      rintro e w7 ⟨rfl, hb7⟩
      have B7 := hide (B6.out.trans (hb7.mono B6.out.size))
      clear hb7
      go_wp2_with fail
      refine (HAN.out w.heap.size w7 B7.out.size).mono ?_
      rintro e w8 ⟨rfl, hb8⟩
      have B8 := hide (B7.out.trans hb8)
      clear hb8
      go_wp2_with fail
      go_ret
      exact ⟨rfl, B8.out⟩
  · have hb2 : 1048576 < T.length := by omega
    have HD := hide (dParse_big T w hb2 hT)
    have HP := hide (fun W : World => parse_big T W hb2 hT)
    have HPN := hide (fun (W : World) (h : ErrType W) => plain_errno 5 5 W (by omega) (by omega) h)
    rw [errV5p] at HP
    have h55 : ((5 : Int) == 5) = true := rfl
    clear hb
    go_enter Tryz.func14, Tryz.ntmps14
    go_wp2_with fail
    refine HD.out.mono ?_
    rintro e w1 ⟨rfl, hw1⟩
    have B1 : Hid (Below w.heap.size w w1) := hide (by rw [hw1]; exact Below.refl _ _)
    clear hw1 HD
    go_wp2_with fail
    refine (HP.out _).mono ?_
    rintro e w2 ⟨rfl, hb2'⟩
    have B2 := hide (B1.out.trans (hb2'.mono B1.out.size))
    clear hb2'
    go_wp2_with fail
    refine (HP.out _).mono ?_
    rintro e w3 ⟨rfl, hb3⟩
    have B3 := hide (B2.out.trans (hb3.mono B2.out.size))
    clear hb3
    go_wp2_with fail
    refine (HSN.out _).mono ?_
    rintro e w4 ⟨rfl, hb4⟩
    have B4 := hide (B3.out.trans (hb4.mono B3.out.size))
    clear hb4
    go_wp2_with fail
    refine (HSN.out _).mono ?_
    rintro e w5 ⟨rfl, hb5⟩
    have B5 := hide (B4.out.trans (hb5.mono B4.out.size))
    clear hb5
    go_wp2_with fail
    refine (HPN.out _ (hE.out.below B5.out)).mono ?_
    rintro e w6 ⟨rfl, hb6⟩
    have B6 := hide (B5.out.trans (hb6.mono B5.out.size))
    clear hb6
    go_wp2_with fail
    refine (HPN.out _ (hE.out.below B6.out)).mono ?_
    rintro e w7 ⟨rfl, hb7⟩
    have B7 := hide (B6.out.trans (hb7.mono B6.out.size))
    clear hb7
    go_wp2_with fail
    refine (HAN.out w.heap.size w7 B7.out.size).mono ?_
    rintro e w8 ⟨rfl, hb8⟩
    have B8 := hide (B7.out.trans hb8)
    clear hb8
    go_wp2_with fail
    go_ret
    exact ⟨rfl, B8.out⟩
end Go.Proofs.YtpkgaidnpooahaaGreatDoor
