/-
  My own text: layer 15: the law PrioHeaps (printed by mkps4.py).
-/
import Derived.Test.YtegemfkadclnkaaPS3
import Derived.Test.YtegemfkadclnkaaPN3
import Derived.Test.YtegemfkadclnkaaPQ
import Derived.Test.YtegemfkadclnkaaPS5
import Derived.Deep.DeepCutAuto
namespace Go.Proofs.Ytegemfkadclnkaa
open Go.RowKit Go.Extern

theorem gtNilP (q : Nat) (W : World) : (binOp .eql 23 (.pointer (some ⟨q, 0, none⟩)) (.pointer none)).run Try.prog W = .ok (.bool false) W := by kernel_rfl
def cn (a b d : Nat) : Cn := ⟨d, d + 1 + 1 + 1, fun f => if f then b + 1 else a + 1, fun f => if f then b else a, fun f => if f then d + 1 + 1 else d + 1, fun f => if f then b else a, fun f => if f then d + 1 + 1 else d + 1⟩
abbrev nilV : Value := .slice none 0 0
theorem PH.start {w w1 w2 : World} (h1 : HQ w1 w.heap.size (w.heap.size + 1) w.heap.size 5 kR nilV [] 0) (b1 : Below w.heap.size w w1) (h2 : HQ w2 w1.heap.size (w1.heap.size + 1) w1.heap.size 6 kF nilV [] 0) (b2 : Below w1.heap.size w1 w2) :
    PH w ((((w2.alloc (.cells #[.pointer (some ⟨w.heap.size + 1, 0, none⟩), .pointer (some ⟨w1.heap.size + 1, 0, none⟩)] 27)).alloc (.cells #[.bool false, nilV] 31)).alloc (.cells #[.bool true, nilV] 31)).alloc (.cells #[.pointer (some ⟨w2.heap.size + 1, 0, none⟩), .pointer (some ⟨w2.heap.size + 1 + 1, 0, none⟩)] 32)) (cn w.heap.size w1.heap.size w2.heap.size) (fun _ => nilV) (fun _ => []) (fun _ => 0) (fun _ => nilV) (fun _ => []) nilV [] [] := by
  let c := cn w.heap.size w1.heap.size w2.heap.size
  have s1 : Sep w w1 [HCp c false nilV [] 0] := (Sep.nil (Below.refl _ _)).new (c := HCp c false nilV [] 0) b1 (HCp.ok _ _ _ _ _) h1 (fun g hg => by
    rcases hg with e | e | e
    · rw [e]; show w.heap.size ≤ w.heap.size + 1; omega
    · rw [e]; exact Nat.le_refl _
    · cases e)
  have s2 : Sep w w2 [HCp c false nilV [] 0, HCp c true nilV [] 0] := s1.new (c := HCp c true nilV [] 0) b2 (HCp.ok _ _ _ _ _) h2 (fun g hg => by
    rcases hg with e | e | e
    · rw [e]; show w1.heap.size ≤ w1.heap.size + 1; omega
    · rw [e]; exact Nat.le_refl _
    · cases e)
  have s3 := s2.box #[.pointer (some ⟨w.heap.size + 1, 0, none⟩), .pointer (some ⟨w1.heap.size + 1, 0, none⟩)] 27
  generalize hA : w2.alloc (.cells #[.pointer (some ⟨w.heap.size + 1, 0, none⟩), .pointer (some ⟨w1.heap.size + 1, 0, none⟩)] 27) = A at s3 ⊢
  have eA : A.heap.size = w2.heap.size + 1 := by rw [← hA]; simp
  have bA := (Below.refl A.heap.size A).alloc (Nat.le_refl _) (.cells #[.bool false, nilV] 31)
  have nA := alloc_new A (.cells #[.bool false, nilV] 31)
  have s4 := s3.new (c := RCp c false nilV []) bA (RCp.ok _ _ _ _) (show RQ _ (w2.heap.size + 1) (w2.heap.size + 1) false nilV [] from ⟨by rw [← eA]; exact nA, World.ownsRow_nil _ _ _ _, by simp; omega, Nat.le_refl _⟩) (fun g hg => by
    rcases hg with e | e
    · rw [e, eA]; exact Nat.le_refl _
    · cases e)
  generalize hB : A.alloc (.cells #[.bool false, nilV] 31) = B at s4 ⊢
  have eB : B.heap.size = w2.heap.size + 1 + 1 := by rw [← hB]; simp [eA]
  have bB := (Below.refl B.heap.size B).alloc (Nat.le_refl _) (.cells #[.bool true, nilV] 31)
  have nB := alloc_new B (.cells #[.bool true, nilV] 31)
  have s5 := s4.new (c := RCp c true nilV []) bB (RCp.ok _ _ _ _) (show RQ _ (w2.heap.size + 1 + 1) (w2.heap.size + 1 + 1) true nilV [] from ⟨by rw [← eB]; exact nB, World.ownsRow_nil _ _ _ _, by simp; omega, Nat.le_refl _⟩) (fun g hg => by
    rcases hg with e | e
    · rw [e, eB]; exact Nat.le_refl _
    · cases e)
  generalize hC : B.alloc (.cells #[.bool true, nilV] 31) = C at s5 ⊢
  have eC : C.heap.size = w2.heap.size + 1 + 1 + 1 := by rw [← hC]; simp [eB]
  have s6 := s5.box #[.pointer (some ⟨w2.heap.size + 1, 0, none⟩), .pointer (some ⟨w2.heap.size + 1 + 1, 0, none⟩)] 32
  rw [eC] at s6
  have s7 := s6.add (c := TCp w.heap.size nilV []) (TCp.ok _ _ _) ⟨World.ownsRow_nil _ _ _ _, fun u hu => (by cases hu), fun i j u u' g hi => by simp at hi, fun u hu => (by cases hu)⟩ (fun g hg => by
    rcases hg with e | ⟨u, hu, _⟩
    · cases e
    · cases hu) (fun i d _ g hg => by
    rcases hg with e | ⟨u, hu, _⟩
    · cases e
    · cases hu)
  exact ⟨s7⟩
theorem TLk.slc {w : World} {B : Nat} {vt : Value} {TL : List (Value × List Pr)} (h : TLk w B vt TL) : ∃ a cap, vt = .slice a TL.length cap := by
  rcases h.row.2 with ⟨rfl, h0⟩ | ⟨g, cap, cur, rfl, _⟩
  · exact ⟨none, 0, by rw [h0]⟩
  · exact ⟨_, _, rfl⟩
theorem four_cellsP {w : World} {a b c d : Value} {t : TypeId} {g : Nat} (h : w.heap[g]? = some (.cells #[a, b, c, d] t (0, 0))) : w.cell? ⟨g, 0, none⟩ = some a ∧ w.cell? ⟨g, 1, none⟩ = some b ∧ w.cell? ⟨g, 2, none⟩ = some c ∧ w.cell? ⟨g, 3, none⟩ = some d :=
  ⟨by rw [cell_of_row _ _ 0 _ _ _ h]; rfl, by rw [cell_of_row _ _ 1 _ _ _ h]; rfl, by rw [cell_of_row _ _ 2 _ _ _ h]; rfl, by rw [cell_of_row _ _ 3 _ _ _ h]; rfl⟩
theorem ixP {n m : Nat} (h : n < m) (hm : m ≤ 8796093022000) : decide ((n : Int) < (m : Int)) = true ∧ (0 : Int) ≤ (n : Int) ∧ (n : Int) < (m : Int) ∧ wrap64 ((n : Int) + 1) = (n : Int) + 1 :=
  ⟨decide_eq_true (by omega), by omega, by omega, by unfold wrap64; omega⟩
theorem meas_upP {k n : Nat} (h : k < n) : n - (intOf (.int .i64 ((k : Int) + 1))).toNat < n - (intOf (.int .i64 (k : Int))).toNat := by simp [intOf]; omega
theorem up_le {f : Bool} {N : Bool → Nat} {k : Nat} (h : ∀ f, N f ≤ k) : ∀ g, up f (N f + 1) N g ≤ k + 1 := fun g => by
  unfold up; split
  · have := h f; omega
  · have := h g; omega
theorem bool_lt (f : Bool) : f.toNat < 2 := by cases f <;> decide
set_option maxRecDepth 100000 in
set_option maxHeartbeats 16000000 in
theorem heaps_law (v : Value) (L : List A4) (w : World) (hv : RA w v L) (hl : L.length ≤ 4398046510976) :
    Calls Try.prog 3 #[v] w fun e w' => e = .returned (.bool true) ∧ Below w.heap.size w w' := by
  obtain ⟨sa, scap, rfl, hs⟩ := hv
  have HN1 := hide (newQ 5 kR w)
  have HS := hide hs
  have HL := hide hl
  have gn := gtNilP
  clear hs hl
  go_enter Try.func3, Try.ntmps3
  go_wp2_with fail
  refine HN1.out.mono ?_
  rintro e w1 ⟨rfl, h1, b1⟩
  have HN2 := hide (newQ 6 kF w1)
  have X1 := hide (And.intro h1 b1)
  clear h1 b1 HN1
  go_wp2_with fail
  refine HN2.out.mono ?_
  rintro e w2 ⟨rfl, h2, b2⟩
  have X2 := hide (And.intro h2 b2)
  clear h2 b2 HN2
  have H0 := hide (PH.start X1.out.1 X1.out.2 X2.out.1 X2.out.2)
  clear X1 X2
  go_wp2_with fail
  clear gn
  go_loopw [5, 6] (fun vt i wr => ∃ (k : Nat) (vh : Bool → Value) (R : Bool → List En) (N : Bool → Nat) (vr : Bool → Value) (TL : List (Value × List Pr)), k ≤ L.length ∧ i = .int .i64 (k : Int) ∧ Hid (PH w wr (cn w.heap.size w1.heap.size w2.heap.size) vh R N vr R vt TL []) ∧ Hid (∀ f, N f ≤ k) ∧ Hid (TL.length ≤ k)) (fun _ i _ => L.length - (intOf i).toNat)
  case atStart => exact ⟨0, _, _, _, _, [], Nat.zero_le _, rfl, H0, hide (fun _ => Nat.le_refl _), hide (Nat.le_refl _)⟩
  case round =>
    clear H0
    obtain ⟨k, vh, R, N, vr, TL, hk, rfl, HP, HNK, HTL⟩ := hrel
    obtain ⟨ta, tc, htv⟩ := HP.out.tl.slc
    subst htv
    by_cases hlt : k < L.length
    · obtain ⟨⟨so, sk, s2, s3⟩, hp⟩ : ∃ p, L[k]? = some p := ⟨_, List.getElem?_eq_getElem hlt⟩
      obtain ⟨sb, soff, ha, hsl, hsc⟩ := HS.out.resolve_left (fun h => by rw [h] at hlt; simp at hlt)
      obtain ⟨e0, e1, e2, e3⟩ := hsc k _ hp
      have c0 := (HP.out.bl.cell (p := ⟨sb, _, none⟩) hsl).trans e0
      have c1 := (HP.out.bl.cell (p := ⟨sb, _, none⟩) hsl).trans e1
      have c2 := (HP.out.bl.cell (p := ⟨sb, _, none⟩) hsl).trans e2
      have c3 := (HP.out.bl.cell (p := ⟨sb, _, none⟩) hsl).trans e3
      have c1' : wr.cell? ⟨sb, soff + (k * 4 + 1), none⟩ = some (.int .i64 sk) := c1
      have c2' : wr.cell? ⟨sb, soff + (k * 4 + 2), none⟩ = some (.int .i64 s2) := c2
      have c3' : wr.cell? ⟨sb, soff + (k * 4 + 3), none⟩ = some (.int .i64 s3) := c3
      dsimp only at c0 c1 c2 c3
      subst ha
      obtain ⟨hd1, i0, i1, wk⟩ := ixP hlt (by have := HL.out; omega)
      obtain ⟨f, hf⟩ := f_of so
      have HF := hide hf
      obtain ⟨kk, hkk⟩ : ∃ kk, f.toNat = kk := ⟨_, rfl⟩
      have HKK : Hid (kk < 2) := hide (by rw [← hkk]; exact bool_lt f)
      obtain ⟨hb, hhb⟩ : ∃ hb, (cn w.heap.size w1.heap.size w2.heap.size).hb f = hb := ⟨_, rfl⟩
      obtain ⟨rb, hrb⟩ : ∃ rb, (cn w.heap.size w1.heap.size w2.heap.size).rb f = rb := ⟨_, rfl⟩
      have HHB := hide hhb
      have HRB := hide hrb
      obtain ⟨W8, hW8⟩ : ∃ W8, wr.alloc (.cells #[.int .i64 so, .int .i64 sk, .int .i64 s2, .int .i64 s3] 35) = W8 := ⟨_, rfl⟩
      have H8 : Hid (PH w W8 (cn w.heap.size w1.heap.size w2.heap.size) vh R N vr R (.slice ta TL.length tc) TL [BCp wr.heap.size #[.int .i64 so, .int .i64 sk, .int .i64 s2, .int .i64 s3] 35]) := hide (by rw [← hW8]; exact HP.out.box _ _)
      obtain ⟨x0, x1, x2, x3⟩ := four_cellsP (H8.out.bx (i := 0) rfl)
      have q1 : W8.cell? ⟨w2.heap.size, kk, none⟩ = some (.pointer (some ⟨hb, 0, none⟩)) := by rw [← hkk, ← hhb]; exact H8.out.hxf f
      have q2 : W8.cell? ⟨w2.heap.size + 1 + 1 + 1, kk, none⟩ = some (.pointer (some ⟨rb, 0, none⟩)) := by rw [← hkk, ← hrb]; exact H8.out.rxf f
      have HPK := hide (pick_any so 2 W8 (by omega) (by omega))
      rw [hf, hkk] at HPK
      have HLT := hide hlt
      have HRS : Hid (∀ f, Rs 0 (R f) ∧ (R f).length ≤ N f) := hide (fun f => ⟨(HP.out.hq f).rs, (HP.out.hq f).len⟩)
      have HNB : Hid (∀ f, N f ≤ 4398046510976) := hide (fun f => by have := HNK.out f; have := HL.out; omega)
      obtain ⟨xb, hxb⟩ : ∃ xb, xb = wr.heap.size := ⟨_, rfl⟩
      clear hsc hp hsl hk e0 e1 e2 e3 hf hkk hhb hrb
      go_wp2_with fail
      rw [← hxb] at x0 x1 x2 x3 H8 ⊢
      clear hxb c0 c1 c2 c3 c1' c2' c3' hW8 HP
      refine HPK.out.mono ?_
      rintro r w9 ⟨rfl, e9⟩
      replace e9 := e9.symm
      subst e9
      have j0 : (0 : Int) ≤ (kk : Int) := Int.natCast_nonneg _
      have j1 : (kk : Int) < 2 := by have := HKK.out; omega
      have j2 : kk < 2 := HKK.out
      obtain ⟨W10, hW10⟩ : ∃ W, Hid ((W8.alloc zPr).alloc zPr = W) := ⟨_, hide rfl⟩
      have H10 : Hid (PH w W10 (cn w.heap.size w1.heap.size w2.heap.size) vh R N vr R (.slice ta TL.length tc) TL [BCp xb #[.int .i64 so, .int .i64 sk, .int .i64 s2, .int .i64 s3] 35, BCp W8.heap.size #[.int .i64 0, .int .i64 0] 25, BCp (W8.heap.size + 1) #[.int .i64 0, .int .i64 0] 25]) := hide (by
        have h1 := (H8.out.box #[.int .i64 0, .int .i64 0] 25).box #[.int .i64 0, .int .i64 0] 25
        rw [show (W8.alloc (.cells #[.int .i64 0, .int .i64 0] 25)).heap.size = W8.heap.size + 1 by simp] at h1
        rw [← hW10.out]; exact h1)
      obtain ⟨y0, y1, y2, y3⟩ := four_cellsP (H10.out.bx (i := 0) rfl)
      rw [← hW10.out] at y0 y1 y2 y3
      clear HPK x0 x1 x2 x3 H8
      rcases six sk with rfl | rfl | rfl | rfl | rfl | ⟨k0, k1, k2, k3, k4⟩
      · skip
        as_aux_lemma =>
          obtain ⟨M, hM⟩ : ∃ M, mn (kB f) (fun _ => true) (R f) = M := ⟨_, rfl⟩
          obtain ⟨⟨p1, p2⟩, hp⟩ : ∃ p, ans M = p := ⟨_, rfl⟩
          obtain ⟨sm, hsm⟩ : ∃ sm, M.isSome = sm := ⟨_, rfl⟩
          obtain ⟨R', hR'⟩ : ∃ R', nx (R f) M = R' := ⟨_, rfl⟩
          have HE1 : Hid (ans (mn (kB f) (fun _ => true) (R f)) = (p1, p2) ∧ (mn (kB f) (fun _ => true) (R f)).isSome = sm ∧ nx (R f) (mn (kB f) (fun _ => true) (R f)) = R') := hide ⟨by rw [hM]; exact hp, by rw [hM]; exact hsm, by rw [hM]; exact hR'⟩
          clear hM hp hsm hR' M
          have nq := nqPr
          have HC := hide (H10.out.pop f (by have := HNB.out f; omega) HE1.out.1 HE1.out.2.1 HE1.out.2.2)
          rw [HHB.out] at HC
          go_wp2_with fail
          rw [hW10.out]
          clear q1 q2 y0 y1 y2 y3 j0 j1 j2
          refine HC.out.mono ?_
          rintro r w5 ⟨rfl, vh', H5⟩
          have G5 := hide (H5.out.bx (i := 1) rfl)
          obtain ⟨W6, hW6⟩ : ∃ W, Hid (w5.setRow W8.heap.size #[.int .i64 p1, .int .i64 p2] = W) := ⟨_, hide rfl⟩
          have H6 := hide (H5.out.setB (i := 1) rfl #[.int .i64 p1, .int .i64 p2])
          rw [hW6.out] at H6
          have HC2 := hide (H6.out.rpop f (HRS.out f).1 (by have := (HRS.out f).2; have := HNB.out f; omega) HE1.out.1 HE1.out.2.1 HE1.out.2.2)
          rw [HRB.out] at HC2
          clear HC H10
          go_wp2_with (refine wpList_store_row rfl 25 _ _ rfl W8.heap.size #[.int .i64 p1, .int .i64 p2] rfl rfl _ _ G5.out Try.sizePr rfl (by simp [Value.oneCell']) ?_; rw [hW6.out])
          refine HC2.out.mono ?_
          rintro r w7 ⟨rfl, vr', H7⟩
          have G7 := hide (H7.out.bx (i := 2) rfl)
          obtain ⟨W9, hW9⟩ : ∃ W, Hid (w7.setRow (W8.heap.size + 1) #[.int .i64 p1, .int .i64 p2] = W) := ⟨_, hide rfl⟩
          have H9 := hide (H7.out.setB (i := 2) rfl #[.int .i64 p1, .int .i64 p2])
          rw [hW9.out] at H9
          obtain ⟨g0, g1⟩ := pair_cells (H9.out.bx (i := 1) rfl) rfl
          obtain ⟨g2, g3⟩ := pair_cells (H9.out.bx (i := 2) rfl) rfl
          have HZ := hide (H9.out.bare)
          clear HC2 G5 H5 H6 H7 hW6 H9 
          go_wp2_with (refine wpList_store_row rfl 25 _ _ rfl (W8.heap.size + 1) #[.int .i64 p1, .int .i64 p2] rfl rfl _ _ G7.out Try.sizePr rfl (by simp [Value.oneCell']) ?_; rw [hW9.out])
          go_roundw
          case rel => exact ⟨k + 1, _, _, _, _, _, HLT.out, congrArg (Value.int .i64) wk, HZ, hide (fun g => Nat.le_succ_of_le (HNK.out g)), hide (Nat.le_succ_of_le HTL.out)⟩
          case measure => first | exact meas_upP HLT.out | (rw [wk]; exact meas_upP HLT.out)
      · skip
        as_aux_lemma =>
          have nq := nqPr 0 0
          have HC := hide (H10.out.push f (by have := HNB.out f; omega) s2 s3)
          rw [HHB.out] at HC
          go_wp2_with fail
          rw [hW10.out]
          clear q1 q2 y0 y1 y2 y3 j0 j1 j2
          refine HC.out.mono ?_
          rintro r w5 ⟨⟨u, rfl⟩, vh', H5⟩
          obtain ⟨y0, y1, y2, y3⟩ := four_cellsP (H5.out.bx (i := 0) rfl)
          have HC2 := hide (H5.out.rpush f (by have := (HRS.out f).2; have := HNB.out f; omega) s2 s3 (N f))
          rw [HRB.out] at HC2
          clear HC H10
          go_wp2_with fail
          refine HC2.out.mono ?_
          rintro r w7 ⟨⟨u2, rfl⟩, vr', H7⟩
          obtain ⟨g0, g1⟩ := pair_cells (H7.out.bx (i := 1) rfl) rfl
          obtain ⟨g2, g3⟩ := pair_cells (H7.out.bx (i := 2) rfl) rfl
          have HZ := hide (H7.out.bare)
          clear HC2 H5 H7 y0 y1 y2 y3
          go_wp2_with fail
          go_roundw
          case rel => exact ⟨k + 1, _, _, _, _, _, HLT.out, congrArg (Value.int .i64) wk, HZ, hide (up_le HNK.out), hide (Nat.le_succ_of_le HTL.out)⟩
          case measure => first | exact meas_upP HLT.out | (rw [wk]; exact meas_upP HLT.out)
      · skip
        as_aux_lemma =>
          obtain ⟨M, hM⟩ : ∃ M, mn (kB f) (fun _ => true) (R f) = M := ⟨_, rfl⟩
          obtain ⟨⟨p1, p2⟩, hp⟩ : ∃ p, ans M = p := ⟨_, rfl⟩
          obtain ⟨sm, hsm⟩ : ∃ sm, M.isSome = sm := ⟨_, rfl⟩
          obtain ⟨R', hR'⟩ : ∃ R', nx (R f) M = R' := ⟨_, rfl⟩
          have HE1 : Hid (ans (mn (kB f) (fun _ => true) (R f)) = (p1, p2) ∧ (mn (kB f) (fun _ => true) (R f)).isSome = sm ∧ nx (R f) (mn (kB f) (fun _ => true) (R f)) = R') := hide ⟨by rw [hM]; exact hp, by rw [hM]; exact hsm, by rw [hM]; exact hR'⟩
          clear hM hp hsm hR' M
          have nq := nqPr
          have HC := hide (H10.out.peek f HE1.out.1 HE1.out.2.1)
          rw [HHB.out] at HC
          go_wp2_with fail
          rw [hW10.out]
          clear q1 q2 y0 y1 y2 y3 j0 j1 j2
          refine HC.out.mono ?_
          rintro r w5 ⟨rfl, vh', H5⟩
          have G5 := hide (H5.out.bx (i := 1) rfl)
          obtain ⟨W6, hW6⟩ : ∃ W, Hid (w5.setRow W8.heap.size #[.int .i64 p1, .int .i64 p2] = W) := ⟨_, hide rfl⟩
          have H6 := hide (H5.out.setB (i := 1) rfl #[.int .i64 p1, .int .i64 p2])
          rw [hW6.out] at H6
          have HC2 := hide (H6.out.rpeek f (HRS.out f).1 (by have := (HRS.out f).2; have := HNB.out f; omega) HE1.out.1 HE1.out.2.1)
          rw [HRB.out] at HC2
          clear HC H10
          go_wp2_with (refine wpList_store_row rfl 25 _ _ rfl W8.heap.size #[.int .i64 p1, .int .i64 p2] rfl rfl _ _ G5.out Try.sizePr rfl (by simp [Value.oneCell']) ?_; rw [hW6.out])
          refine HC2.out.mono ?_
          rintro r w7 ⟨rfl, vr', H7⟩
          have G7 := hide (H7.out.bx (i := 2) rfl)
          obtain ⟨W9, hW9⟩ : ∃ W, Hid (w7.setRow (W8.heap.size + 1) #[.int .i64 p1, .int .i64 p2] = W) := ⟨_, hide rfl⟩
          have H9 := hide (H7.out.setB (i := 2) rfl #[.int .i64 p1, .int .i64 p2])
          rw [hW9.out] at H9
          obtain ⟨g0, g1⟩ := pair_cells (H9.out.bx (i := 1) rfl) rfl
          obtain ⟨g2, g3⟩ := pair_cells (H9.out.bx (i := 2) rfl) rfl
          have HZ := hide (H9.out.bare)
          clear HC2 G5 H5 H6 H7 hW6 H9 
          go_wp2_with (refine wpList_store_row rfl 25 _ _ rfl (W8.heap.size + 1) #[.int .i64 p1, .int .i64 p2] rfl rfl _ _ G7.out Try.sizePr rfl (by simp [Value.oneCell']) ?_; rw [hW9.out])
          go_roundw
          case rel => exact ⟨k + 1, _, _, _, _, _, HLT.out, congrArg (Value.int .i64) wk, HZ, hide (fun g => Nat.le_succ_of_le (HNK.out g)), hide (Nat.le_succ_of_le HTL.out)⟩
          case measure => first | exact meas_upP HLT.out | (rw [wk]; exact meas_upP HLT.out)
      · skip
        as_aux_lemma =>
          obtain ⟨M, hM⟩ : ∃ M, mn (kB f) (fun x => x.2 == s2) (R f) = M := ⟨_, rfl⟩
          obtain ⟨⟨p1, p2⟩, hp⟩ : ∃ p, ans M = p := ⟨_, rfl⟩
          obtain ⟨sm, hsm⟩ : ∃ sm, M.isSome = sm := ⟨_, rfl⟩
          obtain ⟨R', hR'⟩ : ∃ R', nx (R f) M = R' := ⟨_, rfl⟩
          have HE1 : Hid (ans (mn (kB f) (fun x => x.2 == s2) (R f)) = (p1, p2) ∧ (mn (kB f) (fun x => x.2 == s2) (R f)).isSome = sm ∧ nx (R f) (mn (kB f) (fun x => x.2 == s2) (R f)) = R') := hide ⟨by rw [hM]; exact hp, by rw [hM]; exact hsm, by rw [hM]; exact hR'⟩
          clear hM hp hsm hR' M
          have nq := nqPr

          obtain ⟨W11, hW11⟩ : ∃ W, Hid (W10.alloc (.cells #[.int .i64 s2] 3) = W) := ⟨_, hide rfl⟩
          have H11 : Hid (PH w W11 (cn w.heap.size w1.heap.size w2.heap.size) vh R N vr R (.slice ta TL.length tc) TL [BCp xb #[.int .i64 so, .int .i64 3, .int .i64 s2, .int .i64 s3] 35, BCp W8.heap.size #[.int .i64 0, .int .i64 0] 25, BCp (W8.heap.size + 1) #[.int .i64 0, .int .i64 0] 25, BCp (W8.heap.size + 1 + 1) #[.int .i64 s2] 3]) := hide (by
            have h1 := H10.out.box #[.int .i64 s2] 3
            rw [show W10.heap.size = W8.heap.size + 1 + 1 by rw [← hW10.out]; simp] at h1
            rw [← hW11.out]; exact h1)
          have HI := hide (is2_ok s2 (W8.heap.size + 1 + 1) W11 (H11.out.bx (i := 3) rfl))
          have HC := hide (H11.out.rem f (by have := HNB.out f; omega) HI.out HE1.out.1 HE1.out.2.1 HE1.out.2.2)
          rw [HHB.out] at HC
          go_wp2_with fail
          rw [hW10.out]
          rw [hW11.out]
          clear q1 q2 y0 y1 y2 y3 j0 j1 j2
          refine HC.out.mono ?_
          rintro r w5 ⟨rfl, vh', H5⟩
          have G5 := hide (H5.out.bx (i := 1) rfl)
          obtain ⟨W6, hW6⟩ : ∃ W, Hid (w5.setRow W8.heap.size #[.int .i64 p1, .int .i64 p2] = W) := ⟨_, hide rfl⟩
          have H6 := hide (H5.out.setB (i := 1) rfl #[.int .i64 p1, .int .i64 p2])
          rw [hW6.out] at H6
          have z0 : W6.cell? ⟨W8.heap.size + 1 + 1, 0, none⟩ = some (.int .i64 s2) := by rw [cell_of_row _ _ 0 _ _ _ (H6.out.bx (i := 3) rfl)]; rfl
          have HC2 := hide (H6.out.rrem f (HRS.out f).1 (by have := (HRS.out f).2; have := HNB.out f; omega) HE1.out.1 HE1.out.2.1 HE1.out.2.2)
          rw [HRB.out] at HC2
          clear HC H11 HI H10
          go_wp2_with (refine wpList_store_row rfl 25 _ _ rfl W8.heap.size #[.int .i64 p1, .int .i64 p2] rfl rfl _ _ G5.out Try.sizePr rfl (by simp [Value.oneCell']) ?_; rw [hW6.out])
          refine HC2.out.mono ?_
          rintro r w7 ⟨rfl, vr', H7⟩
          have G7 := hide (H7.out.bx (i := 2) rfl)
          obtain ⟨W9, hW9⟩ : ∃ W, Hid (w7.setRow (W8.heap.size + 1) #[.int .i64 p1, .int .i64 p2] = W) := ⟨_, hide rfl⟩
          have H9 := hide (H7.out.setB (i := 2) rfl #[.int .i64 p1, .int .i64 p2])
          rw [hW9.out] at H9
          obtain ⟨g0, g1⟩ := pair_cells (H9.out.bx (i := 1) rfl) rfl
          obtain ⟨g2, g3⟩ := pair_cells (H9.out.bx (i := 2) rfl) rfl
          have HZ := hide (H9.out.bare)
          clear HC2 G5 H5 H6 H7 hW6 H9 z0
          go_wp2_with (refine wpList_store_row rfl 25 _ _ rfl (W8.heap.size + 1) #[.int .i64 p1, .int .i64 p2] rfl rfl _ _ G7.out Try.sizePr rfl (by simp [Value.oneCell']) ?_; rw [hW9.out])
          go_roundw
          case rel => exact ⟨k + 1, _, _, _, _, _, HLT.out, congrArg (Value.int .i64) wk, HZ, hide (fun g => Nat.le_succ_of_le (HNK.out g)), hide (Nat.le_succ_of_le HTL.out)⟩
          case measure => first | exact meas_upP HLT.out | (rw [wk]; exact meas_upP HLT.out)
      · skip
        as_aux_lemma =>
          have nq := nqPr 0 0
          have HLN : Hid (∀ n, Calls Try.prog 17 #[.pointer (some ⟨hb, 0, none⟩)] (W10.drewN n) fun e w' => e = .returned (.int .i64 ((R f).length : Int)) ∧ w' = W10.drewN n) := hide (fun n => by rw [← HHB.out]; exact lenQ ((H10.out.later (below_dq (Below.refl _ _) n)).hq f))
          obtain ⟨va, vc, hvv⟩ := (H10.out.rq f).row.slice
          rw [fs_len] at hvv
          have r1 := (H10.out.rq f).c1
          rw [hvv, HRB.out] at r1
          obtain ⟨g0, g1⟩ := pair_cells (H10.out.bx (i := 1) rfl) rfl
          obtain ⟨g2, g3⟩ := pair_cells (H10.out.bx (i := 2) rfl) rfl
          obtain ⟨rl, hrl⟩ : ∃ rl, (R f).length = rl := ⟨_, rfl⟩
          rw [hrl] at HLN r1
          clear hvv hrl
          go_wp2_with fail
          rw [hW10.out]
          clear q1 q2 y0 y1 y2 y3 j0 j1 j2
          go_quiet (first | (go_at_call 17; exact Calls.quiet_of_same (HLN.out _)))
          have HZ := hide (H10.out.later (below_dq (Below.refl _ _) nq)).bare
          clear H10 r1 HLN
          go_wp2_with fail
          go_roundw
          case rel => exact ⟨k + 1, _, _, _, _, _, HLT.out, congrArg (Value.int .i64) wk, HZ, hide (fun g => Nat.le_succ_of_le (HNK.out g)), hide (Nat.le_succ_of_le HTL.out)⟩
          case measure => first | exact meas_upP HLT.out | (rw [wk]; exact meas_upP HLT.out)
      · skip
        as_aux_lemma =>
          have nq := nqPr 0 0
          obtain ⟨K, hK⟩ : ∃ K, srt (kB f) (R f).length (R f) = K := ⟨_, rfl⟩
          have HKL : Hid (K.length ≤ 4398046510976) := hide (by rw [← hK, srt_len _ _ rfl]; have := (HRS.out f).2; have := HNB.out f; omega)
          have HC := hide (H10.out.sort f (by have := HNB.out f; omega) hK)
          rw [HHB.out] at HC
          have HK := hide hK
          clear hK
          go_wp2_with fail
          rw [hW10.out]
          clear q1 q2 y0 y1 y2 y3 j0 j1 j2
          refine HC.out.mono ?_
          rintro r w5 ⟨a5, c5, rfl, H5⟩
          have HC2 := hide (H5.out.rsort f (HRS.out f).1 (by have := (HRS.out f).2; have := HNB.out f; omega) HK.out)
          rw [HRB.out] at HC2
          clear HC H10
          go_wp2_with fail
          refine HC2.out.mono ?_
          rintro r w6 ⟨a6, c6, rfl, H6⟩
          have HC3 := hide (sameM_any (.slice a5 K.length c5) (.slice a6 K.length c6) K K w6 (H6.out.om (i := 3) rfl).rm (H6.out.om (i := 4) rfl).rm (by have := HKL.out; omega) (by have := HKL.out; omega))
          rw [decide_eq_true (rfl : K = K)] at HC3
          clear HC2 H5
          go_wp2_with fail
          refine HC3.out.mono ?_
          rintro r w7 ⟨rfl, b7⟩
          have H7 := hide (PH.drop (ex := [BCp xb _ _, BCp _ _ _, BCp _ _ _, OCp _ _ _]) (ds := [OCp _ _ _]) (H6.out.later b7))
          obtain ⟨it0, hit, hz0, hz1, hz2⟩ := info_parts Try.infoMS
          have HO := hide H7.out.tl.row
          have HBS : Hid (w.heap.size ≤ w7.heap.size) := hide H7.out.bl.size
          have HTB : Hid (TL.length + 1 ≤ 4398046510977) := hide (by have := HTL.out; have := HLT.out; have := HL.out; omega)
          obtain ⟨cs, hcs⟩ : ∃ cs, TL.map (·.1) = cs := ⟨_, rfl⟩
          rw [hcs] at HO
          have HCS := hide hcs
          clear HC3 H6 b7 hcs
          go_wp2_with (first
            | (at_builtin; refine wpList_append_own_at _ rfl _ _ 33 rfl w.heap.size 29 it0 (.slice none 0 0) 1 24 Try.underlying33 hit hz0 hz1 hz2 rfl (by decide) _ _ _ rfl (HO.out.alloc _) ⟨_, 0, none⟩ 1 1 [.slice a5 K.length c5] rfl rfl ?c1 ?c2 ?c3 ?c4 ?c5 ?_))
          case c3 => have := HTB.out; unfold maxLen; omega
          case c4 => have := HTB.out; omega
          case c5 => have := HBS.out; simp; omega
          case c1 => first | exact cell_one_new _ _ _ | exact fun j u hj => by rw [Addr.add_lit, cell_of_row _ _ _ _ _ _ (alloc_new w7 _), Nat.zero_add]; simpa using hj
          case c2 => first | rfl | exact ⟨rfl, trivial⟩ | (intro u hu; simp at hu; subst hu; rfl)
          intro v8 w8 hown8 hgrow8 _ hat8
          rw [← HCS.out] at hown8
          have H8 := hide (PH.tell (ex := [BCp xb _ _, BCp _ _ _, BCp _ _ _]) (H7.out.later ((Below.refl _ _).alloc (Nat.le_refl _) _)) hown8 hgrow8 (hat8.imp_right (fun e => by rw [e]; simp)) (by have := HKL.out; omega))
          obtain ⟨a8, c8, hv8⟩ := H8.out.tl.slc
          subst hv8
          obtain ⟨g0, g1⟩ := pair_cells (H8.out.bx (i := 1) rfl) rfl
          obtain ⟨g2, g3⟩ := pair_cells (H8.out.bx (i := 2) rfl) rfl
          have HZ := hide (H8.out.bare)
          obtain ⟨n8, hn8⟩ : ∃ n8, (TL ++ [(Value.slice a5 K.length c5, K)]).length = n8 := ⟨_, rfl⟩
          rw [hn8] at HZ ⊢
          have HN8 : Hid (n8 ≤ k + 1) := hide (by rw [← hn8]; have := HTL.out; simp; omega)
          have HN9 := hide hn8
          clear hown8 hgrow8 hat8 HO H7 H8 hn8 hit hz0 hz1 hz2 HBS
          go_wp2_with fail
          go_roundw
          case rel => exact ⟨k + 1, _, _, _, _, _, HLT.out, congrArg (Value.int .i64) wk, HZ, hide (fun g => Nat.le_succ_of_le (HNK.out g)), hide (by rw [HN9.out]; exact HN8.out)⟩
          case measure => first | exact meas_upP HLT.out | (rw [wk]; exact meas_upP HLT.out)
    · skip
      as_aux_lemma =>
        have e : k = L.length := by omega
        subst e
        have HRS : Hid (∀ f, Rs 0 (R f) ∧ (R f).length ≤ N f) := hide (fun f => ⟨(HP.out.hq f).rs, (HP.out.hq f).len⟩)
        have HNB : Hid (∀ f, N f ≤ 4398046510976) := hide (fun f => by have := HNK.out f; have := HL.out; omega)
        obtain ⟨K0, hK0⟩ : ∃ K, srt (kB false) (R false).length (R false) = K := ⟨_, rfl⟩
        obtain ⟨K1, hK1⟩ : ∃ K, srt (kB true) (R true).length (R true) = K := ⟨_, rfl⟩
        have HK0 := hide hK0
        have HK1 := hide hK1
        have HL0 : Hid (K0.length ≤ 4398046510976) := hide (by rw [← hK0, srt_len _ _ rfl]; have := (HRS.out false).2; have := HNB.out false; omega)
        have HL1 : Hid (K1.length ≤ 4398046510976) := hide (by rw [← hK1, srt_len _ _ rfl]; have := (HRS.out true).2; have := HNB.out true; omega)
        clear hK0 hK1 hk hlt
        have HSd : Hid (PH w wr.drew (cn w.heap.size w1.heap.size w2.heap.size) vh R N vr R (.slice ta TL.length tc) TL []) := hide (HP.out.later ((Below.refl wr.heap.size wr).drew))
        have HQ0 : Hid (∀ (W : World) (ex : List Cp), PH w W (cn w.heap.size w1.heap.size w2.heap.size) vh R N vr R (.slice ta TL.length tc) TL ex → Calls Try.prog 20 #[.pointer (some ⟨w2.heap.size + 1, 0, none⟩)] W fun e w' => ∃ a cap, e = .returned (.slice a K0.length cap) ∧ Hid (PH w w' (cn w.heap.size w1.heap.size w2.heap.size) vh R N vr R (.slice ta TL.length tc) TL (ex ++ [OCp w.heap.size (.slice a K0.length cap) K0]))) := hide (fun W ex h => h.rsort false (HRS.out false).1 (by have := (HRS.out false).2; have := HNB.out false; omega) HK0.out)
        have HQ1 : Hid (∀ (W : World) (ex : List Cp), PH w W (cn w.heap.size w1.heap.size w2.heap.size) vh R N vr R (.slice ta TL.length tc) TL ex → Calls Try.prog 20 #[.pointer (some ⟨w2.heap.size + 1 + 1, 0, none⟩)] W fun e w' => ∃ a cap, e = .returned (.slice a K1.length cap) ∧ Hid (PH w w' (cn w.heap.size w1.heap.size w2.heap.size) vh R N vr R (.slice ta TL.length tc) TL (ex ++ [OCp w.heap.size (.slice a K1.length cap) K1]))) := hide (fun W ex h => h.rsort true (HRS.out true).1 (by have := (HRS.out true).2; have := HNB.out true; omega) HK1.out)
        have HX : Hid (∀ (W : World) (ex : List Cp), PH w W (cn w.heap.size w1.heap.size w2.heap.size) vh R N vr R (.slice ta TL.length tc) TL ex → W.cell? ⟨w2.heap.size + 1 + 1 + 1, 0, none⟩ = some (.pointer (some ⟨w2.heap.size + 1, 0, none⟩)) ∧ W.cell? ⟨w2.heap.size + 1 + 1 + 1, 1, none⟩ = some (.pointer (some ⟨w2.heap.size + 1 + 1, 0, none⟩))) := hide (fun W ex h => ⟨h.rxf false, h.rxf true⟩)
        have HS0 : Hid (∀ (W : World) (ex : List Cp), PH w W (cn w.heap.size w1.heap.size w2.heap.size) vh R N vr R (.slice ta TL.length tc) TL ex → Calls Try.prog 18 #[.pointer (some ⟨w.heap.size + 1, 0, none⟩)] W fun e w' => ∃ a cap, e = .returned (.slice a K0.length cap) ∧ Hid (PH w w' (cn w.heap.size w1.heap.size w2.heap.size) vh R N vr R (.slice ta TL.length tc) TL (ex ++ [OCp w.heap.size (.slice a K0.length cap) K0]))) := hide (fun W ex h => h.sort false (by have := HNB.out false; omega) HK0.out)
        have HS1 : Hid (∀ (W : World) (ex : List Cp), PH w W (cn w.heap.size w1.heap.size w2.heap.size) vh R N vr R (.slice ta TL.length tc) TL ex → Calls Try.prog 18 #[.pointer (some ⟨w1.heap.size + 1, 0, none⟩)] W fun e w' => ∃ a cap, e = .returned (.slice a K1.length cap) ∧ Hid (PH w w' (cn w.heap.size w1.heap.size w2.heap.size) vh R N vr R (.slice ta TL.length tc) TL (ex ++ [OCp w.heap.size (.slice a K1.length cap) K1]))) := hide (fun W ex h => h.sort true (by have := HNB.out true; omega) HK1.out)
        have HXH : Hid (∀ (W : World) (ex : List Cp), PH w W (cn w.heap.size w1.heap.size w2.heap.size) vh R N vr R (.slice ta TL.length tc) TL ex → W.cell? ⟨w2.heap.size, 0, none⟩ = some (.pointer (some ⟨w.heap.size + 1, 0, none⟩)) ∧ W.cell? ⟨w2.heap.size, 1, none⟩ = some (.pointer (some ⟨w1.heap.size + 1, 0, none⟩))) := hide (fun W ex h => ⟨h.hxf false, h.hxf true⟩)
        go_upto_region 36 with fail
        go_cut [17] (fun o wx => ∃ (lb : Nat) (a0 a1 : Option Addr) (d0 d1 : Nat) (ex : List Cp) (i j m : Nat), o = .pointer (some ⟨lb, 0, none⟩) ∧ Hid (PH w wx (cn w.heap.size w1.heap.size w2.heap.size) vh R N vr R (.slice ta TL.length tc) TL ex) ∧ Hid (ex[i]? = some (BCp lb #[.slice a0 K0.length d0, .slice a1 K1.length d1] 46)) ∧ Hid (ex[j]? = some (OCp w.heap.size (.slice a0 K0.length d0) K0)) ∧ Hid (ex[m]? = some (OCp w.heap.size (.slice a1 K1.length d1) K1)))
        case first =>
          refine z_begins (S := (fun W : World => W.cell? ⟨w2.heap.size + 1 + 1 + 1, 0, none⟩ = some (.pointer (some ⟨w2.heap.size + 1, 0, none⟩)) ∧ W.cell? ⟨w2.heap.size + 1 + 1 + 1, 1, none⟩ = some (.pointer (some ⟨w2.heap.size + 1 + 1, 0, none⟩)))) 8 9 #[false, false, false, false, false, false, false, false, false] (by kernel_rfl) (by kernel_rfl) (by kernel_rfl) (HX.out _ _ HSd.out) (fun hHeld => ?_)
          refine zk (v := ?_) 0 139 #[true, false, false, false, false, false, false, false, false] rfl rfl (by kernel_rfl) (by kernel_rfl) (by kernel_rfl) (by kernel_rfl) (fun _ _ _ h => h) (by kernel_rfl) (by rfl) ?hy hHeld ?_
          case hy => intro W _; first | (go_simp; done) | (go_simp; with_reducible rfl)
          simp only [List.setIfInBounds_toArray, List.set_cons_zero, List.set_cons_succ]
          refine zk (v := ?_) 1 140 #[true, true, false, false, false, false, false, false, false] rfl rfl (by kernel_rfl) (by kernel_rfl) (by kernel_rfl) (by kernel_rfl) (fun _ _ _ h => h) (by kernel_rfl) (by rfl) ?hy hHeld ?_
          case hy => rintro W ⟨hr0, hr1⟩; first | (go_simp; done) | (go_simp; with_reducible rfl)
          simp only [List.setIfInBounds_toArray, List.set_cons_zero, List.set_cons_succ]
          refine zk (v := ?_) 3 142 #[true, true, false, true, false, false, false, false, false] rfl rfl (by kernel_rfl) (by kernel_rfl) (by kernel_rfl) (by kernel_rfl) (fun _ _ _ h => h) (by kernel_rfl) (by rfl) ?hy hHeld ?_
          case hy => intro W _; first | (go_simp; done) | (go_simp; with_reducible rfl)
          simp only [List.setIfInBounds_toArray, List.set_cons_zero, List.set_cons_succ]
          refine zk (v := ?_) 4 143 #[true, true, false, true, true, false, false, false, false] rfl rfl (by kernel_rfl) (by kernel_rfl) (by kernel_rfl) (by kernel_rfl) (fun _ _ _ h => h) (by kernel_rfl) (by rfl) ?hy hHeld ?_
          case hy => rintro W ⟨hr0, hr1⟩; first | (go_simp; done) | (go_simp; with_reducible rfl)
          simp only [List.setIfInBounds_toArray, List.set_cons_zero, List.set_cons_succ]
          refine z_two 2 7 #[true, true, true, true, true, false, false, false, false] #[true, true, false, true, true, false, false, true, false] rfl rfl (by kernel_rfl) (by kernel_rfl) (by kernel_rfl) (by rfl) (by rfl) (fun K hK => ?_) (fun K hK => ?_)
          · skip
            refine op_call_fn 20 #[.pointer (some ⟨w2.heap.size + 1, 0, none⟩)] (by kernel_rfl) ?_
            refine (HQ0.out _ _ HSd.out).mono ?_
            rintro e w5 ⟨a5, c5, rfl, H5⟩
            refine ⟨_, rfl, ?_⟩
            go_simp
            refine hK.out _ _ (fun _ => HX.out _ _ H5.out) (fun hHeld => ?_)
            replace hHeld := hHeld (by decide)
            clear hK K
            refine z_two 5 7 #[true, true, true, true, true, true, false, false, false] #[true, true, true, true, true, false, false, true, false] rfl rfl (by kernel_rfl) (by kernel_rfl) (by kernel_rfl) (by rfl) (by rfl) (fun K hK => ?_) (fun K hK => ?_)
            · skip
              refine op_call_fn 20 #[.pointer (some ⟨w2.heap.size + 1 + 1, 0, none⟩)] (by kernel_rfl) ?_
              refine (HQ1.out _ _ H5.out).mono ?_
              rintro e w6 ⟨a6, c6, rfl, H6⟩
              refine ⟨_, rfl, ?_⟩
              go_simp
              refine hK.out _ _ (fun _ => HX.out _ _ H6.out) (fun hHeld => ?_)
              replace hHeld := hHeld (by decide)
              clear hK K
              refine zk (v := ?_) 6 145 #[true, true, true, true, true, true, true, false, false] rfl rfl (by kernel_rfl) (by kernel_rfl) (by kernel_rfl) (by kernel_rfl) (fun _ _ _ h => h) (by kernel_rfl) (by rfl) ?hy hHeld ?_
              case hy => intro W _; first | (go_simp; done) | (go_simp; with_reducible rfl)
              simp only [List.setIfInBounds_toArray, List.set_cons_zero, List.set_cons_succ]
              refine z_ready 7 #[true, true, true, true, true, true, true, true, false] rfl (by kernel_rfl) (by kernel_rfl) (by rfl) (fun K hK => ?_)
              have H7 := hide (H6.out.box #[nilV, nilV] 46)
              go_simp
              refine hK.out _ _ (fun _ => HX.out _ _ H7.out) (fun hHeld => ?_)
              replace hHeld := hHeld (by decide)
              clear hK K
              refine z_ready 8 #[true, true, true, true, true, true, true, true, true] rfl (by kernel_rfl) (by kernel_rfl) (by rfl) (fun K hK => ?_)
              refine wp_store_row0 46 _ _ rfl rfl w6.heap.size #[.slice a5 K0.length c5, .slice a6 K1.length c6] rfl rfl _ _ (H7.out.bx (i := 2) rfl) Try.size46 rfl (by simp [Value.oneCell']) ?_
              refine hK.out _ _ (fun h => absurd rfl h) (fun _ => ?_)
              clear hK K
              refine z_done (by kernel_rfl) ?_ _
              go_wp2_with fail
              go_meet
              exact ⟨_, a5, a6, c5, c6, _, 2, 0, 1, rfl, hide (H7.out.setB (i := 2) rfl _), hide rfl, hide rfl, hide rfl⟩
            · skip
              have H6 := hide (H5.out.box #[nilV, nilV] 46)
              go_simp
              refine hK.out _ _ (fun _ => HX.out _ _ H6.out) (fun hHeld => ?_)
              replace hHeld := hHeld (by decide)
              clear hK K
              refine z_ready 5 #[true, true, true, true, true, true, false, true, false] rfl (by kernel_rfl) (by kernel_rfl) (by rfl) (fun K hK => ?_)
              refine op_call_fn 20 #[.pointer (some ⟨w2.heap.size + 1 + 1, 0, none⟩)] (by kernel_rfl) ?_
              refine (HQ1.out _ _ H6.out).mono ?_
              rintro e w6 ⟨a6, c6, rfl, H7⟩
              refine ⟨_, rfl, ?_⟩
              go_simp
              refine hK.out _ _ (fun _ => HX.out _ _ H7.out) (fun hHeld => ?_)
              replace hHeld := hHeld (by decide)
              clear hK K
              refine zk (v := ?_) 6 145 #[true, true, true, true, true, true, true, true, false] rfl rfl (by kernel_rfl) (by kernel_rfl) (by kernel_rfl) (by kernel_rfl) (fun _ _ _ h => h) (by kernel_rfl) (by rfl) ?hy hHeld ?_
              case hy => intro W _; first | (go_simp; done) | (go_simp; with_reducible rfl)
              simp only [List.setIfInBounds_toArray, List.set_cons_zero, List.set_cons_succ]
              refine z_ready 8 #[true, true, true, true, true, true, true, true, true] rfl (by kernel_rfl) (by kernel_rfl) (by rfl) (fun K hK => ?_)
              refine wp_store_row0 46 _ _ rfl rfl (w5.heap.size) #[.slice a5 K0.length c5, .slice a6 K1.length c6] rfl rfl _ _ (H7.out.bx (i := 1) rfl) Try.size46 rfl (by simp [Value.oneCell']) ?_
              refine hK.out _ _ (fun h => absurd rfl h) (fun _ => ?_)
              clear hK K
              refine z_done (by kernel_rfl) ?_ _
              go_wp2_with fail
              go_meet
              exact ⟨_, a5, a6, c5, c6, _, 1, 0, 2, rfl, hide (H7.out.setB (i := 1) rfl _), hide rfl, hide rfl, hide rfl⟩
          · skip
            have H5 := hide (HSd.out.box #[nilV, nilV] 46)
            go_simp
            refine hK.out _ _ (fun _ => HX.out _ _ H5.out) (fun hHeld => ?_)
            replace hHeld := hHeld (by decide)
            clear hK K
            refine z_ready 2 #[true, true, true, true, true, false, false, true, false] rfl (by kernel_rfl) (by kernel_rfl) (by rfl) (fun K hK => ?_)
            refine op_call_fn 20 #[.pointer (some ⟨w2.heap.size + 1, 0, none⟩)] (by kernel_rfl) ?_
            refine (HQ0.out _ _ H5.out).mono ?_
            rintro e w5 ⟨a5, c5, rfl, H6⟩
            refine ⟨_, rfl, ?_⟩
            go_simp
            refine hK.out _ _ (fun _ => HX.out _ _ H6.out) (fun hHeld => ?_)
            replace hHeld := hHeld (by decide)
            clear hK K
            refine z_ready 5 #[true, true, true, true, true, true, false, true, false] rfl (by kernel_rfl) (by kernel_rfl) (by rfl) (fun K hK => ?_)
            refine op_call_fn 20 #[.pointer (some ⟨w2.heap.size + 1 + 1, 0, none⟩)] (by kernel_rfl) ?_
            refine (HQ1.out _ _ H6.out).mono ?_
            rintro e w6 ⟨a6, c6, rfl, H7⟩
            refine ⟨_, rfl, ?_⟩
            go_simp
            refine hK.out _ _ (fun _ => HX.out _ _ H7.out) (fun hHeld => ?_)
            replace hHeld := hHeld (by decide)
            clear hK K
            refine zk (v := ?_) 6 145 #[true, true, true, true, true, true, true, true, false] rfl rfl (by kernel_rfl) (by kernel_rfl) (by kernel_rfl) (by kernel_rfl) (fun _ _ _ h => h) (by kernel_rfl) (by rfl) ?hy hHeld ?_
            case hy => intro W _; first | (go_simp; done) | (go_simp; with_reducible rfl)
            simp only [List.setIfInBounds_toArray, List.set_cons_zero, List.set_cons_succ]
            refine z_ready 8 #[true, true, true, true, true, true, true, true, true] rfl (by kernel_rfl) (by kernel_rfl) (by rfl) (fun K hK => ?_)
            refine wp_store_row0 46 _ _ rfl rfl (wr.heap.size) #[.slice a5 K0.length c5, .slice a6 K1.length c6] rfl rfl _ _ (H7.out.bx (i := 0) rfl) Try.size46 rfl (by simp [Value.oneCell']) ?_
            refine hK.out _ _ (fun h => absurd rfl h) (fun _ => ?_)
            clear hK K
            refine z_done (by kernel_rfl) ?_ _
            go_wp2_with fail
            go_meet
            exact ⟨_, a5, a6, c5, c6, _, 0, 1, 2, rfl, hide (H7.out.setB (i := 0) rfl _), hide rfl, hide rfl, hide rfl⟩
        case rest =>
          obtain ⟨lb, a0, a1, d0, d1, ex, i, j, m, rfl, HE, HI, HJ, HM⟩ := hcut
          clear HSd HQ0 HQ1 HX HP
          generalize wc = W5 at HE ⊢
          have HEd : Hid (PH w W5.drew (cn w.heap.size w1.heap.size w2.heap.size) vh R N vr R (.slice ta TL.length tc) TL ex) := hide (HE.out.later ((Below.refl W5.heap.size W5).drew))
          have HTB : Hid (TL.length + 2 ≤ 4398046510978) := hide (by have := HTL.out; have := HL.out; omega)
          go_wp2_with fail
          refine z_begins (S := (fun W : World => W.cell? ⟨w2.heap.size, 0, none⟩ = some (.pointer (some ⟨w.heap.size + 1, 0, none⟩)) ∧ W.cell? ⟨w2.heap.size, 1, none⟩ = some (.pointer (some ⟨w1.heap.size + 1, 0, none⟩)))) 9 10 #[false, false, false, false, false, false, false, false, false, false] (by kernel_rfl) (by kernel_rfl) (by kernel_rfl) (HXH.out _ _ HEd.out) (fun hHeld => ?_)
          refine zk (v := ?_) 0 146 #[true, false, false, false, false, false, false, false, false, false] rfl rfl (by kernel_rfl) (by kernel_rfl) (by kernel_rfl) (by kernel_rfl) (fun _ _ _ h => h) (by kernel_rfl) (by rfl) ?hy hHeld ?_
          case hy => intro W _; first | (go_simp; done) | (go_simp; with_reducible rfl)
          simp only [List.setIfInBounds_toArray, List.set_cons_zero, List.set_cons_succ]
          refine zk (v := ?_) 1 147 #[true, true, false, false, false, false, false, false, false, false] rfl rfl (by kernel_rfl) (by kernel_rfl) (by kernel_rfl) (by kernel_rfl) (fun _ _ _ h => h) (by kernel_rfl) (by rfl) ?hy hHeld ?_
          case hy => intro W _; first | (go_simp; done) | (go_simp; with_reducible rfl)
          simp only [List.setIfInBounds_toArray, List.set_cons_zero, List.set_cons_succ]
          refine zk (v := ?_) 2 148 #[true, true, true, false, false, false, false, false, false, false] rfl rfl (by kernel_rfl) (by kernel_rfl) (by kernel_rfl) (by kernel_rfl) (fun _ _ _ h => h) (by kernel_rfl) (by rfl) ?hy hHeld ?_
          case hy => rintro W ⟨hr0, hr1⟩; first | (go_simp; done) | (go_simp; with_reducible rfl)
          simp only [List.setIfInBounds_toArray, List.set_cons_zero, List.set_cons_succ]
          refine zk (v := ?_) 4 150 #[true, true, true, false, true, false, false, false, false, false] rfl rfl (by kernel_rfl) (by kernel_rfl) (by kernel_rfl) (by kernel_rfl) (fun _ _ _ h => h) (by kernel_rfl) (by rfl) ?hy hHeld ?_
          case hy => intro W _; first | (go_simp; done) | (go_simp; with_reducible rfl)
          simp only [List.setIfInBounds_toArray, List.set_cons_zero, List.set_cons_succ]
          refine zk (v := ?_) 5 151 #[true, true, true, false, true, true, false, false, false, false] rfl rfl (by kernel_rfl) (by kernel_rfl) (by kernel_rfl) (by kernel_rfl) (fun _ _ _ h => h) (by kernel_rfl) (by rfl) ?hy hHeld ?_
          case hy => rintro W ⟨hr0, hr1⟩; first | (go_simp; done) | (go_simp; with_reducible rfl)
          simp only [List.setIfInBounds_toArray, List.set_cons_zero, List.set_cons_succ]
          refine z_ready 3 #[true, true, true, true, true, true, false, false, false, false] rfl (by kernel_rfl) (by kernel_rfl) (by rfl) (fun K hK => ?_)
          refine op_call_fn 18 #[.pointer (some ⟨w.heap.size + 1, 0, none⟩)] (by kernel_rfl) ?_
          refine (HS0.out _ _ HEd.out).mono ?_
          rintro e w5 ⟨a5, c5, rfl, H5⟩
          refine ⟨_, rfl, ?_⟩
          go_simp
          refine hK.out _ _ (fun _ => HXH.out _ _ H5.out) (fun hHeld => ?_)
          replace hHeld := hHeld (by decide)
          clear hK K
          refine z_ready 6 #[true, true, true, true, true, true, true, false, false, false] rfl (by kernel_rfl) (by kernel_rfl) (by rfl) (fun K hK => ?_)
          refine op_call_fn 18 #[.pointer (some ⟨w1.heap.size + 1, 0, none⟩)] (by kernel_rfl) ?_
          refine (HS1.out _ _ H5.out).mono ?_
          rintro e w6 ⟨a6, c6, rfl, H6⟩
          refine ⟨_, rfl, ?_⟩
          go_simp
          refine hK.out _ _ (fun _ => HXH.out _ _ H6.out) (fun hHeld => ?_)
          replace hHeld := hHeld (by decide)
          clear hK K
          have H7 : Hid (PH w (w6.alloc (.cells #[(.slice a5 K0.length c5), (.slice a6 K1.length c6)] 29)) (cn w.heap.size w1.heap.size w2.heap.size) vh R N vr R (.slice ta TL.length tc) TL (ex ++ [OCp w.heap.size (.slice a5 K0.length c5) K0, OCp w.heap.size (.slice a6 K1.length c6) K1])) := hide (by have h := H6.out.later ((Below.refl w6.heap.size w6).alloc (Nat.le_refl _) (.cells #[(.slice a5 K0.length c5), (.slice a6 K1.length c6)] 29)); rw [List.append_assoc] at h; exact h)
          refine z_ready 7 #[true, true, true, true, true, true, true, true, false, false] rfl (by kernel_rfl) (by kernel_rfl) (by rfl) (fun K hK => ?_)
          go_simp
          refine hK.out _ _ (fun _ => HXH.out _ _ H7.out) (fun hHeld => ?_)
          replace hHeld := hHeld (by decide)
          clear hK K
          obtain ⟨it0, hit, hz0, hz1, hz2⟩ := info_parts Try.infoMS
          obtain ⟨v8, w8, hrun, ho8, hg8, _, hat8⟩ := run_append_own_at (P := Try.prog) (w6.alloc (.cells #[(.slice a5 K0.length c5), (.slice a6 K1.length c6)] 29)) w.heap.size 33 33 29 it0 (.slice none 0 0) 1 24 Try.underlying33 hit hz0 hz1 hz2 rfl (by decide) (.slice ta TL.length tc) TL.length (TL.map (·.1)) H7.out.tl.row ⟨w6.heap.size, 0, none⟩ 2 2 [(.slice a5 K0.length c5), (.slice a6 K1.length c6)] rfl (by
            obtain ⟨k0, k1⟩ := pair_cells (alloc_new w6 (.cells #[(.slice a5 K0.length c5), (.slice a6 K1.length c6)] 29)) rfl
            intro j u hj
            match j, hj with
            | 0, hj => have e : _ = u := Option.some.inj hj; rw [← e]; exact k0
            | 1, hj => have e : _ = u := Option.some.inj hj; rw [← e]; exact k1
            | j + 2, hj => simp at hj) (by intro u hu; simp at hu; rcases hu with rfl | rfl <;> rfl) (by have := HTB.out; unfold maxLen; omega) (by have := HTB.out; omega) (by have := H7.out.bl.size; exact this)
          have H8 := hide (H7.out.tell2 ho8 hg8 hat8 (by have := HL0.out; omega) (by have := HL1.out; omega))
          obtain ⟨a8, c8, hv8⟩ := H8.out.tl.slc
          subst hv8
          have HRUN := hide hrun
          have H8x : Hid (w8.cell? ⟨w2.heap.size, 0, none⟩ = some (.pointer (some ⟨w.heap.size + 1, 0, none⟩)) ∧ w8.cell? ⟨w2.heap.size, 1, none⟩ = some (.pointer (some ⟨w1.heap.size + 1, 0, none⟩))) := hide ⟨H8.out.hxf false, H8.out.hxf true⟩
          have hn8 : (TL ++ [((Value.slice a5 K0.length c5 : Value), K0), ((Value.slice a6 K1.length c6 : Value), K1)]).length = TL.length + 2 := by simp
          rw [hn8] at HRUN H8
          obtain ⟨tg, hta⟩ : ∃ tg, a8 = some ⟨tg, 0, none⟩ := by
            rcases H8.out.tl.row.2 with ⟨h1, _⟩ | ⟨g, cap, cur, h1, _⟩
            · injection h1 with _ h1 _; omega
            · injection h1 with h1 _ _; exact ⟨g, h1⟩
          subst hta
          clear hrun ho8 hg8 hat8 hn8 H7 H6 H5 HEd hit hz0 hz1 hz2
          refine z_ready 8 #[true, true, true, true, true, true, true, true, true, false] rfl (by kernel_rfl) (by kernel_rfl) (by rfl) (fun K hK => ?_)
          refine op_append_gen _ _ rfl _ ⟨w6.heap.size, 0, none⟩ 2 2 rfl rfl _ w8 HRUN.out ?_
          simp only [Act.put, List.setIfInBounds_toArray]
          refine hK.out _ _ (fun _ => H8x.out) (fun hHeld => ?_)
          clear hK K hHeld
          refine z_ready 9 #[true, true, true, true, true, true, true, true, true, true] rfl (by kernel_rfl) (by kernel_rfl) (by rfl) (fun K hK => ?_)
          go_simp
          refine hK.out _ _ (fun h => absurd rfl h) (fun _ => ?_)
          clear hK K
          refine z_done (by kernel_rfl) ?_ _
          have HR2 := hide H8.out.tl.row
          have HT8 : Hid (w8.cell? ⟨tg, TL.length, none⟩ = some (.slice a5 K0.length c5) ∧ w8.cell? ⟨tg, TL.length + 1, none⟩ = some (.slice a6 K1.length c6)) := hide (by
            have h := HR2.out
            rw [List.length_append, List.map_append] at h
            exact ⟨(h.cellAt TL.length (by simp)).trans (by rw [List.getElem?_append_right (by simp)]; simp), (h.cellAt (TL.length + 1) (by simp)).trans (by rw [List.getElem?_append_right (by simp)]; simp)⟩)
          obtain ⟨l0, l1⟩ := pair_cells (H8.out.bx HI.out) rfl
          obtain ⟨t0, t1⟩ := HT8.out
          have HO5 : Hid (OM w8 w.heap.size (.slice a5 K0.length c5) K0) := hide (H8.out.tl.own ((.slice a5 K0.length c5), K0) (by simp))
          have HO6 : Hid (OM w8 w.heap.size (.slice a6 K1.length c6) K1) := hide (H8.out.tl.own ((.slice a6 K1.length c6), K1) (by simp))
          have HP0 := hide (H8.out.om HJ.out)
          have HP1 := hide (H8.out.om HM.out)
          have HM0 : Hid (∀ W, Below w8.heap.size w8 W → Calls Try.prog 19 #[(.slice a5 K0.length c5), .slice a0 K0.length d0] W fun e w' => e = .returned (.bool true) ∧ Below W.heap.size W w') := hide (fun W hb => by have h := sameM_any (.slice a5 K0.length c5) (.slice a0 K0.length d0) K0 K0 W (OM.rm (owns_lat HO5.out hb)) (OM.rm (owns_lat HP0.out hb)) (by have := HL0.out; omega) (by have := HL0.out; omega); rw [decide_eq_true (rfl : K0 = K0)] at h; exact h)
          have HM1 : Hid (∀ W, Below w8.heap.size w8 W → Calls Try.prog 19 #[(.slice a6 K1.length c6), .slice a1 K1.length d1] W fun e w' => e = .returned (.bool true) ∧ Below W.heap.size W w') := hide (fun W hb => by have h := sameM_any (.slice a6 K1.length c6) (.slice a1 K1.length d1) K1 K1 W (OM.rm (owns_lat HO6.out hb)) (OM.rm (owns_lat HP1.out hb)) (by have := HL1.out; omega) (by have := HL1.out; omega); rw [decide_eq_true (rfl : K1 = K1)] at h; exact h)
          have HAP : Hid (∀ W, Below w8.heap.size w8 W → Calls Try.prog 21 #[.slice (some ⟨tg, 0, none⟩) (TL.length + 2) c8] W fun e w' => e = .returned (.bool true) ∧ Hid (FE w w' (cn w.heap.size w1.heap.size w2.heap.size) vh R N lb (.slice a0 K0.length d0) (.slice a1 K1.length d1) K0 K1) ∧ w'.cell? ⟨tg, TL.length, none⟩ = some (.slice a5 K0.length c5) ∧ w'.cell? ⟨tg, TL.length + 1, none⟩ = some (.slice a6 K1.length c6)) := hide (fun W hb => by
            have htg := (World.ownsRow.lt HR2.out tg rfl).2
            have w0' : W.cell? ⟨tg, TL.length, none⟩ = some _ := (hb.cell (p := ⟨tg, TL.length, none⟩) htg).trans HT8.out.1
            have w1' : W.cell? ⟨tg, TL.length + 1, none⟩ = some _ := (hb.cell (p := ⟨tg, TL.length + 1, none⟩) htg).trans HT8.out.2
            have hh := H8.out.later hb
            have hn : TL.length + 2 = (TL ++ [((Value.slice a5 K0.length c5 : Value), K0), ((Value.slice a6 K1.length c6 : Value), K1)]).length := by simp
            have ht := hh.tl
            have hc : TL.length + 2 ≤ c8 := by
              rcases HR2.out.2 with ⟨h1, _⟩ | ⟨g, cap, cur, h1, _, _, h2, _⟩
              · cases h1
              · injection h1 with _ e1 e2; omega
            rw [hn] at hh ht ⊢
            refine (apartMarks_sp w.heap.size tg (TL ++ [((Value.slice a5 K0.length c5 : Value), K0), ((Value.slice a6 K1.length c6 : Value), K1)]).length c8 (avO (TL ++ [((Value.slice a5 K0.length c5 : Value), K0), ((Value.slice a6 K1.length c6 : Value), K1)])) (avN (TL ++ [((Value.slice a5 K0.length c5 : Value), K0), ((Value.slice a6 K1.length c6 : Value), K1)])) (avC (TL ++ [((Value.slice a5 K0.length c5 : Value), K0), ((Value.slice a6 K1.length c6 : Value), K1)])) (avR (TL ++ [((Value.slice a5 K0.length c5 : Value), K0), ((Value.slice a6 K1.length c6 : Value), K1)])) W ht.all (avN_le ht) (by rw [← hn]; have := HTB.out; omega) (by rw [← hn]; exact hc) hh.bl.size).mono ?_
            rintro e w' ⟨rfl, hs⟩
            have hblk := hs.block tg (Nat.lt_of_lt_of_le htg hb.size) (fun k hk => ht.all.notL k hk)
            have hcell : ∀ o, w'.cell? ⟨tg, o, none⟩ = W.cell? ⟨tg, o, none⟩ := fun o => by simp only [World.cell?, hblk]
            exact ⟨rfl, hide (FE.of hh hs HI.out HJ.out HM.out), (hcell _).trans w0', (hcell _).trans w1'⟩)
          have HBd := hide ((Below.refl w8.heap.size w8).drew)
          have HTG : Hid (∀ W, Below w8.heap.size w8 W → W.cell? ⟨tg, TL.length, none⟩ = some (.slice a5 K0.length c5) ∧ W.cell? ⟨tg, TL.length + 1, none⟩ = some (.slice a6 K1.length c6) ∧ W.cell? ⟨lb, 0, none⟩ = some (.slice a0 K0.length d0) ∧ W.cell? ⟨lb, 1, none⟩ = some (.slice a1 K1.length d1)) := hide (fun W hb => ⟨(hb.cell (p := ⟨tg, _, none⟩) (World.ownsRow.lt HR2.out tg rfl).2).trans HT8.out.1, (hb.cell (p := ⟨tg, _, none⟩) (World.ownsRow.lt HR2.out tg rfl).2).trans HT8.out.2, (hb.cell (p := ⟨lb, _, none⟩) (Array.getElem?_eq_some_iff.1 (H8.out.bx HI.out)).1).trans (pair_cells (H8.out.bx HI.out) rfl).1, (hb.cell (p := ⟨lb, _, none⟩) (Array.getElem?_eq_some_iff.1 (H8.out.bx HI.out)).1).trans (pair_cells (H8.out.bx HI.out) rfl).2⟩)
          obtain ⟨n8, hn8⟩ : ∃ n8, TL.length + 2 = n8 := ⟨_, rfl⟩
          obtain ⟨t6, ht6⟩ : ∃ t6, TL.length + 1 = t6 := ⟨_, rfl⟩
          obtain ⟨t5, ht5⟩ : ∃ t5, TL.length = t5 := ⟨_, rfl⟩
          obtain ⟨m1, m2, m3, m4, m5, m6⟩ := end_numsL (t5 := TL.length) ht6 hn8 (by have := HTB.out; omega)
          rw [ht5] at m1 m3 m4
          rw [hn8] at HAP ⊢
          rw [ht6] at t1 HTG HAP
          rw [ht5] at t0 HTG HAP
          have m1' : IntKind.i64.wrap ((n8 : Int) - 2) = (t5 : Int) := (wrapEqP _).trans m1
          have m2' : IntKind.i64.wrap ((n8 : Int) - 1) = (t6 : Int) := (wrapEqP _).trans m2
          clear H8 HT8 HE HS0 HS1 HXH H8x HRUN HO5 HO6 HP0 HP1 HI HJ HM HR2 hn8 ht6 ht5
          go_wp2_with fail
          have zd := HTG.out w8.drew HBd.out
          obtain ⟨z0, z1, z2, z3⟩ := zd
          go_region_held3 (fun W => W.cell? ⟨tg, t5, none⟩ = some (.slice a5 K0.length c5) ∧ W.cell? ⟨tg, t6, none⟩ = some (.slice a6 K1.length c6) ∧ W.cell? ⟨lb, 0, none⟩ = some (.slice a0 K0.length d0) ∧ W.cell? ⟨lb, 1, none⟩ = some (.slice a1 K1.length d1)) (go_keep) (first
            | (go_at_call_of 19 a5; refine (HM0.out _ HBd.out).mono ?_; rintro r w9 ⟨rfl, b9⟩; have HB9 := hide (HBd.out.trans (b9.mono HBd.out.size)); obtain ⟨e0, e1, e2, e3⟩ := HTG.out w9 HB9.out; clear b9)
            | (go_at_call_of 19 a6; refine (HM1.out _ HB9.out).mono ?_; rintro r w10 ⟨rfl, b10⟩; have HB10 := hide (HB9.out.trans (b10.mono HB9.out.size)); obtain ⟨f0, f1, f2, f3⟩ := HTG.out w10 HB10.out; clear b10)
            | (go_at_call 21; refine (HAP.out _ HB10.out).mono ?_; rintro r w11 ⟨rfl, HFE, g0, g1⟩; have g2 := (FE.cells (a := w.heap.size) (b := w1.heap.size) (d := w2.heap.size) HFE.out).2.2.1; have g3 := (FE.cells (a := w.heap.size) (b := w1.heap.size) (d := w2.heap.size) HFE.out).2.2.2))
          clear t0 t1 l0 l1 m1 m2 m3 m4 m5 m6 m1' m2' z0 z1 z2 z3 e0 e1 e2 e3 f0 f1 f2 f3 g0 g1 g2 g3 HM0 HM1 HAP HTG HBd HB9 HB10
          go_wp2_with fail
          have HFd := hide (HFE.out.later ((Below.refl w11.heap.size w11).drew))
          have HFC : Hid (∀ W, FE w W (cn w.heap.size w1.heap.size w2.heap.size) vh R N lb (.slice a0 K0.length d0) (.slice a1 K1.length d1) K0 K1 → W.cell? ⟨w2.heap.size, 0, none⟩ = some (.pointer (some ⟨w.heap.size + 1, 0, none⟩)) ∧ W.cell? ⟨w2.heap.size, 1, none⟩ = some (.pointer (some ⟨w1.heap.size + 1, 0, none⟩)) ∧ W.cell? ⟨lb, 0, none⟩ = some (.slice a0 K0.length d0) ∧ W.cell? ⟨lb, 1, none⟩ = some (.slice a1 K1.length d1)) := hide (fun W h => FE.cells (a := w.heap.size) (b := w1.heap.size) (d := w2.heap.size) h)
          have HG0 : Hid (∀ W, FE w W (cn w.heap.size w1.heap.size w2.heap.size) vh R N lb (.slice a0 K0.length d0) (.slice a1 K1.length d1) K0 K1 → Calls Try.prog 18 #[.pointer (some ⟨w.heap.size + 1, 0, none⟩)] W fun e w' => ∃ a cap, e = .returned (.slice a K0.length cap) ∧ Hid (FE w w' (cn w.heap.size w1.heap.size w2.heap.size) vh R N lb (.slice a0 K0.length d0) (.slice a1 K1.length d1) K0 K1) ∧ Hid (RM w' (.slice a K0.length cap) K0)) := hide (fun W h => h.sort false (by have := HNB.out false; omega) HK0.out)
          have HG1 : Hid (∀ W, FE w W (cn w.heap.size w1.heap.size w2.heap.size) vh R N lb (.slice a0 K0.length d0) (.slice a1 K1.length d1) K0 K1 → Calls Try.prog 18 #[.pointer (some ⟨w1.heap.size + 1, 0, none⟩)] W fun e w' => ∃ a cap, e = .returned (.slice a K1.length cap) ∧ Hid (FE w w' (cn w.heap.size w1.heap.size w2.heap.size) vh R N lb (.slice a0 K0.length d0) (.slice a1 K1.length d1) K0 K1) ∧ Hid (RM w' (.slice a K1.length cap) K1)) := hide (fun W h => h.sort true (by have := HNB.out true; omega) HK1.out)
          have HC0 : Hid (∀ (W : World) (a : Option Addr) (cap : Nat), FE w W (cn w.heap.size w1.heap.size w2.heap.size) vh R N lb (.slice a0 K0.length d0) (.slice a1 K1.length d1) K0 K1 → RM W (.slice a K0.length cap) K0 → Calls Try.prog 19 #[.slice a K0.length cap, .slice a0 K0.length d0] W fun e w' => e = .returned (.bool true) ∧ Hid (FE w w' (cn w.heap.size w1.heap.size w2.heap.size) vh R N lb (.slice a0 K0.length d0) (.slice a1 K1.length d1) K0 K1)) := hide (fun W a cap h hr => by
            have h2 := sameM_any _ _ K0 K0 W hr h.o0.rm (by have := HL0.out; omega) (by have := HL0.out; omega)
            rw [decide_eq_true (rfl : K0 = K0)] at h2
            refine h2.mono ?_
            rintro e w' ⟨rfl, hb⟩
            exact ⟨rfl, hide (h.later hb)⟩)
          have HC1 : Hid (∀ (W : World) (a : Option Addr) (cap : Nat), FE w W (cn w.heap.size w1.heap.size w2.heap.size) vh R N lb (.slice a0 K0.length d0) (.slice a1 K1.length d1) K0 K1 → RM W (.slice a K1.length cap) K1 → Calls Try.prog 19 #[.slice a K1.length cap, .slice a1 K1.length d1] W fun e w' => e = .returned (.bool true) ∧ Hid (FE w w' (cn w.heap.size w1.heap.size w2.heap.size) vh R N lb (.slice a0 K0.length d0) (.slice a1 K1.length d1) K0 K1)) := hide (fun W a cap h hr => by
            have h2 := sameM_any _ _ K1 K1 W hr h.o1.rm (by have := HL1.out; omega) (by have := HL1.out; omega)
            rw [decide_eq_true (rfl : K1 = K1)] at h2
            refine h2.mono ?_
            rintro e w' ⟨rfl, hb⟩
            exact ⟨rfl, hide (h.later hb)⟩)
          refine z_begins (S := (fun W : World => W.cell? ⟨w2.heap.size, 0, none⟩ = some (.pointer (some ⟨w.heap.size + 1, 0, none⟩)) ∧ W.cell? ⟨w2.heap.size, 1, none⟩ = some (.pointer (some ⟨w1.heap.size + 1, 0, none⟩)) ∧ W.cell? ⟨lb, 0, none⟩ = some (.slice a0 K0.length d0) ∧ W.cell? ⟨lb, 1, none⟩ = some (.slice a1 K1.length d1))) 17 18 #[false, false, false, false, false, false, false, false, false, false, false, false, false, false, false, false, false, false] (by kernel_rfl) (by kernel_rfl) (by kernel_rfl) (HFC.out _ HFd.out) (fun hHeld => ?_)
          refine zk (v := ?_) 0 182 #[true, false, false, false, false, false, false, false, false, false, false, false, false, false, false, false, false, false] rfl rfl (by kernel_rfl) (by kernel_rfl) (by kernel_rfl) (by kernel_rfl) (fun _ _ _ h => h) (by kernel_rfl) (by rfl) ?hy hHeld ?_
          case hy => intro W _; first | (go_simp; done) | (go_simp; with_reducible rfl)
          simp only [List.setIfInBounds_toArray, List.set_cons_zero, List.set_cons_succ]
          refine zk (v := ?_) 1 183 #[true, true, false, false, false, false, false, false, false, false, false, false, false, false, false, false, false, false] rfl rfl (by kernel_rfl) (by kernel_rfl) (by kernel_rfl) (by kernel_rfl) (fun _ _ _ h => h) (by kernel_rfl) (by rfl) ?hy hHeld ?_
          case hy => rintro W ⟨hr0, hr1, hr2, hr3⟩; first | (go_simp; done) | (go_simp; with_reducible rfl)
          simp only [List.setIfInBounds_toArray, List.set_cons_zero, List.set_cons_succ]
          refine zk (v := ?_) 3 185 #[true, true, false, true, false, false, false, false, false, false, false, false, false, false, false, false, false, false] rfl rfl (by kernel_rfl) (by kernel_rfl) (by kernel_rfl) (by kernel_rfl) (fun _ _ _ h => h) (by kernel_rfl) (by rfl) ?hy hHeld ?_
          case hy => intro W _; first | (go_simp; done) | (go_simp; with_reducible rfl)
          simp only [List.setIfInBounds_toArray, List.set_cons_zero, List.set_cons_succ]
          refine zk (v := ?_) 4 186 #[true, true, false, true, true, false, false, false, false, false, false, false, false, false, false, false, false, false] rfl rfl (by kernel_rfl) (by kernel_rfl) (by kernel_rfl) (by kernel_rfl) (fun _ _ _ h => h) (by kernel_rfl) (by rfl) ?hy hHeld ?_
          case hy => rintro W ⟨hr0, hr1, hr2, hr3⟩; first | (go_simp; done) | (go_simp; with_reducible rfl)
          simp only [List.setIfInBounds_toArray, List.set_cons_zero, List.set_cons_succ]
          refine z_ready 2 #[true, true, true, true, true, false, false, false, false, false, false, false, false, false, false, false, false, false] rfl (by kernel_rfl) (by kernel_rfl) (by rfl) (fun K hK => ?_)
          refine op_call_fn 18 #[.pointer (some ⟨w.heap.size + 1, 0, none⟩)] (by kernel_rfl) ?_
          refine (HG0.out _ HFd.out).mono ?_
          rintro e w12 ⟨a12, c12, rfl, F12, G12⟩
          refine ⟨_, rfl, ?_⟩
          go_simp
          refine hK.out _ _ (fun _ => HFC.out _ F12.out) (fun hHeld => ?_)
          replace hHeld := hHeld (by decide)
          clear hK K
          refine z_ready 5 #[true, true, true, true, true, true, false, false, false, false, false, false, false, false, false, false, false, false] rfl (by kernel_rfl) (by kernel_rfl) (by rfl) (fun K hK => ?_)
          refine op_call_fn 19 #[.slice a12 K0.length c12, .slice a0 K0.length d0] (by kernel_rfl) ?_
          refine (HC0.out _ a12 c12 F12.out G12.out).mono ?_
          rintro e w13 ⟨rfl, F13⟩
          refine ⟨_, rfl, ?_⟩
          go_simp
          refine hK.out _ _ (fun _ => HFC.out _ F13.out) (fun hHeld => ?_)
          replace hHeld := hHeld (by decide)
          clear hK K
          refine zk (v := ?_) 6 188 #[true, true, true, true, true, true, true, false, false, false, false, false, false, false, false, false, false, false] rfl rfl (by kernel_rfl) (by kernel_rfl) (by kernel_rfl) (by kernel_rfl) (fun _ _ _ h => h) (by kernel_rfl) (by rfl) ?hy hHeld ?_
          case hy => intro W _; first | (go_simp; done) | (go_simp; with_reducible rfl)
          simp only [List.setIfInBounds_toArray, List.set_cons_zero, List.set_cons_succ]
          refine zk (v := ?_) 7 189 #[true, true, true, true, true, true, true, true, false, false, false, false, false, false, false, false, false, false] rfl rfl (by kernel_rfl) (by kernel_rfl) (by kernel_rfl) (by kernel_rfl) (fun _ _ _ h => h) (by kernel_rfl) (by rfl) ?hy hHeld ?_
          case hy => intro W _; first | (go_simp; done) | (go_simp; with_reducible rfl)
          simp only [List.setIfInBounds_toArray, List.set_cons_zero, List.set_cons_succ]
          refine zk (v := ?_) 8 190 #[true, true, true, true, true, true, true, true, true, false, false, false, false, false, false, false, false, false] rfl rfl (by kernel_rfl) (by kernel_rfl) (by kernel_rfl) (by kernel_rfl) (fun _ _ _ h => h) (by kernel_rfl) (by rfl) ?hy hHeld ?_
          case hy => rintro W ⟨hr0, hr1, hr2, hr3⟩; first | (go_simp; done) | (go_simp; with_reducible rfl)
          simp only [List.setIfInBounds_toArray, List.set_cons_zero, List.set_cons_succ]
          refine zk (v := ?_) 10 192 #[true, true, true, true, true, true, true, true, true, false, true, false, false, false, false, false, false, false] rfl rfl (by kernel_rfl) (by kernel_rfl) (by kernel_rfl) (by kernel_rfl) (fun _ _ _ h => h) (by kernel_rfl) (by rfl) ?hy hHeld ?_
          case hy => intro W _; first | (go_simp; done) | (go_simp; with_reducible rfl)
          simp only [List.setIfInBounds_toArray, List.set_cons_zero, List.set_cons_succ]
          refine zk (v := ?_) 11 193 #[true, true, true, true, true, true, true, true, true, false, true, true, false, false, false, false, false, false] rfl rfl (by kernel_rfl) (by kernel_rfl) (by kernel_rfl) (by kernel_rfl) (fun _ _ _ h => h) (by kernel_rfl) (by rfl) ?hy hHeld ?_
          case hy => rintro W ⟨hr0, hr1, hr2, hr3⟩; first | (go_simp; done) | (go_simp; with_reducible rfl)
          simp only [List.setIfInBounds_toArray, List.set_cons_zero, List.set_cons_succ]
          refine z_ready 9 #[true, true, true, true, true, true, true, true, true, true, true, true, false, false, false, false, false, false] rfl (by kernel_rfl) (by kernel_rfl) (by rfl) (fun K hK => ?_)
          refine op_call_fn 18 #[.pointer (some ⟨w1.heap.size + 1, 0, none⟩)] (by kernel_rfl) ?_
          refine (HG1.out _ F13.out).mono ?_
          rintro e w14 ⟨a14, c14, rfl, F14, G14⟩
          refine ⟨_, rfl, ?_⟩
          go_simp
          refine hK.out _ _ (fun _ => HFC.out _ F14.out) (fun hHeld => ?_)
          replace hHeld := hHeld (by decide)
          clear hK K
          refine z_ready 12 #[true, true, true, true, true, true, true, true, true, true, true, true, true, false, false, false, false, false] rfl (by kernel_rfl) (by kernel_rfl) (by rfl) (fun K hK => ?_)
          refine op_call_fn 19 #[.slice a14 K1.length c14, .slice a1 K1.length d1] (by kernel_rfl) ?_
          refine (HC1.out _ a14 c14 F14.out G14.out).mono ?_
          rintro e w15 ⟨rfl, F15⟩
          refine ⟨_, rfl, ?_⟩
          go_simp
          refine hK.out _ _ (fun _ => HFC.out _ F15.out) (fun hHeld => ?_)
          replace hHeld := hHeld (by decide)
          clear hK K
          refine zk (v := ?_) 13 195 #[true, true, true, true, true, true, true, true, true, true, true, true, true, true, false, false, false, false] rfl rfl (by kernel_rfl) (by kernel_rfl) (by kernel_rfl) (by kernel_rfl) (fun _ _ _ h => h) (by kernel_rfl) (by rfl) ?hy hHeld ?_
          case hy => intro W _; first | (go_simp; done) | (go_simp; with_reducible rfl)
          simp only [List.setIfInBounds_toArray, List.set_cons_zero, List.set_cons_succ]
          refine zk (v := ?_) 14 196 #[true, true, true, true, true, true, true, true, true, true, true, true, true, true, true, false, false, false] rfl rfl (by kernel_rfl) (by kernel_rfl) (by kernel_rfl) (by kernel_rfl) (fun _ _ _ h => h) (by kernel_rfl) (by rfl) ?hy hHeld ?_
          case hy => intro W _; first | (go_simp; done) | (go_simp; with_reducible rfl)
          simp only [List.setIfInBounds_toArray, List.set_cons_zero, List.set_cons_succ]
          refine z_ready 15 #[true, true, true, true, true, true, true, true, true, true, true, true, true, true, true, true, false, false] rfl (by kernel_rfl) (by kernel_rfl) (by rfl) (fun K hK => ?_)
          refine op_call_fn 22 #[] (by kernel_rfl) ?_
          refine (works_any w15).mono ?_
          rintro e w16 ⟨rfl, b16⟩
          refine ⟨_, rfl, ?_⟩
          go_simp
          refine hK.out _ _ (fun _ => HFC.out _ (F15.out.later b16)) (fun hHeld => ?_)
          replace hHeld := hHeld (by decide)
          clear hK K
          refine zk (v := ?_) 16 198 #[true, true, true, true, true, true, true, true, true, true, true, true, true, true, true, true, true, false] rfl rfl (by kernel_rfl) (by kernel_rfl) (by kernel_rfl) (by kernel_rfl) (fun _ _ _ h => h) (by kernel_rfl) (by rfl) ?hy hHeld ?_
          case hy => intro W _; first | (go_simp; done) | (go_simp; with_reducible rfl)
          simp only [List.setIfInBounds_toArray, List.set_cons_zero, List.set_cons_succ]
          refine z_ready 17 #[true, true, true, true, true, true, true, true, true, true, true, true, true, true, true, true, true, true] rfl (by kernel_rfl) (by kernel_rfl) (by rfl) (fun K hK => ?_)
          go_simp
          refine hK.out _ _ (fun h => absurd rfl h) (fun _ => ?_)
          clear hK K
          refine z_done (by kernel_rfl) ?_ _
          go_wp2_with fail
          go_ret
          exact ⟨rfl, (F15.out.later b16).bl⟩
end Go.Proofs.Ytegemfkadclnkaa
