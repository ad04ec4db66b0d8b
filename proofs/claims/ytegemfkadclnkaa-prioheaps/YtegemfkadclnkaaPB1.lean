/-
  My own text: Remove.
-/
import Derived.Test.YtegemfkadclnkaaPA9
namespace Go.Proofs.Ytegemfkadclnkaa
open Go.RowKit

/-- The first of the first t that are so: its place, or -1. -/
def RmS (k : Pr → Int) (p : Pr → Bool) (E : List En) (t : Nat) (F : Int) : Prop :=
  (F = -1 ∧ ∀ j x, j < t → E[j]? = some x → p x.1 = false) ∨ ∃ (m : Nat) (y : En), F = (m : Int) ∧ m < t ∧ E[m]? = some y ∧ p y.1 = true ∧ ∀ j x, j < t → E[j]? = some x → p x.1 = true → ltE k x y = false
theorem RmS.zero (k : Pr → Int) (p : Pr → Bool) (E : List En) : RmS k p E 0 (-1) := .inl ⟨rfl, fun j _ h => by omega⟩
theorem RmS.same {k : Pr → Int} {p : Pr → Bool} {E : List En} {t : Nat} {F : Int} (h : RmS k p E t F) {x : En} (hx : E[t]? = some x) (hn : p x.1 = false ∨ ∃ (m : Nat) (y : En), F = (m : Int) ∧ E[m]? = some y ∧ ltE k x y = false) : RmS k p E (t + 1) F := by
  rcases h with ⟨h1, h2⟩ | ⟨m, y, h1, h2, h3, h4, h5⟩
  · rcases hn with hn | ⟨m, _, hm, _⟩
    · exact .inl ⟨h1, fun j z hj hz => by
        by_cases e : j = t
        · subst e; rw [hx] at hz; cases hz; exact hn
        · exact h2 j z (by omega) hz⟩
    · omega
  · refine .inr ⟨m, y, h1, by omega, h3, h4, fun j z hj hz hp => ?_⟩
    by_cases e : j = t
    · subst e; rw [hx] at hz; cases hz
      rcases hn with hn | ⟨m', y', hm, hy, hl⟩
      · rw [hn] at hp; cases hp
      · obtain rfl : m = m' := by omega
        rw [h3] at hy; cases hy; exact hl
    · exact h5 j z (by omega) hz hp
theorem RmS.next {k : Pr → Int} {p : Pr → Bool} {E : List En} {t : Nat} {F : Int} (h : RmS k p E t F) {x : En} (hx : E[t]? = some x) (hp : p x.1 = true) (hn : F = -1 ∨ ∃ (m : Nat) (y : En), F = (m : Int) ∧ E[m]? = some y ∧ ltE k x y = true) : RmS k p E (t + 1) (t : Int) := by
  refine .inr ⟨t, x, rfl, by omega, hx, hp, fun j z hj hz hpz => ?_⟩
  by_cases e : j = t
  · subst e; rw [hx] at hz; cases hz; exact (ltE_so k).irr _
  · rcases h with ⟨h1, h2⟩ | ⟨m, y, h1, h2, h3, h4, h5⟩
    · rw [h2 j z (by omega) hz] at hpz; cases hpz
    · rcases hn with hn | ⟨m', y', hm, hy, hl⟩
      · omega
      · obtain rfl : m = m' := by omega
        rw [h3] at hy; cases hy
        exact (ltE_so k).lt_neg (h5 j z (by omega) hz hpz) hl
theorem meas_lt {n k : Nat} (h : k < n) : n - ((k : Int) + 1).toNat < n - ((k : Int)).toNat := by omega
theorem wrap_up {t n : Nat} (h : t < n) (hn : n ≤ 4611686018427387904) : wrap64 ((t : Int) + 1) = (t : Int) + 1 := by unfold wrap64; omega
/-- A function that tells whether a pair is so. -/
structure IOk (w : World) (isf : FuncId) (caps : Array Value) (p : Pr → Bool) : Prop where
  run : ∀ (W : World) (a : Array Value), (callFunc isf a).run Try.prog W = .ok (.enter isf a) W
  tells : ∀ (x : Pr) (W : World), Below w.heap.size w W → Calls Try.prog isf (#[pv x] ++ caps) W fun e w' => e = .returned (.bool (p x)) ∧ Below W.heap.size W w'
set_option maxRecDepth 100000 in
set_option maxHeartbeats 8000000 in
theorem remove_any {lf : FuncId} {k : Pr → Int} (hl : LOk lf k) (isf : FuncId) (caps : Array Value) (p : Pr → Bool) (B hb lb : Nat) (v : Value) (E : List En) (N : Nat) (w : World) (hI : IOk w isf caps p) (h : HP w B hb lb lf v E N) (hk : HeapOk (ltE k) E) (hlen : E.length ≤ 5864062014805) (hB : B ≤ w.heap.size) :
    Calls Try.prog 14 #[.pointer (some ⟨hb, 0, none⟩), .func (Fn.func isf) #[] caps] w fun e w' => (e = .returned (.tuple #[pv (0, 0), .bool false]) ∧ (∀ x ∈ E, p x.1 = false) ∧ Below w.heap.size w w') ∨
      ∃ x, e = .returned (.tuple #[pv x.1, .bool true]) ∧ x ∈ E ∧ p x.1 = true ∧ (∀ y ∈ E, p y.1 = true → ltE k y x = false) ∧ ∃ v' E', (x :: E').Perm E ∧ HeapOk (ltE k) E' ∧ HP w' B hb lb lf v' E' N ∧ Fq w w' hb v v' := by
  have b1 : Below w.heap.size w (w.alloc zPr) := (Below.refl _ _).alloc (Nat.le_refl _) _
  have h1 := h.later b1
  have c0 := h1.c0
  have HL := hide hl
  have HI := hide hI
  have cr := hI.run
  have HLE := hide hlen
  have HB1 := hide b1
  have HP1 := hide h
  have HKK := hide hk
  have HBB := hide hB
  obtain ⟨a, cap, rfl, _⟩ := h.row.slc
  have H0 : Hid (RmS k p E 0 (-1) ∧ Below w.heap.size w (w.alloc zPr) ∧ (w.alloc zPr).heap[w.heap.size]? = some zPr) := hide ⟨RmS.zero k p E, b1, alloc_new w zPr⟩
  obtain ⟨n, hn⟩ : ∃ n, Hid (E.length = n) := ⟨_, hide rfl⟩
  rw [hn.out] at c0 HP1 ⊢
  clear h h1 b1 hk hlen hB hl hI
  go_enter Try.func14, Try.ntmps14
  go_wp2_with fail
  go_loopw [6, 15] (fun i j wr => ∃ (F : Int) (t : Nat), i = .int .i64 F ∧ j = .int .i64 (t : Int) ∧ t ≤ n ∧ Hid (RmS k p E t F ∧ Below w.heap.size w wr ∧ wr.heap[w.heap.size]? = some zPr)) (fun _ j _ => n - (intOf j).toNat)
  case atStart => exact ⟨-1, 0, rfl, rfl, by omega, H0⟩
  case round =>
    obtain ⟨F, t, rfl, rfl, ht, HR⟩ := hrel
    by_cases htn : t < n
    · have d1 : decide ((t : Int) < (n : Int)) = true := by rw [decide_eq_true_eq]; omega
      have k0 : (0 : Int) ≤ (t : Int) := by omega
      have k1 : (t : Int) < (n : Int) := by omega
      have wt : wrap64 ((t : Int) + 1) = (t : Int) + 1 := wrap_up htn (by have := HLE.out; have := hn.out; omega)
      obtain ⟨x, hx⟩ : ∃ x, E[t]? = some x := ⟨_, List.getElem?_eq_getElem (by rw [hn.out]; exact htn)⟩
      have HX := hide hx
      obtain ⟨g, capg, cur, hv, hBg, hh, hq⟩ := HP1.out.row.parts (by rw [hn.out]; omega)
      have hag : a = some ⟨g, 0, none⟩ := by injection hv
      subst hag
      clear hv hBg hh hq cur capg hx
      have hpw := HP1.out.later HR.out.2.1
      have hro : OE wr B (.slice (some ⟨g, 0, none⟩) E.length cap) E := by rw [hn.out]; exact hpw.row
      have rx := hro.range HX.out
      have x0 : wr.cell? ⟨g, t * 3, none⟩ = some (.int .i64 x.1.1) := rx 0 _ rfl
      have x1 : wr.cell? ⟨g, t * 3 + 1, none⟩ = some (.int .i64 x.1.2) := rx 1 _ rfl
      have x2 : wr.cell? ⟨g, t * 3 + 2, none⟩ = some (.int .i64 (x.2 : Int)) := rx 2 _ rfl
      clear rx hro hpw
      go_wp2_with (refine wpList_store_row rfl 51 _ _ rfl wr.heap.size #[.int .i64 x.1.1, .int .i64 x.1.2, .int .i64 (x.2 : Int)] rfl rfl _ _ (alloc_new wr _) Try.sizeEn rfl (by simp [Value.oneCell']) ?_; rw [World.setRow_alloc_new])
      obtain ⟨W8, hW8⟩ : ∃ W, Hid (wr.alloc (.cells #[.int .i64 x.1.1, .int .i64 x.1.2, .int .i64 (x.2 : Int)] 51) = W) := ⟨_, hide rfl⟩
      rw [hW8.out]
      have b8 : Below wr.heap.size wr W8 := by rw [← hW8.out]; exact (Below.refl _ _).alloc (Nat.le_refl _) _
      have n8 : W8.heap[wr.heap.size]? = some (.cells #[.int .i64 x.1.1, .int .i64 x.1.2, .int .i64 (x.2 : Int)] 51 (0, 0)) := by rw [← hW8.out]; exact alloc_new wr _
      have BW8 := hide (HR.out.2.1.trans (b8.mono HR.out.2.1.size))
      have R8 := hide (blk_later HR.out.2.2 b8)
      have hp8 := HP1.out.later BW8.out
      have bg := blk_lt hp8.hdr
      have gg : g < W8.heap.size := (hp8.row.lt g rfl).2
      have c0 : ∀ X : Gr W8, X.1.cell? ⟨hb, 0, none⟩ = some (.slice (some ⟨g, 0, none⟩) n cap) := fun X => (X.2.cell (p := ⟨hb, 0, none⟩) bg).trans hp8.c0
      have c1 : ∀ X : Gr W8, X.1.cell? ⟨hb, 1, none⟩ = some (.func (Fn.func 23) #[] #[.pointer (some ⟨lb, 0, none⟩)]) := fun X => (X.2.cell (p := ⟨hb, 1, none⟩) bg).trans hp8.c1
      have e0 : ∀ X : Gr W8, X.1.cell? ⟨wr.heap.size, 0, none⟩ = some (.int .i64 x.1.1) := fun X => by rw [cell_of_row _ _ 0 _ _ _ (blk_later n8 X.2)]; rfl
      have e1 : ∀ X : Gr W8, X.1.cell? ⟨wr.heap.size, 1, none⟩ = some (.int .i64 x.1.2) := fun X => by rw [cell_of_row _ _ 1 _ _ _ (blk_later n8 X.2)]; rfl
      have e2 : ∀ X : Gr W8, X.1.cell? ⟨wr.heap.size, 2, none⟩ = some (.int .i64 (x.2 : Int)) := fun X => by rw [cell_of_row _ _ 2 _ _ _ (blk_later n8 X.2)]; rfl
      have HG0 := hide (drew_below (B := W8.heap.size) (w := W8))
      have hne : Nonempty (Gr W8) := ⟨⟨_, HG0.out⟩⟩
      have HI8 := hide (fun X : Gr W8 => HI.out.tells x.1 X.1 (BW8.out.trans (X.2.mono BW8.out.size)))
      unfold pv at HI8
      clear x0 x1 x2 b8 n8 hW8
      cases hpx : p x.1 with
      | false =>
        rw [hpx] at HI8
        have HPX := hide hpx
        clear hpx hp8 bg gg
        refine region_class (C := fun w' => ∃ x : Gr W8, w' = x.1) (by kernel_rfl) (by kernel_rfl) ⟨⟨_, HG0.out⟩, rfl⟩ ?_
        repeat (first
          | go_big_quiet_skip
          | (go_big_quiet_want; (go_big_quiet_op; first
              | go_big_quiet_on
              | (apply Exists.intro; refine ⟨fun X => ?_, ?_⟩; (first | with_reducible exact X.call (HI8.out X)); go_big_quiet_on))))
        refine wpQuiet_nil ?_
        rintro w9 ⟨X, rfl⟩
        obtain ⟨w9, hx9⟩ := X
        dsimp only
        have H9 := hide (BW8.out.trans (hx9.mono BW8.out.size))
        have R9 := hide (blk_later R8.out hx9)
        clear c0 c1 e0 e1 e2 hne hx9 HI8 HG0
        go_wp2_with fail
        go_roundw
        case rel => exact ⟨_, t + 1, rfl, by first | rfl | (rw [wt]; rfl), htn, hide ⟨HR.out.1.same HX.out (.inl HPX.out), H9.out, R9.out⟩⟩
        case measure => first | exact meas_lt htn | (rw [wt]; exact meas_lt htn)
      | true =>
        rw [hpx] at HI8
        have HPX := hide hpx
        clear hpx
        rcases HR.out.1 with ⟨hF, _⟩ | ⟨m, y, hF, hmt, hy, _, _⟩
        · have HF := hide hF
          have d3 : decide (F < 0) = true := by rw [decide_eq_true_eq]; omega
          clear hF hp8 bg gg
          refine region_class (C := fun w' => ∃ x : Gr W8, w' = x.1) (by kernel_rfl) (by kernel_rfl) ⟨⟨_, HG0.out⟩, rfl⟩ ?_
          repeat (first
            | go_big_quiet_skip
            | (go_big_quiet_want; (go_big_quiet_op; first
                | go_big_quiet_on
                | (apply Exists.intro; refine ⟨fun X => ?_, ?_⟩; (first | with_reducible exact X.call (HI8.out X)); go_big_quiet_on))))
          refine wpQuiet_nil ?_
          rintro w9 ⟨X, rfl⟩
          obtain ⟨w9, hx9⟩ := X
          dsimp only
          have H9 := hide (BW8.out.trans (hx9.mono BW8.out.size))
          have R9 := hide (blk_later R8.out hx9)
          clear c0 c1 e0 e1 e2 hne hx9 HI8 HG0 d3
          go_wp2_with fail
          go_roundw
          case rel => exact ⟨_, t + 1, rfl, by first | rfl | (rw [wt]; rfl), htn, hide ⟨HR.out.1.next HX.out HPX.out (.inl HF.out), H9.out, R9.out⟩⟩
          case measure => first | exact meas_lt htn | (rw [wt]; exact meas_lt htn)
        · have HY := hide hy
          subst hF
          have d3 : decide ((m : Int) < 0) = false := by rw [decide_eq_false_iff_not]; omega
          have k2 : (0 : Int) ≤ (m : Int) := by omega
          have k3 : (m : Int) < (n : Int) := by omega
          have hro : OE W8 B (.slice (some ⟨g, 0, none⟩) E.length cap) E := by rw [hn.out]; exact hp8.row
          have ry := hro.range HY.out
          have y0 : ∀ X : Gr W8, X.1.cell? ⟨g, m * 3, none⟩ = some (.int .i64 y.1.1) := fun X => (X.2.cell (p := ⟨g, _, none⟩) gg).trans (ry 0 _ rfl)
          have y1 : ∀ X : Gr W8, X.1.cell? ⟨g, m * 3 + 1, none⟩ = some (.int .i64 y.1.2) := fun X => (X.2.cell (p := ⟨g, _, none⟩) gg).trans (ry 1 _ rfl)
          have y2 : ∀ X : Gr W8, X.1.cell? ⟨g, m * 3 + 2, none⟩ = some (.int .i64 (y.2 : Int)) := fun X => (X.2.cell (p := ⟨g, _, none⟩) gg).trans (ry 2 _ rfl)
          have HA := hide (fun X : Gr W8 => ahead_any HL.out x y lb X.1 (blk_later hp8.les X.2))
          unfold ev at HA
          clear hy hro ry hp8 bg gg
          refine region_class (C := fun w' => ∃ x : Gr W8, w' = x.1) (by kernel_rfl) (by kernel_rfl) ⟨⟨_, HG0.out⟩, rfl⟩ ?_
          repeat (first
            | go_big_quiet_skip
            | (go_big_quiet_want; (go_big_quiet_op; first
                | go_big_quiet_on
                | (apply Exists.intro; refine ⟨fun X => ?_, ?_⟩; (first | with_reducible exact X.call (HI8.out X) | (go_at_call 23; exact X.call (HA.out X))); go_big_quiet_on))))
          refine wpQuiet_nil ?_
          rintro w9 ⟨X, rfl⟩
          obtain ⟨w9, hx9⟩ := X
          dsimp only
          have H9 := hide (BW8.out.trans (hx9.mono BW8.out.size))
          have R9 := hide (blk_later R8.out hx9)
          clear c0 c1 e0 e1 e2 y0 y1 y2 hne hx9 HI8 HG0 d3 HA
          cases hb9 : ltE k x y with
          | false =>
            have HB9 := hide hb9
            clear hb9
            go_wp2_with fail
            go_roundw
            case rel => exact ⟨_, t + 1, rfl, by first | rfl | (rw [wt]; rfl), htn, hide ⟨HR.out.1.same HX.out (.inr ⟨m, y, rfl, HY.out, HB9.out⟩), H9.out, R9.out⟩⟩
            case measure => first | exact meas_lt htn | (rw [wt]; exact meas_lt htn)
          | true =>
            have HB9 := hide hb9
            clear hb9
            go_wp2_with fail
            go_roundw
            case rel => exact ⟨_, t + 1, rfl, by first | rfl | (rw [wt]; rfl), htn, hide ⟨HR.out.1.next HX.out HPX.out (.inr ⟨m, y, rfl, HY.out, HB9.out⟩), H9.out, R9.out⟩⟩
            case measure => first | exact meas_lt htn | (rw [wt]; exact meas_lt htn)
    · have htn' : t = n := by omega
      have HTN := hide htn'
      have d1 : decide ((t : Int) < (n : Int)) = false := by rw [decide_eq_false_iff_not]; omega
      rcases HR.out.1 with ⟨hF, hno⟩ | ⟨m, y, hF, hmt, hy, hpy, hmin⟩
      · have HF := hide hno
        have d3 : decide (F < 0) = true := by rw [decide_eq_true_eq]; omega
        have RD : Hid ((wr.alloc zPr).heap[w.heap.size]? = some zPr) := hide ((Below.heap_alloc _ _ _ (blk_lt HR.out.2.2)).trans HR.out.2.2)
        have B2 := hide (HR.out.2.1.alloc HR.out.2.1.size zPr)
        clear hF hno htn'
        go_wp2_with (refine wpList_store_row rfl 25 _ _ rfl w.heap.size #[.int .i64 0, .int .i64 0] rfl rfl _ _ RD.out Try.sizePr rfl (by simp [Value.oneCell']) ?_)
        refine bodyPost_ret (v := .tuple #[pv (0, 0), .bool false]) ?_ rfl (.inl ⟨rfl, ?_, belowRow B2.out (Nat.le_refl _)⟩)
        · rw [results_cell_tmp rfl]
          simp only [asAddr]
          have hld := run_loadVar_row (P := Try.prog) ((wr.alloc zPr).setRow w.heap.size #[.int .i64 0, .int .i64 0]) w.heap.size 25 25 #[.int .i64 0, .int .i64 0] (0, 0) _ (setRow_heap _ _ _ _ _ _ RD.out) Try.underlying25 rfl Try.sizePr
          simp [Result.andThen, hld, pv]
        · intro z hz
          obtain ⟨j, hj, rfl⟩ := List.mem_iff_getElem.1 hz
          exact HF.out j _ (by have := HTN.out; have := hn.out; omega) (List.getElem?_eq_getElem hj)
      · have d3 : decide ((m : Int) < 0) = false := by rw [decide_eq_false_iff_not]; omega
        have hpw := HP1.out.later HR.out.2.1
        have HT := hide (takeOut_any HL.out m y B hb lb _ E N wr hpw HKK.out hy HLE.out (by have := HBB.out; have := HR.out.2.1.size; omega))
        have HNP := hide (hpw.ne_pr HR.out.2.2)
        have HMM : Hid (y ∈ E ∧ p y.1 = true ∧ ∀ z ∈ E, p z.1 = true → ltE k z y = false) := hide ⟨List.mem_of_getElem? hy, hpy, fun z hz hpz => by
          obtain ⟨j, hj, rfl⟩ := List.mem_iff_getElem.1 hz
          exact hmin j _ (by have := HTN.out; have := hn.out; omega) (List.getElem?_eq_getElem hj) hpz⟩
        subst hF
        clear hmt hy hpy hmin hpw htn'
        go_wp2_with fail
        refine HT.out.mono ?_
        rintro e w2 ⟨rfl, v', E', g1, g2, g3, g4⟩
        have RD := hide ((g4.block w.heap.size (blk_lt HR.out.2.2) HNP.out.1 HNP.out.2.2).trans HR.out.2.2)
        have HE := hide (out_end (cs := #[.int .i64 y.1.1, .int .i64 y.1.2]) g3 ((Fq.of_below (hb := hb) HR.out.2.1).trans g4) (Nat.le_refl _) RD.out)
        have HG1 := hide g1
        have HG2 := hide g2
        clear g1 g2 g3 g4 HT
        unfold pv
        go_wp2_with (refine wpList_store_row rfl 25 _ _ rfl w.heap.size #[.int .i64 y.1.1, .int .i64 y.1.2] rfl rfl _ _ RD.out Try.sizePr rfl (by simp [Value.oneCell']) ?_)
        refine bodyPost_ret (v := .tuple #[pv y.1, .bool true]) ?_ rfl (.inr ⟨y, rfl, HMM.out.1, HMM.out.2.1, HMM.out.2.2, _, _, HG1.out, HG2.out, HE.out.1, HE.out.2⟩)
        rw [results_cell_tmp rfl]
        simp only [asAddr]
        have hld := run_loadVar_row (P := Try.prog) (w2.setRow w.heap.size #[.int .i64 y.1.1, .int .i64 y.1.2]) w.heap.size 25 25 #[.int .i64 y.1.1, .int .i64 y.1.2] (0, 0) _ (setRow_heap _ _ _ _ _ _ RD.out) Try.underlying25 rfl Try.sizePr
        simp [Result.andThen, hld, pv]
end Go.Proofs.Ytegemfkadclnkaa
