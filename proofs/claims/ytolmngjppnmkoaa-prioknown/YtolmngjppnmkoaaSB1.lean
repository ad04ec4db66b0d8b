/-
  My own text: Remove.
-/
import Derived.Test.YtolmngjppnmkoaaSA8
namespace Go.Proofs.Ytolmngjppnmkoaa.SG
open Go.RowKit

/-- The first of the first t that are so: its place, or -1. -/
def RmS (k : St → Int) (p : St → Bool) (E : List En) (t : Nat) (F : Int) : Prop :=
  (F = -1 ∧ ∀ j x, j < t → E[j]? = some x → p x.1 = false) ∨ ∃ (m : Nat) (y : En), F = (m : Int) ∧ m < t ∧ E[m]? = some y ∧ p y.1 = true ∧ ∀ j x, j < t → E[j]? = some x → p x.1 = true → ltE k x y = false
theorem RmS.zero (k : St → Int) (p : St → Bool) (E : List En) : RmS k p E 0 (-1) := .inl ⟨rfl, fun j _ h => by omega⟩
theorem RmS.same {k : St → Int} {p : St → Bool} {E : List En} {t : Nat} {F : Int} (h : RmS k p E t F) {x : En} (hx : E[t]? = some x) (hn : p x.1 = false ∨ ∃ (m : Nat) (y : En), F = (m : Int) ∧ E[m]? = some y ∧ ltE k x y = false) : RmS k p E (t + 1) F := by
  rcases h with ⟨h1, h2⟩ | ⟨m, y, h1, h2, h3, h4, h5⟩
  · rcases hn with hn | ⟨m, _, hm, _⟩
    · exact .inl ⟨h1, fun j z hj hz => by
        by_cases e : j = t
        · subst e; rw [hx] at hz; cases hz; exact hn
        · exact h2 j z (by omega) hz⟩
    · omega
  · refine .inr ⟨m, y, h1, by omega, h3, h4, fun j z hj hz hp => ?_⟩
    by_cases e : j = t
    · subst e; rw [hx] at hz; cases hz
      rcases hn with hn | ⟨m', y', hm, hy, hl⟩
      · rw [hn] at hp; cases hp
      · obtain rfl : m = m' := by omega
        rw [h3] at hy; cases hy; exact hl
    · exact h5 j z (by omega) hz hp
theorem RmS.next {k : St → Int} {p : St → Bool} {E : List En} {t : Nat} {F : Int} (h : RmS k p E t F) {x : En} (hx : E[t]? = some x) (hp : p x.1 = true) (hn : F = -1 ∨ ∃ (m : Nat) (y : En), F = (m : Int) ∧ E[m]? = some y ∧ ltE k x y = true) : RmS k p E (t + 1) (t : Int) := by
  refine .inr ⟨t, x, rfl, by omega, hx, hp, fun j z hj hz hpz => ?_⟩
  by_cases e : j = t
  · subst e; rw [hx] at hz; cases hz; exact (ltE_so k).irr _
  · rcases h with ⟨h1, h2⟩ | ⟨m, y, h1, h2, h3, h4, h5⟩
    · rw [h2 j z (by omega) hz] at hpz; cases hpz
    · rcases hn with hn | ⟨m', y', hm, hy, hl⟩
      · omega
      · obtain rfl : m = m' := by omega
        rw [h3] at hy; cases hy
        exact (ltE_so k).lt_neg (h5 j z (by omega) hz hpz) hl
/-- A function that tells whether a text is so. -/
structure IOk (w : World) (isf : FuncId) (caps : Array Value) (p : St → Bool) : Prop where
  run : ∀ (W : World) (a : Array Value), (callFunc isf a).run Try.prog W = .ok (.enter isf a) W
  tells : ∀ (x : St) (W : World), Below w.heap.size w W → Calls Try.prog isf (#[pv x] ++ caps) W fun e w' => e = .returned (.bool (p x)) ∧ Below W.heap.size W w'
set_option maxRecDepth 100000 in
set_option maxHeartbeats 8000000 in
theorem remove_any {lf : FuncId} {k : St → Int} (hl : LOk lf k) (isf : FuncId) (caps : Array Value) (p : St → Bool) (B hb lb : Nat) (v : Value) (E : List En) (N : Nat) (w : World) (hI : IOk w isf caps p) (h : HP w B hb lb lf v E N) (hk : HeapOk (ltE k) E) (hlen : E.length ≤ 5864062014805) (hB : B ≤ w.heap.size) :
    Calls Try.prog 37 #[.pointer (some ⟨hb, 0, none⟩), .func (Fn.func isf) #[] caps] w fun e w' => (e = .returned (.tuple #[pv [], .bool false]) ∧ (∀ x ∈ E, p x.1 = false) ∧ Below w.heap.size w w') ∨
      ∃ x, e = .returned (.tuple #[pv x.1, .bool true]) ∧ x ∈ E ∧ p x.1 = true ∧ (∀ y ∈ E, p y.1 = true → ltE k y x = false) ∧ ∃ v' E', (x :: E').Perm E ∧ HeapOk (ltE k) E' ∧ HP w' B hb lb lf v' E' N ∧ Fq w w' hb v v' := by
  have c0 := h.c0
  have HL := hide hl
  have HI := hide hI
  have cr := hI.run
  have HLE := hide hlen
  have HP1 := hide h
  have HKK := hide hk
  have HBB := hide hB
  obtain ⟨a, cap, rfl, _⟩ := h.row.slc
  have H0 : Hid (RmS k p E 0 (-1) ∧ Below w.heap.size w w) := hide ⟨RmS.zero k p E, Below.refl _ _⟩
  obtain ⟨n, hn⟩ : ∃ n, Hid (E.length = n) := ⟨_, hide rfl⟩
  rw [hn.out] at c0 HP1 ⊢
  clear h hk hlen hB hl hI
  go_enter Try.func37, Try.ntmps37
  go_wp2_with fail
  go_loopw [6, 15] (fun i j wr => ∃ (F : Int) (t : Nat), i = .int .i64 F ∧ j = .int .i64 (t : Int) ∧ t ≤ n ∧ Hid (RmS k p E t F ∧ Below w.heap.size w wr)) (fun _ j _ => n - (intOf j).toNat)
  case atStart => exact ⟨-1, 0, rfl, rfl, by omega, H0⟩
  case round =>
    obtain ⟨F, t, rfl, rfl, ht, HR⟩ := hrel
    by_cases htn : t < n
    · have d1 : decide ((t : Int) < (n : Int)) = true := by rw [decide_eq_true_eq]; omega
      have k0 : (0 : Int) ≤ (t : Int) := by omega
      have k1 : (t : Int) < (n : Int) := by omega
      have wt : wrap64 ((t : Int) + 1) = (t : Int) + 1 := wrap_up htn (by have := HLE.out; have := hn.out; omega)
      obtain ⟨x, hx⟩ : ∃ x, E[t]? = some x := ⟨_, List.getElem?_eq_getElem (by rw [hn.out]; exact htn)⟩
      have HX := hide hx
      obtain ⟨g, capg, cur, hv, hBg, hh, hq⟩ := HP1.out.row.parts (by rw [hn.out]; omega)
      have hag : a = some ⟨g, 0, none⟩ := by injection hv
      subst hag
      clear hv hBg hh hq cur capg hx
      have hpw := HP1.out.later HR.out.2
      have hro : OE wr B (.slice (some ⟨g, 0, none⟩) E.length cap) E := by rw [hn.out]; exact hpw.row
      have rx := hro.range HX.out
      have x0 : wr.cell? ⟨g, t * 2, none⟩ = some (.string ⟨x.1.toArray⟩) := rx 0 _ rfl
      have x2 : wr.cell? ⟨g, t * 2 + 1, none⟩ = some (.int .i64 (x.2 : Int)) := rx 1 _ rfl
      clear rx hro hpw
      go_wp2_with (refine wpList_store_row rfl 81 _ _ rfl wr.heap.size #[.string ⟨x.1.toArray⟩, .int .i64 (x.2 : Int)] rfl rfl _ _ (alloc_new wr _) Try.sizeEnS rfl (by simp [Value.oneCell']) ?_; rw [World.setRow_alloc_new])
      obtain ⟨W8, hW8⟩ : ∃ W, Hid (wr.alloc (.cells #[.string ⟨x.1.toArray⟩, .int .i64 (x.2 : Int)] 81) = W) := ⟨_, hide rfl⟩
      rw [hW8.out]
      have b8 : Below wr.heap.size wr W8 := by rw [← hW8.out]; exact (Below.refl _ _).alloc (Nat.le_refl _) _
      have n8 : W8.heap[wr.heap.size]? = some (.cells #[.string ⟨x.1.toArray⟩, .int .i64 (x.2 : Int)] 81 (0, 0)) := by rw [← hW8.out]; exact alloc_new wr _
      have BW8 := hide (HR.out.2.trans (b8.mono HR.out.2.size))
      have hp8 := HP1.out.later BW8.out
      have bg := blk_lt hp8.hdr
      have gg : g < W8.heap.size := (hp8.row.lt g rfl).2
      have c0 : ∀ X : Gr W8, X.1.cell? ⟨hb, 0, none⟩ = some (.slice (some ⟨g, 0, none⟩) n cap) := fun X => (X.2.cell (p := ⟨hb, 0, none⟩) bg).trans hp8.c0
      have c1 : ∀ X : Gr W8, X.1.cell? ⟨hb, 1, none⟩ = some (.func (Fn.func 49) #[] #[.pointer (some ⟨lb, 0, none⟩)]) := fun X => (X.2.cell (p := ⟨hb, 1, none⟩) bg).trans hp8.c1
      have e0 : ∀ X : Gr W8, X.1.cell? ⟨wr.heap.size, 0, none⟩ = some (.string ⟨x.1.toArray⟩) := fun X => by rw [cell_of_row _ _ 0 _ _ _ (blk_later n8 X.2)]; rfl
      have e2 : ∀ X : Gr W8, X.1.cell? ⟨wr.heap.size, 1, none⟩ = some (.int .i64 (x.2 : Int)) := fun X => by rw [cell_of_row _ _ 1 _ _ _ (blk_later n8 X.2)]; rfl
      have HG0 := hide (drew_below (B := W8.heap.size) (w := W8))
      have hne : Nonempty (Gr W8) := ⟨⟨_, HG0.out⟩⟩
      have HI8 := hide (fun X : Gr W8 => HI.out.tells x.1 X.1 (BW8.out.trans (X.2.mono BW8.out.size)))
      unfold pv at HI8
      clear x0 x2 b8 n8 hW8
      cases hpx : p x.1 with
      | false =>
        rw [hpx] at HI8
        have HPX := hide hpx
        clear hpx hp8 bg gg
        refine region_class (C := fun w' => ∃ x : Gr W8, w' = x.1) (by kernel_rfl) (by kernel_rfl) ⟨⟨_, HG0.out⟩, rfl⟩ ?_
        repeat (first
          | go_big_quiet_skip
          | (go_big_quiet_want; (go_big_quiet_op; first
              | go_big_quiet_on
              | (apply Exists.intro; refine ⟨fun X => ?_, ?_⟩; (first | with_reducible exact X.call (HI8.out X)); go_big_quiet_on))))
        refine wpQuiet_nil ?_
        rintro w9 ⟨X, rfl⟩
        obtain ⟨w9, hx9⟩ := X
        dsimp only
        have H9 := hide (BW8.out.trans (hx9.mono BW8.out.size))
        clear c0 c1 e0 e2 hne hx9 HI8 HG0
        go_wp2_with fail
        go_roundw
        case rel => exact ⟨_, t + 1, rfl, by first | rfl | (rw [wt]; rfl), htn, hide ⟨HR.out.1.same HX.out (.inl HPX.out), H9.out⟩⟩
        case measure => first | exact meas_lt htn | (rw [wt]; exact meas_lt htn)
      | true =>
        rw [hpx] at HI8
        have HPX := hide hpx
        clear hpx
        rcases HR.out.1 with ⟨hF, _⟩ | ⟨m, y, hF, hmt, hy, _, _⟩
        · have HF := hide hF
          have d3 : decide (F < 0) = true := by rw [decide_eq_true_eq]; omega
          clear hF hp8 bg gg
          refine region_class (C := fun w' => ∃ x : Gr W8, w' = x.1) (by kernel_rfl) (by kernel_rfl) ⟨⟨_, HG0.out⟩, rfl⟩ ?_
          repeat (first
            | go_big_quiet_skip
            | (go_big_quiet_want; (go_big_quiet_op; first
                | go_big_quiet_on
                | (apply Exists.intro; refine ⟨fun X => ?_, ?_⟩; (first | with_reducible exact X.call (HI8.out X)); go_big_quiet_on))))
          refine wpQuiet_nil ?_
          rintro w9 ⟨X, rfl⟩
          obtain ⟨w9, hx9⟩ := X
          dsimp only
          have H9 := hide (BW8.out.trans (hx9.mono BW8.out.size))
          clear c0 c1 e0 e2 hne hx9 HI8 HG0 d3
          go_wp2_with fail
          go_roundw
          case rel => exact ⟨_, t + 1, rfl, by first | rfl | (rw [wt]; rfl), htn, hide ⟨HR.out.1.next HX.out HPX.out (.inl HF.out), H9.out⟩⟩
          case measure => first | exact meas_lt htn | (rw [wt]; exact meas_lt htn)
        · have HY := hide hy
          subst hF
          have d3 : decide ((m : Int) < 0) = false := by rw [decide_eq_false_iff_not]; omega
          have k2 : (0 : Int) ≤ (m : Int) := by omega
          have k3 : (m : Int) < (n : Int) := by omega
          have hro : OE W8 B (.slice (some ⟨g, 0, none⟩) E.length cap) E := by rw [hn.out]; exact hp8.row
          have ry := hro.range HY.out
          have y0 : ∀ X : Gr W8, X.1.cell? ⟨g, m * 2, none⟩ = some (.string ⟨y.1.toArray⟩) := fun X => (X.2.cell (p := ⟨g, _, none⟩) gg).trans (ry 0 _ rfl)
          have y2 : ∀ X : Gr W8, X.1.cell? ⟨g, m * 2 + 1, none⟩ = some (.int .i64 (y.2 : Int)) := fun X => (X.2.cell (p := ⟨g, _, none⟩) gg).trans (ry 1 _ rfl)
          have HA := hide (fun X : Gr W8 => ahead_any HL.out x y lb X.1 (blk_later hp8.les X.2))
          unfold ev at HA
          clear hy hro ry hp8 bg gg
          refine region_class (C := fun w' => ∃ x : Gr W8, w' = x.1) (by kernel_rfl) (by kernel_rfl) ⟨⟨_, HG0.out⟩, rfl⟩ ?_
          repeat (first
            | go_big_quiet_skip
            | (go_big_quiet_want; (go_big_quiet_op; first
                | go_big_quiet_on
                | (apply Exists.intro; refine ⟨fun X => ?_, ?_⟩; (first | with_reducible exact X.call (HI8.out X) | (go_at_call 49; exact X.call (HA.out X))); go_big_quiet_on))))
          refine wpQuiet_nil ?_
          rintro w9 ⟨X, rfl⟩
          obtain ⟨w9, hx9⟩ := X
          dsimp only
          have H9 := hide (BW8.out.trans (hx9.mono BW8.out.size))
          clear c0 c1 e0 e2 y0 y2 hne hx9 HI8 HG0 d3 HA
          cases hb9 : ltE k x y with
          | false =>
            have HB9 := hide hb9
            clear hb9
            go_wp2_with fail
            go_roundw
            case rel => exact ⟨_, t + 1, rfl, by first | rfl | (rw [wt]; rfl), htn, hide ⟨HR.out.1.same HX.out (.inr ⟨m, y, rfl, HY.out, HB9.out⟩), H9.out⟩⟩
            case measure => first | exact meas_lt htn | (rw [wt]; exact meas_lt htn)
          | true =>
            have HB9 := hide hb9
            clear hb9
            go_wp2_with fail
            go_roundw
            case rel => exact ⟨_, t + 1, rfl, by first | rfl | (rw [wt]; rfl), htn, hide ⟨HR.out.1.next HX.out HPX.out (.inr ⟨m, y, rfl, HY.out, HB9.out⟩), H9.out⟩⟩
            case measure => first | exact meas_lt htn | (rw [wt]; exact meas_lt htn)
    · have htn' : t = n := by omega
      have HTN := hide htn'
      have d1 : decide ((t : Int) < (n : Int)) = false := by rw [decide_eq_false_iff_not]; omega
      rcases HR.out.1 with ⟨hF, hno⟩ | ⟨m, y, hF, hmt, hy, hpy, hmin⟩
      · have HF := hide hno
        have d3 : decide (F < 0) = true := by rw [decide_eq_true_eq]; omega
        have B2 := hide HR.out.2
        clear hF hno htn'
        go_wp2_with fail
        go_ret2
        refine .inl ⟨rfl, ?_, B2.out⟩
        intro z hz
        obtain ⟨j, hj, rfl⟩ := List.mem_iff_getElem.1 hz
        exact HF.out j _ (by have := HTN.out; have := hn.out; omega) (List.getElem?_eq_getElem hj)
      · have d3 : decide ((m : Int) < 0) = false := by rw [decide_eq_false_iff_not]; omega
        have hpw := HP1.out.later HR.out.2
        have HT := hide (takeOut_any HL.out m y B hb lb _ E N wr hpw HKK.out hy HLE.out (by have := HBB.out; have := HR.out.2.size; omega))
        have HMM : Hid (y ∈ E ∧ p y.1 = true ∧ ∀ z ∈ E, p z.1 = true → ltE k z y = false) := hide ⟨List.mem_of_getElem? hy, hpy, fun z hz hpz => by
          obtain ⟨j, hj, rfl⟩ := List.mem_iff_getElem.1 hz
          exact hmin j _ (by have := HTN.out; have := hn.out; omega) (List.getElem?_eq_getElem hj) hpz⟩
        subst hF
        clear hmt hy hpy hmin hpw htn'
        go_wp2_with fail
        refine HT.out.mono ?_
        rintro e w2 ⟨rfl, v', E', g1, g2, g3, g4⟩
        have HE := hide (And.intro g3 ((Fq.of_below (hb := hb) HR.out.2).trans g4))
        have HG1 := hide g1
        have HG2 := hide g2
        clear g1 g2 g3 g4 HT
        unfold pv
        go_wp2_with fail
        go_ret2
        exact .inr ⟨y, rfl, HMM.out.1, HMM.out.2.1, HMM.out.2.2, _, _, HG1.out, HG2.out, HE.out.1, HE.out.2⟩
end Go.Proofs.Ytolmngjppnmkoaa.SG
