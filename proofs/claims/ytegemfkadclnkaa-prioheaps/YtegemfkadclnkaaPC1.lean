/-
  My own text: the document's row: which stands ahead; the first.
-/
import Derived.Test.YtegemfkadclnkaaPB3
namespace Go.Proofs.Ytegemfkadclnkaa
open Go.RowKit

def kB (f : Bool) : Pr → Int := if f then kF else kR
def fs (R : List En) : List Pr := R.map (·.1)
theorem fs_len (R : List En) : (fs R).length = R.length := List.length_map ..
theorem fs_at {R : List En} {j : Nat} {e : En} (h : R[j]? = some e) : (fs R)[j]? = some e.1 := by unfold fs; rw [List.getElem?_map, h]; rfl
theorem Rs.lt_at : ∀ {R : List En} {n i j : Nat} {a b : En}, Rs n R → i < j → R[i]? = some a → R[j]? = some b → a.2 < b.2
  | e :: t, n, 0, j + 1, a, b, h, _, ha, hb => by
    have h1 : e = a := by simpa using ha
    subst h1
    have := Rs.ge h.2 b (List.mem_of_getElem? (by simpa using hb : t[j]? = some b))
    omega
  | e :: t, n, i + 1, j + 1, a, b, h, hij, ha, hb => Rs.lt_at (i := i) (j := j) h.2 (by omega) (by simpa using ha) (by simpa using hb)
/-- The document's row in memory. -/
structure RQ (w : World) (B rb : Nat) (f : Bool) (v : Value) (R : List En) : Prop where
  hdr : w.heap[rb]? = some (.cells #[.bool f, v] 31 (0, 0))
  row : OM w B v (fs R)
  bw : B ≤ w.heap.size
  bh : B ≤ rb
theorem om_ne {w : World} {B : Nat} {v : Value} {L : List Pr} (h : OM w B v L) {b : Nat} {cs : Array Value} {t : TypeId} {fz : Nat × Nat} (hb : w.heap[b]? = some (.cells cs t fz)) (ht : t ≠ 25) : some b ≠ v.ownBlock := by
  rcases h.2 with ⟨rfl, _⟩ | ⟨g, cap, cur, rfl, _, hh, _⟩
  · intro e; cases e
  · intro e; injection e with e; subst e
    rw [hh] at hb; injection hb with hb; injection hb with _ hb; exact ht hb.symm
theorem RQ.later {w w' : World} {B rb : Nat} {f : Bool} {v : Value} {R : List En} (h : RQ w B rb f v R) (hb : Below w.heap.size w w') : RQ w' B rb f v R :=
  ⟨blk_later h.hdr hb, owns_lat h.row hb, Nat.le_trans h.bw hb.size, h.bh⟩
theorem RQ.c0 {w : World} {B rb : Nat} {f : Bool} {v : Value} {R : List En} (h : RQ w B rb f v R) : w.cell? ⟨rb, 0, none⟩ = some (.bool f) := by rw [cell_of_row _ _ 0 _ _ _ h.hdr]; rfl
theorem RQ.c1 {w : World} {B rb : Nat} {f : Bool} {v : Value} {R : List En} (h : RQ w B rb f v R) : w.cell? ⟨rb, 1, none⟩ = some v := by rw [cell_of_row _ _ 1 _ _ _ h.hdr]; rfl
theorem OM.cellsP {w : World} {B g cap n : Nat} {L : List Pr} (h : OM w B (.slice (some ⟨g, 0, none⟩) n cap) L) {j : Nat} {p : Pr} (hj : L[j]? = some p) : g < w.heap.size ∧ w.cell? ⟨g, j * 2, none⟩ = some (.int .i64 p.1) ∧ w.cell? ⟨g, j * 2 + 1, none⟩ = some (.int .i64 p.2) := by
  obtain ⟨a, c, hv, _, hc⟩ := h.rm
  rcases hc with e | ⟨b, off, ha, hb, hc⟩
  · rw [e] at hj; simp at hj
  · injection hv with e1
    rw [ha] at e1; injection e1 with e1; injection e1 with e1 e2
    subst e1 e2
    have := hc j p hj
    rw [Nat.zero_add] at this
    exact ⟨hb, this.1, this.2⟩
set_option maxRecDepth 100000 in
set_option maxHeartbeats 1000000 in
theorem rahead_any (f : Bool) (x y : Pr) (rb : Nat) (w : World) (h : w.cell? ⟨rb, 0, none⟩ = some (.bool f)) :
    Calls Try.prog 31 #[.pointer (some ⟨rb, 0, none⟩), pv x, pv y] w fun e w' => e = .returned (.bool (decide (kB f x < kB f y))) ∧ Below w.heap.size w w' := by
  obtain ⟨x1, x2⟩ := x
  obtain ⟨y1, y2⟩ := y
  unfold pv
  dsimp only
  have hl := World.block_lt_of_cell? _ _ h
  have B0 := hide (((Below.refl w.heap.size w).alloc (Nat.le_refl _) (.cells #[.int .i64 x1, .int .i64 x2] 25)).alloc (by simp) (.cells #[.int .i64 y1, .int .i64 y2] 25))
  have c0 : ((w.alloc (.cells #[.int .i64 x1, .int .i64 x2] 25)).alloc (.cells #[.int .i64 y1, .int .i64 y2] 25)).cell? ⟨rb, 0, none⟩ = some (.bool f) := (B0.out.cell (p := ⟨rb, 0, none⟩) hl).trans h
  clear h hl
  cases f with
  | true =>
    have e : decide (kB true (x1, x2) < kB true (y1, y2)) = decide (y1 < x1) := by congr 1; show (-x1 < -y1) = _; simp
    rw [e]
    cases d : decide (y1 < x1)
    all_goals
      go_enter Try.func31, Try.ntmps31
      go_wp2_with fail
      go_ret
      exact ⟨rfl, B0.out⟩
  | false =>
    have e : decide (kB false (x1, x2) < kB false (y1, y2)) = decide (x1 < y1) := rfl
    rw [e]
    cases d : decide (x1 < y1)
    all_goals
      go_enter Try.func31, Try.ntmps31
      go_wp2_with fail
      go_ret
      exact ⟨rfl, B0.out⟩
def pW (any : Bool) (wanted : Int) (x : Pr) : Bool := any || x.2 == wanted
set_option maxRecDepth 100000 in
set_option maxHeartbeats 8000000 in
theorem first_any (f any : Bool) (wanted : Int) (B rb : Nat) (v : Value) (R : List En) (w : World) (h : RQ w B rb f v R) (hr : Rs 0 R) (hlen : R.length ≤ 8796093022208) :
    Calls Try.prog 26 #[.pointer (some ⟨rb, 0, none⟩), .bool any, .int .i64 wanted] w fun e w' => ∃ F, e = .returned (.int .i64 F) ∧ RmS (kB f) (pW any wanted) R R.length F ∧ Below w.heap.size w w' := by
  have HH := hide h
  have HRS := hide hr
  have HLE := hide hlen
  obtain ⟨a, cap, hv⟩ := rm_lt h.row.rm
  rw [fs_len] at hv
  subst hv
  have H0 : Hid (RmS (kB f) (pW any wanted) R 0 (-1) ∧ Below w.heap.size w w) := hide ⟨RmS.zero _ _ _, Below.refl _ _⟩
  obtain ⟨n, hn⟩ : ∃ n, Hid (R.length = n) := ⟨_, hide rfl⟩
  rw [hn.out] at HH ⊢
  clear h hr hlen
  go_enter Try.func26, Try.ntmps26
  go_wp2_with fail
  go_loopw [7, 8] (fun i j wr => ∃ (F : Int) (t : Nat), i = .int .i64 F ∧ j = .int .i64 (t : Int) ∧ t ≤ n ∧ Hid (RmS (kB f) (pW any wanted) R t F ∧ Below w.heap.size w wr)) (fun _ j _ => n - (intOf j).toNat)
  case atStart => exact ⟨-1, 0, rfl, rfl, by omega, H0⟩
  case round =>
    obtain ⟨F, t, rfl, rfl, ht, HR⟩ := hrel
    have hw := HH.out.later HR.out.2
    have c1 := hw.c1
    by_cases htn : t < n
    · have d1 : decide ((t : Int) < (n : Int)) = true := by rw [decide_eq_true_eq]; omega
      have k0 : (0 : Int) ≤ (t : Int) := by omega
      have k1 : (t : Int) < (n : Int) := by omega
      have wt : wrap64 ((t : Int) + 1) = (t : Int) + 1 := wrap_up htn (by have := HLE.out; have := hn.out; omega)
      obtain ⟨x, hx⟩ : ∃ x, R[t]? = some x := ⟨_, List.getElem?_eq_getElem (by rw [hn.out]; exact htn)⟩
      have HX := hide hx
      obtain ⟨g, hag⟩ : ∃ g, a = some ⟨g, 0, none⟩ := by
        rcases hw.row.2 with ⟨e, _⟩ | ⟨g, _, _, e, _⟩
        · injection e with _ e; omega
        · injection e with e; exact ⟨g, e⟩
      subst hag
      obtain ⟨gl, x0, x1⟩ := hw.row.cellsP (fs_at hx)
      have HGL := hide gl
      have HW := hide hw
      cases hpx : pW any wanted x.1 with
      | false =>
        have HPX := hide hpx
        have ha : any = false := by unfold pW at hpx; cases any <;> simp_all
        have hq : (x.1.2 == wanted) = false := by unfold pW at hpx; cases any <;> simp_all
        have hq' : ¬ x.1.2 = wanted := by simpa using hq
        subst ha
        clear hpx gl hw hx
        go_wp2_with fail
        go_roundw
        case rel => exact ⟨_, t + 1, rfl, by first | rfl | (rw [wt]; rfl), htn, hide ⟨HR.out.1.same HX.out (.inl HPX.out), HR.out.2⟩⟩
        case measure => first | exact meas_lt htn | (rw [wt]; exact meas_lt htn)
      | true =>
        have HPX := hide hpx
        have HC0 := hide hw.c0
        have bg := blk_lt hw.hdr
        have z0 : ∀ X : Gr wr, X.1.cell? ⟨rb, 1, none⟩ = some (.slice (some ⟨g, 0, none⟩) n cap) := fun X => (X.2.cell (p := ⟨rb, 1, none⟩) bg).trans c1
        have z1 : ∀ X : Gr wr, X.1.cell? ⟨g, t * 2, none⟩ = some (.int .i64 x.1.1) := fun X => (X.2.cell (p := ⟨g, _, none⟩) HGL.out).trans x0
        have z2 : ∀ X : Gr wr, X.1.cell? ⟨g, t * 2 + 1, none⟩ = some (.int .i64 x.1.2) := fun X => (X.2.cell (p := ⟨g, _, none⟩) HGL.out).trans x1
        have HG0 := hide (drew_below (B := wr.heap.size) (w := wr))
        have hne : Nonempty (Gr wr) := ⟨⟨_, HG0.out⟩⟩
        have hcase : any = true ∨ (any = false ∧ x.1.2 = wanted) := by unfold pW at hpx; cases any <;> simp_all
        have hF : (F = -1) ∨ ∃ (m : Nat) (y : En), F = (m : Int) ∧ m < t ∧ R[m]? = some y := by
          rcases HR.out.1 with ⟨e, _⟩ | ⟨m, y, e, e2, e3, _⟩
          · exact .inl e
          · exact .inr ⟨m, y, e, e2, e3⟩
        clear hpx gl hx
        rcases hF with hF | ⟨m, y, hF, hmt, hy⟩
        · have HF := hide hF
          have d3 : decide (F < 0) = true := by rw [decide_eq_true_eq]; omega
          clear hF hw bg
          rcases hcase with rfl | ⟨rfl, hq⟩
          · go_wp2_with fail
            refine region_class (C := fun w' => ∃ x : Gr wr, w' = x.1) (by kernel_rfl) (by kernel_rfl) ⟨⟨_, HG0.out⟩, rfl⟩ ?_
            repeat (first
              | go_big_quiet_skip
              | (go_big_quiet_want; (go_big_quiet_op; go_big_quiet_on)))
            refine wpQuiet_nil ?_
            rintro w9 ⟨X, rfl⟩
            obtain ⟨w9, hx9⟩ := X
            dsimp only
            have H9 := hide (HR.out.2.trans (hx9.mono HR.out.2.size))
            clear z0 z1 z2 hne hx9 HG0 d3 x0 x1 c1
            go_wp2_with fail
            go_roundw
            case rel => exact ⟨_, t + 1, rfl, by first | rfl | (rw [wt]; rfl), htn, hide ⟨HR.out.1.next HX.out HPX.out (.inl HF.out), H9.out⟩⟩
            case measure => first | exact meas_lt htn | (rw [wt]; exact meas_lt htn)
          · have hq1 : (x.1.2 == wanted) = true := by simpa using hq
            have HQW := hide hq
            clear hq
            go_wp2_with fail
            refine region_class (C := fun w' => ∃ x : Gr wr, w' = x.1) (by kernel_rfl) (by kernel_rfl) ⟨⟨_, HG0.out⟩, rfl⟩ ?_
            repeat (first
              | go_big_quiet_skip
              | (go_big_quiet_want; (go_big_quiet_op; go_big_quiet_on)))
            refine wpQuiet_nil ?_
            rintro w9 ⟨X, rfl⟩
            obtain ⟨w9, hx9⟩ := X
            dsimp only
            have H9 := hide (HR.out.2.trans (hx9.mono HR.out.2.size))
            clear z0 z1 z2 hne hx9 HG0 d3 x0 x1 c1
            go_wp2_with fail
            go_roundw
            case rel => exact ⟨_, t + 1, rfl, by first | rfl | (rw [wt]; rfl), htn, hide ⟨HR.out.1.next HX.out HPX.out (.inl HF.out), H9.out⟩⟩
            case measure => first | exact meas_lt htn | (rw [wt]; exact meas_lt htn)
        · have HY := hide hy
          subst hF
          have d3 : decide ((m : Int) < 0) = false := by rw [decide_eq_false_iff_not]; omega
          have k2 : (0 : Int) ≤ (m : Int) := by omega
          have k3 : (m : Int) < (n : Int) := by omega
          obtain ⟨_, y0, y1⟩ := hw.row.cellsP (fs_at hy)
          have y0' : ∀ X : Gr wr, X.1.cell? ⟨g, m * 2, none⟩ = some (.int .i64 y.1.1) := fun X => (X.2.cell (p := ⟨g, _, none⟩) HGL.out).trans y0
          have y1' : ∀ X : Gr wr, X.1.cell? ⟨g, m * 2 + 1, none⟩ = some (.int .i64 y.1.2) := fun X => (X.2.cell (p := ⟨g, _, none⟩) HGL.out).trans y1
          have HLT : Hid (ltE (kB f) x y = decide (kB f x.1 < kB f y.1)) := hide (by
            have := Rs.lt_at HRS.out hmt hy HX.out
            unfold ltE; rw [if_neg (by omega)])
          have HA := hide (fun X : Gr wr => rahead_any f x.1 y.1 rb X.1 ((X.2.cell (p := ⟨rb, 0, none⟩) (World.block_lt_of_cell? _ _ HC0.out)).trans HC0.out))
          unfold pv at HA
          rw [← HLT.out] at HA
          clear hy hw bg y0 y1
          rcases hcase with rfl | ⟨rfl, hq⟩
          · go_wp2_with fail
            refine region_class (C := fun w' => ∃ x : Gr wr, w' = x.1) (by kernel_rfl) (by kernel_rfl) ⟨⟨_, HG0.out⟩, rfl⟩ ?_
            repeat (first
              | go_big_quiet_skip
              | (go_big_quiet_want; (go_big_quiet_op; first
                        | go_big_quiet_on
                        | (apply Exists.intro; refine ⟨fun X => ?_, ?_⟩; (go_at_call 31; exact X.call (HA.out X)); go_big_quiet_on))))
            refine wpQuiet_nil ?_
            rintro w9 ⟨X, rfl⟩
            obtain ⟨w9, hx9⟩ := X
            dsimp only
            have H9 := hide (HR.out.2.trans (hx9.mono HR.out.2.size))
            clear z0 z1 z2 hne hx9 HG0 d3 x0 x1 c1 y0' y1' HA
            cases hb9 : ltE (kB f) x y with
            | false =>
              have HB9 := hide hb9
              clear hb9
              go_wp2_with fail
              go_roundw
              case rel => exact ⟨_, t + 1, rfl, by first | rfl | (rw [wt]; rfl), htn, hide ⟨HR.out.1.same HX.out (.inr ⟨m, y, rfl, HY.out, HB9.out⟩), H9.out⟩⟩
              case measure => first | exact meas_lt htn | (rw [wt]; exact meas_lt htn)
            | true =>
              have HB9 := hide hb9
              clear hb9
              go_wp2_with fail
              go_roundw
              case rel => exact ⟨_, t + 1, rfl, by first | rfl | (rw [wt]; rfl), htn, hide ⟨HR.out.1.next HX.out HPX.out (.inr ⟨m, y, rfl, HY.out, HB9.out⟩), H9.out⟩⟩
              case measure => first | exact meas_lt htn | (rw [wt]; exact meas_lt htn)
          · have hq1 : (x.1.2 == wanted) = true := by simpa using hq
            have HQW := hide hq
            clear hq
            go_wp2_with fail
            refine region_class (C := fun w' => ∃ x : Gr wr, w' = x.1) (by kernel_rfl) (by kernel_rfl) ⟨⟨_, HG0.out⟩, rfl⟩ ?_
            repeat (first
              | go_big_quiet_skip
              | (go_big_quiet_want; (go_big_quiet_op; first
                        | go_big_quiet_on
                        | (apply Exists.intro; refine ⟨fun X => ?_, ?_⟩; (go_at_call 31; exact X.call (HA.out X)); go_big_quiet_on))))
            refine wpQuiet_nil ?_
            rintro w9 ⟨X, rfl⟩
            obtain ⟨w9, hx9⟩ := X
            dsimp only
            have H9 := hide (HR.out.2.trans (hx9.mono HR.out.2.size))
            clear z0 z1 z2 hne hx9 HG0 d3 x0 x1 c1 y0' y1' HA
            cases hb9 : ltE (kB f) x y with
            | false =>
              have HB9 := hide hb9
              clear hb9
              go_wp2_with fail
              go_roundw
              case rel => exact ⟨_, t + 1, rfl, by first | rfl | (rw [wt]; rfl), htn, hide ⟨HR.out.1.same HX.out (.inr ⟨m, y, rfl, HY.out, HB9.out⟩), H9.out⟩⟩
              case measure => first | exact meas_lt htn | (rw [wt]; exact meas_lt htn)
            | true =>
              have HB9 := hide hb9
              clear hb9
              go_wp2_with fail
              go_roundw
              case rel => exact ⟨_, t + 1, rfl, by first | rfl | (rw [wt]; rfl), htn, hide ⟨HR.out.1.next HX.out HPX.out (.inr ⟨m, y, rfl, HY.out, HB9.out⟩), H9.out⟩⟩
              case measure => first | exact meas_lt htn | (rw [wt]; exact meas_lt htn)
    · have htn' : t = n := by omega
      have HTN := hide htn'
      have d1 : decide ((t : Int) < (n : Int)) = false := by rw [decide_eq_false_iff_not]; omega
      clear htn'
      go_wp2_with fail
      go_ret
      refine ⟨F, rfl, ?_, HR.out.2⟩
      rw [← HTN.out]; exact HR.out.1
end Go.Proofs.Ytegemfkadclnkaa
