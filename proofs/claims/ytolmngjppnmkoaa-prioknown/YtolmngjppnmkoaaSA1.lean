/-
  My own text: entries of texts in memory; does one stand ahead of another, by the program (printed by mkstr.py).
-/
import Derived.Test.YtolmngjppnmkoaaPB3
namespace Go.Proofs.Ytolmngjppnmkoaa.SG
open Go.RowKit

abbrev St := List UInt8
abbrev En := St × Nat
/-- An entry's cells. -/
def e3 (e : En) : List Value := [.string ⟨e.1.toArray⟩, .int .i64 (e.2 : Int)]
def ec : List En → List Value
  | [] => []
  | e :: t => .string ⟨e.1.toArray⟩ :: .int .i64 (e.2 : Int) :: ec t
theorem ec_app (a b : List En) : ec (a ++ b) = ec a ++ ec b := by
  induction a with
  | nil => rfl
  | cons p t ih => show _ :: _ :: ec (t ++ b) = _; rw [ih]; rfl
theorem ec_len (a : List En) : (ec a).length = a.length * 2 := by
  induction a with
  | nil => rfl
  | cons p t ih => show (ec t).length + 1 + 1 = (t.length + 1) * 2; rw [ih]; omega
theorem ec_at : ∀ {a : List En} {j : Nat} {p : En}, a[j]? = some p → ∀ i u, (e3 p)[i]? = some u → (ec a)[j * 2 + i]? = some u
  | q :: t, 0, p, h, i, u, hu => by
    simp at h; subst h
    rw [Nat.zero_mul, Nat.zero_add]
    match i, hu with
    | 0, hu => exact hu
    | 1, hu => exact hu
  | q :: t, j + 1, p, h, i, u, hu => by
    have h' : t[j]? = some p := by simpa using h
    rw [show (j + 1) * 2 + i = j * 2 + i + 1 + 1 by omega]; exact ec_at h' i u hu
theorem ec_one : ∀ (l : List En), ∀ u ∈ ec l, u.oneCell' = true
  | p :: t, u, h => by
    rcases List.mem_cons.1 h with rfl | h
    · rfl
    · rcases List.mem_cons.1 h with rfl | h
      · rfl
      · exact ec_one t u h
theorem ec_set : ∀ (l : List En) (j : Nat) (e : En), ec (l.set j e) = ((ec l).set (j * 2) (.string ⟨e.1.toArray⟩)).set (j * 2 + 1) (.int .i64 (e.2 : Int))
  | [], j, e => by simp [ec]
  | q :: t, 0, e => rfl
  | q :: t, j + 1, e => by
    have := ec_set t j e
    rw [show (j + 1) * 2 = j * 2 + 1 + 1 by omega]
    simp only [List.set_cons_succ, ec, this]
theorem ec_take : ∀ (l : List En) (n : Nat), ec (l.take n) = (ec l).take (n * 2)
  | [], n => by simp [ec]
  | q :: t, 0 => rfl
  | q :: t, n + 1 => by
    rw [show (n + 1) * 2 = n * 2 + 1 + 1 by omega]
    simp only [List.take_succ_cons, ec, ec_take t n]
/-- A row of entries of one's own. -/
abbrev OE (w : World) (B : Nat) (v : Value) (E : List En) : Prop := w.ownsRow B 81 2 v E.length (ec E)
theorem OE.parts {w : World} {B : Nat} {v : Value} {E : List En} (h : OE w B v E) (hn : 0 < E.length) : ∃ g cap cur, v = .slice (some ⟨g, 0, none⟩) E.length cap ∧ B ≤ g ∧ w.heap[g]? = some (.cells cur 81 (0, 0)) ∧ E.length ≤ cap ∧ cap ≤ maxLen ∧ cur.size = cap * 2 ∧ cur.toList.take (E.length * 2) = ec E := by
  rcases h.2 with ⟨_, h0⟩ | h
  · omega
  · exact h
theorem OE.slc {w : World} {B : Nat} {v : Value} {E : List En} (h : OE w B v E) : ∃ a cap, v = .slice a E.length cap ∧ E.length ≤ cap := by
  rcases h.2 with ⟨rfl, h0⟩ | ⟨g, cap, cur, rfl, _, _, hc, _⟩
  · exact ⟨none, 0, by rw [h0], by omega⟩
  · exact ⟨_, _, rfl, hc⟩
theorem OE.range {w : World} {B : Nat} {g cap : Nat} {E : List En} (h : OE w B (.slice (some ⟨g, 0, none⟩) E.length cap) E) {j : Nat} {e : En} (hj : E[j]? = some e) : w.rangeAt g (j * 2) (e3 e) := fun i u hu => by
  have hjl := (List.getElem?_eq_some_iff.1 hj).1
  have hil : i < 2 := (List.getElem?_eq_some_iff.1 hu).1
  exact (World.ownsRow.cellAt h (j * 2 + i) (by omega)).trans (ec_at hj i u hu)
theorem OE.there {w : World} {B : Nat} {g cap : Nat} {E : List En} (h : OE w B (.slice (some ⟨g, 0, none⟩) E.length cap) E) {j : Nat} (hj : j < E.length) : w.there g (j * 2) 2 := fun i hi => by
  rcases h.2 with ⟨q, _⟩ | ⟨g', cap', cur, q, hb, hh, h1, h2, h3, h4⟩
  · cases q
  · cases q
    have : j * 2 + 2 ≤ cap * 2 := by omega
    have hlt : j * 2 + i < cur.size := by omega
    exact ⟨by rw [cell_of_row w g _ cur _ (0, 0) hh, Array.getElem?_eq_getElem hlt]; rfl, by unfold World.frozen?; simp [hh]⟩
theorem OE.set {w : World} {B : Nat} {g cap : Nat} {E : List En} (h : OE w B (.slice (some ⟨g, 0, none⟩) E.length cap) E) (j : Nat) (e : En) : OE (w.setCells g (j * 2) (e3 e)) B (.slice (some ⟨g, 0, none⟩) E.length cap) (E.set j e) := by
  rcases h.2 with ⟨q, _⟩ | ⟨g', cap', cur, q, hb, hh, h1, h2, h3, h4⟩
  · cases q
  · cases q
    have e1 := setCell_eq_setRow w g (j * 2) _ _ _ (.string ⟨e.1.toArray⟩) hh
    have q1 := setRow_heap w g cur (cur.setIfInBounds (j * 2) (.string ⟨e.1.toArray⟩)) _ _ hh
    rw [← e1] at q1
    have e2 := setCell_eq_setRow _ g (j * 2 + 1) _ _ _ (.int .i64 (e.2 : Int)) q1
    have q2 := setRow_heap _ g _ ((cur.setIfInBounds (j * 2) (.string ⟨e.1.toArray⟩)).setIfInBounds (j * 2 + 1) (.int .i64 (e.2 : Int))) _ _ q1
    rw [← e2] at q2
    refine ⟨by rw [ec_len], .inr ⟨g, cap, _, by rw [List.length_set], hb, q2, by rw [List.length_set]; exact h1, h2, by simp [h3], ?_⟩⟩
    rw [ec_set, ← h4, List.length_set]
    simp only [Array.toList_setIfInBounds]
    rw [List.take_set, List.take_set]
theorem OE.cut {w : World} {B : Nat} {g cap : Nat} {E : List En} (h : OE w B (.slice (some ⟨g, 0, none⟩) E.length cap) E) {n : Nat} (hn : n ≤ E.length) : OE w B (.slice (some ⟨g, 0, none⟩) n cap) (E.take n) := by
  rcases h.2 with ⟨q, _⟩ | ⟨g', cap', cur, q, hb, hh, h1, h2, h3, h4⟩
  · cases q
  · cases q
    have hl : (E.take n).length = n := by simp; omega
    refine ⟨by rw [ec_len], .inr ⟨g, cap, cur, by rw [hl], hb, hh, by rw [hl]; omega, h2, h3, ?_⟩⟩
    rw [ec_take, ← h4, List.take_take, hl, show min (n * 2) (E.length * 2) = n * 2 by omega]
theorem Try.sizeEnS : (Try.prog.info? 81).map (·.size) = some 2 := by kernel_rfl
theorem Try.infoEnS : (Try.prog.info? 81).map (fun i => (i.zero, i.size, i.bytes)) = some (some (.agg #[.string ⟨#[]⟩, .int .i64 0]), 2, 24) := by kernel_rfl
def pv (p : St) : Value := .string ⟨p.toArray⟩
def ev (e : En) : Value := .agg #[.string ⟨e.1.toArray⟩, .int .i64 (e.2 : Int)]
/-- A function that tells which of two texts is less, by a key. -/
structure LOk (lf : FuncId) (k : St → Int) : Prop where
  run : ∀ (W : World) (a : Array Value), (callFunc lf a).run Try.prog W = .ok (.enter lf a) W
  tells : ∀ (x y : St) (W : World), Calls Try.prog lf #[pv x, pv y] W fun e w' => e = .returned (.bool (decide (k x < k y))) ∧ Below W.heap.size W w'
set_option maxRecDepth 100000 in
set_option maxHeartbeats 1000000 in
theorem ahead_any {lf : FuncId} {k : St → Int} (hl : LOk lf k) (e f : En) (lb : Nat) (w : World) (hb : w.heap[lb]? = some (.cells #[.func (Fn.func lf) #[] #[]] 57 (0, 0))) :
    Calls Try.prog 49 #[ev e, ev f, .pointer (some ⟨lb, 0, none⟩)] w fun r w' => r = .returned (.bool (ltE k e f)) ∧ Below w.heap.size w w' := by
  obtain ⟨es, m⟩ := e
  obtain ⟨ft, n⟩ := f
  unfold ev
  dsimp only
  have cr := hl.run
  have cl : ((w.alloc (.cells #[.string ⟨es.toArray⟩, .int .i64 (m : Int)] 81)).alloc (.cells #[.string ⟨ft.toArray⟩, .int .i64 (n : Int)] 81)).cell? ⟨lb, 0, none⟩ = some (.func (Fn.func lf) #[] #[]) := by
    have h1 := blk_lt hb
    rw [World.cell?_alloc_lt _ _ _ (by simp; omega), World.cell?_alloc_lt _ _ _ (by simpa using h1), cell_of_row _ _ 0 _ _ _ hb]; rfl
  have BW := hide (((Below.refl w.heap.size w).alloc (Nat.le_refl _) (.cells #[.string ⟨es.toArray⟩, .int .i64 (m : Int)] 81)).alloc (by simp) (.cells #[.string ⟨ft.toArray⟩, .int .i64 (n : Int)] 81))
  have T1 := hide (fun W => hl.tells ft es W)
  have T2 := hide (fun W => hl.tells es ft W)
  unfold pv at T1 T2
  clear hb hl
  by_cases h : m < n
  · have d1 : decide ((m : Int) < (n : Int)) = true := by rw [decide_eq_true_eq]; omega
    have HE : Hid (ltE k (es, m) (ft, n) = !decide (k ft < k es)) := hide (by
      unfold ltE; rw [if_pos h, ← decide_not]; congr 1; simp)
    generalize decide (k ft < k es) = b at *
    clear T2
    go_enter Try.func49, Try.ntmps49
    go_wp2_with fail
    refine (T1.out _).mono ?_
    rintro r w2 ⟨rfl, hb2⟩
    have B2 := hide (BW.out.trans (hb2.mono (by simp; omega)))
    clear hb2 cl
    go_wp2_with fail
    go_ret
    exact ⟨by rw [HE.out]; rfl, B2.out⟩
  · have d1 : decide ((m : Int) < (n : Int)) = false := by rw [decide_eq_false_iff_not]; omega
    have HE : Hid (ltE k (es, m) (ft, n) = decide (k es < k ft)) := hide (by
      unfold ltE; rw [if_neg h])
    generalize decide (k es < k ft) = b at *
    clear T1
    go_enter Try.func49, Try.ntmps49
    go_wp2_with fail
    refine (T2.out _).mono ?_
    rintro r w2 ⟨rfl, hb2⟩
    have B2 := hide (BW.out.trans (hb2.mono (by simp; omega)))
    clear hb2 cl
    go_wp2_with fail
    go_ret
    exact ⟨by rw [HE.out]; rfl, B2.out⟩
end Go.Proofs.Ytolmngjppnmkoaa.SG
