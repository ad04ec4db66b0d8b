/-
  My own text: entries of pairs in memory; does one stand ahead of another, by the program.
-/
import Derived.Test.YtegemfkadclnkaaPM1
import Derived.Test.YtegemfkadclnkaaGr0
import Derived.Test.YtegemfkadclnkaaQRz
import Derived.Test.YtegemfkadclnkaaQT2
import Derived.BigQuiet
import Derived.Deep.QuietTactic
import Derived.ArgAppend
import Derived.Deep.MidRow
import Derived.Deep.Onto
namespace Go.Proofs.Ytegemfkadclnkaa
open Go.RowKit

abbrev Pr := Int × Int
abbrev En := Pr × Nat
/-- An entry's cells. -/
def e3 (e : En) : List Value := [.int .i64 e.1.1, .int .i64 e.1.2, .int .i64 (e.2 : Int)]
def ec : List En → List Value
  | [] => []
  | e :: t => .int .i64 e.1.1 :: .int .i64 e.1.2 :: .int .i64 (e.2 : Int) :: ec t
theorem ec_app (a b : List En) : ec (a ++ b) = ec a ++ ec b := by
  induction a with
  | nil => rfl
  | cons p t ih => show _ :: _ :: _ :: ec (t ++ b) = _; rw [ih]; rfl
theorem ec_len (a : List En) : (ec a).length = a.length * 3 := by
  induction a with
  | nil => rfl
  | cons p t ih => show (ec t).length + 1 + 1 + 1 = (t.length + 1) * 3; rw [ih]; omega
theorem ec_at : ∀ {a : List En} {j : Nat} {p : En}, a[j]? = some p → ∀ i u, (e3 p)[i]? = some u → (ec a)[j * 3 + i]? = some u
  | q :: t, 0, p, h, i, u, hu => by
    simp at h; subst h
    rw [Nat.zero_mul, Nat.zero_add]
    match i, hu with
    | 0, hu => exact hu
    | 1, hu => exact hu
    | 2, hu => exact hu
  | q :: t, j + 1, p, h, i, u, hu => by
    have h' : t[j]? = some p := by simpa using h
    rw [show (j + 1) * 3 + i = j * 3 + i + 1 + 1 + 1 by omega]; exact ec_at h' i u hu
theorem ec_one : ∀ (l : List En), ∀ u ∈ ec l, u.oneCell' = true
  | p :: t, u, h => by
    rcases List.mem_cons.1 h with rfl | h
    · rfl
    · rcases List.mem_cons.1 h with rfl | h
      · rfl
      · rcases List.mem_cons.1 h with rfl | h
        · rfl
        · exact ec_one t u h
theorem ec_set : ∀ (l : List En) (j : Nat) (e : En), ec (l.set j e) = (((ec l).set (j * 3) (.int .i64 e.1.1)).set (j * 3 + 1) (.int .i64 e.1.2)).set (j * 3 + 2) (.int .i64 (e.2 : Int))
  | [], j, e => by simp [ec]
  | q :: t, 0, e => rfl
  | q :: t, j + 1, e => by
    have := ec_set t j e
    rw [show (j + 1) * 3 = j * 3 + 1 + 1 + 1 by omega, show j * 3 + 1 + 1 + 1 + 1 = j * 3 + 1 + 1 + 1 + 1 by rfl, show j * 3 + 1 + 1 + 1 + 2 = j * 3 + 2 + 1 + 1 + 1 by omega]
    simp only [List.set_cons_succ, ec, this]
theorem ec_take : ∀ (l : List En) (n : Nat), ec (l.take n) = (ec l).take (n * 3)
  | [], n => by simp [ec]
  | q :: t, 0 => rfl
  | q :: t, n + 1 => by
    rw [show (n + 1) * 3 = n * 3 + 1 + 1 + 1 by omega]
    simp only [List.take_succ_cons, ec, ec_take t n]
/-- A row of entries of one's own. -/
abbrev OE (w : World) (B : Nat) (v : Value) (E : List En) : Prop := w.ownsRow B 51 3 v E.length (ec E)
theorem owns_later {B : Nat} {e : TypeId} {k : Nat} {v : Value} {n : Nat} {xs : List Value} {w w' : World} (h : w.ownsRow B e k v n xs) (hb : ∀ g, v.ownBlock = some g → w'.heap[g]? = w.heap[g]?) : w'.ownsRow B e k v n xs := by
  refine ⟨h.1, ?_⟩
  rcases h.2 with h2 | ⟨g, cap, cur, hv, hg, hh, h3⟩
  · exact .inl h2
  · exact .inr ⟨g, cap, cur, hv, hg, (hb g (by rw [hv]; rfl)).trans hh, h3⟩
theorem OE.parts {w : World} {B : Nat} {v : Value} {E : List En} (h : OE w B v E) (hn : 0 < E.length) : ∃ g cap cur, v = .slice (some ⟨g, 0, none⟩) E.length cap ∧ B ≤ g ∧ w.heap[g]? = some (.cells cur 51 (0, 0)) ∧ E.length ≤ cap ∧ cap ≤ maxLen ∧ cur.size = cap * 3 ∧ cur.toList.take (E.length * 3) = ec E := by
  rcases h.2 with ⟨_, h0⟩ | h
  · omega
  · exact h
theorem OE.slc {w : World} {B : Nat} {v : Value} {E : List En} (h : OE w B v E) : ∃ a cap, v = .slice a E.length cap ∧ E.length ≤ cap := by
  rcases h.2 with ⟨rfl, h0⟩ | ⟨g, cap, cur, rfl, _, _, hc, _⟩
  · exact ⟨none, 0, by rw [h0], by omega⟩
  · exact ⟨_, _, rfl, hc⟩
theorem OE.range {w : World} {B : Nat} {g cap : Nat} {E : List En} (h : OE w B (.slice (some ⟨g, 0, none⟩) E.length cap) E) {j : Nat} {e : En} (hj : E[j]? = some e) : w.rangeAt g (j * 3) (e3 e) := fun i u hu => by
  have hjl := (List.getElem?_eq_some_iff.1 hj).1
  have hil : i < 3 := (List.getElem?_eq_some_iff.1 hu).1
  exact (World.ownsRow.cellAt h (j * 3 + i) (by omega)).trans (ec_at hj i u hu)
theorem OE.there {w : World} {B : Nat} {g cap : Nat} {E : List En} (h : OE w B (.slice (some ⟨g, 0, none⟩) E.length cap) E) {j : Nat} (hj : j < E.length) : w.there g (j * 3) 3 := fun i hi => by
  rcases h.2 with ⟨q, _⟩ | ⟨g', cap', cur, q, hb, hh, h1, h2, h3, h4⟩
  · cases q
  · cases q
    have : j * 3 + 3 ≤ cap * 3 := by omega
    have hlt : j * 3 + i < cur.size := by omega
    exact ⟨by rw [cell_of_row w g _ cur _ (0, 0) hh, Array.getElem?_eq_getElem hlt]; rfl, by unfold World.frozen?; simp [hh]⟩
theorem OE.set {w : World} {B : Nat} {g cap : Nat} {E : List En} (h : OE w B (.slice (some ⟨g, 0, none⟩) E.length cap) E) (j : Nat) (e : En) : OE (w.setCells g (j * 3) (e3 e)) B (.slice (some ⟨g, 0, none⟩) E.length cap) (E.set j e) := by
  rcases h.2 with ⟨q, _⟩ | ⟨g', cap', cur, q, hb, hh, h1, h2, h3, h4⟩
  · cases q
  · cases q
    have e1 := setCell_eq_setRow w g (j * 3) _ _ _ (.int .i64 e.1.1) hh
    have q1 := setRow_heap w g cur (cur.setIfInBounds (j * 3) (.int .i64 e.1.1)) _ _ hh
    rw [← e1] at q1
    have e2 := setCell_eq_setRow _ g (j * 3 + 1) _ _ _ (.int .i64 e.1.2) q1
    have q2 := setRow_heap _ g _ ((cur.setIfInBounds (j * 3) (.int .i64 e.1.1)).setIfInBounds (j * 3 + 1) (.int .i64 e.1.2)) _ _ q1
    rw [← e2] at q2
    have e4 := setCell_eq_setRow _ g (j * 3 + 1 + 1) _ _ _ (.int .i64 (e.2 : Int)) q2
    have q4 := setRow_heap _ g _ (((cur.setIfInBounds (j * 3) (.int .i64 e.1.1)).setIfInBounds (j * 3 + 1) (.int .i64 e.1.2)).setIfInBounds (j * 3 + 1 + 1) (.int .i64 (e.2 : Int))) _ _ q2
    rw [← e4] at q4
    refine ⟨by rw [ec_len], .inr ⟨g, cap, _, by rw [List.length_set], hb, q4, by rw [List.length_set]; exact h1, h2, by simp [h3], ?_⟩⟩
    rw [ec_set, ← h4, List.length_set]
    simp only [Array.toList_setIfInBounds]
    rw [List.take_set, List.take_set, List.take_set]
theorem OE.cut {w : World} {B : Nat} {g cap : Nat} {E : List En} (h : OE w B (.slice (some ⟨g, 0, none⟩) E.length cap) E) {n : Nat} (hn : n ≤ E.length) : OE w B (.slice (some ⟨g, 0, none⟩) n cap) (E.take n) := by
  rcases h.2 with ⟨q, _⟩ | ⟨g', cap', cur, q, hb, hh, h1, h2, h3, h4⟩
  · cases q
  · cases q
    have hl : (E.take n).length = n := by simp; omega
    refine ⟨by rw [ec_len], .inr ⟨g, cap, cur, by rw [hl], hb, hh, by rw [hl]; omega, h2, h3, ?_⟩⟩
    rw [ec_take, ← h4, List.take_take, hl, show min (n * 3) (E.length * 3) = n * 3 by omega]
theorem sc_heap (g : Nat) : ∀ (vs : List Value) (o : Nat) (w : World) (x : Nat), x ≠ g → (w.setCells g o vs).heap[x]? = w.heap[x]?
  | [], _, _, _, _ => rfl
  | v :: r, o, w, x, hx => by rw [World.setCells, sc_heap g r (o + 1) _ x hx, Below.heap_setCell _ _ _ x hx]
theorem sc_size : ∀ (vs : List Value) (g o : Nat) (w : World), (w.setCells g o vs).heap.size = w.heap.size
  | [], _, _, _ => rfl
  | v :: r, g, o, w => by rw [World.setCells, sc_size r g (o + 1)]; simp [World.setCell]
theorem sc_rest : ∀ (vs : List Value) (g o : Nat) (w : World), (w.setCells g o vs).os = w.os ∧ (w.setCells g o vs).tape = w.tape ∧ (w.setCells g o vs).output = w.output
  | [], _, _, _ => ⟨rfl, rfl, rfl⟩
  | v :: r, g, o, w => by rw [World.setCells]; exact sc_rest r g (o + 1) _
theorem sc_grown (w : World) (g o : Nat) (vs : List Value) : w.grownBy (w.setCells g o vs) (some g) :=
  ⟨(sc_rest vs g o w).1, (sc_rest vs g o w).2.1, (sc_rest vs g o w).2.2, by rw [sc_size]; exact Nat.le_refl _, fun x _ hx => sc_heap g vs o w x (fun e => hx (by rw [e]))⟩
theorem gb_refl (w : World) (r : Option Nat) : w.grownBy w r := ⟨rfl, rfl, rfl, Nat.le_refl _, fun _ _ _ => rfl⟩
theorem gb_drew {w w' : World} {r : Option Nat} (h : w.drew.grownBy w' r) : w.grownBy w' r := ⟨h.os, h.tape, h.output, h.size, h.block⟩
theorem gb_trans {w w' w'' : World} {r : Option Nat} (h : w.grownBy w' r) (h' : w'.grownBy w'' r) : w.grownBy w'' r :=
  ⟨h'.os.trans h.os, h'.tape.trans h.tape, h'.output.trans h.output, Nat.le_trans h.size h'.size, fun k hk hr => (h'.block k (Nat.lt_of_lt_of_le hk h.size) hr).trans (h.block k hk hr)⟩
theorem gb_below {w w' : World} (r : Option Nat) (h : Below w.heap.size w w') : w.grownBy w' r := ⟨h.os, h.tape, h.output, h.size, fun k hk _ => h.block k hk⟩
theorem below_gb {w w' : World} {B : Nat} {r : Option Nat} (h : w.grownBy w' r) (hB : B ≤ w.heap.size) (hr : ∀ g, r = some g → B ≤ g) : Below B w w' :=
  ⟨h.os, h.tape, h.output, h.size, fun k hk => h.block k (by omega) (fun e => by have := hr k e.symm; omega)⟩
theorem blk_lt {w : World} {g : Nat} {o : Obj} (h : w.heap[g]? = some o) : g < w.heap.size := (Array.getElem?_eq_some_iff.1 h).1
theorem blk_later {w w' : World} {g : Nat} {o : Obj} (h : w.heap[g]? = some o) (hb : Below w.heap.size w w') : w'.heap[g]? = some o := (hb.block g (blk_lt h)).trans h
theorem Try.sizeEn : (Try.prog.info? 51).map (·.size) = some 3 := by kernel_rfl
theorem Try.sizePr : (Try.prog.info? 25).map (·.size) = some 2 := by kernel_rfl
theorem Try.infoEn : (Try.prog.info? 51).map (fun i => (i.zero, i.size, i.bytes)) = some (some (.agg #[.int .i64 0, .int .i64 0, .int .i64 0]), 3, 24) := by kernel_rfl
/-- A pair as a value, an entry as a value. -/
def pv (p : Pr) : Value := .agg #[.int .i64 p.1, .int .i64 p.2]
def ev (e : En) : Value := .agg #[.int .i64 e.1.1, .int .i64 e.1.2, .int .i64 (e.2 : Int)]
/-- A function that tells which of two pairs is less, by a key. -/
structure LOk (lf : FuncId) (k : Pr → Int) : Prop where
  run : ∀ (W : World) (a : Array Value), (callFunc lf a).run Try.prog W = .ok (.enter lf a) W
  tells : ∀ (x y : Pr) (W : World), Calls Try.prog lf #[pv x, pv y] W fun e w' => e = .returned (.bool (decide (k x < k y))) ∧ Below W.heap.size W w'
set_option maxRecDepth 100000 in
set_option maxHeartbeats 1000000 in
theorem ahead_any {lf : FuncId} {k : Pr → Int} (hl : LOk lf k) (e f : En) (lb : Nat) (w : World) (hb : w.heap[lb]? = some (.cells #[.func (Fn.func lf) #[] #[]] 26 (0, 0))) :
    Calls Try.prog 23 #[ev e, ev f, .pointer (some ⟨lb, 0, none⟩)] w fun r w' => r = .returned (.bool (ltE k e f)) ∧ Below w.heap.size w w' := by
  obtain ⟨⟨e1, e2⟩, m⟩ := e
  obtain ⟨⟨f1, f2⟩, n⟩ := f
  unfold ev
  dsimp only
  have cr := hl.run
  have cl : ((w.alloc (.cells #[.int .i64 e1, .int .i64 e2, .int .i64 (m : Int)] 51)).alloc (.cells #[.int .i64 f1, .int .i64 f2, .int .i64 (n : Int)] 51)).cell? ⟨lb, 0, none⟩ = some (.func (Fn.func lf) #[] #[]) := by
    have h1 := blk_lt hb
    rw [World.cell?_alloc_lt _ _ _ (by simp; omega), World.cell?_alloc_lt _ _ _ (by simpa using h1), cell_of_row _ _ 0 _ _ _ hb]; rfl
  have BW := hide (((Below.refl w.heap.size w).alloc (Nat.le_refl _) (.cells #[.int .i64 e1, .int .i64 e2, .int .i64 (m : Int)] 51)).alloc (by simp) (.cells #[.int .i64 f1, .int .i64 f2, .int .i64 (n : Int)] 51))
  have T1 := hide (fun W => hl.tells (f1, f2) (e1, e2) W)
  have T2 := hide (fun W => hl.tells (e1, e2) (f1, f2) W)
  unfold pv at T1 T2
  dsimp only at T1 T2
  clear hb hl
  by_cases h : m < n
  · have d1 : decide ((m : Int) < (n : Int)) = true := by rw [decide_eq_true_eq]; omega
    have HE : Hid (ltE k ((e1, e2), m) ((f1, f2), n) = !decide (k (f1, f2) < k (e1, e2))) := hide (by
      unfold ltE; rw [if_pos h, ← decide_not]; congr 1; simp)
    generalize decide (k (f1, f2) < k (e1, e2)) = b at *
    clear T2
    go_enter Try.func23, Try.ntmps23
    go_wp2_with fail
    refine (T1.out _).mono ?_
    rintro r w2 ⟨rfl, hb2⟩
    have B2 := hide (BW.out.trans (hb2.mono (by simp; omega)))
    clear hb2 cl
    go_wp2_with fail
    go_ret
    exact ⟨by rw [HE.out]; rfl, B2.out⟩
  · have d1 : decide ((m : Int) < (n : Int)) = false := by rw [decide_eq_false_iff_not]; omega
    have HE : Hid (ltE k ((e1, e2), m) ((f1, f2), n) = decide (k (e1, e2) < k (f1, f2))) := hide (by
      unfold ltE; rw [if_neg h])
    generalize decide (k (e1, e2) < k (f1, f2)) = b at *
    clear T1
    go_enter Try.func23, Try.ntmps23
    go_wp2_with fail
    refine (T2.out _).mono ?_
    rintro r w2 ⟨rfl, hb2⟩
    have B2 := hide (BW.out.trans (hb2.mono (by simp; omega)))
    clear hb2 cl
    go_wp2_with fail
    go_ret
    exact ⟨by rw [HE.out]; rfl, B2.out⟩
end Go.Proofs.Ytegemfkadclnkaa
