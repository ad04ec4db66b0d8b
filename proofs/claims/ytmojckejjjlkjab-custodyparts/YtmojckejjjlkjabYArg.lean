/-
  My own text: layer 26: four numbers, rows of numbers, calls of orders, trades among the arguments.
-/
import Derived.Test.YtmojckejjjlkjabGIR
import Derived.Test.YtmojckejjjlkjabRows
import Derived.ProofKit
import Derived.OpenShut
import Derived.ChangeSame
import Derived.ChangeSlices
import Derived.JoinedOf
import Derived.JoinedCond
import Derived.Carry
import Derived.RowKit
import Derived.RowKitTokens
import Derived.Deep.Slices
import Derived.SizedLaws
import Derived.HandedShaped
namespace Go.Proofs.Ytmojckejjjlkjab
open Go.ChangeShapes Go.WideShapes Go.ChangeAt Go.RowKit

theorem Try.laidOutA : laidOutB Try.prog = true := by kernel_rfl
theorem Try.cellsIA : Try.prog.cellsOf 3 = 1 := by kernel_rfl
theorem Try.cellsI6 : Try.prog.cellsOf 2 = 1 := by kernel_rfl
theorem Try.bytesI6 : Try.prog.bytesOf 2 = 8 := by kernel_rfl
section
variable {H : Type} {enc : TypeId × Value → H} {P : Program} {w : World} {base : Nat} {spare : Nat → Bool} {held : Bool} {t : TypeId} {cs : List Value} {v : Value} {n : Nat} {x : DataW H × List MemPlace}
theorem intFA {k : IntKind} (ht : P.underlying t = some (.int k)) (h : DataW.trod enc P w base spare held n t cs = some x) (hc : cs = [v]) :
    ∃ a, v = .int k a ∧ (Lit.int k a).wf = true := by
  obtain ⟨a, e, hx, hw⟩ := DataW.trod_int ht h
  rw [hc] at e
  exact ⟨a, by simpa using e, hw⟩
theorem boolFA (ht : P.underlying t = some .bool) (h : DataW.trod enc P w base spare held n t cs = some x) (hc : cs = [v]) : ∃ a, v = .bool a := by
  obtain ⟨a, e, hx⟩ := DataW.trod_bool ht h
  rw [hc] at e
  exact ⟨a, by simpa using e⟩
end
theorem listOfA {α : Type} {Q : Nat → α → Prop} : ∀ n : Nat, (∀ j, j < n → ∃ p, Q j p) → ∃ l : List α, l.length = n ∧ ∀ j p, l[j]? = some p → Q j p
  | 0, _ => ⟨[], rfl, fun j p h => by simp at h⟩
  | n + 1, h => by
    obtain ⟨l, hl, hq⟩ := listOfA n (fun j hj => h j (by omega))
    obtain ⟨p, hp⟩ := h n (by omega)
    refine ⟨l ++ [p], by simp [hl], fun j p' hj => ?_⟩
    by_cases hjn : j < n
    · rw [List.getElem?_append_left (by omega)] at hj; exact hq j p' hj
    · rw [List.getElem?_append_right (by omega)] at hj
      have : j - l.length = 0 := by
        have := (List.getElem?_eq_some_iff.1 hj).1
        simp at this; omega
      rw [this] at hj
      have hj' : j = n := by omega
      simp at hj; subst hj; rw [hj']; exact hp
theorem i64_in {a : Int} (h : (Lit.int .i64 a).wf = true) : -9223372036854775808 ≤ a ∧ a ≤ 9223372036854775807 := by
  have := bounds_i64 h
  exact ⟨by omega, this.2⟩
/-- A number of 64 bits. -/
def I6 (a : Int) : Prop := -9223372036854775808 ≤ a ∧ a ≤ 9223372036854775807
theorem Try.cellsF4 : Try.prog.cellsOf 22 = 4 := by kernel_rfl
set_option maxRecDepth 100000 in
theorem open_four {H : Type} {enc : TypeId × Value → H} {W : World} {r : Reach} {bb : Nat} {v : Value} {d : DataW H} {p : List MemPlace}
    (hv : Value.okWide Try.prog W r bb 22 v) (h : DataW.Trod enc Try.prog W 0 (fun _ => true) true 22 v d p) :
    ∃ a b c e : Int, v = .agg #[.int .i64 a, .int .i64 b, .int .i64 c, .int .i64 e] ∧ I6 a ∧ I6 b ∧ I6 c ∧ I6 e := by
  simp only [Value.okWide, Try.underlying22] at hv
  obtain ⟨cs, rfl, hsz, _⟩ := hv
  rw [Try.cellsF4] at hsz
  obtain ⟨l⟩ := cs
  match l, hsz with
  | [c0, c1, c2, c3], _ =>
    obtain ⟨fuel, hf⟩ := h
    obtain ⟨xs, k, _, hx, _, hlen, hall⟩ := DataW.trod_array Try.underlying22 hf
    clear hf
    match xs, hlen with
    | [x0, x1, x2, x3], _ =>
      obtain ⟨a0, e0, w0⟩ := intFA (v := c0) (x := x0) Try.underlying2 (hall 0 (by omega)) (by rw [Try.cellsI6]; rfl)
      obtain ⟨a1, e1, w1⟩ := intFA (v := c1) (x := x1) Try.underlying2 (hall 1 (by omega)) (by rw [Try.cellsI6]; rfl)
      obtain ⟨a2, e2, w2⟩ := intFA (v := c2) (x := x2) Try.underlying2 (hall 2 (by omega)) (by rw [Try.cellsI6]; rfl)
      obtain ⟨a3, e3, w3⟩ := intFA (v := c3) (x := x3) Try.underlying2 (hall 3 (by omega)) (by rw [Try.cellsI6]; rfl)
      subst e0 e1 e2 e3
      exact ⟨a0, a1, a2, a3, rfl, i64_in w0, i64_in w1, i64_in w2, i64_in w3⟩
set_option maxRecDepth 100000 in
theorem open_longs {H : Type} {enc : TypeId × Value → H} {W : World} {v : Value} {n : Nat} {x : DataW H × List MemPlace}
    (h : DataW.trod enc Try.prog W 0 (fun _ => true) true n 35 [v] = some x) (hlt : ∀ y ∈ x.2, y.block < W.heap.size)
    (hs : ∀ m ∈ x.1.weights Try.prog 35, m ≤ reachBytes) :
    ∃ ls : List LN.El, LN.RM W v ls ∧ ls.length ≤ 17592186044000 ∧ ∀ p ∈ ls, I6 p := by
  rcases Go.Deep.open_slice Try.underlying35 h with ⟨hcs, hx⟩ | ⟨a, len, cap, m, n', D, Pl, hcs, hb, hl, hm, hmm, hx, hel⟩
  · obtain rfl : v = .slice none 0 0 := by simpa using hcs
    exact ⟨[], LN.RM.nil W, by simp, fun p hp => by cases hp⟩
  · obtain rfl : v = .slice (some a) len cap := by simpa using hcs
    have hp : x.2 = _ := congrArg Prod.snd hx
    have hdd : x.1 = _ := congrArg Prod.fst hx
    rw [hp, Try.cellsI6] at hlt
    rw [Try.cellsI6] at hel
    clear hx hp
    simp only [if_true] at hmm
    subst hmm
    have hlen : len * 8 ≤ reachBytes := by
      have := hs ((((List.range len).map D).length + ((List.range (m - len)).map fun j => D (len + j)).length) * Try.prog.bytesOf 2) (by rw [hdd]; simp only [DataW.weights, Try.underlying35]; exact List.mem_cons_self)
      rw [Try.bytesI6] at this
      simp only [List.length_map, List.length_range] at this
      omega
    have each : ∀ i, i < len → ∃ p : LN.El, W.cell? (a.add i) = some (.int .i64 p) ∧ I6 p := by
      intro i hi
      obtain ⟨cs', h1, h2⟩ := hel i (by omega)
      obtain ⟨_, hlen', hcell⟩ := World.cells?_some h1
      match cs', hlen' with
      | [c0], _ =>
        obtain ⟨a0, e0, w0⟩ := intFA (v := c0) Try.underlying2 h2 rfl
        subst e0
        have g0 := hcell 0 (by omega)
        rw [Go.Deep.add_add] at g0
        exact ⟨a0, by simpa using g0, i64_in w0⟩
    obtain ⟨ls, hpl, hps⟩ := listOfA len each
    have hI : ∀ p ∈ ls, I6 p := fun p hp => by
      obtain ⟨j, hj⟩ := List.getElem?_of_mem hp
      exact (hps j p hj).2
    by_cases h0 : len = 0
    · refine ⟨ls, ⟨0, some a, m, by rw [hpl], by rw [hpl]; omega, .inl (List.length_eq_zero_iff.1 (by omega))⟩, by rw [hpl]; unfold reachBytes at hlen; omega, hI⟩
    · obtain ⟨b, off, spot⟩ := a
      obtain ⟨p0, hc0, _⟩ := each 0 (by omega)
      have hspot : spot = none := by simpa [Addr.add] using World.cell?_spot hc0
      subst hspot
      have hbW : b < W.heap.size := hlt (.cell b off) (List.mem_append_left _ (MemPlace.mem_row.2 ⟨0, by omega, by simp⟩))
      refine ⟨ls, ⟨b, some ⟨b, off, none⟩, m, by rw [hpl], by rw [hpl]; omega, .inr ⟨off, rfl, hbW, fun j p hj => ?_⟩⟩, by rw [hpl]; unfold reachBytes at hlen; omega, hI⟩
      have gg := (hps j p hj).1
      rw [Addr.add_lit] at gg
      exact gg
end Go.Proofs.Ytmojckejjjlkjab
