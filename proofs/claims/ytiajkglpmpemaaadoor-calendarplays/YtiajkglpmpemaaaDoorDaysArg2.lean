/-
  My own text: the free days of a calendar among the arguments.
-/
import Derived.Test.YtiajkglpmpemaaaDoorAskArg
import Derived.Test.YtiajkglpmpemaaaDoorLs
import Derived.SizedLaws
namespace Go.Proofs.YtiajkglpmpemaaaDoor
open Go.ChangeShapes Go.WideShapes Go.ChangeAt Go.RowKit

theorem Tryd.cellsB : Tryd.prog.cellsOf 4 = 1 := by kernel_rfl
theorem Tryd.cellsW : Tryd.prog.cellsOf 49 = 7 := by kernel_rfl
theorem Tryd.cellsS : Tryd.prog.cellsOf 50 = 1 := by kernel_rfl
theorem Tryd.cellsDays : Tryd.prog.cellsOf 52 = 8 := by kernel_rfl
theorem Tryd.bytesI : Tryd.prog.bytesOf 3 = 8 := by kernel_rfl
set_option maxRecDepth 100000 in
theorem open_ints_at {H : Type} {enc : TypeId × Value → H} {W : World} {n : Nat} {c : Value} {x : DataW H × List MemPlace}
    (hf : DataW.trod enc Tryd.prog W 0 (fun _ => true) true n 50 [c] = some x) (hlt : ∀ q ∈ x.2, q.block < W.heap.size)
    (hs : ∀ elems spare, x.1 = .slice elems spare → (elems.length + spare.length) * 8 ≤ reachBytes) :
    ∃ a cap l, c = .slice a (l : List Int).length cap ∧ RI W .i64 (.slice a l.length cap) l ∧ l.length ≤ 17592186043904 ∧ ∀ x ∈ l, -9223372036854775808 ≤ x ∧ x ≤ 9223372036854775807 := by
  rcases open_ints Tryd.underlying50 Tryd.underlying3 Tryd.cellsI hf with ⟨hcs, hx⟩ | ⟨a, len, cap, zs, hcs, _, hl, hm, hz, hx, hcell, hwz⟩
  · obtain rfl : c = .slice none 0 0 := by simpa using hcs
    exact ⟨none, 0, [], rfl, ⟨_, _, rfl, .inl rfl⟩, by simp, by simp⟩
  · obtain rfl : c = .slice (some a) len cap := by simpa using hcs
    subst hx
    simp only [if_true] at hz
    have hreach := hs _ _ rfl
    simp only [lits, List.length_map, List.length_take, List.length_drop, reachBytes] at hreach
    have hlen : (zs.take len).length = len := by rw [List.length_take]; omega
    refine ⟨some a, cap, zs.take len, by rw [hlen], ?_, by omega, fun x hx => ?_⟩
    · rw [hlen]
      refine ⟨_, _, by rw [hlen], ?_⟩
      by_cases h0 : len = 0
      · exact .inl (by rw [h0]; rfl)
      · obtain ⟨b, off, spot⟩ := a
        have hspot : spot = none := by simpa [Addr.add] using World.cell?_spot (hcell 0 (by omega))
        subst hspot
        have hbW : b < W.heap.size := hlt (.cell b off) (MemPlace.mem_row.2 ⟨0, by omega, by simp⟩)
        refine .inr ⟨b, off, rfl, hbW, fun j x hj => ?_⟩
        have hj' : j < (zs.take len).length := (List.getElem?_eq_some_iff.1 hj).1
        rw [List.getElem?_take, if_pos (by omega)] at hj
        have := hcell j (by omega)
        rw [← add_plain, this]
        simp [List.getD, hj]
    · exact bounds_i64 (hwz x (List.mem_of_mem_take hx))
set_option maxRecDepth 100000 in
theorem open_days {H : Type} {enc : TypeId × Value → H} {W : World} {v : Value} {d : DataW H} {p : List MemPlace} {r : Reach} {b0 : Nat}
    (hok : Value.okWide Tryd.prog W r b0 52 v) (h : DataW.Trod enc Tryd.prog W 0 (fun _ => true) true 52 v d p) (hlt : ∀ x ∈ p, x.block < W.heap.size)
    (hs : ∀ e elems spare, d = .agg [e, .slice elems spare] → (elems.length + spare.length) * 8 ≤ reachBytes) :
    ∃ (we : Nat → Bool) (a : Option Addr) (cap : Nat) (l : List Int), v = .agg #[.bool (we 0), .bool (we 1), .bool (we 2), .bool (we 3), .bool (we 4), .bool (we 5), .bool (we 6), .slice a l.length cap] ∧ RI W .i64 (.slice a l.length cap) l ∧ l.length ≤ 17592186043904 ∧ ∀ x ∈ l, -9223372036854775808 ≤ x ∧ x ≤ 9223372036854775807 := by
  obtain ⟨cs, rfl, hsz⟩ := okWide_struct Tryd.underlying52 hok
  rw [Tryd.cellsDays] at hsz
  obtain ⟨L⟩ := cs
  match L, hsz with
  | [c0, c1, c2, c3, c4, c5, c6, c7], _ =>
    obtain ⟨fuel, hf⟩ := h
    obtain ⟨xs, n, _, hx, _, hlen, hall⟩ := DataW.trod_struct Tryd.underlying52 hf
    match xs, hlen with
    | [y0, y1], _ =>
      have f0 : DataW.trod enc Tryd.prog W 0 (fun _ => true) true n 49 ((([c0, c1, c2, c3, c4, c5, c6, c7] : List Value).drop 0).take (Tryd.prog.cellsOf 49)) = some y0 := hall 0 _ rfl
      have f1 : DataW.trod enc Tryd.prog W 0 (fun _ => true) true n 50 ((([c0, c1, c2, c3, c4, c5, c6, c7] : List Value).drop 7).take (Tryd.prog.cellsOf 50)) = some y1 := hall 1 _ rfl
      rw [Tryd.cellsW] at f0
      rw [Tryd.cellsS] at f1
      obtain ⟨zs, m, _, hz, _, hzl, harr⟩ := DataW.trod_array (cs := [c0, c1, c2, c3, c4, c5, c6]) (x := y0) Tryd.underlying49 f0
      have hsl : DataW.trod enc Tryd.prog W 0 (fun _ => true) true n 50 [c7] = some y1 := f1
      simp only [Prod.mk.injEq] at hx
      obtain ⟨rfl, rfl⟩ := hx
      match zs, hzl with
      | [z0, z1, z2, z3, z4, z5, z6], _ =>
        obtain ⟨b0, g0, r0⟩ := DataW.trod_bool (cs := [c0]) (x := z0) Tryd.underlying4 (by have h := harr 0 (by omega); rw [Tryd.cellsB] at h; simpa using h)
        obtain ⟨b1, g1, r1⟩ := DataW.trod_bool (cs := [c1]) (x := z1) Tryd.underlying4 (by have h := harr 1 (by omega); rw [Tryd.cellsB] at h; simpa using h)
        obtain ⟨b2, g2, r2⟩ := DataW.trod_bool (cs := [c2]) (x := z2) Tryd.underlying4 (by have h := harr 2 (by omega); rw [Tryd.cellsB] at h; simpa using h)
        obtain ⟨b3, g3, r3⟩ := DataW.trod_bool (cs := [c3]) (x := z3) Tryd.underlying4 (by have h := harr 3 (by omega); rw [Tryd.cellsB] at h; simpa using h)
        obtain ⟨b4, g4, r4⟩ := DataW.trod_bool (cs := [c4]) (x := z4) Tryd.underlying4 (by have h := harr 4 (by omega); rw [Tryd.cellsB] at h; simpa using h)
        obtain ⟨b5, g5, r5⟩ := DataW.trod_bool (cs := [c5]) (x := z5) Tryd.underlying4 (by have h := harr 5 (by omega); rw [Tryd.cellsB] at h; simpa using h)
        obtain ⟨b6, g6, r6⟩ := DataW.trod_bool (cs := [c6]) (x := z6) Tryd.underlying4 (by have h := harr 6 (by omega); rw [Tryd.cellsB] at h; simpa using h)
        obtain rfl : c0 = .bool b0 := by simpa using g0
        obtain rfl : c1 = .bool b1 := by simpa using g1
        obtain rfl : c2 = .bool b2 := by simpa using g2
        obtain rfl : c3 = .bool b3 := by simpa using g3
        obtain rfl : c4 = .bool b4 := by simpa using g4
        obtain rfl : c5 = .bool b5 := by simpa using g5
        obtain rfl : c6 = .bool b6 := by simpa using g6
        obtain ⟨a, cap, l, rfl, h1, h2, h3⟩ := open_ints_at hsl (fun q hq => hlt q (by simp [hq])) (fun elems spare he => hs y0.1 elems spare (by simp [he]))
        exact ⟨fun j => if j = 0 then b0 else if j = 1 then b1 else if j = 2 then b2 else if j = 3 then b3 else if j = 4 then b4 else if j = 5 then b5 else b6, a, cap, l, rfl, h1, h2, h3⟩
end Go.Proofs.YtiajkglpmpemaaaDoor
