/-
  My own text: rows of numbers among the arguments.
-/
import Derived.Test.YtieinnhiaomliaaDoorLArgD
import Derived.Test.YtieinnhiaomliaaDoorQIR
namespace Go.Proofs.YtieinnhiaomliaaDoor
open Go.ChangeShapes Go.WideShapes Go.ChangeAt Go.RowKit

theorem Tryd.bytesI8 : Tryd.prog.bytesOf 3 = 8 := by kernel_rfl
set_option maxRecDepth 100000 in
theorem open_nums {H : Type} {enc : TypeId × Value → H} {W : World} {v : Value} {d : DataW H} {p : List MemPlace}
    (hok : ∃ a len cap, v = .slice a len cap) (h : DataW.Trod enc Tryd.prog W 0 (fun _ => true) true 23 v d p) (hlt : ∀ x ∈ p, x.block < W.heap.size)
    (hs : ∀ elems spare, d = .slice elems spare → (elems.length + spare.length) * 8 ≤ reachBytes) :
    ∃ L : List Int, IN.RM W v L ∧ L.length ≤ 17592186043904 := by
  obtain ⟨a0, len, cap, rfl⟩ := hok
  obtain ⟨fuel, hf⟩ := h
  rcases Go.Deep.open_slice Tryd.underlying23 hf with ⟨hcs, hx⟩ | ⟨a, len', cap', m, n, D, Pl, hcs, hb, hl, hm, hmm, hx, hel⟩
  · simp [Value.cells] at hcs
    obtain ⟨rfl, rfl, rfl⟩ := hcs
    exact ⟨[], IN.RM.nil W, by simp⟩
  · simp [Value.cells] at hcs
    obtain ⟨rfl, rfl, rfl⟩ := hcs
    have hp : p = _ := (Prod.mk.inj hx).2
    have hd : d = _ := (Prod.mk.inj hx).1
    rw [hp, Tryd.cellsI] at hlt
    rw [Tryd.cellsI] at hel
    simp only [if_true] at hmm
    subst hmm
    have hlen : len * 8 ≤ reachBytes := by
      have := hs _ _ hd
      simp only [List.length_map, List.length_range] at this
      omega
    clear hx hp hf hd
    have each : ∀ i, i < len → ∃ s : Int, W.cell? (a.add (i * 1)) = some (.int .i64 s) := by
      intro i hi
      obtain ⟨cs', h1, h2⟩ := hel i (by omega)
      clear hel hlt
      obtain ⟨_, hlen', hcell⟩ := World.cells?_some h1
      match cs', hlen' with
      | [c0], _ =>
        obtain ⟨b, e0, _⟩ := intFA (v := c0) Tryd.underlying3 h2 rfl
        subst e0
        have g0 := hcell 0 (by omega)
        rw [Go.Deep.add_add] at g0
        exact ⟨b, by simpa using g0⟩
    obtain ⟨L, hL, hQ⟩ := listOfA len each
    by_cases h0 : len = 0
    · exact ⟨L, ⟨0, some a, m, by rw [hL], by omega, .inl (List.eq_nil_of_length_eq_zero (by omega))⟩, by omega⟩
    · obtain ⟨b, off, spot⟩ := a
      obtain ⟨s0, hc0⟩ := each 0 (by omega)
      have hspot : spot = none := by simpa [Addr.add] using World.cell?_spot hc0
      subst hspot
      have hbW : b < W.heap.size := hlt (.cell b off) (List.mem_append_left _ (MemPlace.mem_row.2 ⟨0, by omega, by simp⟩))
      refine ⟨L, ⟨b, _, m, by rw [hL], by omega, .inr ⟨off, rfl, hbW, fun j s hj => ?_⟩⟩, by rw [hL]; unfold reachBytes at hlen; omega⟩
      have g0 := hQ j s hj
      rw [add_plain, Nat.mul_one] at g0
      exact g0
end Go.Proofs.YtieinnhiaomliaaDoor
