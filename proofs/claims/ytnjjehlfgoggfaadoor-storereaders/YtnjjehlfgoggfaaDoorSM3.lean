/-
  My own text: a new store.
-/
import Derived.Test.YtnjjehlfgoggfaaDoorSM2
import Derived.Carry
namespace Go.Proofs.YtnjjehlfgoggfaaDoor
open Go.RowKit Go.Extern

/-- A store that is being made: k of its maps are there. -/
structure NI (w : World) (sb g n b0 : Nat) (hdr : Array Value) (k : Nat) (V : World) : Prop where
  sz : V.heap.size = b0 + k
  st : V.heap[sb]? = some (.cells hdr 49 (0, 0))
  ar : ∃ arr, V.heap[g]? = some (.cells arr 50 (0, 0)) ∧ arr.size = n ∧ ∀ i, i < k → arr[i]? = some (.map (some (b0 + i)))
  mb : ∀ i, i < k → MB V (b0 + i) []
  low : Below w.heap.size w V
theorem NI.step {w V : World} {sb g n b0 k : Nat} {hdr : Array Value} (h : NI w sb g n b0 hdr k V) (h1 : g < b0) (h2 : sb < b0) (h3 : sb ≠ g) (h4 : w.heap.size ≤ g) (hk : k < n) :
    (∃ u, (V.alloc (.map #[] 0)).cell? ⟨g, k, none⟩ = some u) ∧ (V.alloc (.map #[] 0)).frozen? ⟨g, k, none⟩ = false ∧ NI w sb g n b0 hdr (k + 1) ((V.alloc (.map #[] 0)).setCell ⟨g, k, none⟩ (.map (some V.heap.size))) := by
  obtain ⟨arr, q1, q2, q3⟩ := h.ar
  have hb : Below V.heap.size V (V.alloc (.map #[] 0)) := (Below.refl _ _).alloc (Nat.le_refl _) _
  have hs := h.sz
  have c1 : (V.alloc (.map #[] 0)).heap[g]? = some (.cells arr 50 (0, 0)) := (hb.block g (by omega)).trans q1
  have hm := MB.made V
  have e5 := setCell_eq_setRow (V.alloc (.map #[] 0)) g k _ _ _ (.map (some V.heap.size)) c1
  have e6 := setRow_heap (V.alloc (.map #[] 0)) g _ (arr.setIfInBounds k (.map (some V.heap.size))) _ _ c1
  refine ⟨⟨arr[k]'(by omega), by rw [cell_of_row _ g _ _ _ _ c1]; exact Array.getElem?_eq_getElem _⟩, by unfold World.frozen?; simp [c1], ?_⟩
  have oth : ∀ x, x ≠ g → ((V.alloc (.map #[] 0)).setCell ⟨g, k, none⟩ (.map (some V.heap.size))).heap[x]? = (V.alloc (.map #[] 0)).heap[x]? := fun x hx => Below.heap_setCell _ _ _ x hx
  refine ⟨?_, ?_, ⟨arr.setIfInBounds k (.map (some V.heap.size)), by rw [e5]; exact e6, by simp [q2], fun i hi => ?_⟩, fun i hi => ?_, ?_⟩
  · simp [World.setCell, hs]; omega
  · exact (oth sb h3).trans ((hb.block sb (by omega)).trans h.st)
  · by_cases e : i = k
    · subst e
      rw [Array.getElem?_setIfInBounds_self_of_lt (by omega), hs]
    · rw [Array.getElem?_setIfInBounds_ne (fun h' => e h'.symm)]; exact q3 i (by omega)
  · by_cases e : i = k
    · subst e
      rw [hs] at hm
      exact hm.kept (oth _ (by omega))
    · exact ((h.mb i (by omega)).later hb).kept (oth _ (by omega))
  · exact (h.low.trans (hb.mono h.low.size)).setCell (p := ⟨g, k, none⟩) h4 _
theorem Tryd.infoMap : (Tryd.prog.info? 50).map (fun i => (i.zero, i.size, i.bytes)) = some (some (.map none), 1, 8) := by kernel_rfl
set_option maxRecDepth 100000 in
set_option maxHeartbeats 1000000 in
theorem newS_any (s : Int) (n : Nat) (w : World) (hn : (n : Int) = cnt s) :
    Calls Tryd.prog 5 #[.int .i64 s] w fun e w' => ∃ sb m, w.heap.size ≤ sb ∧ e = .returned (.pointer (some ⟨sb, 0, none⟩)) ∧ ST w' sb n m ∧ (∀ i, i < n → (m i).2 = []) ∧ (∀ i, i < n → w.heap.size ≤ (m i).1) ∧ Below w.heap.size w w' := by
  have hlo := cnt_lo s
  have hhi := cnt_hi s
  have HK := hide (fun W => counted_any s W)
  rw [← hn] at HK hlo hhi
  have n1 : 1 ≤ n := by omega
  have n2 : n ≤ 64 := by omega
  have hmk := run_make_row' (P := Tryd.prog) 45 50 (.map none) 8 Tryd.underlying45 Tryd.infoMap rfl .i64 .i64 n (by omega) (by omega)
  have mm : ∀ (t : TypeId) (W : World), (Instr.makeMap t none).run Tryd.prog W = .ok (.map (some W.heap.size)) (W.alloc (.map #[] 0)) := fun t W => run_makeMap t W
  clear hn hlo hhi
  go_enter Tryd.func5, Tryd.ntmps5
  go_wp2_with fail
  refine (HK.out _).mono ?_
  rintro e w1 ⟨rfl, hb1⟩
  have B1 := hide hb1
  clear hb1
  go_wp2_with fail
  have N0 : Hid (NI w (w1.heap.size + 1 + 1) w1.heap.size n (w1.heap.size + 3) #[.slice (some ⟨w1.heap.size, 0, none⟩) n n, .int .i64 0, .map (some (w1.heap.size + 1)), .slice none 0 0] 0
      (((w1.alloc (.cells (madeCells #[.map none] n) 50)).alloc (.map #[] 0)).alloc (.cells #[.slice (some ⟨w1.heap.size, 0, none⟩) n n, .int .i64 0, .map (some (w1.heap.size + 1)), .slice none 0 0] 49))) := hide (by
    have a1 : Below w1.heap.size w1 (w1.alloc (.cells (madeCells #[.map none] n) 50)) := (Below.refl _ _).alloc (Nat.le_refl _) _
    have b1 := alloc_newV w1 (.cells (madeCells #[.map none] n) 50)
    generalize e1 : w1.alloc (.cells (madeCells #[.map none] n) 50) = U1 at *
    have z1 : U1.heap.size = w1.heap.size + 1 := by rw [← e1]; simp
    have a2 : Below U1.heap.size U1 (U1.alloc (.map #[] 0)) := (Below.refl _ _).alloc (Nat.le_refl _) _
    have b2 := (a2.block w1.heap.size (by omega)).trans b1
    have z2 : (U1.alloc (.map #[] 0)).heap.size = w1.heap.size + 1 + 1 := by simp [z1]
    generalize U1.alloc (.map #[] 0) = U2 at *
    have b3 := alloc_newV U2 (.cells #[.slice (some ⟨w1.heap.size, 0, none⟩) n n, .int .i64 0, .map (some (w1.heap.size + 1)), .slice none 0 0] 49)
    have a3 : Below U2.heap.size U2 (U2.alloc (.cells #[.slice (some ⟨w1.heap.size, 0, none⟩) n n, .int .i64 0, .map (some (w1.heap.size + 1)), .slice none 0 0] 49)) := (Below.refl _ _).alloc (Nat.le_refl _) _
    rw [z2] at b3
    refine ⟨by simp [z2], b3, ⟨_, (a3.block w1.heap.size (by omega)).trans b2, size_madeCells _ _, fun i hi => by omega⟩, fun i hi => by omega, ?_⟩
    exact B1.out.trans (((a1.trans (a2.mono (by omega))).trans (a3.mono (by omega))).mono B1.out.size))
  have HS1 := hide B1.out.size
  clear B1 hmk HK
  generalize (((w1.alloc (.cells (madeCells #[.map none] n) 50)).alloc (.map #[] 0)).alloc (.cells #[.slice (some ⟨w1.heap.size, 0, none⟩) n n, .int .i64 0, .map (some (w1.heap.size + 1)), .slice none 0 0] 49)) = V0 at *
  obtain ⟨g, hg⟩ : ∃ g, g = w1.heap.size := ⟨_, rfl⟩
  rw [← hg] at N0 HS1 ⊢
  obtain ⟨sb, hsb⟩ : ∃ sb, sb = g + 1 + 1 := ⟨_, rfl⟩
  rw [← hsb] at N0 ⊢
  have HSB := hide hsb
  clear hg hsb
  obtain ⟨rb, hrb⟩ : ∃ rb, rb = g + 1 := ⟨_, rfl⟩
  rw [← hrb] at N0 ⊢
  clear hrb
  go_loopw [16] (fun i wr => ∃ k : Nat, k ≤ n ∧ i = .int .i64 (k : Int) ∧ Hid (NI w sb g n (g + 3) #[.slice (some ⟨g, 0, none⟩) n n, .int .i64 0, .map (some rb), .slice none 0 0] k wr)) (fun i _ => n - (intOf i).toNat)
  case atStart => exact ⟨0, Nat.zero_le _, rfl, N0⟩
  case round =>
    clear N0
    obtain ⟨k, hk, rfl, HN⟩ := hrel
    by_cases hlt : k < n
    · obtain ⟨⟨u, c1⟩, f1, hN1⟩ := HN.out.step (by omega) (by have := HSB.out; omega) (by have := HSB.out; omega) HS1.out hlt
      have hd1 : decide ((k : Int) < (n : Int)) = true := by rw [decide_eq_true_eq]; omega
      have k0 : (0 : Int) ≤ (k : Int) := by omega
      have k1 : (k : Int) < (n : Int) := by omega
      have wk : wrap64 ((k : Int) + 1) = (k : Int) + 1 := by unfold wrap64; omega
      have c0 : wr.cell? ⟨sb, 0, none⟩ = some (.slice (some ⟨g, 0, none⟩) n n) := by rw [cell_of_row wr sb 0 _ _ _ HN.out.st]; rfl
      obtain ⟨W5, hW5⟩ : ∃ W5, wr.alloc (.map #[] 0) = W5 := ⟨_, rfl⟩
      rw [hW5] at c1 f1 hN1
      have HN1 := hide hN1
      clear hN1
      go_wp2_with fail
      go_roundw
      case rel => exact ⟨k + 1, by omega, by go_num, HN1⟩
      case measure => simp [intOf]; omega
    · have e : k = n := by omega
      subst e
      go_wp2_with fail
      go_ret
      refine ⟨sb, fun i => (g + 3 + i, []), by have := HSB.out; have := HS1.out; omega, rfl, ⟨?_, fun i hi => HN.out.mb i hi, fun i j _ _ hij => by dsimp only; omega, n1, n2⟩, fun _ _ => rfl, fun i _ => by have := HS1.out; dsimp only; omega, HN.out.low⟩
      obtain ⟨arr, q1, q2, q3⟩ := HN.out.ar
      exact ⟨_, _, _, _, HN.out.st, arr, q1, q3⟩
end Go.Proofs.YtnjjehlfgoggfaaDoor
