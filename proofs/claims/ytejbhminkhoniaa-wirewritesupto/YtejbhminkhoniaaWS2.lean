/-
  My own text: bytes lent with marks behind them, and looked at again.
-/
import Derived.Test.YtejbhminkhoniaaW10
namespace Go.Proofs.Ytejbhminkhoniaa
open Go.RowKit Go.Extern

/-- A mark. -/
def mkB (k i : Int) : UInt8 := UInt8.ofNat ((37 * (k + 1) + i) % 256).toNat
theorem mkB_nat (k i : Int) : ((mkB k i).toNat : Int) = (37 * (k + 1) + i) % 256 := by
  unfold mkB
  have h0 : 0 ≤ (37 * (k + 1) + i) % 256 := Int.emod_nonneg _ (by decide)
  have h1 : (37 * (k + 1) + i) % 256 < 256 := Int.emod_lt_of_pos _ (by decide)
  rw [UInt8.toNat_ofNat', Nat.mod_eq_of_lt (by omega), Int.toNat_of_nonneg h0]
def marksB : List UInt8 := (List.range 16).map fun i : Nat => mkB 90 (i : Int)
theorem marksB_len : marksB.length = 16 := by simp [marksB]
theorem marksB_at {j : Nat} (h : j < 16) : marksB[j]? = some (mkB 90 (j : Int)) := by
  unfold marksB; rw [List.getElem?_map, List.getElem?_range h]; rfl
theorem bv_take {l : List UInt8} {k : Nat} {c : UInt8} (h : l[k]? = some c) : bv (l.take (k + 1)) = bv (l.take k) ++ [.int .u8 (c.toNat : Int)] := by rw [List.take_add_one, h]; exact bv_snoc _ _

theorem markBytes_any (k i : Int) (w : World) (h1 : 0 ≤ k) (h2 : k ≤ 281474976710656) (h3 : -281474976710656 ≤ i) (h4 : i ≤ 281474976710656) :
    Calls Try.prog 24 #[.int .i64 k, .int .i64 i] w fun e w' => e = .returned (.int .u8 ((mkB k i).toNat : Int)) ∧ w' = w := by
  have HM := hide (mkB_nat k i)
  go_enter Try.func24, Try.ntmps24
  go_wp2
  go_ret
  exact ⟨ret_i HM.out.symm, rfl⟩
/-- A list that was lent, in block g, from B on. -/
structure LentB (w : World) (B g cap : Nat) (l : List UInt8) : Prop where
  base : B ≤ g
  own : Own w B (.slice (some ⟨g, 0, none⟩) (l.length + 16) cap) (l ++ marksB)
theorem lent_of {w : World} {B : Nat} {v : Value} {l : List UInt8} (h : Own w B v (l ++ marksB)) : ∃ g cap, v = .slice (some ⟨g, 0, none⟩) (l.length + 16) cap ∧ LentB w B g cap l := by
  have hn : (l ++ marksB).length = l.length + 16 := by rw [List.length_append, marksB_len]
  have h' := h
  unfold Own at h'
  obtain ⟨g, cap, hv, hb, hlt⟩ := World.ownsRow.form h' (by rw [hn]; omega)
  rw [hn] at hv
  subst hv
  exact ⟨g, cap, rfl, hb, h⟩
theorem LentB.later {w w' : World} {B g cap : Nat} {l : List UInt8} (h : LentB w B g cap l) (hb : Below w.heap.size w w') : LentB w' B g cap l := ⟨h.base, h.own.later hb⟩
theorem LentB.parts {w : World} {B g cap : Nat} {l : List UInt8} (h : LentB w B g cap l) : g < w.heap.size ∧ l.length + 16 ≤ cap ∧ (∀ j c, (l ++ marksB)[j]? = some c → w.cell? ⟨g, j, none⟩ = some (.int .u8 (c.toNat : Int))) ∧ (∀ j, w.frozen? ⟨g, j, none⟩ = false) := by
  have hn : (l ++ marksB).length = l.length + 16 := by rw [List.length_append, marksB_len]
  have h' := h.own
  unfold Own at h'
  rw [hn] at h'
  rcases h'.2 with ⟨h0, _⟩ | ⟨g', cap', cur, hv, hb, hh, hn2, _⟩
  · cases h0
  · cases hv
    refine ⟨(Array.getElem?_eq_some_iff.1 hh).1, hn2, fun j c hj => ?_, fun j => h'.frozenAt j⟩
    have hjl : j < (l ++ marksB).length := (List.getElem?_eq_some_iff.1 hj).1
    rw [h'.cellAt j (by omega)]
    exact bv_at hj
theorem LentB.rg {w : World} {B g cap : Nat} {l : List UInt8} (h : LentB w B g cap l) : RG w g (.slice (some ⟨g, 0, none⟩) l.length cap) l := by
  obtain ⟨h1, h2, h3, _⟩ := h.parts
  refine ⟨_, _, rfl, by omega, .inr ⟨0, rfl, h1, fun j c hj => ?_⟩⟩
  rw [Nat.zero_add]
  exact h3 j c (by rw [List.getElem?_append_left (List.getElem?_eq_some_iff.1 hj).1]; exact hj)

theorem bv_set (l : List UInt8) (k : Nat) (c : UInt8) : bv (l.set k c) = (bv l).set k (.int .u8 (c.toNat : Int)) := by unfold bv; rw [List.map_set]
theorem LentB.set {w : World} {B g cap : Nat} {l : List UInt8} (h : LentB w B g cap l) {k : Nat} {c : UInt8} (hk : k < l.length) : LentB (w.setCell ⟨g, k, none⟩ (.int .u8 (c.toNat : Int))) B g cap (l.set k c) := by
  refine ⟨h.base, ?_⟩
  have hn : (l ++ marksB).length = l.length + 16 := by rw [List.length_append, marksB_len]
  have h' := h.own
  unfold Own at h' ⊢
  rw [hn] at h'
  have h2 := (h'.stored k (.int .u8 (c.toNat : Int))).1
  rw [← bv_set, List.set_append_left _ _ hk] at h2
  rw [List.length_set, List.length_append, List.length_set, marksB_len]
  exact h2
end Go.Proofs.Ytejbhminkhoniaa
