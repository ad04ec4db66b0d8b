/-
  My own text: Ls, C2 in one.
-/
import Derived.Test.YtdfhfjkcafchiaaDoorErr
import Derived.Deep.AppendLies
import Derived.Deep.OwnRows
import Derived.Test.YtdfhfjkcafchiaaDoorC1
namespace Go.Proofs.YtdfhfjkcafchiaaDoor
open Go.RowKit Go.Extern

/-- A slice value that reads as a list of numbers of a kind. -/
def RI (w : World) (K : IntKind) (v : Value) (l : List Int) : Prop :=
  ∃ a cap, v = .slice a l.length cap ∧ (l = [] ∨ ∃ b off, a = some ⟨b, off, none⟩ ∧ b < w.heap.size ∧ ∀ j x, l[j]? = some x → w.cell? ⟨b, off + j, none⟩ = some (.int K x))
theorem RI.later {w w1 : World} {K : IntKind} {v : Value} {l : List Int} (h : RI w K v l) (hb : Below w.heap.size w w1) : RI w1 K v l := by
  obtain ⟨a, cap, rfl, h | ⟨b, off, rfl, hlt, hc⟩⟩ := h
  · exact ⟨a, cap, rfl, .inl h⟩
  · exact ⟨_, cap, rfl, .inr ⟨b, off, rfl, Nat.lt_of_lt_of_le hlt hb.size, fun j x hx => (hb.cell (p := ⟨b, off + j, none⟩) hlt).trans (hc j x hx)⟩⟩
theorem some_at {l : List Int} {k : Nat} (h : k < l.length) : ∃ x, l[k]? = some x := ⟨l[k], List.getElem?_eq_getElem h⟩
/-- A list of numbers of a kind, as cells. -/
def lv (K : IntKind) (l : List Int) : List Value := l.map (Value.int K)
theorem lv_nil (K : IntKind) : lv K [] = [] := rfl
theorem lv_len (K : IntKind) (l : List Int) : (lv K l).length = l.length := by simp [lv]
theorem lv_app (K : IntKind) (l m : List Int) : lv K (l ++ m) = lv K l ++ lv K m := by simp [lv]
theorem info_parts {P : Program} {t : TypeId} {z : Value} {s b : Nat} (h : (P.info? t).map (fun i => (i.zero, i.size, i.bytes)) = some (some z, s, b)) : ∃ i, P.info? t = some i ∧ i.zero = some z ∧ i.size = s ∧ i.bytes = b := by
  obtain ⟨i, hi, hz⟩ := Option.map_eq_some_iff.1 h
  simp only [Prod.mk.injEq] at hz
  exact ⟨i, hi, hz.1, hz.2.1, hz.2.2⟩
theorem ri_of_owns {w : World} {B n : Nat} {e : TypeId} {v : Value} {l : List Int} (h : w.ownsRow B e 1 v n (lv .i64 l)) : RI w .i64 v l := by
  have hn : l.length = n := by have := h.1; rw [lv_len] at this; omega
  rcases h.2 with ⟨rfl, h0⟩ | ⟨g, cap, cur, rfl, hb, hh, hn2, _⟩
  · have : l = [] := List.length_eq_zero_iff.1 (by omega)
    subst this
    exact ⟨none, 0, rfl, .inl rfl⟩
  · refine ⟨_, cap, by rw [hn], .inr ⟨g, 0, rfl, ?_, fun j x hx => ?_⟩⟩
    · by_cases hc : g < w.heap.size
      · exact hc
      · rw [Array.getElem?_eq_none (by omega)] at hh; cases hh
    · have hj : j < n := by rw [← hn]; exact (List.getElem?_eq_some_iff.1 hx).1
      rw [Nat.zero_add, World.ownsRow.cellAt h j (by omega)]
      unfold lv; rw [List.getElem?_map, hx]; rfl
theorem own_later {w w' : World} {B n : Nat} {e : TypeId} {v : Value} {xs : List Value} (h : w.ownsRow B e 1 v n xs) (hb : Below w.heap.size w w') : w'.ownsRow B e 1 v n xs := by
  refine ⟨h.1, ?_⟩
  rcases h.2 with h2 | ⟨g, cap, cur, hv, hg, hh, h3⟩
  · exact .inl h2
  · have hlt : g < w.heap.size := by
      by_cases hc : g < w.heap.size
      · exact hc
      · rw [Array.getElem?_eq_none (by omega)] at hh; cases hh
    exact .inr ⟨g, cap, cur, hv, hg, (hb.block g hlt).trans hh, h3⟩
end Go.Proofs.YtdfhfjkcafchiaaDoor
namespace Go.Proofs.YtdfhfjkcafchiaaDoor.LC
open Go.RowKit

theorem Tryd.infoInt : (Tryd.prog.info? 3).map (fun i => (i.zero, i.size, i.bytes)) = some (some (.int .i64 0), 1, 8) := by kernel_rfl
theorem ret_int {a b : Int} (h : a = b) : Ending.returned (.int .i64 a) = .returned (.int .i64 b) := by rw [h]
theorem spr_take {l : List UInt8} {k : Nat} (h : k < l.length) : spr (l.take (k + 1)) = spr (l.take k) ++ sprc (l.getD k 0) := by
  rw [List.take_add_one, List.getElem?_eq_getElem h, Option.toList_some, spr_app, getD_at h]
  simp [spr]
theorem sign_at {l : List UInt8} {k : Nat} (h : ∀ c ∈ l, Sign c) (hk : k < l.length) : Sign (l.getD k 0) := by
  rw [getD_at hk]; exact h _ (List.getElem_mem hk)
theorem sign_nat {c : UInt8} (h : Sign c) : (48 ≤ c.toNat ∧ c.toNat ≤ 57) ∨ (65 ≤ c.toNat ∧ c.toNat ≤ 90) := by
  rcases h with h | h
  · left; unfold isDg at h; simpa using h
  · right; unfold isCp at h; simpa using h

end Go.Proofs.YtdfhfjkcafchiaaDoor.LC
