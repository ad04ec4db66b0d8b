/-
  My own text: the document's Prune over a row of versions.
-/
import Derived.Test.YtnjjehlfgoggfaaDoorHD3
namespace Go.Proofs.YtnjjehlfgoggfaaDoor
open Go.RowKit Go.Shelf

theorem tkdr_lo {L : List Ver} {i m : Nat} (h : i < m) : (L.take (i + 1)).drop m = [] := by
  apply List.drop_eq_nil_of_le; rw [List.length_take]; omega
theorem tkdr_hi {L : List Ver} {i m : Nat} {p : Ver} (h : m ≤ i) (hp : L[i]? = some p) : (L.take (i + 1)).drop m = (L.take i).drop m ++ [p] := by
  have hlt := (List.getElem?_eq_some_iff.1 hp).1
  rw [List.take_add_one, hp, List.drop_append_of_le_length (by rw [List.length_take]; omega)]; rfl
theorem tkdr_len {L : List Ver} {i m : Nat} (hi : i ≤ L.length) : ((L.take i).drop m).length = i - m := by
  rw [List.length_drop, List.length_take, Nat.min_eq_left hi]
theorem ris_le {L : List Ver} (hr : Ris L) {i j : Nat} {p q : Ver} (hp : L[i]? = some p) (hq : L[j]? = some q) (h : i ≤ j) : p.1 ≤ q.1 := by
  have a := ab_self L j q hr hq
  exact ab_lo (n := q.1) (by omega) hp
theorem ris_lt {L : List Ver} (hr : Ris L) {i j : Nat} {p q : Ver} (hp : L[i]? = some p) (hq : L[j]? = some q) (h : i < j) : p.1 < q.1 := by
  have a := ab_self L i p hr hp
  exact ab_hi (n := p.1) hr (by omega) hq
end Go.Proofs.YtnjjehlfgoggfaaDoor
