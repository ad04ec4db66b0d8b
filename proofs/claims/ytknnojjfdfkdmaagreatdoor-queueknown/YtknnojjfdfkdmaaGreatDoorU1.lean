/-
  My own text: layer 19: a row whose block may be greater than its room (out of HC2 and PN1).
-/
import Derived.Test.YtknnojjfdfkdmaaGreatDoorU0
import Derived.ArgAppend
import Derived.Deep.MidRow
import Derived.Deep.Onto
namespace Go.Proofs.YtknnojjfdfkdmaaGreatDoor
open Go.RowKit

theorem sc_heap (g : Nat) : ∀ (vs : List Value) (o : Nat) (w : World) (x : Nat), x ≠ g → (w.setCells g o vs).heap[x]? = w.heap[x]?
  | [], _, _, _, _ => rfl
  | v :: r, o, w, x, hx => by rw [World.setCells, sc_heap g r (o + 1) _ x hx, Below.heap_setCell _ _ _ x hx]
theorem sc_size : ∀ (vs : List Value) (g o : Nat) (w : World), (w.setCells g o vs).heap.size = w.heap.size
  | [], _, _, _ => rfl
  | v :: r, g, o, w => by rw [World.setCells, sc_size r g (o + 1)]; simp [World.setCell]
theorem sc_rest : ∀ (vs : List Value) (g o : Nat) (w : World), (w.setCells g o vs).os = w.os ∧ (w.setCells g o vs).tape = w.tape ∧ (w.setCells g o vs).output = w.output
  | [], _, _, _ => ⟨rfl, rfl, rfl⟩
  | v :: r, g, o, w => by rw [World.setCells]; exact sc_rest r g (o + 1) _
theorem sc_block : ∀ (vs : List Value) (g o : Nat) (w : World) (cur : Array Value) (t : TypeId) (fz : Nat × Nat), w.heap[g]? = some (.cells cur t fz) → ∃ cur' : Array Value, (w.setCells g o vs).heap[g]? = some (.cells cur' t fz) ∧ cur'.size = cur.size
  | [], _, _, _, cur, _, _, h => ⟨cur, h, rfl⟩
  | v :: r, g, o, w, cur, t, fz, h => by
    rw [World.setCells, setCell_eq_setRow w g o cur t fz v h]
    obtain ⟨c', h1, h2⟩ := sc_block r g (o + 1) _ _ t fz (setRow_heap w g cur (cur.setIfInBounds o v) t fz h)
    exact ⟨c', h1, by rw [h2]; simp⟩
/-- A row of n elements of k cells, anywhere in a block. -/
def OV (w : World) (B : Nat) (e : TypeId) (k : Nat) (v : Value) (n : Nat) (xs : List Value) : Prop :=
  xs.length = n * k ∧ ((v = .slice none 0 0 ∧ n = 0) ∨ ∃ g off cap cur, v = .slice (some ⟨g, off, none⟩) n cap ∧ B ≤ g ∧ w.heap[g]? = some (.cells cur e (0, 0)) ∧ n ≤ cap ∧ cap ≤ maxLen ∧ off + cap * k ≤ cur.size ∧ ∀ j u, xs[j]? = some u → w.cell? ⟨g, off + j, none⟩ = some u)
theorem OV.nil (w : World) (B : Nat) (e : TypeId) (k : Nat) : OV w B e k (.slice none 0 0) 0 [] := ⟨by simp, .inl ⟨rfl, rfl⟩⟩
theorem OV.of_owns {w : World} {B : Nat} {e : TypeId} {k : Nat} {v : Value} {n : Nat} {xs : List Value} (h : w.ownsRow B e k v n xs) : OV w B e k v n xs := by
  refine ⟨h.1, ?_⟩
  have h' := h
  rcases h.2 with h0 | ⟨g, cap, cur, hv, hb, hh, h1, h2, h3, h4⟩
  · exact .inl h0
  · refine .inr ⟨g, 0, cap, cur, hv, hb, hh, h1, h2, by rw [h3]; omega, fun j u hj => ?_⟩
    have := World.ownsRow.cells h' (g := g) (by rw [hv]; rfl) j u hj
    rw [Addr.add_lit] at this; exact this
theorem OV.lt {w : World} {B : Nat} {e : TypeId} {k : Nat} {v : Value} {n : Nat} {xs : List Value} (h : OV w B e k v n xs) {g : Nat} (hg : v.ownBlock = some g) : B ≤ g ∧ g < w.heap.size := by
  rcases h.2 with ⟨rfl, _⟩ | ⟨g', off, cap, cur, rfl, hb, hh, _⟩
  · cases hg
  · cases hg; exact ⟨hb, (Array.getElem?_eq_some_iff.1 hh).1⟩
theorem OV.kept {w w' : World} {B : Nat} {e : TypeId} {k : Nat} {v : Value} {n : Nat} {xs : List Value} (h : OV w B e k v n xs) (hb : ∀ g, v.ownBlock = some g → w'.heap[g]? = w.heap[g]?) : OV w' B e k v n xs := by
  refine ⟨h.1, ?_⟩
  rcases h.2 with h0 | ⟨g, off, cap, cur, rfl, h1, hh, h2, h3, h4, h5⟩
  · exact .inl h0
  · have e := hb g rfl
    exact .inr ⟨g, off, cap, cur, rfl, h1, e.trans hh, h2, h3, h4, fun j u hj => (World.cell?_of_block (w := w) (a := ⟨g, off + j, none⟩) e).trans (h5 j u hj)⟩
theorem OV.later {w w' : World} {B : Nat} {e : TypeId} {k : Nat} {v : Value} {n : Nat} {xs : List Value} (h : OV w B e k v n xs) (hb : Below w.heap.size w w') : OV w' B e k v n xs :=
  h.kept (fun g hg => hb.block g (h.lt hg).2)
theorem OV.low {w : World} {B C : Nat} {e : TypeId} {k : Nat} {v : Value} {n : Nat} {xs : List Value} (h : OV w B e k v n xs) (hc : C ≤ B) : OV w C e k v n xs := by
  refine ⟨h.1, ?_⟩
  rcases h.2 with h0 | ⟨g, off, cap, cur, hv, h1, h2⟩
  · exact .inl h0
  · exact .inr ⟨g, off, cap, cur, hv, Nat.le_trans hc h1, h2⟩
/-- One element more. -/
theorem run_append_ov {P : Program} (w : World) (B : Nat) (t ty e : TypeId) (i : TypeInfo) (z : Value) (k bytes : Nat) (ht : P.underlying t = some (.slice e)) (hi : P.info? e = some i) (hz : i.zero = some z)
    (hsize : i.size = k) (hby : i.bytes = bytes) (hzs : z.cells.size = k) (hsz : 0 < k) (v : Value) (n : Nat) (xs : List Value) (h : OV w B e k v n xs) (b : Addr) (c : Nat) (news : List Value) (hl : news.length = k) (hnews : ∀ j u, news[j]? = some u → w.cell? (b.add j) = some u) (h1 : ∀ u ∈ news, u.oneCell' = true)
    (h63 : n + 1 ≤ maxLen) (hbytes : (n + 1) * bytes ≤ 140737488355328) (hB : B ≤ w.heap.size) :
    ∃ v' w', (Builtin.append_ #[t, t] ty #[v, .slice (some b) 1 c]).run P w = .ok v' w' ∧ OV w' B e k v' (n + 1) (xs ++ news) ∧ w.grownBy w' v.ownBlock ∧ (∀ g, v'.ownBlock = some g → v.ownBlock = some g ∨ w.heap.size ≤ g) := by
  rcases h.2 with ⟨rfl, rfl⟩ | ⟨g, off, cap, cur, rfl, hb, hh, hn1, hn2, hcs, hcell⟩
  · obtain rfl : xs = [] := List.eq_nil_of_length_eq_zero (by have := h.1; omega)
    obtain ⟨v', w', hrun, r1, r2, _⟩ := run_append_own (P := P) w w.heap.size t ty e i z k bytes ht hi hz hsize hby hzs hsz (.slice none 0 0) 0 [] (World.ownsRow_nil w _ _ k) b 1 c news (by omega) hnews h1 h63 hbytes (Nat.le_refl _)
    have r3 := OV.of_owns r1
    exact ⟨v', w', hrun, r3.low hB, r2, fun g hg => .inr (r3.lt hg).1⟩
  · by_cases hroom : n + 1 ≤ cap
    · subst hsize
      have hthere : ∀ j, j < news.length → (w.cell? ⟨g, off + n * i.size + j, none⟩).isSome = true := fun j hj => by
        have hlt : off + n * i.size + j < cur.size := by
          have h7 : (n + 1) * i.size ≤ cap * i.size := Nat.mul_le_mul_right _ hroom
          rw [Nat.add_mul] at h7
          omega
        rw [cell_of_row w g _ cur e (0, 0) hh, Array.getElem?_eq_getElem hlt]; rfl
      have hfz : ∀ j, j < news.length → w.frozen? ⟨g, off + n * i.size + j, none⟩ = false := fun j _ => by unfold World.frozen?; simp [hh]
      have hrun := run_append_room_cells (P := P) w t ty e i ht hi g off n cap b 1 c news (by omega) hnews h1 hroom hthere hfz
      obtain ⟨cur', hh', hsz'⟩ := sc_block news g (off + n * i.size) w cur e (0, 0) hh
      refine ⟨_, _, hrun, ⟨by rw [List.length_append, h.1, hl, Nat.add_mul]; omega, .inr ⟨g, off, cap, cur', rfl, hb, hh', hroom, hn2, by omega, fun j u hj => ?_⟩⟩, ?_, fun g' hg' => .inl hg'⟩
      · by_cases hjx : j < xs.length
        · rw [List.getElem?_append_left hjx] at hj
          rw [World.cell?_setCells_out g news (off + n * i.size) w ⟨g, off + j, none⟩ (fun _ _ => .inl (by show off + j < off + n * i.size; rw [← h.1]; omega))]
          exact hcell j u hj
        · rw [List.getElem?_append_right (by omega)] at hj
          have hjl := (List.getElem?_eq_some_iff.1 hj).1
          have hin := World.cell?_setCells_in g news (off + n * i.size) w hthere (j - xs.length) hjl
          have ea : off + n * i.size + (j - xs.length) = off + j := by rw [← h.1]; omega
          rw [ea] at hin
          rw [hin]
          rw [List.getElem?_eq_getElem hjl] at hj
          exact hj
      · obtain ⟨q1, q2, q3⟩ := sc_rest news g (off + n * i.size) w
        exact ⟨q1, q2, q3, by rw [sc_size]; exact Nat.le_refl _, fun x _ hx => sc_heap g news _ w x (fun e => hx (by rw [e]; rfl))⟩
    · obtain ⟨v', w', hrun, r1, r2⟩ := run_append_arg_grows (P := P) w t ty e i z k bytes ht hi hz hsize hby hzs hsz ⟨g, off, none⟩ n cap xs h.1 (fun j u hj => by rw [Addr.add_lit]; exact hcell j u hj) b 1 c news (by omega) hnews (by omega) h63 hbytes
      have r3 := OV.of_owns r1
      exact ⟨v', w', hrun, r3.low hB, ⟨r2.os, r2.tape, r2.output, r2.size, fun x hx _ => r2.block x hx (by intro e; cases e)⟩, fun g' hg' => .inr (r3.lt hg').1⟩
end Go.Proofs.YtknnojjfdfkdmaaGreatDoor
