/-
  My own text: HC1, HC2 in one.
-/
import Derived.Test.YtehacdijleommaaGreatDoorProg
import Derived.Test.YtehacdijleommaaGreatDoorErr
import Derived.Deep.RegionHeld3
import Derived.WalkSmall
import Derived.ArgAppend
import Derived.Deep.MidRow
import Derived.Deep.Onto
namespace Go.Proofs.YtehacdijleommaaGreatDoor
open Go.RowKit

set_option maxRecDepth 100000 in
set_option maxHeartbeats 1000000 in
theorem search_any (fid : FuncId) (caps : Array Value) (K N : Nat) (w : World) (hN : N ≤ 4611686018427387904) (hK : K ≤ N) (hE : ∀ (W : World) (a : Array Value), (callFunc fid a).run Tryz.prog W = .ok (.enter fid a) W)
    (hT : ∀ (i : Nat) (W : World), i < N → Below w.heap.size w W → Calls Tryz.prog fid (#[.int .i64 (i : Int)] ++ caps) W fun e w' => e = .returned (.bool (decide (K ≤ i))) ∧ Below W.heap.size W w') :
    Calls Tryz.prog 107 #[.int .i64 (N : Int), .func (Fn.func fid) #[] caps] w fun e w' => e = .returned (.int .i64 (K : Int)) ∧ Below w.heap.size w w' := by
  have HT := hide hT
  clear hT
  go_enter Tryz.func107, Tryz.ntmps107
  go_wp2_with fail
  go_loopw [5, 6] (fun i j wr => ∃ a b : Nat, i = .int .i64 (a : Int) ∧ j = .int .i64 (b : Int) ∧ a ≤ K ∧ K ≤ b ∧ b ≤ N ∧ Hid (Below w.heap.size w wr)) (fun i j _ => (intOf j).toNat - (intOf i).toNat)
  case atStart => exact ⟨0, N, rfl, rfl, Nat.zero_le _, hK, Nat.le_refl _, hide (Below.refl _ _)⟩
  case round =>
    obtain ⟨a, b, rfl, rfl, h1, h2, h3, HB⟩ := hrel
    by_cases hab : a < b
    · have hd1 : decide ((a : Int) < (b : Int)) = true := by rw [decide_eq_true_eq]; omega
      have w1 : wrap64 ((a : Int) + (b : Int)) = (a : Int) + (b : Int) := by unfold wrap64; omega
      go_wp2_with fail
      obtain ⟨h, eh⟩ : ∃ h : Nat, (h : Int) = ((a : Int) + (b : Int)) / 2 := ⟨(a + b) / 2, by omega⟩
      rw [← eh]
      have h4 : a ≤ h := by omega
      have h5 : h < b := by omega
      have H := hide (HT.out h wr (by omega) HB.out)
      clear eh w1
      refine H.out.mono ?_
      rintro e w2 ⟨rfl, hb2⟩
      have HB2 := hide (HB.out.trans (hb2.mono HB.out.size))
      clear hb2 H HB
      by_cases hk : K ≤ h
      · rw [decide_eq_true hk]
        go_wp2_with fail
        go_roundw
        case rel => exact ⟨a, h, rfl, rfl, h1, hk, by omega, HB2⟩
        case measure => simp [intOf]; omega
      · rw [decide_eq_false hk]
        go_wp2_with fail
        go_roundw
        case rel => exact ⟨h + 1, b, by go_num, rfl, by omega, h2, h3, HB2⟩
        case measure => simp [intOf]; omega
    · have hd1 : decide ((a : Int) < (b : Int)) = false := by rw [decide_eq_false_iff_not]; omega
      have e : a = K := by omega
      subst e
      go_wp2_with fail
      go_ret
      exact ⟨rfl, HB.out⟩
end Go.Proofs.YtehacdijleommaaGreatDoor
namespace Go.Proofs.YtehacdijleommaaGreatDoor
open Go.RowKit

theorem sc_heap (g : Nat) : ∀ (vs : List Value) (o : Nat) (w : World) (x : Nat), x ≠ g → (w.setCells g o vs).heap[x]? = w.heap[x]?
  | [], _, _, _, _ => rfl
  | v :: r, o, w, x, hx => by rw [World.setCells, sc_heap g r (o + 1) _ x hx, Below.heap_setCell _ _ _ x hx]
theorem sc_size : ∀ (vs : List Value) (g o : Nat) (w : World), (w.setCells g o vs).heap.size = w.heap.size
  | [], _, _, _ => rfl
  | v :: r, g, o, w => by rw [World.setCells, sc_size r g (o + 1)]; simp [World.setCell]
theorem sc_rest : ∀ (vs : List Value) (g o : Nat) (w : World), (w.setCells g o vs).os = w.os ∧ (w.setCells g o vs).tape = w.tape ∧ (w.setCells g o vs).output = w.output
  | [], _, _, _ => ⟨rfl, rfl, rfl⟩
  | v :: r, g, o, w => by rw [World.setCells]; exact sc_rest r g (o + 1) _
theorem sc_block : ∀ (vs : List Value) (g o : Nat) (w : World) (cur : Array Value) (t : TypeId) (fz : Nat × Nat), w.heap[g]? = some (.cells cur t fz) → ∃ cur' : Array Value, (w.setCells g o vs).heap[g]? = some (.cells cur' t fz) ∧ cur'.size = cur.size
  | [], _, _, _, cur, _, _, h => ⟨cur, h, rfl⟩
  | v :: r, g, o, w, cur, t, fz, h => by
    rw [World.setCells, setCell_eq_setRow w g o cur t fz v h]
    obtain ⟨c', h1, h2⟩ := sc_block r g (o + 1) _ _ t fz (setRow_heap w g cur (cur.setIfInBounds o v) t fz h)
    exact ⟨c', h1, by rw [h2]; simp⟩
/-- A row of n elements of k cells, anywhere in a block. -/
def OR (w : World) (B : Nat) (e : TypeId) (k : Nat) (v : Value) (n : Nat) (xs : List Value) : Prop :=
  xs.length = n * k ∧ ((v = .slice none 0 0 ∧ n = 0) ∨ ∃ g off cap cur, v = .slice (some ⟨g, off, none⟩) n cap ∧ B ≤ g ∧ w.heap[g]? = some (.cells cur e (0, 0)) ∧ n ≤ cap ∧ cap ≤ maxLen ∧ cur.size = off + cap * k ∧ ∀ j u, xs[j]? = some u → w.cell? ⟨g, off + j, none⟩ = some u)
theorem OR.nil (w : World) (B : Nat) (e : TypeId) (k : Nat) : OR w B e k (.slice none 0 0) 0 [] := ⟨by simp, .inl ⟨rfl, rfl⟩⟩
theorem OR.of_owns {w : World} {B : Nat} {e : TypeId} {k : Nat} {v : Value} {n : Nat} {xs : List Value} (h : w.ownsRow B e k v n xs) : OR w B e k v n xs := by
  refine ⟨h.1, ?_⟩
  have h' := h
  rcases h.2 with h0 | ⟨g, cap, cur, hv, hb, hh, h1, h2, h3, h4⟩
  · exact .inl h0
  · refine .inr ⟨g, 0, cap, cur, hv, hb, hh, h1, h2, by rw [h3]; omega, fun j u hj => ?_⟩
    have := World.ownsRow.cells h' (g := g) (by rw [hv]; rfl) j u hj
    rw [Addr.add_lit] at this; exact this
theorem OR.lt {w : World} {B : Nat} {e : TypeId} {k : Nat} {v : Value} {n : Nat} {xs : List Value} (h : OR w B e k v n xs) {g : Nat} (hg : v.ownBlock = some g) : B ≤ g ∧ g < w.heap.size := by
  rcases h.2 with ⟨rfl, _⟩ | ⟨g', off, cap, cur, rfl, hb, hh, _⟩
  · cases hg
  · cases hg; exact ⟨hb, (Array.getElem?_eq_some_iff.1 hh).1⟩
theorem OR.kept {w w' : World} {B : Nat} {e : TypeId} {k : Nat} {v : Value} {n : Nat} {xs : List Value} (h : OR w B e k v n xs) (hb : ∀ g, v.ownBlock = some g → w'.heap[g]? = w.heap[g]?) : OR w' B e k v n xs := by
  refine ⟨h.1, ?_⟩
  rcases h.2 with h0 | ⟨g, off, cap, cur, rfl, h1, hh, h2, h3, h4, h5⟩
  · exact .inl h0
  · have e := hb g rfl
    exact .inr ⟨g, off, cap, cur, rfl, h1, e.trans hh, h2, h3, h4, fun j u hj => (World.cell?_of_block (w := w) (a := ⟨g, off + j, none⟩) e).trans (h5 j u hj)⟩
theorem OR.later {w w' : World} {B : Nat} {e : TypeId} {k : Nat} {v : Value} {n : Nat} {xs : List Value} (h : OR w B e k v n xs) (hb : Below w.heap.size w w') : OR w' B e k v n xs :=
  h.kept (fun g hg => hb.block g (h.lt hg).2)
theorem OR.low {w : World} {B C : Nat} {e : TypeId} {k : Nat} {v : Value} {n : Nat} {xs : List Value} (h : OR w B e k v n xs) (hc : C ≤ B) : OR w C e k v n xs := by
  refine ⟨h.1, ?_⟩
  rcases h.2 with h0 | ⟨g, off, cap, cur, hv, h1, h2⟩
  · exact .inl h0
  · exact .inr ⟨g, off, cap, cur, hv, Nat.le_trans hc h1, h2⟩
/-- A row that begins its block. -/
def Z0 (v : Value) : Prop := ∀ g off x n c, v = .slice (some ⟨g, off, x⟩) n c → off = 0
theorem Z0.nil : Z0 (.slice none 0 0) := fun g off x n c e => by cases e
theorem Z0.owns {w : World} {B : Nat} {e : TypeId} {k : Nat} {v : Value} {n : Nat} {xs : List Value} (h : w.ownsRow B e k v n xs) : Z0 v := by
  intro g off x n' c q
  rcases h.2 with ⟨h0, _⟩ | ⟨g', cap, cur, hv, _⟩
  · rw [h0] at q; cases q
  · rw [hv] at q; cases q; rfl
/-- One element more. -/
theorem run_append_orz {P : Program} (w : World) (B : Nat) (t ty e : TypeId) (i : TypeInfo) (z : Value) (k bytes : Nat) (ht : P.underlying t = some (.slice e)) (hi : P.info? e = some i) (hz : i.zero = some z)
    (hsize : i.size = k) (hby : i.bytes = bytes) (hzs : z.cells.size = k) (hsz : 0 < k) (v : Value) (n : Nat) (xs : List Value) (h : OR w B e k v n xs) (b : Addr) (c : Nat) (news : List Value) (hl : news.length = k) (hnews : ∀ j u, news[j]? = some u → w.cell? (b.add j) = some u) (h1 : ∀ u ∈ news, u.oneCell' = true)
    (h63 : n + 1 ≤ maxLen) (hbytes : (n + 1) * bytes ≤ 140737488355328) (hB : B ≤ w.heap.size) :
    ∃ v' w', (Builtin.append_ #[t, t] ty #[v, .slice (some b) 1 c]).run P w = .ok v' w' ∧ OR w' B e k v' (n + 1) (xs ++ news) ∧ w.grownBy w' v.ownBlock ∧ (∀ g, v'.ownBlock = some g → v.ownBlock = some g ∨ w.heap.size ≤ g) ∧ (Z0 v → Z0 v') := by
  rcases h.2 with ⟨rfl, rfl⟩ | ⟨g, off, cap, cur, rfl, hb, hh, hn1, hn2, hcs, hcell⟩
  · obtain rfl : xs = [] := List.eq_nil_of_length_eq_zero (by have := h.1; omega)
    obtain ⟨v', w', hrun, r1, r2, _⟩ := run_append_own (P := P) w w.heap.size t ty e i z k bytes ht hi hz hsize hby hzs hsz (.slice none 0 0) 0 [] (World.ownsRow_nil w _ _ k) b 1 c news (by omega) hnews h1 h63 hbytes (Nat.le_refl _)
    have r3 := OR.of_owns r1
    exact ⟨v', w', hrun, r3.low hB, r2, fun g hg => .inr (r3.lt hg).1, fun _ => Z0.owns r1⟩
  · by_cases hroom : n + 1 ≤ cap
    · subst hsize
      have hthere : ∀ j, j < news.length → (w.cell? ⟨g, off + n * i.size + j, none⟩).isSome = true := fun j hj => by
        have hlt : off + n * i.size + j < cur.size := by
          have h7 : (n + 1) * i.size ≤ cap * i.size := Nat.mul_le_mul_right _ hroom
          rw [Nat.add_mul] at h7
          omega
        rw [cell_of_row w g _ cur e (0, 0) hh, Array.getElem?_eq_getElem hlt]; rfl
      have hfz : ∀ j, j < news.length → w.frozen? ⟨g, off + n * i.size + j, none⟩ = false := fun j _ => by unfold World.frozen?; simp [hh]
      have hrun := run_append_room_cells (P := P) w t ty e i ht hi g off n cap b 1 c news (by omega) hnews h1 hroom hthere hfz
      obtain ⟨cur', hh', hsz'⟩ := sc_block news g (off + n * i.size) w cur e (0, 0) hh
      refine ⟨_, _, hrun, ⟨by rw [List.length_append, h.1, hl, Nat.add_mul]; omega, .inr ⟨g, off, cap, cur', rfl, hb, hh', hroom, hn2, by omega, fun j u hj => ?_⟩⟩, ?_, fun g' hg' => .inl hg', fun hz g' o' x' n' c' e => by cases e; exact hz _ _ _ _ _ rfl⟩
      · by_cases hjx : j < xs.length
        · rw [List.getElem?_append_left hjx] at hj
          rw [World.cell?_setCells_out g news (off + n * i.size) w ⟨g, off + j, none⟩ (fun _ _ => .inl (by show off + j < off + n * i.size; rw [← h.1]; omega))]
          exact hcell j u hj
        · rw [List.getElem?_append_right (by omega)] at hj
          have hjl := (List.getElem?_eq_some_iff.1 hj).1
          have hin := World.cell?_setCells_in g news (off + n * i.size) w hthere (j - xs.length) hjl
          have ea : off + n * i.size + (j - xs.length) = off + j := by rw [← h.1]; omega
          rw [ea] at hin
          rw [hin]
          rw [List.getElem?_eq_getElem hjl] at hj
          exact hj
      · obtain ⟨q1, q2, q3⟩ := sc_rest news g (off + n * i.size) w
        exact ⟨q1, q2, q3, by rw [sc_size]; exact Nat.le_refl _, fun x _ hx => sc_heap g news _ w x (fun e => hx (by rw [e]; rfl))⟩
    · obtain ⟨v', w', hrun, r1, r2⟩ := run_append_arg_grows (P := P) w t ty e i z k bytes ht hi hz hsize hby hzs hsz ⟨g, off, none⟩ n cap xs h.1 (fun j u hj => by rw [Addr.add_lit]; exact hcell j u hj) b 1 c news (by omega) hnews (by omega) h63 hbytes
      have r3 := OR.of_owns r1
      exact ⟨v', w', hrun, r3.low hB, ⟨r2.os, r2.tape, r2.output, r2.size, fun x hx _ => r2.block x hx (by intro e; cases e)⟩, fun g' hg' => .inr (r3.lt hg').1, fun _ => Z0.owns r1⟩
theorem run_append_or {P : Program} (w : World) (B : Nat) (t ty e : TypeId) (i : TypeInfo) (z : Value) (k bytes : Nat) (ht : P.underlying t = some (.slice e)) (hi : P.info? e = some i) (hz : i.zero = some z)
    (hsize : i.size = k) (hby : i.bytes = bytes) (hzs : z.cells.size = k) (hsz : 0 < k) (v : Value) (n : Nat) (xs : List Value) (h : OR w B e k v n xs) (b : Addr) (c : Nat) (news : List Value) (hl : news.length = k) (hnews : ∀ j u, news[j]? = some u → w.cell? (b.add j) = some u) (h1 : ∀ u ∈ news, u.oneCell' = true)
    (h63 : n + 1 ≤ maxLen) (hbytes : (n + 1) * bytes ≤ 140737488355328) (hB : B ≤ w.heap.size) :
    ∃ v' w', (Builtin.append_ #[t, t] ty #[v, .slice (some b) 1 c]).run P w = .ok v' w' ∧ OR w' B e k v' (n + 1) (xs ++ news) ∧ w.grownBy w' v.ownBlock ∧ (∀ g, v'.ownBlock = some g → v.ownBlock = some g ∨ w.heap.size ≤ g) := by
  obtain ⟨v', w', a, b, c, d, _⟩ := run_append_orz (P := P) w B t ty e i z k bytes ht hi hz hsize hby hzs hsz v n xs h b c news hl hnews h1 h63 hbytes hB
  exact ⟨v', w', a, b, c, d⟩
end Go.Proofs.YtehacdijleommaaGreatDoor
