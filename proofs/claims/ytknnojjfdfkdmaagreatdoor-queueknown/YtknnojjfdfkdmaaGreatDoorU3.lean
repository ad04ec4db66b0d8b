/-
  My own text: layer 19: slices.Insert of one entry into a row of entries.
-/
import Derived.Test.YtknnojjfdfkdmaaGreatDoorU2
import Derived.Deep.RegionLaw
import Derived.Shelf.Spec.SlicesInsert
import Derived.Lib.AppendZerosOnto
import Derived.Lib.Overlaps
namespace Go.Proofs.YtknnojjfdfkdmaaGreatDoor
open Go.RowKit

theorem Tryz.infoE : (Tryz.prog.info? 63).map (fun i => (i.zero, i.size, i.bytes)) = some (some (.pointer none), 1, 8) := by kernel_rfl
theorem app_types {P : Program} {t t' e e' ty : TypeId} (ht : P.underlying t = some (.slice e)) (ht' : P.underlying t' = some (.slice e')) {i : TypeInfo} (hi : P.info? e = some i) (s : Option Addr) (n c : Nat) (x : Value) (w : World) :
    (Builtin.append_ #[t, t'] ty #[.slice s n c, x]).run P w = (Builtin.append_ #[t, t] ty #[.slice s n c, x]).run P w := by
  simp [Builtin.append_, run_underlying ht, run_underlying ht', sizeOf, typeInfo, hi]
theorem ep_one {u : Value} {L : List Nat} (h : u ∈ L.map ep) : u.oneCell' = true := by
  obtain ⟨x, _, rfl⟩ := List.mem_map.1 h
  rfl
theorem sc_grown (w : World) (g o : Nat) (vs : List Value) : w.grownBy (w.setCells g o vs) (some g) := by
  obtain ⟨q1, q2, q3⟩ := sc_rest vs g o w
  exact ⟨q1, q2, q3, by rw [sc_size]; exact Nat.le_refl _, fun x _ hx => sc_heap g vs o w x (fun e => hx (by rw [e]))⟩
theorem gb_trans {a b c : World} {r : Option Nat} (h : a.grownBy b r) (k : b.grownBy c r) : a.grownBy c r :=
  ⟨k.os.trans h.os, k.tape.trans h.tape, k.output.trans h.output, Nat.le_trans h.size k.size, fun x hx hr => (k.block x (Nat.lt_of_lt_of_le hx h.size) hr).trans (h.block x hx hr)⟩
theorem gb_refl (w : World) (r : Option Nat) : w.grownBy w r := ⟨rfl, rfl, rfl, Nat.le_refl _, fun _ _ _ => rfl⟩
theorem gb_drew (w : World) (r : Option Nat) : w.grownBy w.drew r := ⟨rfl, rfl, rfl, Nat.le_refl _, fun _ _ _ => rfl⟩
theorem gb_below {w w' : World} (h : Below w.heap.size w w') (r : Option Nat) : w.grownBy w' r := ⟨h.os, h.tape, h.output, h.size, fun x hx _ => h.block x hx⟩
theorem gb_new {a b c : World} {g : Nat} (h : a.grownBy b none) (hg : a.heap.size ≤ g) (k : b.grownBy c (some g)) (r : Option Nat) : a.grownBy c r :=
  ⟨k.os.trans h.os, k.tape.trans h.tape, k.output.trans h.output, Nat.le_trans h.size k.size, fun x hx _ => (k.block x (Nat.lt_of_lt_of_le hx h.size) (fun e => by have := Option.some.inj e; omega)).trans (h.block x hx (by intro e; cases e))⟩
theorem ins_at {L : List Nat} {p e j x : Nat} (hp : p ≤ L.length) (h : (L.take p ++ e :: L.drop p)[j]? = some x) : (j < p ∧ L[j]? = some x) ∨ (j = p ∧ x = e) ∨ (p < j ∧ L[j - 1]? = some x) := by
  have hlen : (L.take p).length = p := by rw [List.length_take]; omega
  by_cases h1 : j < p
  · rw [List.getElem?_append_left (by omega), List.getElem?_take, if_pos h1] at h
    exact .inl ⟨h1, h⟩
  · rw [List.getElem?_append_right (by omega), hlen] at h
    by_cases h2 : j = p
    · rw [h2, Nat.sub_self] at h
      exact .inr (.inl ⟨h2, (Option.some.inj h).symm⟩)
    · obtain ⟨d, hd⟩ : ∃ d, j - p = d + 1 := ⟨j - p - 1, by omega⟩
      rw [hd, List.getElem?_cons_succ, List.getElem?_drop, show p + d = j - 1 by omega] at h
      exact .inr (.inr ⟨by omega, h⟩)
theorem ins_len {L : List Nat} {p e : Nat} (hp : p ≤ L.length) : (L.take p ++ e :: L.drop p).length = L.length + 1 := by
  simp; omega
set_option maxRecDepth 100000 in
set_option maxHeartbeats 2000000 in
theorem ins_end (v : Value) (e vb : Nat) (L : List Nat) (w : World) (h : PR w v L) (hv : w.cell? ⟨vb, 0, none⟩ = some (ep e)) (hl : L.length ≤ 8796093022000) :
    Calls Tryz.prog 51 #[v, .int .i64 (L.length : Int), .slice (some ⟨vb, 0, none⟩) 1 1] w fun r w' => ∃ v', r = .returned v' ∧ PR w' v' (L ++ [e]) ∧ w.grownBy w' v.ownBlock ∧ (∀ g, v'.ownBlock = some g → v.ownBlock = some g ∨ w.heap.size ≤ g) := by
  obtain ⟨i0, hi, hz0, hz1, hz2⟩ := info_parts Tryz.infoE
  have hrun : ∀ ty, ∃ v' w', (Builtin.append_ #[60, 59] ty #[v, .slice (some ⟨vb, 0, none⟩) 1 1]).run Tryz.prog w = .ok v' w' ∧ PR w' v' (L ++ [e]) ∧ w.grownBy w' v.ownBlock ∧ (∀ g, v'.ownBlock = some g → v.ownBlock = some g ∨ w.heap.size ≤ g) := fun ty => by
    obtain ⟨v', w', h1, h2, h3, h4⟩ := run_append_ov (P := Tryz.prog) w 0 60 ty 63 i0 _ 1 8 Tryz.underlying60 hi hz0 hz1 hz2 rfl (by decide) v L.length (L.map ep) h ⟨vb, 0, none⟩ 1 [ep e] rfl (fun j u hj => by
      match j, hj with
      | 0, hj => obtain rfl := Option.some.inj hj; simpa [Addr.add] using hv) (fun u hu => by rw [List.mem_singleton.1 hu]; rfl) (by unfold maxLen; omega) (by omega) (Nat.zero_le _)
    obtain ⟨sa, sc, rfl⟩ : ∃ a c, v = .slice a L.length c := by
      rcases h.get with ⟨rfl, rfl⟩ | ⟨g, off, cap, cur, rfl, _⟩
      · exact ⟨_, _, rfl⟩
      · exact ⟨_, _, rfl⟩
    refine ⟨v', w', (app_types Tryz.underlying60 Tryz.underlying59 hi _ _ _ _ w).trans h1, ?_, h3, h4⟩
    unfold PR
    rw [List.map_append, List.length_append]
    exact h2
  clear hi hz0 hz1 hz2
  rcases h.get with ⟨rfl, rfl⟩ | ⟨g, off, cap, cur, rfl, hh, hn, hm, hsz, hc⟩
  · obtain ⟨v', w', h1, h2, h3, h4⟩ := hrun 60
    have HR := hide h1
    clear h1 hrun
    show Calls Tryz.prog 51 #[.slice none 0 0, .int .i64 0, .slice (some ⟨vb, 0, none⟩) 1 1] w _
    go_enter Tryz.func51, Tryz.ntmps51
    go_wp2_with (at_builtin; refine Lib.wpList_append_run _ rfl _ _ 60 59 rfl _ _ rfl rfl _ _ HR.out ?_)
    go_ret
    exact ⟨v', rfl, h2, h3, h4⟩
  · obtain ⟨v', w', h1, h2, h3, h4⟩ := hrun 60
    have HR := hide h1
    have H2 := hide h2
    have H3 := hide h3
    have H4 := hide h4
    have q1 : (0 : Int) ≤ (L.length : Int) := by omega
    have q2 : (L.length : Int) ≤ (cap : Int) := by omega
    clear h1 hrun hh hm hsz hc h2 h3 h4 h
    by_cases hcap : cap = L.length
    · subst hcap
      go_enter Tryz.func51, Tryz.ntmps51
      go_wp2_with (at_builtin; refine Lib.wpList_append_run _ rfl _ _ 60 59 rfl _ _ rfl rfl _ _ HR.out ?_)
      go_ret
      exact ⟨v', rfl, H2.out, H3.out, H4.out⟩
    · go_enter Tryz.func51, Tryz.ntmps51
      go_wp2_with (at_builtin; refine Lib.wpList_append_run _ rfl _ _ 60 59 rfl _ _ rfl rfl _ _ HR.out ?_)
      go_ret
      exact ⟨v', rfl, H2.out, H3.out, H4.out⟩
theorem clr_row {w : World} {g : Nat} {cur : Array Value} {t : TypeId} (hh : w.heap[g]? = some (.cells cur t (0, 0))) (o : Nat) : w.frozen? ⟨g, o, none⟩ = false := by unfold World.frozen?; simp [hh]
theorem some_row {w : World} {g o : Nat} {cur : Array Value} {t : TypeId} (hh : w.heap[g]? = some (.cells cur t (0, 0))) (h : o < cur.size) : (w.cell? ⟨g, o, none⟩).isSome = true := by
  rw [cell_of_row w g o cur t _ hh, Array.getElem?_eq_getElem h]; rfl
theorem ins_nums {p n cap : Nat} (hp : p < n) (hroom : n + 1 ≤ cap) (hl : n ≤ 8796093022000) : ¬ ((p : Int) = (n : Int)) ∧ IntKind.i64.wrap ((p : Int) + 1) = (p : Int) + 1 ∧ wrap64 ((p : Int) + 1) = (p : Int) + 1 ∧ wrap64 ((n : Int) + 1) = (n : Int) + 1 ∧ (0 : Int) ≤ (p : Int) + 1 ∧ ((p : Int) + 1).toNat = p + 1 ∧ ¬ (cap = p + 1) ∧ (p : Int) ≤ (n : Int) + 1 ∧ ¬ (cap = p) ∧ (p : Int) ≤ (n : Int) ∧ ¬ ((cap : Int) < (n : Int) + 1) ∧ decide ((cap : Int) < (n : Int) + 1) = false :=
  ⟨by omega, by rw [IntKind.wrap_i64]; omega, by unfold wrap64; omega, by unfold wrap64; omega, by omega, by omega, by omega, by omega, by omega, by omega, by omega, decide_eq_false (by omega)⟩
set_option maxRecDepth 100000 in
set_option maxHeartbeats 400000 in
theorem ins_room (g off cap p e vb : Nat) (cur : Array Value) (L : List Nat) (w : World) (hh : w.heap[g]? = some (.cells cur 63 (0, 0))) (hsz : off + cap ≤ cur.size) (hc : ∀ j x, L[j]? = some x → w.cell? ⟨g, off + j, none⟩ = some (ep x)) (hv : w.heap[vb]? = some (.cells #[ep e] 63 (0, 0))) (hne : vb ≠ g) (hp : p < L.length) (hroom : L.length + 1 ≤ cap) (hm : cap ≤ maxLen) (hl : L.length ≤ 8796093022000) :
    Calls Tryz.prog 51 #[.slice (some ⟨g, off, none⟩) L.length cap, .int .i64 (p : Int), .slice (some ⟨vb, 0, none⟩) 1 1] w fun r w' => r = .returned (.slice (some ⟨g, off, none⟩) (L.length + 1) cap) ∧ PR w' (.slice (some ⟨g, off, none⟩) (L.length + 1) cap) (L.take p ++ e :: L.drop p) ∧ w.grownBy w' (some g) := by
  obtain ⟨i0, hi, hz0, hz1, hz2⟩ := info_parts Tryz.infoE
  have hiz : (Tryz.prog.info? 63).map (·.size) = some 1 := by rw [hi, Option.map_some, hz1]
  have hml : maxLen = 9223372036854775807 := rfl
  have hov : ∀ lb cb, (callFunc 71 #[.slice (some ⟨vb, 0, none⟩) 1 1, .slice (some ⟨g, off + (p + 1), none⟩) lb cb]).run Tryz.prog w = .ok (.value (.bool false)) w := fun lb cb => by
    rw [run_callFunc_extern Tryz.func71 (by kernel_rfl) (by kernel_rfl) (by kernel_rfl) (e := Extern.SlicesOverlaps.overlaps #[59, 59] #[4]) (by kernel_rfl),
      Lib.run_overlaps_apart w 59 4 63 Tryz.underlying59 1 (fun w => by simp [sizeOf, typeInfo, hi, hz1]) ⟨vb, 0, none⟩ ⟨g, off + (p + 1), none⟩ 1 1 lb cb hne 63 63 1 cur.size
        (by simp [World.shape?, hv]) (by simp [World.shape?, hh]) (by omega) (clr_row hv _) (clr_row hv _)]
    rfl
  obtain ⟨D, hD⟩ : ∃ D : List Value, D = (L.map ep).drop p := ⟨_, rfl⟩
  have hDl : D.length = L.length - p := by rw [hD, List.length_drop, List.length_map]
  have hDat : ∀ (j : Nat) (u : Value), D[j]? = some u → ∃ x, L[p + j]? = some x ∧ u = ep x := fun j u hj => by
    rw [hD, List.getElem?_drop, List.getElem?_map] at hj
    obtain ⟨x, hx, rfl⟩ := Option.map_eq_some_iff.1 hj
    exact ⟨x, hx, rfl⟩
  have hDe : ∀ (j x : Nat), p ≤ j → L[j]? = some x → D[j - p]? = some (ep x) := fun j x hj hx => by
    rw [hD, List.getElem?_drop, List.getElem?_map, show p + (j - p) = j by omega, hx]; rfl
  have hD1 : ∀ u ∈ D, u.oneCell' = true := fun u hu => by rw [hD] at hu; exact ep_one (List.mem_of_mem_drop hu)
  clear hD
  have hcp1 : ∀ ty dc sc, (Builtin.copy_ #[60, 60] ty #[.slice (some ⟨g, off + (p + 1), none⟩) (L.length - p) dc, .slice (some ⟨g, off + p, none⟩) (L.length + 1 - p) sc]).run Tryz.prog w.drew = .ok (goInt D.length) (w.drew.setCells g (off + (p + 1)) D) := fun ty dc sc =>
    run_copy_cells w.drew _ _ ty 63 g (off + (p + 1)) (L.length - p) dc ⟨g, off + p, none⟩ (L.length + 1 - p) sc D Tryz.underlying60 hiz (by rw [hDl]; simp only [Nat.min_def]; split <;> omega)
      (fun j u hj => by
        obtain ⟨x, hx, rfl⟩ := hDat j u hj
        rw [Addr.add_lit, Nat.add_assoc]; exact hc (p + j) x hx)
      (fun j hj => some_row (w := w.drew) hh (by omega)) (fun j _ => clr_row (w := w.drew) hh _) hD1
  obtain ⟨cur1, hh1, hs1⟩ := sc_block D g (off + (p + 1)) w.drew cur _ _ hh
  have hin1 : ∀ (j x : Nat), p < j → L[j - 1]? = some x → (w.drew.setCells g (off + (p + 1)) D).cell? ⟨g, off + j, none⟩ = some (ep x) := fun j x hj hx => by
    have hxl := (List.getElem?_eq_some_iff.1 hx).1
    have a1 := World.cell?_setCells_in g D (off + (p + 1)) w.drew (fun i hi => some_row (w := w.drew) hh (by omega)) (j - (p + 1)) (by omega)
    rw [show off + (p + 1) + (j - (p + 1)) = off + j by omega] at a1
    have a2 := hDe (j - 1) x (by omega) hx
    rw [show j - 1 - p = j - (p + 1) by omega] at a2
    rw [a1, ← a2]; exact (List.getElem?_eq_getElem (by omega)).symm
  have hout1 : ∀ (j x : Nat), j < p → L[j]? = some x → (w.drew.setCells g (off + (p + 1)) D).cell? ⟨g, off + j, none⟩ = some (ep x) := fun j x hj hx => by
    rw [World.cell?_setCells_out g _ _ w.drew ⟨g, off + j, none⟩ (fun _ _ => .inl (by show off + j < off + (p + 1); omega))]
    exact hc j x hx
  have hv1 : (w.drew.setCells g (off + (p + 1)) D).heap[vb]? = some (.cells #[ep e] 63 (0, 0)) := by rw [sc_heap g D _ w.drew vb hne]; exact hv
  have hg1 := gb_trans (gb_drew w (some g)) (sc_grown w.drew g (off + (p + 1)) D)
  obtain ⟨W1, hW1⟩ : ∃ W1, w.drew.setCells g (off + (p + 1)) D = W1 := ⟨_, rfl⟩
  rw [hW1] at hcp1 hh1 hin1 hout1 hv1 hg1
  have hcp2 : ∀ ty dc, (Builtin.copy_ #[60, 59] ty #[.slice (some ⟨g, off + p, none⟩) (L.length + 1 - p) dc, .slice (some ⟨vb, 0, none⟩) 1 1]).run Tryz.prog W1 = .ok (goInt ([ep e] : List Value).length) (W1.setCells g (off + p) [ep e]) := fun ty dc =>
    run_copy_cells W1 _ _ ty 63 g (off + p) (L.length + 1 - p) dc ⟨vb, 0, none⟩ 1 1 [ep e] Tryz.underlying60 hiz (by simp only [Nat.min_def, List.length_cons, List.length_nil]; split <;> omega)
      (fun j u hj => by
        rw [Addr.add_lit, cell_of_row _ _ _ _ _ _ hv1, Nat.zero_add]; simpa using hj)
      (fun j hj => some_row hh1 (by simp at hj; omega)) (fun j _ => clr_row hh1 _) (fun u hu => by rw [List.mem_singleton.1 hu]; rfl)
  obtain ⟨cur2, hh2, hs2⟩ := sc_block [ep e] g (off + p) W1 cur1 _ _ hh1
  have HRES : Hid (PR (W1.setCells g (off + p) [ep e]) (.slice (some ⟨g, off, none⟩) (L.length + 1) cap) (L.take p ++ e :: L.drop p)) := hide (by
    rw [← ins_len (e := e) (Nat.le_of_lt hp)]
    refine PR.mk hh2 (by rw [ins_len (Nat.le_of_lt hp)]; exact hroom) hm (by omega) (fun j x hx => ?_)
    rcases ins_at (Nat.le_of_lt hp) hx with ⟨h1, h2⟩ | ⟨h1, h2⟩ | ⟨h1, h2⟩
    · rw [World.cell?_setCells_out g _ _ W1 ⟨g, off + j, none⟩ (fun _ _ => .inl (by show off + j < off + p; omega))]
      exact hout1 j x h1 h2
    · subst h1 h2
      have := World.cell?_setCells_in g [ep x] (off + j) W1 (fun i hi => some_row hh1 (by simp at hi; omega)) 0 (by simp)
      simpa using this
    · rw [World.cell?_setCells_out g _ _ W1 ⟨g, off + j, none⟩ (fun _ _ => .inr (by show off + p + 1 ≤ off + j; omega))]
      exact hin1 j x h1 h2)
  have HG := hide (gb_trans hg1 (sc_grown W1 g (off + p) [ep e]))
  obtain ⟨W2, hW2⟩ : ∃ W2, W1.setCells g (off + p) [ep e] = W2 := ⟨_, rfl⟩
  rw [hW2] at HRES HG hcp2
  obtain ⟨hz1, hw1, hw2, hw3, hb1, htn, hb2, hb3, hb4, hb5, hb6, hd6⟩ := ins_nums hp hroom hl
  clear hh hsz hc hv hne hl hi hz0 hz2 hiz hDl hDat hDe hD1 hh1 hs1 hin1 hout1 hv1 hg1 hh2 hs2 hml hW2 hW1
  go_enter Tryz.func51, Tryz.ntmps51
  go_wp2_with fail
  go_region_law (refine step_copy_runI rfl _ _ 60 60 rfl _ _ (by simp [Act.eval, Act.put]) (by simp [Act.eval, Act.put]) (hcp1 _ _ _) ?_)
  go_wp2_with (at_builtin; refine wpList_copy_runI _ rfl _ _ 60 59 rfl _ _ rfl rfl (hcp2 _ _) ?_)
  go_ret
  exact ⟨rfl, HRES.out, HG.out⟩
theorem zc_size (n : Nat) : (Builtin.zeroCells (Value.pointer none).cells n).size = n := by
  have : (Value.pointer none).cells = #[.pointer none] := rfl
  rw [this]; simp [Builtin.zeroCells]
theorem grow_nums {p n G : Nat} (hp : p < n) (hl : n ≤ 8796093022000) (hG : n + 1 ≤ G) : ¬ (G = p) ∧ ¬ (G = p + 1) ∧ (p : Int) ≤ (G : Int) ∧ (p : Int) + 1 ≤ (n : Int) + 1 ∧ ¬ ((p : Int) = (n : Int)) ∧ IntKind.i64.wrap ((p : Int) + 1) = (p : Int) + 1 ∧ wrap64 ((p : Int) + 1) = (p : Int) + 1 ∧ wrap64 ((n : Int) + 1) = (n : Int) + 1 ∧ (0 : Int) ≤ (p : Int) + 1 ∧ ((p : Int) + 1).toNat = p + 1 ∧ (p : Int) ≤ (n : Int) + 1 ∧ ¬ (n = p) ∧ (p : Int) ≤ (n : Int) ∧ decide ((n : Int) < (n : Int) + 1) = true ∧ wrap64 ((n : Int) + 1 - (p : Int)) = ((n + 1 - p : Nat) : Int) ∧ (0 : Int) ≤ (p : Int) ∧ (n : Int) + 1 - (p : Int) = ((n + 1 - p : Nat) : Int) :=
  ⟨by omega, by omega, by omega, by omega, by omega, by rw [IntKind.wrap_i64]; omega, by unfold wrap64; omega, by unfold wrap64; omega, by omega, by omega, by omega, by omega, by omega, decide_eq_true (by omega), by unfold wrap64; omega, by omega, by omega⟩
set_option maxRecDepth 100000 in
set_option maxHeartbeats 1000000 in
theorem ins_grow (g off p e vb : Nat) (cur : Array Value) (L : List Nat) (w : World) (hh : w.heap[g]? = some (.cells cur 63 (0, 0))) (hc : ∀ j x, L[j]? = some x → w.cell? ⟨g, off + j, none⟩ = some (ep x)) (hv : w.heap[vb]? = some (.cells #[ep e] 63 (0, 0))) (hp : p < L.length) (hl : L.length ≤ 8796093022000) :
    Calls Tryz.prog 51 #[.slice (some ⟨g, off, none⟩) L.length L.length, .int .i64 (p : Int), .slice (some ⟨vb, 0, none⟩) 1 1] w fun r w' => ∃ v', r = .returned v' ∧ PR w' v' (L.take p ++ e :: L.drop p) ∧ w.grownBy w' none ∧ v'.ownBlock = some w.heap.size := by
  obtain ⟨i0, hi, hz0, hz1, hz2⟩ := info_parts Tryz.infoE
  have hiz : (Tryz.prog.info? 63).map (·.size) = some 1 := by rw [hi, Option.map_some, hz1]
  have hgl : g < w.heap.size := (Array.getElem?_eq_some_iff.1 hh).1
  have hvl : vb < w.heap.size := (Array.getElem?_eq_some_iff.1 hv).1
  have hold : (Builtin.firstCells i0.size p (.slice (some ⟨g, off, none⟩) p L.length)).run Tryz.prog w.drew = .ok ((L.map ep).take p).toArray w.drew := by
    rw [hz1]
    exact run_firstCells_some w.drew 1 p ⟨g, off, none⟩ p L.length ((L.map ep).take p) (by rw [List.length_take, List.length_map]; omega) (fun j u hj => by
      rw [Addr.add_lit]
      rw [List.getElem?_take] at hj
      split at hj
      · rw [List.getElem?_map] at hj
        obtain ⟨x, hx, rfl⟩ := Option.map_eq_some_iff.1 hj
        exact hc j x hx
      · cases hj)
  have hrz : ∀ ty, (Builtin.append_ #[60, 3] ty #[.slice (some ⟨g, off, none⟩) p L.length, .int .i64 ((L.length + 1 - p : Nat) : Int)]).run Tryz.prog w = _ := fun ty =>
    Lib.run_append_grow_zeros w 60 3 ty 63 i0 _ .i64 .i64 Tryz.underlying60 Tryz.underlying3 hi hz0 (some ⟨g, off, none⟩) p L.length ((L.map ep).take p) hold (L.length + 1 - p) (by omega) (by omega) (by omega) (by omega) (by rw [hz2]; omega) (by rw [hz2]; exact growslice_fits (by omega) (by omega))
  have hik : p + (L.length + 1 - p) = L.length + 1 := by omega
  rw [hik] at hrz
  have hgc := grownCap_ge w (L.length + 1) L.length 63
  have hgm := grownCap_le_maxLen w (L.length + 1) L.length 63 (by unfold maxLen; omega)
  generalize grownCap w (L.length + 1) L.length 63 = G at *
  obtain ⟨ROW, hROW⟩ : ∃ ROW : Array Value, ((L.map ep).take p).toArray ++ Builtin.zeroCells (Value.pointer none).cells (L.length + 1 - p) ++ Builtin.zeroCells (Value.pointer none).cells (G - (L.length + 1)) = ROW := ⟨_, rfl⟩
  rw [hROW] at hrz
  have hRs : ROW.size = G := by rw [← hROW]; simp [zc_size]; omega
  have hb := alloc_new w.drew (.cells ROW 63)
  have hb' : (w.drew.alloc (.cells ROW 63)).heap[w.heap.size]? = some (.cells ROW 63 (0, 0)) := hb
  have hR0 : ∀ (j x : Nat), j < p → L[j]? = some x → ROW[j]? = some (ep x) := fun j x hj hx => by
    rw [← hROW, Array.append_assoc, Array.getElem?_append_left (by simp; omega), List.getElem?_toArray, List.getElem?_take, if_pos hj, List.getElem?_map, hx]; rfl
  have hg0 : w.grownBy (w.drew.alloc (.cells ROW 63)) none := gb_trans (gb_drew w none) (World.grownBy_alloc _ _ none)
  obtain ⟨W0, hW0⟩ : ∃ W0, w.drew.alloc (.cells ROW 63) = W0 := ⟨_, rfl⟩
  rw [hW0] at hrz hb' hg0
  have hv0 : W0.heap[vb]? = some (.cells #[ep e] 63 (0, 0)) := (hg0.block vb hvl (by intro e; cases e)).trans hv
  have hh0 : W0.heap[g]? = some (.cells cur 63 (0, 0)) := (hg0.block g hgl (by intro e; cases e)).trans hh
  have hc0 : ∀ (j x : Nat), L[j]? = some x → W0.cell? ⟨g, off + j, none⟩ = some (ep x) := fun j x hx => by
    have := hc j x hx
    rw [cell_of_row _ _ _ _ _ _ hh] at this
    rw [cell_of_row _ _ _ _ _ _ hh0]; exact this
  clear hb hROW hold hi hz0 hz2 hik hc hv hh hW0
  have hcp1 : ∀ ty dc, (Builtin.copy_ #[60, 59] ty #[.slice (some ⟨w.heap.size, p, none⟩) (L.length + 1 - p) dc, .slice (some ⟨vb, 0, none⟩) 1 1]).run Tryz.prog W0 = .ok (goInt ([ep e] : List Value).length) (W0.setCells w.heap.size p [ep e]) := fun ty dc =>
    run_copy_cells W0 _ _ ty 63 w.heap.size p (L.length + 1 - p) dc ⟨vb, 0, none⟩ 1 1 [ep e] Tryz.underlying60 hiz (by simp only [Nat.min_def, List.length_cons, List.length_nil]; split <;> omega)
      (fun j u hj => by rw [Addr.add_lit, cell_of_row _ _ _ _ _ _ hv0, Nat.zero_add]; simpa using hj)
      (fun j hj => some_row hb' (by simp at hj; omega)) (fun j _ => clr_row hb' _) (fun u hu => by rw [List.mem_singleton.1 hu]; rfl)
  obtain ⟨cur1, hh1, hs1⟩ := sc_block [ep e] w.heap.size p W0 ROW _ _ hb'
  have hg1 := sc_grown W0 w.heap.size p [ep e]
  have hA1 : (W0.setCells w.heap.size p [ep e]).cell? ⟨w.heap.size, p, none⟩ = some (ep e) := by
    have := World.cell?_setCells_in w.heap.size [ep e] p W0 (fun i hi => some_row hb' (by simp at hi; omega)) 0 (by simp)
    simpa using this
  have hA2 : ∀ (j x : Nat), j < p → L[j]? = some x → (W0.setCells w.heap.size p [ep e]).cell? ⟨w.heap.size, j, none⟩ = some (ep x) := fun j x hj hx => by
    rw [World.cell?_setCells_out _ _ _ W0 ⟨w.heap.size, j, none⟩ (fun _ _ => .inl hj), cell_of_row _ _ _ _ _ _ hb']
    exact hR0 j x hj hx
  obtain ⟨W1, hW1⟩ : ∃ W1, W0.setCells w.heap.size p [ep e] = W1 := ⟨_, rfl⟩
  rw [hW1] at hcp1 hh1 hg1 hA1 hA2
  have hh1g : W1.heap[g]? = some (.cells cur 63 (0, 0)) := (hg1.block g (Array.getElem?_eq_some_iff.1 hh0).1 (fun e => by have := Option.some.inj e; omega)).trans hh0
  obtain ⟨D, hD⟩ : ∃ D : List Value, D = (L.map ep).drop p := ⟨_, rfl⟩
  have hDl : D.length = L.length - p := by rw [hD, List.length_drop, List.length_map]
  have hDat : ∀ (j : Nat) (u : Value), D[j]? = some u → ∃ x, L[p + j]? = some x ∧ u = ep x := fun j u hj => by
    rw [hD, List.getElem?_drop, List.getElem?_map] at hj
    obtain ⟨x, hx, rfl⟩ := Option.map_eq_some_iff.1 hj
    exact ⟨x, hx, rfl⟩
  have hDe : ∀ (j x : Nat), p ≤ j → L[j]? = some x → D[j - p]? = some (ep x) := fun j x hj hx => by
    rw [hD, List.getElem?_drop, List.getElem?_map, show p + (j - p) = j by omega, hx]; rfl
  have hD1 : ∀ u ∈ D, u.oneCell' = true := fun u hu => by rw [hD] at hu; exact ep_one (List.mem_of_mem_drop hu)
  clear hD
  have hcp2 : ∀ ty dc sc, (Builtin.copy_ #[60, 60] ty #[.slice (some ⟨w.heap.size, p + 1, none⟩) (L.length - p) dc, .slice (some ⟨g, off + p, none⟩) (L.length - p) sc]).run Tryz.prog W1.drew = .ok (goInt D.length) (W1.drew.setCells w.heap.size (p + 1) D) := fun ty dc sc =>
    run_copy_cells W1.drew _ _ ty 63 w.heap.size (p + 1) (L.length - p) dc ⟨g, off + p, none⟩ (L.length - p) sc D Tryz.underlying60 hiz (by rw [hDl]; simp only [Nat.min_def]; split <;> omega)
      (fun j u hj => by
        obtain ⟨x, hx, rfl⟩ := hDat j u hj
        have := hc0 (p + j) x hx
        rw [cell_of_row _ _ _ _ _ _ hh0] at this
        rw [Addr.add_lit, Nat.add_assoc, cell_of_row W1.drew _ _ _ _ _ hh1g]; exact this)
      (fun j hj => some_row (w := W1.drew) hh1 (by omega)) (fun j _ => clr_row (w := W1.drew) hh1 _) hD1
  obtain ⟨cur2, hh2, hs2⟩ := sc_block D w.heap.size (p + 1) W1.drew cur1 _ _ hh1
  have HRES : Hid (PR (W1.drew.setCells w.heap.size (p + 1) D) (.slice (some ⟨w.heap.size, 0, none⟩) (L.length + 1) G) (L.take p ++ e :: L.drop p)) := hide (by
    rw [← ins_len (e := e) (Nat.le_of_lt hp)]
    refine PR.mk hh2 (by rw [ins_len (Nat.le_of_lt hp)]; exact hgc) hgm (by omega) (fun j x hx => ?_)
    rw [Nat.zero_add]
    rcases ins_at (Nat.le_of_lt hp) hx with ⟨h1, h2⟩ | ⟨h1, h2⟩ | ⟨h1, h2⟩
    · rw [World.cell?_setCells_out _ _ _ W1.drew ⟨w.heap.size, j, none⟩ (fun _ _ => .inl (by show j < p + 1; omega))]
      exact hA2 j x h1 h2
    · subst h1 h2
      rw [World.cell?_setCells_out _ _ _ W1.drew ⟨w.heap.size, j, none⟩ (fun _ _ => .inl (by show j < j + 1; omega))]
      exact hA1
    · have hxl := (List.getElem?_eq_some_iff.1 h2).1
      have a1 := World.cell?_setCells_in w.heap.size D (p + 1) W1.drew (fun i hi => some_row (w := W1.drew) hh1 (by omega)) (j - (p + 1)) (by omega)
      rw [show p + 1 + (j - (p + 1)) = j by omega] at a1
      have a2 := hDe (j - 1) x (by omega) h2
      rw [show j - 1 - p = j - (p + 1) by omega] at a2
      rw [a1, ← a2]; exact (List.getElem?_eq_getElem (by omega)).symm)
  have HG : Hid (w.grownBy (W1.drew.setCells w.heap.size (p + 1) D) none) := hide (gb_new (gb_new hg0 (Nat.le_refl _) hg1 none) (Nat.le_refl _) (gb_trans (gb_drew W1 _) (sc_grown W1.drew w.heap.size (p + 1) D)) none)
  obtain ⟨W2, hW2⟩ : ∃ W2, W1.drew.setCells w.heap.size (p + 1) D = W2 := ⟨_, rfl⟩
  rw [hW2] at HRES HG hcp2
  obtain ⟨hGi, hGim, hg63, hg64, hz1', hw1, hw2, hw3, hb1, htn, hb3, hb4, hb5, hd6, hw4, hb6, hw5⟩ := grow_nums hp hl hgc
  have HRZ := hide hrz
  clear hrz hg0 hg1 hgl hvl hiz hDl hDat hDe hD1 hh1 hs1 hA1 hA2 hh1g hv0 hh0 hc0 hh2 hs2 hW2 hW1 hR0 hRs hb' hgc hgm
  go_enter Tryz.func51, Tryz.ntmps51
  go_wp2_with (first | (at_builtin; refine Lib.wpList_append_run _ rfl _ _ 60 3 rfl _ _ rfl rfl _ _ (HRZ.out _) ?_) | (at_builtin; refine wpList_copy_runI _ rfl _ _ 60 59 rfl _ _ rfl rfl (hcp1 _ _) ?_))
  go_region_law (refine step_copy_runI rfl _ _ 60 60 rfl _ _ (by simp [Act.eval, Act.put]) (by simp [Act.eval, Act.put]) (hcp2 _ _ _) ?_)
  go_wp2_with fail
  go_ret
  exact ⟨_, rfl, HRES.out, HG.out, rfl⟩
/-- One entry more, at its place. -/
theorem ins_any (v : Value) (p e vb : Nat) (L : List Nat) (w : World) (h : PR w v L) (hp : p ≤ L.length) (hv : w.heap[vb]? = some (.cells #[ep e] 63 (0, 0))) (hne : v.ownBlock ≠ some vb) (hl : L.length ≤ 8796093022000) :
    Calls Tryz.prog 51 #[v, .int .i64 (p : Int), .slice (some ⟨vb, 0, none⟩) 1 1] w fun r w' => ∃ v', r = .returned v' ∧ PR w' v' (L.take p ++ e :: L.drop p) ∧ w.grownBy w' v.ownBlock ∧ (∀ g, v'.ownBlock = some g → v.ownBlock = some g ∨ w.heap.size ≤ g) := by
  by_cases hlt : p < L.length
  · rcases h.get with ⟨rfl, rfl⟩ | ⟨g, off, cap, cur, rfl, hh, hn, hm, hsz, hc⟩
    · simp at hlt
    · by_cases hroom : L.length + 1 ≤ cap
      · refine (ins_room g off cap p e vb cur L w hh hsz hc hv (fun q => hne (by rw [q]; rfl)) hlt hroom hm hl).mono ?_
        rintro r w' ⟨rfl, h1, h2⟩
        exact ⟨_, rfl, h1, h2, fun g hg => .inl hg⟩
      · obtain rfl : cap = L.length := by omega
        refine (ins_grow g off p e vb cur L w hh hc hv hlt hl).mono ?_
        rintro r w' ⟨v', rfl, h1, h2, h3⟩
        exact ⟨_, rfl, h1, ⟨h2.os, h2.tape, h2.output, h2.size, fun x hx _ => h2.block x hx (by intro q; cases q)⟩, fun g hg => .inr (by rw [h3] at hg; exact Nat.le_of_eq (Option.some.inj hg))⟩
  · obtain rfl : p = L.length := by omega
    rw [List.take_length, List.drop_length]
    exact ins_end v e vb L w h (by rw [cell_of_row _ _ _ _ _ _ hv]; rfl) hl
end Go.Proofs.YtknnojjfdfkdmaaGreatDoor
