/-
  My own text: SN3, SN4 in one.
-/
import Derived.Test.YtehacdijleommaaGreatDoorSN2
import Derived.Test.YtehacdijleommaaGreatDoorShelf
import Derived.Shelf.Spec.SlicesInsert
import Derived.Shelf.Spec.SlicesInsertGrow
namespace Go.Proofs.YtehacdijleommaaGreatDoor
open Go.RowKit Go.Extern Go.MapKept Go.ChangeMaps

def insRen : Go.Shelf.Ren := ⟨fun | 21 => 53 | 27 => 84 | 28 => 85 | 35 => 101 | 39 => 110 | n => n, fun | 22 => 44 | 3 => 3 | 4 => 4 | 0 => 0 | n => n, fun | n => n⟩
theorem insLays : Go.Proofs.Lays2.n21 Tryz.prog insRen := {
  mixed := by kernel_rfl
  f21 := Tryz.func53.trans (congrArg some (by kernel_rfl))
  f27 := Tryz.func84.trans (congrArg some (by kernel_rfl))
  f28 := Tryz.func85.trans (congrArg some (by kernel_rfl))
  f35 := Tryz.func101.trans (congrArg some (by kernel_rfl))
  f39 := Tryz.func110.trans (congrArg some (by kernel_rfl))
  t0 := Tryz.underlying0
  a0 := Tryz.isAgg0
  z0 := Tryz.sizeOf0
  v0 := Tryz.zeroValue0
  t3 := Tryz.underlying3
  a3 := Tryz.isAgg3
  z3 := Tryz.sizeOf3
  v3 := Tryz.zeroValue3
  t4 := Tryz.underlying4
  a4 := Tryz.isAgg4
  z4 := Tryz.sizeOf4
  v4 := Tryz.zeroValue4
  t22 := Tryz.underlying44
  a22 := Tryz.isAgg44
  z22 := Tryz.sizeOf44
  v22 := Tryz.zeroValue44
  i3 := by kernel_rfl }
theorem ic_len (L : List Int) : (ic L).length = L.length := by simp [ic]
theorem ic_at (L : List Int) (j : Nat) : (ic L)[j]? = (L[j]?).map (.int .i64) := by unfold ic; rw [List.getElem?_map]
theorem insR_len (q : Int) (L : List Int) : (insR q L).length = L.length + 1 := by
  have := lo_le q L
  unfold insR; simp; omega
theorem insR_at {q : Int} {L : List Int} {j : Nat} {x : Int} (h : (insR q L)[j]? = some x) : (j < lo q L ∧ L[j]? = some x) ∨ (j = lo q L ∧ x = q) ∨ (lo q L < j ∧ L[j - 1]? = some x) := by
  have hl := lo_le q L
  have hlen : (L.take (lo q L)).length = lo q L := by rw [List.length_take]; omega
  unfold insR at h
  by_cases h1 : j < lo q L
  · rw [List.getElem?_append_left (by omega), List.getElem?_take, if_pos h1] at h
    exact .inl ⟨h1, h⟩
  · rw [List.getElem?_append_right (by omega), hlen] at h
    by_cases h2 : j = lo q L
    · rw [h2, Nat.sub_self] at h
      exact .inr (.inl ⟨h2, (Option.some.inj h).symm⟩)
    · obtain ⟨d, hd⟩ : ∃ d, j - lo q L = d + 1 := ⟨j - lo q L - 1, by omega⟩
      rw [hd, List.getElem?_cons_succ, List.getElem?_drop, show lo q L + d = j - 1 by omega] at h
      exact .inr (.inr ⟨by omega, h⟩)
theorem OR.mkI {W : World} {B g off cap : Nat} {cur : Array Value} {L : List Int} (hB : B ≤ g) (hh : W.heap[g]? = some (.cells cur 3 (0, 0))) (h1 : L.length ≤ cap) (h2 : cap ≤ maxLen) (h3 : cur.size = off + cap) (hc : ∀ j x, L[j]? = some x → W.cell? ⟨g, off + j, none⟩ = some (.int .i64 x)) : OR W B 3 1 (.slice (some ⟨g, off, none⟩) L.length cap) L.length (ic L) :=
  ⟨by rw [ic_len, Nat.mul_one], .inr ⟨g, off, cap, cur, rfl, hB, hh, h1, h2, by omega, fun j u hj => by
    rw [ic_at] at hj
    obtain ⟨x, hx, rfl⟩ := Option.map_eq_some_iff.1 hj
    exact hc j x hx⟩⟩
/-- What the row holds. -/
theorem OR.getI {W : World} {B : Nat} {v : Value} {L : List Int} (h : OR W B 3 1 v L.length (ic L)) : (v = .slice none 0 0 ∧ L = []) ∨ ∃ g off cap cur, v = .slice (some ⟨g, off, none⟩) L.length cap ∧ B ≤ g ∧ W.heap[g]? = some (.cells cur 3 (0, 0)) ∧ L.length ≤ cap ∧ cap ≤ maxLen ∧ cur.size = off + cap ∧ ∀ j x, L[j]? = some x → W.cell? ⟨g, off + j, none⟩ = some (.int .i64 x) := by
  rcases h.2 with ⟨h0, h1⟩ | ⟨g, off, cap, cur, hv, h1, h2, h3, h4, h5, h6⟩
  · exact .inl ⟨h0, List.eq_nil_of_length_eq_zero h1⟩
  · exact .inr ⟨g, off, cap, cur, hv, h1, h2, h3, h4, by omega, fun j x hx => h6 j _ (by rw [ic_at, hx]; rfl)⟩
theorem bs_any (v : Value) (q : Int) (B : Nat) (L : List Int) (w : World) (h : OR w B 3 1 v L.length (ic L)) (hs : Srt L) (hl : L.length < 4611686018427387904) :
    Calls Tryz.prog 52 #[v, .int .i64 q] w fun e w' => ∃ b, e = .returned (.tuple #[.int .i64 (lo q L : Int), .bool b]) ∧ Below w.heap.size w w' ∧ w'.heap = w.heap := by
  rcases h.getI with ⟨rfl, rfl⟩ | ⟨g, off, cap, cur, rfl, _, _, _, _, _, hc⟩
  · refine (Tryz.slices_BinarySearch_int_empty none 0 q w).mono ?_
    rintro e w' ⟨rfl, rfl⟩
    exact ⟨false, rfl, Below.refl _ _, rfl⟩
  · refine (Tryz.slices_BinarySearch_int g off L.length cap L q w (Nat.le_refl _) hl (fun j hj => by rw [hc j _ (List.getElem?_eq_getElem hj), List.getD_eq_getElem?_getD, List.getElem?_eq_getElem hj]; rfl) (by rw [List.take_length]; exact hs.pair)).mono ?_
    rintro e w' ⟨rfl, n, rfl⟩
    rw [List.take_length, lo_count hs]
    exact ⟨_, rfl, below_dq (Below.refl _ _) n, rfl⟩
end Go.Proofs.YtehacdijleommaaGreatDoor
namespace Go.Proofs.YtehacdijleommaaGreatDoor
open Go.RowKit Go.Extern Go.MapKept Go.ChangeMaps

theorem zc_size (n : Nat) : (Builtin.zeroCells (Value.int .i64 0).cells n).size = n := by
  have : (Value.int .i64 0).cells = #[.int .i64 0] := rfl
  rw [this]; simp [Builtin.zeroCells]
theorem sc_grown (w : World) (g o : Nat) (vs : List Value) : w.grownBy (w.setCells g o vs) (some g) := by
  obtain ⟨q1, q2, q3⟩ := sc_rest vs g o w
  exact ⟨q1, q2, q3, by rw [sc_size]; exact Nat.le_refl _, fun x _ hx => sc_heap g vs o w x (fun e => hx (by rw [e]))⟩
theorem gb_trans {a b c : World} {r : Option Nat} (h : a.grownBy b r) (k : b.grownBy c r) : a.grownBy c r :=
  ⟨k.os.trans h.os, k.tape.trans h.tape, k.output.trans h.output, Nat.le_trans h.size k.size, fun x hx hr => (k.block x (Nat.lt_of_lt_of_le hx h.size) hr).trans (h.block x hx hr)⟩
theorem gb_drew (w : World) (r : Option Nat) : w.grownBy w.drew r := ⟨rfl, rfl, rfl, Nat.le_refl _, fun _ _ _ => rfl⟩
theorem gb_new {a b c : World} {g : Nat} (h : a.grownBy b none) (hg : a.heap.size ≤ g) (k : b.grownBy c (some g)) (r : Option Nat) : a.grownBy c r :=
  ⟨k.os.trans h.os, k.tape.trans h.tape, k.output.trans h.output, Nat.le_trans h.size k.size, fun x hx _ => (k.block x (Nat.lt_of_lt_of_le hx h.size) (fun e => by have := Option.some.inj e; omega)).trans (h.block x hx (by intro e; cases e))⟩
theorem ic_one (L : List Int) : ∀ v ∈ ic L, v.oneCell' = true := fun v hv => by
  obtain ⟨x, _, rfl⟩ := List.mem_map.1 hv
  rfl
set_option maxHeartbeats 1000000 in
theorem ins_any (v : Value) (q : Int) (B vb vc : Nat) (L : List Int) (w : World) (h : OR w B 3 1 v L.length (ic L)) (hv : w.heap[vb]? = some (.cells #[.int .i64 q] 3 (0, 0))) (hne : v.ownBlock ≠ some vb) (hl : L.length ≤ 5864062014804) (hB : B ≤ w.heap.size) :
    Calls Tryz.prog 53 #[v, .int .i64 (lo q L : Int), .slice (some ⟨vb, 0, none⟩) 1 vc] w fun e w' => ∃ v', e = .returned v' ∧ OR w' B 3 1 v' (insR q L).length (ic (insR q L)) ∧ w.grownBy w' v.ownBlock ∧ (∀ g, v'.ownBlock = some g → v.ownBlock = some g ∨ w.heap.size ≤ g) := by
  have hvs : ∀ (j : Nat) (u : Value), [Value.int .i64 q][j]? = some u → w.cell? ⟨vb, 0 + j, none⟩ = some u := fun j u hj => by
    rw [cell_of_row w vb _ _ _ _ hv, Nat.zero_add]; simpa using hj
  have h1v : ∀ u ∈ [Value.int .i64 q], u.oneCell' = true := fun u hu => by rw [List.mem_singleton.1 hu]; rfl
  have hlo := lo_le q L
  have hml : maxLen = 9223372036854775807 := rfl
  rcases h.getI with ⟨rfl, rfl⟩ | ⟨g, off, cap, cur, rfl, hg, hh, hn, hm, hsz, hc⟩
  · refine (Any2.slices_Insert_int_end_grow insLays none 0 0 vb 0 1 vc [] [.int .i64 q] w (by omega) (by omega) (by omega) (by omega) rfl rfl (fun _ => rfl) (fun a ha => by cases ha) hvs h1v).mono ?_
    rintro e w' ⟨rfl, rfl⟩
    have hgc := grownCap_ge w (0 + 1) 0 (insRen.t 3)
    have hgm := grownCap_le_maxLen w (0 + 1) 0 (insRen.t 3) (by rw [hml]; omega)
    generalize hgr : grownCap w (0 + 1) 0 (insRen.t 3) = c at *
    have hb : (w.drew.alloc (.cells (([] ++ [Value.int .i64 q]).toArray ++ Builtin.zeroCells (Value.int .i64 0).cells (c - (0 + 1))) (insRen.t 3))).heap[w.heap.size]? = some (.cells (([] ++ [Value.int .i64 q]).toArray ++ Builtin.zeroCells (Value.int .i64 0).cells (c - (0 + 1))) (insRen.t 3) (0, 0)) := alloc_newV w.drew _
    refine ⟨_, rfl, OR.mkI hB hb (by rw [insR_len]; simpa using hgc) hgm (by simp [zc_size]; omega) (fun j x hx => ?_), gb_trans (gb_drew w none) (World.grownBy_alloc _ _ none), fun g hg => .inr (by cases hg; exact Nat.le_refl _)⟩
    rw [cell_of_row _ _ _ _ _ _ hb]
    match j, hx with
    | 0, hx =>
      obtain rfl : q = x := by simpa [insR, lo] using hx
      rw [Nat.zero_add, Array.getElem?_append_left (by simp)]; rfl
    | j + 1, hx => simp [insR, lo] at hx
  · have hsp : ∀ j, j < cap → (w.cell? ⟨g, off + j, none⟩).isSome = true := fun j hj => by
      rw [cell_of_row w g _ cur _ _ hh, Array.getElem?_eq_getElem (by omega)]; rfl
    have hfz : ∀ j, w.frozen? ⟨g, off + j, none⟩ = false := fun j => by unfold World.frozen?; simp [hh]
    have hcs : ∀ (j : Nat) (u : Value), (ic L)[j]? = some u → w.cell? ⟨g, off + j, none⟩ = some u := fun j u hj => by
      rw [ic_at] at hj
      obtain ⟨x, hx, rfl⟩ := Option.map_eq_some_iff.1 hj
      exact hc j x hx
    have hvg : vb ≠ g := fun e => hne (by rw [e]; rfl)
    by_cases hroom : L.length + 1 ≤ cap
    · by_cases hlt : lo q L < L.length
      · refine (Any2.slices_Insert_int_shift insLays g off L.length cap (lo q L) vb 0 1 vc (ic L) [.int .i64 q] w hlt (by omega) hroom (by rw [hml] at hm; exact hm) hvg (ic_len L) rfl hcs (fun j hj => hsp j (by omega)) (fun j _ => hfz j) hvs (ic_one L) h1v 3 3 1 cur.size
          (by simp [World.shape?, hv]) (by simp [World.shape?, hh]) (by omega) (by unfold World.frozen?; simp [hv]) (by unfold World.frozen?; simp [hv])).mono ?_
        rintro e w' ⟨rfl, rfl⟩
        obtain ⟨cur1, hh1, hs1⟩ := sc_block ((ic L).drop (lo q L)) g (off + (lo q L + 1)) w.drew cur 3 (0, 0) hh
        have hsp1 : ∀ j, j < cap → ((w.drew.setCells g (off + (lo q L + 1)) ((ic L).drop (lo q L))).cell? ⟨g, off + j, none⟩).isSome = true := fun j hj => by
          rw [cell_of_row _ g _ cur1 _ _ hh1, Array.getElem?_eq_getElem (by omega)]; rfl
        have hin1 : ∀ (j : Nat) (x : Int), lo q L < j → L[j - 1]? = some x → (w.drew.setCells g (off + (lo q L + 1)) ((ic L).drop (lo q L))).cell? ⟨g, off + j, none⟩ = some (.int .i64 x) := fun j x hj hx => by
          have hxl := (List.getElem?_eq_some_iff.1 hx).1
          have hdl : ((ic L).drop (lo q L)).length = L.length - lo q L := by rw [List.length_drop, ic_len]
          have a1 := World.cell?_setCells_in g ((ic L).drop (lo q L)) (off + (lo q L + 1)) w.drew (fun i hi => by have := hsp (lo q L + 1 + i) (by omega); rw [show off + (lo q L + 1) + i = off + (lo q L + 1 + i) by omega]; exact this) (j - (lo q L + 1)) (by omega)
          rw [show off + (lo q L + 1) + (j - (lo q L + 1)) = off + j by omega] at a1
          have a2 : ((ic L).drop (lo q L))[j - (lo q L + 1)]? = some (.int .i64 x) := by rw [List.getElem?_drop, show lo q L + (j - (lo q L + 1)) = j - 1 by omega, ic_at, hx]; rfl
          rw [a1, ← a2]; exact (List.getElem?_eq_getElem (by omega)).symm
        have hout1 : ∀ (j : Nat) (x : Int), j < lo q L → L[j]? = some x → (w.drew.setCells g (off + (lo q L + 1)) ((ic L).drop (lo q L))).cell? ⟨g, off + j, none⟩ = some (.int .i64 x) := fun j x hj hx => by
          rw [World.cell?_setCells_out g _ _ w.drew ⟨g, off + j, none⟩ (fun _ _ => .inl (by show off + j < off + (lo q L + 1); omega))]
          exact hc j x hx
        have hg1 := gb_trans (gb_drew w (some g)) (sc_grown w.drew g (off + (lo q L + 1)) ((ic L).drop (lo q L)))
        generalize w.drew.setCells g (off + (lo q L + 1)) ((ic L).drop (lo q L)) = w1 at *
        obtain ⟨cur2, hh2, hs2⟩ := sc_block [.int .i64 q] g (off + lo q L) w1 cur1 3 (0, 0) hh1
        refine ⟨_, rfl, ?_, gb_trans hg1 (sc_grown w1 g (off + lo q L) [.int .i64 q]), fun g' hg' => .inl hg'⟩
        rw [← insR_len q L]
        refine OR.mkI hg hh2 (by rw [insR_len]; exact hroom) hm (by omega) (fun j x hx => ?_)
        rcases insR_at hx with ⟨h1, h2⟩ | ⟨h1, h2⟩ | ⟨h1, h2⟩
        · rw [World.cell?_setCells_out g _ _ w1 ⟨g, off + j, none⟩ (fun _ _ => .inl (by show off + j < off + lo q L; omega))]
          exact hout1 j x h1 h2
        · subst h1 h2
          have := World.cell?_setCells_in g [.int .i64 x] (off + lo x L) w1 (fun i hi => by have := hsp1 (lo x L + i) (by simp at hi; omega); rw [show off + lo x L + i = off + (lo x L + i) by omega]; exact this) 0 (by simp)
          simpa using this
        · rw [World.cell?_setCells_out g _ _ w1 ⟨g, off + j, none⟩ (fun _ _ => .inr (by show off + lo q L + 1 ≤ off + j; omega))]
          exact hin1 j x h1 h2
      · have hle : lo q L = L.length := by omega
        rw [hle]
        refine (Any2.slices_Insert_int_end_room insLays g off L.length cap vb 0 1 vc [.int .i64 q] w (by omega) hroom (by rw [hml] at hm; exact hm) rfl (fun j hj => by rw [Nat.add_assoc]; exact hsp _ (by omega)) (fun j _ => by rw [Nat.add_assoc]; exact hfz _) hvs h1v).mono ?_
        rintro e w' ⟨rfl, rfl⟩
        obtain ⟨cur2, hh2, hs2⟩ := sc_block [.int .i64 q] g (off + L.length) w cur 3 (0, 0) hh
        refine ⟨_, rfl, ?_, sc_grown w g _ _, fun g' hg' => .inl hg'⟩
        rw [← insR_len q L]
        refine OR.mkI hg hh2 (by rw [insR_len]; exact hroom) hm (by omega) (fun j x hx => ?_)
        rcases insR_at hx with ⟨h1, h2⟩ | ⟨h1, h2⟩ | ⟨h1, h2⟩
        · rw [World.cell?_setCells_out g _ _ w ⟨g, off + j, none⟩ (fun _ _ => .inl (by show off + j < off + L.length; omega))]
          exact hc j x h2
        · rw [hle] at h1
          subst h1 h2
          have := World.cell?_setCells_in g [.int .i64 x] (off + L.length) w (fun i hi => by have := hsp (L.length + i) (by simp at hi; omega); rw [Nat.add_assoc]; exact this) 0 (by simp)
          simpa using this
        · have := (List.getElem?_eq_some_iff.1 h2).1
          omega
    · by_cases hlt : lo q L < L.length
      · refine (Any2.slices_Insert_int_grow insLays g off L.length cap (lo q L) vb 0 1 vc (ic L) [.int .i64 q] w hlt (by omega) hn (by omega) (by omega) (ic_len L) rfl hcs hvs (ic_one L) h1v).mono ?_
        rintro e w' ⟨rfl, rfl⟩
        have hgc := grownCap_ge w (L.length + 1) cap (insRen.t 3)
        have hgm := grownCap_le_maxLen w (L.length + 1) cap (insRen.t 3) (by rw [hml]; omega)
        generalize hgr : grownCap w (L.length + 1) cap (insRen.t 3) = c at *
        have hb := alloc_newV w (.cells (((ic L).take (lo q L)).toArray ++ Builtin.zeroCells (Value.int .i64 0).cells (L.length + 1 - lo q L) ++ Builtin.zeroCells (Value.int .i64 0).cells (c - (L.length + 1))) (insRen.t 3))
        have hbs : (((ic L).take (lo q L)).toArray ++ Builtin.zeroCells (Value.int .i64 0).cells (L.length + 1 - lo q L) ++ Builtin.zeroCells (Value.int .i64 0).cells (c - (L.length + 1))).size = c := by
          simp [zc_size, ic_len]; omega
        have hout0 : ∀ (j : Nat) (x : Int), j < lo q L → L[j]? = some x → (w.alloc (.cells (((ic L).take (lo q L)).toArray ++ Builtin.zeroCells (Value.int .i64 0).cells (L.length + 1 - lo q L) ++ Builtin.zeroCells (Value.int .i64 0).cells (c - (L.length + 1))) (insRen.t 3))).cell? ⟨w.heap.size, j, none⟩ = some (.int .i64 x) := fun j x hj hx => by
          rw [cell_of_row _ _ _ _ _ _ hb, Array.append_assoc, Array.getElem?_append_left (by simp [ic_len]; omega), List.getElem?_toArray, List.getElem?_take, if_pos hj, ic_at, hx]; rfl
        have hg0 : w.grownBy (w.alloc (.cells (((ic L).take (lo q L)).toArray ++ Builtin.zeroCells (Value.int .i64 0).cells (L.length + 1 - lo q L) ++ Builtin.zeroCells (Value.int .i64 0).cells (c - (L.length + 1))) (insRen.t 3))) none := World.grownBy_alloc _ _ none
        generalize w.alloc (.cells (((ic L).take (lo q L)).toArray ++ Builtin.zeroCells (Value.int .i64 0).cells (L.length + 1 - lo q L) ++ Builtin.zeroCells (Value.int .i64 0).cells (c - (L.length + 1))) (insRen.t 3)) = w0 at *
        generalize (((ic L).take (lo q L)).toArray ++ Builtin.zeroCells (Value.int .i64 0).cells (L.length + 1 - lo q L) ++ Builtin.zeroCells (Value.int .i64 0).cells (c - (L.length + 1))) = cur0 at *
        obtain ⟨cur1, hh1, hs1⟩ := sc_block [.int .i64 q] w.heap.size (lo q L) w0.drew cur0 3 (0, 0) hb
        have c1 : (w0.drew.setCells w.heap.size (lo q L) [.int .i64 q]).cell? ⟨w.heap.size, lo q L, none⟩ = some (.int .i64 q) := by
          have := World.cell?_setCells_in w.heap.size [.int .i64 q] (lo q L) w0.drew (fun i hi => by
            rw [show w0.drew.cell? ⟨w.heap.size, lo q L + i, none⟩ = w0.cell? ⟨w.heap.size, lo q L + i, none⟩ from rfl, cell_of_row w0 _ _ cur0 _ _ hb, Array.getElem?_eq_getElem (by simp at hi; omega)]; rfl) 0 (by simp)
          simpa using this
        have c2 : ∀ (j : Nat) (x : Int), j < lo q L → L[j]? = some x → (w0.drew.setCells w.heap.size (lo q L) [.int .i64 q]).cell? ⟨w.heap.size, j, none⟩ = some (.int .i64 x) := fun j x hj hx => by
          rw [World.cell?_setCells_out _ _ _ w0.drew ⟨w.heap.size, j, none⟩ (fun _ _ => .inl hj)]
          exact hout0 j x hj hx
        have hg1 := gb_new hg0 (Nat.le_refl _) (gb_trans (gb_drew w0 _) (sc_grown w0.drew w.heap.size (lo q L) [.int .i64 q])) none
        generalize w0.drew.setCells w.heap.size (lo q L) [.int .i64 q] = w1 at *
        have hg2 := gb_new hg1 (Nat.le_refl _) (gb_trans (gb_drew w1 _) (sc_grown w1.drew w.heap.size (lo q L + 1) ((ic L).drop (lo q L)))) (some g)
        obtain ⟨cur2, hh2, hs2⟩ := sc_block ((ic L).drop (lo q L)) w.heap.size (lo q L + 1) w1.drew cur1 3 (0, 0) hh1
        refine ⟨_, rfl, ?_, hg2, fun g' hg' => .inr (by cases hg'; exact Nat.le_refl _)⟩
        rw [← insR_len q L]
        refine OR.mkI hB hh2 (by rw [insR_len]; exact hgc) hgm (by omega) (fun j x hx => ?_)
        rw [Nat.zero_add]
        rcases insR_at hx with ⟨h1, h2⟩ | ⟨h1, h2⟩ | ⟨h1, h2⟩
        · rw [World.cell?_setCells_out _ _ _ w1.drew ⟨w.heap.size, j, none⟩ (fun _ _ => .inl (by show j < lo q L + 1; omega))]
          exact c2 j x h1 h2
        · subst h1 h2
          rw [World.cell?_setCells_out _ _ _ w1.drew ⟨w.heap.size, lo x L, none⟩ (fun _ _ => .inl (by show lo x L < lo x L + 1; omega))]
          exact c1
        · have hxl := (List.getElem?_eq_some_iff.1 h2).1
          have hdl : ((ic L).drop (lo q L)).length = L.length - lo q L := by rw [List.length_drop, ic_len]
          have a1 := World.cell?_setCells_in w.heap.size ((ic L).drop (lo q L)) (lo q L + 1) w1.drew (fun i hi => by
            rw [show w1.drew.cell? ⟨w.heap.size, lo q L + 1 + i, none⟩ = w1.cell? ⟨w.heap.size, lo q L + 1 + i, none⟩ from rfl, cell_of_row w1 _ _ cur1 _ _ hh1, Array.getElem?_eq_getElem (by omega)]; rfl) (j - (lo q L + 1)) (by omega)
          rw [show lo q L + 1 + (j - (lo q L + 1)) = j by omega] at a1
          have a2 : ((ic L).drop (lo q L))[j - (lo q L + 1)]? = some (.int .i64 x) := by rw [List.getElem?_drop, show lo q L + (j - (lo q L + 1)) = j - 1 by omega, ic_at, h2]; rfl
          rw [a1, ← a2]; exact (List.getElem?_eq_getElem (by omega)).symm
      · have hle : lo q L = L.length := by omega
        rw [hle]
        refine (Any2.slices_Insert_int_end_grow insLays (some ⟨g, off, none⟩) L.length cap vb 0 1 vc (ic L) [.int .i64 q] w (by omega) hn (by omega) (by omega) (ic_len L) rfl (fun a => by cases a) (fun a ha j u hj => by cases ha; rw [Addr.add_lit]; exact hcs j u hj) hvs h1v).mono ?_
        rintro e w' ⟨rfl, rfl⟩
        have hgc := grownCap_ge w (L.length + 1) cap (insRen.t 3)
        have hgm := grownCap_le_maxLen w (L.length + 1) cap (insRen.t 3) (by rw [hml]; omega)
        generalize hgr : grownCap w (L.length + 1) cap (insRen.t 3) = c at *
        have hb : (w.drew.alloc (.cells ((ic L ++ [Value.int .i64 q]).toArray ++ Builtin.zeroCells (Value.int .i64 0).cells (c - (L.length + 1))) (insRen.t 3))).heap[w.heap.size]? = some (.cells ((ic L ++ [Value.int .i64 q]).toArray ++ Builtin.zeroCells (Value.int .i64 0).cells (c - (L.length + 1))) (insRen.t 3) (0, 0)) := alloc_newV w.drew _
        have hgb := gb_trans (gb_drew w (some g)) (World.grownBy_alloc w.drew (.cells ((ic L ++ [Value.int .i64 q]).toArray ++ Builtin.zeroCells (Value.int .i64 0).cells (c - (L.length + 1))) (insRen.t 3)) (some g))
        generalize w.drew.alloc (.cells ((ic L ++ [Value.int .i64 q]).toArray ++ Builtin.zeroCells (Value.int .i64 0).cells (c - (L.length + 1))) (insRen.t 3)) = w2 at *
        refine ⟨_, rfl, ?_, hgb, fun g' hg' => .inr (by cases hg'; exact Nat.le_refl _)⟩
        rw [← insR_len q L]
        refine OR.mkI hB hb (by rw [insR_len]; exact hgc) hgm (by simp [zc_size, ic_len]; omega) (fun j x hx => ?_)
        rw [cell_of_row _ _ _ _ _ _ hb, Nat.zero_add, Array.getElem?_append_left (by have := (List.getElem?_eq_some_iff.1 hx).1; rw [insR_len] at this; simp [ic_len]; omega), List.getElem?_toArray]
        rcases insR_at hx with ⟨h1, h2⟩ | ⟨h1, h2⟩ | ⟨h1, h2⟩
        · rw [List.getElem?_append_left (by rw [ic_len]; omega), ic_at, h2]; rfl
        · rw [hle] at h1
          rw [List.getElem?_append_right (by rw [ic_len]; omega), ic_len, h1, Nat.sub_self, h2]; rfl
        · have := (List.getElem?_eq_some_iff.1 h2).1
          omega
theorem delR_len {q : Int} {L : List Int} (h : lo q L < L.length) : (delR q L).length = L.length - 1 := by
  unfold delR; rw [List.length_append, List.length_take, List.length_drop]; omega
theorem delR_at {q : Int} {L : List Int} {j : Nat} {x : Int} (hl : lo q L < L.length) (h : (delR q L)[j]? = some x) : (j < lo q L ∧ L[j]? = some x) ∨ (lo q L ≤ j ∧ L[j + 1]? = some x) := by
  have hlen : (L.take (lo q L)).length = lo q L := by rw [List.length_take]; omega
  unfold delR at h
  by_cases h1 : j < lo q L
  · rw [List.getElem?_append_left (by omega), List.getElem?_take, if_pos h1] at h
    exact .inl ⟨h1, h⟩
  · rw [List.getElem?_append_right (by omega), hlen, List.getElem?_drop, show lo q L + 1 + (j - lo q L) = j + 1 by omega] at h
    exact .inr ⟨by omega, h⟩
theorem del_any (v : Value) (q : Int) (B : Nat) (L : List Int) (w : World) (h : OR w B 3 1 v L.length (ic L)) (hs : Srt L) (hq : q ∈ L) :
    Calls Tryz.prog 54 #[v, .int .i64 (lo q L : Int), .int .i64 ((lo q L : Int) + 1)] w fun e w' => ∃ v', e = .returned v' ∧ OR w' B 3 1 v' (delR q L).length (ic (delR q L)) ∧ w.grownBy w' v.ownBlock ∧ v'.ownBlock = v.ownBlock := by
  have hml : maxLen = 9223372036854775807 := rfl
  have hlt : lo q L < L.length := (List.getElem?_eq_some_iff.1 (del_at hs hq)).1
  rcases h.getI with ⟨rfl, rfl⟩ | ⟨g, off, cap, cur, rfl, hg, hh, hn, hm, hsz, hc⟩
  · simp at hlt
  · have hfz : ∀ j, w.frozen? ⟨g, off + j, none⟩ = false := fun j => by unfold World.frozen?; simp [hh]
    refine (Tryz.slices_Delete_int_cells g off L.length cap (lo q L) (lo q L + 1) L w (Nat.le_refl _) hn (by rw [hml] at hm; exact hm) (by omega) (by omega) (fun j hj => by rw [hc j _ (List.getElem?_eq_getElem hj), List.getD_eq_getElem?_getD, List.getElem?_eq_getElem hj]; rfl) (fun j _ => hfz j)).mono ?_
    rintro e w' ⟨rfl, k, rfl⟩
    rw [List.take_length]
    have hM : (((L.take (lo q L) ++ L.drop (lo q L + 1)) ++ List.replicate (lo q L + 1 - lo q L) 0).map (Value.int .i64)).length = L.length := by
      simp; omega
    have hMat : ∀ j x, (delR q L)[j]? = some x → (((L.take (lo q L) ++ L.drop (lo q L + 1)) ++ List.replicate (lo q L + 1 - lo q L) 0).map (Value.int .i64))[j]? = some (Value.int .i64 x) := fun j x hx => by
      rw [List.getElem?_map, show (L.take (lo q L) ++ L.drop (lo q L + 1)) = delR q L from rfl, List.getElem?_append_left (List.getElem?_eq_some_iff.1 hx).1, hx]; rfl
    generalize (((L.take (lo q L) ++ L.drop (lo q L + 1)) ++ List.replicate (lo q L + 1 - lo q L) 0).map (Value.int .i64)) = M at *
    obtain ⟨cur2, hh2, hs2⟩ := sc_block M g off (w.drewN k) cur 3 (0, 0) hh
    have hgr : w.grownBy ((w.drewN k).setCells g off M) (some g) := gb_trans (b := w.drewN k) ⟨rfl, rfl, rfl, Nat.le_refl _, fun _ _ _ => rfl⟩ (sc_grown _ g off M)
    refine ⟨_, rfl, ?_, hgr, rfl⟩
    rw [show L.length - (lo q L + 1 - lo q L) = (delR q L).length by rw [delR_len hlt]; omega]
    refine OR.mkI hg hh2 (by rw [delR_len hlt]; omega) hm (by omega) (fun j x hx => ?_)
    have hjl : j < M.length := by have := (List.getElem?_eq_some_iff.1 hx).1; rw [delR_len hlt] at this; omega
    have a1 := World.cell?_setCells_in g M off (w.drewN k) (fun i hi => by
      rw [show (w.drewN k).cell? ⟨g, off + i, none⟩ = w.cell? ⟨g, off + i, none⟩ from rfl, cell_of_row w g _ cur _ _ hh, Array.getElem?_eq_getElem (by omega)]; rfl) j hjl
    have a2 := hMat j x hx
    rw [List.getElem?_eq_getElem hjl] at a2
    rw [a1, a2]
end Go.Proofs.YtehacdijleommaaGreatDoor
