/-
  My own text: SM6, SM7, SM8, SM9, SM10 in one.
-/
import Derived.Test.YtehacdijleommaaGreatDoorJM4
import Derived.Test.YtehacdijleommaaGreatDoorIC20
import Derived.Test.YtehacdijleommaaGreatDoorSR1
import Derived.Test.YtehacdijleommaaGreatDoorIC20
import Derived.Test.YtehacdijleommaaGreatDoorJM1
import Derived.Test.YtehacdijleommaaGreatDoorSM10
namespace Go.Proofs.YtehacdijleommaaGreatDoor.CI
open Go.RowKit Go.Extern Go.MapKept Go.ChangeMaps

theorem MB.put_old {W : World} {b : Nat} {l : List (Ky × Nat)} (h : MB W b l) {k : Ky} {c : Nat} (hk : KOK k) (h0 : lk l k = some c) :
    ∃ W', (Instr.mapUpdate 51 (.map (some b)) (kv k) (cp c)).run Tryz.prog W = .ok () W' ∧ MB W' b l ∧ W.grownBy W' (some b) := by
  obtain ⟨es, clock, hb, he, h1, h2, hs1, hs2⟩ := h
  obtain ⟨kl, hkl⟩ := keyOf_kv k hk
  rcases find_kv he h1 h2 k hk W with ⟨hn, hf⟩ | ⟨j, c', hc, hf, hj⟩
  · rw [h0] at hn; cases hn
  · rw [h0] at hc
    cases hc
    have hej : ∃ e, es[j]? = some e ∧ e.key = kv k ∧ e.val = cp c := by
      have : (es.toList.map (fun e => (e.key, e.val)))[j]? = some (kv k, cp c) := by rw [he, List.getElem?_map, hj]; rfl
      rw [List.getElem?_map, Array.getElem?_toList] at this
      obtain ⟨e, h3, h4⟩ := Option.map_eq_some_iff.1 this
      injection h4 with h5 h6
      exact ⟨e, h3, h5, h6⟩
    obtain ⟨e, h3, h5, h6⟩ := hej
    have hst := stays_kv k W
    have hbm : (es.modify j fun e => { e with key := kv k, val := cp c }).toList.map (·.born) = es.toList.map (·.born) := modify_same _ _ es j (fun _ _ => rfl)
    refine ⟨setBlock W b (.map (es.modify j fun e => { e with key := kv k, val := cp c }) clock), ?_, ⟨_, _, heap_setBlock_same hb _, ?_, h1, h2, ?_, by rw [hbm]; exact hs2⟩, ⟨rfl, rfl, rfl, by simp [setBlock], fun i _ hi => heap_setBlock_other hb _ (fun e => hi (by rw [e]))⟩⟩
    · simp [Instr.mapUpdate, run_underlying Tryz.underlying51, Go.MapKept.run_getObj_map hb, lawKey.check W _ hkl, hf, h3, h5, hst, Result.andThen, Go.MapKept.run_setObj_map _ hb, setBlock]
    · rw [modify_same _ _ es j (fun x hx => by
        rw [h3] at hx
        cases hx
        show (kv k, cp c) = (e.key, e.val)
        rw [h5, h6])]
      exact he
    · intro x hx
      have : x.born ∈ es.toList.map (·.born) := by rw [← hbm]; exact List.mem_map.2 ⟨x, hx, rfl⟩
      obtain ⟨y, hy, e⟩ := List.mem_map.1 this
      rw [← e]; exact hs1 y hy
end Go.Proofs.YtehacdijleommaaGreatDoor.CI
namespace Go.Proofs.YtehacdijleommaaGreatDoor.CI
open Go.RowKit Go.Extern Go.MapKept Go.ChangeMaps

/-- A store whose keys hold the versions K. -/
structure SV (W : World) (sb n : Nat) (m : Nat → Nat × List (Ky × Nat)) (K : Ky → List Ver) (kk : Nat) : Prop where
  st : ST W sb n m
  ch : ∀ k c, lk (m (si k n)).2 k = some c → CH W c c (K k)
  no : ∀ k, lk (m (si k n)).2 k = none → K k = []
  lv : ∀ k, LK (K k) kk
  ne : ∀ k k' c c', k ≠ k' → lk (m (si k n)).2 k = some c → lk (m (si k' n)).2 k' = some c' → c ≠ c' ∧ Ap c c' W
theorem SV.later {W W' : World} {sb n : Nat} {m : Nat → Nat × List (Ky × Nat)} {K : Ky → List Ver} {kk : Nat} (h : SV W sb n m K kk) (hb : Below W.heap.size W W') : SV W' sb n m K kk :=
  ⟨h.st.later hb, fun k c hc => (h.ch k c hc).later hb, h.no, h.lv, fun k k' c c' e h1 h2 => ⟨(h.ne k k' c c' e h1 h2).1, (h.ne k k' c c' e h1 h2).2.same (hb.cell (p := ⟨c, 0, none⟩) (h.ch k c h1).lt) (hb.cell (p := ⟨c', 0, none⟩) (h.ch k' c' h2).lt)⟩⟩
theorem under_any (k : Ky) (sb n kk : Nat) (m : Nat → Nat × List (Ky × Nat)) (K : Ky → List Ver) (w : World) (h : SV w sb n m K kk) (hk : KOK k) :
    Calls Tryz.prog 56 #[.pointer (some ⟨sb, 0, none⟩), .agg #[.int .i64 k.1, .int .i64 k.2]] w fun e w' => ∃ c, e = .returned (.pointer (some ⟨c, 0, none⟩)) ∧ CH w' c c (K k) ∧ Below w.heap.size w w' ∧ (lk (m (si k n)).2 k = some c ∨ lk (m (si k n)).2 k = none ∧ w.heap.size ≤ c) := by
  cases hc : lk (m (si k n)).2 k with
  | none =>
    refine (under_no k sb n m w h.st hk hc).mono ?_
    rintro e w' ⟨c, h1, rfl, h2, h3⟩
    exact ⟨c, rfl, by rw [h.no k hc]; exact h2, h3, .inr ⟨rfl, h1⟩⟩
  | some c =>
    refine (under_yes k c sb n m w h.st hk hc).mono ?_
    rintro e w' ⟨rfl, h3⟩
    exact ⟨c, rfl, (h.ch k c hc).later h3, h3, .inl rfl⟩
set_option maxRecDepth 100000 in
set_option maxHeartbeats 1000000 in
theorem atSt_any (k : Ky) (q : Int) (sb n kk : Nat) (m : Nat → Nat × List (Ky × Nat)) (K : Ky → List Ver) (w : World) (h : SV w sb n m K kk) (hk : KOK k) (hl : kk ≤ 4611686018427387904) :
    Calls Tryz.prog 31 #[.pointer (some ⟨sb, 0, none⟩), .agg #[.int .i64 k.1, .int .i64 k.2], .int .i64 q] w fun e w' => e = .returned (.tuple #[.int .i64 (atS q (K k)), .bool (atB q (K k))]) ∧ Below w.heap.size w w' := by
  obtain ⟨W1, hW1⟩ : ∃ W1, w.alloc (.cells #[.int .i64 k.1, .int .i64 k.2] 29) = W1 := ⟨_, rfl⟩
  have hb1 : Below w.heap.size w W1 := by rw [← hW1]; exact (Below.refl _ _).alloc (Nat.le_refl _) _
  have hk1 : W1.heap[w.heap.size]? = some (.cells #[.int .i64 k.1, .int .i64 k.2] 29 (0, 0)) := by rw [← hW1]; exact alloc_newV w _
  have d0 : W1.cell? ⟨w.heap.size, 0, none⟩ = some (.int .i64 k.1) := by rw [cell_of_row _ _ 0 _ _ _ hk1]; rfl
  have d1 : W1.cell? ⟨w.heap.size, 1, none⟩ = some (.int .i64 k.2) := by rw [cell_of_row _ _ 1 _ _ _ hk1]; rfl
  have HB1 := hide hb1
  have HU := hide (under_any k sb n kk m K W1 (h.later hb1) hk)
  have HP := hide (fun (W : World) (c : Nat) (hC : CH W c c (K k)) => atq_any q c c (K k) W hC (h.lv k).ris (by have := (h.lv k).len; omega))
  clear h hk1 hb1 hk hl
  generalize atS q (K k) = S at *
  generalize atB q (K k) = T at *
  go_enter Tryz.func31, Tryz.ntmps31
  go_wp2_with fail
  refine HU.out.mono ?_
  rintro e w2 ⟨c, rfl, hC, hb2, _⟩
  have C2 := hide hC
  have B2 := hide (HB1.out.trans (hb2.mono HB1.out.size))
  clear hb2 HU hC d0 d1
  go_wp2_with fail
  refine (HP.out _ _ C2.out).mono ?_
  rintro e w3 ⟨rfl, hb3⟩
  have B3 := hide (B2.out.trans (hb3.mono B2.out.size))
  clear hb3 HP C2
  go_wp2_with fail
  go_ret2
  exact ⟨rfl, B3.out⟩
set_option maxRecDepth 100000 in
set_option maxHeartbeats 1000000 in
theorem lastSt_any (k : Ky) (sb n kk : Nat) (m : Nat → Nat × List (Ky × Nat)) (K : Ky → List Ver) (w : World) (h : SV w sb n m K kk) (hk : KOK k) (hl : kk ≤ 4611686018427387904) :
    Calls Tryz.prog 32 #[.pointer (some ⟨sb, 0, none⟩), .agg #[.int .i64 k.1, .int .i64 k.2]] w fun e w' => e = .returned (.tuple #[.int .i64 (laP (K k)).2, .int .i64 (laP (K k)).1, .bool (laB (K k))]) ∧ Below w.heap.size w w' := by
  obtain ⟨W1, hW1⟩ : ∃ W1, w.alloc (.cells #[.int .i64 k.1, .int .i64 k.2] 29) = W1 := ⟨_, rfl⟩
  have hb1 : Below w.heap.size w W1 := by rw [← hW1]; exact (Below.refl _ _).alloc (Nat.le_refl _) _
  have hk1 : W1.heap[w.heap.size]? = some (.cells #[.int .i64 k.1, .int .i64 k.2] 29 (0, 0)) := by rw [← hW1]; exact alloc_newV w _
  have d0 : W1.cell? ⟨w.heap.size, 0, none⟩ = some (.int .i64 k.1) := by rw [cell_of_row _ _ 0 _ _ _ hk1]; rfl
  have d1 : W1.cell? ⟨w.heap.size, 1, none⟩ = some (.int .i64 k.2) := by rw [cell_of_row _ _ 1 _ _ _ hk1]; rfl
  have HB1 := hide hb1
  have HU := hide (under_any k sb n kk m K W1 (h.later hb1) hk)
  have HP := hide (fun (W : World) (c : Nat) (hC : CH W c c (K k)) => lastq_any c c (K k) W hC (h.lv k).ris (h.lv k).max (by have := (h.lv k).len; omega))
  clear h hk1 hb1 hk hl
  generalize laP (K k) = S at *
  generalize laB (K k) = T at *
  go_enter Tryz.func32, Tryz.ntmps32
  go_wp2_with fail
  refine HU.out.mono ?_
  rintro e w2 ⟨c, rfl, hC, hb2, _⟩
  have C2 := hide hC
  have B2 := hide (HB1.out.trans (hb2.mono HB1.out.size))
  clear hb2 HU hC d0 d1
  go_wp2_with fail
  refine (HP.out _ _ C2.out).mono ?_
  rintro e w3 ⟨rfl, hb3⟩
  have B3 := hide (B2.out.trans (hb3.mono B2.out.size))
  clear hb3 HP C2
  go_wp2_with fail
  go_ret3
  exact ⟨rfl, B3.out⟩
end Go.Proofs.YtehacdijleommaaGreatDoor.CI
namespace Go.Proofs.YtehacdijleommaaGreatDoor.CI
open Go.RowKit Go.Extern Go.MapKept Go.ChangeMaps

set_option maxRecDepth 100000 in
set_option maxHeartbeats 1000000 in
theorem oldSt_any (q : Int) (sb B : Nat) (v : Value) (L : List Int) (w : World) (hc : w.cell? ⟨sb, 3, none⟩ = some v) (ho : OR w B 3 1 v L.length (ic L)) (hl : L.length ≤ 4611686018427387904) :
    Calls Tryz.prog 35 #[.pointer (some ⟨sb, 0, none⟩), .int .i64 q] w fun e w' => e = .returned (.int .i64 (oldR q L)) ∧ Below w.heap.size w w' := by
  cases L with
  | nil =>
    obtain ⟨a, cap, rfl⟩ : ∃ a cap, v = .slice a 0 cap := by
      rcases ho.2 with ⟨rfl, h0⟩ | ⟨g, off, cap, cur, rfl, _⟩
      · exact ⟨_, _, rfl⟩
      · exact ⟨_, _, rfl⟩
    clear ho
    go_enter Tryz.func35, Tryz.ntmps35
    go_wp2_with fail
    go_ret
    exact ⟨rfl, Below.refl _ _⟩
  | cons x r =>
    obtain ⟨g, off, cap, rfl, hx⟩ : ∃ g off cap, v = .slice (some ⟨g, off, none⟩) (r.length + 1) cap ∧ w.cell? ⟨g, off, none⟩ = some (.int .i64 x) := by
      rcases ho.2 with ⟨rfl, h0⟩ | ⟨g, off, cap, cur, rfl, _, _, _, _, _, h5⟩
      · simp at h0
      · exact ⟨g, off, cap, rfl, by simpa using h5 0 _ rfl⟩
    clear ho
    generalize hn : r.length + 1 = n at *
    have n1 : (0 : Int) < (n : Int) := by omega
    have n2 : ¬ ((n : Int) = 0) := by omega
    have n3 : ((n : Int) == 0) = false := by simpa using n2
    have n4 : ¬ n = 0 := by omega
    clear hn
    by_cases hq : x < q
    · have e : oldR q (x :: r) = x := by show min q x = x; omega
      rw [e]
      have hd : decide (x < q) = true := decide_eq_true hq
      clear e
      go_enter Tryz.func35, Tryz.ntmps35
      go_wp2_with fail
      go_ret
      exact ⟨rfl, Below.refl _ _⟩
    · have e : oldR q (x :: r) = q := by show min q x = q; omega
      rw [e]
      have hd : decide (x < q) = false := decide_eq_false hq
      clear e
      go_enter Tryz.func35, Tryz.ntmps35
      go_wp2_with fail
      go_ret
      exact ⟨rfl, Below.refl _ _⟩
end Go.Proofs.YtehacdijleommaaGreatDoor.CI
namespace Go.Proofs.YtehacdijleommaaGreatDoor.CI
open Go.RowKit Go.Extern Go.MapKept Go.ChangeMaps

set_option maxRecDepth 100000 in
set_option maxHeartbeats 1000000 in
theorem pruneSt_in (k : Ky) (q : Int) (sb n kk B : Nat) (m : Nat → Nat × List (Ky × Nat)) (K : Ky → List Ver) (v : Value) (L : List Int) (w : World) (h : SV w sb n m K kk) (hk : KOK k) (hl : kk ≤ 5864062014804)
    (hc : w.cell? ⟨sb, 3, none⟩ = some v) (ho : OR w B 3 1 v L.length (ic L)) (hL : L.length ≤ 4611686018427387904) :
    Calls Tryz.prog 36 #[.pointer (some ⟨sb, 0, none⟩), .agg #[.int .i64 k.1, .int .i64 k.2], .int .i64 q] w fun e w' =>
      ∃ c W2, Below w.heap.size w W2 ∧ (lk (m (si k n)).2 k = some c ∨ lk (m (si k n)).2 k = none ∧ w.heap.size ≤ c) ∧ CH W2 c c (K k) ∧ e = .returned (.int .i64 ((ab (oldR q L) (K k) - 1 : Nat) : Int)) ∧ CH w' c c ((K k).drop (ab (oldR q L) (K k) - 1)) ∧ Fr W2 w' c := by
  obtain ⟨W1, hW1⟩ : ∃ W1, w.alloc (.cells #[.int .i64 k.1, .int .i64 k.2] 29) = W1 := ⟨_, rfl⟩
  have hb1 : Below w.heap.size w W1 := by rw [← hW1]; exact (Below.refl _ _).alloc (Nat.le_refl _) _
  have hk1 : W1.heap[w.heap.size]? = some (.cells #[.int .i64 k.1, .int .i64 k.2] 29 (0, 0)) := by rw [← hW1]; exact alloc_newV w _
  have d0 : W1.cell? ⟨w.heap.size, 0, none⟩ = some (.int .i64 k.1) := by rw [cell_of_row _ _ 0 _ _ _ hk1]; rfl
  have d1 : W1.cell? ⟨w.heap.size, 1, none⟩ = some (.int .i64 k.2) := by rw [cell_of_row _ _ 1 _ _ _ hk1]; rfl
  have HB1 := hide hb1
  have HU := hide (under_any k sb n kk m K W1 (h.later hb1) hk)
  have HO : Hid (∀ W : World, Below w.heap.size w W → Calls Tryz.prog 35 #[.pointer (some ⟨sb, 0, none⟩), .int .i64 q] W fun e w' => e = .returned (.int .i64 (oldR q L)) ∧ Below W.heap.size W w') := hide (fun W hb => oldSt_any q sb B v L W ((hb.cell (World.block_lt_of_cell? _ _ hc)).trans hc) (ho.later hb) hL)
  have HP := hide (fun (W : World) (c : Nat) (hC : CH W c c (K k)) => prune_any (oldR q L) c c kk (K k) W hC (h.lv k) hl)
  clear h hk1 hb1 hk hl hc ho hL
  generalize oldR q L = o at *
  go_enter Tryz.func36, Tryz.ntmps36
  go_wp2_with fail
  refine HU.out.mono ?_
  rintro e w2 ⟨c, rfl, hC, hb2, hwh⟩
  have C2 := hide hC
  have B2 := hide (HB1.out.trans (hb2.mono HB1.out.size))
  have HW := hide hwh
  clear hb2 HU hC d0 d1 hwh
  go_wp2_with fail
  refine (HO.out _ B2.out).mono ?_
  rintro e w3 ⟨rfl, hb3⟩
  have B3 := hide (B2.out.trans (hb3.mono B2.out.size))
  have C3 := hide (C2.out.later hb3)
  clear hb3 HO C2
  go_wp2_with fail
  refine (HP.out _ _ C3.out).mono ?_
  rintro e w4 ⟨rfl, hc4, hf4⟩
  have C4 := hide hc4
  have F4 := hide hf4
  clear hc4 hf4 HP
  go_wp2_with fail
  go_ret
  exact ⟨c, w3, B3.out, by rcases HW.out with x | ⟨x, y⟩; exact .inl x; exact .inr ⟨x, Nat.le_trans HB1.out.size y⟩, C3.out, rfl, C4.out, F4.out⟩
end Go.Proofs.YtehacdijleommaaGreatDoor.CI
namespace Go.Proofs.YtehacdijleommaaGreatDoor.CI
open Go.RowKit Go.Extern Go.MapKept Go.ChangeMaps

/-- A call of a chain leaves the store's own blocks alone. -/
theorem ST.fr {W W' : World} {sb n B c : Nat} {m : Nat → Nat × List (Ky × Nat)} {L : List Ver} (h : ST W sb n m) (hf : Fr W W' c) (hC : CH W B c L) : ST W' sb n m := by
  obtain ⟨g, x1, x2, x3, h1, arr, h2, h3⟩ := h.hdr
  refine ⟨⟨g, x1, x2, x3, hf.blk hC h1 (by decide) (by decide), arr, hf.blk hC h2 (by decide) (by decide), h3⟩, fun i hi => ?_, h.ne, h.lo, h.hi⟩
  have hm := h.mb i hi
  obtain ⟨es, clock, hb, _⟩ := id hm
  obtain ⟨cs, hcb⟩ := hC.blk
  exact hm.kept (hf.block _ hm.lt (fun e => by rw [e, hcb] at hb; cases hb) (hC.row_no hb rfl))
/-- The map's own block changes, its contents don't. -/
theorem ST.again {W W' : World} {sb n i : Nat} {m : Nat → Nat × List (Ky × Nat)} (h : ST W sb n m) (hi : i < n) (hm : MB W' (m i).1 (m i).2) (hg : W.grownBy W' (some (m i).1)) : ST W' sb n m := by
  obtain ⟨es, clock, hb, _⟩ := h.mb i hi
  have nc : ∀ (x : Nat) (c : Array Value) (t : TypeId) (fz : Nat × Nat), W.heap[x]? = some (Obj.cells c t fz) → W'.heap[x]? = some (Obj.cells c t fz) := fun x c t fz hx =>
    (hg.block x (Array.getElem?_eq_some_iff.1 hx).1 (fun e => by cases e; rw [hb] at hx; cases hx)).trans hx
  obtain ⟨g, x1, x2, x3, h1, arr, h2, h3⟩ := h.hdr
  refine ⟨⟨g, x1, x2, x3, nc _ _ _ _ h1, arr, nc _ _ _ _ h2, h3⟩, fun j hj => ?_, h.ne, h.lo, h.hi⟩
  by_cases e : j = i
  · subst e; exact hm
  · exact (h.mb j hj).kept (hg.block _ (h.mb j hj).lt (fun e' => h.ne j i hj hi e (Option.some.inj e')))
set_option maxRecDepth 100000 in
set_option maxHeartbeats 2000000 in
theorem putS_old (k : Ky) (N : Int) (V : Int) (c sb n kk : Nat) (m : Nat → Nat × List (Ky × Nat)) (L : List Ver) (w : World) (h : ST w sb n m) (hk : KOK k) (hc : lk (m (si k n)).2 k = some c) (hC : CH w c c L) (hl : LK L kk) (hkk : kk ≤ 5864062014804) (hN : lastN L < N) :
    Calls Tryz.prog 30 #[.pointer (some ⟨sb, 0, none⟩), .agg #[.int .i64 k.1, .int .i64 k.2], .int .i64 N, .int .i64 V] w fun e w' => e = .returned .nilIface ∧ ST w' sb n m ∧ CH w' c c (L ++ [(N, V)]) ∧
      ∃ Wa Wb Wc, Below w.heap.size w Wa ∧ CH Wa c c L ∧ Fr Wa Wb c ∧ CH Wb c c (L ++ [(N, V)]) ∧ Below Wb.heap.size Wb Wc ∧ Wc.grownBy w' (some (m (si k n)).1) := by
  obtain ⟨W1, hW1⟩ : ∃ W1, w.alloc (.cells #[.int .i64 k.1, .int .i64 k.2] 29) = W1 := ⟨_, rfl⟩
  have hb1 : Below w.heap.size w W1 := by rw [← hW1]; exact (Below.refl _ _).alloc (Nat.le_refl _) _
  have hk1 : W1.heap[w.heap.size]? = some (.cells #[.int .i64 k.1, .int .i64 k.2] 29 (0, 0)) := by rw [← hW1]; exact alloc_newV w _
  have d0 : W1.cell? ⟨w.heap.size, 0, none⟩ = some (.int .i64 k.1) := by rw [cell_of_row _ _ 0 _ _ _ hk1]; rfl
  have d1 : W1.cell? ⟨w.heap.size, 1, none⟩ = some (.int .i64 k.2) := by rw [cell_of_row _ _ 1 _ _ _ hk1]; rfl
  have HK1 := hide hk1
  have HB1 := hide hb1
  have H1 := hide (h.later hb1)
  have HL := hide (si_lt k h.lo h.hi)
  have HU := hide (under_yes k c sb n m W1 H1.out hk hc)
  have HKK := hide hk
  have HCC := hide hc
  have C1 := hide (hC.later hb1)
  have HP : Hid (∀ W : World, CH W c c L → Calls Tryz.prog 57 #[.pointer (some ⟨c, 0, none⟩), .int .i64 N, .int .i64 V] W fun e w' => e = .returned .nilIface ∧ CH w' c c (L ++ [(N, V)]) ∧ Fr W w' c) := hide (fun W hCW => by
    have := put_any N V c c kk L W hCW hl hkk
    rw [if_pos hN, if_pos hN, errV_zero] at this; exact this)
  clear h hk1 hb1 hk hc hC hl hkk hN
  go_enter Tryz.func30, Tryz.ntmps30
  go_wp2_with fail
  refine HU.out.mono ?_
  rintro e w2 ⟨rfl, hb2⟩
  have C2 := hide (C1.out.later hb2)
  have B2 := hide (HB1.out.trans (hb2.mono HB1.out.size))
  have S2 := hide (H1.out.later hb2)
  have K2 := hide ((hb2.block _ (Array.getElem?_eq_some_iff.1 HK1.out).1).trans HK1.out)
  clear hb2 HU C1
  go_wp2_with fail
  refine (HP.out w2 C2.out).mono ?_
  rintro e w3 ⟨rfl, hc3, hf3⟩
  have C3 := hide hc3
  have F3 := hide hf3
  have S3 := hide (S2.out.fr hf3 C2.out)
  have K3 := hide (hf3.blk C2.out K2.out (by decide) (by decide))
  clear hc3 hf3 HP
  have HX0 := hide ((Below.refl w3.heap.size w3).drew)
  haveI : Nonempty (Gr w3) := ⟨⟨_, HX0.out⟩⟩
  have y0 : ∀ x : Gr w3, x.1.cell? ⟨w.heap.size, 0, none⟩ = some (.int .i64 k.1) := fun x => by rw [cell_of_row x.1 _ 0 _ _ _ ((x.2.block _ (Array.getElem?_eq_some_iff.1 K3.out).1).trans K3.out)]; rfl
  have y1 : ∀ x : Gr w3, x.1.cell? ⟨w.heap.size, 1, none⟩ = some (.int .i64 k.2) := fun x => by rw [cell_of_row x.1 _ 1 _ _ _ ((x.2.block _ (Array.getElem?_eq_some_iff.1 K3.out).1).trans K3.out)]; rfl
  have HSH := hide (fun W : Gr w3 => shardOf_any k sb n m W.1 (S3.out.later W.2))
  clear d0 d1
  go_wp2_with fail
  refine region_qtails (C := fun w' => ∃ x : Gr w3, w' = x.1) 5 0 rfl (by kernel_rfl) (by kernel_rfl) ⟨⟨_, HX0.out⟩, rfl⟩ ?_
  simp only [List.take_succ_cons, List.take_zero, List.drop_succ_cons, List.drop_zero]
  repeat (first
    | go_big_quiet_skip
    | (go_big_quiet_want; (go_big_quiet_op; first
        | go_big_quiet_on
        | (apply Exists.intro; refine ⟨fun x => ?_, ?_⟩; (go_at_call 58; exact x.call (HSH.out x)); go_big_quiet_on))))
  refine wpQuiet_nil ?_
  rintro w4 ⟨x, rfl⟩
  obtain ⟨w4, hx⟩ := x
  dsimp only
  have S4 := hide (S3.out.later hx)
  have C4 := hide (C3.out.later hx)
  have B4 := hide hx
  obtain ⟨w5, r5, m5, g5⟩ := (S4.out.mb _ HL.out).put_old HKK.out HCC.out
  have R5 : Hid ((Instr.mapUpdate 51 (.map (some (m (si k n)).1)) (.agg #[.int .i64 k.1, .int .i64 k.2]) (.pointer (some ⟨c, 0, none⟩))).run Tryz.prog w4 = .ok () w5) := hide r5
  have S5 := hide (S4.out.again HL.out m5 g5)
  have C5 : Hid (CH w5 c c (L ++ [(N, V)])) := hide (by
    obtain ⟨es, clock, hb, _⟩ := S4.out.mb _ HL.out
    obtain ⟨q1, v, em, hh, ho, hn⟩ := C4.out
    have nc : ∀ (x : Nat) (c : Array Value) (t : TypeId) (fz : Nat × Nat), w4.heap[x]? = some (Obj.cells c t fz) → w5.heap[x]? = w4.heap[x]? := fun x c t fz hx => g5.block x (Array.getElem?_eq_some_iff.1 hx).1 (fun e => by cases e; rw [hb] at hx; cases hx)
    refine ⟨q1, v, em, (nc _ _ _ _ hh).trans hh, ho.kept (fun g hg => ?_), hn⟩
    rcases ho.2 with ⟨rfl, _⟩ | ⟨g', off, cap, cur, rfl, _, h2, _⟩
    · cases hg
    · obtain rfl : g' = g := Option.some.inj hg
      exact nc _ _ _ _ h2)
  have G5 := hide g5
  clear hx y0 y1 HSH this HX0 r5 m5 g5
  generalize hmi : (m (si k n)).1 = mi at *
  have HMI := hide hmi
  clear hmi
  refine wp_mapUpdate rfl _ _ _ 51 rfl _ _ _ rfl rfl rfl R5.out ?_
  go_wp2_with fail
  go_ret
  exact ⟨rfl, S5.out, C5.out, w2, w3, w4, B2.out, C2.out, F3.out, C3.out, B4.out, by rw [HMI.out]; exact G5.out⟩
end Go.Proofs.YtehacdijleommaaGreatDoor.CI
