/-
  My own text: Versions of a store.
-/
import Derived.Test.YtehacdijleommaaGreatDoorJN9
import Derived.Maps.RangeWalk
import Derived.Test.YtehacdijleommaaGreatDoorSN10
namespace Go.Proofs.YtehacdijleommaaGreatDoor.CI
open Go.RowKit Go.Extern Go.MapKept Go.ChangeMaps

/-- A walk through a map, under way. -/
def IT (W : World) (r b : Nat) (l : List (Ky × Nat)) : Prop :=
  ∃ es clock since seen c0, W.heap[b]? = some (.map es clock) ∧ es.toList.map (fun e => (e.key, e.val)) = l.map (fun p => (kv p.1, cp p.2)) ∧ (es.toList.map (·.born)).Nodup ∧ W.heap[r]? = some (.mapIter (some b) since seen c0) ∧ (∀ x ∈ es.toList, x.born < since) ∧ since ≤ c0 ∧ since ≤ clock
theorem IT.kept {W W' : World} {r b : Nat} {l : List (Ky × Nat)} (h : IT W r b l) (e1 : W'.heap[b]? = W.heap[b]?) (e2 : W'.heap[r]? = W.heap[r]?) : IT W' r b l ∧ W'.rangeLeft b r = W.rangeLeft b r := by
  refine ⟨?_, by unfold World.rangeLeft; rw [e1, e2]⟩
  obtain ⟨es, clock, since, seen, c0, h1, h2, h3, h4, h5⟩ := h
  exact ⟨es, clock, since, seen, c0, e1.trans h1, h2, h3, e2.trans h4, h5⟩
theorem IT.later {W W' : World} {r b : Nat} {l : List (Ky × Nat)} (h : IT W r b l) (hb : Below W.heap.size W W') : IT W' r b l ∧ W'.rangeLeft b r = W.rangeLeft b r := by
  have h' := h
  obtain ⟨es, clock, since, seen, c0, h1, _, _, h4, _⟩ := h
  exact h'.kept (hb.block b (Array.getElem?_eq_some_iff.1 h1).1) (hb.block r (Array.getElem?_eq_some_iff.1 h4).1)
theorem IT.begin {W : World} {b : Nat} {l : List (Ky × Nat)} (h : MB W b l) : ∃ W', (Instr.range 51 (.map (some b))).run Tryz.prog W = .ok (.pointer (some ⟨W.heap.size, 0, none⟩)) W' ∧ IT W' W.heap.size b l ∧ Below W.heap.size W W' := by
  have hlt := h.lt
  obtain ⟨es, clock, hb, he, _, _, hs1, hs2⟩ := h
  exact ⟨_, run_range_map W 51 _ _ b es clock Tryz.underlying51 hb, ⟨es, clock, clock, #[], clock, ((MapKept.heap_alloc W _).2 b hlt).trans hb, he, hs2, (MapKept.heap_alloc W _).1, hs1, Nat.le_refl _, Nat.le_refl _⟩, (Below.refl _ _).alloc (Nat.le_refl _) _⟩
theorem IT.next {W : World} {r b : Nat} {l : List (Ky × Nat)} (h : IT W r b l) (ty : TypeId) :
    (Instr.next (.pointer (some ⟨r, 0, none⟩)) false ty).run Tryz.prog W = .ok (.tuple #[.bool false]) W ∨
    ∃ p ∈ l, ∃ W', (Instr.next (.pointer (some ⟨r, 0, none⟩)) false ty).run Tryz.prog W = .ok (.tuple #[.bool true, kv p.1, cp p.2]) W' ∧ IT W' r b l ∧ W'.rangeLeft b r < W.rangeLeft b r ∧ (Instr.entry (.pointer (some ⟨r, 0, none⟩))).run Tryz.prog W' = .ok (.tuple #[kv p.1, cp p.2]) W' ∧ W.grownBy W' (some r) := by
  obtain ⟨es, clock, since, seen, c0, hb, he, hn, hr, hold, hsc, hsk⟩ := h
  have hne : r ≠ b := fun e => by rw [e, hb] at hr; cases hr
  rcases run_next_at (P := Tryz.prog) W ty r b since c0 seen es clock hr hb hold hsc with ⟨h0, hrun⟩ | ⟨e, hel, w1, hal, hrun⟩
  · exact .inl hrun
  · obtain ⟨hem, hes⟩ := mem_left hel
    have hp : (e.key, e.val) ∈ l.map (fun p => (kv p.1, cp p.2)) := by rw [← he]; exact List.mem_map.2 ⟨e, hem, rfl⟩
    obtain ⟨p, hpl, e1⟩ := List.mem_map.1 hp
    injection e1 with e2 e3
    have hr1 : w1.heap[r]? = some (.mapIter (some b) since seen c0) := by rcases hal with rfl | rfl <;> exact hr
    have hb1 : w1.heap[b]? = some (.map es clock) := by rcases hal with rfl | rfl <;> exact hb
    have hset := heap_set (o' := .mapIter (some b) since (seen.push e.born) clock) hr1
    have hsame : (setBlock w1 r (.mapIter (some b) since (seen.push e.born) clock)).heap[r]? = some (.mapIter (some b) since (seen.push e.born) clock) := hset.1
    have hb' : (setBlock w1 r (.mapIter (some b) since (seen.push e.born) clock)).heap[b]? = some (.map es clock) := (hset.2 b (fun e1 => hne e1.symm)).trans hb1
    refine .inr ⟨p, hpl, _, by rw [e2, e3]; exact hrun, ⟨es, clock, since, seen.push e.born, clock, hb', he, hn, hsame, hold, hsk, hsk⟩, ?_, by rw [e2, e3]; exact run_entry_at _ r b since seen es clock e hsame hb' hem hn, ?_⟩
    · unfold World.rangeLeft
      rw [hb', hsame, hb, hr]
      exact left_shrinks es seen e hel
    · rcases hal with rfl | rfl <;> exact ⟨rfl, rfl, rfl, by simp [setBlock], fun i _ hi => hset.2 i (fun e1 => hi (by rw [e1]))⟩
set_option maxRecDepth 100000 in
set_option maxHeartbeats 1000000 in
theorem verO_any (B sb n kk : Nat) (X : Sx) (F : Nat → Prop) (w : World) (h : SO B w sb n X kk F) :
    Calls Tryz.prog 14 #[.pointer (some ⟨sb, 0, none⟩)] w fun e w' => (∃ x, e = .returned (.int .i64 x)) ∧ Below w.heap.size w w' := by
  obtain ⟨m, g, rb, v, h⟩ := h
  have c0 : w.cell? ⟨sb, 0, none⟩ = some (.slice (some ⟨g, 0, none⟩) n n) := by rw [cell_of_row _ _ 0 _ _ _ h.rp.hdr]; rfl
  have hn64 := h.sv.st.hi
  obtain ⟨arr, q2, q3⟩ := h.arr
  have HG : Hid (∀ i, i < n → w.cell? ⟨g, i, none⟩ = some (.map (some (m i).1))) := hide (fun i hi => by rw [cell_of_row _ _ _ _ _ _ q2]; exact q3 i hi)
  have HGL := hide (Array.getElem?_eq_some_iff.1 q2).1
  have HM := hide (fun i (hi : i < n) => h.sv.st.mb i hi)
  have HC : Hid (∀ i, i < n → ∀ p ∈ (m i).2, ∃ L, CH w p.2 p.2 L ∧ L.length ≤ kk) := hide (fun i hi p hp => by
    have e := h.sh i hi p hp
    obtain ⟨es, clock, hb, he, h1, h2, _⟩ := h.sv.st.mb i hi
    have := lk_mem _ h2 (k := p.1) (c := p.2) hp
    exact ⟨X.K p.1, h.sv.ch p.1 p.2 (by rw [e]; exact this), (h.sv.lv p.1).len⟩)
  clear h q2 q3
  go_enter Tryz.func14, Tryz.ntmps14
  go_wp2_with fail
  go_loopw [3, 13] (fun s i wr => ∃ (k : Nat) (x : Int), k ≤ n ∧ i = .int .i64 (k : Int) ∧ s = .int .i64 x ∧ Hid (Below w.heap.size w wr)) (fun _ i _ => n - (intOf i).toNat)
  case atStart => exact ⟨0, 0, Nat.zero_le _, rfl, rfl, hide (Below.refl _ _)⟩
  case round =>
    obtain ⟨k, x, hk, rfl, rfl, HB⟩ := hrel
    by_cases hlt : k < n
    · have hd1 : decide ((k : Int) < (n : Int)) = true := by rw [decide_eq_true_eq]; omega
      have k0 : (0 : Int) ≤ (k : Int) := by omega
      have k1 : (k : Int) < (n : Int) := by omega
      have wk : wrap64 ((k : Int) + 1) = (k : Int) + 1 := by unfold wrap64; omega
      have c1 : wr.cell? ⟨g, k, none⟩ = some (.map (some (m k).1)) := (HB.out.cell HGL.out).trans (HG.out k hlt)
      obtain ⟨W2, r2, i2, b2⟩ := IT.begin ((HM.out k hlt).later HB.out)
      have HI2 := hide i2
      have HB2 := hide (HB.out.trans (b2.mono HB.out.size))
      have HS2 := hide HB.out.size
      have HCk := hide (HC.out k hlt)
      clear i2 b2
      go_wp2_with fail
      obtain ⟨W1, rfl⟩ : ∃ W1, W1 = wr := ⟨wr, rfl⟩
      generalize (m k).1 = mk at *
      generalize (m k).2 = lk2 at *
      obtain ⟨r, hr⟩ : ∃ r, r = W1.heap.size := ⟨_, rfl⟩
      rw [← hr] at HI2 HS2 ⊢
      clear hr r2 c1 HB
      go_loopw [3] (fun s wr => ∃ (x : Int), s = .int .i64 x ∧ Hid (IT wr r mk lk2) ∧ Hid (Below w.heap.size w wr)) (fun _ wr => wr.rangeLeft mk r)
      case atStart => exact ⟨x, rfl, HI2, HB2⟩
      case round =>
        clear HI2 HB2
        obtain ⟨x, rfl, HI, HB⟩ := hrel
        rcases HI.out.next 0 with hrun | ⟨p, hp, W3, hrun, i3, l3, he3, g3⟩
        · go_wp2_with fail
          go_roundw
          case rel => exact ⟨k + 1, x, by omega, by go_num, rfl, HB⟩
          case measure => simp [intOf]; omega
        · have HI3 := hide i3
          have HL3 := hide l3
          have HB3 : Hid (Below w.heap.size w W3) := hide (by
            have hb := HB.out
            exact ⟨g3.os.trans hb.os, g3.tape.trans hb.tape, g3.output.trans hb.output, Nat.le_trans hb.size g3.size, fun y hy => (g3.block y (by have := hb.size; omega) (fun e => by have := Option.some.inj e; have := HS2.out; omega)).trans (hb.block y hy)⟩)
          obtain ⟨L, hCL, hLL⟩ := HCk.out p hp
          have HCL := hide (hCL.later HB3.out)
          have hln := hide (len_any p.2 p.2 L W3 HCL.out)
          have e1 : kv p.1 = .agg #[.int .i64 p.1.1, .int .i64 p.1.2] := rfl
          have e2 : cp p.2 = .pointer (some ⟨p.2, 0, none⟩) := rfl
          rw [e1, e2] at hrun he3
          clear i3 l3 g3 hCL e1 e2
          go_wp2_with fail
          refine hln.out.mono ?_
          rintro e w4 ⟨rfl, hb4⟩
          have a4 := HI3.out.later hb4
          have HI4 := hide a4.1
          have HL4 : Hid (w4.rangeLeft mk r < wr.rangeLeft mk r) := hide (by rw [a4.2]; exact HL3.out)
          have HB4 := hide (HB3.out.trans (hb4.mono HB3.out.size))
          clear a4 hb4 hln HI3 HL3 HB3 HCL
          go_wp2_with fail
          go_roundw
          case rel => exact ⟨_, rfl, HI4, HB4⟩
          case measure => exact HL4.out
    · have e : k = n := by omega
      subst e
      go_wp2_with fail
      go_ret
      exact ⟨⟨_, rfl⟩, HB.out⟩
end Go.Proofs.YtehacdijleommaaGreatDoor.CI
