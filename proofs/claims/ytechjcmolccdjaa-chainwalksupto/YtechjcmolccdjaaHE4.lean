/-
  My own text: a walk over a chain that the rounds may change: what comes next is looked for by the number given last.
-/
import Derived.Test.YtechjcmolccdjaaHE3
import Derived.Test.YtechjcmolccdjaaHR2
namespace Go.Proofs.Ytechjcmolccdjaa
open Go.RowKit Go.Shelf

attribute [local go_sem] Oper.semAt_some

/-- What a round keeps: all versions in memory but the chain's own. -/
structure KpW (cb : Nat) (A C : World) : Prop where
  size : A.heap.size ≤ C.heap.size
  cells : ∀ (g : Nat) (c : Array Value) (fz : Nat × Nat), A.heap[g]? = some (Obj.cells c 48 fz) → (∀ v, A.cell? ⟨cb, 0, none⟩ = some v → v.ownBlock ≠ some g) → C.heap[g]? = some (Obj.cells c 48 fz)
  row : ∀ v', C.cell? ⟨cb, 0, none⟩ = some v' → ∀ g, v'.ownBlock = some g → A.heap.size ≤ g ∨ ∃ v, A.cell? ⟨cb, 0, none⟩ = some v ∧ v.ownBlock = some g
theorem KpW.trans {cb : Nat} {A B C : World} (h : KpW cb A B) (k : KpW cb B C) : KpW cb A C := by
  refine ⟨Nat.le_trans h.size k.size, fun g c fz hg h3 => k.cells g c fz (h.cells g c fz hg h3) (fun v hv e => ?_), fun v' hv' g hg => ?_⟩
  · rcases h.row v hv g e with q | ⟨u, hu, q⟩
    · have := (Array.getElem?_eq_some_iff.1 hg).1; omega
    · exact h3 u hu q
  · rcases k.row v' hv' g hg with q | ⟨u, hu, q⟩
    · exact .inl (Nat.le_trans h.size q)
    · exact h.row u hu g q
/-- The chain's own cell stays. -/
theorem KpW.same {cb : Nat} {A C : World} (h1 : A.heap.size ≤ C.heap.size) (h2 : ∀ (g : Nat) (c : Array Value) (fz : Nat × Nat), A.heap[g]? = some (Obj.cells c 48 fz) → C.heap[g]? = some (Obj.cells c 48 fz)) (h3 : C.cell? ⟨cb, 0, none⟩ = A.cell? ⟨cb, 0, none⟩) : KpW cb A C :=
  ⟨h1, fun g c fz hg _ => h2 g c fz hg, fun v' hv' g hg => .inr ⟨v', by rw [← h3]; exact hv', hg⟩⟩
theorem KpW.refl (cb : Nat) (A : World) : KpW cb A A := KpW.same (Nat.le_refl _) (fun _ _ _ h => h) rfl
theorem KpW.put {cb l : Nat} {W : World} {o : Obj} (h : W.heap[l]? = some o) (ho : o.isCells = false) (hne : cb ≠ l) (o' : Obj) : KpW cb W (W.putObj l o') :=
  KpW.same (by simp) (fun g c fz hg => (World.putObj_heap_other (fun e => by rw [e, h] at hg; cases hg; cases ho)).trans hg) (cell_put hne 0)
theorem KpW.fr {cb B : Nat} {A C : World} {L : List Ver} (hf : Fr A C cb) (hc : CH A B cb L) : KpW cb A C := by
  refine ⟨hf.size, fun g c fz hg h3 => ?_, fun v' hv' g hg => hf.row v' hv' g hg⟩
  obtain ⟨_, hh⟩ := hc.blk
  exact (hf.block g (Array.getElem?_eq_some_iff.1 hg).1 (ne_type hg hh (by decide)) h3).trans hg
theorem KpW.later {cb B : Nat} {A C : World} {L : List Ver} (hb : Below A.heap.size A C) (hc : CH A B cb L) : KpW cb A C :=
  KpW.same hb.size (fun g _ _ h => (hb.block g (Array.getElem?_eq_some_iff.1 h).1).trans h) (hb.cell (p := ⟨cb, 0, none⟩) hc.lt)
set_option maxRecDepth 100000 in
set_option maxHeartbeats 4000000 in
theorem all_acts (n : Nat) (hn : 1 ≤ n) (bc B cb M : Nat) (ol : World → Nat) (St : Nat → List Ver) (hr : ∀ k, Ris (St k)) (hlen : ∀ k, (St k).length ≤ 4611686018427387904) (w : World) :
    Leans Fence.wide n Try.prog 12 #[.pointer (some ⟨bc, 0, none⟩)] encP (fun s V => (s.length ≤ M ∧ ol V = s.length) ∧ CH V B cb (St s.length) ∧ V.cell? ⟨bc, 0, none⟩ = some (.pointer (some ⟨cb, 0, none⟩))) (KpW cb)
      (fun s x => nx (lastN s) (St s.length) = some x) (fun s => nx (lastN s) (St s.length) = none) (fun _ => True) w := by
  intro l J Jx W hW hJ0 hH hY h0
  have hJ : ∀ s A C, J s A → Below A.heap.size A C → J s C := fun s A C hs hb => hJ0 s A C none hs (grown_of_below hb) (fun r e => by cases e)
  have HA := hide (fun (q : Int) (k : Nat) (V : World) (h : CH V B cb (St k)) => above_any q B cb (St k) V h (hr k) (hlen k))
  have hW0 := hide hW.size
  have hc0 := (hH _ _ h0).2.2
  have hC0 := (hH _ _ h0).2.1
  have qf := eqNilY l
  refine callsIn_of_wp Try.func12 rfl trivial ?_ rfl
  simp only [Try.ntmps12, List.size_toArray, List.length_cons, List.length_nil, Nat.reduceAdd, Nat.reduceSub, Array.replicate_succ, Array.replicate_zero, List.push_toArray, List.append_toArray, List.nil_append, List.cons_append]
  gi_wp2
  refine ⟨trivial, (callsIn_wide.2 (HA.out (-1) 0 W hC0)).mono ?_⟩
  rintro e w1 ⟨rfl, hb1⟩
  have hJ1 := hide (hJ _ _ _ h0 hb1)
  have hS1 := hide hb1.size
  obtain ⟨k0, hk0⟩ : ∃ k0, k0 = ab (-1) (St 0) := ⟨_, rfl⟩
  rw [← hk0]
  have HK0 := hide hk0
  clear hb1 hc0 h0 hC0 hW hk0
  gi_wp2
  gi_loopw [3] (fun i wr => ∃ (s : List Ver) (k : Nat), i = .int .i64 (k : Int) ∧ Hid (k = ab (lastN s) (St s.length)) ∧ Hid (J s wr) ∧ Hid (W.heap.size ≤ wr.heap.size)) (fun _ wr => M - ol wr)
  case atStart => exact ⟨[], k0, rfl, HK0, hJ1, hS1⟩
  case round =>
    clear hJ1 hS1 HK0
    obtain ⟨s, k, rfl, HKK, HJ, HS⟩ := hrel
    have hHk := hH _ _ HJ.out
    have HOL := hide hHk.1
    have HC := hide hHk.2.1
    obtain ⟨a, cap, c0, hL⟩ := hHk.2.1.parts
    have cc := hHk.2.2
    clear hHk
    obtain ⟨L, hLL⟩ : ∃ L, L = St s.length := ⟨_, rfl⟩
    rw [← hLL] at hL c0 HC HKK
    have HLL := hide hLL
    clear hLL
    by_cases hlt : k < L.length
    · obtain ⟨p, hp⟩ : ∃ p, L[k]? = some p := ⟨_, List.getElem?_eq_getElem hlt⟩
      obtain ⟨g, off, rfl, c1, c2⟩ := hL k p hp
      have HR : Hid (wr.rangeAt g (off + k * 2) (vrC p).toList) := hide (fun j u hj => by
        match j, hj with
        | 0, hj => cases hj; exact c1
        | 1, hj => cases hj; exact c2)
      have hd1 : decide ((k : Int) < (L.length : Int)) = true := by rw [decide_eq_true_eq]; omega
      have k0 : (0 : Int) ≤ (k : Int) := by omega
      have k1 : (k : Int) < (L.length : Int) := by omega
      have HP := hide hp
      have HRW : Hid (∀ v, wr.cell? ⟨cb, 0, none⟩ = some v → ∀ b, v.ownBlock = some b → b < wr.heap.size) := hide (fun v hv b hb => (HC.out.row_in v hv b hb).2)
      obtain ⟨W2, hW2⟩ : ∃ W2, wr.alloc (.cells #[.int .i64 p.1, .string ⟨p.2.toArray⟩] 48) = W2 := ⟨_, rfl⟩
      have hb2 : Below wr.heap.size wr W2 := by rw [← hW2]; exact (Below.refl _ _).alloc (Nat.le_refl _) _
      have hN2 : Hid (W2.heap[wr.heap.size]? = some (.cells #[.int .i64 p.1, .string ⟨p.2.toArray⟩] 48 (0, 0))) := hide (by rw [← hW2]; exact alloc_newV wr _)
      have b0 : W2.cell? ⟨wr.heap.size, 0, none⟩ = some (.int .i64 p.1) := by rw [cell_of_row _ _ _ _ _ _ hN2.out]; rfl
      have b1 : W2.cell? ⟨wr.heap.size, 1, none⟩ = some (.string ⟨p.2.toArray⟩) := by rw [cell_of_row _ _ _ _ _ _ hN2.out]; rfl
      have HB2 := hide hb2
      obtain ⟨fn, tmps, assign, body, hy, hR⟩ := hY s p W2 (hJ _ _ _ HJ.out hb2) (by unfold nx; rw [← HLL.out, ← HKK.out]; exact hp)
      dsimp only [encP] at hy
      have HRR := hide hR
      clear hR hb2 hL c1 c2 hp hY
      gi_wp2_with (first
        | (refine wpListIn_load_mid rfl 48 _ rfl g (off + k * 2) rfl (vrC p).toList _ HR.out Try.underlying48 rfl Try.sizeVer ?_; rw [Array.toArray_toList]; unfold vrC)
        | (refine wpListIn_store_row rfl 48 _ _ rfl wr.heap.size #[.int .i64 p.1, .string ⟨p.2.toArray⟩] rfl rfl _ _ (alloc_newV wr _) Try.sizeVer rfl (by simp [Value.oneCell']) ?_; rw [World.setRow_alloc_new]))
      refine HRR.out.mono ?_
      rintro e W3 (⟨rfl, hJ3, hk3⟩ | ⟨rfl, hJx3⟩)
      · have HJ3 : Hid (J (s ++ [p]) W3) := hide hJ3
        have hN3 := hk3.cells _ _ _ hN2.out (fun v hv e => by
          rw [HB2.out.cell (p := ⟨cb, 0, none⟩) HC.out.lt] at hv
          have := HRW.out v hv _ e; omega)
        have b3 : W3.cell? ⟨wr.heap.size, 0, none⟩ = some (.int .i64 p.1) := by rw [cell_of_row _ _ _ _ _ _ hN3]; rfl
        have hH3 := hH _ _ HJ3.out
        have c3 := hH3.2.2
        have HC3 := hide hH3.2.1
        have HZ3 : Hid (wr.heap.size < W3.heap.size) := hide (Array.getElem?_eq_some_iff.1 hN3).1
        clear hk3 hJ3 hN3 hW2 b0 b1 cc c0 hH3
        gi_wp2
        refine ⟨trivial, (callsIn_wide.2 (HA.out p.1 (s ++ [p]).length W3 HC3.out)).mono ?_⟩
        rintro e w4 ⟨rfl, hb4⟩
        have HJ4 : Hid (J (s ++ [p]) w4) := hide (hJ _ _ _ HJ3.out hb4)
        have HS4 : Hid (W.heap.size ≤ w4.heap.size) := hide (by have := HS.out; have := HZ3.out; have := hb4.size; omega)
        have HM4 : Hid (M - ol w4 < M - ol wr) := hide (by
          have h4 := (hH _ _ HJ4.out).1
          have h0 := HOL.out
          rw [List.length_append] at h4
          simp only [List.length_cons, List.length_nil] at h4
          omega)
        obtain ⟨k4, hk4⟩ : ∃ k4, k4 = ab p.1 (St (s ++ [p]).length) := ⟨_, rfl⟩
        rw [← hk4]
        have HK4 : Hid (k4 = ab (lastN (s ++ [p])) (St (s ++ [p]).length)) := hide (by rw [lastN_snoc]; exact hk4)
        clear hb4 hk4
        gi_wp2
        go_roundw
        case rel => exact ⟨s ++ [p], k4, by first | rfl | go_num, HK4, HJ4, HS4⟩
        case measure => exact HM4.out
      · have HX3 := hide hJx3
        clear hJx3
        gi_wp2
        refine bodyPost_ret (results_none rfl _ _ _) rfl ?_
        exact ⟨⟨_, rfl⟩, .inr ⟨_, trivial, HX3.out⟩⟩
    · have hd1 : decide ((k : Int) < (L.length : Int)) = false := by rw [decide_eq_false_iff_not]; omega
      have HE : Hid (nx (lastN s) (St s.length) = none) := hide (by unfold nx; rw [← HLL.out, ← HKK.out]; exact List.getElem?_eq_none (by omega))
      gi_wp2
      go_end0
      exact ⟨⟨_, rfl⟩, .inl ⟨s, HE.out, HJ.out⟩⟩
end Go.Proofs.Ytechjcmolccdjaa
