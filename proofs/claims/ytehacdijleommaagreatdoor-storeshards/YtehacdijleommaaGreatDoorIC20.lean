/-
  My own text: IC14, IC15, IC16, IC20 in one.
-/
import Derived.Test.YtehacdijleommaaGreatDoorHR1
import Derived.Test.YtehacdijleommaaGreatDoorIC13
import Derived.Test.YtehacdijleommaaGreatDoorIC11
namespace Go.Proofs.YtehacdijleommaaGreatDoor.CI
open Go.RowKit Go.Shelf

attribute [local go_sem] Oper.semAt_some

/-- How many versions a chain in memory has. -/
def chLen (cb : Nat) (W : World) : Nat := match W.cell? ⟨cb, 0, none⟩ with | some (.slice _ n _) => n | _ => 0
theorem CH.chLen {W : World} {B cb : Nat} {L : List Ver} (h : CH W B cb L) : chLen cb W = L.length := by
  obtain ⟨a, cap, c0, _⟩ := h.parts
  unfold Proofs.YtehacdijleommaaGreatDoor.CI.chLen; rw [c0]
theorem Ris.drop : ∀ {L : List Ver} (k : Nat), Ris L → Ris (L.drop k)
  | [], _, _ => by rw [List.drop_nil]; trivial
  | _ :: _, 0, h => h
  | _ :: r, k + 1, h => Ris.drop (L := r) k h.2
theorem drop_step {L : List Ver} {k : Nat} {p : Ver} (hp : L[k]? = some p) : L.drop k = p :: L.drop (k + 1) := by
  obtain ⟨hlt, e⟩ := List.getElem?_eq_some_iff.1 hp
  rw [List.drop_eq_getElem_cons hlt, e]
theorem ab_next {L : List Ver} {k : Nat} {p : Ver} (hr : Ris L) (hp : L[k]? = some p) : ab p.1 (L.drop (k + 1)) = 0 := by
  have h := hr.drop k
  rw [drop_step hp] at h
  cases hd : L.drop (k + 1) with
  | nil => rfl
  | cons a t =>
    rw [hd] at h
    unfold ab
    rw [if_pos (h.1 a (List.mem_cons_self ..))]
/-- What a round of Prune keeps: all cells but the chain's and one box. -/
structure KpP (cb bf : Nat) (A C : World) : Prop where
  size : A.heap.size ≤ C.heap.size
  cells : ∀ (g : Nat) (c : Array Value) (t : TypeId) (fz : Nat × Nat), A.heap[g]? = some (Obj.cells c t fz) → g ≠ cb → g ≠ bf → (∀ v, A.cell? ⟨cb, 0, none⟩ = some v → v.ownBlock ≠ some g) → C.heap[g]? = some (Obj.cells c t fz)
  row : ∀ v', C.cell? ⟨cb, 0, none⟩ = some v' → ∀ g, v'.ownBlock = some g → A.heap.size ≤ g ∨ ∃ v, A.cell? ⟨cb, 0, none⟩ = some v ∧ v.ownBlock = some g
theorem KpP.trans {cb bf : Nat} {A B C : World} (h : KpP cb bf A B) (k : KpP cb bf B C) : KpP cb bf A C := by
  refine ⟨Nat.le_trans h.size k.size, fun g c t fz hg h1 h2 h3 => k.cells g c t fz (h.cells g c t fz hg h1 h2 h3) h1 h2 (fun v hv e => ?_), fun v' hv' g hg => ?_⟩
  · rcases h.row v hv g e with q | ⟨u, hu, q⟩
    · have := (Array.getElem?_eq_some_iff.1 hg).1; omega
    · exact h3 u hu q
  · rcases k.row v' hv' g hg with q | ⟨u, hu, q⟩
    · exact .inl (Nat.le_trans h.size q)
    · exact h.row u hu g q
theorem cell_put {W : World} {l : Nat} {o' : Obj} {b : Nat} (hne : b ≠ l) (i : Nat) : (W.putObj l o').cell? ⟨b, i, none⟩ = W.cell? ⟨b, i, none⟩ := by
  unfold World.cell?
  rw [World.putObj_heap_other hne]
theorem KpP.put {cb bf l : Nat} {W : World} {o : Obj} (h : W.heap[l]? = some o) (ho : o.isCells = false) (hne : cb ≠ l) (o' : Obj) : KpP cb bf W (W.putObj l o') := by
  refine ⟨by simp, fun g c t fz hg _ _ _ => (World.putObj_heap_other (fun e => ?_)).trans hg, fun v' hv' g hg => ?_⟩
  · rw [e, h] at hg
    cases hg
    cases ho
  · rw [cell_put hne] at hv'
    exact .inr ⟨v', hv', hg⟩
def encP (p : Ver) : Array Value := #[.int .i64 p.1, .int .i64 p.2]
set_option maxRecDepth 100000 in
set_option maxHeartbeats 4000000 in
theorem all_leans (n : Nat) (hn : 1 ≤ n) (bc bf B cb : Nat) (L : List Ver) (hr : Ris L) (hpos : ∀ p ∈ L, 0 ≤ p.1) (hlen : L.length ≤ 4611686018427387904) (w : World) (hcb : cb < w.heap.size) (hbf : bf < w.heap.size) :
    Leans Fence.wide n Tryz.prog 105 #[.pointer (some ⟨bc, 0, none⟩)] encP (fun s V => CH V B cb (L.drop s.length) ∧ V.cell? ⟨bc, 0, none⟩ = some (.pointer (some ⟨cb, 0, none⟩))) (KpP cb bf)
      (fun s x => s = L.take s.length ∧ L[s.length]? = some x) (fun s => s = L) (fun _ => True) w := by
  intro l J Jx W hW hJ0 hH hY h0
  have hJ : ∀ s A C, J s A → Below A.heap.size A C → J s C := fun s A C hs hb => hJ0 s A C none hs (grown_of_below hb) (fun r e => by cases e)
  have HA := hide (fun (q : Int) (k : Nat) (V : World) (h : CH V B cb (L.drop k)) => above_any q B cb (L.drop k) V h (hr.drop k) (by rw [List.length_drop]; omega))
  have hW0 := hide hW.size
  have hc0 := (hH _ _ h0).2
  have hC0 := (hH _ _ h0).1
  have qf := eqNilY l
  refine callsIn_of_wp Tryz.func105 rfl trivial ?_ rfl
  simp only [Tryz.ntmps105, List.size_toArray, List.length_cons, List.length_nil, Nat.reduceAdd, Nat.reduceSub, Array.replicate_succ, Array.replicate_zero, List.push_toArray, List.append_toArray, List.nil_append, List.cons_append]
  gi_wp2
  refine ⟨trivial, (callsIn_wide.2 (HA.out (-1) 0 W hC0)).mono ?_⟩
  rintro e w1 ⟨rfl, hb1⟩
  rw [List.drop_zero, ab_neg L hpos]
  have hJ1 := hide (hJ _ _ _ h0 hb1)
  have hS1 := hide hb1.size
  clear hb1 hc0 h0 hC0 hW
  gi_wp2
  gi_loopw [3] (fun i wr => ∃ k : Nat, k ≤ L.length ∧ i = .int .i64 0 ∧ Hid (J (L.take k) wr) ∧ Hid (W.heap.size ≤ wr.heap.size)) (fun _ wr => chLen cb wr)
  case atStart => exact ⟨0, Nat.zero_le _, rfl, hide (by rw [List.take_zero]; exact hJ1.out), hS1⟩
  case round =>
    obtain ⟨k, hk, rfl, HJ, HS⟩ := hrel
    have hHk := hH _ _ HJ.out
    rw [List.length_take, Nat.min_eq_left hk] at hHk
    have HC := hide hHk.1
    obtain ⟨a, cap, c0, hL⟩ := hHk.1.parts
    have cc := hHk.2
    clear hHk
    have HLN : Hid ((L.drop k).length = L.length - k) := hide (by rw [List.length_drop])
    by_cases hlt : k < L.length
    · obtain ⟨p, hp⟩ : ∃ p, L[k]? = some p := ⟨_, List.getElem?_eq_getElem hlt⟩
      obtain ⟨g, off, rfl, c1, c2⟩ := hL 0 p (by rw [List.getElem?_drop]; exact hp)
      rw [Nat.zero_mul, Nat.add_zero] at c1 c2
      have HR : Hid (wr.rangeAt g off (vrC p).toList) := hide (fun j u hj => by
        match j, hj with
        | 0, hj => cases hj; exact c1
        | 1, hj => cases hj; exact c2)
      have hn1 : 0 < (L.drop k).length := by rw [HLN.out]; omega
      have HCL := HC.out.chLen
      obtain ⟨n1, hn1e⟩ : ∃ n1, n1 = (L.drop k).length := ⟨_, rfl⟩
      rw [← hn1e] at c0 hn1 HCL
      have HN1 := hide hn1e
      clear hn1e
      have HCL := hide HCL
      have hd1 : decide ((0 : Int) < (n1 : Int)) = true := by rw [decide_eq_true_eq]; omega
      have k1 : (0 : Int) < (n1 : Int) := by omega
      have HP := hide hp
      have HB : Hid (∀ v, wr.cell? ⟨cb, 0, none⟩ = some v → ∀ b, v.ownBlock = some b → b < wr.heap.size) := hide (fun v hv b hb => by
        obtain ⟨_, v', em, hh, ho, _⟩ := HC.out
        have : wr.cell? ⟨cb, 0, none⟩ = some v' := by rw [cell_of_row wr cb 0 _ _ _ hh]; rfl
        rw [this] at hv
        cases hv
        exact (ho.lt hb).2)
      obtain ⟨W2, hW2⟩ : ∃ W2, wr.alloc (.cells #[.int .i64 p.1, .int .i64 p.2] 148) = W2 := ⟨_, rfl⟩
      have hb2 : Below wr.heap.size wr W2 := by rw [← hW2]; exact (Below.refl _ _).alloc (Nat.le_refl _) _
      have hN2 : Hid (W2.heap[wr.heap.size]? = some (.cells #[.int .i64 p.1, .int .i64 p.2] 148 (0, 0))) := hide (by rw [← hW2]; exact alloc_newV wr _)
      have b0 : W2.cell? ⟨wr.heap.size, 0, none⟩ = some (.int .i64 p.1) := by rw [cell_of_row _ _ _ _ _ _ hN2.out]; rfl
      have b1 : W2.cell? ⟨wr.heap.size, 1, none⟩ = some (.int .i64 p.2) := by rw [cell_of_row _ _ _ _ _ _ hN2.out]; rfl
      have HB2 := hide hb2
      obtain ⟨fn, tmps, assign, body, hy, hR⟩ := hY (L.take k) p W2 (hJ _ _ _ HJ.out hb2) ⟨by rw [List.length_take, Nat.min_eq_left hk], by rw [List.length_take, Nat.min_eq_left hk]; exact hp⟩
      dsimp only [encP] at hy
      have HRR := hide hR
      clear hR hb2 hL c1 c2 hp hY
      gi_wp2_with (first
        | (refine wpListIn_load_mid rfl 148 _ rfl g off rfl (vrC p).toList _ HR.out Tryz.underlying148 rfl Tryz.sizeVerI ?_; rw [Array.toArray_toList]; unfold vrC)
        | (refine wpListIn_store_row rfl 148 _ _ rfl wr.heap.size #[.int .i64 p.1, .int .i64 p.2] rfl rfl _ _ (alloc_newV wr _) Tryz.sizeVerI rfl (by simp [Value.oneCell']) ?_; rw [World.setRow_alloc_new]))
      refine HRR.out.mono ?_
      rintro e W3 (⟨rfl, hJ3, hk3⟩ | ⟨rfl, hJx3⟩)
      · have HJ3 : Hid (J (L.take (k + 1)) W3) := hide (by rw [List.take_add_one, HP.out]; exact hJ3)
        have hN3 := hk3.cells _ _ _ _ hN2.out (by have := HS.out; have := hW0.out; omega) (by have := HS.out; have := hW0.out; omega) (fun v hv e => by
          rw [HB2.out.cell (p := ⟨cb, 0, none⟩) (by have := HC.out.lt; exact this)] at hv
          have := HB.out v hv _ e; omega)
        have b3 : W3.cell? ⟨wr.heap.size, 0, none⟩ = some (.int .i64 p.1) := by rw [cell_of_row _ _ _ _ _ _ hN3]; rfl
        have hH3 := hH _ _ HJ3.out
        rw [List.length_take, Nat.min_eq_left (show k + 1 ≤ L.length by omega)] at hH3
        have c3 := hH3.2
        have HC3 := hide hH3.1
        have HZ3 : Hid (wr.heap.size < W3.heap.size) := hide (Array.getElem?_eq_some_iff.1 hN3).1
        clear hk3 hJ3 hN3 hW2 b0 b1 cc c0 hH3
        gi_wp2
        refine ⟨trivial, (callsIn_wide.2 (HA.out p.1 (k + 1) W3 HC3.out)).mono ?_⟩
        rintro e w4 ⟨rfl, hb4⟩
        rw [ab_next hr HP.out]
        have HJ4 : Hid (J (L.take (k + 1)) w4) := hide (hJ _ _ _ HJ3.out hb4)
        have HC4 := hide (HC3.out.later hb4)
        have HS4 : Hid (W.heap.size ≤ w4.heap.size) := hide (by have := HS.out; have := HZ3.out; have := hb4.size; omega)
        clear hb4
        gi_wp2
        go_roundw
        case rel => exact ⟨k + 1, by omega, by first | rfl | go_num, HJ4, HS4⟩
        case measure => rw [HC4.out.chLen, HCL.out, HN1.out, HLN.out, List.length_drop]; omega
      · have HX3 := hide hJx3
        clear hJx3
        gi_wp2
        refine bodyPost_ret (results_none rfl _ _ _) rfl ?_
        exact ⟨⟨_, rfl⟩, .inr ⟨_, trivial, HX3.out⟩⟩
    · have e : k = L.length := by omega
      subst e
      have e0 : (L.drop L.length).length = 0 := by simp
      rw [e0] at c0
      gi_wp2
      go_end0
      exact ⟨⟨_, rfl⟩, .inl ⟨L, rfl, by have := HJ.out; rw [List.take_length] at this; exact this⟩⟩
end Go.Proofs.YtehacdijleommaaGreatDoor.CI
namespace Go.Proofs.YtehacdijleommaaGreatDoor.CI
open Go.RowKit Go.Shelf

attribute [local go_sem] Oper.semAt_some

theorem Fr.refl (W : World) (cb : Nat) : Fr W W cb := ⟨rfl, rfl, rfl, Nat.le_refl _, fun _ _ _ _ => rfl, fun v' hv' _ hg => .inr ⟨v', hv', hg⟩⟩
theorem Fr.trans {A B C : World} {cb : Nat} (h : Fr A B cb) (k : Fr B C cb) : Fr A C cb := by
  refine ⟨k.os.trans h.os, k.tape.trans h.tape, k.output.trans h.output, Nat.le_trans h.size k.size, fun g hg h1 h2 => (k.block g (Nat.lt_of_lt_of_le hg h.size) h1 (fun v hv e => ?_)).trans (h.block g hg h1 h2), fun v' hv' g hg => ?_⟩
  · rcases h.row v hv g e with q | ⟨u, hu, q⟩
    · omega
    · exact h2 u hu q
  · rcases k.row v' hv' g hg with q | ⟨u, hu, q⟩
    · exact .inl (Nat.le_trans h.size q)
    · exact h.row u hu g q
/-- What leaves all old blocks alone. -/
theorem Fr.grow {A B C : World} {cb : Nat} (h : Fr A B cb) (hcb : cb < A.heap.size) (e1 : C.os = B.os) (e2 : C.tape = B.tape) (e3 : C.output = B.output) (e4 : B.heap.size ≤ C.heap.size) (hb : ∀ g, g < A.heap.size → C.heap[g]? = B.heap[g]?) : Fr A C cb := by
  have hc : C.cell? ⟨cb, 0, none⟩ = B.cell? ⟨cb, 0, none⟩ := by unfold World.cell?; rw [hb cb hcb]
  exact ⟨e1.trans h.os, e2.trans h.tape, e3.trans h.output, Nat.le_trans h.size e4, fun g hg h1 h2 => (hb g hg).trans (h.block g hg h1 h2), fun v' hv' g hg => h.row v' (by rw [← hc]; exact hv') g hg⟩
theorem Fr.later {A B C : World} {cb : Nat} (h : Fr A B cb) (hcb : cb < A.heap.size) (hb : Below B.heap.size B C) : Fr A C cb :=
  h.grow hcb hb.os hb.tape hb.output hb.size (fun g hg => hb.block g (Nat.lt_of_lt_of_le hg h.size))
theorem Fr.set {A B : World} {cb b : Nat} (h : Fr A B cb) (hcb : cb < A.heap.size) (hb : A.heap.size ≤ b) (u : Value) : Fr A (B.setCell ⟨b, 0, none⟩ u) cb :=
  h.grow hcb rfl rfl rfl (Nat.le_of_eq (size_set _ _ _).symm) (fun g hg => Below.heap_setCell _ _ _ g (show g ≠ b by omega))
/-- What the rounds of Prune leave. -/
structure PI (w : World) (bx bk bf bc B cb : Nat) (L : List Ver) (p : Ver) (k : Nat) (V : World) : Prop where
  ch : CH V B cb (L.drop k)
  box : Box V bx 66 (.pointer (some ⟨cb, 0, none⟩))
  keep : V.heap[bk]? = some (.cells #[.int .i64 p.1, .int .i64 p.2] 148 (0, 0))
  krow : ∀ v, V.cell? ⟨cb, 0, none⟩ = some v → v.ownBlock ≠ some bk
  cnt : Box V bf 3 (.int .i64 (k : Int))
  bxc : Box V bc 66 (.pointer (some ⟨cb, 0, none⟩))
  fr : Fr w V cb
  ne : cb < w.heap.size ∧ w.heap.size ≤ bx ∧ w.heap.size ≤ bk ∧ w.heap.size ≤ bf ∧ w.heap.size ≤ bc ∧ bx ≠ bf ∧ bk ≠ bf ∧ bc ≠ bf
theorem PI.later {w V V' : World} {bx bk bf bc B cb k : Nat} {L : List Ver} {p : Ver} (h : PI w bx bk bf bc B cb L p k V) (hb : Below V.heap.size V V') : PI w bx bk bf bc B cb L p k V' :=
  ⟨h.ch.later hb, h.box.later hb, (hb.block bk (Array.getElem?_eq_some_iff.1 h.keep).1).trans h.keep, fun v hv => h.krow v (by rw [← hb.cell (p := ⟨cb, 0, none⟩) h.ch.lt]; exact hv), h.cnt.later hb, h.bxc.later hb, h.fr.later h.ne.1 hb, h.ne⟩
theorem PI.grown {w V V' : World} {bx bk bf bc B cb k D : Nat} {L : List Ver} {p : Ver} {row : Option Nat} (h : PI w bx bk bf bc B cb L p k V) (hD : w.heap.size ≤ D) (hg : V.grownBy V' row) (hr : ∀ r, row = some r → D ≤ r ∧ ∃ o : Obj, V.heap[r]? = some o ∧ o.isCells = false) : PI w bx bk bf bc B cb L p k V' := by
  have hr' : ∀ r, row = some r → ∃ o : Obj, V.heap[r]? = some o ∧ o.isCells = false := fun r e => (hr r e).2
  have hfr : Fr w V' cb := h.fr.grow h.ne.1 hg.os hg.tape hg.output hg.size (fun g hgw => hg.block g (Nat.lt_of_lt_of_le hgw h.fr.size) (fun e => by have := (hr g e.symm).1; omega))
  have hc : V'.cell? ⟨cb, 0, none⟩ = V.cell? ⟨cb, 0, none⟩ := by
    unfold World.cell?
    rw [hg.block cb h.ch.lt (fun e => by have := (hr cb e.symm).1; have := h.ne.1; omega)]
  exact ⟨h.ch.grown hg hr', grown_cells hg hr' h.box, grown_cells hg hr' h.keep, fun v hv => h.krow v (by rw [← hc]; exact hv), grown_cells hg hr' h.cnt, grown_cells hg hr' h.bxc, hfr, h.ne⟩
theorem CH.row_no {W : World} {B cb b : Nat} {L : List Ver} {o : Obj} (h : CH W B cb L) (hb : W.heap[b]? = some o) (ho : o.isCells = false) : ∀ v, W.cell? ⟨cb, 0, none⟩ = some v → v.ownBlock ≠ some b := by
  obtain ⟨_, v, em, hh, hor, _⟩ := h
  intro v' hv' e
  have hc : W.cell? ⟨cb, 0, none⟩ = some v := by rw [cell_of_row W cb 0 _ _ _ hh]; rfl
  rw [hc] at hv'
  cases hv'
  rcases hor.2 with ⟨rfl, _⟩ | ⟨g, off, cap, cur, rfl, _, hg, _⟩
  · cases e
  · cases e
    rw [hb] at hg
    cases hg
    cases ho
/-- One version is forgotten, and counted. -/
theorem PI.pop {w V V' : World} {bx bk bf bc B cb k : Nat} {L : List Ver} {p : Ver} (h : PI w bx bk bf bc B cb L p k V) (hc : CH V' B cb (L.drop (k + 1))) (hf : Fr V V' cb) (hkl : bk < V.heap.size) :
    Box V' bf 3 (.int .i64 (k : Int)) ∧ PI w bx bk bf bc B cb L p (k + 1) (V'.setCell ⟨bf, 0, none⟩ (.int .i64 ((k : Int) + 1))) ∧ KpP cb bf V (V'.setCell ⟨bf, 0, none⟩ (.int .i64 ((k : Int) + 1))) := by
  obtain ⟨n1, n2, n3, n4, n5, n6, n7, n8⟩ := h.ne
  have r1 := hf.box h.ch h.box (by decide) (by omega)
  have r2 := (hf.block bk hkl (by omega) h.krow).trans h.keep
  have r3 := hf.box h.ch h.cnt (by decide) (by omega)
  have r4 := hf.box h.ch h.bxc (by decide) (by omega)
  have hce : (V'.setCell ⟨bf, 0, none⟩ (.int .i64 ((k : Int) + 1))).cell? ⟨cb, 0, none⟩ = V'.cell? ⟨cb, 0, none⟩ := by
    have hne : cb ≠ bf := by omega
    unfold World.cell?
    rw [Below.heap_setCell _ _ _ cb hne]
  refine ⟨r3, ⟨hc.set r3 (by decide) (by omega) _, r1.other n6 _, (Below.heap_setCell _ _ _ bk n7).trans r2, fun v hv e => ?_, r3.set _, r4.other n8 _, (h.fr.trans hf).set n1 n4 _, h.ne⟩, ⟨Nat.le_trans hf.size (Nat.le_of_eq (size_set _ _ _).symm), fun g c t fz hg h1 h2 h3 => (Below.heap_setCell _ _ _ g h2).trans ((hf.block g (Array.getElem?_eq_some_iff.1 hg).1 h1 h3).trans hg), fun v' hv' g hg => hf.row v' (by rw [← hce]; exact hv') g hg⟩⟩
  rw [hce] at hv
  rcases hf.row v hv bk e with q | ⟨u, hu, q⟩
  · omega
  · exact h.krow u hu q
theorem Ris.inj {L : List Ver} (hr : Ris L) {i j : Nat} {p q : Ver} (hi : L[i]? = some p) (hj : L[j]? = some q) (e : p.1 = q.1) : i = j := by
  have a := ab_self L i p hr hi
  have b := ab_self L j q hr hj
  rw [e] at a
  omega
set_option maxRecDepth 100000 in
set_option maxHeartbeats 4000000 in
theorem prune_in (n : Int) (B cb m : Nat) (L : List Ver) (p : Ver) (w : World) (h : CH w B cb L) (hr : Ris L) (hpos : ∀ p ∈ L, 0 ≤ p.1) (hl : L.length ≤ 5864062014804) (h0 : ab n L = m + 1) (hp : L[m]? = some p) :
    CallsIn Fence.wide 9 Tryz.prog 61 #[.pointer (some ⟨cb, 0, none⟩), .int .i64 n] w fun e w' => e = .returned (.int .i64 (m : Int)) ∧ CH w' B cb (L.drop m) ∧ Fr w w' cb := by
  have HML : Hid (m < L.length) := hide (List.getElem?_eq_some_iff.1 hp).1
  have HCL := hide h.lt
  obtain ⟨W1, hW1⟩ : ∃ W1, w.alloc (.cells #[.pointer (some ⟨cb, 0, none⟩)] 66) = W1 := ⟨_, rfl⟩
  have hb1 : Below w.heap.size w W1 := by rw [← hW1]; exact (Below.refl _ _).alloc (Nat.le_refl _) _
  have X1 : Hid (Box W1 w.heap.size 66 (.pointer (some ⟨cb, 0, none⟩))) := hide (by rw [← hW1]; exact Box.new w _ _)
  have x1 := X1.out.cell
  have HB1 := hide hb1
  have C1 := hide (h.later hb1)
  have HK := hide (counts_yes n B cb m L p W1 C1.out hr (by omega) h0 hp)
  have HRI := hide hr
  have HPO := hide hpos
  have HLL := hide hl
  have HPP := hide hp
  clear h hr hpos hl h0 hp hb1
  refine callsIn_of_wp_marks Tryz.func61 rfl trivial ?_ rfl
  simp only [Tryz.ntmps61, List.size_toArray, List.length_cons, List.length_nil, Nat.reduceAdd, Nat.reduceSub, Array.replicate_succ, Array.replicate_zero, List.push_toArray, List.append_toArray, List.nil_append, List.cons_append]
  refine wpIn_wide.2 ?_
  go_wp2_with fail
  refine HK.out.mono ?_
  rintro e w2 ⟨rfl, hb2⟩
  have HB2 := hide hb2
  have C2 := hide (C1.out.later hb2)
  have X2 := hide (X1.out.later hb2)
  clear hb2 HK x1
  obtain ⟨W3, hW3⟩ : ∃ W3, w2.alloc (.cells #[.int .i64 p.1, .int .i64 p.2] 148) = W3 := ⟨_, rfl⟩
  have B3 : Hid (Below w2.heap.size w2 W3) := hide (by rw [← hW3]; exact (Below.refl _ _).alloc (Nat.le_refl _) _)
  have K3 : Hid (W3.heap[w2.heap.size]? = some (.cells #[.int .i64 p.1, .int .i64 p.2] 148 (0, 0))) := hide (by rw [← hW3]; exact alloc_newV w2 _)
  have Z3 : Hid (W3.heap.size = w2.heap.size + 1) := hide (by rw [← hW3]; simp)
  obtain ⟨W4, hW4⟩ : ∃ W4, W3.alloc (.cells #[.int .i64 0] 3) = W4 := ⟨_, rfl⟩
  have B4 : Hid (Below W3.heap.size W3 W4) := hide (by rw [← hW4]; exact (Below.refl _ _).alloc (Nat.le_refl _) _)
  have F4 : Hid (Box W4 W3.heap.size 3 (.int .i64 0)) := hide (by rw [← hW4]; exact Box.new W3 _ _)
  have X4 := hide ((X2.out.later B3.out).later B4.out)
  have x4 : (W3.alloc (.cells #[.int .i64 0] 3)).cell? ⟨w.heap.size, 0, none⟩ = some (.pointer (some ⟨cb, 0, none⟩)) := by rw [hW4]; exact X4.out.cell
  have HW4 := hide hW4
  clear hW4
  have KR3 : Hid (∀ v, W3.cell? ⟨cb, 0, none⟩ = some v → v.ownBlock ≠ some w2.heap.size) := hide (fun v hv e => by
    rw [B3.out.cell (p := ⟨cb, 0, none⟩) C2.out.lt] at hv
    obtain ⟨_, v', em, hh, ho, _⟩ := C2.out
    have : w2.cell? ⟨cb, 0, none⟩ = some v' := by rw [cell_of_row w2 cb 0 _ _ _ hh]; rfl
    rw [this] at hv
    cases hv
    have := (ho.lt e).2
    omega)
  go_wp2_with (refine wpList_store_row rfl 148 _ _ rfl w2.heap.size #[.int .i64 p.1, .int .i64 p.2] rfl rfl _ _ (alloc_newV w2 _) Tryz.sizeVerI rfl (by simp [Value.oneCell']) ?_; rw [World.setRow_alloc_new])
  refine (all_any cb _).mono ?_
  rintro e w5 ⟨rfl, rfl⟩
  rw [HW4.out]
  have B5 : Hid (Below W4.heap.size W4 (W4.alloc (.cells #[.pointer (some ⟨cb, 0, none⟩)] 66))) := hide ((Below.refl _ _).alloc (Nat.le_refl _) _)
  have BC5 := hide (Box.new W4 66 (.pointer (some ⟨cb, 0, none⟩)))
  have Z1 := hide HB1.out.size
  have Z2 := hide HB2.out.size
  have X1L := hide X1.out.lt
  have P5 : Hid (PI w w.heap.size w2.heap.size W3.heap.size W4.heap.size B cb L p 0 (W4.alloc (.cells #[.pointer (some ⟨cb, 0, none⟩)] 66))) := hide (by
    have b14 : Below w2.heap.size w2 W4 := B3.out.trans (B4.out.mono B3.out.size)
    have b15 := b14.trans (B5.out.mono b14.size)
    have bw : Below w.heap.size w (W4.alloc (.cells #[.pointer (some ⟨cb, 0, none⟩)] 66)) := (HB1.out.trans (HB2.out.mono HB1.out.size)).trans (b15.mono (Nat.le_trans HB1.out.size HB2.out.size))
    have b35 := B4.out.trans (B5.out.mono B4.out.size)
    have l4 := F4.out.lt
    have l1 := X1L.out
    have z3 := Z3.out
    have z1 := Z1.out
    have z2 := Z2.out
    have hcl := HCL.out
    refine ⟨C2.out.later b15, X2.out.later b15, (b35.block _ (by omega)).trans K3.out, fun v hv => KR3.out v (by rw [← b35.cell (p := ⟨cb, 0, none⟩) (show cb < _ by omega)]; exact hv), F4.out.later B5.out, BC5.out, (Fr.refl w cb).later HCL.out bw, ?_⟩
    omega)
  have ZL : Hid (w.heap.size ≤ (W4.alloc (.cells #[.pointer (some ⟨cb, 0, none⟩)] 66)).heap.size ∧ w2.heap.size < (W4.alloc (.cells #[.pointer (some ⟨cb, 0, none⟩)] 66)).heap.size ∧ W3.heap.size < (W4.alloc (.cells #[.pointer (some ⟨cb, 0, none⟩)] 66)).heap.size ∧ cb < (W4.alloc (.cells #[.pointer (some ⟨cb, 0, none⟩)] 66)).heap.size) := hide (by
    have l4 := F4.out.lt
    have l1 := X1L.out
    have z3 := Z3.out
    have z1 := Z1.out
    have z2 := Z2.out
    have hcl := HCL.out
    have z5 : (W4.alloc (.cells #[.pointer (some ⟨cb, 0, none⟩)] 66)).heap.size = W4.heap.size + 1 := by simp
    omega)
  clear B5 BC5 x4 X4 F4 B4 K3 KR3 B3 X2 C2 HB2 HB1 C1 X1 Z1 Z2 X1L Z3 HW4 hW3 hW1
  generalize W4.alloc (.cells #[.pointer (some ⟨cb, 0, none⟩)] 66) = W5 at *
  obtain ⟨bx, hbx⟩ : ∃ bx, bx = w.heap.size := ⟨_, rfl⟩
  rw [← hbx] at P5 ⊢
  have HBX := hide hbx
  clear hbx
  obtain ⟨bk, hbk⟩ : ∃ bk, bk = w2.heap.size := ⟨_, rfl⟩
  rw [← hbk] at P5 ZL ⊢
  clear hbk
  obtain ⟨bf, hbf⟩ : ∃ bf, bf = W3.heap.size := ⟨_, rfl⟩
  rw [← hbf] at P5 ZL ⊢
  clear hbf
  obtain ⟨bc, hbc⟩ : ∃ bc, bc = W4.heap.size := ⟨_, rfl⟩
  rw [← hbc] at P5 ⊢
  clear hbc
  go_wp2_with fail
  have HSQ := hide (all_leans 8 (by omega) bc bf B cb L HRI.out HPO.out (by have := HLL.out; omega) W5 ZL.out.2.2.2 ZL.out.2.2.1)
  refine (wpIn_wide (n := 9)).1 ?_
  refine' loop_leans (F := Fence.wide) (n := 9) rfl (by omega) (gf := 105) (lb := #[.pointer (some ⟨bc, 0, none⟩)]) rfl trivial (enters_of Tryz.func105 (by kernel_rfl) rfl) HSQ.out (fun h k => h.trans k) (fun W l o o' hl h ho _ => KpP.put h ho (by have := ZL.out; omega) o') (fun _ => rfl)
    (fun s V => s.length ≤ m ∧ bk < V.heap.size ∧ PI w bx bk bf bc B cb L p s.length V)
    (fun c _ V => c = .exit 0 ∧ PI w bx bk bf bc B cb L p m V)
    (fun s V hs => ⟨hs.2.2.ch, hs.2.2.bxc.cell⟩)
    (fun s A C row hs hg hr => ⟨hs.1, Nat.lt_of_lt_of_le hs.2.1 hg.size, hs.2.2.grown ZL.out.1 hg hr⟩)
    (fun _ s A C row hs hg hr => ⟨hs.1, hs.2.grown ZL.out.1 hg hr⟩)
    ⟨Nat.zero_le _, ZL.out.2.1, P5.out⟩ _ ?assign ?body ?done ?stop
  case assign =>
    intro l x W K hK
    dsimp only [encP]
    gi_wp2
    exact hK
  case body =>
    rintro l s x W ⟨hs1, hs2, hP⟩ ⟨_, hx⟩
    have P0 := hide hP
    have c0 := hP.box.cell
    have c1 : W.cell? ⟨bk, 0, none⟩ = some (.int .i64 p.1) := by rw [cell_of_row W bk 0 _ _ _ hP.keep]; rfl
    have HX := hide hx
    have HS1 := hide hs1
    have HS2 := hide hs2
    clear hP hx hs1 hs2
    by_cases hxp : x.1 = p.1
    · have hkm : s.length = m := HRI.out.inj HX.out HPP.out hxp
      have P1 : Hid (PI w bx bk bf bc B cb L p m W) := hide (by rw [← hkm]; exact P0.out)
      have d1 : (x.1 == p.1) = true := by rw [hxp]; simp
      clear hkm P0
      gi_wp2
      exact ⟨KeepsFrom.refl _ _, rfl, P1.out⟩
    · have d1 : (x.1 == p.1) = false := by simp [hxp]
      have hkm : s.length < m := by
        rcases Nat.lt_or_ge s.length m with h | h
        · exact h
        · have e : s.length = m := Nat.le_antisymm HS1.out h
          have h1 := HX.out
          rw [e, HPP.out] at h1
          cases h1
          exact absurd rfl hxp
      have HKM := hide hkm
      have HFG := hide (forget_any B cb x (L.drop (s.length + 1)) W (by rw [← drop_step HX.out]; exact P0.out.ch) (by rw [List.length_drop]; have := HML.out; omega) (by rw [List.length_drop]; have := HLL.out; omega))
      clear hkm hxp
      gi_wp2
      refine ⟨trivial, (CallsIn.inRound l (callsIn_wide.2 HFG.out)).mono ?_⟩
      rintro e W6 ⟨⟨v6, rfl⟩, hc6, hf6⟩
      obtain ⟨r6, p6, k6⟩ := P0.out.pop hc6 hf6 HS2.out
      have HKF : Hid (KeepsFrom W5.heap.size W (W6.setCell ⟨bf, 0, none⟩ (.int .i64 ((s.length : Int) + 1)))) := hide ⟨k6.size, fun g o _ hg ho => by
        have hcb : g ≠ cb := fun e => by
          obtain ⟨_, v, em, hh, _⟩ := P0.out.ch
          rw [e, hh] at hg; cases hg; cases ho
        have hrow := P0.out.ch.row_no hg ho
        have h6 := (hf6.block g (Array.getElem?_eq_some_iff.1 hg).1 hcb hrow).trans hg
        refine (Below.heap_setCell _ _ _ g (fun e => ?_)).trans h6
        have r6' : W6.heap[bf]? = some (.cells #[.int .i64 (s.length : Int)] 3 (0, 0)) := r6
        rw [show g = bf from e, r6'] at h6
        cases h6; cases ho⟩
      have P6 := hide p6
      have K6 := hide k6
      have e0 := r6.cell
      have e1 := r6.frozen
      have HZ6 : Hid (bk < (W6.setCell ⟨bf, 0, none⟩ (.int .i64 ((s.length : Int) + 1))).heap.size) := hide (by rw [size_set]; exact Nat.lt_of_lt_of_le HS2.out hf6.size)
      have wk : wrap64 ((s.length : Int) + 1) = (s.length : Int) + 1 := by have := HLL.out; have := HML.out; have := HKM.out; unfold wrap64; omega
      obtain ⟨ki, hki⟩ : ∃ ki, ki = (s.length : Int) := ⟨_, rfl⟩
      rw [← hki] at P6 K6 HKF e0 HZ6 wk
      clear r6 p6 k6 hc6 hf6 c0 c1 hki HFG
      gi_wp2
      exact ⟨HKF.out, K6.out, by rw [List.length_append]; exact HKM.out, HZ6.out, by rw [List.length_append]; exact P6.out⟩
  case done =>
    rintro D s W hD rfl ⟨hs1, _, _⟩ hK
    have := HML.out
    omega
  case stop =>
    rintro D c s W hD _ ⟨rfl, hP⟩ hK
    have c0 := hP.cnt.cell
    have P7 := hide hP
    have HKD := hide hK
    have HDD := hide hD
    clear hP hK hD P5 HSQ
    refine wpIn_wide.2 ?_
    go_wp2_with fail
    have PZ := P7.out.grown (D := W5.heap.size) ZL.out.1 (grownBy_putObj' W D (.deferred none)) (fun r e => by cases e; exact ⟨HDD.out, _, HKD.out, rfl⟩)
    refine ⟨by simp, .inl ⟨_, _, rfl, run_takeDeferred HKD.out, ?_⟩⟩
    exact ⟨.int .i64 (m : Int), results_tmp (fn := Tryz.f61) (t := 4) rfl _ _ _, rfl, PZ.ch, PZ.fr⟩
/-- A pruning that forgets what is below what counts at n. -/
theorem prune_yes (n : Int) (B cb m : Nat) (L : List Ver) (p : Ver) (w : World) (h : CH w B cb L) (hr : Ris L) (hpos : ∀ p ∈ L, 0 ≤ p.1) (hl : L.length ≤ 5864062014804) (h0 : ab n L = m + 1) (hp : L[m]? = some p) :
    Calls Tryz.prog 61 #[.pointer (some ⟨cb, 0, none⟩), .int .i64 n] w fun e w' => e = .returned (.int .i64 (m : Int)) ∧ CH w' B cb (L.drop m) ∧ Fr w w' cb :=
  callsIn_wide.1 (prune_in n B cb m L p w h hr hpos hl h0 hp)
set_option maxRecDepth 100000 in
set_option maxHeartbeats 1000000 in
/-- Nothing counts at n. -/
theorem prune_no (n : Int) (B cb : Nat) (L : List Ver) (w : World) (h : CH w B cb L) (hr : Ris L) (hl : L.length ≤ 4611686018427387904) (h0 : ab n L = 0) :
    Calls Tryz.prog 61 #[.pointer (some ⟨cb, 0, none⟩), .int .i64 n] w fun e w' => e = .returned (.int .i64 0) ∧ Below w.heap.size w w' := by
  obtain ⟨W1, hW1⟩ : ∃ W1, w.alloc (.cells #[.pointer (some ⟨cb, 0, none⟩)] 66) = W1 := ⟨_, rfl⟩
  have hb1 : Below w.heap.size w W1 := by rw [← hW1]; exact (Below.refl _ _).alloc (Nat.le_refl _) _
  have x1 : W1.cell? ⟨w.heap.size, 0, none⟩ = some (.pointer (some ⟨cb, 0, none⟩)) := by rw [← hW1]; exact (Box.new w _ _).cell
  have HB1 := hide hb1
  have HK := hide (counts_no n B cb L W1 (h.later hb1) hr hl h0)
  clear h hr hl h0 hb1
  go_enter Tryz.func61, Tryz.ntmps61
  go_wp2_with fail
  refine HK.out.mono ?_
  rintro e w2 ⟨rfl, hb2⟩
  have B3 : Hid (Below w.heap.size w (w2.alloc (.cells #[.int .i64 0, .int .i64 0] 148))) := hide ((HB1.out.trans (hb2.mono HB1.out.size)).alloc (by have := HB1.out.size; have := hb2.size; omega) _)
  clear hb2 HK x1
  go_wp2_with (refine wpList_store_row rfl 148 _ _ rfl w2.heap.size #[.int .i64 0, .int .i64 0] rfl rfl _ _ (alloc_newV w2 _) Tryz.sizeVerI rfl (by simp [Value.oneCell']) ?_; rw [World.setRow_alloc_new])
  go_ret
  exact ⟨rfl, B3.out⟩
end Go.Proofs.YtehacdijleommaaGreatDoor.CI
namespace Go.Proofs.YtehacdijleommaaGreatDoor.CI
open Go.RowKit Go.Shelf

/-- What is known of the versions behind k acts. -/
structure LK (L : List Ver) (k : Nat) : Prop where
  ris : Ris L
  pos : ∀ p ∈ L, 0 ≤ p.1
  max : ∀ p ∈ L, p.1 ≤ 9223372036854775807
  len : L.length ≤ k
theorem LK.nil : LK [] 0 := ⟨trivial, fun p hp => (by cases hp), fun p hp => (by cases hp), Nat.le_refl _⟩
theorem LK.drop {L : List Ver} {k : Nat} (h : LK L k) (j : Nat) : LK (L.drop j) k :=
  ⟨h.ris.drop j, fun p hp => h.pos p (List.mem_of_mem_drop hp), fun p hp => h.max p (List.mem_of_mem_drop hp), by rw [List.length_drop]; have := h.len; omega⟩
theorem lastN_lo {L : List Ver} (h : ∀ p ∈ L, 0 ≤ p.1) : -1 ≤ lastN L := by
  rcases snoc_cases L with rfl | ⟨K, p, rfl⟩
  · rw [lastN_nil]; omega
  · rw [lastN_snoc]; have := h p (List.mem_append.2 (.inr (List.mem_singleton.2 rfl))); omega
/-- Any pruning. -/
theorem prune_any (n : Int) (B cb k : Nat) (L : List Ver) (w : World) (h : CH w B cb L) (hk : LK L k) (hl : k ≤ 5864062014804) :
    Calls Tryz.prog 61 #[.pointer (some ⟨cb, 0, none⟩), .int .i64 n] w fun e w' => e = .returned (.int .i64 ((ab n L - 1 : Nat) : Int)) ∧ CH w' B cb (L.drop (ab n L - 1)) ∧ Fr w w' cb := by
  have hlen := hk.len
  rcases Nat.eq_zero_or_pos (ab n L) with h0 | h0
  · refine (prune_no n B cb L w h hk.ris (by omega) h0).mono ?_
    rintro e w' ⟨rfl, hb⟩
    rw [h0]
    exact ⟨rfl, by rw [show 0 - 1 = 0 from rfl, List.drop_zero]; exact h.later hb, (Fr.refl w cb).later h.lt hb⟩
  · obtain ⟨m, hm⟩ : ∃ m, ab n L = m + 1 := ⟨ab n L - 1, by omega⟩
    have hlt : m < L.length := by have := ab_le n L; omega
    obtain ⟨p, hp⟩ : ∃ p, L[m]? = some p := ⟨_, List.getElem?_eq_getElem hlt⟩
    refine (prune_yes n B cb m L p w h hk.ris hk.pos (by omega) hm hp).mono ?_
    rintro e w' ⟨rfl, hc, hf⟩
    rw [hm, Nat.add_sub_cancel]
    exact ⟨rfl, hc, hf⟩
/-- Any Put. -/
theorem put_any (n : Int) (s : Int) (B cb k : Nat) (L : List Ver) (w : World) (h : CH w B cb L) (hk : LK L k) (hl : k ≤ 5864062014804) :
    Calls Tryz.prog 57 #[.pointer (some ⟨cb, 0, none⟩), .int .i64 n, .int .i64 s] w fun e w' => e = .returned (errV (if lastN L < n then 0 else 1)) ∧ CH w' B cb (if lastN L < n then L ++ [(n, s)] else L) ∧ Fr w w' cb := by
  have hlen := hk.len
  by_cases h0 : lastN L < n
  · rw [if_pos h0, if_pos h0, errV_zero]
    exact put_yes n s B cb L w h hk.ris hk.max (by omega) (by have := lastN_lo hk.pos; omega) (fun p hp => by rw [← lastN_at hp]; exact h0)
  · rw [if_neg h0, if_neg h0]
    refine (put_no n s B cb L w h hk.ris hk.max (by omega) ?_).mono ?_
    · rcases snoc_cases L with rfl | ⟨K, p, rfl⟩
      · rw [lastN_nil] at h0; exact .inl (by omega)
      · rw [lastN_snoc] at h0
        exact .inr ⟨p, by rw [List.length_append]; simp, by omega⟩
    · rintro e w' ⟨rfl, hb⟩
      exact ⟨rfl, h.later hb, (Fr.refl w cb).later h.lt hb⟩
end Go.Proofs.YtehacdijleommaaGreatDoor.CI
namespace Go.Proofs.YtehacdijleommaaGreatDoor.CI
open Go.RowKit Go.Shelf

theorem ab_none (q : Int) : ∀ (L : List Ver), (∀ p ∈ L, q < p.1) → ab q L = 0
  | [], _ => rfl
  | p :: r, h => by unfold ab; rw [if_pos (h p (List.mem_cons_self ..))]
theorem ab_drop (q : Int) : ∀ (L : List Ver) (m : Nat), Ris L → ab q (L.drop m) = ab q L - m
  | [], m, _ => by rw [List.drop_nil]; show 0 = 0 - m; omega
  | _ :: _, 0, _ => rfl
  | p :: r, m + 1, h => by
    have ih := ab_drop q r m h.2
    rw [List.drop_succ_cons, ih]
    by_cases hq : q < p.1
    · have h0 : ab q r = 0 := ab_none q r (fun a ha => by have := h.1 a ha; omega)
      have e : ab q (p :: r) = 0 := by rw [ab, if_pos hq]
      rw [e, h0]; omega
    · have e : ab q (p :: r) = ab q r + 1 := by rw [ab, if_neg hq]
      rw [e]; omega
theorem ab_mono {n q : Int} (h : n ≤ q) : ∀ L : List Ver, ab n L ≤ ab q L
  | [] => Nat.le_refl _
  | p :: r => by
    have ih := ab_mono h r
    by_cases h1 : n < p.1
    · rw [ab, if_pos h1]; exact Nat.zero_le _
    · rw [ab, if_neg h1, ab, if_neg (by omega)]; omega
/-- What counts at q, its text, and whether there is one. -/
def atS (q : Int) (L : List Ver) : Int := if ab q L = 0 then 0 else match L[ab q L - 1]? with | some p => p.2 | none => 0
def atB (q : Int) (L : List Ver) : Bool := decide (0 < ab q L)
theorem atq_any (q : Int) (B cb : Nat) (L : List Ver) (w : World) (h : CH w B cb L) (hr : Ris L) (hl : L.length ≤ 4611686018427387904) :
    Calls Tryz.prog 59 #[.pointer (some ⟨cb, 0, none⟩), .int .i64 q] w fun e w' => e = .returned (.tuple #[.int .i64 (atS q L), .bool (atB q L)]) ∧ Below w.heap.size w w' := by
  by_cases h0 : ab q L = 0
  · have e1 : atS q L = 0 := by unfold atS; rw [if_pos h0]
    have e2 : atB q L = false := by unfold atB; rw [h0]; rfl
    rw [e1, e2]
    exact at_no q B cb L w h hr hl h0
  · obtain ⟨k, hk⟩ : ∃ k, ab q L = k + 1 := ⟨ab q L - 1, by omega⟩
    have hlt : k < L.length := by have := ab_le q L; omega
    obtain ⟨p, hp⟩ : ∃ p, L[k]? = some p := ⟨_, List.getElem?_eq_getElem hlt⟩
    have e1 : atS q L = p.2 := by unfold atS; rw [if_neg h0, hk, Nat.add_sub_cancel, hp]
    have e2 : atB q L = true := by unfold atB; rw [hk]; simp
    rw [e1, e2]
    exact at_yes q B cb L k p w h hr hl hk hp
theorem atS_pr {n q : Int} {L : List Ver} (hr : Ris L) (h : n ≤ q) : atS q (L.drop (ab n L - 1)) = atS q L ∧ atB q (L.drop (ab n L - 1)) = atB q L := by
  have h1 := ab_mono h L
  have h2 := ab_drop q L (ab n L - 1) hr
  rcases Nat.eq_zero_or_pos (ab n L) with h0 | h0
  · rw [h0, show 0 - 1 = 0 from rfl, List.drop_zero]; exact ⟨rfl, rfl⟩
  · unfold atS atB
    rw [h2, if_neg (show ¬ ab q L - (ab n L - 1) = 0 by omega), if_neg (show ¬ ab q L = 0 by omega), List.getElem?_drop, show ab n L - 1 + (ab q L - (ab n L - 1) - 1) = ab q L - 1 by omega]
    exact ⟨rfl, by rw [decide_eq_true (show 0 < ab q L - (ab n L - 1) by omega), decide_eq_true (show 0 < ab q L by omega)]⟩
theorem atB_pr {q : Int} {L : List Ver} (hr : Ris L) (m : Nat) (h : atB q (L.drop m) = true) : atB q L = true := by
  unfold atB at h ⊢
  rw [ab_drop q L m hr] at h
  have := of_decide_eq_true h
  exact decide_eq_true (by omega)
/-- The last one. -/
def laP (L : List Ver) : Ver := match L[L.length - 1]? with | some p => p | none => (0, 0)
def laB (L : List Ver) : Bool := decide (0 < L.length)
theorem lastq_any (B cb : Nat) (L : List Ver) (w : World) (h : CH w B cb L) (hr : Ris L) (hm : ∀ p ∈ L, p.1 ≤ 9223372036854775807) (hl : L.length ≤ 4611686018427387904) :
    Calls Tryz.prog 60 #[.pointer (some ⟨cb, 0, none⟩)] w fun e w' => e = .returned (.tuple #[.int .i64 (laP L).2, .int .i64 (laP L).1, .bool (laB L)]) ∧ Below w.heap.size w w' := by
  rcases Nat.eq_zero_or_pos L.length with h0 | h0
  · obtain rfl := List.eq_nil_of_length_eq_zero h0
    exact last_no B cb [] w h hr hl rfl
  · obtain ⟨k, hk⟩ : ∃ k, L.length = k + 1 := ⟨L.length - 1, by omega⟩
    obtain ⟨p, hp⟩ : ∃ p, L[k]? = some p := ⟨_, List.getElem?_eq_getElem (by omega)⟩
    have e1 : laP L = p := by unfold laP; rw [hk, Nat.add_sub_cancel, hp]
    have e2 : laB L = true := decide_eq_true h0
    rw [e1, e2]
    exact last_yes B cb L k p w h hr hl (by rw [ab_max L hm]; exact hk) hp
theorem la_pr {L : List Ver} {m : Nat} (h : m = 0 ∨ m < L.length) : laP (L.drop m) = laP L ∧ laB (L.drop m) = laB L := by
  rcases h with rfl | h
  · rw [List.drop_zero]; exact ⟨rfl, rfl⟩
  · unfold laP laB
    rw [List.getElem?_drop, List.length_drop, show m + (L.length - m - 1) = L.length - 1 by omega]
    exact ⟨rfl, by rw [decide_eq_true (show 0 < L.length - m by omega), decide_eq_true (show 0 < L.length by omega)]⟩
theorem m_ok (n : Int) (L : List Ver) : ab n L - 1 = 0 ∨ ab n L - 1 < L.length := by have := ab_le n L; omega
/-- Rows of two chains are not one. -/
def Ap (c d : Nat) (W : World) : Prop := ∀ v v', W.cell? ⟨c, 0, none⟩ = some v → W.cell? ⟨d, 0, none⟩ = some v' → ∀ g, v.ownBlock = some g → v'.ownBlock ≠ some g
theorem Ap.symm {c d : Nat} {W : World} (h : Ap c d W) : Ap d c W := fun v v' hv hv' g hg e => h v' v hv' hv g e hg
theorem Ap.same {c d : Nat} {W W' : World} (h : Ap c d W) (e1 : W'.cell? ⟨c, 0, none⟩ = W.cell? ⟨c, 0, none⟩) (e2 : W'.cell? ⟨d, 0, none⟩ = W.cell? ⟨d, 0, none⟩) : Ap c d W' := fun v v' hv hv' => h v v' (by rw [← e1]; exact hv) (by rw [← e2]; exact hv')
theorem CH.row_in {W : World} {B cb : Nat} {L : List Ver} (h : CH W B cb L) : ∀ v, W.cell? ⟨cb, 0, none⟩ = some v → ∀ g, v.ownBlock = some g → B ≤ g ∧ g < W.heap.size := by
  intro v hv g hg
  obtain ⟨_, v', em, hh, ho, _⟩ := h
  have : W.cell? ⟨cb, 0, none⟩ = some v' := by rw [cell_of_row W cb 0 _ _ _ hh]; rfl
  rw [this] at hv
  cases hv
  exact ho.lt hg
/-- Another chain than the one that is changed. -/
theorem CH.other {W W' : World} {B B' c d : Nat} {X Y : List Ver} (hf : Fr W W' c) (hx : CH W B c X) (hy : CH W B' d Y) (hne : c ≠ d) (hap : Ap c d W) : CH W' B' d Y ∧ W'.cell? ⟨d, 0, none⟩ = W.cell? ⟨d, 0, none⟩ ∧ Ap c d W' := by
  have hin := hy.row_in
  obtain ⟨q1, v, em, hh, ho, hn⟩ := id hy
  obtain ⟨_, vx, ex, hxx, _, _⟩ := id hx
  have hd : W'.heap[d]? = W.heap[d]? := hf.block d hy.lt (Ne.symm hne) (hx.row_ne hh (by decide))
  have hc : W.cell? ⟨d, 0, none⟩ = some v := by rw [cell_of_row W d 0 _ _ _ hh]; rfl
  have hcd : W'.cell? ⟨d, 0, none⟩ = W.cell? ⟨d, 0, none⟩ := by unfold World.cell?; rw [hd]
  refine ⟨⟨q1, v, em, hd.trans hh, ho.kept (fun g hg => hf.block g (hin v hc g hg).2 (fun e => ?_) (fun u hu e => hap u v hu hc g e hg)), hn⟩, hcd, fun u u' hu hu' g hg e => ?_⟩
  · exact hy.row_ne hxx (by decide) v hc (by rw [← e]; exact hg)
  · rw [hcd] at hu'
    rcases hf.row u hu g hg with q | ⟨u0, hu0, q⟩
    · have := (hin u' hu' g e).2; omega
    · exact hap u0 u' hu0 hu' g q e
theorem cell_set {W : World} {b c : Nat} (hne : c ≠ b) (u : Value) : (W.setCell ⟨b, 0, none⟩ u).cell? ⟨c, 0, none⟩ = W.cell? ⟨c, 0, none⟩ := by unfold World.cell?; rw [Below.heap_setCell _ _ _ c hne]
end Go.Proofs.YtehacdijleommaaGreatDoor.CI
