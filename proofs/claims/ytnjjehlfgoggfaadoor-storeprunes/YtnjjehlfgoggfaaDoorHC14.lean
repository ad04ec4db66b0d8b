/-
  My own text: a walk over a chain of which each round forgets the first version.
-/
import Derived.Test.YtnjjehlfgoggfaaDoorHR1
import Derived.Test.YtnjjehlfgoggfaaDoorHC13
import Derived.Test.YtnjjehlfgoggfaaDoorHC11
namespace Go.Proofs.YtnjjehlfgoggfaaDoor
open Go.RowKit Go.Shelf

attribute [local go_sem] Oper.semAt_some

/-- How many versions a chain in memory has. -/
def chLen (cb : Nat) (W : World) : Nat := match W.cell? ⟨cb, 0, none⟩ with | some (.slice _ n _) => n | _ => 0
theorem CH.chLen {W : World} {B cb : Nat} {L : List Ver} (h : CH W B cb L) : chLen cb W = L.length := by
  obtain ⟨a, cap, c0, _⟩ := h.parts
  unfold Proofs.YtnjjehlfgoggfaaDoor.chLen; rw [c0]
theorem Ris.drop : ∀ {L : List Ver} (k : Nat), Ris L → Ris (L.drop k)
  | [], _, _ => by rw [List.drop_nil]; trivial
  | _ :: _, 0, h => h
  | _ :: r, k + 1, h => Ris.drop (L := r) k h.2
theorem drop_step {L : List Ver} {k : Nat} {p : Ver} (hp : L[k]? = some p) : L.drop k = p :: L.drop (k + 1) := by
  obtain ⟨hlt, e⟩ := List.getElem?_eq_some_iff.1 hp
  rw [List.drop_eq_getElem_cons hlt, e]
theorem ab_next {L : List Ver} {k : Nat} {p : Ver} (hr : Ris L) (hp : L[k]? = some p) : ab p.1 (L.drop (k + 1)) = 0 := by
  have h := hr.drop k
  rw [drop_step hp] at h
  cases hd : L.drop (k + 1) with
  | nil => rfl
  | cons a t =>
    rw [hd] at h
    unfold ab
    rw [if_pos (h.1 a (List.mem_cons_self ..))]
/-- What a round of Prune keeps: all cells but the chain's and one box. -/
structure KpP (cb bf : Nat) (A C : World) : Prop where
  size : A.heap.size ≤ C.heap.size
  cells : ∀ (g : Nat) (c : Array Value) (t : TypeId) (fz : Nat × Nat), A.heap[g]? = some (Obj.cells c t fz) → g ≠ cb → g ≠ bf → (∀ v, A.cell? ⟨cb, 0, none⟩ = some v → v.ownBlock ≠ some g) → C.heap[g]? = some (Obj.cells c t fz)
  row : ∀ v', C.cell? ⟨cb, 0, none⟩ = some v' → ∀ g, v'.ownBlock = some g → A.heap.size ≤ g ∨ ∃ v, A.cell? ⟨cb, 0, none⟩ = some v ∧ v.ownBlock = some g
theorem KpP.trans {cb bf : Nat} {A B C : World} (h : KpP cb bf A B) (k : KpP cb bf B C) : KpP cb bf A C := by
  refine ⟨Nat.le_trans h.size k.size, fun g c t fz hg h1 h2 h3 => k.cells g c t fz (h.cells g c t fz hg h1 h2 h3) h1 h2 (fun v hv e => ?_), fun v' hv' g hg => ?_⟩
  · rcases h.row v hv g e with q | ⟨u, hu, q⟩
    · have := (Array.getElem?_eq_some_iff.1 hg).1; omega
    · exact h3 u hu q
  · rcases k.row v' hv' g hg with q | ⟨u, hu, q⟩
    · exact .inl (Nat.le_trans h.size q)
    · exact h.row u hu g q
theorem cell_put {W : World} {l : Nat} {o' : Obj} {b : Nat} (hne : b ≠ l) (i : Nat) : (W.putObj l o').cell? ⟨b, i, none⟩ = W.cell? ⟨b, i, none⟩ := by
  unfold World.cell?
  rw [World.putObj_heap_other hne]
theorem KpP.put {cb bf l : Nat} {W : World} {o : Obj} (h : W.heap[l]? = some o) (ho : o.isCells = false) (hne : cb ≠ l) (o' : Obj) : KpP cb bf W (W.putObj l o') := by
  refine ⟨by simp, fun g c t fz hg _ _ _ => (World.putObj_heap_other (fun e => ?_)).trans hg, fun v' hv' g hg => ?_⟩
  · rw [e, h] at hg
    cases hg
    cases ho
  · rw [cell_put hne] at hv'
    exact .inr ⟨v', hv', hg⟩
def encP (p : Ver) : Array Value := #[.int .i64 p.1, .string ⟨p.2.toArray⟩]
set_option maxRecDepth 100000 in
set_option maxHeartbeats 4000000 in
theorem all_leans (n : Nat) (hn : 1 ≤ n) (bc bf B cb : Nat) (L : List Ver) (hr : Ris L) (hpos : ∀ p ∈ L, 0 ≤ p.1) (hlen : L.length ≤ 4611686018427387904) (w : World) (hcb : cb < w.heap.size) (hbf : bf < w.heap.size) :
    Leans Fence.wide n Tryd.prog 73 #[.pointer (some ⟨bc, 0, none⟩)] encP (fun s V => CH V B cb (L.drop s.length) ∧ V.cell? ⟨bc, 0, none⟩ = some (.pointer (some ⟨cb, 0, none⟩))) (KpP cb bf)
      (fun s x => s = L.take s.length ∧ L[s.length]? = some x) (fun s => s = L) (fun _ => True) w := by
  intro l J Jx W hW hJ0 hH hY h0
  have hJ : ∀ s A C, J s A → Below A.heap.size A C → J s C := fun s A C hs hb => hJ0 s A C none hs (grown_of_below hb) (fun r e => by cases e)
  have HA := hide (fun (q : Int) (k : Nat) (V : World) (h : CH V B cb (L.drop k)) => above_any q B cb (L.drop k) V h (hr.drop k) (by rw [List.length_drop]; omega))
  have hW0 := hide hW.size
  have hc0 := (hH _ _ h0).2
  have hC0 := (hH _ _ h0).1
  have qf := eqNilY l
  refine callsIn_of_wp Tryd.func73 rfl trivial ?_ rfl
  simp only [Tryd.ntmps73, List.size_toArray, List.length_cons, List.length_nil, Nat.reduceAdd, Nat.reduceSub, Array.replicate_succ, Array.replicate_zero, List.push_toArray, List.append_toArray, List.nil_append, List.cons_append]
  gi_wp2
  refine ⟨trivial, (callsIn_wide.2 (HA.out (-1) 0 W hC0)).mono ?_⟩
  rintro e w1 ⟨rfl, hb1⟩
  rw [List.drop_zero, ab_neg L hpos]
  have hJ1 := hide (hJ _ _ _ h0 hb1)
  have hS1 := hide hb1.size
  clear hb1 hc0 h0 hC0 hW
  gi_wp2
  gi_loopw [3] (fun i wr => ∃ k : Nat, k ≤ L.length ∧ i = .int .i64 0 ∧ Hid (J (L.take k) wr) ∧ Hid (W.heap.size ≤ wr.heap.size)) (fun _ wr => chLen cb wr)
  case atStart => exact ⟨0, Nat.zero_le _, rfl, hide (by rw [List.take_zero]; exact hJ1.out), hS1⟩
  case round =>
    obtain ⟨k, hk, rfl, HJ, HS⟩ := hrel
    have hHk := hH _ _ HJ.out
    rw [List.length_take, Nat.min_eq_left hk] at hHk
    have HC := hide hHk.1
    obtain ⟨a, cap, c0, hL⟩ := hHk.1.parts
    have cc := hHk.2
    clear hHk
    have HLN : Hid ((L.drop k).length = L.length - k) := hide (by rw [List.length_drop])
    by_cases hlt : k < L.length
    · obtain ⟨p, hp⟩ : ∃ p, L[k]? = some p := ⟨_, List.getElem?_eq_getElem hlt⟩
      obtain ⟨g, off, rfl, c1, c2⟩ := hL 0 p (by rw [List.getElem?_drop]; exact hp)
      rw [Nat.zero_mul, Nat.add_zero] at c1 c2
      have HR : Hid (wr.rangeAt g off (vrC p).toList) := hide (fun j u hj => by
        match j, hj with
        | 0, hj => cases hj; exact c1
        | 1, hj => cases hj; exact c2)
      have hn1 : 0 < (L.drop k).length := by rw [HLN.out]; omega
      have HCL := HC.out.chLen
      obtain ⟨n1, hn1e⟩ : ∃ n1, n1 = (L.drop k).length := ⟨_, rfl⟩
      rw [← hn1e] at c0 hn1 HCL
      have HN1 := hide hn1e
      clear hn1e
      have HCL := hide HCL
      have hd1 : decide ((0 : Int) < (n1 : Int)) = true := by rw [decide_eq_true_eq]; omega
      have k1 : (0 : Int) < (n1 : Int) := by omega
      have HP := hide hp
      have HB : Hid (∀ v, wr.cell? ⟨cb, 0, none⟩ = some v → ∀ b, v.ownBlock = some b → b < wr.heap.size) := hide (fun v hv b hb => by
        obtain ⟨_, v', em, hh, ho, _⟩ := HC.out
        have : wr.cell? ⟨cb, 0, none⟩ = some v' := by rw [cell_of_row wr cb 0 _ _ _ hh]; rfl
        rw [this] at hv
        cases hv
        exact (ho.lt hb).2)
      obtain ⟨W2, hW2⟩ : ∃ W2, wr.alloc (.cells #[.int .i64 p.1, .string ⟨p.2.toArray⟩] 92) = W2 := ⟨_, rfl⟩
      have hb2 : Below wr.heap.size wr W2 := by rw [← hW2]; exact (Below.refl _ _).alloc (Nat.le_refl _) _
      have hN2 : Hid (W2.heap[wr.heap.size]? = some (.cells #[.int .i64 p.1, .string ⟨p.2.toArray⟩] 92 (0, 0))) := hide (by rw [← hW2]; exact alloc_newV wr _)
      have b0 : W2.cell? ⟨wr.heap.size, 0, none⟩ = some (.int .i64 p.1) := by rw [cell_of_row _ _ _ _ _ _ hN2.out]; rfl
      have b1 : W2.cell? ⟨wr.heap.size, 1, none⟩ = some (.string ⟨p.2.toArray⟩) := by rw [cell_of_row _ _ _ _ _ _ hN2.out]; rfl
      have HB2 := hide hb2
      obtain ⟨fn, tmps, assign, body, hy, hR⟩ := hY (L.take k) p W2 (hJ _ _ _ HJ.out hb2) ⟨by rw [List.length_take, Nat.min_eq_left hk], by rw [List.length_take, Nat.min_eq_left hk]; exact hp⟩
      dsimp only [encP] at hy
      have HRR := hide hR
      clear hR hb2 hL c1 c2 hp hY
      gi_wp2_with (first
        | (refine wpListIn_load_mid rfl 92 _ rfl g off rfl (vrC p).toList _ HR.out Tryd.underlying92 rfl Tryd.sizeVer ?_; rw [Array.toArray_toList]; unfold vrC)
        | (refine wpListIn_store_row rfl 92 _ _ rfl wr.heap.size #[.int .i64 p.1, .string ⟨p.2.toArray⟩] rfl rfl _ _ (alloc_newV wr _) Tryd.sizeVer rfl (by simp [Value.oneCell']) ?_; rw [World.setRow_alloc_new]))
      refine HRR.out.mono ?_
      rintro e W3 (⟨rfl, hJ3, hk3⟩ | ⟨rfl, hJx3⟩)
      · have HJ3 : Hid (J (L.take (k + 1)) W3) := hide (by rw [List.take_add_one, HP.out]; exact hJ3)
        have hN3 := hk3.cells _ _ _ _ hN2.out (by have := HS.out; have := hW0.out; omega) (by have := HS.out; have := hW0.out; omega) (fun v hv e => by
          rw [HB2.out.cell (p := ⟨cb, 0, none⟩) (by have := HC.out.lt; exact this)] at hv
          have := HB.out v hv _ e; omega)
        have b3 : W3.cell? ⟨wr.heap.size, 0, none⟩ = some (.int .i64 p.1) := by rw [cell_of_row _ _ _ _ _ _ hN3]; rfl
        have hH3 := hH _ _ HJ3.out
        rw [List.length_take, Nat.min_eq_left (show k + 1 ≤ L.length by omega)] at hH3
        have c3 := hH3.2
        have HC3 := hide hH3.1
        have HZ3 : Hid (wr.heap.size < W3.heap.size) := hide (Array.getElem?_eq_some_iff.1 hN3).1
        clear hk3 hJ3 hN3 hW2 b0 b1 cc c0 hH3
        gi_wp2
        refine ⟨trivial, (callsIn_wide.2 (HA.out p.1 (k + 1) W3 HC3.out)).mono ?_⟩
        rintro e w4 ⟨rfl, hb4⟩
        rw [ab_next hr HP.out]
        have HJ4 : Hid (J (L.take (k + 1)) w4) := hide (hJ _ _ _ HJ3.out hb4)
        have HC4 := hide (HC3.out.later hb4)
        have HS4 : Hid (W.heap.size ≤ w4.heap.size) := hide (by have := HS.out; have := HZ3.out; have := hb4.size; omega)
        clear hb4
        gi_wp2
        go_roundw
        case rel => exact ⟨k + 1, by omega, by first | rfl | go_num, HJ4, HS4⟩
        case measure => rw [HC4.out.chLen, HCL.out, HN1.out, HLN.out, List.length_drop]; omega
      · have HX3 := hide hJx3
        clear hJx3
        gi_wp2
        refine bodyPost_ret (results_none rfl _ _ _) rfl ?_
        exact ⟨⟨_, rfl⟩, .inr ⟨_, trivial, HX3.out⟩⟩
    · have e : k = L.length := by omega
      subst e
      have e0 : (L.drop L.length).length = 0 := by simp
      rw [e0] at c0
      gi_wp2
      go_end0
      exact ⟨⟨_, rfl⟩, .inl ⟨L, rfl, by have := HJ.out; rw [List.take_length] at this; exact this⟩⟩
end Go.Proofs.YtnjjehlfgoggfaaDoor
