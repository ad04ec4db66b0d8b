/-
  My own text: layer 23: (web).order.
-/
import Derived.Test.YtfhimhjeilnkaaaDoorLO1
namespace Go.Proofs.YtfhimhjeilnkaaaDoor
open Go.RowKit

/-- Block P is a row of these numbers. -/
def IZ (w : World) (P : Nat) (L : List Int) : Prop := w.rowIs P 3 L.length (fun j => .int .i64 (L.getD j 0))
theorem IZ.cell {w : World} {P : Nat} {L : List Int} (h : IZ w P L) {j : Nat} {x : Int} (hx : L[j]? = some x) : w.cell? ⟨P, j, none⟩ = some (.int .i64 x) := by
  have hj := (List.getElem?_eq_some_iff.1 hx).1
  rw [World.rowIs.cell h hj, List.getD_eq_getElem?_getD, hx]; rfl
theorem IZ.frozen {w : World} {P : Nat} {L : List Int} (h : IZ w P L) (j : Nat) : w.frozen? ⟨P, j, none⟩ = false := World.rowIs.frozen h j
theorem IZ.lt {w : World} {P : Nat} {L : List Int} (h : IZ w P L) : P < w.heap.size := World.rowIs.lt h
theorem IZ.set {w : World} {P : Nat} {L : List Int} (h : IZ w P L) (k : Nat) (x : Int) : IZ (w.setCell ⟨P, k, none⟩ (.int .i64 x)) P (L.set k x) := by
  have h2 := World.rowIs.set h k (.int .i64 x)
  unfold IZ
  rw [List.length_set]
  refine World.rowIs.congr h2 fun i hi => ?_
  by_cases e : i = k
  · subst e; rw [if_pos rfl, List.getD_eq_getElem?_getD, List.getElem?_set_self hi]; rfl
  · rw [if_neg e, List.getD_eq_getElem?_getD, List.getD_eq_getElem?_getD, List.getElem?_set_ne (fun q => e q.symm)]
theorem IZ.block {w w' : World} {P : Nat} {L : List Int} (h : IZ w P L) (e : w'.heap[P]? = w.heap[P]?) : IZ w' P L := World.rowIs.of_block h e
theorem IZ.later {w w' : World} {P : Nat} {L : List Int} (h : IZ w P L) (hb : Below w.heap.size w w') : IZ w' P L := h.block (hb.block P h.lt)
theorem IZ.made (w : World) (n : Nat) : IZ (w.alloc (.cells (madeCells #[.int .i64 0] n) 3)) w.heap.size (List.replicate n 0) := by
  have h := World.rowIs_made w (.int .i64 0) n 3
  unfold IZ
  rw [List.length_replicate]
  refine World.rowIs.congr h fun i hi => ?_
  rw [List.getD_eq_getElem?_getD, List.getElem?_replicate, if_pos hi]; rfl
/-- What is counted of a thing: -1, it stands; else from how many edges it waits. -/
def aF (E : List (Nat × Nat)) (row : List Nat) (y : Nat) : Int := if y ∈ row then -1 else (awt E row y : Int)
/-- .. while k edges from x are gone along. -/
def cF (E : List (Nat × Nat)) (row : List Nat) (x k : Nat) (y : Nat) : Int := if y ∈ row ++ [x] then -1 else (awt E row y : Int) - (((nx E x).take k).count y : Int)
/-- Nothing more urgent than the place at can stand. -/
def AtOk (L : List Nat) (f : Nat → Int) (at_ : Nat) : Prop := ∀ j x : Nat, j < at_ → L[j]? = some x → ¬ f x = 0
/-- The counts in a list. -/
structure AW (n : Nat) (A : List Int) (f : Nat → Int) : Prop where
  len : A.length = n
  at_ : ∀ x : Nat, x < n → A[x]? = some (f x)
theorem AW.set {n : Nat} {A : List Int} {f g : Nat → Int} (h : AW n A f) {x : Nat} {v : Int} (hv : g x = v) (ho : ∀ y, y ≠ x → g y = f y) : AW n (A.set x v) g := by
  refine ⟨by rw [List.length_set]; exact h.len, fun y hy => ?_⟩
  by_cases e : x = y
  · subst e; rw [List.getElem?_set_self (by rw [h.len]; exact hy), hv]
  · rw [List.getElem?_set_ne e, ho y (fun q => e q.symm)]; exact h.at_ y hy
theorem aF_bound (E : List (Nat × Nat)) (row : List Nat) (x : Nat) : -1 ≤ aF E row x ∧ aF E row x ≤ E.length := by
  unfold aF
  have h1 : awt E row x ≤ E.length := List.countP_le_length
  split <;> omega
/-- Edges into what stands come from what stands. -/
theorem Gr'.closed {n : Nat} {E : List (Nat × Nat)} {pr : Nat → Int} {A : List Nat} (h : Gr' n E pr A) : ∀ p ∈ E, p.2 ∈ A → p.1 ∈ A := by
  induction h with
  | nil => intro p _ hp; cases hp
  | @step row x hr hx ih =>
    intro p hp hm
    rw [List.mem_append] at hm ⊢
    rcases hm with hm | hm
    · exact .inl (ih p hp hm)
    · simp at hm
      have h0 := hx.1.2.2
      unfold awt at h0
      rw [List.countP_eq_zero] at h0
      have := h0 p hp
      rw [hm] at this
      simp at this
      exact .inl this
theorem aF_av {n : Nat} {E : List (Nat × Nat)} {row : List Nat} {x : Nat} (hx : x < n) : aF E row x = 0 ↔ Av n E row x := by
  unfold aF Av
  split
  · rename_i h
    exact ⟨fun e => by omega, fun e => absurd h e.2.1⟩
  · rename_i h
    exact ⟨fun e => ⟨hx, h, by omega⟩, fun e => by rw [e.2.2]; rfl⟩
theorem AtOk.nxt {n : Nat} {E : List (Nat × Nat)} {pr : Nat → Int} {row L : List Nat} {at_ x : Nat} (h : AtOk L (aF E row) at_) (hs : SI pr n L) (hr : Srt pr L 0 n) (hx : L[at_]? = some x) (h0 : aF E row x = 0) : Nxt n E pr row x := by
  have hxn := hs.lt _ _ hx
  refine ⟨(aF_av hxn).1 h0, fun y hy hne => ?_⟩
  obtain ⟨i, hi, hiy⟩ := hs.all hy.1
  have h1 : ¬ i < at_ := fun q => h i y q hiy ((aF_av hy.1).2 hy)
  have h2 : i ≠ at_ := fun q => hne (by rw [q, hx] at hiy; cases hiy; rfl)
  exact bf_of hs hr (by omega) hx hiy
theorem AtOk.skip {L : List Nat} {f : Nat → Int} {at_ x : Nat} (h : AtOk L f at_) (hx : L[at_]? = some x) (h0 : ¬ f x = 0) : AtOk L f (at_ + 1) := by
  intro j y hj hy
  by_cases e : j = at_
  · subst e; rw [hx] at hy; cases hy; exact h0
  · exact h j y (by omega) hy
theorem cF_zero {E : List (Nat × Nat)} {row : List Nat} {x y : Nat} (h : y ≠ x) : cF E row x 0 y = aF E row y := by
  unfold cF aF
  by_cases e : y ∈ row
  · rw [if_pos (List.mem_append_left _ e), if_pos e]
  · rw [if_neg (by simp [e, h]), if_neg e]; simp
theorem cF_self (E : List (Nat × Nat)) (row : List Nat) (x k : Nat) : cF E row x k x = -1 := by unfold cF; rw [if_pos (by simp)]
theorem AtOk.stand {E : List (Nat × Nat)} {row L : List Nat} {at_ x : Nat} (h : AtOk L (aF E row) at_) (hx : L[at_]? = some x) : AtOk L (cF E row x 0) (at_ + 1) := by
  intro j y hj hy
  by_cases e : y = x
  · subst e; rw [cF_self]; decide
  · rw [cF_zero e]
    refine h j y ?_ hy
    by_cases q : j = at_
    · subst q; rw [hx] at hy; cases hy; exact absurd rfl e
    · omega
theorem mem_nx {E : List (Nat × Nat)} {x y : Nat} : y ∈ nx E x ↔ (x, y) ∈ E := by
  unfold nx
  rw [List.mem_map]
  constructor
  · rintro ⟨p, hp, rfl⟩
    rw [List.mem_filter] at hp
    have := hp.2
    simp at this
    rw [← this]
    exact hp.1
  · intro h
    exact ⟨(x, y), List.mem_filter.2 ⟨h, by simp⟩, rfl⟩
/-- An edge from x leads tg one that still waits. -/
theorem cF_to {n : Nat} {E : List (Nat × Nat)} {pr : Nat → Int} {row : List Nat} {x k tg : Nat} (hg : Gr' n E pr row) (hx : Av n E row x) (hk : (nx E x)[k]? = some tg) :
    tg ∉ row ++ [x] ∧ 1 ≤ cF E row x k tg ∧ cF E row x k tg ≤ E.length ∧ cF E row x (k + 1) tg = cF E row x k tg - 1 ∧ ∀ y, y ≠ tg → cF E row x (k + 1) y = cF E row x k y := by
  have hm : (x, tg) ∈ E := mem_nx.1 (List.mem_of_getElem? hk)
  have h1 : tg ∉ row := fun q => hx.2.1 (hg.closed (x, tg) hm q)
  have h2 : tg ≠ x := fun q => by
    have h0 := hx.2.2
    unfold awt at h0
    rw [List.countP_eq_zero] at h0
    have h3 := h0 (x, tg) hm
    rw [q] at h3
    have h4 : row.contains x = false := by
      cases hc : row.contains x with
      | false => rfl
      | true => exact absurd (List.contains_iff_mem.1 hc) hx.2.1
    simp only [beq_self_eq_true, h4, Bool.not_false, Bool.and_self] at h3
    exact h3 trivial
  have hn : tg ∉ row ++ [x] := by simp [h1, h2]
  have ht : (nx E x).take (k + 1) = (nx E x).take k ++ [tg] := by rw [List.take_add_one, hk]; rfl
  have hc : ((nx E x).take (k + 1)).count tg ≤ (nx E x).count tg := List.Sublist.count_le tg (List.take_sublist ..)
  have hc2 : ((nx E x).take (k + 1)).count tg = ((nx E x).take k).count tg + 1 := by rw [ht, List.count_append]; simp
  have ha := awt_snoc E row x tg hx.2.1
  rw [← nx_count] at ha
  have hb : awt E row tg ≤ E.length := List.countP_le_length
  have hc' : (nx E x).count tg = ((E.filter fun p => p.1 == x).map (·.2)).count tg := rfl
  refine ⟨hn, ?_, ?_, ?_, fun y hy => ?_⟩
  · unfold cF; rw [if_neg hn]; omega
  · unfold cF; rw [if_neg hn]; omega
  · unfold cF; rw [if_neg hn, if_neg hn, hc2]; omega
  · unfold cF
    split
    · rfl
    · rw [ht, List.count_append]
      have : [tg].count y = 0 := by rw [List.count_singleton]; simp; exact fun q => hy q.symm
      rw [this]; simp
theorem cF_end {E : List (Nat × Nat)} {row : List Nat} {x : Nat} (hx : x ∉ row) (y : Nat) : cF E row x (nx E x).length y = aF E (row ++ [x]) y := by
  unfold cF aF
  split
  · rfl
  · rw [List.take_length, awt_snoc E row x y hx, ← nx_count]
    show ((_ + List.count y (nx E x) : Nat) : Int) - _ = _
    omega
theorem AtOk.go {L : List Nat} {f g : Nat → Int} {at_ tg at2 : Nat} (h : AtOk L f at_) (ho : ∀ y, y ≠ tg → g y = f y) (hle : at2 ≤ at_) (hz : g tg = 0 → ∀ j, L[j]? = some tg → at2 ≤ j) : AtOk L g at2 := by
  intro j y hj hy h0
  by_cases e : y = tg
  · subst e
    have := hz h0 j hy
    omega
  · rw [ho y e] at h0
    exact h j y (by omega) hy h0
theorem AtOk.last {n : Nat} {E : List (Nat × Nat)} {pr : Nat → Int} {row L : List Nat} (h : AtOk L (aF E row) n) (hs : SI pr n L) : ∀ y, ¬ Av n E row y := by
  intro y hy
  obtain ⟨i, hi, hiy⟩ := hs.all hy.1
  exact h i y hi hiy ((aF_av hy.1).2 hy)
theorem aF_nil (E : List (Nat × Nat)) (x : Nat) : aF E [] x = ((E.filter fun p => p.2 == x).length : Nat) := by
  unfold aF
  rw [if_neg (by simp), awt_nil]
/-- What is read along the way stays. -/
structure OX (w4 : World) (P n bx U K : Nat) (G : Bool → Nat) (V : Bool → Nat → Value) (E : List (Nat × Nat)) (L M : List Nat) (W : World) : Prop where
  b0 : W.cell? ⟨bx, 0, none⟩ = some (.slice (some ⟨G false, 0, none⟩) n n)
  b1 : W.cell? ⟨bx, 1, none⟩ = some (.slice (some ⟨G true, 0, none⟩) n n)
  g : ∀ s x, x < n → W.cell? ⟨G s, x, none⟩ = some (V s x)
  u : ∀ j x : Nat, L[j]? = some x → W.cell? ⟨U, j, none⟩ = some (.int .i64 (x : Int))
  k : ∀ j x : Nat, M[j]? = some x → W.cell? ⟨K, j, none⟩ = some (.int .i64 (x : Int))
  r : ∀ x j y : Nat, x < n → (nx E x)[j]? = some y → ∃ b off c, V false x = .slice (some ⟨b, off, none⟩) (nx E x).length c ∧ W.cell? ⟨b, off + j, none⟩ = some (.int .i64 (y : Int))
theorem ox_of {B0 : Nat} {w0 w4 W : World} {P n bx U K : Nat} {G : Bool → Nat} {V : Bool → Nat → Value} {E : List (Nat × Nat)} {L M : List Nat} (h : WV B0 w0 w4 G n V (XX E)) (hlo : ∀ s, G s < P) (hro : ∀ s x, x < n → ∀ g, (V s x).ownBlock = some g → g < P)
    (hb : w4.heap[bx]? = some (.cells #[.slice (some ⟨G false, 0, none⟩) n n, .slice (some ⟨G true, 0, none⟩) n n] 59 (0, 0))) (hbP : bx ≠ P) (hU : NV w4 U L) (hUP : U ≠ P) (hK : NV w4 K M) (hKP : K ≠ P) (hW : w4.grownBy W (some P)) :
    OX w4 P n bx U K G V E L M W := by
  have hk : ∀ b, b < w4.heap.size → b ≠ P → W.heap[b]? = w4.heap[b]? := fun b h1 h2 => hW.block b h1 (by intro q; injection q with q; exact h2 q)
  have hb' := (hk bx (Array.getElem?_eq_some_iff.1 hb).1 hbP).trans hb
  refine ⟨by rw [cell_of_row _ _ 0 _ _ _ hb']; rfl, by rw [cell_of_row _ _ 1 _ _ _ hb']; rfl, fun s x hx => ?_, fun j x hx => ?_, fun j x hx => ?_, fun x j y hx hy => ?_⟩
  · exact (World.cell?_of_block (a := ⟨G s, x, none⟩) (hk (G s) (h.lt s) (by have := hlo s; omega))).trans (h.cell s hx)
  · exact (hU.block (hk U hU.lt hUP)).cell hx
  · exact (hK.block (hk K hK.lt hKP)).cell hx
  · obtain ⟨a, c, e⟩ := h.sl false hx
    have ho := h.own false x hx
    obtain ⟨g, ⟨a', c', hv', _, hr⟩, hg⟩ := IN.OM.rg ho
    have hne : ni (XX E false x) ≠ [] := by
      intro q
      have hl := (List.getElem?_eq_some_iff.1 hy).1
      have : (ni (XX E false x)).length = 0 := by rw [q]; rfl
      rw [ni_len] at this
      have e2 : XX E false x = nx E x := rfl
      rw [e2] at this
      omega
    obtain ⟨off, rfl, hgl, hc⟩ := hr.resolve_left hne
    refine ⟨g, off, c', ?_, ?_⟩
    · rw [hv', ni_len]; rfl
    · have hgP : g ≠ P := by have := hro false x hx g (hg hne); omega
      exact (World.cell?_of_block (a := ⟨g, off + j, none⟩) (hk g hgl hgP)).trans (hc j _ (ni_at hy))
end Go.Proofs.YtfhimhjeilnkaaaDoor
