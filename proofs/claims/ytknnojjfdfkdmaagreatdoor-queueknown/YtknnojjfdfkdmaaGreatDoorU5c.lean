/-
  My own text: layer 19: a range over a function with a block a round (out of SK2); boxes (out of HC11); keys cloned (out of VS17).
-/
import Derived.Test.YtknnojjfdfkdmaaGreatDoorU5b
import Derived.Test.YtknnojjfdfkdmaaGreatDoorHR1
import Derived.Test.YtknnojjfdfkdmaaGreatDoorGAM
import Derived.RangeFuncNested
import Derived.RangeFuncBound
import Derived.RangeFuncCalls
import Derived.RangeFuncLeaves
import Derived.RangeFuncFrom
import Derived.Shelf.Abstract
import Derived.Shelf.RegionOpen
import Derived.WalkKit
import Derived.OwnWalkIn
import Derived.TacticsInMore
import Derived.LoopNIn
import Derived.LoopIn
import Derived.Lib.AppendZeros
namespace Go.Proofs.YtknnojjfdfkdmaaGreatDoor
open Go.RowKit

/-- The loop over such a walk, where a round lays what it is handed into a block of its own. -/
theorem loop_leansA {α : Type} {F : Fence} {n : Nat} {P : Program} {g : Operand} {ps : Array Tmp} {assign body : Code} {Q : Exit → Act → World → Prop} {a : Act} {w : World}
    (hro : F.round = none) (h1 : 1 ≤ n) {gf : Nat} {lb : Array Value} (hg : a.eval g = .func (.func gf) #[] lb) (hFg : F.fn gf) (eg : ∀ args w, (callFunc gf args).run P w = .ok (.enter gf args) w)
    {encs : α → Array Value} {H : List α → World → Prop} {Kp : World → World → Prop} {Ad : List α → α → Prop} {S Sp : List α → Prop} (hseq : Leans F (n - 1) P gf lb encs H Kp Ad S Sp w)
    (hKt : ∀ {A B C : World}, Kp A B → Kp B C → Kp A C) (hKb : ∀ (W : World) (l : Nat) (o o' : Obj), w.heap.size ≤ l → W.heap[l]? = some o → o.isCells = false → o.isWalk = false → Kp W (W.putObj l o')) (hKa : ∀ (W : World) (o : Obj), Kp W (W.alloc o)) (hps : ∀ x, (encs x).size = ps.size)
    (I : List α → World → Prop) (Ix : Code → List α → World → Prop) (hIH : ∀ s V, I s V → H s V) (hI : OwnFrom w.heap.size I) (hIx : ∀ c, OwnFrom w.heap.size (Ix c)) (h0 : I [] w) (a₁ : α → Nat → Act) (ob : α → Obj)
    (hassign : ∀ (l : Nat) (x : α) (W : World) (b : Nat) (K : Act → World → Prop), b = W.heap.size → K (a₁ x b) (W.alloc (ob x)) →
      assign.wpIn (F.inRound l) (n - 1 - 1) P (Exit.then K (fun _ _ _ => False)) { tmps := (ps.zip (encs x)).foldl (fun t (p, v) => t.setIfInBounds p v) a.tmps, defers := [] } W)
    (hbody : ∀ (l : Nat) (s : List α) (x : α) (b : Nat) (W : World), I s W → Ad s x → w.heap.size ≤ b → W.heap[b]? = some (ob x) → body.wpIn (F.inRound l) (n - 1 - 1) P (ownPostG w.heap.size Kp I Ix (s ++ [x]) W) (a₁ x b) W)
    (hdone : ∀ (D : Nat) (s : List α) (W : World), w.heap.size ≤ D → S s → I s W → W.heap[D]? = some (.deferred (some [])) → Q .normal { a with defers := { target := .collected D, args := #[] } :: a.defers } W)
    (hstop : ∀ (D : Nat) (c : Code) (s : List α) (W : World), w.heap.size ≤ D → Sp s → Ix c s W → W.heap[D]? = some (.deferred (some [])) → c.wpIn F n P Q { a with defers := { target := .collected D, args := #[] } :: a.defers } W) :
    (Code.rangeFunc g ps assign body).wpIn F n P Q a w := by
  refine wpIn_rangeFunc fun fn hfn => ?_
  rw [hro]
  have mk : ∃ mk : LoopState → Option Code → Loop, mk = fun st pe => { state := st, pending := pe, fn, tmps := a.tmps, params := ps, assign, body, defers := w.heap.size } := ⟨_, rfl⟩
  obtain ⟨mk, hmk⟩ := mk
  have v1 : ∃ V1, (w.alloc (.deferred (some []))).alloc (.loop (mk .ready none)) = V1 := ⟨_, rfl⟩
  obtain ⟨V1, hV1⟩ := v1
  have sz1 : V1.heap.size = w.heap.size + 1 + 1 := by rw [← hV1]; simp
  -- the two blocks of the loop's own, behind any number of rounds
  have two : ∀ {st : LoopState} {pe : Option Code} {A B : World} {row : Option Nat}, A.grownBy B row → (∀ r, row = some r → V1.heap.size ≤ r ∧ ∃ o : Obj, A.heap[r]? = some o ∧ o.isWalk = true) →
      A.heap[w.heap.size + 1]? = some (.loop (mk st pe)) ∧ A.heap[w.heap.size]? = some (.deferred (some [])) → B.heap[w.heap.size + 1]? = some (.loop (mk st pe)) ∧ B.heap[w.heap.size]? = some (.deferred (some [])) := by
    intro st pe A B row hgr hr hA
    exact ⟨(grownBy_keeps hgr (fun r e => (hr r e).2) hA.1 rfl).trans hA.1, (grownBy_keeps hgr (fun r e => (hr r e).2) hA.2 rfl).trans hA.2⟩
  have weak : ∀ {A : World} {row : Option Nat}, (∀ r, row = some r → V1.heap.size ≤ r ∧ ∃ o : Obj, A.heap[r]? = some o ∧ o.isWalk = true) → ∀ r, row = some r → w.heap.size ≤ r ∧ ∃ o : Obj, A.heap[r]? = some o ∧ o.isCells = false := by
    intro A row hr r e
    obtain ⟨q1, o, q2, q3⟩ := hr r e
    exact ⟨by omega, o, q2, Obj.not_cells_of_walk q3⟩
  have st1 : V1.heap[w.heap.size + 1]? = some (.loop (mk .ready none)) ∧ V1.heap[w.heap.size]? = some (.deferred (some [])) := by
    rw [← hV1]
    refine ⟨?_, (Below.heap_alloc _ _ _ (by simp)).trans (World.alloc_heap_new w _)⟩
    have := World.alloc_heap_new (w.alloc (.deferred (some []))) (.loop (mk .ready none))
    rwa [World.size_alloc] at this
  have b1 : Below w.heap.size w V1 := by rw [← hV1]; exact ((Below.refl _ w).alloc (Nat.le_refl _) _).alloc (by simp) _
  refine ⟨w.heap.size + 1, [{ target := .collected w.heap.size, args := #[] }], V1, { target := .fn (.func gf) lb, args := #[.func (.yield (w.heap.size + 1)) #[] #[]] }, V1, gf,
    #[.func (.yield (w.heap.size + 1)) #[] #[]] ++ lb, V1, by rw [← hV1, hmk]; exact run_enterLoop_outer _ _ _ _ _, by simp only [resolve, hg]; simp [go_sem], fun f' hf' => by simp [Target.leads] at hf'; subst hf'; exact hFg, by simp [invoke, go_sem, eg], fun _ => h1, ?_⟩
  refine (hseq (w.heap.size + 1) (fun s V => I s V ∧ V.heap[w.heap.size + 1]? = some (.loop (mk .ready none)) ∧ V.heap[w.heap.size]? = some (.deferred (some [])))
    (fun s V => ∃ c, Ix c s V ∧ V.heap[w.heap.size + 1]? = some (.loop (mk .done (some c))) ∧ V.heap[w.heap.size]? = some (.deferred (some [])))
    V1 b1 (fun s A B row hs hgr hr => ⟨hI s A B row hs.1 hgr (weak hr), two hgr hr hs.2⟩) (fun s V h => hIH s V h.1) (fun s x V hV hN => ?_) ⟨by rw [← hV1]; exact hI.alloc _ (hI.alloc _ h0), st1⟩).mono ?_
  · obtain ⟨hi, hl, hk⟩ := hV
    have hlt : w.heap.size + 1 < V.heap.size := (Array.getElem?_eq_some_iff.1 hl).1
    have hy := run_yield (P := P) (args := encs x) hl (by rw [hmk]; exact hps x)
    rw [hmk] at hy
    obtain ⟨Va, hVa⟩ : ∃ Va, V.alloc (ob x) = Va := ⟨_, rfl⟩
    have hla : Va.heap[w.heap.size + 1]? = some (.loop (mk .ready none)) := by rw [← hVa]; exact (Below.heap_alloc V _ _ hlt).trans hl
    have hka : Va.heap[w.heap.size]? = some (.deferred (some [])) := by rw [← hVa]; exact (Below.heap_alloc V _ _ (by omega)).trans hk
    have hia : I s Va := by rw [← hVa]; exact hI.alloc _ hi
    have hba : Va.heap[V.heap.size]? = some (ob x) := by rw [← hVa]; exact World.alloc_heap_new V _
    have hpa : Kp V Va := by rw [← hVa]; exact hKa _ _
    have hlta : w.heap.size + 1 < Va.heap.size := (Array.getElem?_eq_some_iff.1 hla).1
    refine ⟨fn, _, assign, body, hy, roundIn_of_wpIn hfn (hassign _ x V V.heap.size _ rfl ?_)⟩
    rw [hVa]
    refine ⟨_, run_beginRound hla (by rw [hmk]), ?_⟩
    obtain ⟨V2, hV2⟩ : ∃ V2, Va.putObj (w.heap.size + 1) (.loop { mk .ready none with state := .busy }) = V2 := ⟨_, rfl⟩
    have l2 : V2.heap[w.heap.size + 1]? = some (.loop { mk .ready none with state := .busy }) := by rw [← hV2]; exact World.putObj_heap_same hlta
    have k2 : V2.heap[w.heap.size]? = some (.deferred (some [])) := by rw [← hV2]; exact (World.putObj_heap_other (by omega)).trans hka
    have i2 : I s V2 := by rw [← hV2]; exact hI.putObj _ hia (by omega) hla rfl
    have p2 : Kp V V2 := by rw [← hV2]; exact hKt hpa (hKb _ _ _ _ (by omega) hla rfl rfl)
    have b2 : V2.heap[V.heap.size]? = some (ob x) := by rw [← hV2]; exact (World.putObj_heap_other (by omega)).trans hba
    rw [hV2]
    refine wpIn_mono (hbody _ s x V.heap.size _ i2 hN (by omega) b2) ?_
    -- the end of a round
    have fin : ∀ (jump : Option Code) (V3 : World), KeepsFrom w.heap.size V2 V3 → ∃ V4, V4 = V3.putObj (w.heap.size + 1) (.loop (mk (if jump.isNone then .ready else .done) jump)) ∧
        (Instr.endRound (w.heap.size + 1) jump).run P V3 = .ok (.bool jump.isNone) V4 ∧ V3.heap[w.heap.size + 1]? = some (.loop { mk .ready none with state := .busy }) ∧
        V4.heap[w.heap.size + 1]? = some (.loop (mk (if jump.isNone then .ready else .done) jump)) ∧ V4.heap[w.heap.size]? = some (.deferred (some [])) := by
      intro jump V3 hk3
      have l3 := hk3.same _ _ (by omega) l2 rfl
      have e3 := run_endRound (P := P) jump l3
      refine ⟨_, rfl, ?_, l3, World.putObj_heap_same (Array.getElem?_eq_some_iff.1 l3).1, (World.putObj_heap_other (by omega)).trans (hk3.same _ _ (Nat.le_refl _) k2 rfl)⟩
      rw [hmk] at e3 ⊢
      exact e3
    have out : ∀ (c : Code) (V3 : World), KeepsFrom w.heap.size V2 V3 → Ix c (s ++ [x]) V3 → ∃ r V4, (Instr.endRound (w.heap.size + 1) (some c)).run P V3 = .ok r V4 ∧ ((Ending.returned r = .returned (.bool true) ∧ (I (s ++ [x]) V4 ∧ V4.heap[w.heap.size + 1]? = some (.loop (mk .ready none)) ∧ V4.heap[w.heap.size]? = some (.deferred (some []))) ∧ Kp V V4) ∨ (Ending.returned r = .returned (.bool false) ∧ ∃ c, Ix c (s ++ [x]) V4 ∧ V4.heap[w.heap.size + 1]? = some (.loop (mk .done (some c))) ∧ V4.heap[w.heap.size]? = some (.deferred (some [])))) := by
      intro c V3 hk3 hi3
      obtain ⟨V4, e4, hr, hl3, hl4, hk4⟩ := fin (some c) V3 hk3
      exact ⟨_, _, hr, .inr ⟨rfl, c, by rw [e4]; exact (hIx c).putObj _ hi3 (by omega) hl3 rfl, hl4, hk4⟩⟩
    rintro e a3 V3 hp
    cases e with
    | normal =>
      obtain ⟨hk3, hkp3, hi3⟩ := hp
      obtain ⟨V4, e4, hr, hl3, hl4, hk4⟩ := fin none V3 hk3
      exact ⟨_, _, hr, .inl ⟨rfl, ⟨by rw [e4]; exact hI.putObj _ hi3 (by omega) hl3 rfl, hl4, hk4⟩, by rw [e4]; exact hKt (hKt p2 hkp3) (hKb _ _ _ _ (by omega) hl3 rfl rfl)⟩⟩
    | ret => exact out _ V3 hp.1 hp.2
    | exit id => exact out _ V3 hp.1 hp.2
    | goto t => exact out _ V3 hp.1 hp.2
    | panic ch => exact hp.elim
    | outgrown => exact hp.elim
  · rintro e V2 ⟨⟨v, rfl⟩, (⟨s, hS, hi, hl, hk⟩ | ⟨s, hS, c, hi, hl, hk⟩)⟩
    · have hr := run_endLoop (P := P) hl (by rw [hmk]; simp)
      rw [hmk] at hr
      exact ⟨none, _, hr, hdone _ s _ (Nat.le_refl _) hS (hI.putObj _ hi (by omega) hl rfl) ((World.putObj_heap_other (by omega)).trans hk)⟩
    · have hr := run_endLoop (P := P) hl (by rw [hmk]; simp)
      rw [hmk] at hr
      exact ⟨some c, _, hr, hstop _ c s _ (Nat.le_refl _) hS ((hIx c).putObj _ hi (by omega) hl rfl) ((World.putObj_heap_other (by omega)).trans hk)⟩
def Box (W : World) (b : Nat) (t : TypeId) (u : Value) : Prop := W.heap[b]? = some (.cells #[u] t (0, 0))
theorem Box.lt {W : World} {b : Nat} {t : TypeId} {u : Value} (h : Box W b t u) : b < W.heap.size := (Array.getElem?_eq_some_iff.1 h).1
theorem Box.later {W W' : World} {b : Nat} {t : TypeId} {u : Value} (h : Box W b t u) (hb : Below W.heap.size W W') : Box W' b t u := (hb.block b h.lt).trans h
theorem Box.cell {W : World} {b : Nat} {t : TypeId} {u : Value} (h : Box W b t u) : W.cell? ⟨b, 0, none⟩ = some u := by rw [cell_of_row W b 0 _ _ _ h]; rfl
theorem Box.frozen {W : World} {b : Nat} {t : TypeId} {u : Value} (h : Box W b t u) : W.frozen? ⟨b, 0, none⟩ = false := by
  have h' : W.heap[b]? = some (.cells #[u] t (0, 0)) := h
  unfold World.frozen?; simp [h']
theorem Box.new (W : World) (t : TypeId) (u : Value) : Box (W.alloc (.cells #[u] t)) W.heap.size t u := alloc_new W _
theorem Box.set {W : World} {b : Nat} {t : TypeId} {u : Value} (h : Box W b t u) (u' : Value) : Box (W.setCell ⟨b, 0, none⟩ u') b t u' := by
  unfold Box
  rw [setCell_eq_setRow W b 0 _ _ _ u' h]
  exact setRow_heap W b _ _ _ _ h
theorem Box.other {W : World} {b c : Nat} {t : TypeId} {u : Value} (h : Box W b t u) (hne : b ≠ c) (u' : Value) : Box (W.setCell ⟨c, 0, none⟩ u') b t u := (Below.heap_setCell _ _ _ b hne).trans h
theorem grown_cells {W W' : World} {row : Option Nat} (hg : W.grownBy W' row) (hr : ∀ r, row = some r → ∃ o : Obj, W.heap[r]? = some o ∧ o.isCells = false) {b : Nat} {c : Array Value} {t : TypeId} {fz : Nat × Nat} (h : W.heap[b]? = some (.cells c t fz)) : W'.heap[b]? = some (.cells c t fz) := by
  refine (hg.block b (Array.getElem?_eq_some_iff.1 h).1 (fun e => ?_)).trans h
  obtain ⟨o, ho, hc⟩ := hr b e.symm
  rw [h] at ho
  cases ho
  cases hc
theorem empty_own (w : World) (e : TypeId) (k : Nat) : (w.alloc (.cells #[] e)).ownsRow w.heap.size e k (.slice (some ⟨w.heap.size, 0, none⟩) 0 0) 0 [] :=
  ⟨by simp, .inr ⟨w.heap.size, 0, #[], rfl, Nat.le_refl _, alloc_new w _, Nat.le_refl _, by decide, by simp, by simp⟩⟩
set_option maxRecDepth 100000 in
set_option maxHeartbeats 1000000 in
set_option maxRecDepth 100000 in
set_option maxHeartbeats 1000000 in
theorem cloneK_any (v : Value) (L : List Ky) (w : World) (h : KY.RM w v L) (hl : L.length ≤ 8796093022000) :
    Calls Tryz.prog 45 #[v] w fun e w' => ∃ v', e = .returned v' ∧ KY.OM w' w.heap.size v' L ∧ Below w.heap.size w w' := by
  have qT : ∀ (w : World) (a : Option Addr) (n c n' c' : Nat), (binOp .eql 24 (.slice a n c) (.slice none n' c')).run Tryz.prog w = .ok (.bool a.isNone) w := fun w a n c n' c' => Lib.run_eql_slice_nil w _ _ a n c n' c' Tryz.underlying24
  obtain ⟨a, cap, hv⟩ := KY.rm_lt h
  subst hv
  cases a with
  | none =>
    have hL : L = [] := by
      obtain ⟨a, cap', hv, _, h2⟩ := h
      injection hv with e1 e2 e3
      subst e1
      exact h2.resolve_right (fun ⟨b, off, h, _⟩ => by cases h)
    subst hL
    have HR : Hid (KY.OM w w.heap.size (.slice none 0 0) []) := hide (KY.OM.nil w _)
    clear h
    go_enter Tryz.func45, Tryz.ntmps45
    go_wp2_with fail
    go_ret
    exact ⟨_, rfl, HR.out, Below.refl _ _⟩
  | some ad =>
    have b1 := (Below.refl w.heap.size w).alloc (Nat.le_refl _) (.cells #[] 23)
    have hE : KY.OM (w.alloc (.cells #[] 23)) w.heap.size (.slice (some ⟨w.heap.size, 0, none⟩) 0 0) [] := empty_own w _ _
    obtain ⟨v2, w2, hrun, hO, hg⟩ := KY.run_append_rm (w.alloc (.cells #[] 23)) w.heap.size 24 _ [] hE _ L (h.later b1) (by simp; omega) (by simp)
    rw [List.nil_append] at hO
    have HB := hide (b1.grown hg (by simp) (fun g e => (World.ownsRow.lt hE g e).1))
    have HR := hide hO
    obtain ⟨a2, c2, hv2⟩ := KY.rm_lt HR.out.rm
    subst hv2
    have HRN := hide hrun
    clear h b1 hE hrun hO hg
    go_enter Tryz.func45, Tryz.ntmps45
    go_wp2_with (at_builtin; refine Lib.wpList_append_run _ rfl _ _ _ _ rfl _ _ rfl rfl _ _ HRN.out ?_)
    go_ret
    exact ⟨_, rfl, HR.out, HB.out⟩
theorem grown_of_below {W W' : World} (hb : Below W.heap.size W W') : W.grownBy W' none := ⟨hb.os, hb.tape, hb.output, hb.size, fun k hk _ => hb.block k hk⟩
end Go.Proofs.YtknnojjfdfkdmaaGreatDoor
