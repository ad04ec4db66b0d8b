/-
  My own text: a range over a function whose walk leans on what the rounds leave behind (H).
-/
import Derived.RangeFuncWrites
namespace Go.Proofs.YtehacdijleommaaGreatDoor
open Go.RowKit

/-- A walk that may lean on what holds between the rounds (H), and tells of each round what it hands (Ad). -/
def Leans {α : Type} (F : Fence) (n : Nat) (P : Program) (gf : Nat) (lb : Array Value) (encs : α → Array Value) (H : List α → World → Prop) (Kp : World → World → Prop) (Ad : List α → α → Prop) (S Sp : List α → Prop) (w : World) : Prop :=
  ∀ (l : Nat) (J Jx : List α → World → Prop) (W : World), Below w.heap.size w W → AbidesFrom W.heap.size J → (∀ s V, J s V → H s V) →
    (∀ s x V, J s V → Ad s x → YieldAt F (n - 1) P l (encs x) V fun e V' => (e = .returned (.bool true) ∧ J (s ++ [x]) V' ∧ Kp V V') ∨ (e = .returned (.bool false) ∧ Jx (s ++ [x]) V')) →
    J [] W → CallsIn F n P gf (#[.func (.yield l) #[] #[]] ++ lb) W fun e V => (∃ v, e = .returned v) ∧ ((∃ s, S s ∧ J s V) ∨ (∃ s, Sp s ∧ Jx s V))
/-- The loop over such a walk. -/
theorem loop_leans {α : Type} {F : Fence} {n : Nat} {P : Program} {g : Operand} {ps : Array Tmp} {assign body : Code} {Q : Exit → Act → World → Prop} {a : Act} {w : World}
    (hro : F.round = none) (h1 : 1 ≤ n) {gf : Nat} {lb : Array Value} (hg : a.eval g = .func (.func gf) #[] lb) (hFg : F.fn gf) (eg : ∀ args w, (callFunc gf args).run P w = .ok (.enter gf args) w)
    {encs : α → Array Value} {H : List α → World → Prop} {Kp : World → World → Prop} {Ad : List α → α → Prop} {S Sp : List α → Prop} (hseq : Leans F (n - 1) P gf lb encs H Kp Ad S Sp w)
    (hKt : ∀ {A B C : World}, Kp A B → Kp B C → Kp A C) (hKb : ∀ (W : World) (l : Nat) (o o' : Obj), w.heap.size ≤ l → W.heap[l]? = some o → o.isCells = false → o.isWalk = false → Kp W (W.putObj l o')) (hps : ∀ x, (encs x).size = ps.size)
    (I : List α → World → Prop) (Ix : Code → List α → World → Prop) (hIH : ∀ s V, I s V → H s V) (hI : OwnFrom w.heap.size I) (hIx : ∀ c, OwnFrom w.heap.size (Ix c)) (h0 : I [] w) (a₁ : α → Act)
    (hassign : ∀ (l : Nat) (x : α) (W : World) (K : Act → World → Prop), K (a₁ x) W →
      assign.wpIn (F.inRound l) (n - 1 - 1) P (Exit.then K (fun _ _ _ => False)) { tmps := (ps.zip (encs x)).foldl (fun t (p, v) => t.setIfInBounds p v) a.tmps, defers := [] } W)
    (hbody : ∀ (l : Nat) (s : List α) (x : α) (W : World), I s W → Ad s x → body.wpIn (F.inRound l) (n - 1 - 1) P (ownPostG w.heap.size Kp I Ix (s ++ [x]) W) (a₁ x) W)
    (hdone : ∀ (D : Nat) (s : List α) (W : World), w.heap.size ≤ D → S s → I s W → W.heap[D]? = some (.deferred (some [])) → Q .normal { a with defers := { target := .collected D, args := #[] } :: a.defers } W)
    (hstop : ∀ (D : Nat) (c : Code) (s : List α) (W : World), w.heap.size ≤ D → Sp s → Ix c s W → W.heap[D]? = some (.deferred (some [])) → c.wpIn F n P Q { a with defers := { target := .collected D, args := #[] } :: a.defers } W) :
    (Code.rangeFunc g ps assign body).wpIn F n P Q a w := by
  refine wpIn_rangeFunc fun fn hfn => ?_
  rw [hro]
  have mk : ∃ mk : LoopState → Option Code → Loop, mk = fun st pe => { state := st, pending := pe, fn, tmps := a.tmps, params := ps, assign, body, defers := w.heap.size } := ⟨_, rfl⟩
  obtain ⟨mk, hmk⟩ := mk
  have v1 : ∃ V1, (w.alloc (.deferred (some []))).alloc (.loop (mk .ready none)) = V1 := ⟨_, rfl⟩
  obtain ⟨V1, hV1⟩ := v1
  have sz1 : V1.heap.size = w.heap.size + 1 + 1 := by rw [← hV1]; simp
  -- the two blocks of the loop's own, behind any number of rounds
  have two : ∀ {st : LoopState} {pe : Option Code} {A B : World} {row : Option Nat}, A.grownBy B row → (∀ r, row = some r → V1.heap.size ≤ r ∧ ∃ o : Obj, A.heap[r]? = some o ∧ o.isWalk = true) →
      A.heap[w.heap.size + 1]? = some (.loop (mk st pe)) ∧ A.heap[w.heap.size]? = some (.deferred (some [])) → B.heap[w.heap.size + 1]? = some (.loop (mk st pe)) ∧ B.heap[w.heap.size]? = some (.deferred (some [])) := by
    intro st pe A B row hgr hr hA
    exact ⟨(grownBy_keeps hgr (fun r e => (hr r e).2) hA.1 rfl).trans hA.1, (grownBy_keeps hgr (fun r e => (hr r e).2) hA.2 rfl).trans hA.2⟩
  have weak : ∀ {A : World} {row : Option Nat}, (∀ r, row = some r → V1.heap.size ≤ r ∧ ∃ o : Obj, A.heap[r]? = some o ∧ o.isWalk = true) → ∀ r, row = some r → w.heap.size ≤ r ∧ ∃ o : Obj, A.heap[r]? = some o ∧ o.isCells = false := by
    intro A row hr r e
    obtain ⟨q1, o, q2, q3⟩ := hr r e
    exact ⟨by omega, o, q2, Obj.not_cells_of_walk q3⟩
  have st1 : V1.heap[w.heap.size + 1]? = some (.loop (mk .ready none)) ∧ V1.heap[w.heap.size]? = some (.deferred (some [])) := by
    rw [← hV1]
    refine ⟨?_, (Below.heap_alloc _ _ _ (by simp)).trans (World.alloc_heap_new w _)⟩
    have := World.alloc_heap_new (w.alloc (.deferred (some []))) (.loop (mk .ready none))
    rwa [World.size_alloc] at this
  have b1 : Below w.heap.size w V1 := by rw [← hV1]; exact ((Below.refl _ w).alloc (Nat.le_refl _) _).alloc (by simp) _
  refine ⟨w.heap.size + 1, [{ target := .collected w.heap.size, args := #[] }], V1, { target := .fn (.func gf) lb, args := #[.func (.yield (w.heap.size + 1)) #[] #[]] }, V1, gf,
    #[.func (.yield (w.heap.size + 1)) #[] #[]] ++ lb, V1, by rw [← hV1, hmk]; exact run_enterLoop_outer _ _ _ _ _, by simp only [resolve, hg]; simp [go_sem], fun f' hf' => by simp [Target.leads] at hf'; subst hf'; exact hFg, by simp [invoke, go_sem, eg], fun _ => h1, ?_⟩
  refine (hseq (w.heap.size + 1) (fun s V => I s V ∧ V.heap[w.heap.size + 1]? = some (.loop (mk .ready none)) ∧ V.heap[w.heap.size]? = some (.deferred (some [])))
    (fun s V => ∃ c, Ix c s V ∧ V.heap[w.heap.size + 1]? = some (.loop (mk .done (some c))) ∧ V.heap[w.heap.size]? = some (.deferred (some [])))
    V1 b1 (fun s A B row hs hgr hr => ⟨hI s A B row hs.1 hgr (weak hr), two hgr hr hs.2⟩) (fun s V h => hIH s V h.1) (fun s x V hV hN => ?_) ⟨by rw [← hV1]; exact hI.alloc _ (hI.alloc _ h0), st1⟩).mono ?_
  · obtain ⟨hi, hl, hk⟩ := hV
    have hlt : w.heap.size + 1 < V.heap.size := (Array.getElem?_eq_some_iff.1 hl).1
    have hy := run_yield (P := P) (args := encs x) hl (by rw [hmk]; exact hps x)
    rw [hmk] at hy
    refine ⟨fn, _, assign, body, hy, roundIn_of_wpIn hfn (hassign _ x V _ ⟨_, run_beginRound hl (by rw [hmk]), ?_⟩)⟩
    obtain ⟨V2, hV2⟩ : ∃ V2, V.putObj (w.heap.size + 1) (.loop { mk .ready none with state := .busy }) = V2 := ⟨_, rfl⟩
    have l2 : V2.heap[w.heap.size + 1]? = some (.loop { mk .ready none with state := .busy }) := by rw [← hV2]; exact World.putObj_heap_same hlt
    have k2 : V2.heap[w.heap.size]? = some (.deferred (some [])) := by rw [← hV2]; exact (World.putObj_heap_other (by omega)).trans hk
    have i2 : I s V2 := by rw [← hV2]; exact hI.putObj _ hi (by omega) hl rfl
    have p2 : Kp V V2 := by rw [← hV2]; exact hKb _ _ _ _ (by omega) hl rfl rfl
    rw [hV2]
    refine wpIn_mono (hbody _ s x _ i2 hN) ?_
    -- the end of a round
    have fin : ∀ (jump : Option Code) (V3 : World), KeepsFrom w.heap.size V2 V3 → ∃ V4, V4 = V3.putObj (w.heap.size + 1) (.loop (mk (if jump.isNone then .ready else .done) jump)) ∧
        (Instr.endRound (w.heap.size + 1) jump).run P V3 = .ok (.bool jump.isNone) V4 ∧ V3.heap[w.heap.size + 1]? = some (.loop { mk .ready none with state := .busy }) ∧
        V4.heap[w.heap.size + 1]? = some (.loop (mk (if jump.isNone then .ready else .done) jump)) ∧ V4.heap[w.heap.size]? = some (.deferred (some [])) := by
      intro jump V3 hk3
      have l3 := hk3.same _ _ (by omega) l2 rfl
      have e3 := run_endRound (P := P) jump l3
      refine ⟨_, rfl, ?_, l3, World.putObj_heap_same (Array.getElem?_eq_some_iff.1 l3).1, (World.putObj_heap_other (by omega)).trans (hk3.same _ _ (Nat.le_refl _) k2 rfl)⟩
      rw [hmk] at e3 ⊢
      exact e3
    have out : ∀ (c : Code) (V3 : World), KeepsFrom w.heap.size V2 V3 → Ix c (s ++ [x]) V3 → ∃ r V4, (Instr.endRound (w.heap.size + 1) (some c)).run P V3 = .ok r V4 ∧ ((Ending.returned r = .returned (.bool true) ∧ (I (s ++ [x]) V4 ∧ V4.heap[w.heap.size + 1]? = some (.loop (mk .ready none)) ∧ V4.heap[w.heap.size]? = some (.deferred (some []))) ∧ Kp V V4) ∨ (Ending.returned r = .returned (.bool false) ∧ ∃ c, Ix c (s ++ [x]) V4 ∧ V4.heap[w.heap.size + 1]? = some (.loop (mk .done (some c))) ∧ V4.heap[w.heap.size]? = some (.deferred (some [])))) := by
      intro c V3 hk3 hi3
      obtain ⟨V4, e4, hr, hl3, hl4, hk4⟩ := fin (some c) V3 hk3
      exact ⟨_, _, hr, .inr ⟨rfl, c, by rw [e4]; exact (hIx c).putObj _ hi3 (by omega) hl3 rfl, hl4, hk4⟩⟩
    rintro e a3 V3 hp
    cases e with
    | normal =>
      obtain ⟨hk3, hkp3, hi3⟩ := hp
      obtain ⟨V4, e4, hr, hl3, hl4, hk4⟩ := fin none V3 hk3
      exact ⟨_, _, hr, .inl ⟨rfl, ⟨by rw [e4]; exact hI.putObj _ hi3 (by omega) hl3 rfl, hl4, hk4⟩, by rw [e4]; exact hKt (hKt p2 hkp3) (hKb _ _ _ _ (by omega) hl3 rfl rfl)⟩⟩
    | ret => exact out _ V3 hp.1 hp.2
    | exit id => exact out _ V3 hp.1 hp.2
    | goto t => exact out _ V3 hp.1 hp.2
    | panic ch => exact hp.elim
    | outgrown => exact hp.elim
  · rintro e V2 ⟨⟨v, rfl⟩, (⟨s, hS, hi, hl, hk⟩ | ⟨s, hS, c, hi, hl, hk⟩)⟩
    · have hr := run_endLoop (P := P) hl (by rw [hmk]; simp)
      rw [hmk] at hr
      exact ⟨none, _, hr, hdone _ s _ (Nat.le_refl _) hS (hI.putObj _ hi (by omega) hl rfl) ((World.putObj_heap_other (by omega)).trans hk)⟩
    · have hr := run_endLoop (P := P) hl (by rw [hmk]; simp)
      rw [hmk] at hr
      exact ⟨some c, _, hr, hstop _ c s _ (Nat.le_refl _) hS ((hIx c).putObj _ hi (by omega) hl rfl) ((World.putObj_heap_other (by omega)).trans hk)⟩
end Go.Proofs.YtehacdijleommaaGreatDoor
