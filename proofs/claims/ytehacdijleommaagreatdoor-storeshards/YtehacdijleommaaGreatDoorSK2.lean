/-
  My own text: HR4, SK1, SK2 in one.
-/
import Derived.Test.YtehacdijleommaaGreatDoorHR1
import Derived.Test.YtehacdijleommaaGreatDoorSN10
import Derived.Test.YtehacdijleommaaGreatDoorHC20
namespace Go.Proofs.YtehacdijleommaaGreatDoor
open Go.RowKit

/-- The loop over such a walk, where a round lays what it is handed into a block of its own. -/
theorem loop_leansA {α : Type} {F : Fence} {n : Nat} {P : Program} {g : Operand} {ps : Array Tmp} {assign body : Code} {Q : Exit → Act → World → Prop} {a : Act} {w : World}
    (hro : F.round = none) (h1 : 1 ≤ n) {gf : Nat} {lb : Array Value} (hg : a.eval g = .func (.func gf) #[] lb) (hFg : F.fn gf) (eg : ∀ args w, (callFunc gf args).run P w = .ok (.enter gf args) w)
    {encs : α → Array Value} {H : List α → World → Prop} {Kp : World → World → Prop} {Ad : List α → α → Prop} {S Sp : List α → Prop} (hseq : Leans F (n - 1) P gf lb encs H Kp Ad S Sp w)
    (hKt : ∀ {A B C : World}, Kp A B → Kp B C → Kp A C) (hKb : ∀ (W : World) (l : Nat) (o o' : Obj), w.heap.size ≤ l → W.heap[l]? = some o → o.isCells = false → o.isWalk = false → Kp W (W.putObj l o')) (hKa : ∀ (W : World) (o : Obj), Kp W (W.alloc o)) (hps : ∀ x, (encs x).size = ps.size)
    (I : List α → World → Prop) (Ix : Code → List α → World → Prop) (hIH : ∀ s V, I s V → H s V) (hI : OwnFrom w.heap.size I) (hIx : ∀ c, OwnFrom w.heap.size (Ix c)) (h0 : I [] w) (a₁ : α → Nat → Act) (ob : α → Obj)
    (hassign : ∀ (l : Nat) (x : α) (W : World) (b : Nat) (K : Act → World → Prop), b = W.heap.size → K (a₁ x b) (W.alloc (ob x)) →
      assign.wpIn (F.inRound l) (n - 1 - 1) P (Exit.then K (fun _ _ _ => False)) { tmps := (ps.zip (encs x)).foldl (fun t (p, v) => t.setIfInBounds p v) a.tmps, defers := [] } W)
    (hbody : ∀ (l : Nat) (s : List α) (x : α) (b : Nat) (W : World), I s W → Ad s x → w.heap.size ≤ b → W.heap[b]? = some (ob x) → body.wpIn (F.inRound l) (n - 1 - 1) P (ownPostG w.heap.size Kp I Ix (s ++ [x]) W) (a₁ x b) W)
    (hdone : ∀ (D : Nat) (s : List α) (W : World), w.heap.size ≤ D → S s → I s W → W.heap[D]? = some (.deferred (some [])) → Q .normal { a with defers := { target := .collected D, args := #[] } :: a.defers } W)
    (hstop : ∀ (D : Nat) (c : Code) (s : List α) (W : World), w.heap.size ≤ D → Sp s → Ix c s W → W.heap[D]? = some (.deferred (some [])) → c.wpIn F n P Q { a with defers := { target := .collected D, args := #[] } :: a.defers } W) :
    (Code.rangeFunc g ps assign body).wpIn F n P Q a w := by
  refine wpIn_rangeFunc fun fn hfn => ?_
  rw [hro]
  have mk : ∃ mk : LoopState → Option Code → Loop, mk = fun st pe => { state := st, pending := pe, fn, tmps := a.tmps, params := ps, assign, body, defers := w.heap.size } := ⟨_, rfl⟩
  obtain ⟨mk, hmk⟩ := mk
  have v1 : ∃ V1, (w.alloc (.deferred (some []))).alloc (.loop (mk .ready none)) = V1 := ⟨_, rfl⟩
  obtain ⟨V1, hV1⟩ := v1
  have sz1 : V1.heap.size = w.heap.size + 1 + 1 := by rw [← hV1]; simp
  -- the two blocks of the loop's own, behind any number of rounds
  have two : ∀ {st : LoopState} {pe : Option Code} {A B : World} {row : Option Nat}, A.grownBy B row → (∀ r, row = some r → V1.heap.size ≤ r ∧ ∃ o : Obj, A.heap[r]? = some o ∧ o.isWalk = true) →
      A.heap[w.heap.size + 1]? = some (.loop (mk st pe)) ∧ A.heap[w.heap.size]? = some (.deferred (some [])) → B.heap[w.heap.size + 1]? = some (.loop (mk st pe)) ∧ B.heap[w.heap.size]? = some (.deferred (some [])) := by
    intro st pe A B row hgr hr hA
    exact ⟨(grownBy_keeps hgr (fun r e => (hr r e).2) hA.1 rfl).trans hA.1, (grownBy_keeps hgr (fun r e => (hr r e).2) hA.2 rfl).trans hA.2⟩
  have weak : ∀ {A : World} {row : Option Nat}, (∀ r, row = some r → V1.heap.size ≤ r ∧ ∃ o : Obj, A.heap[r]? = some o ∧ o.isWalk = true) → ∀ r, row = some r → w.heap.size ≤ r ∧ ∃ o : Obj, A.heap[r]? = some o ∧ o.isCells = false := by
    intro A row hr r e
    obtain ⟨q1, o, q2, q3⟩ := hr r e
    exact ⟨by omega, o, q2, Obj.not_cells_of_walk q3⟩
  have st1 : V1.heap[w.heap.size + 1]? = some (.loop (mk .ready none)) ∧ V1.heap[w.heap.size]? = some (.deferred (some [])) := by
    rw [← hV1]
    refine ⟨?_, (Below.heap_alloc _ _ _ (by simp)).trans (World.alloc_heap_new w _)⟩
    have := World.alloc_heap_new (w.alloc (.deferred (some []))) (.loop (mk .ready none))
    rwa [World.size_alloc] at this
  have b1 : Below w.heap.size w V1 := by rw [← hV1]; exact ((Below.refl _ w).alloc (Nat.le_refl _) _).alloc (by simp) _
  refine ⟨w.heap.size + 1, [{ target := .collected w.heap.size, args := #[] }], V1, { target := .fn (.func gf) lb, args := #[.func (.yield (w.heap.size + 1)) #[] #[]] }, V1, gf,
    #[.func (.yield (w.heap.size + 1)) #[] #[]] ++ lb, V1, by rw [← hV1, hmk]; exact run_enterLoop_outer _ _ _ _ _, by simp only [resolve, hg]; simp [go_sem], fun f' hf' => by simp [Target.leads] at hf'; subst hf'; exact hFg, by simp [invoke, go_sem, eg], fun _ => h1, ?_⟩
  refine (hseq (w.heap.size + 1) (fun s V => I s V ∧ V.heap[w.heap.size + 1]? = some (.loop (mk .ready none)) ∧ V.heap[w.heap.size]? = some (.deferred (some [])))
    (fun s V => ∃ c, Ix c s V ∧ V.heap[w.heap.size + 1]? = some (.loop (mk .done (some c))) ∧ V.heap[w.heap.size]? = some (.deferred (some [])))
    V1 b1 (fun s A B row hs hgr hr => ⟨hI s A B row hs.1 hgr (weak hr), two hgr hr hs.2⟩) (fun s V h => hIH s V h.1) (fun s x V hV hN => ?_) ⟨by rw [← hV1]; exact hI.alloc _ (hI.alloc _ h0), st1⟩).mono ?_
  · obtain ⟨hi, hl, hk⟩ := hV
    have hlt : w.heap.size + 1 < V.heap.size := (Array.getElem?_eq_some_iff.1 hl).1
    have hy := run_yield (P := P) (args := encs x) hl (by rw [hmk]; exact hps x)
    rw [hmk] at hy
    obtain ⟨Va, hVa⟩ : ∃ Va, V.alloc (ob x) = Va := ⟨_, rfl⟩
    have hla : Va.heap[w.heap.size + 1]? = some (.loop (mk .ready none)) := by rw [← hVa]; exact (Below.heap_alloc V _ _ hlt).trans hl
    have hka : Va.heap[w.heap.size]? = some (.deferred (some [])) := by rw [← hVa]; exact (Below.heap_alloc V _ _ (by omega)).trans hk
    have hia : I s Va := by rw [← hVa]; exact hI.alloc _ hi
    have hba : Va.heap[V.heap.size]? = some (ob x) := by rw [← hVa]; exact World.alloc_heap_new V _
    have hpa : Kp V Va := by rw [← hVa]; exact hKa _ _
    have hlta : w.heap.size + 1 < Va.heap.size := (Array.getElem?_eq_some_iff.1 hla).1
    refine ⟨fn, _, assign, body, hy, roundIn_of_wpIn hfn (hassign _ x V V.heap.size _ rfl ?_)⟩
    rw [hVa]
    refine ⟨_, run_beginRound hla (by rw [hmk]), ?_⟩
    obtain ⟨V2, hV2⟩ : ∃ V2, Va.putObj (w.heap.size + 1) (.loop { mk .ready none with state := .busy }) = V2 := ⟨_, rfl⟩
    have l2 : V2.heap[w.heap.size + 1]? = some (.loop { mk .ready none with state := .busy }) := by rw [← hV2]; exact World.putObj_heap_same hlta
    have k2 : V2.heap[w.heap.size]? = some (.deferred (some [])) := by rw [← hV2]; exact (World.putObj_heap_other (by omega)).trans hka
    have i2 : I s V2 := by rw [← hV2]; exact hI.putObj _ hia (by omega) hla rfl
    have p2 : Kp V V2 := by rw [← hV2]; exact hKt hpa (hKb _ _ _ _ (by omega) hla rfl rfl)
    have b2 : V2.heap[V.heap.size]? = some (ob x) := by rw [← hV2]; exact (World.putObj_heap_other (by omega)).trans hba
    rw [hV2]
    refine wpIn_mono (hbody _ s x V.heap.size _ i2 hN (by omega) b2) ?_
    -- the end of a round
    have fin : ∀ (jump : Option Code) (V3 : World), KeepsFrom w.heap.size V2 V3 → ∃ V4, V4 = V3.putObj (w.heap.size + 1) (.loop (mk (if jump.isNone then .ready else .done) jump)) ∧
        (Instr.endRound (w.heap.size + 1) jump).run P V3 = .ok (.bool jump.isNone) V4 ∧ V3.heap[w.heap.size + 1]? = some (.loop { mk .ready none with state := .busy }) ∧
        V4.heap[w.heap.size + 1]? = some (.loop (mk (if jump.isNone then .ready else .done) jump)) ∧ V4.heap[w.heap.size]? = some (.deferred (some [])) := by
      intro jump V3 hk3
      have l3 := hk3.same _ _ (by omega) l2 rfl
      have e3 := run_endRound (P := P) jump l3
      refine ⟨_, rfl, ?_, l3, World.putObj_heap_same (Array.getElem?_eq_some_iff.1 l3).1, (World.putObj_heap_other (by omega)).trans (hk3.same _ _ (Nat.le_refl _) k2 rfl)⟩
      rw [hmk] at e3 ⊢
      exact e3
    have out : ∀ (c : Code) (V3 : World), KeepsFrom w.heap.size V2 V3 → Ix c (s ++ [x]) V3 → ∃ r V4, (Instr.endRound (w.heap.size + 1) (some c)).run P V3 = .ok r V4 ∧ ((Ending.returned r = .returned (.bool true) ∧ (I (s ++ [x]) V4 ∧ V4.heap[w.heap.size + 1]? = some (.loop (mk .ready none)) ∧ V4.heap[w.heap.size]? = some (.deferred (some []))) ∧ Kp V V4) ∨ (Ending.returned r = .returned (.bool false) ∧ ∃ c, Ix c (s ++ [x]) V4 ∧ V4.heap[w.heap.size + 1]? = some (.loop (mk .done (some c))) ∧ V4.heap[w.heap.size]? = some (.deferred (some [])))) := by
      intro c V3 hk3 hi3
      obtain ⟨V4, e4, hr, hl3, hl4, hk4⟩ := fin (some c) V3 hk3
      exact ⟨_, _, hr, .inr ⟨rfl, c, by rw [e4]; exact (hIx c).putObj _ hi3 (by omega) hl3 rfl, hl4, hk4⟩⟩
    rintro e a3 V3 hp
    cases e with
    | normal =>
      obtain ⟨hk3, hkp3, hi3⟩ := hp
      obtain ⟨V4, e4, hr, hl3, hl4, hk4⟩ := fin none V3 hk3
      exact ⟨_, _, hr, .inl ⟨rfl, ⟨by rw [e4]; exact hI.putObj _ hi3 (by omega) hl3 rfl, hl4, hk4⟩, by rw [e4]; exact hKt (hKt p2 hkp3) (hKb _ _ _ _ (by omega) hl3 rfl rfl)⟩⟩
    | ret => exact out _ V3 hp.1 hp.2
    | exit id => exact out _ V3 hp.1 hp.2
    | goto t => exact out _ V3 hp.1 hp.2
    | panic ch => exact hp.elim
    | outgrown => exact hp.elim
  · rintro e V2 ⟨⟨v, rfl⟩, (⟨s, hS, hi, hl, hk⟩ | ⟨s, hS, c, hi, hl, hk⟩)⟩
    · have hr := run_endLoop (P := P) hl (by rw [hmk]; simp)
      rw [hmk] at hr
      exact ⟨none, _, hr, hdone _ s _ (Nat.le_refl _) hS (hI.putObj _ hi (by omega) hl rfl) ((World.putObj_heap_other (by omega)).trans hk)⟩
    · have hr := run_endLoop (P := P) hl (by rw [hmk]; simp)
      rw [hmk] at hr
      exact ⟨some c, _, hr, hstop _ c s _ (Nat.le_refl _) hS ((hIx c).putObj _ hi (by omega) hl rfl) ((World.putObj_heap_other (by omega)).trans hk)⟩
end Go.Proofs.YtehacdijleommaaGreatDoor
namespace Go.Proofs.YtehacdijleommaaGreatDoor
open Go.RowKit Go.Shelf Go.MapKept Go.ChangeMaps

attribute [local go_sem] Oper.semAt_some

theorem keys_any (b : Nat) (w : World) :
    Calls Tryz.prog 20 #[.map (some b)] w fun e w' => e = .returned (.func (Fn.func 44) #[] #[.pointer (some ⟨w.heap.size, 0, none⟩)]) ∧ w' = w.alloc (.cells #[.map (some b)] 47) := by
  go_enter Tryz.func20, Tryz.ntmps20
  go_wp2_with fail
  go_ret
  exact ⟨rfl, rfl⟩
/-- What an entry is. -/
def unkv : Value → Ky
  | .agg ⟨[.int _ a, .int _ b]⟩ => (a, b)
  | _ => (0, 0)
def uncp : Value → Nat
  | .pointer (some ⟨c, _, _⟩) => c
  | _ => 0
def unE (x : Value × Value) : Ky × Nat := (unkv x.1, uncp x.2)
theorem unE_mk (p : Ky × Nat) : unE (kv p.1, cp p.2) = p := rfl
def enE (p : Ky × Nat) : Value × Value := (kv p.1, cp p.2)
theorem unE_map (l : List (Ky × Nat)) : (l.map enE).map unE = l := by
  rw [List.map_map]
  conv => rhs; rw [← List.map_id l]
  exact List.map_congr_left (fun p _ => unE_mk p)
theorem enE_perm {a b : List (Ky × Nat)} (h : (a.map enE).Perm (b.map enE)) : a.Perm b := by
  have := h.map unE
  rwa [unE_map, unE_map] at this
theorem filter_push (seen : Array Nat) (e : MapEntry) : ∀ (es : List MapEntry), (es.map (·.born)).Nodup → e ∈ es → seen.contains e.born = false → (es.filter fun x => (seen.push e.born).contains x.born).Perm (e :: es.filter fun x => seen.contains x.born)
  | x :: r, hn, hm, hs => by
    rw [List.map_cons, List.nodup_cons] at hn
    have hc : ∀ y : MapEntry, (seen.push e.born).contains y.born = (seen.contains y.born || (y.born == e.born)) := fun y => by
      rw [contains_push]
    rcases List.mem_cons.1 hm with h | h
    · subst h
      have hrest : r.filter (fun x => (seen.push e.born).contains x.born) = r.filter fun x => seen.contains x.born := by
        apply List.filter_congr
        intro y hy
        rw [hc]
        have : (y.born == e.born) = false := by
          have : y.born ≠ e.born := fun q => hn.1 (by rw [← q]; exact List.mem_map.2 ⟨y, hy, rfl⟩)
          simpa using this
        rw [this, Bool.or_false]
      rw [List.filter_cons_of_pos (by rw [hc]; simp), List.filter_cons_of_neg (by rw [hs]; simp), hrest]
    · have ih := filter_push seen e r hn.2 h hs
      have hxe : (x.born == e.born) = false := by
        have : x.born ≠ e.born := fun q => hn.1 (by rw [q]; exact List.mem_map.2 ⟨e, h, rfl⟩)
        simpa using this
      by_cases hx : seen.contains x.born = true
      · rw [List.filter_cons_of_pos (by rw [hc, hx]; rfl), List.filter_cons_of_pos (p := fun x : MapEntry => seen.contains x.born) hx]
        exact (ih.cons x).trans (List.Perm.swap _ _ _)
      · have hx' : seen.contains x.born = false := by simpa using hx
        rw [List.filter_cons_of_neg (by rw [hc, hx', hxe]; simp), List.filter_cons_of_neg (by rw [hx']; simp)]
        exact ih
/-- A walk through a map, under way: s has been handed out. -/
def IS (W : World) (r b : Nat) (l s : List (Ky × Nat)) : Prop :=
  ∃ es clock since seen c0, W.heap[b]? = some (.map es clock) ∧ es.toList.map (fun e => (e.key, e.val)) = l.map enE ∧ (es.toList.map (·.born)).Nodup ∧ W.heap[r]? = some (.mapIter (some b) since seen c0) ∧ (∀ x ∈ es.toList, x.born < since) ∧ since ≤ c0 ∧ since ≤ clock ∧ ((es.toList.filter fun x => seen.contains x.born).map (fun e => (e.key, e.val))).Perm (s.map enE)
theorem IS.kept {W W' : World} {r b : Nat} {l s : List (Ky × Nat)} (h : IS W r b l s) (e1 : W'.heap[b]? = W.heap[b]?) (e2 : W'.heap[r]? = W.heap[r]?) : IS W' r b l s ∧ W'.rangeLeft b r = W.rangeLeft b r := by
  refine ⟨?_, by unfold World.rangeLeft; rw [e1, e2]⟩
  obtain ⟨es, clock, since, seen, c0, h1, h2, h3, h4, h5⟩ := h
  exact ⟨es, clock, since, seen, c0, e1.trans h1, h2, h3, e2.trans h4, h5⟩
theorem IS.later {W W' : World} {r b : Nat} {l s : List (Ky × Nat)} (h : IS W r b l s) (hb : Below W.heap.size W W') : IS W' r b l s ∧ W'.rangeLeft b r = W.rangeLeft b r := by
  have h' := h
  obtain ⟨es, clock, since, seen, c0, h1, _, _, h4, _⟩ := h
  exact h'.kept (hb.block b (Array.getElem?_eq_some_iff.1 h1).1) (hb.block r (Array.getElem?_eq_some_iff.1 h4).1)
theorem IS.begin {W : World} {b : Nat} {l : List (Ky × Nat)} (h : MB W b l) : ∃ W', (Instr.range 47 (.map (some b))).run Tryz.prog W = .ok (.pointer (some ⟨W.heap.size, 0, none⟩)) W' ∧ IS W' W.heap.size b l [] ∧ Below W.heap.size W W' := by
  have hlt := h.lt
  obtain ⟨es, clock, hb, he, _, _, hs1, hs2⟩ := h
  refine ⟨_, run_range_map W 47 _ _ b es clock Tryz.underlying47 hb, ⟨es, clock, clock, #[], clock, ((MapKept.heap_alloc W _).2 b hlt).trans hb, he, hs2, (MapKept.heap_alloc W _).1, hs1, Nat.le_refl _, Nat.le_refl _, ?_⟩, (Below.refl _ _).alloc (Nat.le_refl _) _⟩
  have : (es.toList.filter fun x => (#[] : Array Nat).contains x.born) = [] := by rw [List.filter_eq_nil_iff]; intro x _; simp
  rw [this]
  exact List.Perm.refl _
theorem IS.next {W : World} {r b : Nat} {l s : List (Ky × Nat)} (h : IS W r b l s) (ty : TypeId) :
    (s.Perm l ∧ (Instr.next (.pointer (some ⟨r, 0, none⟩)) false ty).run Tryz.prog W = .ok (.tuple #[.bool false]) W) ∨
    ∃ p ∈ l, ∃ W', (Instr.next (.pointer (some ⟨r, 0, none⟩)) false ty).run Tryz.prog W = .ok (.tuple #[.bool true, kv p.1, cp p.2]) W' ∧ IS W' r b l (s ++ [p]) ∧ W'.rangeLeft b r < W.rangeLeft b r ∧ (Instr.entry (.pointer (some ⟨r, 0, none⟩))).run Tryz.prog W' = .ok (.tuple #[kv p.1, cp p.2]) W' ∧ W.grownBy W' (some r) ∧ W'.heap.size = W.heap.size ∧ s.length < l.length := by
  obtain ⟨es, clock, since, seen, c0, hb, he, hn, hr, hold, hsc, hsk, hp⟩ := h
  have hne : r ≠ b := fun e => by rw [e, hb] at hr; cases hr
  rcases run_next_at (P := Tryz.prog) W ty r b since c0 seen es clock hr hb hold hsc with ⟨h0, hrun⟩ | ⟨e, hel, w1, hal, hrun⟩
  · refine .inl ⟨enE_perm ?_, hrun⟩
    have : (es.toList.filter fun x => seen.contains x.born) = es.toList := by
      rw [List.filter_eq_self]
      intro x hx
      exact all_seen es seen h0 x hx
    rw [this, he] at hp
    exact hp.symm
  · obtain ⟨hem, hes⟩ := mem_left hel
    have hpm : (e.key, e.val) ∈ l.map enE := by rw [← he]; exact List.mem_map.2 ⟨e, hem, rfl⟩
    obtain ⟨p, hpl, e1⟩ := List.mem_map.1 hpm
    have e1' := e1
    unfold enE at e1
    injection e1 with e2 e3
    have hr1 : w1.heap[r]? = some (.mapIter (some b) since seen c0) := by rcases hal with rfl | rfl <;> exact hr
    have hb1 : w1.heap[b]? = some (.map es clock) := by rcases hal with rfl | rfl <;> exact hb
    have hset := heap_set (o' := .mapIter (some b) since (seen.push e.born) clock) hr1
    have hsame : (setBlock w1 r (.mapIter (some b) since (seen.push e.born) clock)).heap[r]? = some (.mapIter (some b) since (seen.push e.born) clock) := hset.1
    have hb' : (setBlock w1 r (.mapIter (some b) since (seen.push e.born) clock)).heap[b]? = some (.map es clock) := (hset.2 b (fun e1 => hne e1.symm)).trans hb1
    refine .inr ⟨p, hpl, _, by rw [e2, e3]; exact hrun, ⟨es, clock, since, seen.push e.born, clock, hb', he, hn, hsame, hold, hsk, hsk, ?_⟩, ?_, by rw [e2, e3]; exact run_entry_at _ r b since seen es clock e hsame hb' hem hn, ?_, by rcases hal with rfl | rfl <;> simp [setBlock], ?_⟩
    · refine ((filter_push seen e es.toList hn hem hes).map _).trans ?_
      rw [List.map_cons, List.map_append, ← e1']
      exact (hp.cons (enE p)).trans (List.perm_append_comm (l₁ := [enE p]))
    · unfold World.rangeLeft
      rw [hb', hsame, hb, hr]
      exact left_shrinks es seen e hel
    · rcases hal with rfl | rfl <;> exact ⟨rfl, rfl, rfl, by simp [setBlock], fun i _ hi => hset.2 i (fun e1 => hi (by rw [e1]))⟩
    · have h1 := (filter_push seen e es.toList hn hem hes).length_eq
      have h2 := hp.length_eq
      have h3 := congrArg List.length he
      have h4 := List.length_filter_le (fun x : MapEntry => (seen.push e.born).contains x.born) es.toList
      simp only [List.length_map, List.length_cons] at h1 h2 h3
      omega
theorem eqNilK (l : Nat) (W : World) : (binOp .eql 86 (.func (Fn.yield l) #[] #[]) .nilFunc).run Tryz.prog W = .ok (.bool false) W := by kernel_rfl
def encK (p : Ky × Nat) : Array Value := #[.agg #[.int .i64 p.1.1, .int .i64 p.1.2]]
set_option maxRecDepth 100000 in
set_option maxHeartbeats 4000000 in
theorem keys_stays (n : Nat) (hn : 1 ≤ n) (bc b : Nat) (L : List (Ky × Nat)) (w : World) :
    Leans Fence.wide n Tryz.prog 44 #[.pointer (some ⟨bc, 0, none⟩)] encK (fun _ V => MB V b L ∧ V.cell? ⟨bc, 0, none⟩ = some (.map (some b))) KeepsWalks
      (fun s x => x ∈ L ∧ s.length < L.length) (fun s => s.Perm L) (fun _ => True) w := by
  intro l J Jx W hW hJ0 hH hY h0
  have hJ : ∀ s A C, J s A → Below A.heap.size A C → J s C := fun s A C hs hb => hJ0 s A C none hs (grown_of_below hb) (fun r e => by cases e)
  have hc0 := (hH _ _ h0).2
  obtain ⟨W2, r2, i2, b2⟩ := IS.begin (hH _ _ h0).1
  have HI2 := hide i2
  have HJ2 := hide (hJ _ _ _ h0 b2)
  have qf := eqNilK l
  clear i2 b2 h0
  refine callsIn_of_wp Tryz.func44 rfl trivial ?_ rfl
  simp only [Tryz.ntmps44, List.size_toArray, List.length_cons, List.length_nil, Nat.reduceAdd, Nat.reduceSub, Array.replicate_succ, Array.replicate_zero, List.push_toArray, List.append_toArray, List.nil_append, List.cons_append]
  gi_wp2
  obtain ⟨r, hr⟩ : ∃ r, r = W.heap.size := ⟨_, rfl⟩
  rw [← hr] at HI2 ⊢
  have HR := hide hr
  clear hr r2 hc0
  gi_loopw [3] (fun _ wr => ∃ s, Hid (IS wr r b L s) ∧ Hid (J s wr)) (fun _ wr => wr.rangeLeft b r)
  case atStart => exact ⟨[], HI2, HJ2⟩
  case round =>
    clear HI2 HJ2
    obtain ⟨s, HI, HJ⟩ := hrel
    rcases HI.out.next 0 with ⟨hpm, hrun⟩ | ⟨p, hpl, W3, hrun, i3, l3, he3, g3, s3, hsl⟩
    · have HPM := hide hpm
      clear hpm
      gi_wp2
      go_end0
      exact ⟨⟨_, rfl⟩, .inl ⟨s, HPM.out, HJ.out⟩⟩
    · have j3 : J s W3 := hJ0 s wr W3 (some r) HJ.out g3 (fun r' e => by
        obtain rfl := Option.some.inj e
        obtain ⟨es, clock, since, seen, c0, _, _, _, hr, _⟩ := HI.out
        exact ⟨Nat.le_of_eq HR.out.symm, _, hr, rfl⟩)
      have e1 : kv p.1 = .agg #[.int .i64 p.1.1, .int .i64 p.1.2] := rfl
      have e2 : cp p.2 = .pointer (some ⟨p.2, 0, none⟩) := rfl
      rw [e1, e2] at hrun he3
      obtain ⟨W4, hW4⟩ : ∃ W4, W3.alloc (.cells #[.int .i64 p.1.1, .int .i64 p.1.2] 29) = W4 := ⟨_, rfl⟩
      have hb4 : Below W3.heap.size W3 W4 := by rw [← hW4]; exact (Below.refl _ _).alloc (Nat.le_refl _) _
      have hk4 : W4.heap[W3.heap.size]? = some (.cells #[.int .i64 p.1.1, .int .i64 p.1.2] 29 (0, 0)) := by rw [← hW4]; exact alloc_newV W3 _
      have d0 : W4.cell? ⟨W3.heap.size, 0, none⟩ = some (.int .i64 p.1.1) := by rw [cell_of_row _ _ 0 _ _ _ hk4]; rfl
      have d1 : W4.cell? ⟨W3.heap.size, 1, none⟩ = some (.int .i64 p.1.2) := by rw [cell_of_row _ _ 1 _ _ _ hk4]; rfl
      have i4 := i3.later hb4
      have HI4 := hide i4.1
      have HL4 : Hid (W4.rangeLeft b r < wr.rangeLeft b r) := hide (by rw [i4.2]; exact l3)
      obtain ⟨fn, tmps, assign, body, hy, hR⟩ := hY s p W4 (hJ _ _ _ j3 hb4) ⟨hpl, hsl⟩
      dsimp only [encK] at hy
      have HRR := hide hR
      clear hR hb4 hk4 i4 i3 l3 g3 s3 hsl hpl j3 e1 e2
      gi_wp2
      refine HRR.out.mono ?_
      rintro e W5 (⟨rfl, hJ5, hk5⟩ | ⟨rfl, hJx5⟩)
      · have HJ5 := hide hJ5
        have i5 : IS W5 r b L (s ++ [p]) ∧ W5.rangeLeft b r = W4.rangeLeft b r := by
          have h4 := HI4.out
          obtain ⟨es, clock, since, seen, c0, q1, _, _, q2, _⟩ := id h4
          exact h4.kept ((hk5.same b _ q1 rfl).trans q1.symm) ((hk5.same r _ q2 rfl).trans q2.symm)
        have HI5 := hide i5.1
        have HL5 : Hid (W5.rangeLeft b r < wr.rangeLeft b r) := hide (by rw [i5.2]; exact HL4.out)
        clear hJ5 hk5 i5 HI4 HL4 hW4 d0 d1
        gi_wp2
        go_roundw
        case rel => exact ⟨_, HI5, HJ5⟩
        case measure => exact HL5.out
      · have HX5 := hide hJx5
        clear hJx5
        gi_wp2
        refine bodyPost_ret (results_none rfl _ _ _) rfl ?_
        exact ⟨⟨_, rfl⟩, .inr ⟨_, trivial, HX5.out⟩⟩
end Go.Proofs.YtehacdijleommaaGreatDoor
namespace Go.Proofs.YtehacdijleommaaGreatDoor
open Go.RowKit Go.Shelf Go.MapKept Go.ChangeMaps

attribute [local go_sem] Oper.semAt_some

def kc : List Ky → List Value
  | [] => []
  | k :: r => .int .i64 k.1 :: .int .i64 k.2 :: kc r
theorem kc_len : ∀ l : List Ky, (kc l).length = l.length * 2
  | [] => rfl
  | k :: r => by simp only [kc, List.length_cons, kc_len r]; omega
theorem kc_app : ∀ a b : List Ky, kc (a ++ b) = kc a ++ kc b
  | [], _ => rfl
  | k :: r, b => by simp only [List.cons_append, kc, kc_app r b]
theorem kc_at : ∀ (L : List Ky) (j : Nat) (p : Ky), L[j]? = some p → (kc L)[j * 2]? = some (.int .i64 p.1) ∧ (kc L)[j * 2 + 1]? = some (.int .i64 p.2)
  | q :: r, 0, p, h => by
    obtain rfl : q = p := Option.some.inj h
    exact ⟨rfl, rfl⟩
  | q :: r, j + 1, p, h => by
    have := kc_at r j p h
    rw [show (j + 1) * 2 = j * 2 + 1 + 1 by omega]
    exact this
/-- What the rounds leave. -/
structure KI (w : World) (B bo bc b : Nat) (v0 : Value) (l : List (Ky × Nat)) (xs : List Ky) (s : List (Ky × Nat)) (v : Value) (V : World) : Prop where
  mb : MB V b l
  bxc : Box V bc 47 (.map (some b))
  out : Box V bo 33 v
  row : OR V B 29 2 v (xs.length + s.length) (kc (xs ++ s.map (·.1)))
  nf : NF (fun x => v0.ownBlock = some x) w.heap.size w V
  own : ∀ g, v.ownBlock = some g → v0.ownBlock = some g ∨ w.heap.size ≤ g
  z0 : Z0 v0 → Z0 v
  ne : w.heap.size ≤ bo ∧ bc ≠ bo
theorem KI.grown {w V V' : World} {B bo bc b D : Nat} {v0 v : Value} {l s : List (Ky × Nat)} {xs : List Ky} {row : Option Nat} (h : KI w B bo bc b v0 l xs s v V) (hD : w.heap.size ≤ D) (hbD : b < D) (hg : V.grownBy V' row) (hr : ∀ r, row = some r → D ≤ r ∧ ∃ o : Obj, V.heap[r]? = some o ∧ o.isCells = false) : KI w B bo bc b v0 l xs s v V' := by
  have hr' : ∀ r, row = some r → ∃ o : Obj, V.heap[r]? = some o ∧ o.isCells = false := fun r e => (hr r e).2
  refine ⟨h.mb.kept (hg.block b h.mb.lt (fun e => by have := (hr b e.symm).1; omega)), grown_cells hg hr' h.bxc, grown_cells hg hr' h.out, h.row.kept (fun g hgg => ?_), h.nf.trans (NF.grown hg h.nf.size (fun j e => .inr (Nat.le_trans hD (hr j e).1))), h.own, h.z0, h.ne⟩
  rcases h.row.2 with ⟨rfl, _⟩ | ⟨g', off, cap, cur, rfl, _, h2, _⟩
  · cases hgg
  · obtain rfl : g' = g := Option.some.inj hgg
    rw [h2]; exact grown_cells hg hr' h2
theorem NF.setN {S : Nat → Prop} {n : Nat} (A : World) (b off : Nat) (u : Value) (hb : n ≤ b) : NF S n A (A.setCell ⟨b, off, none⟩ u) :=
  ⟨rfl, rfl, rfl, by simp [World.setCell], fun y hy _ => Below.heap_setCell _ _ _ y (fun e => by have : y = b := e; omega)⟩
/-- One key more. -/
theorem KI.push {w W W3 w4 : World} {B bo bc b D : Nat} {v0 v v' : Value} {l s : List (Ky × Nat)} {xs : List Ky} {x : Ky × Nat} (h : KI w B bo bc b v0 l xs s v W) (hW3 : W.alloc (.cells #[.int .i64 x.1.1, .int .i64 x.1.2] 29) = W3)
    (r1 : OR w4 B 29 2 v' (xs.length + s.length + 1) (kc (xs ++ s.map (·.1)) ++ [.int .i64 x.1.1, .int .i64 x.1.2])) (r2 : W3.grownBy w4 v.ownBlock) (r3 : ∀ g, v'.ownBlock = some g → v.ownBlock = some g ∨ W3.heap.size ≤ g) (r4 : Z0 v → Z0 v') :
    Box w4 bo 33 v ∧ KI w B bo bc b v0 l xs (s ++ [x]) v' (w4.setCell ⟨bo, 0, none⟩ v') ∧ KeepsWalks W (w4.setCell ⟨bo, 0, none⟩ v') ∧ KeepsFrom D W (w4.setCell ⟨bo, 0, none⟩ v') := by
  have hb3 : Below W.heap.size W W3 := by rw [← hW3]; exact (Below.refl _ _).alloc (Nat.le_refl _) _
  have hrow3 := h.row.later hb3
  have hk : ∀ (b : Nat) (c : Array Value) (t : TypeId) (fz : Nat × Nat), W.heap[b]? = some (Obj.cells c t fz) → t ≠ 29 → w4.heap[b]? = some (Obj.cells c t fz) := fun b c t fz hb ht => by
    have h3 := (hb3.block b (Array.getElem?_eq_some_iff.1 hb).1).trans hb
    exact (r2.block b (Array.getElem?_eq_some_iff.1 h3).1 (fun e => hrow3.row_ne h3 ht e.symm)).trans h3
  have hno : ∀ (g : Nat) (o : Obj), W.heap[g]? = some o → o.isCells = false → w4.heap[g]? = some o := fun g o hg ho => by
    have h3 := (hb3.block g (Array.getElem?_eq_some_iff.1 hg).1).trans hg
    exact (r2.block g (Array.getElem?_eq_some_iff.1 h3).1 (fun e => hrow3.row_no h3 ho e.symm)).trans h3
  have o4 : Box w4 bo 33 v := hk _ _ _ _ h.out (by decide)
  have o4' : w4.heap[bo]? = some (.cells #[v] 33 (0, 0)) := o4
  have c4 : Box w4 bc 47 (.map (some b)) := hk _ _ _ _ h.bxc (by decide)
  have m4 : MB (w4.setCell ⟨bo, 0, none⟩ v') b l := by
    obtain ⟨es, clock, hb, _⟩ := id h.mb
    have e4 := hno b _ hb rfl
    refine h.mb.kept (((Below.heap_setCell _ _ _ b (fun e => ?_)).trans e4).trans hb.symm)
    have e' : b = bo := e
    rw [e', o4'] at e4; cases e4
  have nf4 : NF (fun x => v0.ownBlock = some x) w.heap.size w w4 := (h.nf.trans (NF.of_below hb3 h.nf.size)).trans (NF.grown r2 (Nat.le_trans h.nf.size hb3.size) (fun j e => h.own j e))
  have ks : ∀ (g : Nat) (o : Obj), W.heap[g]? = some o → o.isCells = false → (w4.setCell ⟨bo, 0, none⟩ v').heap[g]? = some o := fun g o hg ho => by
    have h4 := hno g o hg ho
    refine (Below.heap_setCell _ _ _ g (fun e => ?_)).trans h4
    rw [show g = bo from e, o4'] at h4
    cases h4; cases ho
  have hsz : W.heap.size ≤ (w4.setCell ⟨bo, 0, none⟩ v').heap.size := Nat.le_trans hb3.size (Nat.le_trans r2.size (Nat.le_of_eq (size_set _ _ _).symm))
  refine ⟨o4, ⟨m4, c4.other h.ne.2 v', o4.set v', ?_, nf4.trans (NF.setN w4 bo 0 v' h.ne.1), fun g hg => ?_, fun hz => r4 (h.z0 hz), h.ne⟩, ⟨hsz, fun g o hg ho => ks g o hg (Obj.not_cells_of_walk ho)⟩, ⟨hsz, fun g o _ hg ho => ks g o hg ho⟩⟩
  · rw [List.map_append, ← List.append_assoc, kc_app, List.length_append, ← Nat.add_assoc]
    refine OR.kept (w := w4) (by exact r1) (fun g hg => Below.heap_setCell _ _ _ g (fun e => ?_))
    exact r1.row_ne o4' (by decide) (by rw [hg, show g = bo from e])
  · rcases r3 g hg with h1 | h1
    · exact h.own g h1
    · have := h.nf.size; have := hb3.size; exact .inr (by omega)
theorem Tryz.infoKey : (Tryz.prog.info? 29).map (fun i => (i.zero, i.size, i.bytes)) = some (some (.agg #[.int .i64 0, .int .i64 0]), 2, 16) := by kernel_rfl
theorem eqNilS2 (b : Nat) (W : World) : (binOp .eql 60 (.func (Fn.func 44) #[] #[.pointer (some ⟨b, 0, none⟩)]) .nilFunc).run Tryz.prog W = .ok (.bool false) W := by kernel_rfl
set_option maxRecDepth 100000 in
set_option maxHeartbeats 4000000 in
theorem appSeq_in (B bc b : Nat) (v0 : Value) (l : List (Ky × Nat)) (xs : List Ky) (w : World) (h : OR w B 29 2 v0 xs.length (kc xs)) (hm : MB w b l) (hc : Box w bc 47 (.map (some b))) (hl : xs.length + l.length ≤ 5864062014804) (hB : B ≤ w.heap.size) :
    CallsIn Fence.wide 9 Tryz.prog 19 #[v0, .func (Fn.func 44) #[] #[.pointer (some ⟨bc, 0, none⟩)]] w fun e w' => ∃ (v : Value) (s : List (Ky × Nat)), e = .returned v ∧ s.Perm l ∧ OR w' B 29 2 v (xs.length + s.length) (kc (xs ++ s.map (·.1))) ∧ NF (fun x => v0.ownBlock = some x) w.heap.size w w' ∧ (∀ g, v.ownBlock = some g → v0.ownBlock = some g ∨ w.heap.size ≤ g) ∧ (Z0 v0 → Z0 v) := by
  obtain ⟨i0, hi, hiz⟩ := Option.map_eq_some_iff.1 Tryz.infoKey
  simp only [Prod.mk.injEq] at hiz
  obtain ⟨hz0, hz1, hz2⟩ := hiz
  have HI := hide (And.intro hi (And.intro hz0 (And.intro hz1 hz2)))
  have HLL := hide hl
  have HO := hide h
  have HM := hide hm
  have HC := hide hc
  have HBB := hide hB
  have HVL := hide (fun g (e : v0.ownBlock = some g) => (h.lt e).2)
  obtain ⟨a0, n0, c0, rfl⟩ : ∃ a0 n0 c0, v0 = .slice a0 n0 c0 := by
    rcases h.2 with ⟨rfl, _⟩ | ⟨g', off, cap, cur, rfl, _⟩
    · exact ⟨_, _, _, rfl⟩
    · exact ⟨_, _, _, rfl⟩
  have qf := eqNilS2
  clear hi hz0 hz1 hz2 hl h hm hc hB
  refine callsIn_of_wp_marks Tryz.func19 rfl trivial ?_ rfl
  simp only [Tryz.ntmps19, List.size_toArray, List.length_cons, List.length_nil, Nat.reduceAdd, Nat.reduceSub, Array.replicate_succ, Array.replicate_zero, List.push_toArray, List.append_toArray, List.nil_append, List.cons_append]
  refine wpIn_wide.2 ?_
  go_wp2_with fail
  have P5 : Hid (KI w B w.heap.size bc b (.slice a0 n0 c0) l xs [] (.slice a0 n0 c0) (w.alloc (.cells #[.slice a0 n0 c0] 33))) := hide (by
    have b1 : Below w.heap.size w (w.alloc (.cells #[.slice a0 n0 c0] 33)) := (Below.refl _ _).alloc (Nat.le_refl _) _
    have o1 := Box.new w 33 (.slice a0 n0 c0)
    generalize w.alloc (.cells #[.slice a0 n0 c0] 33) = U1 at *
    exact ⟨HM.out.later b1, HC.out.later b1, o1, by rw [List.map_nil, List.append_nil]; exact HO.out.later b1, NF.of_below b1 (Nat.le_refl _), fun g hg => .inl hg, id, Nat.le_refl _, by have := HC.out.lt; omega⟩)
  have ZL : Hid (w.heap.size ≤ (w.alloc (.cells #[.slice a0 n0 c0] 33)).heap.size) := hide P5.out.nf.size
  have HBL := hide HM.out.lt
  generalize w.alloc (.cells #[.slice a0 n0 c0] 33) = W5 at *
  obtain ⟨bo, hbo⟩ : ∃ bo, bo = w.heap.size := ⟨_, rfl⟩
  rw [← hbo] at P5 ⊢
  have P6 : Hid (KI w B bo bc b (.slice a0 n0 c0) l xs [] (.slice a0 n0 c0) W5) := P5
  clear hbo P5
  have HSQ := hide (keys_stays 8 (by omega) bc b l W5)
  refine (wpIn_wide (n := 9)).1 ?_
  refine' loop_leansA (F := Fence.wide) (n := 9) rfl (by omega) (gf := 44) (lb := #[.pointer (some ⟨bc, 0, none⟩)]) rfl trivial (enters_of Tryz.func44 (by kernel_rfl) rfl) HSQ.out (fun h k => h.trans k) (fun W l o o' _ h _ hw => KeepsWalks.putObj o' h hw) (fun W o => KeepsWalks.alloc W o) (fun _ => rfl)
    (fun s V => ∃ v, KI w B bo bc b (.slice a0 n0 c0) l xs s v V)
    (fun _ _ _ => False)
    (fun s V ⟨v, hs⟩ => ⟨hs.mb, hs.bxc.cell⟩)
    (fun s A C row ⟨v, hs⟩ hg hr => ⟨v, hs.grown ZL.out (Nat.lt_of_lt_of_le HBL.out ZL.out) hg hr⟩)
    (fun _ _ _ _ _ hs _ _ => hs)
    ⟨_, P6.out⟩ _ (fun x => .cells #[.int .i64 x.1.1, .int .i64 x.1.2] 29) ?assign ?body ?done ?stop
  case assign =>
    intro l x W z K hz hK
    dsimp only [encK]
    gi_wp2
    rw [← hz]
    exact hK
  case body =>
    rintro l' s x kb W ⟨v, hP⟩ ⟨hxl, hsl⟩ _ hkb
    have P0 := hide hP
    have c0' := hP.out.cell
    have k0 : W.cell? ⟨kb, 0, none⟩ = some (.int .i64 x.1.1) := by rw [cell_of_row _ _ 0 _ _ _ hkb]; rfl
    have k1 : W.cell? ⟨kb, 1, none⟩ = some (.int .i64 x.1.2) := by rw [cell_of_row _ _ 1 _ _ _ hkb]; rfl
    have HSL := hide hsl
    clear hP hxl hsl hkb
    obtain ⟨W3, hW3⟩ : ∃ W3, W.alloc (.cells #[.int .i64 x.1.1, .int .i64 x.1.2] 29) = W3 := ⟨_, rfl⟩
    have HW3 := hide hW3
    have HO3 : Hid (OR W3 B 29 2 v (xs.length + s.length) (kc (xs ++ s.map (·.1)))) := hide (by rw [← hW3]; exact P0.out.row.later ((Below.refl _ _).alloc (Nat.le_refl _) _))
    have HN3 : Hid (∀ j u, ([.int .i64 x.1.1, .int .i64 x.1.2] : List Value)[j]? = some u → W3.cell? ((⟨W.heap.size, 0, none⟩ : Addr).add j) = some u) := hide (fun j u hj => by
      rw [← hW3, Addr.add_lit, cell_of_row _ W.heap.size _ _ _ _ (alloc_newV W _)]
      match j, hj with
      | 0, hj => cases hj; rfl
      | 1, hj => cases hj; rfl)
    have HZ3 : Hid (B ≤ W3.heap.size) := hide (by rw [← hW3]; have := P0.out.nf.size; have := HBB.out; simp; omega)
    gi_wp2_with (gi_at_builtin; refine wpListIn_append_orz W3 B 33 29 i0 _ 2 16 rfl _ _ rfl Tryz.underlying33 HI.out.1 HI.out.2.1 HI.out.2.2.1 HI.out.2.2.2 rfl (by decide) v (xs.length + s.length) (kc (xs ++ s.map (·.1))) rfl HO3.out ⟨W.heap.size, 0, none⟩ 1 [.int .i64 x.1.1, .int .i64 x.1.2] rfl rfl HN3.out (by intro u hu; simp at hu; rcases hu with rfl | rfl <;> rfl) (by have := HLL.out; have := HSL.out; unfold maxLen; omega) (by have := HLL.out; have := HSL.out; omega) HZ3.out ?_)
    intro v' w4 r1 r2 r3 r4
    obtain ⟨a4, n4, cap4, rfl⟩ : ∃ a4 n4 cap4, v' = .slice a4 n4 cap4 := by
      rcases r1.2 with ⟨e, _⟩ | ⟨g, off, cap, _, e, _⟩
      · exact ⟨_, _, _, e⟩
      · exact ⟨_, _, cap, e⟩
    obtain ⟨o4, A4, K4, F4⟩ := P0.out.push (D := W5.heap.size) HW3.out r1 r2 r3 r4
    have e0 := o4.cell
    have e1 := o4.frozen
    obtain ⟨W6, hW6⟩ : ∃ W6, w4.setCell ⟨bo, 0, none⟩ (.slice a4 n4 cap4) = W6 := ⟨_, rfl⟩
    rw [hW6] at A4 K4 F4
    have HA4 := hide A4
    have HK4 := hide K4
    have HF4 := hide F4
    clear A4 K4 F4 o4 r1 r2 r3 r4 hW3 HW3 c0' k0 k1
    gi_wp2
    exact ⟨HF4.out, HK4.out, _, HA4.out⟩
  case done =>
    rintro D s W hD hS ⟨v, hP⟩ hK
    have c0' := hP.out.cell
    have P7 := hide hP
    have HKD := hide hK
    have HDD := hide hD
    have HSS := hide hS
    clear hP hK hD P6 HSQ hS
    go_wp2_with fail
    have PZ := P7.out.grown (D := W5.heap.size) ZL.out (Nat.lt_of_lt_of_le HBL.out ZL.out) (grownBy_putObj' W D (.deferred none)) (fun r e => by cases e; exact ⟨HDD.out, _, HKD.out, rfl⟩)
    refine ⟨by simp, .inl ⟨_, _, rfl, run_takeDeferred HKD.out, ?_⟩⟩
    exact ⟨v, results_tmp (fn := Tryz.f19) (t := 4) rfl _ _ _, v, s, rfl, HSS.out, PZ.row, PZ.nf, PZ.own, PZ.z0⟩
  case stop =>
    rintro D c s W hD _ hF
    exact hF.elim
/-- The keys of a map, behind a row of keys. -/
theorem appSeq_any (B bc b : Nat) (v0 : Value) (l : List (Ky × Nat)) (xs : List Ky) (w : World) (h : OR w B 29 2 v0 xs.length (kc xs)) (hm : MB w b l) (hc : Box w bc 47 (.map (some b))) (hl : xs.length + l.length ≤ 5864062014804) (hB : B ≤ w.heap.size) :
    Calls Tryz.prog 19 #[v0, .func (Fn.func 44) #[] #[.pointer (some ⟨bc, 0, none⟩)]] w fun e w' => ∃ (v : Value) (s : List (Ky × Nat)), e = .returned v ∧ s.Perm l ∧ OR w' B 29 2 v (xs.length + s.length) (kc (xs ++ s.map (·.1))) ∧ NF (fun x => v0.ownBlock = some x) w.heap.size w w' ∧ (∀ g, v.ownBlock = some g → v0.ownBlock = some g ∨ w.heap.size ≤ g) ∧ (Z0 v0 → Z0 v) :=
  callsIn_wide.1 (appSeq_in B bc b v0 l xs w h hm hc hl hB)
end Go.Proofs.YtehacdijleommaaGreatDoor
