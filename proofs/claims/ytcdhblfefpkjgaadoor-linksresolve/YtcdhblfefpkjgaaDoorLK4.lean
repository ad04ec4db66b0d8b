/-
  My own text: VQ, QRs, LK4 in one.
-/
import Derived.Test.YtcdhblfefpkjgaaDoorQRz
import Derived.Maps.AppendAt
namespace Go.Proofs.YtcdhblfefpkjgaaDoor
open Go.RowKit

theorem op_call_fn {P : Program} {Q : Exit → Act → World → Prop} {o : Oper} {a : Act} {K : Act → World → Prop} {w : World} (f : FuncId) (args : Array Value) (he : (execOp a.eval o).run P w = .ok (.enter f args) w) (h : Calls P f args w fun e w' => ∃ v, e = .returned v ∧ K (a.put o.dst v) w') : o.wp P a w K Q := by
  unfold Oper.wp
  rw [he, Oper.upon_enter]
  refine h.mono ?_
  rintro e w' ⟨v, rfl, hk⟩
  exact hk
theorem op_append_gen {P : Program} {o : Oper} {a : Act} {K : Act → World → Prop} {Q : Exit → Act → World → Prop} {w : World} {t : TypeId} (s x : Operand) (ho : o.op = .call { callee := .builtin .append, args := #[s, x], argTypes := #[t, t] }) (v : Value) (b : Addr) (m c : Nat) (hs : a.eval s = v) (hx : a.eval x = .slice (some b) m c)
    (v' : Value) (w' : World) (hr : (Builtin.append_ #[t, t] o.type #[v, .slice (some b) m c]).run P w = .ok v' w') (h : K (a.put o.dst v') w') : o.wp P a w K Q := by
  unfold Oper.wp execOp
  simp only [ho, resolve, invoke, builtin, Sem.run_bind, Sem.run_pure, Result.andThen_ok, List.map_toArray, List.map_cons, List.map_nil, hs, hx, hr]
  exact h
end Go.Proofs.YtcdhblfefpkjgaaDoor
namespace Go.Proofs.YtcdhblfefpkjgaaDoor
open Go.RowKit

section
variable {P : Program} {ops : Array Oper} {Q : Exit → Act → World → Prop} {md : Region.Mode} {S : World → Prop} {zs : List Nat}
/-- None of them has come. -/
def unl (zs : List Nat) (ls : Array Bool) : Bool := zs.all fun z => !ls.getD z true
theorem unl_set {ls : Array Bool} {j : Nat} (hj : j ∉ zs) : unl zs (ls.setIfInBounds j true) = unl zs ls := by
  unfold unl
  rw [Bool.eq_iff_iff, List.all_eq_true, List.all_eq_true]
  have e : ∀ z ∈ zs, (ls.setIfInBounds j true).getD z true = ls.getD z true := fun z hz => getD_set_ne true (fun e => hj (e ▸ hz))
  exact ⟨fun h z hz => by rw [← e z hz]; exact h z hz, fun h z hz => by rw [e z hz]; exact h z hz⟩
def anyS (P : Program) (md : Region.Mode) (ops : Array Oper) (Q : Exit → Act → World → Prop) (S : World → Prop) (zs : List Nat) : Nat → Array Bool → Act → World → Prop
  | 0, ls, a, w => Region.ready md ops ls = [] ∧ Q .normal a w
  | f + 1, ls, a, w => (Region.ready md ops ls = [] → Q .normal a w) ∧ ∀ i ∈ Region.ready md ops ls, wpOp P ops Q i (fun a' w' => (unl zs (ls.setIfInBounds i true) = true → S w') ∧ anyS P md ops Q S zs f (ls.setIfInBounds i true) a' w') a w
theorem anyS_any : ∀ (f : Nat) (ls : Array Bool) (a : Act) (w : World), anyS P md ops Q S zs f ls a w → wpAny P md ops Q f ls a w
  | 0, _, _, _, h => h
  | f + 1, _, _, _, h => ⟨h.1, fun i hi => wpOp_mono (fun a' w' h' => anyS_any f _ a' w' h'.2) (h.2 i hi)⟩
theorem anyS_first {i : Nat} {oi : Oper} {v : Value} (hi : ops[i]? = some oi) (hsel : ∀ (j : Nat) (o : Oper) cs b, ops[j]? = some o → o.op ≠ .select cs b) (hQ : ∀ c a w, Q (.panic c) (a.put oi.dst v) w → Q (.panic c) a w) (hz : zs.all (fun z => waitsB md ops z i) = true) (hiz : i ∉ zs) :
    ∀ (f : Nat) (ls : Array Bool) (a : Act) (w : World), (∀ j oj, ops[j]? = some oj → j ≠ i → ls.getD j true = false → (∀ e ∈ oj.after, Region.binds md e = true → e.on ≠ i) → oi.apart ops oj = true) →
      i ∈ Region.ready md ops ls → YieldsIf P ops S oi v a → unl zs ls = true → S w → anyS P md ops Q S zs f (ls.setIfInBounds i true) (a.put oi.dst v) w → anyS P md ops Q S zs (f + 1) ls a w := by
  intro f
  induction f with
  | zero =>
    intro ls a w _ hr hy _ hS H
    refine ⟨fun h => (by rw [h] at hr; cases hr), fun j hj => ?_⟩
    by_cases hji : j = i
    · subst hji; exact hy.wpOp hi hS ⟨fun _ => hS, H⟩
    · have := ready_mono hj hji
      rw [H.1] at this; cases this
  | succ f ih =>
    intro ls a w hfree hr hy hu hS H
    refine ⟨fun h => (by rw [h] at hr; cases hr), fun j hj => ?_⟩
    have hun := (mem_ready.1 hr).1
    by_cases hji : j = i
    · subst hji; exact hy.wpOp hi hS ⟨fun _ => hS, H⟩
    · have hjz : j ∉ zs := fun e => waits_not (List.all_eq_true.1 hz j e) hun hj
      have h1 := H.2 j (ready_mono hj hji)
      obtain ⟨hjun, oj, hoj, hall⟩ := mem_ready.1 hj
      have hno : ∀ e ∈ oj.after, Region.binds md e = true → e.on ≠ i := by
        intro e he hb heq
        have h2 := hall e he hb
        rw [heq] at h2
        rcases Nat.lt_or_ge i ls.size with h' | h'
        · simp [h'] at hun h2; rw [hun] at h2; cases h2
        · simp [Array.getElem?_eq_none h'] at h2
      have h2 := wpOp_putIf hoj (hfree j oj hoj hji hjun hno) (fun cs b => hsel i oi cs b hi) (fun cs b => hsel j oj cs b hoj) hQ hy h1
      refine wpOp_mono (fun a' w' h3 => ?_) h2
      have hS' : S w' := h3.2.1 (by rw [unl_set hjz, unl_set hiz]; exact hu)
      refine ⟨fun _ => hS', ih (ls.setIfInBounds j true) a' w' (fun k ok hk hki hku hkn => hfree k ok hk hki ?_ hkn) (ready_mono hr (Ne.symm hji)) h3.1 (by rw [unl_set hjz]; exact hu) hS' ?_⟩
      · by_cases hjk : j = k
        · subst hjk; exact hjun
        · rwa [getD_set_ne true hjk] at hku
      · rw [Array.setIfInBounds_comm _ _ hji]; exact h3.2.2
/-- What reads no memory. -/
theorem anyS_pure {i : Nat} {oi : Oper} {v : Value} (hi : ops[i]? = some oi) (hsel : ∀ (j : Nat) (o : Oper) cs b, ops[j]? = some o → o.op ≠ .select cs b) (hQ : ∀ c a w, Q (.panic c) (a.put oi.dst v) w → Q (.panic c) a w) (hiz : i ∉ zs) :
    ∀ (f : Nat) (ls : Array Bool) (a : Act) (w : World), (∀ j oj, ops[j]? = some oj → j ≠ i → ls.getD j true = false → (∀ e ∈ oj.after, Region.binds md e = true → e.on ≠ i) → oi.apart ops oj = true) →
      i ∈ Region.ready md ops ls → YieldsIf P ops (fun _ => True) oi v a → (unl zs ls = true → S w) → anyS P md ops Q S zs f (ls.setIfInBounds i true) (a.put oi.dst v) w → anyS P md ops Q S zs (f + 1) ls a w := by
  intro f
  induction f with
  | zero =>
    intro ls a w _ hr hy hS H
    refine ⟨fun h => (by rw [h] at hr; cases hr), fun j hj => ?_⟩
    by_cases hji : j = i
    · subst hji; exact hy.wpOp hi trivial ⟨fun e => hS (by rw [← e, unl_set hiz]), H⟩
    · have := ready_mono hj hji
      rw [H.1] at this; cases this
  | succ f ih =>
    intro ls a w hfree hr hy hS H
    refine ⟨fun h => (by rw [h] at hr; cases hr), fun j hj => ?_⟩
    have hun := (mem_ready.1 hr).1
    by_cases hji : j = i
    · subst hji; exact hy.wpOp hi trivial ⟨fun e => hS (by rw [← e, unl_set hiz]), H⟩
    · have h1 := H.2 j (ready_mono hj hji)
      obtain ⟨hjun, oj, hoj, hall⟩ := mem_ready.1 hj
      have hno : ∀ e ∈ oj.after, Region.binds md e = true → e.on ≠ i := by
        intro e he hb heq
        have h2 := hall e he hb
        rw [heq] at h2
        rcases Nat.lt_or_ge i ls.size with h' | h'
        · simp [h'] at hun h2; rw [hun] at h2; cases h2
        · simp [Array.getElem?_eq_none h'] at h2
      have h2 := wpOp_putIf (S := fun _ => True) hoj (hfree j oj hoj hji hjun hno) (fun cs b => hsel i oi cs b hi) (fun cs b => hsel j oj cs b hoj) hQ hy h1
      refine wpOp_mono (fun a' w' h3 => ?_) h2
      have hS' : unl zs (ls.setIfInBounds j true) = true → S w' := fun e => h3.2.1 (by rw [← Array.setIfInBounds_comm _ _ hji, unl_set hiz]; exact e)
      refine ⟨hS', ih (ls.setIfInBounds j true) a' w' (fun k ok hk hki hku hkn => hfree k ok hk hki ?_ hkn) (ready_mono hr (Ne.symm hji)) h3.1 hS' ?_⟩
      · by_cases hjk : j = k
        · subst hjk; exact hjun
        · rwa [getD_set_ne true hjk] at hku
      · rw [Array.setIfInBounds_comm _ _ hji]; exact h3.2.2
/-- Taken ahead: what it yields lies in slot d. -/
theorem sk1 {f : Nat} {ls : Array Bool} {tmps : Array Value} {df : List Deferred} {w : World} {oi : Oper} {v : Value} (i d : Nat) (ls' : Array Bool) (hi : ops[i]? = some oi) (hd : oi.dst = some d)
    (hs : Region.noSelect ops = true) (hf : Region.free md ops ls i = true) (hr : (Region.ready md ops ls).contains i = true) (hz : zs.all (fun z => waitsB md ops z i) = true) (hiz : zs.contains i = false) (hu : unl zs ls = true)
    (hQ : ∀ c a w, Q (.panic c) (a.put oi.dst v) w → Q (.panic c) a w) (hl : ls.setIfInBounds i true = ls')
    (hw : Region.wanted oi (yielded ops tmps) = true) (hy : ∀ w, S w → (execOp (Act.eval ⟨tmps, df⟩) oi).run P w = .ok (.value v) w) (hS : S w)
    (h : anyS P md ops Q S zs f ls' ⟨tmps.setIfInBounds d v, df⟩ w) : anyS P md ops Q S zs (f + 1) ls ⟨tmps, df⟩ w := by
  refine anyS_first hi (Region.noSelect_spec hs) hQ hz (fun e => by rw [List.contains_iff_mem.2 e] at hiz; cases hiz) f ls _ w (Region.free_spec hi hf) (by simpa using hr) (Or.inl ⟨hw, hy⟩) hu hS ?_
  rw [hl, hd]; exact h
theorem sk0 {f : Nat} {ls : Array Bool} {tmps : Array Value} {df : List Deferred} {w : World} {oi : Oper} {v : Value} (i d : Nat) (ls' : Array Bool) (hi : ops[i]? = some oi) (hd : oi.dst = some d)
    (hs : Region.noSelect ops = true) (hf : Region.free md ops ls i = true) (hr : (Region.ready md ops ls).contains i = true) (hiz : zs.contains i = false)
    (hQ : ∀ c a w, Q (.panic c) (a.put oi.dst v) w → Q (.panic c) a w) (hl : ls.setIfInBounds i true = ls')
    (hw : Region.wanted oi (yielded ops tmps) = true) (hy : ∀ w, (execOp (Act.eval ⟨tmps, df⟩) oi).run P w = .ok (.value v) w) (hS : unl zs ls = true → S w)
    (h : anyS P md ops Q S zs f ls' ⟨tmps.setIfInBounds d v, df⟩ w) : anyS P md ops Q S zs (f + 1) ls ⟨tmps, df⟩ w := by
  refine anyS_pure hi (Region.noSelect_spec hs) hQ (fun e => by rw [List.contains_iff_mem.2 e] at hiz; cases hiz) f ls _ w (Region.free_spec hi hf) (by simpa using hr) (Or.inl ⟨hw, fun w _ => hy w⟩) hS ?_
  rw [hl, hd]; exact h
/-- Passed by: its guard says no. -/
theorem sk2 {f : Nat} {ls : Array Bool} {tmps : Array Value} {df : List Deferred} {w : World} {oi : Oper} (i d : Nat) (ls' : Array Bool) (hi : ops[i]? = some oi) (hd : oi.dst = some d)
    (hs : Region.noSelect ops = true) (hf : Region.free md ops ls i = true) (hr : (Region.ready md ops ls).contains i = true) (hiz : zs.contains i = false)
    (hQ : ∀ c a w, Q (.panic c) (a.put oi.dst undef) w → Q (.panic c) a w) (hl : ls.setIfInBounds i true = ls')
    (hw : Region.wanted oi (yielded ops tmps) = false) (hS : unl zs ls = true → S w)
    (h : anyS P md ops Q S zs f ls' ⟨tmps.setIfInBounds d undef, df⟩ w) : anyS P md ops Q S zs (f + 1) ls ⟨tmps, df⟩ w := by
  refine anyS_pure hi (Region.noSelect_spec hs) hQ (fun e => by rw [List.contains_iff_mem.2 e] at hiz; cases hiz) f ls _ w (Region.free_spec hi hf) (by simpa using hr) (Or.inr ⟨hw, rfl⟩) hS ?_
  rw [hl, hd]; exact h
/-- The one that may come up. -/
theorem s_ready {f : Nat} {ls : Array Bool} {a : Act} {w : World} {oi : Oper} (i : Nat) (ls' : Array Bool) (hi : ops[i]? = some oi) (hr : Region.ready md ops ls = [i]) (hl : ls.setIfInBounds i true = ls')
    (hw : Region.wanted oi (yielded ops a.tmps) = true)
    (h : ∀ K' : Act → World → Prop, Shut (∀ a w, (unl zs ls' = true → S w) → anyS P md ops Q S zs f ls' a w → K' a w) → Oper.wp P oi a w K' Q) : anyS P md ops Q S zs (f + 1) ls a w := by
  refine ⟨fun h0 => (by rw [hr] at h0; cases h0), fun j hj => ?_⟩
  rw [hr] at hj
  obtain rfl := List.mem_singleton.1 hj
  refine wpOp_step hi (fun K' hK => ?_)
  rw [if_pos hw]
  rw [hl] at hK
  exact h K' (fun a w h1 h2 => hK a w ⟨h1, h2⟩)
theorem s_done {ls : Array Bool} {a : Act} {w : World} (hr : Region.ready md ops ls = []) (h : Q .normal a w) : ∀ f, anyS P md ops Q S zs f ls a w
  | 0 => ⟨hr, h⟩
  | _ + 1 => ⟨fun _ => h, by rw [hr]; simp⟩
theorem s_begins {id : Nat} {a : Act} {w : World} (zs : List Nat) (f : Nat) (ls : Array Bool) (hm : P.follows .mixedOrders = true) (hf : ops.size = f) (hl : Array.replicate ops.size false = ls)
    (h : anyS P .any ops Q S zs f ls a w.drew) : (Code.region id ops true).wp P Q a w := by
  subst hf hl
  exact wp_region_any hm (anyS_any _ _ _ _ h)
end
end Go.Proofs.YtcdhblfefpkjgaaDoor
namespace Go.Proofs.YtcdhblfefpkjgaaDoor
open Go.RowKit

theorem Tryd.infoRow : (Tryd.prog.info? 41).map (fun i => (i.zero, i.size, i.bytes)) = some (some (.slice none 0 0), 1, 24) := by kernel_rfl
/-- Numbers of things as numbers. -/
def ni (L : List Nat) : List Int := L.map fun y => ((y : Nat) : Int)
theorem ni_len (L : List Nat) : (ni L).length = L.length := by simp [ni]
theorem ni_at {L : List Nat} {j x : Nat} (h : L[j]? = some x) : (ni L)[j]? = some ((x : Nat) : Int) := by unfold ni; rw [List.getElem?_map, h]; rfl
theorem ni_app (a b : List Nat) : ni (a ++ b) = ni a ++ ni b := by simp [ni]
/-- append(row, y) of a row of one's own, y in a literal's cell. -/
theorem run_append_in (w : World) (B : Nat) (ty : TypeId) (v : Value) (M : List Int) (y : Int) (g : Nat) (hown : IN.OM w B v M) (hy : w.cell? ⟨g, 0, none⟩ = some (.int .i64 y)) (hn : M.length + 1 ≤ 17592186044416) (hB : B ≤ w.heap.size) :
    ∃ v' w', (Builtin.append_ #[41, 41] ty #[v, .slice (some ⟨g, 0, none⟩) 1 1]).run Tryd.prog w = .ok v' w' ∧ IN.OM w' B v' (M ++ [y]) ∧ Grew w v w' v' := by
  obtain ⟨i0, hi, hz0, hz1, hz2⟩ := info_parts Tryd.infoIn
  obtain ⟨v', w', hrun, r1, r2, _, r3⟩ := run_append_own_at (P := Tryd.prog) w B 41 ty 3 i0 _ 1 8 Tryd.underlying41 hi hz0 hz1 hz2 rfl (by decide) v M.length (IN.mc M) hown ⟨g, 0, none⟩ 1 1 [.int .i64 y] rfl (fun j u hj => by
    match j, hj with
    | 0, hj => simp at hj; subst hj; simpa [Addr.add] using hy) (by intro u hu; simp at hu; subst hu; rfl) (by unfold maxLen; omega) (by omega) hB
  refine ⟨v', w', hrun, ?_, r2, fun q hq => ?_⟩
  · unfold IN.OM; rw [List.length_append, IN.mc_app]; exact r1
  · rcases r3 with e | e
    · left; rw [← e]; exact hq
    · right; rw [e] at hq; injection hq with hq; omega
/-- Two rows of rows: of each thing its list, on either side. -/
structure WV (B0 : Nat) (w0 w : World) (G : Bool → Nat) (n : Nat) (V : Bool → Nat → Value) (X : Bool → Nat → List Nat) : Prop where
  blk : ∀ s, w.rowIs (G s) 41 n (V s)
  ne : G false ≠ G true
  lo : ∀ s, B0 ≤ G s
  own : ∀ s x, x < n → IN.OM w B0 (V s x) (ni (X s x))
  ap : ∀ s x s' x', x < n → x' < n → (s = s' → x ≠ x') → ∀ g, (V s x).ownBlock = some g → (V s' x').ownBlock = some g → False
  low : Below B0 w0 w
theorem WV.lt {B0 : Nat} {w0 w : World} {G : Bool → Nat} {n : Nat} {V : Bool → Nat → Value} {X : Bool → Nat → List Nat} (h : WV B0 w0 w G n V X) (s : Bool) : G s < w.heap.size := (h.blk s).lt
theorem WV.cell {B0 : Nat} {w0 w : World} {G : Bool → Nat} {n : Nat} {V : Bool → Nat → Value} {X : Bool → Nat → List Nat} (h : WV B0 w0 w G n V X) (s : Bool) {x : Nat} (hx : x < n) : w.cell? ⟨G s, x, none⟩ = some (V s x) := (h.blk s).cell hx
theorem WV.later {B0 : Nat} {w0 w w' : World} {G : Bool → Nat} {n : Nat} {V : Bool → Nat → Value} {X : Bool → Nat → List Nat} (h : WV B0 w0 w G n V X) (hb : Below w.heap.size w w') (hB : B0 ≤ w.heap.size) : WV B0 w0 w' G n V X :=
  ⟨fun s => (h.blk s).of_block (hb.block _ (h.lt s)), h.ne, h.lo, fun s x hx => (h.own s x hx).later hb, h.ap, h.low.trans (hb.mono hB)⟩
theorem WV.sl {B0 : Nat} {w0 w : World} {G : Bool → Nat} {n : Nat} {V : Bool → Nat → Value} {X : Bool → Nat → List Nat} (h : WV B0 w0 w G n V X) (s : Bool) {x : Nat} (hx : x < n) : ∃ a c, V s x = .slice a (X s x).length c := by
  obtain ⟨a, c, e⟩ := IN.OM.slice (h.own s x hx)
  rw [ni_len] at e
  exact ⟨a, c, e⟩
def upV {α : Type} (V : Bool → Nat → α) (s : Bool) (x : Nat) (v : α) : Bool → Nat → α := fun s' x' => if s' = s ∧ x' = x then v else V s' x'
theorem upV_same {α : Type} (V : Bool → Nat → α) (s : Bool) (x : Nat) (v : α) : upV V s x v s x = v := if_pos ⟨rfl, rfl⟩
theorem upV_ne {α : Type} (V : Bool → Nat → α) {s s' : Bool} {x x' : Nat} (v : α) (h : s' = s → x' ≠ x) : upV V s x v s' x' = V s' x' := if_neg fun e => h e.1 e.2
theorem WV.typ {B0 : Nat} {w0 w : World} {G : Bool → Nat} {n : Nat} {V : Bool → Nat → Value} {X : Bool → Nat → List Nat} (h : WV B0 w0 w G n V X) {s s' : Bool} {x : Nat} (hx : x < n) : (V s x).ownBlock ≠ some (G s') := by
  intro e
  obtain ⟨c, f, hk⟩ := IN.OM.kind (h.own s x hx) _ e
  obtain ⟨c2, hg, _⟩ := h.blk s'
  rw [hg] at hk
  injection hk with hk
  injection hk with _ hk
  exact absurd hk (by decide)
/-- One list is longer by one. -/
theorem WV.push {B0 : Nat} {w0 w w1 : World} {G : Bool → Nat} {n : Nat} {V : Bool → Nat → Value} {X : Bool → Nat → List Nat} (h : WV B0 w0 w G n V X) (hB : B0 ≤ w.heap.size) {s : Bool} {x y : Nat} (hx : x < n) {v' : Value} (hO : IN.OM w1 B0 v' (ni (X s x ++ [y]))) (hg : Grew w (V s x) w1 v') :
    WV B0 w0 (w1.setCell ⟨G s, x, none⟩ v') G n (upV V s x v') (upV X s x (X s x ++ [y])) ∧
      ∀ (b : Nat) (c : Array Value) (t : TypeId) (f : Nat × Nat), w.heap[b]? = some (.cells c t f) → t ≠ 3 → t ≠ 41 → (w1.setCell ⟨G s, x, none⟩ v').heap[b]? = some (.cells c t f) := by
  have hGk : ∀ s', w1.heap[G s']? = w.heap[G s']? := fun s' => hg.grown.block _ (h.lt s') (fun e => h.typ hx e.symm)
  have hkeep : ∀ b, b ≠ G s → (w1.setCell ⟨G s, x, none⟩ v').heap[b]? = w1.heap[b]? := fun b hb => Below.heap_setCell _ _ _ b hb
  have hOb : ∀ q, v'.ownBlock = some q → q ≠ G s := fun q hq e => by
    obtain ⟨c, f, hk⟩ := IN.OM.kind hO _ hq
    obtain ⟨c2, hg2, _⟩ := h.blk s
    rw [e, hGk, hg2] at hk
    injection hk with hk
    injection hk with _ hk
    exact absurd hk (by decide)
  refine ⟨⟨fun s' => ?_, h.ne, h.lo, fun s' x' hx' => ?_, fun s1 x1 s2 x2 h1 h2 hne q hq1 hq2 => ?_, ?_⟩, fun b c t f hb ht1 ht2 => ?_⟩
  · have h1 : w1.rowIs (G s') 41 n (V s') := (h.blk s').of_block (hGk s')
    by_cases e : s' = s
    · subst e
      refine World.rowIs.congr (World.rowIs.set h1 x v') fun i hi => ?_
      by_cases e2 : i = x
      · subst e2; rw [if_pos rfl, upV_same]
      · rw [if_neg e2, upV_ne _ _ (fun _ => e2)]
    · have hgn : G s' ≠ G s := by
        cases s <;> cases s' <;> first | (exact absurd rfl e) | exact h.ne | exact fun q => h.ne q.symm
      refine World.rowIs.congr (h1.of_block (hkeep _ hgn)) fun i hi => ?_
      rw [upV_ne _ _ (fun q => absurd q e)]
  · by_cases e : s' = s ∧ x' = x
    · obtain ⟨rfl, rfl⟩ := e
      rw [upV_same, upV_same]
      exact owns_blk hO fun q hq => hkeep q (hOb q hq)
    · have e2 : s' = s → x' ≠ x := fun a b => e ⟨a, b⟩
      rw [upV_ne _ _ e2, upV_ne _ _ e2]
      have ho := h.own s' x' hx'
      refine owns_blk ho fun q hq => ?_
      obtain ⟨c, f, hk⟩ := IN.OM.kind ho _ hq
      rw [hkeep q (fun e3 => h.typ (s := s') (s' := s) hx' (by rw [hq, e3]))]
      exact hg.grown.block q (Array.getElem?_eq_some_iff.1 hk).1 (fun e3 => h.ap s' x' s x hx' hx e2 q hq e3.symm)
  · have key : ∀ s2 x2, x2 < n → (s2 = s → x2 ≠ x) → ∀ q, v'.ownBlock = some q → (V s2 x2).ownBlock = some q → False := fun s2 x2 h2 e2 q hv hq => by
      rcases hg.lies q hv with e | e
      · exact h.ap s x s2 x2 hx h2 (fun a b => e2 a.symm b.symm) q e hq
      · obtain ⟨c, f, hk⟩ := IN.OM.kind (h.own s2 x2 h2) _ hq
        have := (Array.getElem?_eq_some_iff.1 hk).1
        omega
    by_cases e1 : s1 = s ∧ x1 = x
    · obtain ⟨rfl, rfl⟩ := e1
      have e2 : s2 = s1 → x2 ≠ x1 := fun a b => hne a.symm b.symm
      rw [upV_same] at hq1
      rw [upV_ne _ _ e2] at hq2
      exact key s2 x2 h2 e2 q hq1 hq2
    · have e1' : s1 = s → x1 ≠ x := fun a b => e1 ⟨a, b⟩
      rw [upV_ne _ _ e1'] at hq1
      by_cases e2 : s2 = s ∧ x2 = x
      · obtain ⟨rfl, rfl⟩ := e2
        rw [upV_same] at hq2
        exact key s1 x1 h1 e1' q hq2 hq1
      · rw [upV_ne _ _ (fun a b => e2 ⟨a, b⟩)] at hq2
        exact h.ap s1 x1 s2 x2 h1 h2 hne q hq1 hq2
  · have h1 := hg.toBelow h.low hB (fun q hq => by
      obtain ⟨hle, _⟩ := World.ownsRow.lt (h.own s x hx) q hq
      exact hle)
    exact gb_below h1 (gb_set w1 (G s) x v') (h.lo s) (Nat.le_trans hB hg.grown.size)
  · have hbl := (Array.getElem?_eq_some_iff.1 hb).1
    rw [hkeep b (fun e => by
      obtain ⟨c2, hg2, _⟩ := h.blk s
      rw [e, hg2] at hb
      injection hb with hb
      injection hb with _ hb
      exact ht2 hb.symm)]
    rw [hg.grown.block b hbl (fun e => by
      obtain ⟨c2, f2, hk⟩ := IN.OM.kind (h.own s x hx) _ e.symm
      rw [hk] at hb
      injection hb with hb
      injection hb with _ hb
      exact ht1 hb.symm)]
    exact hb
/-- What one list's append leaves alone. -/
theorem WV.side {B0 : Nat} {w0 w w1 : World} {G : Bool → Nat} {n : Nat} {V : Bool → Nat → Value} {X : Bool → Nat → List Nat} (h : WV B0 w0 w G n V X) {s : Bool} {x : Nat} (hx : x < n) {v' : Value} (hg : Grew w (V s x) w1 v') :
    (∀ s' o, w1.cell? ⟨G s', o, none⟩ = w.cell? ⟨G s', o, none⟩) ∧ (∀ s' o, w1.frozen? ⟨G s', o, none⟩ = false) ∧ ∀ (b : Nat) (c : Array Value) (t : TypeId) (f : Nat × Nat), w.heap[b]? = some (.cells c t f) → t ≠ 3 → w1.heap[b]? = some (.cells c t f) := by
  have hGk : ∀ s', w1.heap[G s']? = w.heap[G s']? := fun s' => hg.grown.block _ (h.lt s') (fun e => h.typ hx e.symm)
  refine ⟨fun s' o => World.cell?_of_block (hGk s'), fun s' o => (World.rowIs.of_block (h.blk s') (hGk s')).frozen o, fun b c t f hb ht => ?_⟩
  rw [hg.grown.block b (Array.getElem?_eq_some_iff.1 hb).1 (fun e => by
    obtain ⟨c2, f2, hk⟩ := IN.OM.kind (h.own s x hx) _ e.symm
    rw [hk] at hb
    injection hb with hb
    injection hb with _ hb
    exact ht hb.symm)]
  exact hb
/-- Where edges lead to, and from. -/
def nx (E : List (Nat × Nat)) (x : Nat) : List Nat := (E.filter fun p => p.1 == x).map (·.2)
def bk (E : List (Nat × Nat)) (y : Nat) : List Nat := (E.filter fun p => p.2 == y).map (·.1)
def XX (E : List (Nat × Nat)) : Bool → Nat → List Nat := fun s x => if s then bk E x else nx E x
theorem XX_len (E : List (Nat × Nat)) (s : Bool) (x : Nat) : (XX E s x).length ≤ E.length := by
  unfold XX nx bk
  split <;> (rw [List.length_map]; exact List.length_filter_le _ _)
theorem XX_snoc (E : List (Nat × Nat)) (a b : Nat) : XX (E ++ [(a, b)]) = upV (upV (XX E) false a (XX E false a ++ [b])) true b (XX E true b ++ [a]) := by
  funext s x
  cases s
  · rw [upV_ne _ _ (fun e => by cases e)]
    by_cases e : x = a
    · subst e
      rw [upV_same]
      simp [XX, nx, List.filter_append]
    · rw [upV_ne _ _ (fun _ => e)]
      have : (a == x) = false := by rw [beq_eq_false_iff_ne]; exact fun q => e q.symm
      simp [XX, nx, List.filter_append, this]
  · by_cases e : x = b
    · subst e
      rw [upV_same]
      simp [XX, bk, List.filter_append]
    · rw [upV_ne _ _ (fun _ => e), upV_ne _ _ (fun q => by cases q)]
      have : (b == x) = false := by rw [beq_eq_false_iff_ne]; exact fun q => e q.symm
      simp [XX, bk, List.filter_append, this]
theorem XX_nil (s : Bool) (x : Nat) : XX [] s x = [] := by unfold XX nx bk; split <;> rfl
/-- Two rows that were made, of empty lists. -/
theorem WV.start {B0 : Nat} {w0 w : World} {N K n : Nat} (hN : w.rowIs N 41 n (fun _ => .slice none 0 0)) (hK : w.rowIs K 41 n (fun _ => .slice none 0 0)) (hne : N ≠ K) (h1 : B0 ≤ N) (h2 : B0 ≤ K) (hb : Below B0 w0 w) :
    WV B0 w0 w (fun s => if s then K else N) n (fun _ _ => .slice none 0 0) (XX []) :=
  ⟨fun s => by cases s; exact hN; exact hK, hne, fun s => by cases s; exact h1; exact h2, fun s x _ => by rw [XX_nil]; exact IN.OM.nil w B0, fun _ _ _ _ _ _ _ q hq => (by cases hq), hb⟩
end Go.Proofs.YtcdhblfefpkjgaaDoor
