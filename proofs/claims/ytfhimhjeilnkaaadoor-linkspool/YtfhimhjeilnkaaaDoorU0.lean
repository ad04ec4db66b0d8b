/-
  My own text: layer 19: a map in memory as a partial function; a look, a new entry, an entry turned, one taken out.
-/
import Derived.Test.YtfhimhjeilnkaaaDoorChecked
import Derived.Maps.Keyed
import Derived.DeepKeys4
import Derived.WalkKit
namespace Go.Proofs.YtfhimhjeilnkaaaDoor
open Go.RowKit Go.Extern Go.MapKept Go.ChangeMaps

/-- A map in memory: what it holds under its keys. -/
def MP {κ : Type} (ek : κ → Value) (ok : κ → Prop) (W : World) (b : Nat) (f : κ → Option Value) : Prop :=
  ∃ (es : Array MapEntry) (clock : Nat) (l : List (κ × Value)), W.heap[b]? = some (.map es clock) ∧ es.toList.map (fun e => (e.key, e.val)) = l.map (fun p => (ek p.1, p.2)) ∧ (∀ p ∈ l, ok p.1) ∧ (l.map (·.1)).Nodup ∧ ∀ k v, f k = some v ↔ (k, v) ∈ l
section
variable {κ : Type} {ek : κ → Value} {ok : κ → Prop}
theorem MP.map {W : World} {b : Nat} {f : κ → Option Value} (h : MP ek ok W b f) : ∃ es clock, W.heap[b]? = some (.map es clock) := by
  obtain ⟨es, clock, _, hb, _⟩ := h
  exact ⟨es, clock, hb⟩
theorem MP.lt {W : World} {b : Nat} {f : κ → Option Value} (h : MP ek ok W b f) : b < W.heap.size := by
  obtain ⟨es, clock, hb⟩ := h.map
  exact (Array.getElem?_eq_some_iff.1 hb).1
theorem MP.kept {W W' : World} {b : Nat} {f : κ → Option Value} (h : MP ek ok W b f) (e : W'.heap[b]? = W.heap[b]?) : MP ek ok W' b f := by
  obtain ⟨es, clock, l, hb, h2⟩ := h
  exact ⟨es, clock, l, e.trans hb, h2⟩
theorem MP.later {W W' : World} {b : Nat} {f : κ → Option Value} (h : MP ek ok W b f) (hb : Below W.heap.size W W') : MP ek ok W' b f := h.kept (hb.block b h.lt)
theorem MP.made (W : World) : MP ek ok (W.alloc (.map #[] 0)) W.heap.size (fun _ => none) := ⟨#[], 0, [], (heap_alloc W _).1, rfl, (fun p hp => by cases hp), by simp, fun k v => by simp⟩
variable {P : Program} {tm tk tv : TypeId}
/-- What is found. -/
theorem MP.find (hK : Go.Maps.Keyed P tk) (hko : ∀ k, ok k → ∃ l, keyOf P tk (ek k) = some l) (hin : ∀ a b, ek a = ek b → a = b) {l : List (κ × Value)} {es : List MapEntry} (he : es.map (fun e => (e.key, e.val)) = l.map (fun p => (ek p.1, p.2))) (hk : ∀ p ∈ l, ok p.1) (k : κ) (h : ok k) (W : World) :
    ((∀ p ∈ l, p.1 ≠ k) ∧ (Instr.findKey tk (ek k) es).run P W = .ok none W) ∨
    ∃ j v, (Instr.findKey tk (ek k) es).run P W = .ok (some (j, v)) W ∧ l[j]? = some (k, v) := by
  obtain ⟨kl, hkl⟩ := hko k h
  have hin' : ∀ e ∈ es, ∃ p ∈ l, e.key = ek p.1 ∧ e.val = p.2 := fun e hm => by
    have : (e.key, e.val) ∈ l.map (fun p => (ek p.1, p.2)) := by rw [← he]; exact List.mem_map.2 ⟨e, hm, rfl⟩
    obtain ⟨p, hp, e1⟩ := List.mem_map.1 this
    injection e1 with e2 e3
    exact ⟨p, hp, e2.symm, e3.symm⟩
  rcases hK.find W hkl es (fun e hm => by
    obtain ⟨p, hp, e1, _⟩ := hin' e hm
    rw [e1]; exact hko p.1 (hk p hp)) with ⟨h1, h2⟩ | ⟨j, e, h1, h2, h3⟩
  · refine .inl ⟨fun p hp e1 => ?_, h1⟩
    have : (ek p.1, p.2) ∈ es.map (fun e => (e.key, e.val)) := by rw [he]; exact List.mem_map.2 ⟨p, hp, rfl⟩
    obtain ⟨e, hm, e2⟩ := List.mem_map.1 this
    injection e2 with e3 _
    exact h2 e hm (by rw [e3, e1])
  · have hj : (l.map (fun p => (ek p.1, p.2)))[j]? = some (e.key, e.val) := by rw [← he, List.getElem?_map, h2]; rfl
    rw [List.getElem?_map] at hj
    obtain ⟨p, hp, e1⟩ := Option.map_eq_some_iff.1 hj
    injection e1 with e2 e3
    have hpk : p.1 = k := hin _ _ (e2.trans h3)
    exact .inr ⟨j, p.2, by rw [h1, e3], by rw [hp, ← hpk]⟩
theorem nd_one {l : List (κ × Value)} (hn : (l.map (·.1)).Nodup) : ∀ {a : κ} {b c : Value}, (a, b) ∈ l → (a, c) ∈ l → b = c := by
  induction l with
  | nil => intro a b c h; cases h
  | cons p r ih =>
    rw [List.map_cons, List.nodup_cons] at hn
    intro a b c h1 h2
    rcases List.mem_cons.1 h1 with e1 | e1 <;> rcases List.mem_cons.1 h2 with e2 | e2
    · rw [← e1] at e2; injection e2 with _ e; exact e.symm
    · exact absurd (List.mem_map.2 ⟨_, e2, by rw [← e1]⟩) hn.1
    · exact absurd (List.mem_map.2 ⟨_, e1, by rw [← e2]⟩) hn.1
    · exact ih hn.2 e1 e2
/-- A look. -/
theorem MP.look (hu : P.underlying tm = some (.map tk tv)) (hK : Go.Maps.Keyed P tk) (hko : ∀ k, ok k → ∃ l, keyOf P tk (ek k) = some l) (hin : ∀ a b, ek a = ek b → a = b) {z : Value} (hz : ∀ W, (zeroValue tv).run P W = .ok z W) {W : World} {b : Nat} {f : κ → Option Value} (h : MP ek ok W b f) {k : κ} (hk : ok k) (c : Bool) :
    (Instr.lookup tm (.map (some b)) (ek k) c).run P W = .ok (if c then .tuple #[(f k).getD z, .bool (f k).isSome] else (f k).getD z) W := by
  obtain ⟨es, clock, l, hb, he, h1, h2, hf⟩ := h
  obtain ⟨kl, hkl⟩ := hko k hk
  rcases MP.find hK hko hin he h1 k hk W with ⟨hn, hr⟩ | ⟨j, v, hr, hj⟩
  · have e : f k = none := by
      cases hv : f k with
      | none => rfl
      | some v => exact absurd rfl (hn _ ((hf k v).1 hv))
    simp [Instr.lookup, run_underlying hu, Go.MapKept.run_getObj_map hb, hK.check W _ hkl, hr, hz, Result.andThen, e]
  · have e : f k = some v := (hf k v).2 (List.mem_of_getElem? hj)
    simp [Instr.lookup, run_underlying hu, Go.MapKept.run_getObj_map hb, hK.check W _ hkl, hr, Result.andThen, e]
theorem er_map1 {α β : Type} (f : α → β) : ∀ (l : List α) (j : Nat), (l.eraseIdx j).map f = (l.map f).eraseIdx j
  | [], _ => rfl
  | _ :: _, 0 => rfl
  | x :: r, j + 1 => by simp only [List.eraseIdx_cons_succ, List.map_cons, er_map1 f r j]
theorem mem_er {l : List (κ × Value)} (hn : (l.map (·.1)).Nodup) {j : Nat} {k : κ} {v : Value} (hj : l[j]? = some (k, v)) (p : κ × Value) : p ∈ l.eraseIdx j ↔ p ∈ l ∧ p.1 ≠ k := by
  induction l generalizing j with
  | nil => simp at hj
  | cons x r ih =>
    rw [List.map_cons, List.nodup_cons] at hn
    cases j with
    | zero =>
      obtain rfl : x = (k, v) := Option.some.inj hj
      rw [List.eraseIdx_cons_zero]
      constructor
      · intro h
        exact ⟨List.mem_cons_of_mem _ h, fun e => hn.1 (List.mem_map.2 ⟨p, h, e⟩)⟩
      · rintro ⟨h, hne⟩
        rcases List.mem_cons.1 h with e | e
        · exact absurd (by rw [e]) hne
        · exact e
    | succ j =>
      rw [List.getElem?_cons_succ] at hj
      have ih' := ih hn.2 hj
      rw [List.eraseIdx_cons_succ, List.mem_cons, ih', List.mem_cons]
      constructor
      · rintro (rfl | ⟨h, hne⟩)
        · exact ⟨.inl rfl, fun e => hn.1 (List.mem_map.2 ⟨_, List.mem_of_getElem? hj, e.symm⟩)⟩
        · exact ⟨.inr h, hne⟩
      · rintro ⟨h | h, hne⟩
        · exact .inl h
        · exact .inr ⟨h, hne⟩
theorem nd_er {l : List (κ × Value)} (hn : (l.map (·.1)).Nodup) (j : Nat) : ((l.eraseIdx j).map (·.1)).Nodup := by
  rw [er_map1]
  exact hn.sublist (List.eraseIdx_sublist _ _)
/-- An entry is taken out, if it is there. -/
theorem MP.del [DecidableEq κ] (hu : P.underlying tm = some (.map tk tv)) (hK : Go.Maps.Keyed P tk) (hko : ∀ k, ok k → ∃ l, keyOf P tk (ek k) = some l) (hin : ∀ a b, ek a = ek b → a = b) {W : World} {b : Nat} {f : κ → Option Value} (h : MP ek ok W b f) {k : κ} (hk : ok k) (tk' ty : TypeId) :
    ∃ W', (Builtin.delete_ #[tm, tk'] ty #[.map (some b), ek k]).run P W = .ok (.tuple #[]) W' ∧ MP ek ok W' b (fun x => if x = k then none else f x) ∧ W.grownBy W' (some b) ∧ W'.heap.size = W.heap.size := by
  obtain ⟨es, clock, l, hb, he, h1, h2, hf⟩ := h
  obtain ⟨kl, hkl⟩ := hko k hk
  rcases MP.find hK hko hin he h1 k hk W with ⟨hn, hr⟩ | ⟨j, v, hr, hj⟩
  · refine ⟨setBlock W b (.map es clock), ?_, ⟨es, clock, l, heap_setBlock_same hb _, he, h1, h2, fun x v => ?_⟩, ⟨rfl, rfl, rfl, by simp [setBlock], fun i _ hi => heap_setBlock_other hb _ (fun e => hi (by rw [e]))⟩, by simp [setBlock]⟩
    · simp [Builtin.delete_, run_underlying hu, MapKept.run_getObj_map hb, hK.check W _ hkl, hr, MapKept.run_setObj_map _ hb, Result.andThen, setBlock]
    · dsimp only
      by_cases e : x = k
      · subst e
        simp only [if_pos]
        constructor
        · intro h; cases h
        · intro h; exact absurd rfl (hn _ h)
      · rw [if_neg e]; exact hf x v
  · have hjl : j < l.length := (List.getElem?_eq_some_iff.1 hj).1
    have hjs : j < es.size := by
      have := congrArg List.length he
      simp at this; omega
    have hsub : (es.eraseIdxIfInBounds j).toList = es.toList.eraseIdx j := by
      unfold Array.eraseIdxIfInBounds
      rw [dif_pos hjs]
      simp
    refine ⟨setBlock W b (.map (es.eraseIdxIfInBounds j) clock), ?_, ⟨_, _, l.eraseIdx j, heap_setBlock_same hb _, ?_, fun p hp => h1 p ((mem_er h2 hj p).1 hp).1, nd_er h2 j, fun x u => ?_⟩, ⟨rfl, rfl, rfl, by simp [setBlock], fun i _ hi => heap_setBlock_other hb _ (fun e => hi (by rw [e]))⟩, by simp [setBlock]⟩
    · simp [Builtin.delete_, run_underlying hu, MapKept.run_getObj_map hb, hK.check W _ hkl, hr, MapKept.run_setObj_map _ hb, Result.andThen, setBlock]
    · rw [hsub, er_map1, he, er_map1]
    · rw [mem_er h2 hj]
      dsimp only
      by_cases e : x = k
      · subst e
        simp
      · rw [if_neg e, hf x u]
        exact ⟨fun h => ⟨h, e⟩, fun h => h.1⟩
theorem mem_set1 {l : List (κ × Value)} (hn : (l.map (·.1)).Nodup) {j : Nat} {k : κ} {v u : Value} (hj : l[j]? = some (k, v)) (p : κ × Value) : p ∈ l.set j (k, u) ↔ p = (k, u) ∨ (p ∈ l ∧ p.1 ≠ k) := by
  induction l generalizing j with
  | nil => simp at hj
  | cons x r ih =>
    rw [List.map_cons, List.nodup_cons] at hn
    cases j with
    | zero =>
      obtain rfl : x = (k, v) := Option.some.inj hj
      rw [List.set_cons_zero, List.mem_cons]
      constructor
      · rintro (h | h)
        · exact .inl h
        · exact .inr ⟨List.mem_cons_of_mem _ h, fun e => hn.1 (List.mem_map.2 ⟨p, h, e⟩)⟩
      · rintro (h | ⟨h, hne⟩)
        · exact .inl h
        · rcases List.mem_cons.1 h with e | e
          · exact absurd (by rw [e]) hne
          · exact .inr e
    | succ j =>
      rw [List.getElem?_cons_succ] at hj
      rw [List.set_cons_succ, List.mem_cons, ih hn.2 hj, List.mem_cons]
      constructor
      · rintro (rfl | h | ⟨h, hne⟩)
        · exact .inr ⟨.inl rfl, fun e => hn.1 (List.mem_map.2 ⟨_, List.mem_of_getElem? hj, e.symm⟩)⟩
        · exact .inl h
        · exact .inr ⟨.inr h, hne⟩
      · rintro (h | ⟨h | h, hne⟩)
        · exact .inr (.inl h)
        · exact .inl h
        · exact .inr (.inr ⟨h, hne⟩)
theorem set_keys {l : List (κ × Value)} {j : Nat} {k : κ} {v : Value} (u : Value) (hj : l[j]? = some (k, v)) : (l.set j (k, u)).map (·.1) = l.map (·.1) := by
  rw [List.map_set]
  refine List.ext_getElem? (fun i => ?_)
  by_cases e : j = i
  · subst e
    rw [List.getElem?_set_self (by rw [List.length_map]; exact (List.getElem?_eq_some_iff.1 hj).1), List.getElem?_map, hj]; rfl
  · rw [List.getElem?_set_ne e]
/-- An entry is laid down. -/
theorem MP.put [DecidableEq κ] (hu : P.underlying tm = some (.map tk tv)) (hK : Go.Maps.Keyed P tk) (hko : ∀ k, ok k → ∃ l, keyOf P tk (ek k) = some l) (hin : ∀ a b, ek a = ek b → a = b) (hst : ∀ k W, (Instr.keyThatStays (ek k) (ek k)).run P W = .ok (ek k) W) {W : World} {b : Nat} {f : κ → Option Value} (h : MP ek ok W b f) {k : κ} (hk : ok k) (u : Value) :
    ∃ W', (Instr.mapUpdate tm (.map (some b)) (ek k) u).run P W = .ok () W' ∧ MP ek ok W' b (fun x => if x = k then some u else f x) ∧ W.grownBy W' (some b) ∧ W'.heap.size = W.heap.size := by
  obtain ⟨es, clock, l, hb, he, h1, h2, hf⟩ := h
  obtain ⟨kl, hkl⟩ := hko k hk
  rcases MP.find hK hko hin he h1 k hk W with ⟨hn, hr⟩ | ⟨j, v, hr, hj⟩
  · refine ⟨setBlock W b (.map (es.push ⟨ek k, u, clock⟩) (clock + 1)), ?_, ⟨_, _, l ++ [(k, u)], heap_setBlock_same hb _, ?_, ?_, ?_, fun x v => ?_⟩, ⟨rfl, rfl, rfl, by simp [setBlock], fun i _ hi => heap_setBlock_other hb _ (fun e => hi (by rw [e]))⟩, by simp [setBlock]⟩
    · simp [Instr.mapUpdate, run_underlying hu, MapKept.run_getObj_map hb, hK.check W _ hkl, hr, Result.andThen, MapKept.run_setObj_map _ hb, setBlock]
    · simp [he]
    · intro p hp
      rcases List.mem_append.1 hp with hp | hp
      · exact h1 p hp
      · rw [List.mem_singleton.1 hp]; exact hk
    · rw [List.map_append, List.nodup_append]
      refine ⟨h2, by simp, ?_⟩
      intro x hx y hy e
      obtain ⟨p, hp, rfl⟩ := List.mem_map.1 hx
      have hy' : y = k := by simpa using hy
      exact hn p hp (by rw [e, hy'])
    · rw [List.mem_append, List.mem_singleton]
      dsimp only
      by_cases e : x = k
      · subst e
        simp only [if_pos]
        constructor
        · intro h; exact .inr (by rw [Option.some.inj h])
        · rintro (h | h)
          · exact absurd rfl (hn _ h)
          · injection h with _ h; rw [h]
      · rw [if_neg e, hf x v]
        constructor
        · exact .inl
        · rintro (h | h)
          · exact h
          · injection h with h _; exact absurd h e
  · have hej : ∃ e, es[j]? = some e ∧ e.key = ek k ∧ e.val = v := by
      have : (es.toList.map (fun e => (e.key, e.val)))[j]? = some (ek k, v) := by rw [he, List.getElem?_map, hj]; rfl
      rw [List.getElem?_map, Array.getElem?_toList] at this
      obtain ⟨e, h3, h4⟩ := Option.map_eq_some_iff.1 this
      injection h4 with h5 h6
      exact ⟨e, h3, h5, h6⟩
    obtain ⟨e, h3, h5, h6⟩ := hej
    have hmd : (es.modify j fun e => { e with key := ek k, val := u }).toList.map (fun e => (e.key, e.val)) = (l.set j (k, u)).map (fun p => (ek p.1, p.2)) := by
      refine List.ext_getElem? (fun i => ?_)
      rw [List.getElem?_map, Array.getElem?_toList, Array.getElem?_modify, List.getElem?_map]
      by_cases e1 : j = i
      · subst e1
        rw [if_pos rfl, h3, List.getElem?_set_self (List.getElem?_eq_some_iff.1 hj).1]; rfl
      · rw [if_neg e1, List.getElem?_set_ne e1]
        have := congrArg (fun l => l[i]?) he
        simp only [List.getElem?_map, Array.getElem?_toList] at this
        exact this
    refine ⟨setBlock W b (.map (es.modify j fun e => { e with key := ek k, val := u }) clock), ?_, ⟨_, _, l.set j (k, u), heap_setBlock_same hb _, hmd, fun p hp => ?_, by rw [set_keys u hj]; exact h2, fun x v' => ?_⟩, ⟨rfl, rfl, rfl, by simp [setBlock], fun i _ hi => heap_setBlock_other hb _ (fun e => hi (by rw [e]))⟩, by simp [setBlock]⟩
    · simp [Instr.mapUpdate, run_underlying hu, MapKept.run_getObj_map hb, hK.check W _ hkl, hr, h3, h5, hst, Result.andThen, MapKept.run_setObj_map _ hb, setBlock]
    · rcases (mem_set1 h2 hj p).1 hp with rfl | h
      · exact hk
      · exact h1 p h.1
    · rw [mem_set1 h2 hj]
      dsimp only
      by_cases e : x = k
      · subst e
        simp only [if_pos]
        constructor
        · intro h; exact .inl (by rw [Option.some.inj h])
        · rintro (h | ⟨_, h⟩)
          · injection h with _ h; rw [h]
          · exact absurd rfl h
      · rw [if_neg e, hf x v']
        constructor
        · intro h; exact .inr ⟨h, e⟩
        · rintro (h | h)
          · injection h with h _; exact absurd h e
          · exact h.1
end
end Go.Proofs.YtfhimhjeilnkaaaDoor
