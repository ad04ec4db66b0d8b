/-
  My own text: LV4, U0, LVA in one.
-/
import Derived.Test.YtcdhblfefpkjgaaDoorLK1
import Derived.Test.YtcdhblfefpkjgaaDoorChecked
import Derived.Maps.Keyed
import Derived.DeepKeys4
import Derived.WalkKit
namespace Go.Proofs.YtcdhblfefpkjgaaDoor
open Go.RowKit

/-- A row of n notices whose links are of these lengths. -/
def NK (w : World) (v : Value) (n : Nat) (K : Nat → Nat) : Prop := ∃ a cap, v = .slice a n cap ∧ (n = 0 ∨ ∃ b off, a = some ⟨b, off, none⟩ ∧ b < w.heap.size ∧ ∀ x, x < n → ∃ la lc, w.cell? ⟨b, off + x * 27 + 26, none⟩ = some (.slice la (K x) lc))
def tooB (n : Nat) (K : Nat → Nat) : Bool := (List.range n).any (fun x => decide (16 < K x)) || decide (4096 < n)
theorem tooB_yes {n x : Nat} {K : Nat → Nat} (hx : x < n) (h : 16 < K x) : tooB n K = true := by
  unfold tooB
  rw [Bool.or_eq_true, List.any_eq_true]
  exact .inl ⟨x, List.mem_range.2 hx, decide_eq_true h⟩
theorem tooB_rest {n : Nat} {K : Nat → Nat} (h : ∀ x, x < n → ¬ 16 < K x) : tooB n K = decide (4096 < n) := by
  unfold tooB
  have e : (List.range n).any (fun x => decide (16 < K x)) = false := by
    rw [List.any_eq_false]
    intro x hx
    rw [decide_eq_true_eq]
    exact h x (List.mem_range.1 hx)
  rw [e, Bool.false_or]
set_option maxRecDepth 100000 in
set_option maxHeartbeats 1000000 in
theorem tooMuch_any (n : Nat) (v : Value) (K : Nat → Nat) (w : World) (hv : NK w v n K) (hn : n ≤ 1000000) (hK : ∀ x, x < n → K x ≤ 1000000) :
    Calls Tryd.prog 22 #[v] w fun e w' => e = .returned (.bool (tooB n K)) ∧ w' = w := by
  obtain ⟨a, cap, rfl, hr⟩ := hv
  have HR := hide hr
  have HN := hide (And.intro hn hK)
  clear hr hn hK
  go_enter Tryd.func22, Tryd.ntmps22
  go_wp2_with fail
  go_loopw [6] (fun i wr => ∃ j : Nat, i = .int .i64 (j : Int) ∧ Hid (j ≤ n ∧ ∀ x, x < j → ¬ 16 < K x) ∧ wr = w) (fun i _ => n - (intOf i).toNat)
  case atStart => exact ⟨0, rfl, hide ⟨Nat.zero_le _, fun x h => absurd h (Nat.not_lt_zero x)⟩, rfl⟩
  case round =>
    obtain ⟨j, rfl, HJ, rfl⟩ := hrel
    by_cases hlt : j < n
    · obtain ⟨b, off, rfl, hgl, hc⟩ := HR.out.resolve_left (by omega)
      obtain ⟨la, lc, c0⟩ := hc j hlt
      have hKj := HN.out.2 j hlt
      have wk : wrap64 ((j : Int) + 1) = (j : Int) + 1 := by have := HN.out.1; unfold wrap64; omega
      clear hc hgl
      by_cases h16 : 16 < K j
      · have HT := hide (tooB_yes hlt h16)
        go_wp2_with fail
        go_ret
        exact ⟨by rw [HT.out]; rfl, rfl⟩
      · go_wp2_with fail
        go_roundw
        case rel => exact ⟨j + 1, by go_num, hide ⟨hlt, fun x hx => by
          rcases Nat.lt_or_ge x j with h | h
          · exact HJ.out.2 x h
          · rw [show x = j by omega]; exact h16⟩, by first | trivial | rfl⟩
        case measure => first | (rw [wk]; simp [intOf]; omega) | (simp [intOf]; omega)
    · obtain rfl : j = n := by have := HJ.out.1; omega
      have HT : Hid (tooB j K = decide ((4096 : Int) < (j : Int))) := hide (by rw [tooB_rest HJ.out.2]; exact decide_eq_decide.2 (by omega))
      go_wp2_with fail
      go_ret
      exact ⟨by rw [HT.out]; rfl, rfl⟩
end Go.Proofs.YtcdhblfefpkjgaaDoor
namespace Go.Proofs.YtcdhblfefpkjgaaDoor
open Go.RowKit Go.Extern Go.MapKept Go.ChangeMaps

/-- A map in memory: what it holds under its keys. -/
def MP {κ : Type} (ek : κ → Value) (ok : κ → Prop) (W : World) (b : Nat) (f : κ → Option Value) : Prop :=
  ∃ (es : Array MapEntry) (clock : Nat) (l : List (κ × Value)), W.heap[b]? = some (.map es clock) ∧ es.toList.map (fun e => (e.key, e.val)) = l.map (fun p => (ek p.1, p.2)) ∧ (∀ p ∈ l, ok p.1) ∧ (l.map (·.1)).Nodup ∧ ∀ k v, f k = some v ↔ (k, v) ∈ l
section
variable {κ : Type} {ek : κ → Value} {ok : κ → Prop}
theorem MP.map {W : World} {b : Nat} {f : κ → Option Value} (h : MP ek ok W b f) : ∃ es clock, W.heap[b]? = some (.map es clock) := by
  obtain ⟨es, clock, _, hb, _⟩ := h
  exact ⟨es, clock, hb⟩
theorem MP.lt {W : World} {b : Nat} {f : κ → Option Value} (h : MP ek ok W b f) : b < W.heap.size := by
  obtain ⟨es, clock, hb⟩ := h.map
  exact (Array.getElem?_eq_some_iff.1 hb).1
theorem MP.kept {W W' : World} {b : Nat} {f : κ → Option Value} (h : MP ek ok W b f) (e : W'.heap[b]? = W.heap[b]?) : MP ek ok W' b f := by
  obtain ⟨es, clock, l, hb, h2⟩ := h
  exact ⟨es, clock, l, e.trans hb, h2⟩
theorem MP.later {W W' : World} {b : Nat} {f : κ → Option Value} (h : MP ek ok W b f) (hb : Below W.heap.size W W') : MP ek ok W' b f := h.kept (hb.block b h.lt)
theorem MP.made (W : World) : MP ek ok (W.alloc (.map #[] 0)) W.heap.size (fun _ => none) := ⟨#[], 0, [], (heap_alloc W _).1, rfl, (fun p hp => by cases hp), by simp, fun k v => by simp⟩
variable {P : Program} {tm tk tv : TypeId}
/-- What is found. -/
theorem MP.find (hK : Go.Maps.Keyed P tk) (hko : ∀ k, ok k → ∃ l, keyOf P tk (ek k) = some l) (hin : ∀ a b, ek a = ek b → a = b) {l : List (κ × Value)} {es : List MapEntry} (he : es.map (fun e => (e.key, e.val)) = l.map (fun p => (ek p.1, p.2))) (hk : ∀ p ∈ l, ok p.1) (k : κ) (h : ok k) (W : World) :
    ((∀ p ∈ l, p.1 ≠ k) ∧ (Instr.findKey tk (ek k) es).run P W = .ok none W) ∨
    ∃ j v, (Instr.findKey tk (ek k) es).run P W = .ok (some (j, v)) W ∧ l[j]? = some (k, v) := by
  obtain ⟨kl, hkl⟩ := hko k h
  have hin' : ∀ e ∈ es, ∃ p ∈ l, e.key = ek p.1 ∧ e.val = p.2 := fun e hm => by
    have : (e.key, e.val) ∈ l.map (fun p => (ek p.1, p.2)) := by rw [← he]; exact List.mem_map.2 ⟨e, hm, rfl⟩
    obtain ⟨p, hp, e1⟩ := List.mem_map.1 this
    injection e1 with e2 e3
    exact ⟨p, hp, e2.symm, e3.symm⟩
  rcases hK.find W hkl es (fun e hm => by
    obtain ⟨p, hp, e1, _⟩ := hin' e hm
    rw [e1]; exact hko p.1 (hk p hp)) with ⟨h1, h2⟩ | ⟨j, e, h1, h2, h3⟩
  · refine .inl ⟨fun p hp e1 => ?_, h1⟩
    have : (ek p.1, p.2) ∈ es.map (fun e => (e.key, e.val)) := by rw [he]; exact List.mem_map.2 ⟨p, hp, rfl⟩
    obtain ⟨e, hm, e2⟩ := List.mem_map.1 this
    injection e2 with e3 _
    exact h2 e hm (by rw [e3, e1])
  · have hj : (l.map (fun p => (ek p.1, p.2)))[j]? = some (e.key, e.val) := by rw [← he, List.getElem?_map, h2]; rfl
    rw [List.getElem?_map] at hj
    obtain ⟨p, hp, e1⟩ := Option.map_eq_some_iff.1 hj
    injection e1 with e2 e3
    have hpk : p.1 = k := hin _ _ (e2.trans h3)
    exact .inr ⟨j, p.2, by rw [h1, e3], by rw [hp, ← hpk]⟩
theorem nd_one {l : List (κ × Value)} (hn : (l.map (·.1)).Nodup) : ∀ {a : κ} {b c : Value}, (a, b) ∈ l → (a, c) ∈ l → b = c := by
  induction l with
  | nil => intro a b c h; cases h
  | cons p r ih =>
    rw [List.map_cons, List.nodup_cons] at hn
    intro a b c h1 h2
    rcases List.mem_cons.1 h1 with e1 | e1 <;> rcases List.mem_cons.1 h2 with e2 | e2
    · rw [← e1] at e2; injection e2 with _ e; exact e.symm
    · exact absurd (List.mem_map.2 ⟨_, e2, by rw [← e1]⟩) hn.1
    · exact absurd (List.mem_map.2 ⟨_, e1, by rw [← e2]⟩) hn.1
    · exact ih hn.2 e1 e2
/-- A look. -/
theorem MP.look (hu : P.underlying tm = some (.map tk tv)) (hK : Go.Maps.Keyed P tk) (hko : ∀ k, ok k → ∃ l, keyOf P tk (ek k) = some l) (hin : ∀ a b, ek a = ek b → a = b) {z : Value} (hz : ∀ W, (zeroValue tv).run P W = .ok z W) {W : World} {b : Nat} {f : κ → Option Value} (h : MP ek ok W b f) {k : κ} (hk : ok k) (c : Bool) :
    (Instr.lookup tm (.map (some b)) (ek k) c).run P W = .ok (if c then .tuple #[(f k).getD z, .bool (f k).isSome] else (f k).getD z) W := by
  obtain ⟨es, clock, l, hb, he, h1, h2, hf⟩ := h
  obtain ⟨kl, hkl⟩ := hko k hk
  rcases MP.find hK hko hin he h1 k hk W with ⟨hn, hr⟩ | ⟨j, v, hr, hj⟩
  · have e : f k = none := by
      cases hv : f k with
      | none => rfl
      | some v => exact absurd rfl (hn _ ((hf k v).1 hv))
    simp [Instr.lookup, run_underlying hu, Go.MapKept.run_getObj_map hb, hK.check W _ hkl, hr, hz, Result.andThen, e]
  · have e : f k = some v := (hf k v).2 (List.mem_of_getElem? hj)
    simp [Instr.lookup, run_underlying hu, Go.MapKept.run_getObj_map hb, hK.check W _ hkl, hr, Result.andThen, e]
theorem er_map1 {α β : Type} (f : α → β) : ∀ (l : List α) (j : Nat), (l.eraseIdx j).map f = (l.map f).eraseIdx j
  | [], _ => rfl
  | _ :: _, 0 => rfl
  | x :: r, j + 1 => by simp only [List.eraseIdx_cons_succ, List.map_cons, er_map1 f r j]
theorem mem_er {l : List (κ × Value)} (hn : (l.map (·.1)).Nodup) {j : Nat} {k : κ} {v : Value} (hj : l[j]? = some (k, v)) (p : κ × Value) : p ∈ l.eraseIdx j ↔ p ∈ l ∧ p.1 ≠ k := by
  induction l generalizing j with
  | nil => simp at hj
  | cons x r ih =>
    rw [List.map_cons, List.nodup_cons] at hn
    cases j with
    | zero =>
      obtain rfl : x = (k, v) := Option.some.inj hj
      rw [List.eraseIdx_cons_zero]
      constructor
      · intro h
        exact ⟨List.mem_cons_of_mem _ h, fun e => hn.1 (List.mem_map.2 ⟨p, h, e⟩)⟩
      · rintro ⟨h, hne⟩
        rcases List.mem_cons.1 h with e | e
        · exact absurd (by rw [e]) hne
        · exact e
    | succ j =>
      rw [List.getElem?_cons_succ] at hj
      have ih' := ih hn.2 hj
      rw [List.eraseIdx_cons_succ, List.mem_cons, ih', List.mem_cons]
      constructor
      · rintro (rfl | ⟨h, hne⟩)
        · exact ⟨.inl rfl, fun e => hn.1 (List.mem_map.2 ⟨_, List.mem_of_getElem? hj, e.symm⟩)⟩
        · exact ⟨.inr h, hne⟩
      · rintro ⟨h | h, hne⟩
        · exact .inl h
        · exact .inr ⟨h, hne⟩
theorem nd_er {l : List (κ × Value)} (hn : (l.map (·.1)).Nodup) (j : Nat) : ((l.eraseIdx j).map (·.1)).Nodup := by
  rw [er_map1]
  exact hn.sublist (List.eraseIdx_sublist _ _)
/-- An entry is taken out, if it is there. -/
theorem MP.del [DecidableEq κ] (hu : P.underlying tm = some (.map tk tv)) (hK : Go.Maps.Keyed P tk) (hko : ∀ k, ok k → ∃ l, keyOf P tk (ek k) = some l) (hin : ∀ a b, ek a = ek b → a = b) {W : World} {b : Nat} {f : κ → Option Value} (h : MP ek ok W b f) {k : κ} (hk : ok k) (tk' ty : TypeId) :
    ∃ W', (Builtin.delete_ #[tm, tk'] ty #[.map (some b), ek k]).run P W = .ok (.tuple #[]) W' ∧ MP ek ok W' b (fun x => if x = k then none else f x) ∧ W.grownBy W' (some b) ∧ W'.heap.size = W.heap.size := by
  obtain ⟨es, clock, l, hb, he, h1, h2, hf⟩ := h
  obtain ⟨kl, hkl⟩ := hko k hk
  rcases MP.find hK hko hin he h1 k hk W with ⟨hn, hr⟩ | ⟨j, v, hr, hj⟩
  · refine ⟨setBlock W b (.map es clock), ?_, ⟨es, clock, l, heap_setBlock_same hb _, he, h1, h2, fun x v => ?_⟩, ⟨rfl, rfl, rfl, by simp [setBlock], fun i _ hi => heap_setBlock_other hb _ (fun e => hi (by rw [e]))⟩, by simp [setBlock]⟩
    · simp [Builtin.delete_, run_underlying hu, MapKept.run_getObj_map hb, hK.check W _ hkl, hr, MapKept.run_setObj_map _ hb, Result.andThen, setBlock]
    · dsimp only
      by_cases e : x = k
      · subst e
        simp only [if_pos]
        constructor
        · intro h; cases h
        · intro h; exact absurd rfl (hn _ h)
      · rw [if_neg e]; exact hf x v
  · have hjl : j < l.length := (List.getElem?_eq_some_iff.1 hj).1
    have hjs : j < es.size := by
      have := congrArg List.length he
      simp at this; omega
    have hsub : (es.eraseIdxIfInBounds j).toList = es.toList.eraseIdx j := by
      unfold Array.eraseIdxIfInBounds
      rw [dif_pos hjs]
      simp
    refine ⟨setBlock W b (.map (es.eraseIdxIfInBounds j) clock), ?_, ⟨_, _, l.eraseIdx j, heap_setBlock_same hb _, ?_, fun p hp => h1 p ((mem_er h2 hj p).1 hp).1, nd_er h2 j, fun x u => ?_⟩, ⟨rfl, rfl, rfl, by simp [setBlock], fun i _ hi => heap_setBlock_other hb _ (fun e => hi (by rw [e]))⟩, by simp [setBlock]⟩
    · simp [Builtin.delete_, run_underlying hu, MapKept.run_getObj_map hb, hK.check W _ hkl, hr, MapKept.run_setObj_map _ hb, Result.andThen, setBlock]
    · rw [hsub, er_map1, he, er_map1]
    · rw [mem_er h2 hj]
      dsimp only
      by_cases e : x = k
      · subst e
        simp
      · rw [if_neg e, hf x u]
        exact ⟨fun h => ⟨h, e⟩, fun h => h.1⟩
theorem mem_set1 {l : List (κ × Value)} (hn : (l.map (·.1)).Nodup) {j : Nat} {k : κ} {v u : Value} (hj : l[j]? = some (k, v)) (p : κ × Value) : p ∈ l.set j (k, u) ↔ p = (k, u) ∨ (p ∈ l ∧ p.1 ≠ k) := by
  induction l generalizing j with
  | nil => simp at hj
  | cons x r ih =>
    rw [List.map_cons, List.nodup_cons] at hn
    cases j with
    | zero =>
      obtain rfl : x = (k, v) := Option.some.inj hj
      rw [List.set_cons_zero, List.mem_cons]
      constructor
      · rintro (h | h)
        · exact .inl h
        · exact .inr ⟨List.mem_cons_of_mem _ h, fun e => hn.1 (List.mem_map.2 ⟨p, h, e⟩)⟩
      · rintro (h | ⟨h, hne⟩)
        · exact .inl h
        · rcases List.mem_cons.1 h with e | e
          · exact absurd (by rw [e]) hne
          · exact .inr e
    | succ j =>
      rw [List.getElem?_cons_succ] at hj
      rw [List.set_cons_succ, List.mem_cons, ih hn.2 hj, List.mem_cons]
      constructor
      · rintro (rfl | h | ⟨h, hne⟩)
        · exact .inr ⟨.inl rfl, fun e => hn.1 (List.mem_map.2 ⟨_, List.mem_of_getElem? hj, e.symm⟩)⟩
        · exact .inl h
        · exact .inr ⟨.inr h, hne⟩
      · rintro (h | ⟨h | h, hne⟩)
        · exact .inr (.inl h)
        · exact .inl h
        · exact .inr (.inr ⟨h, hne⟩)
theorem set_keys {l : List (κ × Value)} {j : Nat} {k : κ} {v : Value} (u : Value) (hj : l[j]? = some (k, v)) : (l.set j (k, u)).map (·.1) = l.map (·.1) := by
  rw [List.map_set]
  refine List.ext_getElem? (fun i => ?_)
  by_cases e : j = i
  · subst e
    rw [List.getElem?_set_self (by rw [List.length_map]; exact (List.getElem?_eq_some_iff.1 hj).1), List.getElem?_map, hj]; rfl
  · rw [List.getElem?_set_ne e]
/-- An entry is laid down. -/
theorem MP.put [DecidableEq κ] (hu : P.underlying tm = some (.map tk tv)) (hK : Go.Maps.Keyed P tk) (hko : ∀ k, ok k → ∃ l, keyOf P tk (ek k) = some l) (hin : ∀ a b, ek a = ek b → a = b) (hst : ∀ k W, (Instr.keyThatStays (ek k) (ek k)).run P W = .ok (ek k) W) {W : World} {b : Nat} {f : κ → Option Value} (h : MP ek ok W b f) {k : κ} (hk : ok k) (u : Value) :
    ∃ W', (Instr.mapUpdate tm (.map (some b)) (ek k) u).run P W = .ok () W' ∧ MP ek ok W' b (fun x => if x = k then some u else f x) ∧ W.grownBy W' (some b) ∧ W'.heap.size = W.heap.size := by
  obtain ⟨es, clock, l, hb, he, h1, h2, hf⟩ := h
  obtain ⟨kl, hkl⟩ := hko k hk
  rcases MP.find hK hko hin he h1 k hk W with ⟨hn, hr⟩ | ⟨j, v, hr, hj⟩
  · refine ⟨setBlock W b (.map (es.push ⟨ek k, u, clock⟩) (clock + 1)), ?_, ⟨_, _, l ++ [(k, u)], heap_setBlock_same hb _, ?_, ?_, ?_, fun x v => ?_⟩, ⟨rfl, rfl, rfl, by simp [setBlock], fun i _ hi => heap_setBlock_other hb _ (fun e => hi (by rw [e]))⟩, by simp [setBlock]⟩
    · simp [Instr.mapUpdate, run_underlying hu, MapKept.run_getObj_map hb, hK.check W _ hkl, hr, Result.andThen, MapKept.run_setObj_map _ hb, setBlock]
    · simp [he]
    · intro p hp
      rcases List.mem_append.1 hp with hp | hp
      · exact h1 p hp
      · rw [List.mem_singleton.1 hp]; exact hk
    · rw [List.map_append, List.nodup_append]
      refine ⟨h2, by simp, ?_⟩
      intro x hx y hy e
      obtain ⟨p, hp, rfl⟩ := List.mem_map.1 hx
      have hy' : y = k := by simpa using hy
      exact hn p hp (by rw [e, hy'])
    · rw [List.mem_append, List.mem_singleton]
      dsimp only
      by_cases e : x = k
      · subst e
        simp only [if_pos]
        constructor
        · intro h; exact .inr (by rw [Option.some.inj h])
        · rintro (h | h)
          · exact absurd rfl (hn _ h)
          · injection h with _ h; rw [h]
      · rw [if_neg e, hf x v]
        constructor
        · exact .inl
        · rintro (h | h)
          · exact h
          · injection h with h _; exact absurd h e
  · have hej : ∃ e, es[j]? = some e ∧ e.key = ek k ∧ e.val = v := by
      have : (es.toList.map (fun e => (e.key, e.val)))[j]? = some (ek k, v) := by rw [he, List.getElem?_map, hj]; rfl
      rw [List.getElem?_map, Array.getElem?_toList] at this
      obtain ⟨e, h3, h4⟩ := Option.map_eq_some_iff.1 this
      injection h4 with h5 h6
      exact ⟨e, h3, h5, h6⟩
    obtain ⟨e, h3, h5, h6⟩ := hej
    have hmd : (es.modify j fun e => { e with key := ek k, val := u }).toList.map (fun e => (e.key, e.val)) = (l.set j (k, u)).map (fun p => (ek p.1, p.2)) := by
      refine List.ext_getElem? (fun i => ?_)
      rw [List.getElem?_map, Array.getElem?_toList, Array.getElem?_modify, List.getElem?_map]
      by_cases e1 : j = i
      · subst e1
        rw [if_pos rfl, h3, List.getElem?_set_self (List.getElem?_eq_some_iff.1 hj).1]; rfl
      · rw [if_neg e1, List.getElem?_set_ne e1]
        have := congrArg (fun l => l[i]?) he
        simp only [List.getElem?_map, Array.getElem?_toList] at this
        exact this
    refine ⟨setBlock W b (.map (es.modify j fun e => { e with key := ek k, val := u }) clock), ?_, ⟨_, _, l.set j (k, u), heap_setBlock_same hb _, hmd, fun p hp => ?_, by rw [set_keys u hj]; exact h2, fun x v' => ?_⟩, ⟨rfl, rfl, rfl, by simp [setBlock], fun i _ hi => heap_setBlock_other hb _ (fun e => hi (by rw [e]))⟩, by simp [setBlock]⟩
    · simp [Instr.mapUpdate, run_underlying hu, MapKept.run_getObj_map hb, hK.check W _ hkl, hr, h3, h5, hst, Result.andThen, MapKept.run_setObj_map _ hb, setBlock]
    · rcases (mem_set1 h2 hj p).1 hp with rfl | h
      · exact hk
      · exact h1 p h.1
    · rw [mem_set1 h2 hj]
      dsimp only
      by_cases e : x = k
      · subst e
        simp only [if_pos]
        constructor
        · intro h; exact .inl (by rw [Option.some.inj h])
        · rintro (h | ⟨_, h⟩)
          · injection h with _ h; rw [h]
          · exact absurd rfl h
      · rw [if_neg e, hf x v']
        constructor
        · intro h; exact .inr ⟨h, e⟩
        · rintro (h | h)
          · injection h with h _; exact absurd h e
          · exact h.1
end
end Go.Proofs.YtcdhblfefpkjgaaDoor
namespace Go.Proofs.YtcdhblfefpkjgaaDoor
open Go.RowKit

/-- A text. -/
def tx (k : List UInt8) : Value := .string ⟨k.toArray⟩
def TOK (k : List UInt8) : Prop := k.length ≤ maxLen
theorem keyOf_tx (k : List UInt8) (h : TOK k) : ∃ l, keyOf Tryd.prog 9 (tx k) = some l := by
  have hu := Tryd.underlying9
  refine ⟨.string k, ?_⟩
  have hs : (⟨k.toArray⟩ : ByteArray).size ≤ maxLen := by show k.toArray.size ≤ maxLen; rw [List.size_toArray]; exact h
  unfold keyOf tx
  simp only [hu]
  unfold mapKey
  simp only [hu]
  rw [if_pos hs]
theorem tx_inj (a b : List UInt8) (h : tx a = tx b) : a = b := by
  unfold tx at h
  injection h with h
  injection h with h
  simpa using h
theorem stays_tx (k : List UInt8) (W : World) : (Instr.keyThatStays (tx k) (tx k)).run Tryd.prog W = .ok (tx k) W := by
  have : Instr.sameBits 10000 (tx k) (tx k) = true := by
    have h : ((⟨k.toArray⟩ : ByteArray) == (⟨k.toArray⟩ : ByteArray)) = true := by first | exact beq_self_eq_true _ | (show decide _ = true; exact decide_eq_true rfl) | (show (k.toArray == k.toArray) = true; exact beq_self_eq_true _)
    simp [tx, Instr.sameBits, h]
  simp [Instr.keyThatStays, this]
/-- What the map holds behind these references. -/
def plR (R : List (List UInt8)) (k : List UInt8) : Option Value := if k ∈ R then some (.int .i64 ((R.idxOf k : Nat) : Int)) else none
theorem plR_nil : plR [] = fun _ => none := by funext k; simp [plR]
theorem plR_snoc {R : List (List UInt8)} {p : List UInt8} (h : p ∉ R) : plR (R ++ [p]) = fun x => if x = p then some (.int .i64 (R.length : Int)) else plR R x := by
  funext x
  unfold plR
  by_cases e : x = p
  · subst e
    rw [if_pos rfl, if_pos (by simp), List.idxOf_append, if_neg h]
    simp
  · rw [if_neg e]
    by_cases e2 : x ∈ R
    · rw [if_pos e2, if_pos (List.mem_append_left _ e2), List.idxOf_append, if_pos e2]
    · rw [if_neg e2, if_neg (by simp [e, e2])]
theorem tx_look {w : World} {m : Nat} {R : List (List UInt8)} {k : List UInt8} (h : MP tx TOK w m (plR R)) (hk : TOK k) :
    (Instr.lookup 58 (.map (some m)) (tx k) true).run Tryd.prog w = .ok (.tuple #[(plR R k).getD (.int .i64 0), .bool (plR R k).isSome]) w :=
  h.look Tryd.underlying58 (Go.Maps.string_keyed Tryd.underlying9) keyOf_tx tx_inj (z := .int .i64 0) (fun W => by kernel_rfl) hk true
theorem tx_put {w : World} {m : Nat} {R : List (List UInt8)} {p : List UInt8} (h : MP tx TOK w m (plR R)) (hk : TOK p) (hn : p ∉ R) :
    ∃ w', (Instr.mapUpdate 58 (.map (some m)) (tx p) (.int .i64 (R.length : Int))).run Tryd.prog w = .ok () w' ∧ MP tx TOK w' m (plR (R ++ [p])) ∧ w.grownBy w' (some m) := by
  obtain ⟨w', h1, h2, h3, _⟩ := h.put Tryd.underlying58 (Go.Maps.string_keyed Tryd.underlying9) keyOf_tx tx_inj stays_tx (k := p) hk (.int .i64 (R.length : Int))
  refine ⟨w', h1, ?_, h3⟩
  rw [plR_snoc hn]
  exact h2
end Go.Proofs.YtcdhblfefpkjgaaDoor
