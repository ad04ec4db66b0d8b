/-
  My own text: maps from keys to chains.
-/
import Derived.Test.YtehacdijleommaaGreatDoorSH2
import Derived.Maps.Keyed
import Derived.DeepKeys4
namespace Go.Proofs.YtehacdijleommaaGreatDoor
open Go.RowKit Go.Extern Go.MapKept Go.ChangeMaps

abbrev Ky := Int × Int
def kv (k : Ky) : Value := .agg #[.int .i64 k.1, .int .i64 k.2]
def cp (c : Nat) : Value := .pointer (some ⟨c, 0, none⟩)
/-- Numbers of int. -/
def KOK (k : Ky) : Prop := (Lit.int .i64 k.1).wf = true ∧ (Lit.int .i64 k.2).wf = true
theorem Tryz.laidOutM : laidOutB Tryz.prog = true := by kernel_rfl
theorem lawKey : Go.Maps.Keyed Tryz.prog 29 := Go.Maps.Keyed.of_law (deep_law_laid Tryz.laidOutM (m := 3) (by omega) (of_decide_eq_true (by kernel_rfl)) (by kernel_rfl) (by kernel_rfl))
theorem keyOf_kv (k : Ky) (h : KOK k) : ∃ l, keyOf Tryz.prog 29 (kv k) = some l := by
  obtain ⟨a, b⟩ := k
  obtain ⟨wa, wb⟩ := h
  dsimp only at wa wb
  obtain ⟨m, hm⟩ : ∃ m, Tryz.prog.types.size = m + 1 := ⟨214 - 1, by kernel_rfl⟩
  have hk : Tryz.prog.keyType 29 = true := by kernel_rfl
  have c2 : Tryz.prog.cellsOf 29 = 2 := by kernel_rfl
  have c1 : Tryz.prog.cellsOf 3 = 1 := by kernel_rfl
  have hu := Tryz.underlying29
  have hi := Tryz.underlying3
  unfold keyOf
  simp only [hu]
  rw [if_pos (by simp [hk, kv, Value.formed, hu, c2]), hm]
  unfold Program.keyLits
  simp [hu, kv, Value.cells, c2, c1, Program.keyLits, hi, wa, wb]
/-- What a map holds. -/
def lk (l : List (Ky × Nat)) (k : Ky) : Option Nat := (l.find? fun p => p.1 == k).map (·.2)
/-- A map of chains in memory. -/
def MB (W : World) (b : Nat) (l : List (Ky × Nat)) : Prop :=
  ∃ es clock, W.heap[b]? = some (.map es clock) ∧ es.toList.map (fun e => (e.key, e.val)) = l.map (fun p => (kv p.1, cp p.2)) ∧ (∀ p ∈ l, KOK p.1) ∧ (l.map (·.1)).Nodup ∧ (∀ x ∈ es.toList, x.born < clock) ∧ (es.toList.map (·.born)).Nodup
theorem MB.lt {W : World} {b : Nat} {l : List (Ky × Nat)} (h : MB W b l) : b < W.heap.size := by
  obtain ⟨es, clock, hb, _⟩ := h
  exact (Array.getElem?_eq_some_iff.1 hb).1
theorem MB.kept {W W' : World} {b : Nat} {l : List (Ky × Nat)} (h : MB W b l) (e : W'.heap[b]? = W.heap[b]?) : MB W' b l := by
  obtain ⟨es, clock, hb, h2⟩ := h
  exact ⟨es, clock, e.trans hb, h2⟩
theorem MB.later {W W' : World} {b : Nat} {l : List (Ky × Nat)} (h : MB W b l) (hb : Below W.heap.size W W') : MB W' b l := h.kept (hb.block b h.lt)
theorem MB.made (W : World) : MB (W.alloc (.map #[] 0)) W.heap.size [] := ⟨#[], 0, (heap_alloc W _).1, rfl, (fun p hp => by simp at hp), by simp, (fun x hx => by simp at hx), by simp⟩
theorem kv_inj {a b : Ky} (h : kv a = kv b) : a = b := by
  obtain ⟨a1, a2⟩ := a
  obtain ⟨b1, b2⟩ := b
  simp [kv] at h
  simp [h.1, h.2]
theorem cp_inj {a b : Nat} (h : cp a = cp b) : a = b := by simpa [cp] using h
theorem lk_mem : ∀ (l : List (Ky × Nat)), (l.map (·.1)).Nodup → ∀ {k : Ky} {c : Nat}, (k, c) ∈ l → lk l k = some c
  | p :: r, hn, k, c, hm => by
    rw [List.map_cons, List.nodup_cons] at hn
    by_cases e : p.1 = k
    · have : p = (k, c) := by
        rcases List.mem_cons.1 hm with h | h
        · exact h.symm
        · exact absurd (List.mem_map.2 ⟨(k, c), h, rfl⟩) (by rw [← e] at *; exact hn.1)
      rw [this]
      simp [lk]
    · have hr : (k, c) ∈ r := by
        rcases List.mem_cons.1 hm with h | h
        · exact absurd (by rw [← h]) e
        · exact h
      have := lk_mem r hn.2 hr
      unfold lk at this ⊢
      rw [List.find?_cons_of_neg (by simpa using e)]
      exact this
/-- What is found. -/
theorem find_kv {l : List (Ky × Nat)} {es : List MapEntry} (he : es.map (fun e => (e.key, e.val)) = l.map (fun p => (kv p.1, cp p.2))) (hk : ∀ p ∈ l, KOK p.1) (hn : (l.map (·.1)).Nodup) (k : Ky) (h : KOK k) (W : World) :
    (lk l k = none ∧ (Instr.findKey 29 (kv k) es).run Tryz.prog W = .ok none W) ∨
    ∃ j c, lk l k = some c ∧ (Instr.findKey 29 (kv k) es).run Tryz.prog W = .ok (some (j, cp c)) W ∧ l[j]? = some (k, c) := by
  obtain ⟨kl, hkl⟩ := keyOf_kv k h
  have hin : ∀ e ∈ es, ∃ p ∈ l, e.key = kv p.1 ∧ e.val = cp p.2 := fun e hm => by
    have : (e.key, e.val) ∈ l.map (fun p => (kv p.1, cp p.2)) := by rw [← he]; exact List.mem_map.2 ⟨e, hm, rfl⟩
    obtain ⟨p, hp, e1⟩ := List.mem_map.1 this
    injection e1 with e2 e3
    exact ⟨p, hp, e2.symm, e3.symm⟩
  rcases lawKey.find W hkl es (fun e hm => by
    obtain ⟨p, hp, e1, _⟩ := hin e hm
    rw [e1]; exact keyOf_kv p.1 (hk p hp)) with ⟨h1, h2⟩ | ⟨j, e, h1, h2, h3⟩
  · refine .inl ⟨?_, h1⟩
    unfold lk
    rw [Option.map_eq_none_iff, List.find?_eq_none]
    intro p hp e1
    have e1' : p.1 = k := by simpa using e1
    have : (kv p.1, cp p.2) ∈ es.map (fun e => (e.key, e.val)) := by rw [he]; exact List.mem_map.2 ⟨p, hp, rfl⟩
    obtain ⟨e, hm, e2⟩ := List.mem_map.1 this
    injection e2 with e3 _
    exact h2 e hm (by rw [e3, e1'])
  · have hj : (l.map (fun p => (kv p.1, cp p.2)))[j]? = some (e.key, e.val) := by rw [← he, List.getElem?_map, h2]; rfl
    rw [List.getElem?_map] at hj
    obtain ⟨p, hp, e1⟩ := Option.map_eq_some_iff.1 hj
    injection e1 with e2 e3
    have ek : p.1 = k := kv_inj (e2.trans h3)
    have hpk : l[j]? = some (k, p.2) := by rw [hp, ← ek]
    exact .inr ⟨j, p.2, lk_mem l hn (List.mem_of_getElem? hpk), by rw [h1, e3], hpk⟩
/-- A look at a key that isn't there. -/
theorem MB.look_no {W : World} {b : Nat} {l : List (Ky × Nat)} (h : MB W b l) {k : Ky} (hk : KOK k) (h0 : lk l k = none) :
    (Instr.lookup 47 (.map (some b)) (kv k) true).run Tryz.prog W = .ok (.tuple #[.pointer none, .bool false]) W := by
  obtain ⟨es, clock, hb, he, h1, h2, hs1, hs2⟩ := h
  obtain ⟨kl, hkl⟩ := keyOf_kv k hk
  rcases find_kv he h1 h2 k hk W with ⟨_, hf⟩ | ⟨j, c, hc, _⟩
  · simp [Instr.lookup, run_underlying Tryz.underlying47, Go.MapKept.run_getObj_map hb, lawKey.check W _ hkl, hf, Result.andThen]
  · rw [h0] at hc; cases hc
theorem MB.look_yes {W : World} {b : Nat} {l : List (Ky × Nat)} (h : MB W b l) {k : Ky} {c : Nat} (hk : KOK k) (h0 : lk l k = some c) :
    (Instr.lookup 47 (.map (some b)) (kv k) true).run Tryz.prog W = .ok (.tuple #[cp c, .bool true]) W := by
  obtain ⟨es, clock, hb, he, h1, h2, hs1, hs2⟩ := h
  obtain ⟨kl, hkl⟩ := keyOf_kv k hk
  rcases find_kv he h1 h2 k hk W with ⟨hn, hf⟩ | ⟨j, c', hc, hf, _⟩
  · rw [h0] at hn; cases hn
  · rw [h0] at hc
    cases hc
    simp [Instr.lookup, run_underlying Tryz.underlying47, Go.MapKept.run_getObj_map hb, lawKey.check W _ hkl, hf, Result.andThen]
/-- A key that wasn't there is laid down. -/
theorem MB.put_new {W : World} {b : Nat} {l : List (Ky × Nat)} (h : MB W b l) {k : Ky} (c : Nat) (hk : KOK k) (h0 : lk l k = none) :
    ∃ W', (Instr.mapUpdate 47 (.map (some b)) (kv k) (cp c)).run Tryz.prog W = .ok () W' ∧ MB W' b (l ++ [(k, c)]) ∧ W.grownBy W' (some b) := by
  obtain ⟨es, clock, hb, he, h1, h2, hs1, hs2⟩ := h
  obtain ⟨kl, hkl⟩ := keyOf_kv k hk
  rcases find_kv he h1 h2 k hk W with ⟨hn, hf⟩ | ⟨j, c', hc, hf, _⟩
  · refine ⟨setBlock W b (.map (es.push ⟨kv k, cp c, clock⟩) (clock + 1)), ?_, ⟨_, _, heap_setBlock_same hb _, ?_, ?_, ?_, ?_, ?_⟩, ⟨rfl, rfl, rfl, by simp [setBlock], fun i _ hi => heap_setBlock_other hb _ (fun e => hi (by rw [e]))⟩⟩
    · simp [Instr.mapUpdate, run_underlying Tryz.underlying47, Go.MapKept.run_getObj_map hb, lawKey.check W _ hkl, hf, Result.andThen, Go.MapKept.run_setObj_map _ hb, setBlock]
    · simp [he]
    · intro p hp
      rcases List.mem_append.1 hp with hp | hp
      · exact h1 p hp
      · rw [List.mem_singleton.1 hp]; exact hk
    · rw [List.map_append, List.nodup_append]
      refine ⟨h2, by simp, ?_⟩
      intro x hx y hy e
      obtain ⟨p, hp, rfl⟩ := List.mem_map.1 hx
      have hy' : y = k := by simpa using hy
      unfold lk at hn
      rw [Option.map_eq_none_iff, List.find?_eq_none] at hn
      exact hn p hp (by rw [e, hy']; simp)
    · intro x hx
      rcases List.mem_append.1 (by simpa using hx : x ∈ es.toList ++ [⟨kv k, cp c, clock⟩]) with hx | hx
      · have := hs1 x hx; omega
      · rw [List.mem_singleton.1 hx]; exact Nat.lt_succ_self _
    · rw [Array.toList_push, List.map_append, List.nodup_append]
      refine ⟨hs2, by simp, ?_⟩
      intro x hx y hy e
      obtain ⟨q, hq, rfl⟩ := List.mem_map.1 hx
      have hy' : y = clock := by simpa using hy
      have := hs1 q hq
      omega
  · rw [h0] at hc; cases hc
end Go.Proofs.YtehacdijleommaaGreatDoor
