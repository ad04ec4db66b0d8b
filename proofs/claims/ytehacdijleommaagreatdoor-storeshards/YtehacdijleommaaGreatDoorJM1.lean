/-
  My own text: JD3, JD5, JM1 in one.
-/
import Derived.Test.YtehacdijleommaaGreatDoorHD5
import Derived.Test.YtehacdijleommaaGreatDoorIC20
import Derived.Test.YtehacdijleommaaGreatDoorSH2
import Derived.Maps.Keyed
import Derived.DeepKeys4
import Derived.Test.YtehacdijleommaaGreatDoorSM1
namespace Go.Proofs.YtehacdijleommaaGreatDoor.CI
open Go.RowKit Go.Shelf

theorem lastN_all {L : List Ver} {n : Int} (hr : Ris L) (h : lastN L < n) : ∀ (i : Nat) (p : Ver), L[i]? = some p → p.1 < n := fun i p hp => by
  have := ris_last L hr p (List.mem_of_getElem? hp); omega
/-- What a Put leaves. -/
def ptL (n : Int) (s : Int) (L : List Ver) : List Ver := if lastN L < n then L ++ [(n, s)] else L
def ptE (n : Int) (L : List Ver) : Int := if lastN L < n then 0 else 1
theorem ptL_no {n : Int} {s : Int} {L : List Ver} (h : ¬ lastN L < n) : ptL n s L = L ∧ ptE n L = 1 := by unfold ptL ptE; rw [if_neg h, if_neg h]; exact ⟨rfl, rfl⟩
theorem ptL_yes {n : Int} {s : Int} {L : List Ver} (h : lastN L < n) : ptL n s L = L ++ [(n, s)] ∧ ptE n L = 0 := by unfold ptL ptE; rw [if_pos h, if_pos h]; exact ⟨rfl, rfl⟩
end Go.Proofs.YtehacdijleommaaGreatDoor.CI
namespace Go.Proofs.YtehacdijleommaaGreatDoor.CI
open Go.RowKit Go.Shelf

theorem _root_.Go.Proofs.YtehacdijleommaaGreatDoor.OR.frI {W W' : World} {B B' cb k n : Nat} {L : List Ver} {t : TypeId} {v : Value} {xs : List Value} (h : OR W B' t k v n xs) (hf : Fr W W' cb) (hc : CH W B cb L) (h1 : t ≠ 148) (h2 : t ≠ 107) : OR W' B' t k v n xs := by
  refine h.kept (fun g hg => ?_)
  rcases h.2 with ⟨rfl, _⟩ | ⟨g', off, cap, cur, rfl, _, hh, _⟩
  · cases hg
  · obtain rfl : g' = g := Option.some.inj hg
    refine hf.block g' (Array.getElem?_eq_some_iff.1 hh).1 (fun e => ?_) (hc.row_ne hh h1)
    obtain ⟨_, u, em, hcb, _⟩ := hc
    rw [e, hcb] at hh
    injection hh with hh
    injection hh with _ hh _
    exact h2 hh.symm
/-- What a call leaves. -/
def stL (kind : Int) (n : Int) (s : Int) (L : List Ver) : List Ver := if kind = 0 then ptL n s L else if kind = 3 then L.drop (ab n L - 1) else L
theorem ptL_LK {L : List Ver} {k : Nat} (h : LK L k) (n : Int) (s : Int) (hn : n ≤ 9223372036854775807) : LK (ptL n s L) (k + 1) := by
  unfold ptL
  by_cases h2 : lastN L < n
  · rw [if_pos h2]
    refine ⟨ris_snoc L _ h.ris (fun q hq => by have := ris_last L h.ris q hq; dsimp only; omega), fun p hp => ?_, fun p hp => ?_, by rw [List.length_append]; have := h.len; simp; omega⟩
    · rcases List.mem_append.1 hp with hp | hp
      · exact h.pos p hp
      · rw [List.mem_singleton.1 hp]; have := lastN_lo h.pos; dsimp only; omega
    · rcases List.mem_append.1 hp with hp | hp
      · exact h.max p hp
      · rw [List.mem_singleton.1 hp]; exact hn
  · rw [if_neg h2]
    exact ⟨h.ris, h.pos, h.max, Nat.le_succ_of_le h.len⟩
theorem LK.up {L : List Ver} {k : Nat} (h : LK L k) : LK L (k + 1) := ⟨h.ris, h.pos, h.max, Nat.le_succ_of_le h.len⟩
theorem stL_LK {L : List Ver} {k : Nat} (h : LK L k) (kind n : Int) (s : Int) (hn : n ≤ 9223372036854775807) : LK (stL kind n s L) (k + 1) := by
  unfold stL
  split
  · exact ptL_LK h n s hn
  · split
    · exact (h.drop _).up
    · exact h.up
theorem CH.blk {W : World} {B cb : Nat} {L : List Ver} (h : CH W B cb L) : ∃ cs, W.heap[cb]? = some (.cells cs 107 (0, 0)) := by
  obtain ⟨_, v, em, hh, _⟩ := h
  exact ⟨_, hh⟩
theorem CH.setB {W : World} {B cb b off : Nat} {L : List Ver} {t : TypeId} {u : Value} {cs : Array Value} {fz : Nat × Nat} (h : CH W B cb L) (hb : W.heap[b]? = some (.cells cs t fz)) (h1 : t ≠ 148) (h2 : t ≠ 107) : CH (W.setCell ⟨b, off, none⟩ u) B cb L := by
  obtain ⟨q1, v, em, hh, ho, hn⟩ := h
  exact ⟨q1, v, em, (Below.heap_setCell _ _ _ cb (ne_type hh hb (Ne.symm h2))).trans hh, ho.setB hb h1, hn⟩
theorem Fr.blk {W W' : World} {B c b : Nat} {X : List Ver} {t : TypeId} {cs : Array Value} {fz : Nat × Nat} (hf : Fr W W' c) (hx : CH W B c X) (hb : W.heap[b]? = some (.cells cs t fz)) (h1 : t ≠ 148) (h2 : t ≠ 107) : W'.heap[b]? = some (.cells cs t fz) := by
  obtain ⟨_, hh⟩ := hx.blk
  exact (hf.block b (Array.getElem?_eq_some_iff.1 hb).1 (ne_type hb hh h2) (hx.row_ne hb h1)).trans hb
theorem Ap.setB {W : World} {c d b off : Nat} {u : Value} (h : Ap c d W) (h1 : c ≠ b) (h2 : d ≠ b) : Ap c d (W.setCell ⟨b, off, none⟩ u) :=
  h.same (by unfold World.cell?; rw [Below.heap_setCell _ _ _ c h1]) (by unfold World.cell?; rw [Below.heap_setCell _ _ _ d h2])
end Go.Proofs.YtehacdijleommaaGreatDoor.CI
namespace Go.Proofs.YtehacdijleommaaGreatDoor.CI
open Go.RowKit Go.Extern Go.MapKept Go.ChangeMaps

/-- A map of chains in memory. -/
def MB (W : World) (b : Nat) (l : List (Ky × Nat)) : Prop :=
  ∃ es clock, W.heap[b]? = some (.map es clock) ∧ es.toList.map (fun e => (e.key, e.val)) = l.map (fun p => (kv p.1, cp p.2)) ∧ (∀ p ∈ l, KOK p.1) ∧ (l.map (·.1)).Nodup ∧ (∀ x ∈ es.toList, x.born < clock) ∧ (es.toList.map (·.born)).Nodup
theorem MB.lt {W : World} {b : Nat} {l : List (Ky × Nat)} (h : MB W b l) : b < W.heap.size := by
  obtain ⟨es, clock, hb, _⟩ := h
  exact (Array.getElem?_eq_some_iff.1 hb).1
theorem MB.kept {W W' : World} {b : Nat} {l : List (Ky × Nat)} (h : MB W b l) (e : W'.heap[b]? = W.heap[b]?) : MB W' b l := by
  obtain ⟨es, clock, hb, h2⟩ := h
  exact ⟨es, clock, e.trans hb, h2⟩
theorem MB.later {W W' : World} {b : Nat} {l : List (Ky × Nat)} (h : MB W b l) (hb : Below W.heap.size W W') : MB W' b l := h.kept (hb.block b h.lt)
theorem MB.made (W : World) : MB (W.alloc (.map #[] 0)) W.heap.size [] := ⟨#[], 0, (heap_alloc W _).1, rfl, (fun p hp => by simp at hp), by simp, (fun x hx => by simp at hx), by simp⟩
/-- A look at a key that isn't there. -/
theorem MB.look_no {W : World} {b : Nat} {l : List (Ky × Nat)} (h : MB W b l) {k : Ky} (hk : KOK k) (h0 : lk l k = none) :
    (Instr.lookup 51 (.map (some b)) (kv k) true).run Tryz.prog W = .ok (.tuple #[.pointer none, .bool false]) W := by
  obtain ⟨es, clock, hb, he, h1, h2, hs1, hs2⟩ := h
  obtain ⟨kl, hkl⟩ := keyOf_kv k hk
  rcases find_kv he h1 h2 k hk W with ⟨_, hf⟩ | ⟨j, c, hc, _⟩
  · simp [Instr.lookup, run_underlying Tryz.underlying51, Go.MapKept.run_getObj_map hb, lawKey.check W _ hkl, hf, Result.andThen]
  · rw [h0] at hc; cases hc
theorem MB.look_yes {W : World} {b : Nat} {l : List (Ky × Nat)} (h : MB W b l) {k : Ky} {c : Nat} (hk : KOK k) (h0 : lk l k = some c) :
    (Instr.lookup 51 (.map (some b)) (kv k) true).run Tryz.prog W = .ok (.tuple #[cp c, .bool true]) W := by
  obtain ⟨es, clock, hb, he, h1, h2, hs1, hs2⟩ := h
  obtain ⟨kl, hkl⟩ := keyOf_kv k hk
  rcases find_kv he h1 h2 k hk W with ⟨hn, hf⟩ | ⟨j, c', hc, hf, _⟩
  · rw [h0] at hn; cases hn
  · rw [h0] at hc
    cases hc
    simp [Instr.lookup, run_underlying Tryz.underlying51, Go.MapKept.run_getObj_map hb, lawKey.check W _ hkl, hf, Result.andThen]
/-- A key that wasn't there is laid down. -/
theorem MB.put_new {W : World} {b : Nat} {l : List (Ky × Nat)} (h : MB W b l) {k : Ky} (c : Nat) (hk : KOK k) (h0 : lk l k = none) :
    ∃ W', (Instr.mapUpdate 51 (.map (some b)) (kv k) (cp c)).run Tryz.prog W = .ok () W' ∧ MB W' b (l ++ [(k, c)]) ∧ W.grownBy W' (some b) := by
  obtain ⟨es, clock, hb, he, h1, h2, hs1, hs2⟩ := h
  obtain ⟨kl, hkl⟩ := keyOf_kv k hk
  rcases find_kv he h1 h2 k hk W with ⟨hn, hf⟩ | ⟨j, c', hc, hf, _⟩
  · refine ⟨setBlock W b (.map (es.push ⟨kv k, cp c, clock⟩) (clock + 1)), ?_, ⟨_, _, heap_setBlock_same hb _, ?_, ?_, ?_, ?_, ?_⟩, ⟨rfl, rfl, rfl, by simp [setBlock], fun i _ hi => heap_setBlock_other hb _ (fun e => hi (by rw [e]))⟩⟩
    · simp [Instr.mapUpdate, run_underlying Tryz.underlying51, Go.MapKept.run_getObj_map hb, lawKey.check W _ hkl, hf, Result.andThen, Go.MapKept.run_setObj_map _ hb, setBlock]
    · simp [he]
    · intro p hp
      rcases List.mem_append.1 hp with hp | hp
      · exact h1 p hp
      · rw [List.mem_singleton.1 hp]; exact hk
    · rw [List.map_append, List.nodup_append]
      refine ⟨h2, by simp, ?_⟩
      intro x hx y hy e
      obtain ⟨p, hp, rfl⟩ := List.mem_map.1 hx
      have hy' : y = k := by simpa using hy
      unfold lk at hn
      rw [Option.map_eq_none_iff, List.find?_eq_none] at hn
      exact hn p hp (by rw [e, hy']; simp)
    · intro x hx
      rcases List.mem_append.1 (by simpa using hx : x ∈ es.toList ++ [⟨kv k, cp c, clock⟩]) with hx | hx
      · have := hs1 x hx; omega
      · rw [List.mem_singleton.1 hx]; exact Nat.lt_succ_self _
    · rw [Array.toList_push, List.map_append, List.nodup_append]
      refine ⟨hs2, by simp, ?_⟩
      intro x hx y hy e
      obtain ⟨q, hq, rfl⟩ := List.mem_map.1 hx
      have hy' : y = clock := by simpa using hy
      have := hs1 q hq
      omega
  · rw [h0] at hc; cases hc
end Go.Proofs.YtehacdijleommaaGreatDoor.CI
