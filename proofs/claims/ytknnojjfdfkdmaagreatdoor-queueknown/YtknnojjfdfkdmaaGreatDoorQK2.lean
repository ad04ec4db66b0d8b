/-
  My own text: QO, QK2 in one.
-/
import Derived.Test.YtknnojjfdfkdmaaGreatDoorU9
import Derived.Maps.AppendAt
namespace Go.Proofs.YtknnojjfdfkdmaaGreatDoor
open Go.RowKit Go.Extern Go.MapKept Go.ChangeMaps
/-- One call of the script. -/
structure Oq where
  on : Int
  kind : Int
  id : Int
  ks : List Ky
  ka : Option Addr
  kc : Nat
def Oq.kv (p : Oq) : Value := .slice p.ka p.ks.length p.kc
structure OqOk (w : World) (p : Oq) : Prop where
  rm : KY.RM w p.kv p.ks
  kl : p.ks.length ≤ 8796093022000
  kk : ∀ k ∈ p.ks, KOK k
  id : IOK p.id
/-- The script in memory. -/
def RO (w : World) (v : Value) (S : List Oq) : Prop := (∀ p ∈ S, OqOk w p) ∧ ∃ a cap, v = .slice a S.length cap ∧ (S = [] ∨ ∃ b off, a = some ⟨b, off, none⟩ ∧ b < w.heap.size ∧ ∀ (j : Nat) (p : Oq), S[j]? = some p → w.cell? ⟨b, off + j * 4, none⟩ = some (.int .i64 p.on) ∧ w.cell? ⟨b, off + j * 4 + 1, none⟩ = some (.int .i64 p.kind) ∧ w.cell? ⟨b, off + j * 4 + 2, none⟩ = some (.int .i64 p.id) ∧ w.cell? ⟨b, off + j * 4 + 3, none⟩ = some p.kv)
end Go.Proofs.YtknnojjfdfkdmaaGreatDoor
namespace Go.Proofs.YtknnojjfdfkdmaaGreatDoor
open Go.RowKit Go.Extern Go.MapKept Go.ChangeMaps

/-- Blocks of keys stay. -/
def KK (w w' : World) : Prop := ∀ (g : Nat) (arr : Array Value), w.heap[g]? = some (.cells arr 23 (0, 0)) → w'.heap[g]? = some (.cells arr 23 (0, 0))
theorem KK.below {w w' : World} (h : Below w.heap.size w w') : KK w w' := fun _ _ hg => blk_later hg h
theorem KK.trans {w w1 w2 : World} (h : KK w w1) (h2 : KK w1 w2) : KK w w2 := fun g a hg => h2 g a (h g a hg)
theorem KK.grown {w w' : World} {v : Value} {n B : Nat} {xs : List Value} (ho : w.ownsRow B 26 4 v n xs) (hg : w.grownBy w' v.ownBlock) : KK w w' := fun g arr h => by
  have hne : v.ownBlock ≠ some g := fun e => by
    obtain ⟨c, fz, hk⟩ := ownsRow_kind ho g e
    rw [h] at hk
    injection hk with hk
    injection hk with _ hk
    exact absurd hk (by decide)
  rw [hg.block g (Array.getElem?_eq_some_iff.1 h).1 (fun e => hne e.symm)]
  exact h
/-- Keys in memory. -/
def KeysAt (w : World) (a : Option Addr) (K : List Ky) : Prop := K = [] ∨ ∃ (g off : Nat) (arr : Array Value), a = some ⟨g, off, none⟩ ∧ w.heap[g]? = some (.cells arr 23 (0, 0)) ∧ ∀ (j : Nat) (k : Ky), K[j]? = some k → arr[off + j * 2]? = some (.int .i64 k.1) ∧ arr[off + j * 2 + 1]? = some (.int .i64 k.2)
structure KOp (w : World) (p : Oq) : Prop where
  at' : KeysAt w p.ka p.ks
  cap : p.ks.length ≤ p.kc
  kl : p.ks.length ≤ 10
  kk : ∀ k ∈ p.ks, KOK k
  id : IOK p.id
theorem KeysAt.mono {w w' : World} {a : Option Addr} {K : List Ky} (h : KeysAt w a K) (hk : KK w w') : KeysAt w' a K := by
  rcases h with h | ⟨g, off, arr, h1, h2, h3⟩
  · exact .inl h
  · exact .inr ⟨g, off, arr, h1, hk g arr h2, h3⟩
theorem KeysAt.rm {w : World} {a : Option Addr} {K : List Ky} {c : Nat} (h : KeysAt w a K) (hc : K.length ≤ c) : KY.RM w (.slice a K.length c) K := by
  refine ⟨a, c, rfl, hc, ?_⟩
  rcases h with h | ⟨g, off, arr, h1, h2, h3⟩
  · exact .inl h
  · refine .inr ⟨g, off, h1, (Array.getElem?_eq_some_iff.1 h2).1, fun j k hk => ?_⟩
    rw [cell_of_row _ _ _ _ _ _ h2, cell_of_row _ _ _ _ _ _ h2]
    exact h3 j k hk
theorem KOp.mono {w w' : World} {p : Oq} (h : KOp w p) (hk : KK w w') : KOp w' p := ⟨h.at'.mono hk, h.cap, h.kl, h.kk, h.id⟩
theorem KOp.oq {w : World} {p : Oq} (h : KOp w p) : OqOk w p := ⟨h.at'.rm h.cap, Nat.le_trans h.kl (by decide), h.kk, h.id⟩
/-- The cells of a script. -/
def opc : List Oq → List Value
  | [] => []
  | p :: t => .int .i64 p.on :: .int .i64 p.kind :: .int .i64 p.id :: p.kv :: opc t
theorem opc_len : ∀ S : List Oq, (opc S).length = S.length * 4
  | [] => rfl
  | p :: t => by simp only [opc, List.length_cons, opc_len t]; omega
theorem opc_app : ∀ A B : List Oq, opc (A ++ B) = opc A ++ opc B
  | [], _ => rfl
  | p :: t, B => by simp only [opc, List.cons_append, opc_app t B]
theorem opc_one : ∀ (S : List Oq), ∀ u ∈ opc S, u.oneCell' = true
  | p :: t, u, h => by
    simp only [opc, List.mem_cons] at h
    rcases h with rfl | rfl | rfl | rfl | h
    · rfl
    · rfl
    · rfl
    · rfl
    · exact opc_one t u h
theorem opc_at : ∀ {S : List Oq} {j : Nat} {p : Oq}, S[j]? = some p → (opc S)[j * 4]? = some (.int .i64 p.on) ∧ (opc S)[j * 4 + 1]? = some (.int .i64 p.kind) ∧ (opc S)[j * 4 + 2]? = some (.int .i64 p.id) ∧ (opc S)[j * 4 + 3]? = some p.kv
  | q :: t, 0, p, h => by
    obtain rfl : q = p := Option.some.inj h
    exact ⟨rfl, rfl, rfl, rfl⟩
  | q :: t, j + 1, p, h => by
    obtain ⟨h1, h2, h3, h4⟩ := opc_at (S := t) (j := j) (by simpa using h)
    have e : (j + 1) * 4 = j * 4 + 4 := by omega
    rw [e]
    exact ⟨h1, h2, h3, h4⟩
/-- A script of its own block, that grows. -/
structure GO (B : Nat) (w : World) (v : Value) (S : List Oq) : Prop where
  own : w.ownsRow B 26 4 v S.length (opc S)
  ok : ∀ p ∈ S, KOp w p
theorem GO.nil (B : Nat) (w : World) : GO B w (.slice none 0 0) [] := ⟨World.ownsRow_nil w B 26 4, fun p hp => by cases hp⟩
theorem GO.later {B : Nat} {w w' : World} {v : Value} {S : List Oq} (h : GO B w v S) (hb : Below w.heap.size w w') : GO B w' v S := ⟨owns_lat h.own hb, fun p hp => (h.ok p hp).mono (KK.below hb)⟩
theorem GO.ro {B : Nat} {w : World} {v : Value} {S : List Oq} (h : GO B w v S) : RO w v S := by
  refine ⟨fun p hp => (h.ok p hp).oq, ?_⟩
  rcases h.own.2 with ⟨rfl, h0⟩ | ⟨g, cap, cur, rfl, hg, hh, hc, hm, hz, ht⟩
  · obtain rfl := List.eq_nil_of_length_eq_zero h0
    exact ⟨none, 0, rfl, .inl rfl⟩
  · refine ⟨_, _, rfl, .inr ⟨g, 0, rfl, (Array.getElem?_eq_some_iff.1 hh).1, fun j p hj => ?_⟩⟩
    have hl := (List.getElem?_eq_some_iff.1 hj).1
    have at' : ∀ i, i < S.length * 4 → w.cell? ⟨g, i, none⟩ = (opc S)[i]? := fun i hi => by
      rw [cell_of_row _ _ _ _ _ _ hh, ← ht, List.getElem?_take_of_lt hi, Array.getElem?_toList]
    obtain ⟨h1, h2, h3, h4⟩ := opc_at hj
    rw [Nat.zero_add, at' _ (by omega), at' _ (by omega), at' _ (by omega), at' _ (by omega)]
    exact ⟨h1, h2, h3, h4⟩
theorem GO.of_block {B g : Nat} {w : World} {S : List Oq} {A : Array Value} (hg : w.heap[g]? = some (.cells A 26 (0, 0))) (hA : A = (opc S).toArray) (hB : B ≤ g) (hl : S.length ≤ 1000) (hok : ∀ p ∈ S, KOp w p) : GO B w (.slice (some ⟨g, 0, none⟩) S.length S.length) S := by
  subst hA
  refine ⟨⟨opc_len S, .inr ⟨g, S.length, (opc S).toArray, rfl, hB, hg, Nat.le_refl _, by unfold maxLen; omega, by simp [opc_len], ?_⟩⟩, hok⟩
  rw [← opc_len]
  simp
theorem Tryz.infoOq : (Tryz.prog.info? 26).map (fun i => (i.zero, i.size, i.bytes)) = some (some (.agg #[.int .i64 0, .int .i64 0, .int .i64 0, .slice none 0 0]), 4, 48) := by kernel_rfl
/-- append(script, more..): more lies in a block. -/
theorem run_append_oq (w : World) (B : Nat) (ty : TypeId) (v : Value) (M : List Oq) (hown : w.ownsRow B 26 4 v M.length (opc M)) (g c : Nat) (L : List Oq) (A : Array Value) (hg : w.heap[g]? = some (.cells A 26 (0, 0))) (hA : A = (opc L).toArray) (hn : M.length + L.length ≤ 2932031007402) (hB : B ≤ w.heap.size) :
    ∃ v' w', (Builtin.append_ #[27, 27] ty #[v, .slice (some ⟨g, 0, none⟩) L.length c]).run Tryz.prog w = .ok v' w' ∧ w'.ownsRow B 26 4 v' (M ++ L).length (opc (M ++ L)) ∧ w.grownBy w' v.ownBlock := by
  subst hA
  obtain ⟨i0, hi, hz0, hz1, hz2⟩ := info_parts Tryz.infoOq
  obtain ⟨v', w', hrun, r1, r2, _⟩ := run_append_own_at (P := Tryz.prog) w B 27 ty 26 i0 _ 4 48 Tryz.underlying27 hi hz0 hz1 hz2 rfl (by decide) v M.length (opc M) hown ⟨g, 0, none⟩ L.length c (opc L) (opc_len L) (fun j u hj => by
    rw [Addr.add_lit, Nat.zero_add, cell_of_row _ _ _ _ _ _ hg]; simpa using hj) (opc_one L) (by unfold maxLen; omega) (by omega) hB
  refine ⟨v', w', hrun, ?_, r2⟩
  rw [List.length_append, opc_app]; exact r1
theorem Below.of_grown {w0 w w' : World} {v : Value} {n k : Nat} {e : TypeId} {xs : List Value} (hb : Below w0.heap.size w0 w) (ho : w.ownsRow w0.heap.size e k v n xs) (hg : w.grownBy w' v.ownBlock) : Below w0.heap.size w0 w' := by
  refine ⟨hg.os.trans hb.os, hg.tape.trans hb.tape, hg.output.trans hb.output, Nat.le_trans hb.size hg.size, fun y hy => (hg.block y (Nat.lt_of_lt_of_le hy hb.size) (fun e => ?_)).trans (hb.block y hy)⟩
  rcases ho.2 with ⟨rfl, _⟩ | ⟨g, cap, cur, rfl, hB, _⟩
  · cases e
  · have : y = g := Option.some.inj e
    omega
/-- Many that are laid one behind the other. -/
def als (w : World) : List Obj → World
  | [] => w
  | o :: t => als (w.alloc o) t
theorem als_size : ∀ (w : World) (L : List Obj), (als w L).heap.size = w.heap.size + L.length
  | w, [] => rfl
  | w, o :: t => by show (als (w.alloc o) t).heap.size = _; rw [als_size, List.length_cons]; simp; omega
theorem als_below : ∀ (B : Nat) (w0 w : World) (L : List Obj), B ≤ w.heap.size → Below B w0 w → Below B w0 (als w L)
  | _, _, _, [], _, h => h
  | B, w0, w, o :: t, hB, h => als_below B w0 (w.alloc o) t (by simp; omega) (h.alloc hB o)
theorem als_keep : ∀ (w : World) (L : List Obj) {g : Nat} {o : Obj}, w.heap[g]? = some o → (als w L).heap[g]? = some o
  | _, [], _, _, h => h
  | w, o :: t, _, _, h => als_keep (w.alloc o) t (alloc_block h)
theorem als_at : ∀ (w : World) (L : List Obj) {i : Nat} {o : Obj}, L[i]? = some o → (als w L).heap[w.heap.size + i]? = some o
  | w, x :: t, 0, o, h => by
    obtain rfl : x = o := Option.some.inj h
    exact als_keep (w.alloc x) t (alloc_new w x)
  | w, x :: t, i + 1, o, h => by
    have := als_at (w.alloc x) t (i := i) (o := o) (by simpa using h)
    rw [show (w.alloc x).heap.size + i = w.heap.size + (i + 1) by simp; omega] at this
    exact this
end Go.Proofs.YtknnojjfdfkdmaaGreatDoor
