/-
  My own text: layer 19: QueueLoses: each call, held against what the law knows.
-/
import Derived.Test.YtblldldaoejoaaaU19
namespace Go.Proofs.Ytblldldaoejoaaa
open Go.RowKit Go.Extern Go.MapKept Go.ChangeMaps

theorem LL.holds {w0 wr : World} {q n : Nat} {room : Int} {O : Nat → Prop} {Z : Qx} {v : Value} {L : List Kn} (h : LL w0 wr q room O Z v L n) :
    Calls Try.prog 17 #[.pointer (some ⟨q, 0, none⟩), v] wr fun r w' => r = .returned (.bool true) ∧ Below wr.heap.size wr w' :=
  holds_any O q w0.heap.size Z v L wr h.qs h.on (h.rel.maps (fun _ _ hr => hr.2.id)) (h.rel.filters (fun _ _ hr => hr.2.id) (fun x _ hr => hr.2.kid (h.qs.ok.st x hr.1)))
theorem LL.find {w0 wr : World} {q n : Nat} {room : Int} {O : Nat → Prop} {Z : Qx} {v : Value} {L : List Kn} (h : LL w0 wr q room O Z v L n) (hn : n ≤ 8796093022000) (id : Int) :
    Calls Try.prog 10 #[v, .int .i64 id] wr fun e w' => e = .returned (.int .i64 (fd id L)) ∧ w' = wr := find_any v w0.heap.size L id wr h.on (by have := h.len; omega)
theorem fd_of {Z : Qx} {L : List Kn} (hO : Ok Z) (h : Rel (RZ Z) Z.A L) {x : Nat} {id : Int} (hx : x ∈ Z.A) (hi : (Z.T x).id = id) : ∃ (j : Nat) (p : Kn), Z.A[j]? = some x ∧ L[j]? = some p ∧ Rl (Z.T x) p ∧ fd id L = (j : Int) := by
  obtain ⟨j, hj⟩ := List.getElem?_of_mem hx
  obtain ⟨p, hp, hr⟩ := h.get hj
  refine ⟨j, p, hj, hp, hr.2, fd_some hp (by rw [← hr.2.id, hi]) (fun i r hlt hr' e => ?_)⟩
  obtain ⟨y, hy, hry⟩ := h.got hr'
  have : y = x := hO.one hry.1 hx (by rw [hry.2.id, e, hi])
  subst this
  have hnd := sr_nodup hO.o.sa
  have := List.pairwise_iff_getElem.1 hnd i j (List.getElem?_eq_some_iff.1 hy).1 (List.getElem?_eq_some_iff.1 hj).1 hlt
  rw [(List.getElem?_eq_some_iff.1 hy).2, (List.getElem?_eq_some_iff.1 hj).2] at this
  exact this rfl
theorem fd_not {Z : Qx} {L : List Kn} (h : Rel (RZ Z) Z.A L) {id : Int} (hno : ∀ x ∈ Z.A, (Z.T x).id ≠ id) : fd id L = -1 := fd_none (fun p hp e => by
  obtain ⟨j, hj⟩ := List.getElem?_of_mem hp
  obtain ⟨x, _, hr⟩ := h.got hj
  exact hno x hr.1 (by rw [hr.2.id, e]))
theorem Rel.put {Z Z' : Qx} {L : List Kn} {x : Nat} {p : Kn} (h : Rel (RZ Z) Z.A L) (hA : Z'.A = Z.A ++ [x]) (hT : ∀ y ∈ Z.A, Z'.T y = Z.T y) (hp : Rl (Z'.T x) p) : Rel (RZ Z') Z'.A (L ++ [p]) := by
  refine ⟨by rw [hA]; simp [h.len], fun j y r hy hr => ?_⟩
  have hyA : y ∈ Z'.A := List.mem_of_getElem? hy
  rw [hA] at hy
  have hl := (List.getElem?_eq_some_iff.1 hr).1
  by_cases hj : j < L.length
  · rw [List.getElem?_append_left (by rw [h.len]; exact hj)] at hy
    rw [List.getElem?_append_left hj] at hr
    have := h.at' j y r hy hr
    exact ⟨hyA, by rw [hT y (List.mem_of_getElem? hy)]; exact this.2⟩
  · have e : j = L.length := by simp at hl; omega
    rw [e, ← h.len] at hy
    rw [e] at hr
    simp at hy hr
    subst hy hr
    exact ⟨hyA, hp⟩
def tch (K : List Ky) (p : Kn) : Kn := { p with d := p.d || meetsB p.ks K }
theorem meetsB_congr {a b K : List Ky} (h : ∀ k, k ∈ a ↔ k ∈ b) : meetsB a K = meetsB b K := by
  rw [Bool.eq_iff_iff, meetsB_iff, meetsB_iff]
  constructor
  · rintro ⟨k, h1, h2⟩; exact ⟨k, (h k).1 h1, h2⟩
  · rintro ⟨k, h1, h2⟩; exact ⟨k, (h k).2 h1, h2⟩
theorem Rel.touch {Z Z' : Qx} {L : List Kn} {K : List Ky} (hO : Ok Z) (h : Rel (RZ Z) Z.A L) (hA : Z'.A = Z.A) (hT : ∀ y ∈ Z.A, Z'.T y = if meetsB (Z.T y).keys K = true then tcE (Z.T y) else Z.T y) : Rel (RZ Z') Z'.A (L.map (tch K)) := by
  refine ⟨by rw [hA]; simp [h.len], fun j y r hy hr => ?_⟩
  rw [hA] at hy
  rw [List.getElem?_map] at hr
  obtain ⟨p, hp, rfl⟩ := Option.map_eq_some_iff.1 hr
  obtain ⟨h1, h2⟩ := h.at' j y p hy hp
  refine ⟨by rw [hA]; exact h1, ?_⟩
  have hm := meetsB_congr (K := K) h2.ks
  rw [hT y h1, hm]
  unfold tch
  cases hb : meetsB p.ks K with
  | false => rw [if_neg (by decide)]; exact ⟨h2.id, h2.ks, h2.o, by rw [Bool.or_false]; exact h2.d⟩
  | true =>
    rw [if_pos rfl, Bool.or_true]
    have hc := tcE_came (Z.T y)
    refine ⟨by rw [hc.2.2.1]; exact h2.id, fun k => by rw [hc.2.1]; exact h2.ks k, ?_, ?_⟩
    · dsimp only; rw [h2.o]
      unfold tcE
      rcases hO.st y h1 with h0 | h0 | h0
      · rw [if_pos h0]; simp [h0]
      · rw [if_neg (by omega), if_neg (by omega)]
      · rw [if_neg (by omega), if_pos h0]
    · dsimp only
      unfold tcE
      rcases hO.st y h1 with h0 | h0 | h0
      · rw [if_pos h0]; simp
      · rw [if_neg (by omega), if_neg (by omega)]; simp [h0]
      · rw [if_neg (by omega), if_pos h0]; simp [h0]
theorem Rel.upd {Z Z' : Qx} {L : List Kn} {x j : Nat} {p' : Kn} {e' : Et} (hO : Ok Z) (h : Rel (RZ Z) Z.A L) (hA : Z'.A = Z.A) (hT : Z'.T = fun y => if y = x then e' else Z.T y) (hj : Z.A[j]? = some x) (hp : Rl e' p') : Rel (RZ Z') Z'.A (L.set j p') := by
  refine ⟨by rw [hA]; simp [h.len], fun i y r hy hr => ?_⟩
  have hyA : y ∈ Z'.A := List.mem_of_getElem? hy
  rw [hA] at hy
  by_cases e : i = j
  · subst e
    have hl : i < L.length := by rw [← h.len]; exact (List.getElem?_eq_some_iff.1 hj).1
    rw [hj] at hy
    obtain rfl := Option.some.inj hy
    rw [List.getElem?_set_self hl] at hr
    obtain rfl := Option.some.inj hr
    exact ⟨hyA, by rw [hT]; dsimp only; rw [if_pos rfl]; exact hp⟩
  · rw [List.getElem?_set_ne (fun q => e q.symm)] at hr
    have h1 := h.at' i y r hy hr
    have hne : y ≠ x := fun q => by
      subst q
      have hnd := sr_nodup hO.o.sa
      have hi := (List.getElem?_eq_some_iff.1 hy)
      have hj' := (List.getElem?_eq_some_iff.1 hj)
      rcases Nat.lt_or_gt_of_ne e with hlt | hlt
      · have := List.pairwise_iff_getElem.1 hnd i j hi.1 hj'.1 hlt
        rw [hi.2, hj'.2] at this; exact this rfl
      · have := List.pairwise_iff_getElem.1 hnd j i hj'.1 hi.1 hlt
        rw [hi.2, hj'.2] at this; exact this rfl
    exact ⟨hyA, by rw [hT]; dsimp only; rw [if_neg hne]; exact h1.2⟩
theorem filter_ne : ∀ {A : List Nat} {j x : Nat}, A.Nodup → A[j]? = some x → A.filter (fun y => decide (y ≠ x)) = A.eraseIdx j
  | y :: t, 0, x, hn, h => by
    obtain rfl : y = x := Option.some.inj h
    obtain ⟨h1, _⟩ := List.nodup_cons.1 hn
    rw [List.filter_cons_of_neg (by simp), List.eraseIdx_cons_zero]
    exact List.filter_eq_self.2 (fun z hz => by simp; intro e; exact h1 (by rw [← e]; exact hz))
  | y :: t, j + 1, x, hn, h => by
    obtain ⟨h1, h2⟩ := List.nodup_cons.1 hn
    have hm : x ∈ t := List.mem_of_getElem? (by simpa using h : t[j]? = some x)
    rw [List.filter_cons_of_pos (by simp; intro e; exact h1 (by rw [e]; exact hm)), List.eraseIdx_cons_succ, filter_ne h2 (by simpa using h)]
theorem Rel.rem {Z Z' : Qx} {L : List Kn} {x j : Nat} (hO : Ok Z) (h : Rel (RZ Z) Z.A L) (hA : Z'.A = Z.A.filter (fun y => decide (y ≠ x))) (hT : Z'.T = Z.T) (hj : Z.A[j]? = some x) : Rel (RZ Z') Z'.A (L.eraseIdx j) := by
  have hA2 := hA
  rw [filter_ne (sr_nodup hO.o.sa) hj] at hA2
  refine ⟨by rw [hA2, List.length_eraseIdx, List.length_eraseIdx, h.len], fun i y r hy hr => ?_⟩
  have hyA : y ∈ Z'.A := List.mem_of_getElem? hy
  rw [hA2, List.getElem?_eraseIdx] at hy
  rw [List.getElem?_eraseIdx] at hr
  refine ⟨hyA, ?_⟩
  rw [hT]
  split at hy
  · rename_i hlt
    rw [if_pos hlt] at hr
    exact (h.at' i y r hy hr).2
  · rename_i hlt
    rw [if_neg hlt] at hr
    exact (h.at' (i + 1) y r hy hr).2
theorem woK_none (L : List Kn) : woK L (-1) L.length = L := by unfold woK; rw [if_neg (by omega), List.take_length]
theorem woK_one {L : List Kn} {j : Nat} (h : j < L.length) : woK L (j : Int) L.length = L.eraseIdx j := by
  unfold woK; rw [if_pos ⟨by omega, by omega⟩, List.take_length, Int.toNat_natCast]
/-- One call of the script. -/
structure Oq where
  on : Int
  kind : Int
  id : Int
  ks : List Ky
  ka : Option Addr
  kc : Nat
def Oq.kv (p : Oq) : Value := .slice p.ka p.ks.length p.kc
structure OqOk (w : World) (p : Oq) : Prop where
  rm : KY.RM w p.kv p.ks
  kl : p.ks.length ≤ 8796093022000
  kk : ∀ k ∈ p.ks, KOK k
  id : IOK p.id
/-- The script in memory. -/
def RO (w : World) (v : Value) (S : List Oq) : Prop := (∀ p ∈ S, OqOk w p) ∧ ∃ a cap, v = .slice a S.length cap ∧ (S = [] ∨ ∃ b off, a = some ⟨b, off, none⟩ ∧ b < w.heap.size ∧ ∀ (j : Nat) (p : Oq), S[j]? = some p → w.cell? ⟨b, off + j * 4, none⟩ = some (.int .i64 p.on) ∧ w.cell? ⟨b, off + j * 4 + 1, none⟩ = some (.int .i64 p.kind) ∧ w.cell? ⟨b, off + j * 4 + 2, none⟩ = some (.int .i64 p.id) ∧ w.cell? ⟨b, off + j * 4 + 3, none⟩ = some p.kv)
theorem LM.call {w0 wr w' : World} {q n : Nat} {room : Int} {O : Nat → Prop} {Z Z' : Qx} {v : Value} {L : List Kn} (h : LM w0 wr q room O Z v L n) (hq : QTo O wr w' q Z') {m : Nat} (hn : Z'.n ≤ (m : Int)) (hrm : Z'.room = Z.room) (har : (Z'.A.length : Int) ≤ Z'.room) : ∃ O', LM w0 w' q room O' Z' v L m ∧ (∀ g, O' g → O g ∨ wr.heap.size ≤ g) ∧ Fw O wr w' := by
  obtain ⟨O', q1, q2, q3⟩ := hq
  exact ⟨O', ⟨q1, on_kept h.on (fun g hg => q3.block g (World.ownsRow.lt h.on g hg).2 (h.vo g hg)), fun g hg => (q2 g hg).elim (h.ob g) (fun e => Nat.le_trans h.bl.size e), fun g hg hO => (q2 g hO).elim (h.vo g hg) (fun e => by have := (World.ownsRow.lt h.on g hg).2; omega), fo_below h.bl q3 h.ob, hn, by rw [hrm]; exact h.rm, har, h.kn⟩, q2, q3⟩
theorem LM.list {w0 wr w' : World} {q n : Nat} {room : Int} {O : Nat → Prop} {Z : Qx} {v v' : Value} {L L' : List Kn} (h : LM w0 wr q room O Z v L n) (hb : Below wr.heap.size wr w') (ho : ON w' wr.heap.size v' L') (hk : ∀ p ∈ L', KY.RM w0 p.kv p.ks ∧ p.ks.length ≤ 8796093022000) : LM w0 w' q room O Z v' L' n := by
  refine ⟨h.qs.later hb, ?_, h.ob, fun g hg hO => ?_, h.bl.trans (hb.mono h.bl.size), h.nn, h.rm, h.ar, hk⟩
  · have := h.bl.size
    refine ⟨ho.1, ?_⟩
    rcases ho.2 with h2 | ⟨g, cap, cur, hv, hg, h3⟩
    · exact .inl h2
    · exact .inr ⟨g, cap, cur, hv, Nat.le_trans this hg, h3⟩
  · have h1 := (World.ownsRow.lt ho g hg).1
    have h2 := h.qs.lt g hO
    omega
theorem LM.up {w0 wr : World} {q n m : Nat} {room : Int} {O : Nat → Prop} {Z : Qx} {v : Value} {L : List Kn} (h : LM w0 wr q room O Z v L n) (hm : n ≤ m) : LM w0 wr q room O Z v L m :=
  ⟨h.qs, h.on, h.ob, h.vo, h.bl, by have := h.nn; omega, h.rm, h.ar, h.kn⟩
/-- Where an element of the law's list lies. -/
theorem LM.el {w0 wr : World} {q n : Nat} {room : Int} {O : Nat → Prop} {Z : Qx} {a : Option Addr} {c m : Nat} {L : List Kn} (h : LM w0 wr q room O Z (.slice a m c) L n) {j : Nat} {p : Kn} (hp : L[j]? = some p) : ∃ g, a = some ⟨g, 0, none⟩ ∧ m = L.length ∧ (∀ o, wr.frozen? ⟨g, o, none⟩ = false) ∧ wr.cell? ⟨g, j * 4, none⟩ = some (.int .i64 p.id) ∧ wr.cell? ⟨g, j * 4 + 1, none⟩ = some p.kv ∧ wr.cell? ⟨g, j * 4 + 2, none⟩ = some (.bool p.d) ∧ wr.cell? ⟨g, j * 4 + 3, none⟩ = some (.bool p.o) := by
  rcases h.on.slc with ⟨_, h0⟩ | ⟨g, cap, hv, _, _, hf, hc⟩
  · rw [h0] at hp; simp at hp
  · injection hv with e1 e2 e3
    exact ⟨g, e1, e2, hf, hc j p hp⟩
theorem kn_set {w0 : World} {L : List Kn} (h : ∀ p ∈ L, KY.RM w0 p.kv p.ks ∧ p.ks.length ≤ 8796093022000) {j : Nat} {p p' : Kn} (hp : L[j]? = some p) (he : p'.kv = p.kv ∧ p'.ks = p.ks) : ∀ r ∈ L.set j p', KY.RM w0 r.kv r.ks ∧ r.ks.length ≤ 8796093022000 := fun r hr => by
  rcases List.mem_or_eq_of_mem_set hr with h1 | h1
  · exact h r h1
  · rw [h1, he.1, he.2]; exact h p (List.mem_of_getElem? hp)
theorem LM.setD {w0 wr : World} {q n g cap : Nat} {room : Int} {O : Nat → Prop} {Z : Qx} {L : List Kn} (h : LM w0 wr q room O Z (.slice (some ⟨g, 0, none⟩) L.length cap) L n) {j : Nat} {p : Kn} (hp : L[j]? = some p) (b : Bool) : LM w0 (wr.setCell ⟨g, j * 4 + 2, none⟩ (.bool b)) q room O Z (.slice (some ⟨g, 0, none⟩) L.length cap) (L.set j { p with d := b }) n := by
  have := h.set (L' := L.set j { p with d := b }) (j * 4 + 2) (.bool b) (by simp) (nc_setd hp b) (kn_set h.kn hp ⟨rfl, rfl⟩)
  rwa [List.length_set] at this
theorem LM.setO {w0 wr : World} {q n g cap : Nat} {room : Int} {O : Nat → Prop} {Z : Qx} {L : List Kn} (h : LM w0 wr q room O Z (.slice (some ⟨g, 0, none⟩) L.length cap) L n) {j : Nat} {p : Kn} (hp : L[j]? = some p) (b : Bool) : LM w0 (wr.setCell ⟨g, j * 4 + 3, none⟩ (.bool b)) q room O Z (.slice (some ⟨g, 0, none⟩) L.length cap) (L.set j { p with o := b }) n := by
  have := h.set (L' := L.set j { p with o := b }) (j * 4 + 3) (.bool b) (by simp) (nc_seto hp b) (kn_set h.kn hp ⟨rfl, rfl⟩)
  rwa [List.length_set] at this
theorem jx (j : Nat) (n : Nat) (h : j < n) : decide ((j : Int) ≥ 0) = true ∧ decide ((0 : Int) ≤ (j : Int)) = true ∧ (0 : Int) ≤ (j : Int) ∧ (j : Int) < (n : Int) ∧ decide ((j : Int) < 0) = false := ⟨decide_eq_true (by omega), decide_eq_true (by omega), by omega, by omega, decide_eq_false (by omega)⟩
end Go.Proofs.Ytblldldaoejoaaa
