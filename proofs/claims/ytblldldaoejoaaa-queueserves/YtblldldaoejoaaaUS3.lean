/-
  My own text: layer 19: QueueServes: the calls, held against what the law knows.
-/
import Derived.Test.YtblldldaoejoaaaUS2
namespace Go.Proofs.Ytblldldaoejoaaa
open Go.RowKit Go.Extern Go.MapKept Go.ChangeMaps

/-- What is known of both queues while entries are put. -/
structure EN (w0 : World) (Z1 Z2 : Qx) (L : List Kn) (n m : Nat) : Prop where
  r1 : Rel (RZ Z1) Z1.A L
  r2 : Rel (RZ Z2) Z2.A L
  fr : ∀ p ∈ L, p.d = false ∧ p.o = false
  n1 : Z1.n ≤ (n : Int)
  n2 : Z2.n ≤ (n : Int)
  m1 : Z1.room = (m : Int)
  m2 : Z2.room = (m : Int)
  ln : L.length ≤ n
  kn : ∀ p ∈ L, KY.RM w0 p.kv p.ks ∧ p.ks.length ≤ 8796093022000
theorem EN.swap {w0 : World} {Z1 Z2 : Qx} {L : List Kn} {n m : Nat} (h : EN w0 Z1 Z2 L n m) : EN w0 Z2 Z1 L n m := ⟨h.r2, h.r1, h.fr, h.n2, h.n1, h.m2, h.m1, h.ln, h.kn⟩
theorem EN.up {w0 : World} {Z1 Z2 : Qx} {L : List Kn} {n m : Nat} (h : EN w0 Z1 Z2 L n m) : EN w0 Z1 Z2 L (n + 1) m := ⟨h.r1, h.r2, h.fr, by have := h.n1; omega, by have := h.n2; omega, h.m1, h.m2, by have := h.ln; omega, h.kn⟩
def knO (p : Oq) : Kn := ⟨p.id, p.ks, p.ka, p.kc, false, false⟩
theorem EN.put {w0 : World} {Z1 Z2 Z1' Z2' : Qx} {L : List Kn} {n m : Nat} (h : EN w0 Z1 Z2 L n m) {p : Oq} (hp : OqOk w0 p) (h1 : Rel (RZ Z1') Z1'.A (L ++ [knO p])) (h2 : Rel (RZ Z2') Z2'.A (L ++ [knO p])) (e1 : Z1'.n = Z1.n + 1) (e2 : Z2'.n = Z2.n + 1) (f1 : Z1'.room = Z1.room) (f2 : Z2'.room = Z2.room) : EN w0 Z1' Z2' (L ++ [knO p]) (n + 1) m := by
  refine ⟨h1, h2, fun q hq => ?_, by have := h.n1; omega, by have := h.n2; omega, by rw [f1]; exact h.m1, by rw [f2]; exact h.m2, by have := h.ln; simp; omega, fun q hq => ?_⟩
  · rcases List.mem_append.1 hq with hq | hq
    · exact h.fr q hq
    · rw [List.mem_singleton.1 hq]; exact ⟨rfl, rfl⟩
  · rcases List.mem_append.1 hq with hq | hq
    · exact h.kn q hq
    · rw [List.mem_singleton.1 hq]; exact ⟨hp.rm, hp.kl⟩
section
variable {w0 w1 : World} {q1 q2 : Nat} {O1 O2 : Nat → Prop} {Z1 Z2 : Qx} {va vi vs : Value} {AL : List Ky} {IL : List Int} {SL : List Value} {L : List Kn} {n m : Nat}
theorem SS.put_tw (h : SS w0 w1 q1 q2 O1 O2 Z1 Z2 va vi vs AL IL SL) {Z3 : Qx} (e : EN w0 Z1 Z3 L n m) (hn : n < m) (hm : m ≤ 2932031007402) {id : Int} (hid : IOK id) {v : Value} {K : List Ky} (hv : KY.RM w1 v K) (hl : K.length ≤ 8796093022000) (hk : ∀ k ∈ K, KOK k) (hin : ∃ p ∈ L, p.id = id) :
    Calls Try.prog 8 #[.pointer (some ⟨q1, 0, none⟩), .int .i64 id, v] w1 fun r w' => r = .returned (er 11) ∧ ∃ O1', Hid (SS w0 w' q1 q2 O1' O2 Z1 Z2 va vi vs AL IL SL) := by
  refine (putQ_any O1 q1 id v K Z1 w1 h.s.a hid hv hl hk (by have := e.n1; omega)).mono ?_
  obtain ⟨p, hp, hi⟩ := hin
  obtain ⟨j, hj⟩ := List.getElem?_of_mem hp
  obtain ⟨x, hx, hR⟩ := e.r1.got hj
  have hxi : (Z1.T x).id = id := by rw [hR.2.id, hi]
  rintro r w' (⟨_, rfl, hq⟩ | ⟨hno, _⟩ | ⟨hno, _⟩)
  · obtain ⟨O1', h1⟩ := h.call hq
    exact ⟨rfl, O1', hide h1⟩
  · exact absurd hxi (hno x hR.1)
  · exact absurd hxi (hno x hR.1)
theorem SS.put_nw (h : SS w0 w1 q1 q2 O1 O2 Z1 Z2 va vi vs AL IL SL) {Z3 : Qx} (e : EN w0 Z1 Z3 L n m) (hn : n < m) (hm : m ≤ 2932031007402) {p : Oq} (hp : OqOk w0 p) {v : Value} {K : List Ky} (hv : KY.RM w1 v K) (hl : K.length ≤ 8796093022000) (hk : ∀ k ∈ K, KOK k) (hks : ∀ k, k ∈ K ↔ k ∈ p.ks) (hin : ∀ q ∈ L, q.id ≠ p.id) :
    Calls Try.prog 8 #[.pointer (some ⟨q1, 0, none⟩), .int .i64 p.id, v] w1 fun r w' => r = .returned .nilIface ∧ ∃ O1' Z1', Hid (SS w0 w' q1 q2 O1' O2 Z1' Z2 va vi vs AL IL SL) ∧ Hid (Rel (RZ Z1') Z1'.A (L ++ [knO p]) ∧ Z1'.n = Z1.n + 1 ∧ Z1'.room = Z1.room) := by
  refine (putQ_any O1 q1 p.id v K Z1 w1 h.s.a hp.id hv hl hk (by have := e.n1; omega)).mono ?_
  have hA := e.r1.len
  have hln := e.ln
  have hm1 := e.m1
  rintro r w' (⟨⟨x, hx, hi⟩, _⟩ | ⟨_, hf, _⟩ | ⟨_, _, rfl, Z', x, K', kv', hq, hr, hn', hA', hT, hx, hTx, hK⟩)
  · obtain ⟨j, hj⟩ := List.getElem?_of_mem hx
    obtain ⟨q, hq, hR⟩ := e.r1.get hj
    exact absurd (by rw [← hR.2.id, hi]) (hin q (List.mem_of_getElem? hq))
  · omega
  · obtain ⟨O1', h1⟩ := h.call hq
    exact ⟨rfl, O1', Z', hide h1, hide ⟨e.r1.put hA' hT (by rw [hTx]; exact ⟨rfl, fun k => (hK k).trans (hks k), rfl, rfl⟩), hn', hr⟩⟩
theorem SS.touch (h : SS w0 w1 q1 q2 O1 O2 Z1 Z2 va vi vs AL IL SL) {M : List Kn} (hr : Rel (RZ Z1) Z1.A M) {v : Value} {K : List Ky} (hv : KY.RM w1 v K) (hl : K.length ≤ 8796093022000) (hk : ∀ k ∈ K, KOK k) (hfr : 0 < K.length → ∀ g, v.ownBlock = some g → ¬ O1 g) :
    Calls Try.prog 11 #[.pointer (some ⟨q1, 0, none⟩), v] w1 fun r w' => ∃ O1' Z1', r = .returned (.int .i64 ((Z1'.Rd.length : Int) - (Z1.Rd.length : Int))) ∧ Hid (SS w0 w' q1 q2 O1' O2 Z1' Z2 va vi vs AL IL SL) ∧ Hid (Rel (RZ Z1') Z1'.A (M.map (tch K))) := by
  refine (touchQ_any O1 q1 v K Z1 w1 h.s.a hv hl hk hfr).mono ?_
  rintro r w' ⟨Z', rfl, hq, _, _, hA, hT⟩
  obtain ⟨O1', h1⟩ := h.call hq
  exact ⟨O1', Z', rfl, hide h1, hide (hr.touch h.s.a.ok hA hT)⟩
theorem SS.take (h : SS w0 w1 q1 q2 O1 O2 Z1 Z2 va vi vs AL IL SL) {M : List Kn} {k : Nat} (hr : Rel (RZ Z1) Z1.A (tkL M k)) {p : Kn} (hp : M[k]? = some p) (hd : p.d = true) (ho : p.o = false) :
    Calls Try.prog 13 #[.pointer (some ⟨q1, 0, none⟩)] w1 fun r w' => r = .returned (.tuple #[.int .i64 p.id, .bool true]) ∧ ∃ O1' Z1', Hid (SS w0 w' q1 q2 O1' O2 Z1' Z2 va vi vs AL IL SL) ∧ Hid (Rel (RZ Z1') Z1'.A (tkL M (k + 1))) := by
  have hlt := (List.getElem?_eq_some_iff.1 hp).1
  obtain ⟨x, t, hR, hx, hrl⟩ := hr.rd1 h.s.a.ok (tkL_at hp) (by unfold rdy; rw [hd, ho]; rfl) (fun j p' hj hp' => tkL_lt (by omega) hj hp')
  refine (takeQ_any O1 q1 Z1 w1 h.s.a).mono ?_
  rintro r w' (⟨h0, _⟩ | ⟨x', t', Z', hR', _, rfl, hq, _, _, hA, hT⟩)
  · rw [h0] at hR; cases hR
  · rw [hR] at hR'
    obtain ⟨rfl, _⟩ := List.cons.inj hR'
    obtain ⟨O1', h1⟩ := h.call hq
    refine ⟨by rw [hrl.id], O1', Z', hide h1, hide ?_⟩
    have e : tkn p = { p with d := false, o := true } := by unfold tkn; rw [if_pos hd]
    rw [← tkL_set hp, e]
    exact hr.upd h.s.a.ok hA hT hx ⟨hrl.id, hrl.ks, rfl, rfl⟩
theorem SS.take0 (h : SS w0 w1 q1 q2 O1 O2 Z1 Z2 va vi vs AL IL SL) {M : List Kn} (hr : Rel (RZ Z1) Z1.A (tkL M M.length)) :
    Calls Try.prog 13 #[.pointer (some ⟨q1, 0, none⟩)] w1 fun r w' => r = .returned (.tuple #[.int .i64 0, .bool false]) ∧ ∃ O1', Hid (SS w0 w' q1 q2 O1' O2 Z1 Z2 va vi vs AL IL SL) := by
  have h0 := hr.rd0 h.s.a.ok
  refine (takeQ_any O1 q1 Z1 w1 h.s.a).mono ?_
  rintro r w' (⟨_, rfl, hq⟩ | ⟨x', t', Z', hR', _⟩)
  · obtain ⟨O1', h1⟩ := h.call hq
    exact ⟨rfl, O1', hide h1⟩
  · rw [h0] at hR'; cases hR'
end
theorem SS.start {w w1 w2 w3 : World} {q1 q2 : Nat} {O1 O2 : Nat → Prop} {Z1 Z2 : Qx} (h1 : QS O1 w1 q1 Z1) (h2 : ∀ g, O1 g → w.heap.size ≤ g) (h3 : Below w.heap.size w w1) (g1 : QS O2 w2 q2 Z2) (g2 : ∀ g, O2 g → w1.heap.size ≤ g) (g3 : Below w1.heap.size w1 w2) (hb : Below w2.heap.size w2 w3) :
    SS w w3 q1 q2 O1 O2 Z1 Z2 (.slice none 0 0) (.slice none 0 0) (.slice none 0 0) [] [] [] := by
  refine ⟨⟨(h1.later g3).later hb, g1.later hb, h2, fun g hg => Nat.le_trans h3.size (g2 g hg), fun g a b => by have := h1.lt g a; have := g2 g b; omega, (h3.trans (g3.mono h3.size)).trans (hb.mono (Nat.le_trans h3.size g3.size)), fun v hv g hg => ?_⟩, World.ownsRow_nil _ _ _ _, World.ownsRow_nil _ _ _ _, World.ownsRow_nil _ _ _ _⟩
  have e : v = .slice none 0 0 := by simpa using hv
  rw [e] at hg; cases hg
theorem EN.start (w : World) {Z1 Z2 : Qx} {m : Nat} (h1 : Z1.room = max (m : Int) 0) (h2 : Z1.A = []) (h3 : Z1.n = 0) (g1 : Z2.room = max (m : Int) 0) (g2 : Z2.A = []) (g3 : Z2.n = 0) : EN w Z1 Z2 [] 0 m :=
  ⟨⟨by rw [h2]; rfl, fun j x p hx => by rw [h2] at hx; simp at hx⟩, ⟨by rw [g2]; rfl, fun j x p hx => by rw [g2] at hx; simp at hx⟩, fun p hp => (by cases hp), by rw [h3]; exact Int.le_refl _, by rw [g3]; exact Int.le_refl _, by rw [h1]; omega, by rw [g1]; omega, by simp, fun p hp => (by cases hp)⟩
theorem gtNilU (q : Nat) (W : World) : (binOp .eql 23 (.pointer (some ⟨q, 0, none⟩)) (.pointer none)).run Try.prog W = .ok (.bool false) W := by kernel_rfl
theorem egNilU (n : Nat) (W : World) : (eqGuard .eql 32 (.tmp n) (.const .nilIface) .nilIface .nilIface).run Try.prog W = .ok () W := by kernel_rfl
theorem egNoU (k : Int) (n : Nat) (W : World) : (eqGuard .eql 32 (.tmp n) (.const .nilIface) (.iface 63 (.int .i64 k)) .nilIface).run Try.prog W = .ok () W := by kernel_rfl
theorem below_dNU {B : Nat} {a w : World} (h : Below B a w) (n : Nat) : Below B a (w.drewN n) := h.trans ⟨rfl, rfl, rfl, Nat.le_refl _, fun _ _ => rfl⟩
theorem big_nums (a b : Nat) (ha : a ≤ 100000) (hb : b ≤ 8796093021999) : ∃ s : Int, wrap64 ((a : Int) + (b : Int)) = s ∧ (100000 < a + b → decide (s > 100000) = true ∧ decide (100000 < s) = true) ∧ (¬ 100000 < a + b → decide (s > 100000) = false ∧ decide (100000 < s) = false) :=
  ⟨(a : Int) + (b : Int), by unfold wrap64; omega, fun h => ⟨decide_eq_true (by omega), decide_eq_true (by omega)⟩, fun h => ⟨decide_eq_false (by omega), decide_eq_false (by omega)⟩⟩
theorem sum_nums (a b : Nat) (_ : a ≤ 8796093022000) (hb : b ≤ 8796093022000) : ∃ N : Int, (b : Int) - (a : Int) = N ∧ wrap64 ((a : Int) + N) = (b : Int) := ⟨_, rfl, by unfold wrap64; omega⟩
theorem dec_nums (a : Nat) (ha : a ≤ 8796093022000) : wrap64 (((a + 1 : Nat) : Int) - 1) = (a : Int) := by unfold wrap64; omega
theorem left_le (L : List Kn) (k : Nat) : left L k ≤ L.length := by unfold left; exact Nat.le_trans (List.length_filter_le _ _) (by simp)
theorem rm_obU {w : World} {v : Value} {K : List Ky} (h : KY.RM w v K) (h0 : 0 < K.length) : ∀ g, v.ownBlock = some g → g < w.heap.size := by
  obtain ⟨a, cap, rfl, _, h1 | ⟨b, off, rfl, hlt, _⟩⟩ := h
  · rw [h1] at h0; simp at h0
  · intro g hg
    have : b = g := Option.some.inj hg
    rw [← this]; exact hlt
end Go.Proofs.Ytblldldaoejoaaa
