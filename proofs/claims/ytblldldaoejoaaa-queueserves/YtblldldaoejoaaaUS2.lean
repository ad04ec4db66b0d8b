/-
  My own text: layer 19: QueueServes: two queues apart, and the law's own rows.
-/
import Derived.Test.YtblldldaoejoaaaU20
import Derived.Test.YtblldldaoejoaaaUS1
import Derived.Test.YtblldldaoejoaaaGAM
namespace Go.Proofs.Ytblldldaoejoaaa
open Go.RowKit Go.Extern Go.MapKept Go.ChangeMaps

/-- Two queues, apart; R: rows of the law's own. -/
structure S2 (w0 wr : World) (q1 q2 : Nat) (O1 O2 : Nat → Prop) (Z1 Z2 : Qx) (R : List Value) : Prop where
  a : QS O1 wr q1 Z1
  b : QS O2 wr q2 Z2
  oa : ∀ g, O1 g → w0.heap.size ≤ g
  ob : ∀ g, O2 g → w0.heap.size ≤ g
  dj : ∀ g, O1 g → O2 g → False
  bl : Below w0.heap.size w0 wr
  ap : ∀ v ∈ R, ∀ g, v.ownBlock = some g → w0.heap.size ≤ g ∧ g < wr.heap.size ∧ ¬ O1 g ∧ ¬ O2 g
theorem S2.swap {w0 wr : World} {q1 q2 : Nat} {O1 O2 : Nat → Prop} {Z1 Z2 : Qx} {R : List Value} (h : S2 w0 wr q1 q2 O1 O2 Z1 Z2 R) : S2 w0 wr q2 q1 O2 O1 Z2 Z1 R :=
  ⟨h.b, h.a, h.ob, h.oa, fun g h1 h2 => h.dj g h2 h1, h.bl, fun v hv g hg => ⟨(h.ap v hv g hg).1, (h.ap v hv g hg).2.1, (h.ap v hv g hg).2.2.2, (h.ap v hv g hg).2.2.1⟩⟩
theorem S2.later {w0 wr w' : World} {q1 q2 : Nat} {O1 O2 : Nat → Prop} {Z1 Z2 : Qx} {R : List Value} (h : S2 w0 wr q1 q2 O1 O2 Z1 Z2 R) (hb : Below wr.heap.size wr w') : S2 w0 w' q1 q2 O1 O2 Z1 Z2 R :=
  ⟨h.a.later hb, h.b.later hb, h.oa, h.ob, h.dj, h.bl.trans (hb.mono h.bl.size), fun v hv g hg => ⟨(h.ap v hv g hg).1, Nat.lt_of_lt_of_le (h.ap v hv g hg).2.1 hb.size, (h.ap v hv g hg).2.2⟩⟩
theorem S2.call {w0 wr w' : World} {q1 q2 : Nat} {O1 O2 : Nat → Prop} {Z1 Z2 Z1' : Qx} {R : List Value} (h : S2 w0 wr q1 q2 O1 O2 Z1 Z2 R) (hq : QTo O1 wr w' q1 Z1') :
    ∃ O1', S2 w0 w' q1 q2 O1' O2 Z1' Z2 R ∧ ∀ v ∈ R, ∀ g, v.ownBlock = some g → w'.heap[g]? = wr.heap[g]? := by
  obtain ⟨O', p1, p2, p3⟩ := hq
  refine ⟨O', ⟨p1, h.b.kept (fun g hg => p3.block g (h.b.lt g hg) (fun e => h.dj g e hg)) p3.size, fun g hg => (p2 g hg).elim (h.oa g) (fun e => Nat.le_trans h.bl.size e), h.ob, fun g h1 h2 => (p2 g h1).elim (fun e => h.dj g e h2) (fun e => by have := h.b.lt g h2; omega), fo_below h.bl p3 h.oa, fun v hv g hg => ?_⟩, fun v hv g hg => p3.block g (h.ap v hv g hg).2.1 (h.ap v hv g hg).2.2.1⟩
  obtain ⟨x1, x2, x3, x4⟩ := h.ap v hv g hg
  exact ⟨x1, Nat.lt_of_lt_of_le x2 p3.size, fun e => (p2 g e).elim x3 (fun e => by omega), x4⟩
theorem S2.grow {w0 wr w' : World} {q1 q2 : Nat} {O1 O2 : Nat → Prop} {Z1 Z2 : Qx} {R R' : List Value} (h : S2 w0 wr q1 q2 O1 O2 Z1 Z2 R) {v v' : Value} (hv : v ∈ R) (hg : wr.grownBy w' v.ownBlock) (hat : v'.ownBlock = v.ownBlock ∨ v'.ownBlock = some wr.heap.size) (hlt : ∀ g, v'.ownBlock = some g → g < w'.heap.size) (hR : ∀ u ∈ R', u ∈ R ∨ u = v') : S2 w0 w' q1 q2 O1 O2 Z1 Z2 R' := by
  obtain ⟨e1, e2, e3, e4, e5⟩ := hg
  have hg : wr.grownBy w' v.ownBlock := ⟨e1, e2, e3, e4, e5⟩
  refine ⟨h.a.kept (fun g hO => e5 g (h.a.lt g hO) (fun e => (h.ap v hv g (by first | exact e | exact e.symm)).2.2.1 hO)) e4, h.b.kept (fun g hO => e5 g (h.b.lt g hO) (fun e => (h.ap v hv g (by first | exact e | exact e.symm)).2.2.2 hO)) e4, h.oa, h.ob, h.dj, h.bl.grown hg h.bl.size (fun k hk => (h.ap v hv k hk).1), fun u hu g hg' => ?_⟩
  rcases hR u hu with h1 | h1
  · obtain ⟨x1, x2, x3, x4⟩ := h.ap u h1 g hg'
    exact ⟨x1, Nat.lt_of_lt_of_le x2 e4, x3, x4⟩
  · rw [h1] at hg'
    rcases hat with e | e
    · rw [e] at hg'
      obtain ⟨x1, x2, x3, x4⟩ := h.ap v hv g hg'
      exact ⟨x1, Nat.lt_of_lt_of_le x2 e4, x3, x4⟩
    · have hl := hlt g hg'
      rw [e] at hg'
      have eg : wr.heap.size = g := Option.some.inj hg'
      have := h.bl.size
      exact ⟨by omega, hl, fun hO => by have := h.a.lt g hO; omega, fun hO => by have := h.b.lt g hO; omega⟩
/-- A row of lists of keys of one's own. -/
abbrev OSl (w : World) (B : Nat) (v : Value) (l : List Value) : Prop := w.ownsRow B 27 1 v l.length l
/-- The law's whole memory. -/
structure SS (w0 wr : World) (q1 q2 : Nat) (O1 O2 : Nat → Prop) (Z1 Z2 : Qx) (va vi vs : Value) (AL : List Ky) (IL : List Int) (SL : List Value) : Prop where
  s : S2 w0 wr q1 q2 O1 O2 Z1 Z2 [va, vi, vs]
  ka : KY.OM wr w0.heap.size va AL
  ki : OI wr w0.heap.size vi IL
  ks : OSl wr w0.heap.size vs SL
theorem SS.swap {w0 wr : World} {q1 q2 : Nat} {O1 O2 : Nat → Prop} {Z1 Z2 : Qx} {va vi vs : Value} {AL : List Ky} {IL : List Int} {SL : List Value} (h : SS w0 wr q1 q2 O1 O2 Z1 Z2 va vi vs AL IL SL) : SS w0 wr q2 q1 O2 O1 Z2 Z1 va vi vs AL IL SL := ⟨h.s.swap, h.ka, h.ki, h.ks⟩
theorem SS.later {w0 wr w' : World} {q1 q2 : Nat} {O1 O2 : Nat → Prop} {Z1 Z2 : Qx} {va vi vs : Value} {AL : List Ky} {IL : List Int} {SL : List Value} (h : SS w0 wr q1 q2 O1 O2 Z1 Z2 va vi vs AL IL SL) (hb : Below wr.heap.size wr w') : SS w0 w' q1 q2 O1 O2 Z1 Z2 va vi vs AL IL SL :=
  ⟨h.s.later hb, owns_lat h.ka hb, owns_lat h.ki hb, owns_lat h.ks hb⟩
theorem SS.call {w0 wr w' : World} {q1 q2 : Nat} {O1 O2 : Nat → Prop} {Z1 Z2 Z1' : Qx} {va vi vs : Value} {AL : List Ky} {IL : List Int} {SL : List Value} (h : SS w0 wr q1 q2 O1 O2 Z1 Z2 va vi vs AL IL SL) (hq : QTo O1 wr w' q1 Z1') : ∃ O1', SS w0 w' q1 q2 O1' O2 Z1' Z2 va vi vs AL IL SL := by
  obtain ⟨O', s1, s2⟩ := h.s.call hq
  exact ⟨O', s1, owns_blk h.ka (fun g hg => s2 va (by simp) g hg), owns_blk h.ki (fun g hg => s2 vi (by simp) g hg), owns_blk h.ks (fun g hg => s2 vs (by simp) g hg)⟩
theorem SS.callB {w0 wr w' : World} {q1 q2 : Nat} {O1 O2 : Nat → Prop} {Z1 Z2 Z2' : Qx} {va vi vs : Value} {AL : List Ky} {IL : List Int} {SL : List Value} (h : SS w0 wr q1 q2 O1 O2 Z1 Z2 va vi vs AL IL SL) (hq : QTo O2 wr w' q2 Z2') : ∃ O2', SS w0 w' q1 q2 O1 O2' Z1 Z2' va vi vs AL IL SL := by
  obtain ⟨O', h1⟩ := h.swap.call hq
  exact ⟨O', h1.swap⟩
/-- Rows of unlike types are apart. -/
theorem owns_other {w w' : World} {B : Nat} {t u : TypeId} {s1 s2 n m : Nat} {v x : Value} {l k : List Value} (h : w.ownsRow B t s1 v n l) (hx : w.ownsRow B u s2 x m k) (htu : t ≠ u) (hg : w.grownBy w' v.ownBlock) : w'.ownsRow B u s2 x m k := by
  obtain ⟨e1, e2, e3, e4, e5⟩ := hg
  refine owns_blk hx (fun g hgx => e5 g (World.ownsRow.lt hx g hgx).2 (fun e => ?_))
  have e' : v.ownBlock = some g := by first | exact e | exact e.symm
  obtain ⟨c1, f1, h1⟩ := ownsRow_kind h g e'
  obtain ⟨c2, f2, h2⟩ := ownsRow_kind hx g hgx
  rw [h1] at h2
  injection h2 with h2
  injection h2 with _ h2 _
  exact htu h2
theorem SS.appA {w0 w1 w2 : World} {q1 q2 : Nat} {O1 O2 : Nat → Prop} {Z1 Z2 : Qx} {va va' vi vs : Value} {AL AL' : List Ky} {IL : List Int} {SL : List Value} (h : SS w0 w1 q1 q2 O1 O2 Z1 Z2 va vi vs AL IL SL) (ho : KY.OM w2 w0.heap.size va' AL') (hg : w1.grownBy w2 va.ownBlock) (hat : va'.ownBlock = va.ownBlock ∨ va'.ownBlock = some w1.heap.size) : SS w0 w2 q1 q2 O1 O2 Z1 Z2 va' vi vs AL' IL SL :=
  ⟨h.s.grow (v := va) (v' := va') (by simp) hg hat (fun g hg => (World.ownsRow.lt ho g hg).2) (fun u hu => by simp at hu ⊢; rcases hu with h | h | h <;> simp [h]), ho, owns_other h.ka h.ki (by decide) hg, owns_other h.ka h.ks (by decide) hg⟩
theorem SS.appI {w0 w1 w2 : World} {q1 q2 : Nat} {O1 O2 : Nat → Prop} {Z1 Z2 : Qx} {va vi vi' vs : Value} {AL : List Ky} {IL IL' : List Int} {SL : List Value} (h : SS w0 w1 q1 q2 O1 O2 Z1 Z2 va vi vs AL IL SL) (ho : OI w2 w0.heap.size vi' IL') (hg : w1.grownBy w2 vi.ownBlock) (hat : vi'.ownBlock = vi.ownBlock ∨ vi'.ownBlock = some w1.heap.size) : SS w0 w2 q1 q2 O1 O2 Z1 Z2 va vi' vs AL IL' SL :=
  ⟨h.s.grow (v := vi) (v' := vi') (by simp) hg hat (fun g hg => (World.ownsRow.lt ho g hg).2) (fun u hu => by simp at hu ⊢; rcases hu with h | h | h <;> simp [h]), owns_other h.ki h.ka (by decide) hg, ho, owns_other h.ki h.ks (by decide) hg⟩
theorem SS.appS {w0 w1 w2 : World} {q1 q2 : Nat} {O1 O2 : Nat → Prop} {Z1 Z2 : Qx} {va vi vs vs' : Value} {AL : List Ky} {IL : List Int} {SL SL' : List Value} (h : SS w0 w1 q1 q2 O1 O2 Z1 Z2 va vi vs AL IL SL) (ho : OSl w2 w0.heap.size vs' SL') (hg : w1.grownBy w2 vs.ownBlock) (hat : vs'.ownBlock = vs.ownBlock ∨ vs'.ownBlock = some w1.heap.size) : SS w0 w2 q1 q2 O1 O2 Z1 Z2 va vi vs' AL IL SL' :=
  ⟨h.s.grow (v := vs) (v' := vs') (by simp) hg hat (fun g hg => (World.ownsRow.lt ho g hg).2) (fun u hu => by simp at hu ⊢; rcases hu with h | h | h <;> simp [h]), owns_other h.ks h.ka (by decide) hg, owns_other h.ks h.ki (by decide) hg, ho⟩
theorem OSl.slc {w : World} {B : Nat} {v : Value} {L : List Value} (h : OSl w B v L) : ∃ a cap, v = .slice a L.length cap := by
  rcases h.2 with ⟨rfl, h0⟩ | ⟨g, cap, cur, rfl, _⟩
  · exact ⟨none, 0, by rw [h0]⟩
  · exact ⟨_, _, rfl⟩
theorem OSl.cel {w : World} {B : Nat} {v : Value} {L : List Value} (h : OSl w B v L) : (v = .slice none 0 0 ∧ L = []) ∨ ∃ g cap, v = .slice (some ⟨g, 0, none⟩) L.length cap ∧ g < w.heap.size ∧ ∀ j x, L[j]? = some x → w.cell? ⟨g, j, none⟩ = some x := by
  have h' := h
  rcases h.2 with ⟨rfl, h0⟩ | ⟨g, cap, cur, rfl, hb, hh, hn, h3⟩
  · exact .inl ⟨rfl, List.eq_nil_of_length_eq_zero h0⟩
  · refine .inr ⟨g, cap, rfl, (Array.getElem?_eq_some_iff.1 hh).1, fun j x hj => ?_⟩
    have hjl := (List.getElem?_eq_some_iff.1 hj).1
    exact (h'.cellAt j (by omega)).trans hj
/-- append(row, more..) of keys, and where it lies. -/
theorem run_append_ky (w : World) (B : Nat) (ty : TypeId) (v : Value) (M : List Ky) (hown : KY.OM w B v M) (x : Value) (L : List Ky) (hx : KY.RM w x L) (hn : M.length + L.length ≤ 8796093022208) (hB : B ≤ w.heap.size) :
    ∃ v' w', (Builtin.append_ #[27, 27] ty #[v, x]).run Try.prog w = .ok v' w' ∧ KY.OM w' B v' (M ++ L) ∧ w.grownBy w' v.ownBlock ∧ (v'.ownBlock = v.ownBlock ∨ v'.ownBlock = some w.heap.size) := by
  obtain ⟨i0, hi, hz0, hz1, hz2⟩ := info_parts KY.Try.infoMk
  obtain ⟨a, cap, rfl, _, hc⟩ := hx
  cases a with
  | none =>
    obtain rfl : L = [] := hc.resolve_right (fun ⟨b, off, h, _⟩ => by cases h)
    refine ⟨v, w, ?_, by rw [List.append_nil]; exact hown, ⟨rfl, rfl, rfl, Nat.le_refl _, fun _ _ _ => rfl⟩, .inl rfl⟩
    rcases hown.2 with ⟨rfl, h0⟩ | ⟨g, cap', cur, rfl, _, _, hnc, _⟩
    · simp [Builtin.append_, run_underlying Try.underlying27, sizeOf, typeInfo, hi, Builtin.lenOf, Builtin.firstCells]
    · simp [Builtin.append_, run_underlying Try.underlying27, sizeOf, typeInfo, hi, Builtin.lenOf, Builtin.firstCells, hnc, storeCells]
  | some ad =>
    have hnews : ∀ j u, (KY.mc L)[j]? = some u → w.cell? (ad.add j) = some u := fun j u hj => by
      obtain ⟨i, p, h1, h2⟩ := KY.mc_cells2 hj
      have hne : ¬ L = [] := fun e => by rw [e] at h1; simp at h1
      obtain ⟨b, off, ha, _, hcc⟩ := hc.resolve_left hne
      cases ha
      have h4 := hcc i p h1
      rcases h2 with ⟨rfl, rfl⟩ | ⟨rfl, rfl⟩
      · rw [Addr.add_lit]; have h5 := h4.1; first | exact h5 | (rw [← Nat.add_assoc]; exact h5)
      · rw [Addr.add_lit]; have h5 := h4.2; first | exact h5 | (rw [← Nat.add_assoc]; exact h5)
    obtain ⟨v', w', hrun, r1, r2, _, r3⟩ := run_append_own_at (P := Try.prog) w B 27 ty 58 i0 _ 2 16 Try.underlying27 hi hz0 hz1 hz2 rfl (by decide) v M.length (KY.mc M) hown ad L.length cap (KY.mc L) (KY.mc_len L) hnews (KY.mc_one L) (by unfold maxLen; omega) (by omega) hB
    refine ⟨v', w', hrun, ?_, r2, r3⟩
    unfold KY.OM
    rw [List.length_append, KY.mc_app]; exact r1
theorem wpList_append_ky {w : World} {ops : Array Oper} {rest : List Oper} {o : Oper} {a : Act} {Q : Exit → Act → World → Prop} (hgd : o.guard = none) (s x : Operand)
    (ho : o.op = .call { callee := .builtin .append, args := #[s, x], argTypes := #[27, 27] }) (B : Nat) (v : Value) (M : List Ky) (hs : a.eval s = v) (hown : KY.OM w B v M) (u : Value) (L : List Ky) (hu : a.eval x = u) (hx : KY.RM w u L) (hn : M.length + L.length ≤ 8796093022208) (hB : B ≤ w.heap.size)
    (h : ∀ v' w', KY.OM w' B v' (M ++ L) → w.grownBy w' v.ownBlock → (v'.ownBlock = v.ownBlock ∨ v'.ownBlock = some w.heap.size) → wpList Try.prog ops Q rest (a.put o.dst v') w') :
    wpList Try.prog ops Q (o :: rest) a w := by
  refine wpList_plain hgd fun K hK => ?_
  obtain ⟨v', w', hr, h2, h3, h4⟩ := run_append_ky w B o.type v M hown u L hx hn hB
  unfold Oper.wp execOp
  simp only [ho, resolve, invoke, builtin, Sem.run_bind, Sem.run_pure, Result.andThen_ok, List.map_toArray, List.map_cons, List.map_nil, hs, hu, hr]
  exact hK _ _ (h v' w' h2 h3 h4)
theorem Try.infoSl : (Try.prog.info? 27).map (fun i => (i.zero, i.size, i.bytes)) = some (some (.slice none 0 0), 1, 24) := by kernel_rfl
/-- A list of keys among the arguments. -/
structure Kr where
  ks : List Ky
  ka : Option Addr
  kc : Nat
def Kr.kv (p : Kr) : Value := .slice p.ka p.ks.length p.kc
structure KrOk (w : World) (p : Kr) : Prop where
  rm : KY.RM w p.kv p.ks
  kl : p.ks.length ≤ 8796093021999
  kk : ∀ k ∈ p.ks, KOK k
def RT (w : World) (v : Value) (T : List Kr) : Prop := (∀ p ∈ T, KrOk w p) ∧ ∃ a cap, v = .slice a T.length cap ∧ (T = [] ∨ ∃ b off, a = some ⟨b, off, none⟩ ∧ b < w.heap.size ∧ ∀ (j : Nat) (p : Kr), T[j]? = some p → w.cell? ⟨b, off + j, none⟩ = some p.kv)
def flt (T : List Kr) (k : Nat) : List Ky := (T.take k).flatMap (·.ks)
theorem flt_zero (T : List Kr) : flt T 0 = [] := rfl
theorem flt_step {T : List Kr} {k : Nat} {p : Kr} (h : T[k]? = some p) : flt T (k + 1) = flt T k ++ p.ks := by
  unfold flt
  rw [List.take_add_one, h, List.flatMap_append]; simp
theorem flt_kok {T : List Kr} {w : World} (h : ∀ p ∈ T, KrOk w p) (k : Nat) : ∀ x ∈ flt T k, KOK x := fun x hx => by
  obtain ⟨p, hp, hxp⟩ := List.mem_flatMap.1 hx
  exact (h p (List.mem_of_mem_take hp)).kk x hxp

/-! Mathematics. -/
theorem meetsB_app (a K1 K2 : List Ky) : meetsB a (K1 ++ K2) = (meetsB a K1 || meetsB a K2) := by
  rw [Bool.eq_iff_iff, Bool.or_eq_true, meetsB_iff, meetsB_iff, meetsB_iff]
  constructor
  · rintro ⟨k, h1, h2⟩
    rcases List.mem_append.1 h2 with h3 | h3
    · exact .inl ⟨k, h1, h3⟩
    · exact .inr ⟨k, h1, h3⟩
  · rintro (⟨k, h1, h2⟩ | ⟨k, h1, h2⟩)
    · exact ⟨k, h1, List.mem_append_left _ h2⟩
    · exact ⟨k, h1, List.mem_append_right _ h2⟩
theorem meetsB_right {a K K' : List Ky} (h : ∀ k, k ∈ K ↔ k ∈ K') : meetsB a K = meetsB a K' := by
  rw [Bool.eq_iff_iff, meetsB_iff, meetsB_iff]
  exact ⟨fun ⟨k, h1, h2⟩ => ⟨k, h1, (h k).1 h2⟩, fun ⟨k, h1, h2⟩ => ⟨k, h1, (h k).2 h2⟩⟩
theorem tch_nil (p : Kn) : tch [] p = p := by
  unfold tch
  have : meetsB p.ks [] = false := by
    cases h : meetsB p.ks [] with
    | false => rfl
    | true => obtain ⟨k, _, h2⟩ := meetsB_iff.1 h; cases h2
  rw [this, Bool.or_false]
theorem tch_tch (K1 K2 : List Ky) (p : Kn) : tch K2 (tch K1 p) = tch (K1 ++ K2) p := by
  unfold tch
  dsimp only
  rw [meetsB_app, Bool.or_assoc]
theorem tch_trn (K : List Ky) : tch (trn K) = tch K := by
  funext p
  unfold tch
  rw [meetsB_right (fun k => mem_trn (L := K))]
def rdy (p : Kn) : Bool := p.d && !p.o
theorem Rl.rdy {e : Et} {p : Kn} (h : Rl e p) (hs : e.st = 0 ∨ e.st = 1 ∨ e.st = 2) : (e.st == 1) = rdy p := by
  unfold Go.Proofs.Ytblldldaoejoaaa.rdy
  rw [h.o, h.d]
  rcases hs with h0 | h1 | h2
  · simp [h0]
  · simp [h1]
  · simp [h2]
theorem Rel.cnt {R : Nat → Kn → Prop} {P : Nat → Bool} (hP : ∀ x p, R x p → P x = rdy p) : ∀ {A : List Nat} {L : List Kn}, Rel R A L → (A.filter P).length = (L.filter rdy).length
  | [], [], _ => rfl
  | [], p :: L, h => by have := h.len; simp at this
  | x :: A, [], h => by have := h.len; simp at this
  | x :: A, p :: L, h => by
    obtain ⟨h1, h2⟩ := h.tail
    have e := hP x p h1
    cases hk : rdy p with
    | true => rw [List.filter_cons_of_pos (by rw [e, hk]), List.filter_cons_of_pos hk, List.length_cons, List.length_cons, h2.cnt hP]
    | false => rw [List.filter_cons_of_neg (by rw [e, hk]; decide), List.filter_cons_of_neg (by rw [hk]; decide), h2.cnt hP]
theorem Rel.rdn {Z : Qx} {L : List Kn} (hO : Ok Z) (h : Rel (RZ Z) Z.A L) : Z.Rd.length = (L.filter rdy).length := by
  rw [hO.rdL]; exact h.cnt (fun x p hr => hr.2.rdy (hO.st x hr.1))
theorem filter_first {P : Nat → Bool} : ∀ {A : List Nat} {k x : Nat}, A[k]? = some x → P x = true → (∀ j y, j < k → A[j]? = some y → P y = false) → ∃ t, A.filter P = x :: t
  | [], k, x, h, _, _ => by simp at h
  | y :: A, 0, x, h, hP, _ => by
    obtain rfl : y = x := Option.some.inj h
    exact ⟨_, List.filter_cons_of_pos hP⟩
  | y :: A, k + 1, x, h, hP, hn => by
    have h0 := hn 0 y (by omega) rfl
    rw [List.filter_cons_of_neg (by rw [h0]; decide)]
    exact filter_first (k := k) (by simpa using h) hP (fun j z hj hz => hn (j + 1) z (by omega) (by simpa using hz))
theorem Rel.rd1 {Z : Qx} {L : List Kn} (hO : Ok Z) (h : Rel (RZ Z) Z.A L) {k : Nat} {p : Kn} (hp : L[k]? = some p) (hr : rdy p = true) (hn : ∀ j p', j < k → L[j]? = some p' → rdy p' = false) : ∃ x t, Z.Rd = x :: t ∧ Z.A[k]? = some x ∧ Rl (Z.T x) p := by
  obtain ⟨x, hx, hR⟩ := h.got hp
  obtain ⟨t, ht⟩ := filter_first (P := fun y => (Z.T y).st == 1) hx (by rw [hR.2.rdy (hO.st x hR.1)]; exact hr) (fun j y hj hy => by
    obtain ⟨p', hp', hR'⟩ := h.get hy
    show ((Z.T y).st == 1) = false
    rw [hR'.2.rdy (hO.st y hR'.1)]; exact hn j p' hj hp')
  exact ⟨x, t, by rw [hO.rdL]; exact ht, hx, hR.2⟩
/-- What has been given out. -/
def tkn (p : Kn) : Kn := if p.d = true then { p with d := false, o := true } else p
theorem rdy_tkn (p : Kn) : rdy (tkn p) = false := by
  unfold tkn rdy
  cases h : p.d with
  | true => rw [if_pos rfl]; rfl
  | false => rw [if_neg (by decide), h]; rfl
def tkL (L : List Kn) (k : Nat) : List Kn := (L.take k).map tkn ++ L.drop k
theorem tkL_zero (L : List Kn) : tkL L 0 = L := by unfold tkL; simp
theorem tkL_at {L : List Kn} {k : Nat} {p : Kn} (h : L[k]? = some p) : (tkL L k)[k]? = some p := by
  have := (List.getElem?_eq_some_iff.1 h).1
  unfold tkL
  rw [List.getElem?_append_right (by simp; omega)]
  simp only [List.length_map, List.length_take]
  rw [Nat.min_eq_left (by omega), Nat.sub_self, List.getElem?_drop]; simpa using h
theorem tkL_lt {L : List Kn} {k j : Nat} {p : Kn} (hk : k ≤ L.length) (hj : j < k) (h : (tkL L k)[j]? = some p) : rdy p = false := by
  unfold tkL at h
  rw [List.getElem?_append_left (by simp; omega), List.getElem?_map] at h
  obtain ⟨p', _, rfl⟩ := Option.map_eq_some_iff.1 h
  exact rdy_tkn p'
theorem tkL_set {L : List Kn} {k : Nat} {p : Kn} (h : L[k]? = some p) : (tkL L k).set k (tkn p) = tkL L (k + 1) := by
  have hlt := (List.getElem?_eq_some_iff.1 h).1
  have e1 : L.drop k = p :: L.drop (k + 1) := by rw [List.drop_eq_getElem_cons hlt]; rw [(List.getElem?_eq_some_iff.1 h).2]
  have e2 : L.take (k + 1) = L.take k ++ [p] := by rw [List.take_add_one, h]; rfl
  unfold tkL
  rw [e1, e2, List.map_append, List.append_assoc, List.set_append_right _ _ (by simp; omega)]
  congr 1
  simp only [List.length_map, List.length_take]
  rw [Nat.min_eq_left (by omega), Nat.sub_self]
  rfl
theorem tkL_no {L : List Kn} {k : Nat} {p : Kn} (h : L[k]? = some p) (hd : p.d = false) : tkL L (k + 1) = tkL L k := by
  have e := tkL_set h
  have e2 : tkn p = p := by unfold tkn; rw [if_neg (by rw [hd]; decide)]
  rw [e2, set_sameU (tkL_at h)] at e
  exact e.symm
where
  set_sameU {L : List Kn} {j : Nat} {p : Kn} (h : L[j]? = some p) : L.set j p = L := by
    obtain ⟨h1, h2⟩ := List.getElem?_eq_some_iff.1 h
    rw [← h2]; exact List.set_getElem_self h1
def left (L : List Kn) (k : Nat) : Nat := ((L.drop k).filter rdy).length
theorem left_yes {L : List Kn} {k : Nat} {p : Kn} (h : L[k]? = some p) (hp : rdy p = true) : left L k = left L (k + 1) + 1 := by
  have hlt := (List.getElem?_eq_some_iff.1 h).1
  have e1 : L.drop k = p :: L.drop (k + 1) := by rw [List.drop_eq_getElem_cons hlt]; rw [(List.getElem?_eq_some_iff.1 h).2]
  unfold left
  rw [e1, List.filter_cons_of_pos hp]; rfl
theorem left_no {L : List Kn} {k : Nat} {p : Kn} (h : L[k]? = some p) (hp : rdy p = false) : left L k = left L (k + 1) := by
  have hlt := (List.getElem?_eq_some_iff.1 h).1
  have e1 : L.drop k = p :: L.drop (k + 1) := by rw [List.drop_eq_getElem_cons hlt]; rw [(List.getElem?_eq_some_iff.1 h).2]
  unfold left
  rw [e1, List.filter_cons_of_neg (by rw [hp]; decide)]
theorem left_end (L : List Kn) : left L L.length = 0 := by unfold left; simp
theorem Rel.rd0 {Z : Qx} {L : List Kn} (hO : Ok Z) (h : Rel (RZ Z) Z.A (tkL L L.length)) : Z.Rd = [] := by
  have h1 := h.rdn hO
  refine List.eq_nil_of_length_eq_zero (h1.trans ?_)
  rw [List.length_eq_zero_iff, List.filter_eq_nil_iff]
  intro p hp
  unfold tkL at hp
  simp only [List.take_length, List.drop_length, List.append_nil] at hp
  obtain ⟨p', _, rfl⟩ := List.mem_map.1 hp
  rw [rdy_tkn]; decide
theorem Rel.fresh {Z : Qx} {L : List Kn} (hO : Ok Z) (h : Rel (RZ Z) Z.A L) (hd : ∀ p ∈ L, p.d = false ∧ p.o = false) : Z.Rd = [] := by
  have h1 := h.rdn hO
  refine List.eq_nil_of_length_eq_zero (h1.trans ?_)
  rw [List.length_eq_zero_iff, List.filter_eq_nil_iff]
  intro p hp
  unfold rdy
  rw [(hd p hp).1]; simp
end Go.Proofs.Ytblldldaoejoaaa
