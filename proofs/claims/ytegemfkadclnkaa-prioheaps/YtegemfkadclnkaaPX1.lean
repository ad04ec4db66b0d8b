/-
  My own text: rows of pairs in memory (printed by mkpx.py out of the texts on marks).
-/
import Derived.Test.YtegemfkadclnkaaPB1
import Derived.ChangeKeysEq
namespace Go.Proofs.Ytegemfkadclnkaa
open Go.RowKit

theorem owns_lat {B : Nat} {e : TypeId} {k : Nat} {v : Value} {n : Nat} {xs : List Value} {w w' : World} (h : w.ownsRow B e k v n xs) (hb : Below w.heap.size w w') : w'.ownsRow B e k v n xs := owns_later h (fun g hg => hb.block g (h.lt g hg).2)
/-- Marks as cells. -/
def mc : List Pr → List Value
  | [] => []
  | p :: t => .int .i64 p.1 :: .int .i64 p.2 :: mc t
theorem mc_app (a b : List Pr) : mc (a ++ b) = mc a ++ mc b := by
  induction a with
  | nil => rfl
  | cons p t ih => show _ :: _ :: mc (t ++ b) = _; rw [ih]; rfl
theorem mc_len (a : List Pr) : (mc a).length = a.length * 2 := by
  induction a with
  | nil => rfl
  | cons p t ih => show (mc t).length + 1 + 1 = (t.length + 1) * 2; rw [ih]; omega
theorem mc_at : ∀ {a : List Pr} {j : Nat} {p : Pr}, a[j]? = some p → (mc a)[j * 2]? = some (.int .i64 p.1) ∧ (mc a)[j * 2 + 1]? = some (.int .i64 p.2)
  | q :: t, 0, p, h => by simp at h; subst h; exact ⟨rfl, rfl⟩
  | q :: t, j + 1, p, h => by
    have h' : t[j]? = some p := by simpa using h
    have ih := mc_at h'
    constructor
    · rw [show (j + 1) * 2 = j * 2 + 1 + 1 by omega]; exact ih.1
    · rw [show (j + 1) * 2 + 1 = j * 2 + 1 + 1 + 1 by omega]; exact ih.2
theorem mc_take {l : List Pr} {k : Nat} {p : Pr} (h : l[k]? = some p) : mc (l.take (k + 1)) = mc (l.take k) ++ [.int .i64 p.1, .int .i64 p.2] := by
  rw [List.take_add_one, h, mc_app]; rfl
theorem mc_one : ∀ (l : List Pr), ∀ u ∈ mc l, u.oneCell' = true
  | p :: t, u, h => by
    rcases List.mem_cons.1 h with rfl | h
    · rfl
    · rcases List.mem_cons.1 h with rfl | h
      · rfl
      · exact mc_one t u h
/-- A row of marks. -/
def RM (w : World) (v : Value) (L : List Pr) : Prop := ∃ a cap, v = .slice a L.length cap ∧ L.length ≤ cap ∧ (L = [] ∨ ∃ b off, a = some ⟨b, off, none⟩ ∧ b < w.heap.size ∧ ∀ (j : Nat) (p : Pr), L[j]? = some p → w.cell? ⟨b, off + j * 2, none⟩ = some (.int .i64 p.1) ∧ w.cell? ⟨b, off + j * 2 + 1, none⟩ = some (.int .i64 p.2))
theorem RM.kept {w w' : World} {v : Value} {L : List Pr} (h : RM w v L) (hs : w.heap.size ≤ w'.heap.size) (hb : ∀ b, v.ownBlock = some b → ∀ o, w'.cell? ⟨b, o, none⟩ = w.cell? ⟨b, o, none⟩) : RM w' v L := by
  obtain ⟨a, cap, hv, hcap, h⟩ := h
  refine ⟨a, cap, hv, hcap, ?_⟩
  rcases h with h | ⟨b, off, ha, hlt, hc⟩
  · exact .inl h
  · have e := hb b (by rw [hv, ha]; rfl)
    exact .inr ⟨b, off, ha, Nat.lt_of_lt_of_le hlt hs, fun j p hj => ⟨(e _).trans (hc j p hj).1, (e _).trans (hc j p hj).2⟩⟩
theorem RM.later {w w' : World} {v : Value} {L : List Pr} (h : RM w v L) (hb : Below w.heap.size w w') : RM w' v L := by
  obtain ⟨a, cap, hv, hcap, h⟩ := h
  refine ⟨a, cap, hv, hcap, ?_⟩
  rcases h with h | ⟨b, off, ha, hlt, hc⟩
  · exact .inl h
  · exact .inr ⟨b, off, ha, Nat.lt_of_lt_of_le hlt hb.size, fun j p hj => ⟨(hb.cell (p := ⟨b, _, none⟩) hlt).trans (hc j p hj).1, (hb.cell (p := ⟨b, _, none⟩) hlt).trans (hc j p hj).2⟩⟩
theorem pair_cells {w : World} {o : Obj} {a b : Value} {t : TypeId} {g : Nat} (h : w.heap[g]? = some o) (ho : o = .cells #[a, b] t (0, 0)) : w.cell? ⟨g, 0, none⟩ = some a ∧ w.cell? ⟨g, 1, none⟩ = some b := by
  subst ho
  exact ⟨by rw [cell_of_row _ _ 0 _ _ _ h]; rfl, by rw [cell_of_row _ _ 1 _ _ _ h]; rfl⟩
theorem Try.infoMk : (Try.prog.info? 25).map (fun i => (i.zero, i.size, i.bytes)) = some (some (.agg #[.int .i64 0, .int .i64 0]), 2, 16) := by kernel_rfl
/-- A row of marks of one's own. -/
abbrev OM (w : World) (B : Nat) (v : Value) (L : List Pr) : Prop := w.ownsRow B 25 2 v L.length (mc L)
theorem OM.rm {w : World} {B : Nat} {v : Value} {L : List Pr} (h : OM w B v L) : RM w v L := by
  have h' := h
  rcases h.2 with ⟨rfl, h0⟩ | ⟨g, cap, cur, rfl, hb, hh, hn, h3⟩
  · exact ⟨none, 0, by rw [h0], by omega, .inl (List.eq_nil_of_length_eq_zero h0)⟩
  · refine ⟨_, cap, rfl, hn, .inr ⟨g, 0, rfl, (Array.getElem?_eq_some_iff.1 hh).1, fun j p hj => ?_⟩⟩
    have hjl := (List.getElem?_eq_some_iff.1 hj).1
    obtain ⟨e0, e1⟩ := mc_at hj
    rw [Nat.zero_add]
    exact ⟨(h'.cellAt (j * 2) (by omega)).trans e0, (h'.cellAt (j * 2 + 1) (by omega)).trans e1⟩
theorem mc_cells : ∀ {L : List Pr} {j : Nat} {u : Value}, (mc L)[j]? = some u → ∃ (i : Nat) (p : Pr), L[i]? = some p ∧ ((j = i * 2 ∧ u = .int .i64 p.1) ∨ (j = i * 2 + 1 ∧ u = .int .i64 p.2))
  | p :: t, 0, u, h => by cases h; exact ⟨0, p, rfl, .inl ⟨rfl, rfl⟩⟩
  | p :: t, 1, u, h => by cases h; exact ⟨0, p, rfl, .inr ⟨rfl, rfl⟩⟩
  | p :: t, j + 2, u, h => by
    obtain ⟨i, q, h1, h2⟩ := mc_cells (L := t) (j := j) (u := u) h
    refine ⟨i + 1, q, h1, ?_⟩
    rcases h2 with ⟨h2, h3⟩ | ⟨h2, h3⟩
    · exact .inl ⟨by omega, h3⟩
    · exact .inr ⟨by omega, h3⟩
/-- append(row, marks..). -/
theorem run_append_rm (w : World) (B : Nat) (ty : TypeId) (v : Value) (M : List Pr) (hown : OM w B v M) (x : Value) (L : List Pr) (hx : RM w x L) (hn : M.length + L.length ≤ 8796093022208) (hB : B ≤ w.heap.size) :
    ∃ v' w', (Builtin.append_ #[29, 29] ty #[v, x]).run Try.prog w = .ok v' w' ∧ OM w' B v' (M ++ L) ∧ w.grownBy w' v.ownBlock := by
  obtain ⟨i0, hi, hz0, hz1, hz2⟩ := info_parts Try.infoMk
  obtain ⟨a, cap, rfl, _, hc⟩ := hx
  cases a with
  | none =>
    obtain rfl : L = [] := hc.resolve_right (fun ⟨b, off, h, _⟩ => by cases h)
    refine ⟨v, w, ?_, by rw [List.append_nil]; exact hown, ⟨rfl, rfl, rfl, Nat.le_refl _, fun _ _ _ => rfl⟩⟩
    rcases hown.2 with ⟨rfl, h0⟩ | ⟨g, cap', cur, rfl, _, _, hnc, _⟩
    · simp [Builtin.append_, run_underlying Try.underlying29, sizeOf, typeInfo, hi, Builtin.lenOf, Builtin.firstCells]
    · simp [Builtin.append_, run_underlying Try.underlying29, sizeOf, typeInfo, hi, Builtin.lenOf, Builtin.firstCells, hnc, storeCells]
  | some ad =>
    have hnews : ∀ j u, (mc L)[j]? = some u → w.cell? (ad.add j) = some u := fun j u hj => by
      obtain ⟨i, p, h1, h2⟩ := mc_cells hj
      have hne : ¬ L = [] := fun e => by rw [e] at h1; simp at h1
      obtain ⟨b, off, ha, _, hcc⟩ := hc.resolve_left hne
      cases ha
      rcases h2 with ⟨rfl, rfl⟩ | ⟨rfl, rfl⟩
      · rw [Addr.add_lit]; exact (hcc i p h1).1
      · have := (hcc i p h1).2
        rw [Addr.add_lit, ← Nat.add_assoc]; exact this
    obtain ⟨v', w', hrun, r1, r2, _⟩ := run_append_own (P := Try.prog) w B 29 ty 25 i0 _ 2 16 Try.underlying29 hi hz0 hz1 hz2 rfl (by decide) v M.length (mc M) hown ad L.length cap (mc L) (mc_len L) hnews (mc_one L) (by unfold maxLen; omega) (by omega) hB
    refine ⟨v', w', hrun, ?_, r2⟩
    unfold OM
    rw [List.length_append, mc_app]; exact r1
theorem rm_lt {w : World} {v : Value} {L : List Pr} (h : RM w v L) : ∃ a cap, v = .slice a L.length cap := ⟨_, _, h.choose_spec.choose_spec.1⟩
theorem grown_om {w W W' : World} {B : Nat} {v : Value} {M : List Pr} (hB : Below B w W) (hw : B ≤ w.heap.size) (hO : OM W B v M) (hg : W.grownBy W' v.ownBlock) : Below B w W' :=
  hB.grown hg (Nat.le_trans hw hB.size) (fun k hk => (hO.lt k hk).1)
set_option maxRecDepth 100000 in
set_option maxHeartbeats 5864062014000 in
theorem markM_any (k i : Int) (w : World) (h0 : -5864062014000 ≤ k) (h1 : k ≤ 5864062014000) :
    Calls Try.prog 29 #[.int .i64 k, .int .i64 i] w fun e w' => e = .returned (.agg #[.int .i64 (-10 - k), .int .i64 i]) ∧ Below w.heap.size w w' := by
  obtain ⟨K, hK⟩ : ∃ K, -10 - k = K := ⟨_, rfl⟩
  have hw : wrap64 (-10 - k) = K := by rw [← hK]; unfold wrap64; omega
  have hw2 : IntKind.i64.wrap (-10 - k) = K := by rw [IntKind.wrap_i64, ← hK]; omega
  rw [hK]
  have N0 := hide (alloc_new w (.cells #[.int .i64 0, .int .i64 0] 25))
  have B0 := hide ((Below.refl w.heap.size w).alloc (Nat.le_refl _) (.cells #[.int .i64 K, .int .i64 i] 25))
  have N1 := alloc_new w (.cells #[.int .i64 K, .int .i64 i] 25)
  obtain ⟨d0, d1⟩ := pair_cells N1 rfl
  clear h0 h1 N1 hK
  go_enter Try.func29, Try.ntmps29
  go_wp2_with fail
  exact bodyPost_ret (v := .agg #[.int .i64 K, .int .i64 i]) (by simp [results, Try.results29, go_sem]) rfl ⟨rfl, B0.out⟩
theorem below_dN {B : Nat} {a w : World} (h : Below B a w) (n : Nat) : Below B a (w.drewN n) := h.trans ⟨rfl, rfl, rfl, Nat.le_refl _, fun _ _ => rfl⟩
theorem Try.cellsI : Try.prog.cellsOf 3 = 1 := by kernel_rfl
theorem eqPr (p q : Pr) (w : World) : (Op.equalIn 10000 25 (.agg #[.int .i64 p.1, .int .i64 p.2]) (.agg #[.int .i64 q.1, .int .i64 q.2])).run Try.prog w = .ok (p.1 == q.1 && p.2 == q.2) w := by
  obtain ⟨i0, hi, _⟩ := Option.map_eq_some_iff.1 (show (Try.prog.info? 3).map (·.size) = some 1 by kernel_rfl)
  have h := run_equalIn_array (P := Try.prog) w 9999 #[.int .i64 p.1, .int .i64 p.2] #[.int .i64 q.1, .int .i64 q.2] Try.underlying25 hi
  rw [Try.cellsI] at h
  refine h.trans ?_
  have u8 := Try.underlying3
  have p0 : ∀ (W : World) (x y : Int), (part 3 #[.int .i64 x, .int .i64 y] 0).run Try.prog W = .ok (.int .i64 x) W := fun W x y => by simp [part, isAgg, underlying, u8, Result.andThen]
  have p1 : ∀ (W : World) (x y : Int), (part 3 #[.int .i64 x, .int .i64 y] 1).run Try.prog W = .ok (.int .i64 y) W := fun W x y => by simp [part, isAgg, underlying, u8, Result.andThen]
  have e : ∀ (x y : Int) (W : World), (Op.equalIn 9999 3 (.int .i64 x) (.int .i64 y)).run Try.prog W = .ok (x == y) W := fun x y W => by rw [show (9999 : Nat) = 9998 + 1 from rfl, run_equalIn_int W 9998 _ _ _ _ _ u8]
  simp only [List.range, List.range.loop, Op.eqItems, Sem.run_bind, Nat.mul_one, p0, e, Result.andThen_ok]
  cases h1 : (p.1 == q.1)
  · simp
  · simp [p1, e]
    cases h2 : (p.2 == q.2) <;> simpa using h2
theorem run_neq_pr (p q : Pr) (w : World) : (binOp .neq 25 (.agg #[.int .i64 p.1, .int .i64 p.2]) (.agg #[.int .i64 q.1, .int .i64 q.2])).run Try.prog w = .ok (.bool (!(p.1 == q.1 && p.2 == q.2))) w := by
  simp only [binOp]
  simp [Op.equal, Op.maxDepth, eqPr]
theorem run_eql_pr (p q : Pr) (w : World) : (binOp .eql 25 (.agg #[.int .i64 p.1, .int .i64 p.2]) (.agg #[.int .i64 q.1, .int .i64 q.2])).run Try.prog w = .ok (.bool (p.1 == q.1 && p.2 == q.2)) w := by
  simp only [binOp]
  simp [Op.equal, Op.maxDepth, eqPr]
theorem run_neq_mk (k : Int) (r : Int) (w : World) : (binOp .neq 25 (.agg #[.int .i64 k, .int .i64 r]) (.agg #[.int .i64 k, .int .i64 r])).run Try.prog w = .ok (.bool false) w := by
  rw [run_neq_pr (k, r) (k, r)]; simp

end Go.Proofs.Ytegemfkadclnkaa
