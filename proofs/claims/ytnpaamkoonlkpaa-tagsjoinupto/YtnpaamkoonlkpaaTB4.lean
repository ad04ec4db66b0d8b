/-
  My own text: a message out of any items: what it stands on.
-/
import Derived.Test.YtnpaamkoonlkpaaTB1
import Derived.Test.YtnpaamkoonlkpaaQ6
import Derived.Test.YtnpaamkoonlkpaaQY
import Derived.Test.YtnpaamkoonlkpaaQReg
namespace Go.Proofs.Ytnpaamkoonlkpaa
open Go.RowKit

theorem run_append_itm (w : World) (ty : TypeId) (B : Nat) (v : Value) (n : Nat) (xs : List Value) (hown : w.ownsRow B 34 5 v n xs)
    (b m c : Nat) (news : List Value) (hl : news.length = m * 5) (hm : 0 < m) (hnews : ∀ j u, news[j]? = some u → w.cell? ((⟨b, 0, none⟩ : Addr).add j) = some u) (h1 : ∀ u ∈ news, u.oneCell' = true) (hB : B ≤ w.heap.size) (hsz : n + m ≤ 1099511627776) :
    ∃ v' w', (Builtin.append_ #[22, 22] ty #[v, .slice (some ⟨b, 0, none⟩) m c]).run Try.prog w = .ok v' w' ∧ w'.ownsRow B 34 5 v' (n + m) (xs ++ news) ∧ w.grownBy w' v.ownBlock ∧ (∀ g, v'.ownBlock = some g → v.ownBlock = some g ∨ w.heap.size ≤ g) := by
  obtain ⟨i0, hi, hz0, hz1, hz2⟩ := info_parts Try.infoItmq
  rcases hown.2 with ⟨hv, h0⟩ | ⟨g, cap, cur, hv, hb, hh, hn2, hn3⟩
  · subst hv; subst h0
    obtain rfl : xs = [] := List.eq_nil_of_length_eq_zero (by simpa using hown.1)
    obtain ⟨v', w', hrun, r1, r2, _⟩ := run_append_own (P := Try.prog) w w.heap.size 22 ty 34 i0 _ 5 88 Try.underlying22 hi hz0 hz1 hz2 zItmq (by decide) (.slice none 0 0) 0 [] (World.ownsRow_nil w _ _ 5) ⟨b, 0, none⟩ m c news hl hnews h1 (by unfold maxLen; omega) (by omega) (Nat.le_refl _)
    exact ⟨v', w', hrun, World.ownsRow.mono r1 hB, r2, fun g hg => .inr (own_ltq r1 g hg).1⟩
  · subst hv
    by_cases hroom : n + m ≤ cap
    · obtain ⟨w', hr, h2, h3⟩ := run_append_own_spare (P := Try.prog) w B 22 ty 34 i0 5 Try.underlying22 hi hz1 g n cap xs hown ⟨b, 0, none⟩ m c news hl hnews h1 hroom
      exact ⟨_, w', hr, h2, h3, fun g' hg' => .inl hg'⟩
    · obtain ⟨v', w', hrun, r1, r2⟩ := run_append_arg_grows (P := Try.prog) w 22 ty 34 i0 _ 5 88 Try.underlying22 hi hz0 hz1 hz2 zItmq (by decide) ⟨g, 0, none⟩ n cap xs hown.1 (World.ownsRow.cells hown rfl) ⟨b, 0, none⟩ m c news hl hnews (by omega) (by unfold maxLen; omega) (by omega)
      exact ⟨v', w', hrun, World.ownsRow.mono r1 hB, ⟨r2.os, r2.tape, r2.output, r2.size, fun k hk _ => r2.block k hk (by intro e; cases e)⟩, fun g' hg' => .inr (own_ltq r1 g' hg').1⟩
theorem op_append_itm {o : Oper} {a : Act} {K : Act → World → Prop} {Q : Exit → Act → World → Prop} {w : World} (s x : Operand) (ho : o.op = .call { callee := .builtin .append, args := #[s, x], argTypes := #[22, 22] }) (v : Value) (b m c : Nat) (hs : a.eval s = v) (hx : a.eval x = .slice (some ⟨b, 0, none⟩) m c)
    (v' : Value) (w' : World) (hr : (Builtin.append_ #[22, 22] o.type #[v, .slice (some ⟨b, 0, none⟩) m c]).run Try.prog w = .ok v' w') (h : K (a.put o.dst v') w') : o.wp Try.prog a w K Q := by
  unfold Oper.wp execOp
  simp only [ho, resolve, invoke, builtin, Sem.run_bind, Sem.run_pure, Result.andThen_ok, List.map_toArray, List.map_cons, List.map_nil, hs, hx, hr]
  exact h
/-- A message that is being made. -/
structure TS (w : World) (p : Nat) (wr : World) (v : Value) (m : List Tr) (V : List Value) (n n1 d : Nat) : Prop where
  iw : IW wr w.heap.size v m V
  left : Bk wr p #[.int .i64 (n1 : Int)] 3
  mv : Mv p p w wr
  err : errL m d = 0
  len : (txtL m).length ≤ 240 * (n - n1)
  cnt : m.length + n1 ≤ n
theorem TS.later {w wr w1 : World} {p : Nat} {v : Value} {m : List Tr} {V : List Value} {n n1 d : Nat} (h : TS w p wr v m V n n1 d) (hb : Below wr.heap.size wr w1) : TS w p w1 v m V n n1 d :=
  ⟨h.iw.later hb, h.left.later hb, h.mv.trans (Mv.of hb), h.err, h.len, h.cnt⟩
theorem TS.moved {w wr w1 : World} {p : Nat} {v : Value} {m : List Tr} {V : List Value} {n n1 n2 d : Nat} (h : TS w p wr v m V n n1 d) (hp : p < w.heap.size) (hm : Mv p p wr w1) (hl : Bk w1 p #[.int .i64 (n2 : Int)] 3) (hle : n2 ≤ n1) : TS w p w1 v m V n n2 d :=
  ⟨h.iw.mv hm hp hp, hl, h.mv.trans hm, h.err, by have := h.len; have := h.cnt; omega, by have := h.cnt; omega⟩
theorem TS.snoc {w wr w1 : World} {p lo : Nat} {v v' u : Value} {m : List Tr} {V : List Value} {a : Tr} {n n1 d : Nat} (h : TS w p wr v m V n n1 d) (hp : p < w.heap.size) (hO : w1.ownsRow w.heap.size 34 5 v' (m.length + 1) (ic m V ++ (iC a.itm u).toList)) (hg : wr.grownBy w1 v.ownBlock) (hr : ∀ x, v'.ownBlock = some x → v.ownBlock = some x ∨ wr.heap.size ≤ x)
    (hlo : w.heap.size ≤ lo) (hv : ∀ x, v.ownBlock = some x → x < lo) (hu : PT wr (fun x => lo ≤ x ∧ x < wr.heap.size) u a.kids) (he : errI a d = 0) (hlen : (txtL m).length + (txtI a).length ≤ 240 * (n - n1)) (hcnt : m.length + 1 + n1 ≤ n) : TS w p w1 v' (m ++ [a]) (V ++ [u]) n n1 d := by
  have hk : ∀ k, k < wr.heap.size → k < w.heap.size → w1.heap[k]? = wr.heap[k]? := fun k h1 h2 => hg.block k h1 (fun e => by have := (own_ltq h.iw.row k e.symm).1; omega)
  refine ⟨h.iw.snoc hO (fun x hx hne => hg.block x hx (fun e => hne e.symm)) hg.size hr hlo hv hu, (hk p h.left.lt hp).trans h.left, ⟨hg.os.trans h.mv.os, hg.tape.trans h.mv.tape, hg.output.trans h.mv.output, Nat.le_trans h.mv.size hg.size, fun k hk' e1 e2 => (hk k (Nat.lt_of_lt_of_le hk' h.mv.size) hk').trans (h.mv.block k hk' e1 e2)⟩, errL_app0 h.err (by rw [errL_one]; exact he), ?_, by simp; omega⟩
  rw [txtL_app, txtL_one, List.length_append]; exact hlen
/-- A tag out of a number. -/
theorem tag_of {a b : UInt8} (h1 : isDg a = true) (h2 : isDg b = true) : tagB [a, b] = true := by
  rw [tagB_two rfl]; simp [h1, h2]
theorem tag_of3 {a b c : UInt8} (h1 : isDg a = true) (h2 : isDg b = true) (h3 : isCp c = true) (h4 : [a, b, c] ≠ r16) (h5 : [a, b, c] ≠ s16) : tagB [a, b, c] = true := by
  rw [tagB_three rfl]; simp [h1, h2, h3, h4, h5]
theorem tag_t : tagB [49, 54, 84] = true := by decide
theorem field_good {tag q t : List UInt8} {d : Nat} (h1 : tagB tag = true) (h2 : q = [] ∨ qualB q = true) (h3 : txB t = true) (h4 : nlB t = false) (h5 : q = [] → hdB t = false) : errI (.mk ⟨tag, q, t, []⟩ []) d = 0 := by
  have hne := tagB_ne h1
  rw [errI_eq]
  have hz : itemE (Tr.mk ⟨tag, q, t, []⟩ []).itm (Tr.mk ⟨tag, q, t, []⟩ []).kids.length d = 0 := by
    rw [itemE_field hne]
    exact fE_make h1 (h2.imp (fun e => by show q.isEmpty = true; rw [e]; rfl) id) rfl rfl h3 h4 (fun e => h5 (List.isEmpty_iff.1 e))
  rw [hz]
  simp [Tr.itm, hne]
theorem field_len {tag q t : List UInt8} (h1 : tagB tag = true) (h2 : q = [] ∨ qualB q = true) (h3 : t.length ≤ 200) : (txtI (.mk ⟨tag, q, t, []⟩ [])).length ≤ 240 := by
  have hne := tagB_ne h1
  have hl : tag.length ≤ 3 := by
    by_cases e2 : tag.length = 2
    · omega
    · by_cases e3 : tag.length = 3
      · omega
      · rw [tagB_len e2 e3] at h1; cases h1
  have hq : q.length ≤ 4 := by
    rcases h2 with e | e
    · rw [e]; simp
    · unfold qualB at e; rw [Bool.and_eq_true] at e; have := of_decide_eq_true e.1; omega
  rw [txtI_eq]
  simp only [Tr.itm, hne, Bool.not_false, if_true]
  have := fT_len ⟨tag, q, t, []⟩
  simp only at this
  omega
end Go.Proofs.Ytnpaamkoonlkpaa
