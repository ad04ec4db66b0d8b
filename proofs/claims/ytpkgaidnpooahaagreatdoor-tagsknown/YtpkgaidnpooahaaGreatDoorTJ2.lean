/-
  My own text: a list behind a list.
-/
import Derived.Test.YtpkgaidnpooahaaGreatDoorQ6
import Derived.Test.YtpkgaidnpooahaaGreatDoorT15
namespace Go.Proofs.YtpkgaidnpooahaaGreatDoor
open Go.RowKit

theorem wp_append_list {w : World} {ops : Array Oper} {rest : List Oper} {o : Oper} {a : Act} {Q : Exit → Act → World → Prop} (hgd : o.guard = none) (s x : Operand)
    (ho : o.op = .call { callee := .builtin .append, args := #[s, x], argTypes := #[23, 23] }) (B : Nat) (v : Value) (n : Nat) (xs : List Value) (hs : a.eval s = v) (hown : w.ownsRow B 25 5 v n xs)
    (xa : Option Addr) (m c : Nat) (news : List Value) (hx : a.eval x = .slice xa m c) (hnone : xa = none → m = 0 ∧ c = 0) (hl : news.length = m * 5) (hnews : ∀ ad, xa = some ad → ∀ j u, news[j]? = some u → w.cell? (ad.add j) = some u) (h1 : ∀ u ∈ news, u.oneCell' = true) (hB : B ≤ w.heap.size) (hsz : n + m ≤ 1099511627776)
    (h : ∀ v' w', w'.ownsRow B 25 5 v' (n + m) (xs ++ news) → w.grownBy w' v.ownBlock → wpList Tryz.prog ops Q rest (a.put o.dst v') w') : wpList Tryz.prog ops Q (o :: rest) a w := by
  obtain ⟨i0, hi, hz0, hz1, hz2⟩ := info_parts Tryz.infoItmq
  refine wpList_plain hgd fun K hK' => ?_
  cases xa with
  | none =>
    obtain ⟨rfl, rfl⟩ := hnone rfl
    obtain rfl : news = [] := List.eq_nil_of_length_eq_zero (by simpa using hl)
    have hrun := run_append_owned_none (P := Tryz.prog) w B 23 o.type 25 i0 5 Tryz.underlying23 hi v n xs hown
    unfold Oper.wp
    simp [execOp, ho, resolve, invoke, builtin, hs, hx, hrun, Result.andThen]
    exact hK' _ _ (h v w (by simpa using hown) (World.grownBy.refl _ _))
  | some ad =>
    obtain ⟨v', w', hrun, r1, r2, _⟩ := run_append_own (P := Tryz.prog) w B 23 o.type 25 i0 _ 5 88 Tryz.underlying23 hi hz0 hz1 hz2 zItmq (by decide) v n xs hown ad m c news hl (hnews ad rfl) h1 (by unfold maxLen; omega) (by omega) hB
    unfold Oper.wp
    simp [execOp, ho, resolve, invoke, builtin, hs, hx, hrun, Result.andThen]
    exact hK' _ _ (h v' w' r1 r2)
theorem list_of {α : Type} {Q : Nat → α → Prop} : ∀ n : Nat, (∀ j, j < n → ∃ p, Q j p) → ∃ l : List α, l.length = n ∧ ∀ j p, l[j]? = some p → Q j p
  | 0, _ => ⟨[], rfl, fun j p h => by simp at h⟩
  | n + 1, h => by
    obtain ⟨l, hl, hq⟩ := list_of n (fun j hj => h j (by omega))
    obtain ⟨p, hp⟩ := h n (by omega)
    refine ⟨l ++ [p], by simp [hl], fun j p' hj => ?_⟩
    by_cases hjn : j < n
    · rw [List.getElem?_append_left (by omega)] at hj; exact hq j p' hj
    · rw [List.getElem?_append_right (by omega)] at hj
      have : j - l.length = 0 := by
        have := (List.getElem?_eq_some_iff.1 hj).1
        simp at this; omega
      rw [this] at hj
      have hj' : j = n := by omega
      simp at hj; subst hj; rw [hj']; exact hp
theorem ic_mem : ∀ (l : List Tr) (V : List Value) (f : Nat → Option Value), (∀ (k : Nat) (a : Tr) (u : Value), l[k]? = some a → V[k]? = some u → f (k * 5) = some (.string ⟨a.itm.tag.toArray⟩) ∧ f (k * 5 + 1) = some (.string ⟨a.itm.qual.toArray⟩) ∧ f (k * 5 + 2) = some (.string ⟨a.itm.text.toArray⟩) ∧ f (k * 5 + 3) = some (.string ⟨a.itm.name.toArray⟩) ∧ f (k * 5 + 4) = some u) → ∀ (j : Nat) (x : Value), (ic l V)[j]? = some x → f j = some x
  | [], _, f, _, j, x, h => by simp [ic] at h
  | _ :: _, [], f, _, j, x, h => by simp [ic] at h
  | b :: r, u :: q, f, hf, j, x, h => by
    obtain ⟨g0, g1, g2, g3, g4⟩ := hf 0 b u rfl rfl
    match j, h with
    | 0, h => simp [ic] at h; subst h; exact g0
    | 1, h => simp [ic] at h; subst h; exact g1
    | 2, h => simp [ic] at h; subst h; exact g2
    | 3, h => simp [ic] at h; subst h; exact g3
    | 4, h => simp [ic] at h; subst h; exact g4
    | j + 5, h =>
      have := ic_mem r q (fun i => f (i + 5)) (fun k a u h1 h2 => by
        obtain ⟨e0, e1, e2, e3, e4⟩ := hf (k + 1) a u (by simpa using h1) (by simpa using h2)
        rw [show (k + 1) * 5 = k * 5 + 5 by omega] at e0 e1 e2 e3 e4
        exact ⟨e0, by rw [show k * 5 + 1 + 5 = k * 5 + 5 + 1 by omega]; exact e1, by rw [show k * 5 + 2 + 5 = k * 5 + 5 + 2 by omega]; exact e2, by rw [show k * 5 + 3 + 5 = k * 5 + 5 + 3 by omega]; exact e3, by rw [show k * 5 + 4 + 5 = k * 5 + 5 + 4 by omega]; exact e4⟩) j x (by simpa [ic] using h)
      exact this
theorem ic_app : ∀ (l : List Tr) (V : List Value) (m : List Tr) (U : List Value), l.length = V.length → ic (l ++ m) (V ++ U) = ic l V ++ ic m U
  | [], [], m, U, _ => by simp [ic]
  | b :: r, u :: q, m, U, h => by
    have := ic_app r q m U (by simpa using h)
    simp only [List.cons_append, ic, this]
theorem ic_one : ∀ (l : List Tr) (V : List Value), (∀ u ∈ V, u.oneCell' = true) → ∀ x ∈ ic l V, x.oneCell' = true
  | [], _, _, x, h => by simp [ic] at h
  | _ :: _, [], _, x, h => by simp [ic] at h
  | b :: r, u :: q, hV, x, h => by
    simp only [ic, List.mem_cons] at h
    rcases h with rfl | rfl | rfl | rfl | rfl | h
    · rfl
    · rfl
    · rfl
    · rfl
    · exact hV _ (by simp)
    · exact ic_one r q (fun v hv => hV v (by simp [hv])) x h
/-- The cells of a list in memory. -/
theorem RT_cells {w : World} {a : Option Addr} {cap : Nat} {l : List Tr} (h : RT w (.slice a l.length cap) l) : ∃ V : List Value, V.length = l.length ∧ (∀ ad, a = some ad → ∀ j u, (ic l V)[j]? = some u → w.cell? (ad.add j) = some u) ∧ (∀ (j : Nat) (t : Tr) (u : Value), l[j]? = some t → V[j]? = some u → RT w u t.kids) ∧ (∀ u ∈ V, u.oneCell' = true) := by
  obtain ⟨a', cap', e, hr⟩ := h
  simp only [Value.slice.injEq] at e
  obtain ⟨rfl, _, rfl⟩ := e
  obtain ⟨V, hVl, hV⟩ := list_of (Q := fun j (u : Value) => ∃ t, l[j]? = some t ∧ RT w u t.kids ∧ ∀ b off, a = some ⟨b, off, none⟩ → w.cell? ⟨b, off + j * 5, none⟩ = some (.string ⟨t.itm.tag.toArray⟩) ∧ w.cell? ⟨b, off + j * 5 + 1, none⟩ = some (.string ⟨t.itm.qual.toArray⟩) ∧ w.cell? ⟨b, off + j * 5 + 2, none⟩ = some (.string ⟨t.itm.text.toArray⟩) ∧ w.cell? ⟨b, off + j * 5 + 3, none⟩ = some (.string ⟨t.itm.name.toArray⟩) ∧ w.cell? ⟨b, off + j * 5 + 4, none⟩ = some u) l.length (fun j hj => by
    obtain ⟨t, ht⟩ : ∃ t, l[j]? = some t := ⟨_, List.getElem?_eq_getElem hj⟩
    obtain ⟨b, off, v, ha, _, c0, c1, c2, c3, c4, hkv⟩ := RT_at hr ht
    refine ⟨v, t, ht, hkv, fun b' off' e => ?_⟩
    rw [ha] at e
    simp only [Option.some.injEq, Addr.mk.injEq, and_true] at e
    obtain ⟨rfl, rfl⟩ := e
    exact ⟨c0, c1, c2, c3, c4⟩)
  refine ⟨V, hVl, fun ad hd j u hj => ?_, fun j t u h1 h2 => ?_, fun u hu => ?_⟩
  · have hne : l ≠ [] := fun e => by rw [e] at hj; simp [ic] at hj
    rcases hr with h0 | ⟨b, off, ha, _, _⟩
    · exact absurd h0 hne
    · rw [ha] at hd
      cases hd
      have := ic_mem l V (fun i => w.cell? ⟨b, off + i, none⟩) (fun k t u h1 h2 => by
        obtain ⟨t', ht', _, hc⟩ := hV k u h2
        rw [h1] at ht'; cases ht'
        obtain ⟨c0, c1, c2, c3, c4⟩ := hc b off ha
        exact ⟨c0, c1, c2, c3, c4⟩) j u hj
      rw [Addr.add_lit]; exact this
  · obtain ⟨t', ht', hk, _⟩ := hV j u h2
    rw [h1] at ht'; cases ht'; exact hk
  · obtain ⟨j, hj⟩ := List.getElem?_of_mem hu
    obtain ⟨t', _, hk, _⟩ := hV j u hj
    obtain ⟨a', c', rfl, _⟩ := hk
    rfl
theorem RT_own {w : World} {B : Nat} {v : Value} {l : List Tr} {V : List Value} (hl : V.length = l.length) (h : w.ownsRow B 25 5 v l.length (ic l V)) (hk : ∀ (j : Nat) (a : Tr) (u : Value), l[j]? = some a → V[j]? = some u → RT w u a.kids) : RT w v l := by
  rcases h.2 with ⟨rfl, h0⟩ | ⟨g, cap, cur, rfl, hb, hh, _⟩
  · have : l = [] := List.length_eq_zero_iff.1 h0
    subst this
    exact ⟨none, 0, rfl, .inl rfl⟩
  · have hlt := (Array.getElem?_eq_some_iff.1 hh).1
    refine ⟨_, _, rfl, .inr ⟨g, 0, rfl, hlt, RR_mk (fun k a hk' => ?_)⟩⟩
    have hc : ∀ j u, (ic l V)[j]? = some u → w.cell? ⟨g, j, none⟩ = some u := fun j u hj => by
      have := World.ownsRow.cells h rfl j u hj
      rw [Addr.add_lit, Nat.zero_add] at this; exact this
    have hkl := (List.getElem?_eq_some_iff.1 hk').1
    obtain ⟨u, hu⟩ : ∃ u, V[k]? = some u := ⟨_, List.getElem?_eq_getElem (by rw [hl]; exact hkl)⟩
    obtain ⟨e0, e1, e2, e3, e4⟩ := ic_at l V k a u hk' hu
    rw [Nat.zero_add]
    exact RI_iff.2 ⟨hc _ _ e0, hc _ _ e1, hc _ _ e2, hc _ _ e3, u, hc _ _ e4, hk k a u hk' hu⟩
end Go.Proofs.YtpkgaidnpooahaaGreatDoor
