/-
  My own text: TJ2, FD1, TJ1, FD2 in one.
-/
import Derived.Test.YtklhbhhkooddoaaQ6
import Derived.Test.YtklhbhhkooddoaaT15
import Derived.Test.YtklhbhhkooddoaaQN
import Derived.Test.YtklhbhhkooddoaaQC
import Derived.Deep.MidRow
namespace Go.Proofs.Ytklhbhhkooddoaa
open Go.RowKit

theorem wp_append_list {w : World} {ops : Array Oper} {rest : List Oper} {o : Oper} {a : Act} {Q : Exit → Act → World → Prop} (hgd : o.guard = none) (s x : Operand)
    (ho : o.op = .call { callee := .builtin .append, args := #[s, x], argTypes := #[22, 22] }) (B : Nat) (v : Value) (n : Nat) (xs : List Value) (hs : a.eval s = v) (hown : w.ownsRow B 26 5 v n xs)
    (xa : Option Addr) (m c : Nat) (news : List Value) (hx : a.eval x = .slice xa m c) (hnone : xa = none → m = 0 ∧ c = 0) (hl : news.length = m * 5) (hnews : ∀ ad, xa = some ad → ∀ j u, news[j]? = some u → w.cell? (ad.add j) = some u) (h1 : ∀ u ∈ news, u.oneCell' = true) (hB : B ≤ w.heap.size) (hsz : n + m ≤ 1099511627776)
    (h : ∀ v' w', w'.ownsRow B 26 5 v' (n + m) (xs ++ news) → w.grownBy w' v.ownBlock → wpList Try.prog ops Q rest (a.put o.dst v') w') : wpList Try.prog ops Q (o :: rest) a w := by
  obtain ⟨i0, hi, hz0, hz1, hz2⟩ := info_parts Try.infoItmq
  refine wpList_plain hgd fun K hK' => ?_
  cases xa with
  | none =>
    obtain ⟨rfl, rfl⟩ := hnone rfl
    obtain rfl : news = [] := List.eq_nil_of_length_eq_zero (by simpa using hl)
    have hrun := run_append_owned_none (P := Try.prog) w B 22 o.type 26 i0 5 Try.underlying22 hi v n xs hown
    unfold Oper.wp
    simp [execOp, ho, resolve, invoke, builtin, hs, hx, hrun, Result.andThen]
    exact hK' _ _ (h v w (by simpa using hown) (World.grownBy.refl _ _))
  | some ad =>
    obtain ⟨v', w', hrun, r1, r2, _⟩ := run_append_own (P := Try.prog) w B 22 o.type 26 i0 _ 5 88 Try.underlying22 hi hz0 hz1 hz2 zItmq (by decide) v n xs hown ad m c news hl (hnews ad rfl) h1 (by unfold maxLen; omega) (by omega) hB
    unfold Oper.wp
    simp [execOp, ho, resolve, invoke, builtin, hs, hx, hrun, Result.andThen]
    exact hK' _ _ (h v' w' r1 r2)
theorem list_of {α : Type} {Q : Nat → α → Prop} : ∀ n : Nat, (∀ j, j < n → ∃ p, Q j p) → ∃ l : List α, l.length = n ∧ ∀ j p, l[j]? = some p → Q j p
  | 0, _ => ⟨[], rfl, fun j p h => by simp at h⟩
  | n + 1, h => by
    obtain ⟨l, hl, hq⟩ := list_of n (fun j hj => h j (by omega))
    obtain ⟨p, hp⟩ := h n (by omega)
    refine ⟨l ++ [p], by simp [hl], fun j p' hj => ?_⟩
    by_cases hjn : j < n
    · rw [List.getElem?_append_left (by omega)] at hj; exact hq j p' hj
    · rw [List.getElem?_append_right (by omega)] at hj
      have : j - l.length = 0 := by
        have := (List.getElem?_eq_some_iff.1 hj).1
        simp at this; omega
      rw [this] at hj
      have hj' : j = n := by omega
      simp at hj; subst hj; rw [hj']; exact hp
theorem ic_mem : ∀ (l : List Tr) (V : List Value) (f : Nat → Option Value), (∀ (k : Nat) (a : Tr) (u : Value), l[k]? = some a → V[k]? = some u → f (k * 5) = some (.string ⟨a.itm.tag.toArray⟩) ∧ f (k * 5 + 1) = some (.string ⟨a.itm.qual.toArray⟩) ∧ f (k * 5 + 2) = some (.string ⟨a.itm.text.toArray⟩) ∧ f (k * 5 + 3) = some (.string ⟨a.itm.name.toArray⟩) ∧ f (k * 5 + 4) = some u) → ∀ (j : Nat) (x : Value), (ic l V)[j]? = some x → f j = some x
  | [], _, f, _, j, x, h => by simp [ic] at h
  | _ :: _, [], f, _, j, x, h => by simp [ic] at h
  | b :: r, u :: q, f, hf, j, x, h => by
    obtain ⟨g0, g1, g2, g3, g4⟩ := hf 0 b u rfl rfl
    match j, h with
    | 0, h => simp [ic] at h; subst h; exact g0
    | 1, h => simp [ic] at h; subst h; exact g1
    | 2, h => simp [ic] at h; subst h; exact g2
    | 3, h => simp [ic] at h; subst h; exact g3
    | 4, h => simp [ic] at h; subst h; exact g4
    | j + 5, h =>
      have := ic_mem r q (fun i => f (i + 5)) (fun k a u h1 h2 => by
        obtain ⟨e0, e1, e2, e3, e4⟩ := hf (k + 1) a u (by simpa using h1) (by simpa using h2)
        rw [show (k + 1) * 5 = k * 5 + 5 by omega] at e0 e1 e2 e3 e4
        exact ⟨e0, by rw [show k * 5 + 1 + 5 = k * 5 + 5 + 1 by omega]; exact e1, by rw [show k * 5 + 2 + 5 = k * 5 + 5 + 2 by omega]; exact e2, by rw [show k * 5 + 3 + 5 = k * 5 + 5 + 3 by omega]; exact e3, by rw [show k * 5 + 4 + 5 = k * 5 + 5 + 4 by omega]; exact e4⟩) j x (by simpa [ic] using h)
      exact this
theorem ic_app : ∀ (l : List Tr) (V : List Value) (m : List Tr) (U : List Value), l.length = V.length → ic (l ++ m) (V ++ U) = ic l V ++ ic m U
  | [], [], m, U, _ => by simp [ic]
  | b :: r, u :: q, m, U, h => by
    have := ic_app r q m U (by simpa using h)
    simp only [List.cons_append, ic, this]
theorem ic_one : ∀ (l : List Tr) (V : List Value), (∀ u ∈ V, u.oneCell' = true) → ∀ x ∈ ic l V, x.oneCell' = true
  | [], _, _, x, h => by simp [ic] at h
  | _ :: _, [], _, x, h => by simp [ic] at h
  | b :: r, u :: q, hV, x, h => by
    simp only [ic, List.mem_cons] at h
    rcases h with rfl | rfl | rfl | rfl | rfl | h
    · rfl
    · rfl
    · rfl
    · rfl
    · exact hV _ (by simp)
    · exact ic_one r q (fun v hv => hV v (by simp [hv])) x h
/-- The cells of a list in memory. -/
theorem RT_cells {w : World} {a : Option Addr} {cap : Nat} {l : List Tr} (h : RT w (.slice a l.length cap) l) : ∃ V : List Value, V.length = l.length ∧ (∀ ad, a = some ad → ∀ j u, (ic l V)[j]? = some u → w.cell? (ad.add j) = some u) ∧ (∀ (j : Nat) (t : Tr) (u : Value), l[j]? = some t → V[j]? = some u → RT w u t.kids) ∧ (∀ u ∈ V, u.oneCell' = true) := by
  obtain ⟨a', cap', e, hr⟩ := h
  simp only [Value.slice.injEq] at e
  obtain ⟨rfl, _, rfl⟩ := e
  obtain ⟨V, hVl, hV⟩ := list_of (Q := fun j (u : Value) => ∃ t, l[j]? = some t ∧ RT w u t.kids ∧ ∀ b off, a = some ⟨b, off, none⟩ → w.cell? ⟨b, off + j * 5, none⟩ = some (.string ⟨t.itm.tag.toArray⟩) ∧ w.cell? ⟨b, off + j * 5 + 1, none⟩ = some (.string ⟨t.itm.qual.toArray⟩) ∧ w.cell? ⟨b, off + j * 5 + 2, none⟩ = some (.string ⟨t.itm.text.toArray⟩) ∧ w.cell? ⟨b, off + j * 5 + 3, none⟩ = some (.string ⟨t.itm.name.toArray⟩) ∧ w.cell? ⟨b, off + j * 5 + 4, none⟩ = some u) l.length (fun j hj => by
    obtain ⟨t, ht⟩ : ∃ t, l[j]? = some t := ⟨_, List.getElem?_eq_getElem hj⟩
    obtain ⟨b, off, v, ha, _, c0, c1, c2, c3, c4, hkv⟩ := RT_at hr ht
    refine ⟨v, t, ht, hkv, fun b' off' e => ?_⟩
    rw [ha] at e
    simp only [Option.some.injEq, Addr.mk.injEq, and_true] at e
    obtain ⟨rfl, rfl⟩ := e
    exact ⟨c0, c1, c2, c3, c4⟩)
  refine ⟨V, hVl, fun ad hd j u hj => ?_, fun j t u h1 h2 => ?_, fun u hu => ?_⟩
  · have hne : l ≠ [] := fun e => by rw [e] at hj; simp [ic] at hj
    rcases hr with h0 | ⟨b, off, ha, _, _⟩
    · exact absurd h0 hne
    · rw [ha] at hd
      cases hd
      have := ic_mem l V (fun i => w.cell? ⟨b, off + i, none⟩) (fun k t u h1 h2 => by
        obtain ⟨t', ht', _, hc⟩ := hV k u h2
        rw [h1] at ht'; cases ht'
        obtain ⟨c0, c1, c2, c3, c4⟩ := hc b off ha
        exact ⟨c0, c1, c2, c3, c4⟩) j u hj
      rw [Addr.add_lit]; exact this
  · obtain ⟨t', ht', hk, _⟩ := hV j u h2
    rw [h1] at ht'; cases ht'; exact hk
  · obtain ⟨j, hj⟩ := List.getElem?_of_mem hu
    obtain ⟨t', _, hk, _⟩ := hV j u hj
    obtain ⟨a', c', rfl, _⟩ := hk
    rfl
theorem RT_own {w : World} {B : Nat} {v : Value} {l : List Tr} {V : List Value} (hl : V.length = l.length) (h : w.ownsRow B 26 5 v l.length (ic l V)) (hk : ∀ (j : Nat) (a : Tr) (u : Value), l[j]? = some a → V[j]? = some u → RT w u a.kids) : RT w v l := by
  rcases h.2 with ⟨rfl, h0⟩ | ⟨g, cap, cur, rfl, hb, hh, _⟩
  · have : l = [] := List.length_eq_zero_iff.1 h0
    subst this
    exact ⟨none, 0, rfl, .inl rfl⟩
  · have hlt := (Array.getElem?_eq_some_iff.1 hh).1
    refine ⟨_, _, rfl, .inr ⟨g, 0, rfl, hlt, RR_mk (fun k a hk' => ?_)⟩⟩
    have hc : ∀ j u, (ic l V)[j]? = some u → w.cell? ⟨g, j, none⟩ = some u := fun j u hj => by
      have := World.ownsRow.cells h rfl j u hj
      rw [Addr.add_lit, Nat.zero_add] at this; exact this
    have hkl := (List.getElem?_eq_some_iff.1 hk').1
    obtain ⟨u, hu⟩ : ∃ u, V[k]? = some u := ⟨_, List.getElem?_eq_getElem (by rw [hl]; exact hkl)⟩
    obtain ⟨e0, e1, e2, e3, e4⟩ := ic_at l V k a u hk' hu
    rw [Nat.zero_add]
    exact RI_iff.2 ⟨hc _ _ e0, hc _ _ e1, hc _ _ e2, hc _ _ e3, u, hc _ _ e4, hk k a u hk' hu⟩
end Go.Proofs.Ytklhbhhkooddoaa
namespace Go.Proofs.Ytklhbhhkooddoaa
open Go.RowKit

mutual
def flsI : Tr → List Tr
  | .mk i k => if !i.tag.isEmpty then [.mk i k] else if i.name.isEmpty then [] else flsL k
def flsL : List Tr → List Tr
  | [] => []
  | a :: r => flsI a ++ flsL r
end
theorem flsI_eq (a : Tr) : flsI a = if !a.itm.tag.isEmpty then [a] else if a.itm.name.isEmpty then [] else flsL a.kids := by cases a; rw [flsI]; rfl
theorem flsL_cons (a : Tr) (r : List Tr) : flsL (a :: r) = flsI a ++ flsL r := by rw [flsL]
theorem flsL_app (x y : List Tr) : flsL (x ++ y) = flsL x ++ flsL y := by
  induction x with
  | nil => simp [flsL]
  | cons a r ih => rw [List.cons_append, flsL_cons, flsL_cons, ih, List.append_assoc]
theorem flsL_take {l : List Tr} {k : Nat} {a : Tr} (h : l[k]? = some a) : flsL (l.take (k + 1)) = flsL (l.take k) ++ flsI a := by
  rw [List.take_add_one, h, flsL_app]; simp [flsL]
theorem fls_len : ∀ (D : Nat) (l : List Tr), wts l ≤ D → (flsL l).length = cntL l := by
  intro D
  induction D using Nat.strongRecOn with
  | ind D ih =>
    intro l hD
    induction l with
    | nil => simp [flsL, cntL]
    | cons a r ihr =>
      have hw := wts_cons a r
      have he := wt_eq a
      rw [flsL_cons, cntL_cons, List.length_append, ihr (by omega), flsI_eq, cntI_eq]
      congr 1
      split
      · rfl
      · split
        · rfl
        · exact ih (wts a.kids) (by omega) a.kids (Nat.le_refl _)
theorem fls_find (tag qual : List UInt8) : ∀ (D : Nat) (l : List Tr), wts l ≤ D → (flsL l).find? (fun a => a.itm.tag == tag && a.itm.qual == qual) = fndL tag qual l := by
  intro D
  induction D using Nat.strongRecOn with
  | ind D ih =>
    intro l hD
    induction l with
    | nil => simp [flsL, fndL]
    | cons a r ihr =>
      have hw := wts_cons a r
      have he := wt_eq a
      have hi : (flsI a).find? (fun a => a.itm.tag == tag && a.itm.qual == qual) = fndI tag qual a := by
        rw [flsI_eq, fndI_eq]
        split
        · rw [List.find?_cons]
          cases (a.itm.tag == tag && a.itm.qual == qual) <;> rfl
        · split
          · rfl
          · exact ih (wts a.kids) (by omega) a.kids (Nat.le_refl _)
      rw [flsL_cons, List.find?_append, hi, ihr (by omega), fndL]
      cases fndI tag qual a <;> rfl
theorem fls_wts : ∀ (D : Nat) (l : List Tr), wts l ≤ D → ∀ t ∈ flsL l, wts t.kids ≤ wts l := by
  intro D
  induction D using Nat.strongRecOn with
  | ind D ih =>
    intro l hD
    induction l with
    | nil => intro t ht; simp [flsL] at ht
    | cons a r ihr =>
      have hw := wts_cons a r
      have he := wt_eq a
      intro t ht
      rw [flsL_cons] at ht
      rcases List.mem_append.1 ht with ht | ht
      · rw [flsI_eq] at ht
        split at ht
        · rw [List.mem_singleton] at ht; subst ht; omega
        · split at ht
          · cases ht
          · have := ih (wts a.kids) (by omega) a.kids (Nat.le_refl _) t ht; omega
      · have := ihr (by omega) t ht; omega
theorem cntI_le {a : Tr} {l : List Tr} {k : Nat} (h : l[k]? = some a) : cntL (l.take k) + cntI a ≤ cntL l := by
  have h1 := cntL_take h
  have h2 := cntL_take_le l (k + 1)
  omega
/-- Fields so far: a row of the call's own, what they hold lies where it lay. -/
structure FQ (w0 : World) (B : Nat) (wr : World) (v : Value) (l : List Tr) (V : List Value) : Prop where
  len : V.length = l.length
  row : wr.ownsRow B 26 5 v l.length (ic l V)
  kids : ∀ (j : Nat) (a : Tr) (u : Value), l[j]? = some a → V[j]? = some u → RT w0 u a.kids
  one : ∀ u ∈ V, u.oneCell' = true
set_option maxRecDepth 100000 in
set_option maxHeartbeats 4000000 in
theorem fields_any (w0 : World) : ∀ (D : Nat) (l : List Tr) (v : Value) (w : World), wts l ≤ D → D ≤ 1099511627776 → RT w0 v l → Below w0.heap.size w0 w →
    Calls Try.prog 20 #[v] w fun e w' => (∃ a cap V, e = .returned (.slice a (flsL l).length cap) ∧ FQ w0 w.heap.size w' (.slice a (flsL l).length cap) (flsL l) V) ∧ Below w.heap.size w w' := by
  intro D
  induction D using Nat.strongRecOn with
  | ind D ih =>
    intro l v w hD hD2 hv hw0
    have IH := hide ih
    obtain ⟨a, cap, rfl, hr⟩ := hv
    have HR := hide hr
    have HWL : Hid (wts l ≤ D ∧ D ≤ 1099511627776) := hide ⟨hD, hD2⟩
    have HW0 := hide hw0
    clear hr ih
    have hll : l.length ≤ 1099511627776 := by have := wts_len l; omega
    have HCL : Hid (cntL l ≤ 1099511627776) := hide (by have := cntL_le _ l (Nat.le_refl _); omega)
    clear hD hD2 hw0
    go_enter Try.func20, Try.ntmps20
    go_wp2_with fail
    go_loopw [3, 4] (fun u n wr => ∃ (k m : Nat) (oa : Option Addr) (oc : Nat) (V : List Value), k ≤ l.length ∧ n = .int .i64 (k : Int) ∧ u = .slice oa m oc ∧ Hid (m = (flsL (l.take k)).length) ∧ Hid (FQ w0 w.heap.size wr (.slice oa m oc) (flsL (l.take k)) V) ∧ Hid (Below w.heap.size w wr)) (fun _ n _ => l.length - (intOf n).toNat)
    case atStart => exact ⟨0, 0, none, 0, [], Nat.zero_le _, rfl, rfl, hide rfl, hide ⟨rfl, World.ownsRow_nil _ _ _ _, fun j a u h => by simp [flsL] at h, fun u hu => by simp at hu⟩, hide (Below.refl _ _)⟩
    case round =>
      obtain ⟨k, m, oa, oc, V, hk, rfl, rfl, HML, HF, HB⟩ := hrel
      by_cases hlt : k < l.length
      · obtain ⟨t, ht⟩ : ∃ t, l[k]? = some t := ⟨_, List.getElem?_eq_getElem hlt⟩
        have HTK := hide (flsL_take ht)
        have HFE := hide (flsI_eq t)
        have HCN := hide (cntI_le ht)
        have HCI := hide (cntI_eq t)
        have HFL := hide (fls_len _ (l.take k) (Nat.le_refl _))
        have HWE := hide (wt_eq t)
        have HWA := hide (wts_at ht)
        have hkn : (k : Int) < (l.length : Int) := by omega
        have hk0 : (0 : Int) ≤ (k : Int) := by omega
        obtain ⟨bb, off, kv, ha, hbl, c0, c1, c2, c3, c4, hkv⟩ := RT_at HR.out ht
        have hbt : Below w0.heap.size w0 wr := HW0.out.trans (HB.out.mono HW0.out.size)
        have c0 := (hbt.cell (p := ⟨bb, _, none⟩) hbl).trans c0
        have c1 := (hbt.cell (p := ⟨bb, _, none⟩) hbl).trans c1
        have c2 := (hbt.cell (p := ⟨bb, _, none⟩) hbl).trans c2
        have c3 := (hbt.cell (p := ⟨bb, _, none⟩) hbl).trans c3
        have c4 := (hbt.cell (p := ⟨bb, _, none⟩) hbl).trans c4
        subst ha
        obtain ⟨ka, kcap, rfl, hkr⟩ := hkv
        have HKV : Hid (RT w0 (.slice ka t.kids.length kcap) t.kids) := hide ⟨ka, kcap, rfl, hkr⟩
        have HBT := hide hbt
        have HMB : Hid (m + cntI t ≤ 1099511627776) := hide (by have := HML.out; have := HFL.out; have := HCN.out; have := HCL.out; omega)
        have HBW : Hid (w.heap.size ≤ wr.heap.size) := hide HB.out.size
        clear hkr ht hbt
        cases hte : t.itm.tag.isEmpty with
        | false =>
          have hneq : (t.itm.tag == []) = false := beq_eq_false_iff_ne.2 (fun e => by rw [e] at hte; simp at hte)
          have HFI : Hid (flsI t = [t]) := hide (by rw [HFE.out, hte]; rfl)
          have HCT : Hid (cntI t = 1) := hide (by rw [HCI.out, hte]; rfl)
          have HRG : Hid (wr.rangeAt bb (off + k * 5) [.string ⟨t.itm.tag.toArray⟩, .string ⟨t.itm.qual.toArray⟩, .string ⟨t.itm.text.toArray⟩, .string ⟨t.itm.name.toArray⟩, .slice ka t.kids.length kcap]) := hide (fun j u hj => by
            match j, hj with
            | 0, hj => simp at hj; subst hj; exact c0
            | 1, hj => simp at hj; subst hj; exact c1
            | 2, hj => simp at hj; subst hj; exact c2
            | 3, hj => simp at hj; subst hj; exact c3
            | 4, hj => simp at hj; subst hj; exact c4)
          have HFR := hide HF.out.row
          rw [← HML.out] at HFR
          clear c1 c2 c3 c4 hte HCI HFE
          go_wp2_with (first
            | (refine wpList_load_mid rfl 26 _ rfl bb (off + k * 5) rfl [.string ⟨t.itm.tag.toArray⟩, .string ⟨t.itm.qual.toArray⟩, .string ⟨t.itm.text.toArray⟩, .string ⟨t.itm.name.toArray⟩, .slice ka t.kids.length kcap] _ HRG.out Try.underlying26 rfl Try.sizeItm ?_)
            | (at_builtin; refine wp_append_itm rfl _ _ rfl w.heap.size _ m _ rfl (HFR.out.alloc _) _ 1 1 [.string ⟨t.itm.tag.toArray⟩, .string ⟨t.itm.qual.toArray⟩, .string ⟨t.itm.text.toArray⟩, .string ⟨t.itm.name.toArray⟩, .slice ka t.kids.length kcap] rfl rfl (by decide) ?c1 ?c2 ?c3 ?c4 ?_)
            | go_in)
          case c1 =>
            intro j u hj
            match j, hj with
            | 0, hj => simp at hj; subst hj; simp [Addr.add]
            | 1, hj => simp at hj; subst hj; simp [Addr.add]
            | 2, hj => simp at hj; subst hj; simp [Addr.add]
            | 3, hj => simp at hj; subst hj; simp [Addr.add]
            | 4, hj => simp at hj; subst hj; simp [Addr.add]
          case c2 => intro u hu; simp at hu; rcases hu with rfl | rfl | rfl | rfl | rfl <;> rfl
          case c3 => have := HBW.out; simp; omega
          case c4 => have := HMB.out; have := HCT.out; omega
          intro v' w7 hown' hgrow hfresh
          have B7 : Hid (Below w.heap.size w w7) := hide ((HB.out.alloc HBW.out _).grown hgrow (by have := HBW.out; simp; omega) (fun q hq => (own_ltq HF.out.row q hq).1))
          have F7 : Hid (FQ w0 w.heap.size w7 v' (flsL (l.take (k + 1))) (V ++ [.slice ka t.kids.length kcap])) := hide (by
            rw [HTK.out, HFI.out]
            refine ⟨by simp [HF.out.len], ?_, fun j b u h1 h2 => ?_, fun u hu => ?_⟩
            · rw [ic_snoc _ _ _ _ HF.out.len.symm, List.length_append, ← HML.out]; exact hown'
            · by_cases hj : j < (flsL (l.take k)).length
              · rw [List.getElem?_append_left hj] at h1
                rw [List.getElem?_append_left (by rw [HF.out.len]; exact hj)] at h2
                exact HF.out.kids j b u h1 h2
              · have hj0 : j - (flsL (l.take k)).length = 0 := by rw [List.getElem?_append_right (by omega)] at h1; have := (List.getElem?_eq_some_iff.1 h1).1; simp at this; omega
                rw [List.getElem?_append_right (by omega), hj0] at h1
                rw [List.getElem?_append_right (by rw [HF.out.len]; omega), HF.out.len, hj0] at h2
                simp at h1 h2; subst h1; subst h2
                exact HKV.out
            · rcases List.mem_append.1 hu with hu | hu
              · exact HF.out.one u hu
              · rw [List.mem_singleton] at hu; subst hu; rfl)
          have HM7 : Hid (m + 1 = (flsL (l.take (k + 1))).length) := hide (by rw [HTK.out, HFI.out, List.length_append, ← HML.out]; rfl)
          obtain ⟨a7, c7, hv7⟩ : ∃ a7 c7, v' = .slice a7 (m + 1) c7 := by
            rcases hown'.2 with ⟨_, h0⟩ | ⟨g, cap, cur, hv, _⟩
            · omega
            · exact ⟨_, _, hv⟩
          subst hv7
          clear hown' hgrow hfresh HF HB
          go_wp2_with fail
          go_roundw
          case rel => exact ⟨k + 1, m + 1, a7, c7, _, by omega, by go_num, rfl, HM7, F7, B7⟩
          case measure => simp [intOf]; omega
        | true =>
          have hneq : (t.itm.tag == []) = true := beq_iff_eq.2 (List.isEmpty_iff.1 hte)
          cases hne : t.itm.name.isEmpty with
          | true =>
            have hnn : (t.itm.name == []) = true := beq_iff_eq.2 (List.isEmpty_iff.1 hne)
            have HFI : Hid (flsL (l.take (k + 1)) = flsL (l.take k)) := hide (by rw [HTK.out, HFE.out, hte, hne]; simp)
            clear hte hne HFE HCI
            go_wp2_with fail
            go_roundw
            case rel => exact ⟨k + 1, m, oa, oc, V, by omega, by go_num, rfl, by rw [HFI.out]; exact HML, by rw [HFI.out]; exact HF, HB⟩
            case measure => simp [intOf]; omega
          | false =>
            have hnn : (t.itm.name == []) = false := beq_eq_false_iff_ne.2 (fun e => by rw [e] at hne; simp at hne)
            have HFI : Hid (flsI t = flsL t.kids) := hide (by rw [HFE.out, hte, hne]; rfl)
            have HCT : Hid (cntI t = (flsL t.kids).length) := hide (by rw [HCI.out, hte, hne, fls_len _ _ (Nat.le_refl _)]; rfl)
            have HI := hide (IH.out (wts t.kids) (by have := HWE.out; have := HWA.out; have := HWL.out; omega) t.kids (.slice ka t.kids.length kcap) wr (Nat.le_refl _) (by have := HWE.out; have := HWA.out; have := HWL.out; omega) HKV.out HBT.out)
            clear hte hne HFE HCI
            go_wp2_with fail
            refine HI.out.mono ?_
            rintro e w5 ⟨⟨qa, qc, U, rfl, hfq⟩, hb5⟩
            have B5 := hide (HB.out.trans (hb5.mono HB.out.size))
            have HQ := hide hfq
            have HFR : Hid (w5.ownsRow w.heap.size 26 5 (.slice oa m oc) m (ic (flsL (l.take k)) V)) := hide (by
              have := owns_blkq HF.out.row (w' := w5) (fun g hg => hb5.block g (own_ltq HF.out.row g hg).2)
              rw [← HML.out] at this; exact this)
            have HUL : Hid ((ic (flsL t.kids) U).length = (flsL t.kids).length * 5) := hide (ic_len _ _ hfq.len.symm)
            have HU1 := hide (ic_one (flsL t.kids) U hfq.one)
            have HUC : Hid (∀ ad, qa = some ad → ∀ j u, (ic (flsL t.kids) U)[j]? = some u → w5.cell? (ad.add j) = some u) := hide (fun ad e j u hj => by
              subst e
              rcases hfq.row.2 with ⟨hv, _⟩ | ⟨g, cap', cur, hv, _⟩
              · cases hv
              · injection hv with e1
                injection e1 with e1
                subst e1
                exact World.ownsRow.cells hfq.row rfl j u hj)
            have HUN : Hid (qa = none → (flsL t.kids).length = 0 ∧ qc = 0) := hide (fun e => by
              subst e
              rcases hfq.row.2 with ⟨hv, h0⟩ | ⟨g, cap', cur, hv, _⟩
              · injection hv with _ _ e3
                exact ⟨h0, e3⟩
              · injection hv with e1; cases e1)
            have HB5s : Hid (w.heap.size ≤ w5.heap.size) := hide B5.out.size
            clear hb5 hfq HI
            obtain ⟨q, hq⟩ : ∃ q, q = (flsL t.kids).length := ⟨_, rfl⟩
            rw [← hq] at HUL HUN HCT ⊢
            have HQL := hide hq
            clear hq
            go_wp2_with (at_builtin; refine wp_append_list rfl _ _ rfl w.heap.size _ m _ rfl HFR.out qa q qc (ic (flsL t.kids) U) rfl HUN.out HUL.out HUC.out HU1.out HB5s.out (by have := HMB.out; have := HCT.out; omega) ?_)
            intro v' w7 hown' hgrow
            have B7 : Hid (Below w.heap.size w w7) := hide (B5.out.grown hgrow HB5s.out (fun x hx => (own_ltq HFR.out x hx).1))
            have F7 : Hid (FQ w0 w.heap.size w7 v' (flsL (l.take (k + 1))) (V ++ U)) := hide (by
              rw [HTK.out, HFI.out]
              refine ⟨by rw [List.length_append, List.length_append, HF.out.len, HQ.out.len], ?_, fun j b u h1 h2 => ?_, fun u hu => ?_⟩
              · rw [ic_app _ _ _ _ HF.out.len.symm, List.length_append, ← HML.out, ← HQL.out]; exact hown'
              · by_cases hj : j < (flsL (l.take k)).length
                · rw [List.getElem?_append_left hj] at h1
                  rw [List.getElem?_append_left (by rw [HF.out.len]; exact hj)] at h2
                  exact HF.out.kids j b u h1 h2
                · rw [List.getElem?_append_right (by omega)] at h1
                  rw [List.getElem?_append_right (by rw [HF.out.len]; omega), HF.out.len] at h2
                  exact HQ.out.kids _ b u h1 h2
              · rcases List.mem_append.1 hu with hu | hu
                · exact HF.out.one u hu
                · exact HQ.out.one u hu)
            have HM7 : Hid (m + q = (flsL (l.take (k + 1))).length) := hide (by rw [HTK.out, HFI.out, List.length_append, ← HML.out, HQL.out])
            obtain ⟨a7, c7, hv7⟩ : ∃ a7 c7, v' = .slice a7 (m + q) c7 := by
              rcases hown'.2 with ⟨hv, h0⟩ | ⟨g, cap, cur, hv, _⟩
              · exact ⟨none, 0, by rw [hv, h0]⟩
              · exact ⟨_, _, hv⟩
            subst hv7
            clear hown' hgrow HF HB
            go_wp2_with fail
            go_roundw
            case rel => exact ⟨k + 1, m + q, a7, c7, _, by omega, by go_num, rfl, HM7, F7, B7⟩
            case measure => simp [intOf]; omega
      · have hk' : k = l.length := by omega
        subst hk'
        rw [List.take_length] at HML HF
        have hmm := HML.out
        subst hmm
        go_wp2_with fail
        go_ret
        first | exact ⟨⟨oa, oc, V, rfl, HF.out⟩, HB.out⟩ | exact ⟨⟨oa, oc, rfl, V, HF.out⟩, HB.out⟩
end Go.Proofs.Ytklhbhhkooddoaa
namespace Go.Proofs.Ytklhbhhkooddoaa
open Go.RowKit

theorem alloc3_newj (w : World) (a b c : Obj) : (((w.alloc a).alloc b).alloc c).heap[w.heap.size + 2]? = some c := by
  have h := alloc_new ((w.alloc a).alloc b) c
  have hs : ((w.alloc a).alloc b).heap.size = w.heap.size + 2 := by simp
  rw [hs] at h; exact h
theorem Ix.putItems {w : World} {g : Nat} {i : Itm} {v : Value} (h : Ix w g i v) (u : Value) : Ix (w.setCell ⟨g, 4, none⟩ u) g i u := by
  unfold Ix at h ⊢
  simp only [World.setCell, Array.getElem?_modify, if_true]
  rw [h]; rfl
theorem Ix.free4 {w : World} {g : Nat} {i : Itm} {v : Value} (h : Ix w g i v) : w.frozen? ⟨g, 4, none⟩ = false := frozen_of_row _ _ _ _ _ h
set_option maxRecDepth 100000 in
set_option maxHeartbeats 4000000 in
theorem copyItem_of (i : Itm) (l : List Tr) (ka : Option Addr) (kc : Nat) (w : World) (hc : ∀ W : World, Below w.heap.size w W → Calls Try.prog 25 #[.slice ka l.length kc] W fun e w' => (∃ a cap, e = .returned (.slice a l.length cap) ∧ PT w' (fun x => W.heap.size ≤ x ∧ x < w'.heap.size) (.slice a l.length cap) l) ∧ Below W.heap.size W w') :
    Calls Try.prog 21 #[.agg (iC i (.slice ka l.length kc))] w fun e w' => (∃ a cap, e = .returned (.agg (iC i (.slice a l.length cap))) ∧ PT w' (fun x => w.heap.size ≤ x ∧ x < w'.heap.size) (.slice a l.length cap) l) ∧ Below w.heap.size w w' := by
  have HC := hide hc
  clear hc
  have B0 := hide ((((Below.refl w.heap.size w).alloc (Nat.le_refl _) (.cells (iC i (.slice ka l.length kc)) 26)).alloc (by simp) (.cells #[.string ⟨#[]⟩, .string ⟨#[]⟩, .string ⟨#[]⟩, .string ⟨#[]⟩, .slice none 0 0] 26)).alloc (by simp; omega) (.cells (iC i (.slice ka l.length kc)) 26))
  have Y0 : Hid (Ix (((w.alloc (.cells (iC i (.slice ka l.length kc)) 26)).alloc (.cells #[.string ⟨#[]⟩, .string ⟨#[]⟩, .string ⟨#[]⟩, .string ⟨#[]⟩, .slice none 0 0] 26)).alloc (.cells (iC i (.slice ka l.length kc)) 26)) (w.heap.size + 1) ⟨[], [], [], []⟩ (.slice none 0 0)) := hide (alloc_block (alloc2_newq w _ _))
  have Z0 : Hid (Ix (((w.alloc (.cells (iC i (.slice ka l.length kc)) 26)).alloc (.cells #[.string ⟨#[]⟩, .string ⟨#[]⟩, .string ⟨#[]⟩, .string ⟨#[]⟩, .slice none 0 0] 26)).alloc (.cells (iC i (.slice ka l.length kc)) 26)) (w.heap.size + 2) i (.slice ka l.length kc)) := hide (alloc3_newj w _ _ _)
  unfold iC at B0 Y0 Z0
  go_enter Try.func21, Try.ntmps21
  unfold iC
  go_wp2_with fail
  refine (HC.out _ B0.out).mono ?_
  rintro e w1 ⟨⟨qa, qc, rfl, hpt⟩, hb1⟩
  have Y1 := hide (Ix.later Y0.out hb1)
  have Z1 := hide (Ix.later Z0.out hb1)
  have B1 := hide (B0.out.trans (hb1.mono B0.out.size))
  have HPT : Hid (PT w1 (fun x => w.heap.size + 3 ≤ x ∧ x < w1.heap.size) (.slice qa l.length qc) l) := hide (PT_kept (fun _ _ _ => rfl) (Nat.le_refl _) (fun g hg _ => ⟨by have := hg.1; simp at this; omega, hg.2⟩) _ _ _ (Nat.le_refl _) hpt)
  have z4 := Z1.out.items trivial
  have zf := Z1.out.free4
  have hzl : w.heap.size + 2 < w1.heap.size := Z1.out.lt
  have Z2 := hide (Z1.out.putItems (.slice qa l.length qc))
  have Y2 : Hid (Ix (w1.setCell ⟨w.heap.size + 2, 4, none⟩ (.slice qa l.length qc)) (w.heap.size + 1) ⟨[], [], [], []⟩ (.slice none 0 0)) := hide ((Below.heap_setCell _ _ _ (w.heap.size + 1) (by show w.heap.size + 1 ≠ w.heap.size + 2; omega)).trans Y1.out)
  have B2 := hide (B1.out.setCell (p := ⟨w.heap.size + 2, 4, none⟩) (by show w.heap.size ≤ w.heap.size + 2; omega) (.slice qa l.length qc))
  have P2 : Hid (PT (w1.setCell ⟨w.heap.size + 2, 4, none⟩ (.slice qa l.length qc)) (fun x => w.heap.size + 3 ≤ x ∧ x < w1.heap.size) (.slice qa l.length qc) l) := hide (PT_kept (fun g hg _ => Below.heap_setCell _ _ _ g (by have := hg.1; show g ≠ w.heap.size + 2; omega)) (by simp [World.setCell]) (fun g hg _ => hg) _ _ _ (Nat.le_refl _) HPT.out)
  have HSZ : Hid ((w1.setCell ⟨w.heap.size + 2, 4, none⟩ (.slice qa l.length qc)).heap.size = w1.heap.size) := hide (by simp [World.setCell])
  obtain ⟨w2, hW2⟩ : ∃ w2, w1.setCell ⟨w.heap.size + 2, 4, none⟩ (.slice qa l.length qc) = w2 := ⟨_, rfl⟩
  rw [hW2] at Z2 Y2 B2 P2 HSZ
  clear hb1 hpt HPT Y1 Z1 B1
  go_wp2_with (first
    | (refine wpList_load_row rfl 26 (.tmp 3) rfl (w.heap.size + 2) rfl _ (iC i (.slice qa l.length qc)) _ _ Z2.out Try.underlying26 rfl Try.sizeItm ?_)
    | (refine wpList_store_row rfl 26 (.tmp 2) _ rfl (w.heap.size + 1) (iC i (.slice qa l.length qc)) rfl rfl _ _ Y2.out Try.sizeItm rfl (iC_one _ _ _ _) ?_))
  (try simp only [Exit.inBlock, Exit.then])
  refine bodyPost_ret (v := .agg (iC i (.slice qa l.length qc))) ?_ rfl ⟨⟨qa, qc, rfl, PT_kept (w := w2) (fun g hg _ => setRow_otherk _ _ _ _ (by have := hg.1; omega)) (by rw [size_setRow]; exact Nat.le_refl _) (fun g hg hg2 => ⟨by have := hg.1; omega, by rw [size_setRow]; exact hg2⟩) _ _ _ (Nat.le_refl _) P2.out⟩, below_setRow B2.out (by omega) _⟩
  exact results_cell_row rfl _ _ (w.heap.size + 1) 26 (iC i (.slice qa l.length qc)) (0, 0) _ rfl (setRow_heap _ _ _ _ _ _ Y2.out) Try.underlying26 rfl Try.sizeItm
/-- Copies so far. -/
structure DW (w : World) (wr : World) (v : Value) (l : List Tr) (V : List Value) : Prop where
  iw : IW wr w.heap.size v l V
  bl : Below w.heap.size w wr
theorem DW.later {w wr w1 : World} {v : Value} {l : List Tr} {V : List Value} (h : DW w wr v l V) (hb : Below wr.heap.size wr w1) : DW w w1 v l V := ⟨h.iw.later hb, h.bl.trans (hb.mono h.bl.size)⟩
theorem DW.snoc {w wr w1 : World} {lo : Nat} {v v' u : Value} {l : List Tr} {V : List Value} {a : Tr} (h : DW w wr v l V) (hO : w1.ownsRow w.heap.size 26 5 v' (l.length + 1) (ic l V ++ (iC a.itm u).toList)) (hg : wr.grownBy w1 v.ownBlock) (hr : ∀ x, v'.ownBlock = some x → v.ownBlock = some x ∨ wr.heap.size ≤ x)
    (hlo : w.heap.size ≤ lo) (hv : ∀ x, v.ownBlock = some x → x < lo) (hu : PT wr (fun x => lo ≤ x ∧ x < wr.heap.size) u a.kids) : DW w w1 v' (l ++ [a]) (V ++ [u]) :=
  ⟨h.iw.snoc hO (fun x hx hne => hg.block x hx (fun e => hne e.symm)) hg.size hr hlo hv hu, h.bl.grown hg h.bl.size (fun q hq => (own_ltq h.iw.row q hq).1)⟩
set_option maxRecDepth 100000 in
set_option maxHeartbeats 4000000 in
theorem copyItems_any : ∀ (D : Nat) (l : List Tr) (v : Value) (w : World), wts l ≤ D → D ≤ 1099511627776 → RT w v l →
    Calls Try.prog 25 #[v] w fun e w' => (∃ a cap, e = .returned (.slice a l.length cap) ∧ ∃ V, DW w w' (.slice a l.length cap) l V) := by
  intro D
  induction D using Nat.strongRecOn with
  | ind D ih =>
    intro l v w hD hD2 hv
    have IH := hide ih
    obtain ⟨a, cap, rfl, hr⟩ := hv
    have HR := hide hr
    have HWL : Hid (wts l ≤ D ∧ D ≤ 1099511627776) := hide ⟨hD, hD2⟩
    clear hr ih
    have hll : l.length ≤ 1099511627776 := by have := wts_len l; omega
    clear hD hD2
    have C0 : Hid (DW w w (.slice none 0 0) [] []) := hide ⟨IW.nil _ _, Below.refl _ _⟩
    go_enter Try.func25, Try.ntmps25
    go_wp2_with fail
    go_loopw [3, 4] (fun u n wr => ∃ (k : Nat) (V : List Value), k ≤ l.length ∧ n = .int .i64 k ∧ Hid (DW w wr u (l.take k) V)) (fun _ n _ => l.length - (intOf n).toNat)
    case atStart => exact ⟨0, [], Nat.zero_le _, rfl, C0⟩
    case round =>
      obtain ⟨k, V, hk, rfl, HC⟩ := hrel
      by_cases hlt : k < l.length
      · obtain ⟨t, ht⟩ : ∃ t, l[k]? = some t := ⟨_, List.getElem?_eq_getElem hlt⟩
        have HTK : Hid (l.take (k + 1) = l.take k ++ [t]) := hide (by rw [List.take_add_one, ht]; rfl)
        have HWE := hide (wt_eq t)
        have HWA := hide (wts_at ht)
        obtain ⟨bb, off, kv, ha, hbl, c0, c1, c2, c3, c4, hkv⟩ := RT_at HR.out ht
        have c0 := (HC.out.bl.cell (p := ⟨bb, _, none⟩) hbl).trans c0
        have c1 := (HC.out.bl.cell (p := ⟨bb, _, none⟩) hbl).trans c1
        have c2 := (HC.out.bl.cell (p := ⟨bb, _, none⟩) hbl).trans c2
        have c3 := (HC.out.bl.cell (p := ⟨bb, _, none⟩) hbl).trans c3
        have c4 := (HC.out.bl.cell (p := ⟨bb, _, none⟩) hbl).trans c4
        subst ha
        obtain ⟨ka, kcap, rfl, hkr⟩ := hkv
        have HKV : Hid (RT w (.slice ka t.kids.length kcap) t.kids) := hide ⟨ka, kcap, rfl, hkr⟩
        have HCP := hide (copyItem_of t.itm t.kids ka kcap wr (fun W hW => (IH.out (wts t.kids) (by have := HWE.out; have := HWA.out; have := HWL.out; omega) t.kids (.slice ka t.kids.length kcap) W (Nat.le_refl _) (by have := HWE.out; have := HWA.out; have := HWL.out; omega) (RT_later HKV.out (HC.out.bl.trans (hW.mono HC.out.bl.size)))).mono (fun e w' h => by
          obtain ⟨qa, qc, rfl, V', hd⟩ := h
          exact ⟨⟨qa, qc, rfl, hd.iw.done⟩, hd.bl⟩)))
        have HLT : Hid ((l.take k).length = k) := hide (by rw [List.length_take]; omega)
        clear hkr ht
        unfold iC at HCP
        go_wp2_with fail
        refine HCP.out.mono ?_
        rintro e w6 ⟨⟨qa, qc, rfl, hpt⟩, hb6⟩
        have C6 := hide (HC.out.later hb6)
        have BX := hide ((Below.refl w6.heap.size w6).alloc (Nat.le_refl _) (.cells #[.string ⟨t.itm.tag.toArray⟩, .string ⟨t.itm.qual.toArray⟩, .string ⟨t.itm.text.toArray⟩, .string ⟨t.itm.name.toArray⟩, .slice qa t.kids.length qc] 26))
        have X6 : Hid (Ix (w6.alloc (.cells #[.string ⟨t.itm.tag.toArray⟩, .string ⟨t.itm.qual.toArray⟩, .string ⟨t.itm.text.toArray⟩, .string ⟨t.itm.name.toArray⟩, .slice qa t.kids.length qc] 26)) w6.heap.size t.itm (.slice qa t.kids.length qc)) := hide (alloc_new w6 _)
        have C7 := hide (C6.out.later BX.out)
        have HPT : Hid (PT (w6.alloc (.cells #[.string ⟨t.itm.tag.toArray⟩, .string ⟨t.itm.qual.toArray⟩, .string ⟨t.itm.text.toArray⟩, .string ⟨t.itm.name.toArray⟩, .slice qa t.kids.length qc] 26)) (fun x => wr.heap.size ≤ x ∧ x < w6.heap.size) (.slice qa t.kids.length qc) t.kids) := hide (PT_kept (fun g hg hg2 => BX.out.block g hg2) BX.out.size (fun g hg _ => hg) _ _ _ (Nat.le_refl _) hpt)
        have HVL : Hid (∀ x, u3.ownBlock = some x → x < wr.heap.size) := hide (fun x hx => (own_ltq HC.out.iw.row x hx).2)
        have HWS : Hid (w.heap.size ≤ wr.heap.size) := hide HC.out.bl.size
        have HS6 : Hid (wr.heap.size ≤ w6.heap.size) := hide hb6.size
        have HOW := hide C7.out.iw.row
        rw [HLT.out] at HOW
        obtain ⟨w7, hW7⟩ : ∃ w7, w6.alloc (.cells #[.string ⟨t.itm.tag.toArray⟩, .string ⟨t.itm.qual.toArray⟩, .string ⟨t.itm.text.toArray⟩, .string ⟨t.itm.name.toArray⟩, .slice qa t.kids.length qc] 26) = w7 := ⟨_, rfl⟩
        have HS7 : Hid (w6.heap.size + 1 = w7.heap.size) := hide (by rw [← hW7]; simp)
        rw [hW7] at X6 C7 HPT HOW
        clear hb6 hpt c0 c1 c2 c3 c4 HCP BX C6
        (try unfold iC)
        go_wp2_with (first
          | (refine wpList_load_row rfl 26 (.tmp 5) rfl w6.heap.size rfl _ (iC t.itm (.slice qa t.kids.length qc)) _ _ X6.out Try.underlying26 rfl Try.sizeItm ?_; unfold iC)
          | (at_builtin; refine wp_append_itm rfl _ _ rfl w.heap.size _ k _ rfl (HOW.out.alloc _) _ 1 1 [.string ⟨t.itm.tag.toArray⟩, .string ⟨t.itm.qual.toArray⟩, .string ⟨t.itm.text.toArray⟩, .string ⟨t.itm.name.toArray⟩, .slice qa t.kids.length qc] rfl rfl (by decide) ?c1 ?c2 ?c3 ?c4 ?_))
        case c1 =>
          intro j u hj
          match j, hj with
          | 0, hj => simp at hj; subst hj; simp [Addr.add]
          | 1, hj => simp at hj; subst hj; simp [Addr.add]
          | 2, hj => simp at hj; subst hj; simp [Addr.add]
          | 3, hj => simp at hj; subst hj; simp [Addr.add]
          | 4, hj => simp at hj; subst hj; simp [Addr.add]
        case c2 => intro u hu; simp at hu; rcases hu with rfl | rfl | rfl | rfl | rfl <;> rfl
        case c3 => have := HWS.out; have := HS6.out; have := HS7.out; simp; omega
        case c4 => omega
        intro v' w8 hown' hgrow hfresh
        have BB := hide ((Below.refl w7.heap.size w7).alloc (Nat.le_refl _) (.cells #[.string ⟨t.itm.tag.toArray⟩, .string ⟨t.itm.qual.toArray⟩, .string ⟨t.itm.text.toArray⟩, .string ⟨t.itm.name.toArray⟩, .slice qa t.kids.length qc] 26))
        have C8 := hide ((C7.out.later BB.out).snoc (a := t) (u := .slice qa t.kids.length qc) (lo := wr.heap.size) (by rw [HLT.out]; exact hown') hgrow (fun x hx => (hfresh x hx).imp id (fun h => by simpa using h)) HWS.out HVL.out (PT_kept (fun g hg hg2 => BB.out.block g hg2) BB.out.size (fun g hg hg2 => ⟨hg.1, Nat.lt_of_lt_of_le hg2 BB.out.size⟩) _ _ _ (Nat.le_refl _) HPT.out))
        rw [← HTK.out] at C8
        clear hown' hgrow hfresh BB
        go_wp2_with fail
        go_roundw
        case rel => exact ⟨k + 1, _, by omega, by go_num, C8⟩
        case measure => simp [intOf]; omega
      · have hk' : k = l.length := by omega
        subst hk'
        rw [List.take_length] at HC
        obtain ⟨qa, qc, hv, _⟩ := HC.out.iw.done
        subst hv
        go_wp2_with fail
        go_ret
        exact ⟨qa, qc, rfl, V, HC.out⟩
theorem Try.fldItems (i : Itm) (a : Option Addr) (n c : Nat) (w : World) : (Instr.field 26 (.agg #[.string ⟨i.tag.toArray⟩, .string ⟨i.qual.toArray⟩, .string ⟨i.text.toArray⟩, .string ⟨i.name.toArray⟩, .slice a n c]) 4).run Try.prog w = .ok (.slice a n c) w := by kernel_rfl
def blkL (nm : List UInt8) : List Tr → Option (List Tr)
  | [] => none
  | a :: r => if a.itm.tag.isEmpty && !a.itm.name.isEmpty && (a.itm.name == nm) then some a.kids else blkL nm r
theorem blkL_step {nm : List UInt8} {l : List Tr} {k : Nat} {a : Tr} (h : l[k]? = some a) : blkL nm (l.drop k) = if a.itm.tag.isEmpty && !a.itm.name.isEmpty && (a.itm.name == nm) then some a.kids else blkL nm (l.drop (k + 1)) := by rw [drop_cons h, blkL]
def BO (w w' : World) (e : Ending) : Option (List Tr) → Prop
  | none => e = .returned (.tuple #[.slice none 0 0, .bool false])
  | some m => ∃ a cap, e = .returned (.tuple #[.slice a m.length cap, .bool true]) ∧ PA w' (fun g => w.heap.size ≤ g ∧ g < w'.heap.size) (.slice a m.length cap) m
set_option maxRecDepth 100000 in
set_option maxHeartbeats 4000000 in
theorem tBlock_any (nm : List UInt8) (l : List Tr) (v : Value) (w : World) (hD : wts l ≤ 1099511627776) (hv : RT w v l) :
    Calls Try.prog 9 #[v, .string ⟨nm.toArray⟩] w fun e w' => BO w w' e (blkL nm l) ∧ Below w.heap.size w w' := by
  obtain ⟨a, cap, rfl, hr⟩ := hv
  have HR := hide hr
  have HWL := hide hD
  have hll : l.length ≤ 1099511627776 := by have := wts_len l; omega
  clear hr hD
  go_enter Try.func9, Try.ntmps9
  go_wp2_with fail
  go_loopw [10] (fun n wr => ∃ (k : Nat), k ≤ l.length ∧ n = .int .i64 k ∧ Hid (blkL nm l = blkL nm (l.drop k)) ∧ Hid (Below w.heap.size w wr)) (fun n _ => l.length - (intOf n).toNat)
  case atStart => exact ⟨0, Nat.zero_le _, rfl, hide rfl, hide (Below.refl _ _)⟩
  case round =>
    obtain ⟨k, hk, rfl, HF, HB⟩ := hrel
    by_cases hlt : k < l.length
    · obtain ⟨t, ht⟩ : ∃ t, l[k]? = some t := ⟨_, List.getElem?_eq_getElem hlt⟩
      have HFS := hide (HF.out.trans (blkL_step ht))
      have HWE := hide (wt_eq t)
      have HWA := hide (wts_at ht)
      have HTIO := hide (iok_of HWA.out (by have := HWL.out; omega))
      obtain ⟨bb, off, kv, ha, hbl, c0, c1, c2, c3, c4, hkv⟩ := RT_at HR.out ht
      have c0 := (HB.out.cell (p := ⟨bb, _, none⟩) hbl).trans c0
      have c1 := (HB.out.cell (p := ⟨bb, _, none⟩) hbl).trans c1
      have c2 := (HB.out.cell (p := ⟨bb, _, none⟩) hbl).trans c2
      have c3 := (HB.out.cell (p := ⟨bb, _, none⟩) hbl).trans c3
      have c4 := (HB.out.cell (p := ⟨bb, _, none⟩) hbl).trans c4
      subst ha
      obtain ⟨ka, kcap, rfl, hkr⟩ := hkv
      have HKV : Hid (RT w (.slice ka t.kids.length kcap) t.kids) := hide ⟨ka, kcap, rfl, hkr⟩
      have HIB := hide (fun W : World => isBlock_any t.itm (.slice ka t.kids.length kcap) W)
      have XA := hide (Ix.new wr t.itm (.slice ka t.kids.length kcap))
      have BA := hide ((Below.refl wr.heap.size wr).alloc (Nat.le_refl _) (.cells (iC t.itm (.slice ka t.kids.length kcap)) 26))
      clear hkr ht HF
      unfold iC at XA BA
      cases hib : (t.itm.tag.isEmpty && !t.itm.name.isEmpty) with
      | false =>
        rw [hib] at HIB
        have HFN : Hid (blkL nm l = blkL nm (l.drop (k + 1))) := by show _ = _; rw [HFS.out, hib]; rfl
        clear HFS hib
        go_wp2_with (refine wpList_load_row rfl 26 (.tmp 7) rfl wr.heap.size rfl _ (iC t.itm (.slice ka t.kids.length kcap)) _ _ XA.out Try.underlying26 rfl Try.sizeItm ?_)
        refine (HIB.out _).mono ?_
        rintro e w1 ⟨rfl, hb1⟩
        have B1 := hide (HB.out.trans ((BA.out.trans (hb1.mono BA.out.size)).mono HB.out.size))
        clear hb1 c0 c1 c2 c3 c4
        go_wp2_with fail
        go_roundw
        case rel => exact ⟨k + 1, by omega, by go_num, HFN, B1⟩
        case measure => simp [intOf]; omega
      | true =>
        rw [hib] at HIB
        cases hnm : t.itm.name == nm with
        | false =>
          have HFN : Hid (blkL nm l = blkL nm (l.drop (k + 1))) := by show _ = _; rw [HFS.out, hib, hnm]; rfl
          clear HFS hib
          go_wp2_with (refine wpList_load_row rfl 26 (.tmp 7) rfl wr.heap.size rfl _ (iC t.itm (.slice ka t.kids.length kcap)) _ _ XA.out Try.underlying26 rfl Try.sizeItm ?_)
          refine (HIB.out _).mono ?_
          rintro e w1 ⟨rfl, hb1⟩
          have X1 := hide (Ix.later XA.out hb1)
          have B1 := hide (HB.out.trans ((BA.out.trans (hb1.mono BA.out.size)).mono HB.out.size))
          clear hb1 c0 c1 c2 c3 c4
          have x3 := X1.out.name trivial
          go_wp2_with fail
          go_roundw
          case rel => exact ⟨k + 1, by omega, by go_num, HFN, B1⟩
          case measure => simp [intOf]; omega
        | true =>
          have HFF : Hid (blkL nm l = some t.kids) := by show _ = _; rw [HFS.out, hib, hnm]; rfl
          clear HFS hib
          go_wp2_with (refine wpList_load_row rfl 26 (.tmp 7) rfl wr.heap.size rfl _ (iC t.itm (.slice ka t.kids.length kcap)) _ _ XA.out Try.underlying26 rfl Try.sizeItm ?_)
          refine (HIB.out _).mono ?_
          rintro e w1 ⟨rfl, hb1⟩
          have X1 := hide (Ix.later XA.out hb1)
          have B1 := hide (HB.out.trans ((BA.out.trans (hb1.mono BA.out.size)).mono HB.out.size))
          clear hb1 c0 c1 c2 c3 c4
          have x3 := X1.out.name trivial
          have HCP := hide (copied_any (wts t.kids) t.itm t.kids (.slice ka t.kids.length kcap) w1 (Nat.le_refl _) (by have := HWE.out; have := HWA.out; have := HWL.out; omega) HTIO.out (RT_later HKV.out B1.out))
          go_wp2_with (refine wpList_load_row rfl 26 (.tmp 7) rfl wr.heap.size rfl _ (iC t.itm (.slice ka t.kids.length kcap)) _ _ X1.out Try.underlying26 rfl Try.sizeItm ?_)
          refine HCP.out.mono ?_
          rintro e w3 ⟨⟨qa, qc, rfl, hpt⟩, hb3⟩
          have B3 := hide (B1.out.trans (hb3.mono B1.out.size))
          have HP3 : Hid (PA w3 (fun g => w.heap.size ≤ g ∧ g < w3.heap.size) (.slice qa t.kids.length qc) t.kids) := hide (PA_kept (fun _ _ _ => rfl) (Nat.le_refl _) (fun g hg _ => ⟨by have := hg.1; have := B1.out.size; omega, hg.2⟩) _ _ _ (Nat.le_refl _) hpt)
          clear hb3 hpt x3
          unfold iC
          have hfi := Try.fldItems t.itm qa t.kids.length qc w3
          go_wp2_with fail
          go_ret2
          exact ⟨by rw [HFF.out]; exact ⟨qa, qc, rfl, HP3.out⟩, B3.out⟩
    · have hk' : k = l.length := by omega
      subst hk'
      have HFN : Hid (blkL nm l = none) := by show _ = _; rw [HF.out, List.drop_of_length_le (Nat.le_refl _), blkL]
      clear HF
      go_wp2_with fail
      go_ret2
      exact ⟨by rw [HFN.out]; rfl, HB.out⟩
end Go.Proofs.Ytklhbhhkooddoaa
namespace Go.Proofs.Ytklhbhhkooddoaa
open Go.RowKit

/-- What the document's Find ends with. -/
def FD (w' : World) (e : Ending) : Option Tr → Prop
  | none => e = .returned (.tuple #[.agg (iC ⟨[], [], [], []⟩ (.slice none 0 0)), .bool false])
  | some x => ∃ a cap, e = .returned (.tuple #[.agg (iC x.itm (.slice a x.kids.length cap)), .bool true]) ∧ RT w' (.slice a x.kids.length cap) x.kids
/-- What the document's Block ends with. -/
def BD (w' : World) (e : Ending) : Option (List Tr) → Prop
  | none => e = .returned (.tuple #[.slice none 0 0, .bool false])
  | some m => ∃ a cap, e = .returned (.tuple #[.slice a m.length cap, .bool true]) ∧ RT w' (.slice a m.length cap) m
theorem copies (l : List Tr) (ka : Option Addr) (kc : Nat) (w : World) (hD : wts l ≤ 1099511627776) (hv : RT w (.slice ka l.length kc) l) :
    Calls Try.prog 25 #[.slice ka l.length kc] w fun e w' => (∃ a cap, e = .returned (.slice a l.length cap) ∧ PT w' (fun x => w.heap.size ≤ x ∧ x < w'.heap.size) (.slice a l.length cap) l) ∧ Below w.heap.size w w' :=
  (copyItems_any _ l _ w (Nat.le_refl _) hD hv).mono (fun _ _ ⟨a, cap, h1, _, h2⟩ => ⟨⟨a, cap, h1, h2.iw.done⟩, h2.bl⟩)
set_option maxRecDepth 100000 in
set_option maxHeartbeats 4000000 in
theorem dBlock_any (nm : List UInt8) (l : List Tr) (v : Value) (w : World) (hD : wts l ≤ 1099511627776) (hv : RT w v l) :
    Calls Try.prog 8 #[v, .string ⟨nm.toArray⟩] w fun e w' => BD w' e (blkL nm l) ∧ Below w.heap.size w w' := by
  obtain ⟨a, cap, rfl, hr⟩ := hv
  have HR := hide hr
  have hll : l.length ≤ 1099511627776 := by have := wts_len l; omega
  have HWL := hide hD
  clear hr hD
  go_enter Try.func8, Try.ntmps8
  go_wp2_with fail
  go_loop [6] (fun n => ∃ k : Nat, k ≤ l.length ∧ n = .int .i64 (k : Int) ∧ Hid (blkL nm (l.drop k) = blkL nm l)) (fun n => l.length - (intOf n).toNat)
  case atStart => exact ⟨0, Nat.zero_le _, rfl, hide rfl⟩
  case round =>
    obtain ⟨k, hk, rfl, HBL⟩ := hrel
    by_cases hlt : k < l.length
    · obtain ⟨t, ht⟩ : ∃ t, l[k]? = some t := ⟨_, List.getElem?_eq_getElem hlt⟩
      have HST := hide (blkL_step (nm := nm) ht)
      have HWA := hide (wts_at ht)
      have HWE := hide (wt_eq t)
      have hkn : (k : Int) < (l.length : Int) := by omega
      have hk0 : (0 : Int) ≤ (k : Int) := by omega
      obtain ⟨bb, off, kv, ha, hbl, c0, c1, c2, c3, c4, hkv⟩ := RT_at HR.out ht
      subst ha
      obtain ⟨ka, kcap, rfl, hkr⟩ := hkv
      have HCP := hide (copies t.kids ka kcap w (by have := HWA.out; have := HWE.out; have := HWL.out; omega) ⟨ka, kcap, rfl, hkr⟩)
      clear hkr ht c1 c2
      cases hte : t.itm.tag.isEmpty with
      | false =>
        have hneq : (t.itm.tag == []) = false := beq_eq_false_iff_ne.2 (fun e => by rw [e] at hte; simp at hte)
        have HNX : Hid (blkL nm (l.drop (k + 1)) = blkL nm l) := hide (by rw [← HBL.out, HST.out, hte]; simp)
        clear hte HST
        go_wp2_with fail
        go_round
        case rel => exact ⟨k + 1, by omega, by go_num, HNX⟩
        case measure => simp [intOf]; omega
      | true =>
        have hneq : (t.itm.tag == []) = true := beq_iff_eq.2 (List.isEmpty_iff.1 hte)
        cases hne : t.itm.name.isEmpty with
        | true =>
          have hnn : (t.itm.name == []) = true := beq_iff_eq.2 (List.isEmpty_iff.1 hne)
          have HNX : Hid (blkL nm (l.drop (k + 1)) = blkL nm l) := hide (by rw [← HBL.out, HST.out, hte, hne]; simp)
          clear hte hne HST
          go_wp2_with fail
          go_round
          case rel => exact ⟨k + 1, by omega, by go_num, HNX⟩
          case measure => simp [intOf]; omega
        | false =>
          have hnn : (t.itm.name == []) = false := beq_eq_false_iff_ne.2 (fun e => by rw [e] at hne; simp at hne)
          cases hnm : t.itm.name == nm with
          | false =>
            have HNX : Hid (blkL nm (l.drop (k + 1)) = blkL nm l) := hide (by rw [← HBL.out, HST.out, hte, hne, hnm]; simp)
            clear hte hne HST
            go_wp2_with fail
            go_round
            case rel => exact ⟨k + 1, by omega, by go_num, HNX⟩
            case measure => simp [intOf]; omega
          | true =>
            have HNX : Hid (blkL nm l = some t.kids) := hide (by rw [← HBL.out, HST.out, hte, hne, hnm]; simp)
            clear hte hne HST
            go_wp2_with fail
            refine HCP.out.mono ?_
            rintro e w1 ⟨⟨qa, qc, rfl, hpt⟩, hb1⟩
            have R1 := hide (PT_rt _ _ _ (Nat.le_refl _) hpt)
            have B1 := hide hb1
            clear hb1 hpt
            go_wp2_with fail
            go_ret2
            rw [HNX.out]
            exact ⟨⟨qa, qc, rfl, R1.out⟩, B1.out⟩
    · have hk' : k = l.length := by omega
      subst hk'
      have HN : Hid (blkL nm l = none) := hide (by rw [← HBL.out, List.drop_length]; rfl)
      go_wp2_with fail
      go_ret2
      rw [HN.out]
      exact ⟨rfl, Below.refl _ _⟩
set_option maxRecDepth 100000 in
set_option maxHeartbeats 2000000 in
theorem dCount_any (l : List Tr) (v : Value) (w : World) (hD : wts l ≤ 1099511627776) (hv : RT w v l) :
    Calls Try.prog 13 #[v] w fun e w' => e = .returned (.int .i64 (cntL l : Int)) ∧ Below w.heap.size w w' := by
  have HF := hide (fields_any w _ l v w (Nat.le_refl _) hD hv (Below.refl _ _))
  have HL := hide (fls_len _ l (Nat.le_refl _))
  go_enter Try.func13, Try.ntmps13
  go_wp2_with fail
  refine HF.out.mono ?_
  rintro e w1 ⟨⟨qa, qc, V, rfl, _⟩, hb1⟩
  have B1 := hide hb1
  clear hb1
  rw [HL.out]
  go_wp2_with fail
  go_ret
  exact ⟨rfl, B1.out⟩
theorem find_none {p : Tr → Bool} {l : List Tr} (h : ∀ (j : Nat) (a : Tr), l[j]? = some a → p a = false) : l.find? p = none := by
  rw [List.find?_eq_none]
  intro x hx
  obtain ⟨j, hj⟩ := List.getElem?_of_mem hx
  rw [h j x hj]; decide
theorem find_at {p : Tr → Bool} : ∀ {l : List Tr} {k : Nat} {a : Tr}, l[k]? = some a → p a = true → (∀ (j : Nat) (b : Tr), j < k → l[j]? = some b → p b = false) → l.find? p = some a
  | x :: r, 0, a, h, hp, _ => by simp at h; subst h; rw [List.find?_cons, hp]
  | x :: r, k + 1, a, h, hp, hn => by
    rw [List.find?_cons, hn 0 x (by omega) rfl]
    exact find_at (k := k) (by simpa using h) hp (fun j b hj hb => hn (j + 1) b (by omega) (by simpa using hb))
set_option maxRecDepth 100000 in
set_option maxHeartbeats 4000000 in
theorem dFind_any (tag qual : List UInt8) (l : List Tr) (v : Value) (w : World) (hD : wts l ≤ 1099511627776) (hv : RT w v l) :
    Calls Try.prog 6 #[v, .string ⟨tag.toArray⟩, .string ⟨qual.toArray⟩] w fun e w' => FD w' e (fndL tag qual l) ∧ Below w.heap.size w w' := by
  have Y0 := hide (Ix.new w ⟨[], [], [], []⟩ (.slice none 0 0))
  have B0 := hide ((Below.refl w.heap.size w).alloc (Nat.le_refl _) (.cells (iC ⟨[], [], [], []⟩ (.slice none 0 0)) 26))
  have HF := hide (fields_any w _ l v (w.alloc (.cells (iC ⟨[], [], [], []⟩ (.slice none 0 0)) 26)) (Nat.le_refl _) hD hv B0.out)
  have HFN := hide (fls_find tag qual _ l (Nat.le_refl _))
  have HLN : Hid ((flsL l).length ≤ 1099511627776) := hide (by rw [fls_len _ l (Nat.le_refl _)]; have := cntL_le _ l (Nat.le_refl _); omega)
  have HWL : Hid (∀ t ∈ flsL l, wts t.kids ≤ 1099511627776) := hide (fun t ht => by have := fls_wts _ l (Nat.le_refl _) t ht; omega)
  generalize flsL l = F at *
  clear hv hD
  unfold iC at Y0 B0 HF
  dsimp only at Y0 B0 HF
  go_enter Try.func6, Try.ntmps6
  go_wp2_with fail
  refine HF.out.mono ?_
  rintro e W ⟨⟨qa, qc, V, rfl, hfq⟩, hb1⟩
  have HQ := hide hfq
  have B1 := hide (B0.out.trans (hb1.mono B0.out.size))
  have Y1 : Hid (Ix W w.heap.size ⟨[], [], [], []⟩ (.slice none 0 0)) := hide ((hb1.block w.heap.size (by simp)).trans Y0.out)
  have hfl := HLN.out
  clear hb1 hfq HF
  go_wp2_with fail
  go_loop [9] (fun n => ∃ k : Nat, k ≤ F.length ∧ n = .int .i64 (k : Int) ∧ Hid (∀ j b, j < k → F[j]? = some b → (b.itm.tag == tag && b.itm.qual == qual) = false)) (fun n => F.length - (intOf n).toNat)
  case atStart => exact ⟨0, Nat.zero_le _, rfl, hide (fun j b h => by omega)⟩
  case round =>
    obtain ⟨k, hk, rfl, HNO⟩ := hrel
    by_cases hlt : k < F.length
    · obtain ⟨t, ht⟩ : ∃ t, F[k]? = some t := ⟨_, List.getElem?_eq_getElem hlt⟩
      obtain ⟨u, hu⟩ : ∃ u, V[k]? = some u := ⟨_, List.getElem?_eq_getElem (by rw [HQ.out.len]; exact hlt)⟩
      obtain ⟨g, c, hv, _, _⟩ : ∃ g cap, Value.slice qa F.length qc = .slice (some ⟨g, 0, none⟩) F.length cap ∧ True ∧ True := by
        rcases HQ.out.row.2 with ⟨_, h0⟩ | ⟨g, cap, cur, hv, _⟩
        · omega
        · exact ⟨g, cap, hv, trivial, trivial⟩
      injection hv with e1 _ e3
      subst e1; subst e3
      have hkn : (k : Int) < (F.length : Int) := by omega
      have hk0 : (0 : Int) ≤ (k : Int) := by omega
      obtain ⟨d0, d1, d2, d3, d4⟩ := ic_at F V k t u ht hu
      have hcc := fun j x hj => World.ownsRow.cells HQ.out.row rfl j x hj
      have c0 := hcc _ _ d0
      have c1 := hcc _ _ d1
      have c2 := hcc _ _ d2
      have c3 := hcc _ _ d3
      have c4 := hcc _ _ d4
      rw [Addr.add_lit, Nat.zero_add] at c0 c1 c2 c3 c4
      obtain ⟨ka, kcap, rfl, hkr⟩ := HQ.out.kids k t u ht hu
      have HTK := hide ht
      clear d0 d1 d2 d3 d4 hcc hu
      have nxt : (t.itm.tag == tag && t.itm.qual == qual) = false → Hid (∀ j b, j < k + 1 → F[j]? = some b → (b.itm.tag == tag && b.itm.qual == qual) = false) := fun hf => hide (fun j b hj hb => by
        by_cases e : j = k
        · subst e; rw [HTK.out] at hb; cases hb; exact hf
        · exact HNO.out j b (by omega) hb)
      cases htg : t.itm.tag == tag with
      | false =>
        have HNX := nxt (by rw [htg]; rfl)
        clear nxt ht hkr
        go_wp2_with fail
        go_round
        case rel => exact ⟨k + 1, by omega, by go_num, HNX⟩
        case measure => simp [intOf]; omega
      | true =>
        cases hql : t.itm.qual == qual with
        | false =>
          have HNX := nxt (by rw [htg, hql]; rfl)
          clear nxt ht hkr
          go_wp2_with fail
          go_round
          case rel => exact ⟨k + 1, by omega, by go_num, HNX⟩
          case measure => simp [intOf]; omega
        | true =>
          have HFD : Hid (fndL tag qual l = some t) := hide (by rw [← HFN.out]; exact find_at HTK.out (by rw [htg, hql]; rfl) HNO.out)
          have HRG : Hid (W.rangeAt g (k * 5) (iC t.itm (.slice ka t.kids.length kcap)).toList) := hide (fun j x hj => by
            unfold iC at hj
            match j, hj with
            | 0, hj => simp at hj; subst hj; exact c0
            | 1, hj => simp at hj; subst hj; exact c1
            | 2, hj => simp at hj; subst hj; exact c2
            | 3, hj => simp at hj; subst hj; exact c3
            | 4, hj => simp at hj; subst hj; exact c4)
          have HKW : Hid (RT W (.slice ka t.kids.length kcap) t.kids) := hide (RT_later ⟨ka, kcap, rfl, hkr⟩ B1.out)
          have HCI := hide (copyItem_of t.itm t.kids ka kcap W (fun W' hW' => copies t.kids ka kcap W' (HWL.out t (List.mem_of_getElem? HTK.out)) (RT_later HKW.out hW')))
          have HWS : Hid (w.heap.size < W.heap.size) := hide Y1.out.lt
          clear nxt ht hkr
          go_wp2_with (refine wpList_load_mid rfl 26 _ rfl g (k * 5) rfl (iC t.itm (.slice ka t.kids.length kcap)).toList _ HRG.out Try.underlying26 rfl Try.sizeItm ?_)
          refine HCI.out.mono ?_
          rintro e w3 ⟨⟨xa, xc, rfl, hpt⟩, hb3⟩
          have B3 := hide (B1.out.trans (hb3.mono B1.out.size))
          have Y3 := hide (Y1.out.later hb3)
          have HP3 := hide hpt
          clear hb3 hpt
          go_wp2_with (refine wpList_store_row rfl 26 (.tmp 6) _ rfl w.heap.size (iC t.itm (.slice xa t.kids.length xc)) rfl rfl _ _ Y3.out Try.sizeItm rfl (iC_one _ _ _ _) ?_)
          (try simp only [Exit.inBlock, Exit.then])
          refine bodyPost_ret (v := .tuple #[.agg (iC t.itm (.slice xa t.kids.length xc)), .bool true]) ?_ rfl ⟨by rw [HFD.out]; exact ⟨xa, xc, rfl, PT_rt _ _ _ (Nat.le_refl _) (PT_kept (w := w3) (S' := fun _ => True) (fun g hg _ => setRow_otherk _ _ _ _ (by have := HWS.out; omega)) (by rw [size_setRow]; exact Nat.le_refl _) (fun _ _ _ => trivial) _ _ _ (Nat.le_refl _) HP3.out)⟩, below_setRow B3.out (Nat.le_refl _) _⟩
          exact ret_cell_tmp rfl _ _ w.heap.size 26 (iC t.itm (.slice xa t.kids.length xc)) (0, 0) _ _ rfl rfl (setRow_heap _ _ _ _ _ _ Y3.out) Try.underlying26 rfl Try.sizeItm
    · have hk' : k = F.length := by omega
      subst hk'
      have HFD : Hid (fndL tag qual l = none) := hide (by rw [← HFN.out]; exact find_none (fun j b hb => HNO.out j b (List.getElem?_eq_some_iff.1 hb).1 hb))
      go_wp2_with (refine wpList_store_row rfl 26 (.tmp 6) _ rfl w.heap.size (iC ⟨[], [], [], []⟩ (.slice none 0 0)) rfl rfl _ _ Y1.out Try.sizeItm rfl (iC_one _ _ _ _) ?_)
      (try simp only [Exit.inBlock, Exit.then])
      refine bodyPost_ret (v := .tuple #[.agg (iC ⟨[], [], [], []⟩ (.slice none 0 0)), .bool false]) ?_ rfl ⟨by rw [HFD.out]; rfl, below_setRow B1.out (Nat.le_refl _) _⟩
      exact ret_cell_tmp rfl _ _ w.heap.size 26 (iC ⟨[], [], [], []⟩ (.slice none 0 0)) (0, 0) _ _ rfl rfl (setRow_heap _ _ _ _ _ _ Y1.out) Try.underlying26 rfl Try.sizeItm
end Go.Proofs.Ytklhbhhkooddoaa
