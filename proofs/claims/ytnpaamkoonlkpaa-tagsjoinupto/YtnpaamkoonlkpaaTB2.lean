/-
  My own text: a text of a field, out of any bytes (printed by mktb2.py).
-/
import Derived.Test.YtnpaamkoonlkpaaTB1
import Derived.Test.YtnpaamkoonlkpaaQ5
import Derived.Test.YtnpaamkoonlkpaaQF
namespace Go.Proofs.Ytnpaamkoonlkpaa
open Go.RowKit

theorem Try.infoY : (Try.prog.info? 5).map (fun i => (i.zero, i.size, i.bytes)) = some (some (.int .u8 0), 1, 1) := by kernel_rfl
def yv (l : List UInt8) : List Value := l.map fun c => Value.int .u8 (c.toNat : Int)
theorem yv_len (l : List UInt8) : (yv l).length = l.length := by simp [yv]
theorem yv_snoc (l : List UInt8) (c : UInt8) : yv (l ++ [c]) = yv l ++ [.int .u8 (c.toNat : Int)] := by simp [yv]
theorem yv_at {l : List UInt8} {j : Nat} {c : UInt8} (h : l[j]? = some c) : (yv l)[j]? = some (.int .u8 (c.toNat : Int)) := by
  unfold yv; rw [List.getElem?_map, h]; rfl
theorem yv_set (l : List UInt8) (j : Nat) (c : UInt8) : (yv l).set j (.int .u8 (c.toNat : Int)) = yv (l.set j c) := by
  unfold yv; rw [List.map_set]
/-- A row of bytes of the call's own. -/
def Yr (w : World) (B : Nat) (v : Value) (n : Nat) (O : List UInt8) : Prop := w.ownsRow B 5 1 v n (yv O) ∧ O.length = n
theorem Yr.nil (w : World) (B : Nat) : Yr w B (.slice none 0 0) 0 [] := ⟨World.ownsRow_nil _ _ _ _, rfl⟩
theorem Yr.val {w : World} {B : Nat} {v : Value} {n : Nat} {O : List UInt8} (h : Yr w B v n O) : ∃ a cap, v = .slice a n cap ∧ (0 < n → ∃ g, a = some ⟨g, 0, none⟩ ∧ B ≤ g ∧ g < w.heap.size ∧ (∀ j c, O[j]? = some c → w.cell? ⟨g, j, none⟩ = some (.int .u8 (c.toNat : Int))) ∧ (∀ j, w.frozen? ⟨g, j, none⟩ = false)) := by
  rcases h.1.2 with ⟨rfl, h0⟩ | ⟨g, cap, cur, rfl, hb, hh, hn2, hn3⟩
  · exact ⟨none, 0, by rw [h0], fun hp => by omega⟩
  · refine ⟨_, cap, rfl, fun _ => ⟨g, rfl, hb, (Array.getElem?_eq_some_iff.1 hh).1, fun j c hj => ?_, fun j => frozen_of_row _ _ _ _ _ hh⟩⟩
    have := World.ownsRow.cells h.1 rfl j _ (yv_at hj)
    rw [Addr.add_lit, Nat.zero_add] at this; exact this
theorem Yr.later {w w' : World} {B : Nat} {v : Value} {n : Nat} {O : List UInt8} (h : Yr w B v n O) (hb : Below w.heap.size w w') : Yr w' B v n O := ⟨owns_blkq h.1 (fun g hg => hb.block g (own_ltq h.1 g hg).2), h.2⟩
theorem Yr.set {w : World} {B g : Nat} {n cap : Nat} {O : List UInt8} (h : Yr w B (.slice (some ⟨g, 0, none⟩) n cap) n O) (j : Nat) (c : UInt8) : Yr (w.setCell ⟨g, j, none⟩ (.int .u8 (c.toNat : Int))) B (.slice (some ⟨g, 0, none⟩) n cap) n (O.set j c) := by
  refine ⟨?_, by rw [List.length_set]; exact h.2⟩
  rw [← yv_set]
  exact own_set h.1 rfl j _
/-- A byte behind a row of bytes. -/
theorem wp_append_y {w : World} {ops : Array Oper} {rest : List Oper} {o : Oper} {a : Act} {Q : Exit → Act → World → Prop} (hgd : o.guard = none) (s x : Operand)
    (ho : o.op = .call { callee := .builtin .append, args := #[s, x], argTypes := #[43, 43] }) (B : Nat) (v : Value) (n : Nat) (O : List UInt8) (c : UInt8) (b : Nat) (hs : a.eval s = v) (hx : a.eval x = .slice (some ⟨b, 0, none⟩) 1 1)
    (hown : Yr w B v n O) (hc : w.cell? ⟨b, 0, none⟩ = some (.int .u8 (c.toNat : Int))) (hB : B ≤ w.heap.size) (hsz : n ≤ 1000)
    (h : ∀ v' w', Yr w' B v' (n + 1) (O ++ [c]) → w.grownBy w' v.ownBlock → (∀ g, v.ownBlock = some g → B ≤ g) → wpList Try.prog ops Q rest (a.put o.dst v') w') : wpList Try.prog ops Q (o :: rest) a w := by
  obtain ⟨i0, hi, hz0, hz1, hz2⟩ := info_parts Try.infoY
  refine wpList_append_own _ hgd s x 43 ho B 5 i0 (.int .u8 0) 1 1 Try.underlying43 hi hz0 hz1 hz2 rfl (by decide) _ _ _ hs hown.1 ⟨b, 0, none⟩ 1 1 [.int .u8 (c.toNat : Int)] hx rfl (fun j u hj => ?_) (fun u hu => ?_) (by unfold maxLen; omega) (by omega) hB ?_
  · match j, hj with
    | 0, hj => simp at hj; subst hj; simpa [Addr.add] using hc
  · simp at hu; subst hu; rfl
  · intro v' w1 hown' hgrow _
    exact h v' w1 ⟨by rw [yv_snoc]; exact hown', by simp [hown.2]⟩ hgrow (fun g hg => (own_ltq hown.1 g hg).1)
def s73 : List UInt8 := [65, 66, 67, 68, 69, 70, 71, 72, 73, 74, 75, 76, 77, 78, 79, 80, 81, 82, 83, 84, 85, 86, 87, 88, 89, 90, 97, 98, 99, 100, 101, 102, 103, 104, 105, 106, 107, 108, 109, 110, 111, 112, 113, 114, 115, 116, 117, 118, 119, 120, 121, 122, 48, 49, 50, 51, 52, 53, 54, 55, 56, 57, 32, 47, 45, 63, 58, 40, 41, 46, 44, 39, 43]
theorem s73_in : s73.all inS = true := by decide
/-- No line behind the first is empty. -/
def f2 (O : List UInt8) (j : Nat) : UInt8 := if O.getD j 0 = 10 ∧ (j + 1 = O.length ∨ O.getD (j + 1) 0 = 10) then 121 else O.getD j 0
def F2 (O : List UInt8) (k : Nat) : List UInt8 := (List.range k).map (f2 O)
/-- No line behind the first begins with a colon or a dash. -/
def f3 (F : List UInt8) (j : Nat) : UInt8 := if 0 < j ∧ F.getD (j - 1) 0 = 10 ∧ (F.getD j 0 = 58 ∨ F.getD j 0 = 45) then 122 else F.getD j 0
def F3 (F : List UInt8) (k : Nat) : List UInt8 := (List.range F.length).map fun j => if j < k then f3 F j else F.getD j 0
theorem F2_succ (O : List UInt8) (k : Nat) : F2 O (k + 1) = F2 O k ++ [f2 O k] := by unfold F2; rw [List.range_succ]; simp
theorem F2_len (O : List UInt8) (k : Nat) : (F2 O k).length = k := by simp [F2]
theorem F2_at {O : List UInt8} {k j : Nat} (h : j < k) : (F2 O k).getD j 0 = f2 O j := by
  rw [getD_at (by rw [F2_len]; exact h)]; simp [F2]
theorem F3_len (F : List UInt8) (k : Nat) : (F3 F k).length = F.length := by simp [F3]
theorem F3_at {F : List UInt8} {k j : Nat} (h : j < F.length) : (F3 F k).getD j 0 = if j < k then f3 F j else F.getD j 0 := by
  rw [getD_at (by rw [F3_len]; exact h)]; simp [F3]
theorem getD_some {l : List UInt8} {j : Nat} (h : j < l.length) : l[j]? = some (l.getD j 0) := by rw [getD_at h, List.getElem?_eq_getElem h]
theorem F3_zero (F : List UInt8) : F3 F 0 = F := by
  apply List.ext_getElem (F3_len F 0)
  intro j h1 h2
  have := F3_at (k := 0) h2
  rw [getD_at h1, if_neg (by omega), getD_at h2] at this; exact this
theorem F3_succ (F : List UInt8) (k : Nat) : F3 F (k + 1) = (F3 F k).set k (f3 F k) := by
  apply List.ext_getElem (by rw [List.length_set, F3_len, F3_len])
  intro j h1 h2
  have hj : j < F.length := by rw [F3_len] at h1; exact h1
  have e1 := F3_at (k := k + 1) hj
  have e2 := F3_at (k := k) hj
  rw [getD_at h1] at e1
  rw [getD_at (by rw [F3_len]; exact hj)] at e2
  rw [e1, List.getElem_set]
  by_cases hjk : k = j
  · subst hjk; simp
  · rw [if_neg hjk, e2]
    by_cases hlt : j < k
    · rw [if_pos (by omega), if_pos hlt]
    · rw [if_neg (by omega), if_neg hlt]
theorem F3_keep {F : List UInt8} {k : Nat} (hk : k < F.length) (h : f3 F k = F.getD k 0) : F3 F (k + 1) = F3 F k := by
  rw [F3_succ, h]
  apply List.ext_getElem (by simp)
  intro j h1 h2
  rw [List.getElem_set]
  split
  · rename_i e
    subst e
    have := F3_at (k := k) hk
    rw [getD_at h2, if_neg (by omega)] at this; exact this.symm
  · rfl
theorem f3_ten (F : List UInt8) (j : Nat) : (f3 F j = 10) = (F.getD j 0 = 10) := by
  unfold f3
  split
  · rename_i h
    apply propext
    constructor
    · intro e; exact absurd e (by decide)
    · intro e; rcases h.2.2 with h2 | h2 <;> rw [e] at h2 <;> exact absurd h2 (by decide)
  · rfl
theorem F2_tx {O : List UInt8} (h : txB O = true) : txB (F2 O O.length) = true := txB_yes (fun j hj => by
  rw [F2_len] at hj
  rw [F2_at hj]
  unfold f2
  split
  · decide
  · exact all_getD (p := fun c => inS c || c == 10) h hj)
theorem F3_tx {F : List UInt8} (h : txB F = true) : txB (F3 F F.length) = true := txB_yes (fun j hj => by
  rw [F3_len] at hj
  rw [F3_at hj, if_pos hj]
  unfold f3
  split
  · decide
  · exact all_getD (p := fun c => inS c || c == 10) h hj)
theorem F3_nl (O : List UInt8) : nlB (F3 (F2 O O.length) O.length) = false := nlB_no (fun j hj => by
  have hl : (F2 O O.length).length = O.length := F2_len _ _
  rw [F3_len, hl] at hj
  have hX : ∀ i, i < O.length → (F3 (F2 O O.length) O.length).getD i 0 = f3 (F2 O O.length) i := fun i hi => by rw [F3_at (by rw [hl]; exact hi), if_pos hi]
  unfold badAt
  rw [hX j hj, F3_len, hl]
  by_cases hten : f3 (F2 O O.length) j = 10
  · have h2 : f2 O j = 10 := by rw [f3_ten, F2_at hj] at hten; exact hten
    have h3 : O.getD j 0 = 10 ∧ ¬ (j + 1 = O.length ∨ O.getD (j + 1) 0 = 10) := by
      unfold f2 at h2
      split at h2
      · exact absurd h2 (by decide)
      · rename_i hn
        exact ⟨h2, fun e => hn ⟨h2, e⟩⟩
    have hj1 : j + 1 < O.length := by have := h3.2; omega
    have hn10 : O.getD (j + 1) 0 ≠ 10 := fun e => h3.2 (.inr e)
    have hF1 : (F2 O O.length).getD (j + 1) 0 = O.getD (j + 1) 0 := by
      rw [F2_at hj1]; unfold f2; rw [if_neg (fun e => hn10 e.1)]
    have hF0 : (F2 O O.length).getD j 0 = 10 := by rw [F2_at hj]; exact h2
    have hx : f3 (F2 O O.length) (j + 1) ≠ 10 ∧ f3 (F2 O O.length) (j + 1) ≠ 58 ∧ f3 (F2 O O.length) (j + 1) ≠ 45 := by
      unfold f3
      rw [hF1, show j + 1 - 1 = j by omega, hF0]
      split
      · decide
      · rename_i hn
        refine ⟨hn10, fun e => hn ⟨by omega, rfl, .inl e⟩, fun e => hn ⟨by omega, rfl, .inr e⟩⟩
    rw [hX (j + 1) hj1, decide_eq_false (by omega), beq_eq_false_iff_ne.2 hx.1, beq_eq_false_iff_ne.2 hx.2.1, beq_eq_false_iff_ne.2 hx.2.2]
    simp
  · rw [beq_eq_false_iff_ne.2 hten]; rfl)
/-- Another first byte. -/
theorem set0_tx {X : List UInt8} (h : txB X = true) : txB (X.set 0 120) = true := by
  cases X with
  | nil => exact h
  | cons a r =>
    unfold txB at h ⊢
    simp only [List.set_cons_zero, List.all_cons, Bool.and_eq_true] at h ⊢
    exact ⟨by decide, h.2⟩
theorem set0_nl {X : List UInt8} (h : nlB X = false) : nlB (X.set 0 120) = false := by
  cases X with
  | nil => exact h
  | cons a r =>
    simp only [List.set_cons_zero]
    exact nlB_no (fun j hj => by
      cases j with
      | zero => unfold badAt; rfl
      | succ j =>
        have := nlB_out h (j := j + 1) (by simpa using hj)
        unfold badAt at this ⊢
        simpa using this)
theorem set0_hd {X : List UInt8} (h : 0 < X.length) : hdB (X.set 0 120) = false := by
  cases X with
  | nil => simp at h
  | cons a r => rfl
end Go.Proofs.Ytnpaamkoonlkpaa
