/-
  My own text: layer 23: two answers' lists, in turns, each with memory of its own.
-/
import Derived.Test.YtcdhblfefpkjgaaDoorLVQ
import Derived.Test.YtcdhblfefpkjgaaDoorLVK
namespace Go.Proofs.YtcdhblfefpkjgaaDoor
open Go.RowKit

/-- The rows of both, in turns. -/
def alT (TA TB : List (Value × List Int)) (k : Nat) : List Value := (List.range k).flatMap fun i => [((TA[i]?).map (·.1)).getD (.bool false), ((TB[i]?).map (·.1)).getD (.bool false)]
theorem alT_zero (TA TB : List (Value × List Int)) : alT TA TB 0 = [] := rfl
theorem alT_succ {TA TB : List (Value × List Int)} {k : Nat} {u v : Value × List Int} (hu : TA[k]? = some u) (hv : TB[k]? = some v) : alT TA TB (k + 1) = alT TA TB k ++ [u.1, v.1] := by
  unfold alT
  rw [List.range_succ, List.flatMap_append]
  simp [hu, hv]
theorem alT_len (TA TB : List (Value × List Int)) (k : Nat) : (alT TA TB k).length = 2 * k := by
  induction k with
  | zero => rfl
  | succ k ih =>
    unfold alT at ih ⊢
    rw [List.range_succ, List.flatMap_append, List.length_append, ih]; simp; omega
def zT (TA TB : List (Value × List Int)) (k : Nat) : Value × List Int := if k % 2 = 0 then (TA[k / 2]?).getD (.bool false, []) else (TB[k / 2]?).getD (.bool false, [])
theorem zT_ev {TA TB : List (Value × List Int)} {i : Nat} {u : Value × List Int} (h : TA[i]? = some u) : zT TA TB (2 * i) = u := by
  unfold zT; rw [if_pos (by omega), show 2 * i / 2 = i by omega, h]; rfl
theorem zT_od {TA TB : List (Value × List Int)} {i : Nat} {u : Value × List Int} (h : TB[i]? = some u) : zT TA TB (2 * i + 1) = u := by
  unfold zT; rw [if_neg (by omega), show (2 * i + 1) / 2 = i by omega, h]; rfl
theorem zT_cases {TA TB : List (Value × List Int)} {m k : Nat} (hA : TA.length = m) (hB : TB.length = m) (hk : k < 2 * m) : (∃ i u, k = 2 * i ∧ TA[i]? = some u ∧ zT TA TB k = u) ∨ (∃ i u, k = 2 * i + 1 ∧ TB[i]? = some u ∧ zT TA TB k = u) := by
  rcases Nat.mod_two_eq_zero_or_one k with h | h
  · refine .inl ⟨k / 2, _, by omega, List.getElem?_eq_getElem (by omega), ?_⟩
    conv => lhs; rw [show k = 2 * (k / 2) by omega]
    exact zT_ev (List.getElem?_eq_getElem (by omega))
  · refine .inr ⟨k / 2, _, by omega, List.getElem?_eq_getElem (by omega), ?_⟩
    conv => lhs; rw [show k = 2 * (k / 2) + 1 by omega]
    exact zT_od (List.getElem?_eq_getElem (by omega))
theorem alT_at {TA TB : List (Value × List Int)} : ∀ {m : Nat}, m ≤ TA.length → m ≤ TB.length → ∀ {k : Nat}, k < 2 * m → (alT TA TB m)[k]? = some (zT TA TB k).1
  | 0, _, _, _, h => absurd h (Nat.not_lt_zero _)
  | m + 1, hA, hB, k, hk => by
    have h1 := List.getElem?_eq_getElem (by omega : m < TA.length)
    have h2 := List.getElem?_eq_getElem (by omega : m < TB.length)
    rw [alT_succ h1 h2]
    have hl := alT_len TA TB m
    by_cases q : k < 2 * m
    · rw [List.getElem?_append_left (by omega)]
      exact alT_at (by omega) (by omega) q
    · rw [List.getElem?_append_right (by omega), hl]
      rcases (by omega : k = 2 * m ∨ k = 2 * m + 1) with e | e
      · subst e; rw [Nat.sub_self, zT_ev h1]; rfl
      · subst e; rw [show 2 * m + 1 - 2 * m = 1 by omega, zT_od h2]; rfl
def sAd : Value → Option Addr
  | .slice a _ _ => a
  | _ => none
def sCp : Value → Nat
  | .slice _ _ c => c
  | _ => 0
theorem sl_parts {w : World} {B : Nat} {u : Value × List Int} (h : IN.OM w B u.1 u.2) : u.1 = .slice (sAd u.1) u.2.length (sCp u.1) := by
  obtain ⟨a, c, e⟩ := IN.OM.slice h
  rw [e]; rfl
/-- All rows of both answers lie apart in a row of rows. -/
theorem all_of {w : World} {B C D L n cL m : Nat} {va vb : Value} {TA TB : List (Value × List Int)} (hA : RW w B va TA) (hB : RW w C vb TB) (hBC : B ≤ C) (hm : TA.length = m) (hm2 : TB.length = m)
    (hlow : ∀ u ∈ TA, ∀ g, u.1.ownBlock = some g → g < C) (ho : w.ownsRow D 41 1 (.slice (some ⟨L, 0, none⟩) n cL) (alT TA TB m).length (alT TA TB m)) :
    IN.AllB w B L (2 * m) (fun k => sAd (zT TA TB k).1) (fun k => (zT TA TB k).2.length) (fun k => sCp (zT TA TB k).1) (fun k => (zT TA TB k).2) := by
  have own : ∀ k, k < 2 * m → IN.OM w B (zT TA TB k).1 (zT TA TB k).2 := fun k hk => by
    rcases zT_cases hm hm2 hk with ⟨i, u, _, hu, e⟩ | ⟨i, u, _, hu, e⟩
    · rw [e]; exact hA.own u (List.mem_of_getElem? hu)
    · rw [e]; exact owns_low (hB.own u (List.mem_of_getElem? hu)) hBC
  refine ⟨(World.ownsRow.lt ho L rfl).2, fun k hk => ?_, fun k hk => ?_, fun k hk => ?_, fun j k g hj hk h1 h2 => ?_⟩
  · rw [← sl_parts (own k hk)]
    exact own_at ho (alT_at (by omega) (by omega) hk)
  · rw [← sl_parts (own k hk)]; exact own k hk
  · rw [← sl_parts (own k hk)]
    intro e
    obtain ⟨_, c1, f1, h1⟩ := okind ho L rfl
    obtain ⟨_, c2, f2, h2⟩ := okind (own k hk) L e
    rw [h1] at h2
    injection h2 with h2
    injection h2 with _ h2 _
    exact absurd h2 (by decide)
  · rw [← sl_parts (own j hj)] at h1
    rw [← sl_parts (own k hk)] at h2
    rcases zT_cases hm hm2 hj with ⟨i, u, ei, hu, e⟩ | ⟨i, u, ei, hu, e⟩ <;> rcases zT_cases hm hm2 hk with ⟨i', u', ei', hu', e'⟩ | ⟨i', u', ei', hu', e'⟩
    · rw [e] at h1; rw [e'] at h2
      have := hA.ap i i' u u' g hu hu' h1 h2; omega
    · rw [e] at h1; rw [e'] at h2
      have a := hlow u (List.mem_of_getElem? hu) g h1
      have b := (World.ownsRow.lt (hB.own u' (List.mem_of_getElem? hu')) g h2).1
      omega
    · rw [e] at h1; rw [e'] at h2
      have a := hlow u' (List.mem_of_getElem? hu') g h2
      have b := (World.ownsRow.lt (hB.own u (List.mem_of_getElem? hu)) g h1).1
      omega
    · rw [e] at h1; rw [e'] at h2
      have := hB.ap i i' u u' g hu hu' h1 h2; omega
theorem zT_few {w : World} {B C : Nat} {va vb : Value} {TA TB : List (Value × List Int)} (hA : RW w B va TA) (hB : RW w C vb TB) (k : Nat) : (zT TA TB k).2.length ≤ 4096 := by
  unfold zT
  split
  · cases h : TA[k / 2]? with
    | none => exact Nat.zero_le _
    | some u => exact hA.len u (List.mem_of_getElem? h)
  · cases h : TB[k / 2]? with
    | none => exact Nat.zero_le _
    | some u => exact hB.len u (List.mem_of_getElem? h)
/-- The outer rows stay as they are. -/
theorem o2_of {w0 w w' : World} {B C K : Nat} {va vb : Value} {TA TB : List (Value × List Int)} {av : Nat → Option Addr} {n c : Nat → Nat} {r : Nat → List Int} (hA : RW w B va TA) (hB : RW w C vb TB) (hBC : B ≤ C) (hlow : ∀ g, va.ownBlock = some g → g < C)
    (hown : ∀ k, k < K → IN.OM w B (.slice (av k) (n k) (c k)) (r k)) (hs : Sp K av n c w w') (hb : Below B w0 w) (hbs : B ≤ w.heap.size) :
    O2 B w0 w' va vb (TA.map (·.1)) (TB.map (·.1)) (PQ fA 77 0 0) (PQ fB (-77) 0 0) := by
  have keep : ∀ {D : Nat} {v : Value} {k : Nat} {xs : List Value}, w.ownsRow D 41 1 v k xs → w'.ownsRow D 41 1 v k xs := fun {D v k xs} h => owns_blk h fun g hg => hs.block g (World.ownsRow.lt h g hg).2 fun k hk e => by
    obtain ⟨_, c1, f1, h1⟩ := okind h g hg
    obtain ⟨_, c2, f2, h2⟩ := okind (hown k hk) g e
    rw [h1] at h2
    injection h2 with h2
    injection h2 with _ h2 _
    exact absurd h2 (by decide)
  refine ⟨by rw [List.length_map]; exact keep hA.row, by rw [List.length_map]; exact keep (owns_low hB.row hBC), fun g h1 h2 => ?_, fun i x e => ?_, fun i x e => ?_, ?_, Nat.le_trans hbs hs.size⟩
  · have a := hlow g h1
    have b := (World.ownsRow.lt hB.row g h2).1
    omega
  · rw [PQ_zero] at e; cases e
  · rw [PQ_zero] at e; cases e
  · refine hb.trans ⟨hs.os, hs.tape, hs.output, hs.size, fun q hq => hs.block q (Nat.lt_of_lt_of_le hq hbs) fun k hk e => ?_⟩
    have := (World.ownsRow.lt (hown k hk) q e).1
    omega
end Go.Proofs.YtcdhblfefpkjgaaDoor
