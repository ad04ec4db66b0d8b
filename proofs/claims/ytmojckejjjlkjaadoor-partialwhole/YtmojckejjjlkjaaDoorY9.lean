/-
  My own text: the parts as one list of numbers.
-/
import Derived.Test.YtmojckejjjlkjaaDoorY8
import Derived.Test.YtmojckejjjlkjaaDoorGIS
import Derived.Test.YtmojckejjjlkjaaDoorVQ
import Derived.Maps.AppendAt
namespace Go.Proofs.YtmojckejjjlkjaaDoor
open Go.RowKit

/-- Pairs as one list. -/
def flat : List (Int × Int) → List Int
  | [] => []
  | p :: t => p.1 :: p.2 :: flat t
theorem flat_app (a b : List (Int × Int)) : flat (a ++ b) = flat a ++ flat b := by
  induction a with
  | nil => rfl
  | cons p t ih => show _ :: _ :: flat (t ++ b) = _; rw [ih]; rfl
theorem flat_len (a : List (Int × Int)) : (flat a).length = a.length * 2 := by
  induction a with
  | nil => rfl
  | cons p t ih => show (flat t).length + 1 + 1 = (t.length + 1) * 2; rw [ih]; omega
theorem flat_take {l : List (Int × Int)} {k : Nat} {p : Int × Int} (h : l[k]? = some p) : flat (l.take (k + 1)) = flat (l.take k) ++ [p.1, p.2] := by
  rw [List.take_add_one, h, flat_app]; rfl
theorem two_news {w : World} {b : Nat} {x y : Value} (h0 : w.cell? ⟨b, 0, none⟩ = some x) (h1 : w.cell? ⟨b, 1, none⟩ = some y) : ∀ (j : Nat) (u : Value), ([x, y] : List Value)[j]? = some u → w.cell? ((⟨b, 0, none⟩ : Addr).add j) = some u := by
  intro j u hj
  match j, hj with
  | 0, hj => simp at hj; subst hj; simpa [Addr.add] using h0
  | 1, hj => simp at hj; subst hj; simpa [Addr.add] using h1
theorem two_one (x y : Int) : ∀ u ∈ ([.int .i64 x, .int .i64 y] : List Value), u.oneCell' = true := by
  intro u hu; simp at hu; rcases hu with rfl | rfl <;> rfl
set_option maxRecDepth 100000 in
set_option maxHeartbeats 1000000 in
theorem moneys_any (v : Value) (L : List (Int × Int)) (w : World) (h : TL.RM w v L) (hl : L.length ≤ 8796093022000) :
    Calls Tryd.prog 37 #[v] w fun e w' => ∃ v', e = .returned v' ∧ LN.OM w' w.heap.size v' (flat L) ∧ Below w.heap.size w w' := by
  obtain ⟨a, cap, rfl, hcap, hc⟩ := h
  have HC := hide hc
  have HL := hide hl
  obtain ⟨i0, hi, hz0, hz1, hz2⟩ := info_parts LN.Tryd.infoB
  have HI := hide (And.intro hi (And.intro hz0 (And.intro hz1 hz2)))
  clear hc hl hi hz0 hz1 hz2 hcap
  go_enter Tryd.func37, Tryd.ntmps37
  go_wp2_with fail
  go_loopw [3, 4] (fun ov i wr => ∃ (k : Nat) (oa : Option Addr) (oc : Nat), k ≤ L.length ∧ i = .int .i64 (k : Int) ∧ ov = .slice oa (flat (L.take k)).length oc ∧ Hid (LN.OM wr w.heap.size (.slice oa (flat (L.take k)).length oc) (flat (L.take k))) ∧ Hid (Below w.heap.size w wr)) (fun _ i _ => L.length - (intOf i).toNat)
  case atStart => exact ⟨0, none, 0, Nat.zero_le _, rfl, rfl, hide (LN.OM.nil _ _), hide (Below.refl _ _)⟩
  case round =>
    obtain ⟨k, oa, oc, hk, rfl, rfl, HO, HW⟩ := hrel
    by_cases hlt : k < L.length
    · obtain ⟨⟨x, y⟩, hp⟩ : ∃ p, L[k]? = some p := ⟨_, List.getElem?_eq_getElem hlt⟩
      obtain ⟨b, off, rfl, hbl, hcc⟩ := HC.out.resolve_left (fun h => by rw [h] at hlt; simp at hlt)
      have HCC : Hid (∀ W, Below w.heap.size w W → W.cell? ⟨b, off + k * 2, none⟩ = some (.int .i64 x) ∧ W.cell? ⟨b, off + k * 2 + 1, none⟩ = some (.int .i64 y)) := hide (fun W hb => ⟨(hb.cell (p := ⟨b, _, none⟩) hbl).trans (hcc k _ hp).1, (hb.cell (p := ⟨b, _, none⟩) hbl).trans (hcc k _ hp).2⟩)
      have HFT := hide (flat_take hp)
      have hd1 : decide ((k : Int) < (L.length : Int)) = true := by rw [decide_eq_true_eq]; omega
      have k0 : (0 : Int) ≤ (k : Int) := by omega
      have k1 : (k : Int) < (L.length : Int) := by omega
      have wk : wrap64 ((k : Int) + 1) = (k : Int) + 1 := by have := HL.out; unfold wrap64; omega
      have HLN : Hid ((flat (L.take k)).length + 2 ≤ maxLen ∧ ((flat (L.take k)).length + 2) * 8 ≤ 140737488355328) := hide (by
        have := HL.out
        rw [flat_len, List.length_take, Nat.min_eq_left (by omega)]
        unfold maxLen; omega)
      have HK := hide (And.intro hlt hk)
      clear hp hcc hbl hlt hk
      go_wp2_with fail
      obtain ⟨D, hD⟩ : ∃ D, World.drew wr = D := ⟨_, rfl⟩
      have HBD : Hid (Below w.heap.size w D) := hide (by rw [← hD]; exact HW.out.drew)
      have HOD : Hid (LN.OM D w.heap.size (.slice oa (flat (L.take k)).length oc) (flat (L.take k))) := hide (by rw [← hD]; exact HO.out.later ((Below.refl _ _).drew))
      refine z_begins (S := fun W : World => W.cell? ⟨b, off + k * 2, none⟩ = some (.int .i64 x) ∧ W.cell? ⟨b, off + k * 2 + 1, none⟩ = some (.int .i64 y)) 13 14 #[false, false, false, false, false, false, false, false, false, false, false, false, false, false] (by kernel_rfl) (by kernel_rfl) (by kernel_rfl) (by rw [hD]; exact HCC.out _ HBD.out) (fun hHeld => ?_)
      rw [hD] at hHeld ⊢
      clear hD HO HW
      refine zk (v := ?_) 0 11 #[true, false, false, false, false, false, false, false, false, false, false, false, false, false] rfl rfl (by kernel_rfl) (by kernel_rfl) (by kernel_rfl) (by kernel_rfl) (fun _ _ _ h => h) (by kernel_rfl) (by rfl) ?hy hHeld ?_
      case hy => rintro W ⟨s1, s2⟩; first | (go_simp; done) | (go_simp; with_reducible rfl)
      simp only [List.setIfInBounds_toArray, List.set_cons_zero, List.set_cons_succ]
      refine zk (v := ?_) 1 12 #[true, true, false, false, false, false, false, false, false, false, false, false, false, false] rfl rfl (by kernel_rfl) (by kernel_rfl) (by kernel_rfl) (by kernel_rfl) (fun _ _ _ h => h) (by kernel_rfl) (by rfl) ?hy hHeld ?_
      case hy => rintro W ⟨s1, s2⟩; first | (go_simp; done) | (go_simp; with_reducible rfl)
      simp only [List.setIfInBounds_toArray, List.set_cons_zero, List.set_cons_succ]
      refine zk (v := ?_) 2 13 #[true, true, true, false, false, false, false, false, false, false, false, false, false, false] rfl rfl (by kernel_rfl) (by kernel_rfl) (by kernel_rfl) (by kernel_rfl) (fun _ _ _ h => h) (by kernel_rfl) (by rfl) ?hy hHeld ?_
      case hy => rintro W ⟨s1, s2⟩; first | (go_simp; done) | (go_simp; with_reducible rfl)
      simp only [List.setIfInBounds_toArray, List.set_cons_zero, List.set_cons_succ]
      refine zk (v := ?_) 3 14 #[true, true, true, true, false, false, false, false, false, false, false, false, false, false] rfl rfl (by kernel_rfl) (by kernel_rfl) (by kernel_rfl) (by kernel_rfl) (fun _ _ _ h => h) (by kernel_rfl) (by rfl) ?hy hHeld ?_
      case hy => rintro W ⟨s1, s2⟩; first | (go_simp; done) | (go_simp; with_reducible rfl)
      simp only [List.setIfInBounds_toArray, List.set_cons_zero, List.set_cons_succ]
      refine zk (v := ?_) 4 15 #[true, true, true, true, true, false, false, false, false, false, false, false, false, false] rfl rfl (by kernel_rfl) (by kernel_rfl) (by kernel_rfl) (by kernel_rfl) (fun _ _ _ h => h) (by kernel_rfl) (by rfl) ?hy hHeld ?_
      case hy => rintro W ⟨s1, s2⟩; first | (go_simp; done) | (go_simp; with_reducible rfl)
      simp only [List.setIfInBounds_toArray, List.set_cons_zero, List.set_cons_succ]
      refine zk (v := ?_) 5 16 #[true, true, true, true, true, true, false, false, false, false, false, false, false, false] rfl rfl (by kernel_rfl) (by kernel_rfl) (by kernel_rfl) (by kernel_rfl) (fun _ _ _ h => h) (by kernel_rfl) (by rfl) ?hy hHeld ?_
      case hy => rintro W ⟨s1, s2⟩; first | (go_simp; done) | (go_simp; with_reducible rfl)
      simp only [List.setIfInBounds_toArray, List.set_cons_zero, List.set_cons_succ]
      refine zk (v := ?_) 6 17 #[true, true, true, true, true, true, true, false, false, false, false, false, false, false] rfl rfl (by kernel_rfl) (by kernel_rfl) (by kernel_rfl) (by kernel_rfl) (fun _ _ _ h => h) (by kernel_rfl) (by rfl) ?hy hHeld ?_
      case hy => rintro W ⟨s1, s2⟩; first | (go_simp; done) | (go_simp; with_reducible rfl)
      simp only [List.setIfInBounds_toArray, List.set_cons_zero, List.set_cons_succ]
      refine zk (v := ?_) 7 18 #[true, true, true, true, true, true, true, true, false, false, false, false, false, false] rfl rfl (by kernel_rfl) (by kernel_rfl) (by kernel_rfl) (by kernel_rfl) (fun _ _ _ h => h) (by kernel_rfl) (by rfl) ?hy hHeld ?_
      case hy => rintro W ⟨s1, s2⟩; first | (go_simp; done) | (go_simp; with_reducible rfl)
      simp only [List.setIfInBounds_toArray, List.set_cons_zero, List.set_cons_succ]
      refine zk (v := ?_) 8 19 #[true, true, true, true, true, true, true, true, true, false, false, false, false, false] rfl rfl (by kernel_rfl) (by kernel_rfl) (by kernel_rfl) (by kernel_rfl) (fun _ _ _ h => h) (by kernel_rfl) (by rfl) ?hy hHeld ?_
      case hy => rintro W ⟨s1, s2⟩; first | (go_simp; done) | (go_simp; with_reducible rfl)
      simp only [List.setIfInBounds_toArray, List.set_cons_zero, List.set_cons_succ]
      refine zk (v := ?_) 9 20 #[true, true, true, true, true, true, true, true, true, true, false, false, false, false] rfl rfl (by kernel_rfl) (by kernel_rfl) (by kernel_rfl) (by kernel_rfl) (fun _ _ _ h => h) (by kernel_rfl) (by rfl) ?hy hHeld ?_
      case hy => rintro W ⟨s1, s2⟩; first | (go_simp; done) | (go_simp; with_reducible rfl)
      simp only [List.setIfInBounds_toArray, List.set_cons_zero, List.set_cons_succ]
      refine zk (v := ?_) 10 21 #[true, true, true, true, true, true, true, true, true, true, true, false, false, false] rfl rfl (by kernel_rfl) (by kernel_rfl) (by kernel_rfl) (by kernel_rfl) (fun _ _ _ h => h) (by kernel_rfl) (by rfl) ?hy hHeld ?_
      case hy => rintro W ⟨s1, s2⟩; first | (go_simp; done) | (go_simp; with_reducible rfl)
      simp only [List.setIfInBounds_toArray, List.set_cons_zero, List.set_cons_succ]
      have hbA := (Below.refl D.heap.size D).alloc (Nat.le_refl _) (.cells #[.int .i64 x, .int .i64 y] 2)
      have HBA := hide (HBD.out.trans (hbA.mono HBD.out.size))
      obtain ⟨b0, b1⟩ := pair_cells (alloc_new D (.cells #[.int .i64 x, .int .i64 y] 2)) rfl
      obtain ⟨v5, w5, hrun5, hO5, hg5, _, _⟩ := run_append_own_at _ w.heap.size 78 78 2 i0 _ 1 8 Tryd.underlying78 HI.out.1 HI.out.2.1 HI.out.2.2.1 HI.out.2.2.2 rfl (by decide) _ _ _ (HOD.out.later hbA) ⟨D.heap.size, 0, none⟩ 2 2 [.int .i64 x, .int .i64 y] rfl (two_news b0 b1) (two_one x y) HLN.out.1 HLN.out.2 HBA.out.size
      have HRUN5 := hide hrun5
      have HO5 : Hid (LN.OM w5 w.heap.size v5 (flat (L.take (k + 1)))) := hide (by rw [HFT.out]; unfold LN.OM; rw [List.length_append, LN.mc_app]; exact hO5)
      have HB5 : Hid (Below w.heap.size w w5) := hide (HBA.out.grown hg5 HBA.out.size (fun q hq => (World.ownsRow.lt HOD.out q hq).1))
      clear hO5 hg5 hrun5 hbA b0 b1
      refine z_ready 11 #[true, true, true, true, true, true, true, true, true, true, true, true, false, false] rfl (by kernel_rfl) (by kernel_rfl) (by rfl) (fun K hK => ?_)
      go_simp
      refine hK.out _ _ (fun _ => HCC.out _ HBA.out) (fun hHeld => ?_)
      clear hK K
      refine z_ready 12 #[true, true, true, true, true, true, true, true, true, true, true, true, true, false] rfl (by kernel_rfl) (by kernel_rfl) (by rfl) (fun K hK => ?_)
      refine op_append_gen _ _ rfl _ ⟨D.heap.size, 0, none⟩ 2 2 rfl rfl _ w5 HRUN5.out ?_
      simp only [Act.put, List.setIfInBounds_toArray]
      refine hK.out _ _ (fun _ => HCC.out _ HB5.out) (fun hHeld => ?_)
      clear hK K
      refine z_ready 13 #[true, true, true, true, true, true, true, true, true, true, true, true, true, true] rfl (by kernel_rfl) (by kernel_rfl) (by rfl) (fun K hK => ?_)
      go_simp
      refine hK.out _ _ (fun h => absurd rfl h) (fun _ => ?_)
      clear hK K
      refine z_done (by kernel_rfl) ?_ _
      obtain ⟨na5, nc5, hv5⟩ := LN.OM.slice HO5.out
      have HV5 := hide hv5
      clear HRUN5 HBA HBD HOD
      try clear hHeld
      subst hv5
      go_wp2_with fail
      go_roundw
      case rel => exact ⟨k + 1, na5, nc5, HK.out.1, by go_num, rfl, HO5, HB5⟩
      case measure => first | (rw [wk]; simp [intOf]; omega) | (simp [intOf]; omega)
    · have e : k = L.length := by omega
      subst e
      rw [List.take_length] at *
      go_wp2_with fail
      go_ret
      exact ⟨_, rfl, HO.out, HW.out⟩
end Go.Proofs.YtmojckejjjlkjaaDoor
