/-
  My own text: the document's Copy and Put over a row of versions.
-/
import Derived.Test.YtechjcmolccdjaaHD1
namespace Go.Proofs.Ytechjcmolccdjaa
open Go.RowKit Go.Shelf

/-- One version more in a row of one's own. -/
theorem row_push {w wr W3 w4 : World} {o : Value} {k : Nat} {K : List Ver} {p : Ver} (hB : Below w.heap.size w wr) (hO : OR wr w.heap.size 36 2 o k (vc K)) (hW3 : wr.alloc (.cells #[.int .i64 p.1, .string ⟨p.2.toArray⟩] 36) = W3)
    (r2 : W3.grownBy w4 o.ownBlock) : Below w.heap.size w w4 := by
  have hb3 : Below wr.heap.size wr W3 := by rw [← hW3]; exact (Below.refl _ _).alloc (Nat.le_refl _) _
  have l3 := hB.trans (hb3.mono hB.size)
  refine ⟨r2.os.trans l3.os, r2.tape.trans l3.tape, r2.output.trans l3.output, Nat.le_trans l3.size r2.size, fun j hj => (r2.block j (Nat.lt_of_lt_of_le hj l3.size) (fun e => ?_)).trans (l3.block j hj)⟩
  have := ((hO.later hb3).lt e.symm).1
  omega
theorem vc_snoc (K : List Ver) (p : Ver) : vc K ++ [.int .i64 p.1, .string ⟨p.2.toArray⟩] = vc (K ++ [p]) := by rw [vc_app]; rfl
set_option maxRecDepth 100000 in
set_option maxHeartbeats 2000000 in
theorem copy_any (v : Value) (L : List Ver) (w : World) (hv : RV w v L) (hl : L.length ≤ 5864062014804) :
    Calls Try.prog 27 #[v] w fun e w' => ∃ v', e = .returned v' ∧ OR w' w.heap.size 36 2 v' L.length (vc L) ∧ Below w.heap.size w w' := by
  obtain ⟨a, cap, rfl, hc⟩ := hv
  obtain ⟨i0, hi, hiz⟩ := Option.map_eq_some_iff.1 Try.infoVersion
  simp only [Prod.mk.injEq] at hiz
  obtain ⟨hz0, hz1, hz2⟩ := hiz
  have HI := hide (And.intro hi (And.intro hz0 (And.intro hz1 hz2)))
  have HC := hide hc
  have HL := hide hl
  clear hc hl hi hz0 hz1 hz2
  go_enter Try.func27, Try.ntmps27
  go_wp2_with fail
  go_loopw [3, 4] (fun o i wr => ∃ (k : Nat) (x : Value), k ≤ L.length ∧ i = .int .i64 (k : Int) ∧ o = x ∧ Hid (OR wr w.heap.size 36 2 x k (vc (L.take k))) ∧ Hid (Below w.heap.size w wr)) (fun _ i _ => L.length - (intOf i).toNat)
  case atStart => exact ⟨0, _, Nat.zero_le _, rfl, rfl, hide (by rw [List.take_zero]; exact OR.nil _ _ _ _), hide (Below.refl _ _)⟩
  case round =>
    obtain ⟨k, o, hk, rfl, ho, HO, HB⟩ := hrel
    have ho' := ho.symm
    clear ho
    subst ho'
    by_cases hlt : k < L.length
    · obtain ⟨⟨N, V⟩, hp⟩ : ∃ p, L[k]? = some p := ⟨_, List.getElem?_eq_getElem hlt⟩
      obtain ⟨g, off, rfl, q1, q2⟩ := HC.out k _ hp
      have hd1 : decide ((k : Int) < (L.length : Int)) = true := by rw [decide_eq_true_eq]; omega
      have k0 : (0 : Int) ≤ (k : Int) := by omega
      have k1 : (k : Int) < (L.length : Int) := by omega
      have z1 := (HB.out.cell (World.block_lt_of_cell? _ _ q1)).trans q1
      have z2 := (HB.out.cell (World.block_lt_of_cell? _ _ q2)).trans q2
      dsimp only at z1 z2
      have wk : wrap64 ((k : Int) + 1) = (k : Int) + 1 := by have := HL.out; unfold wrap64; omega
      have HT : Hid (L.take (k + 1) = L.take k ++ [(N, V)]) := hide (by rw [List.take_add_one, hp]; rfl)
      obtain ⟨W3, hW3⟩ : ∃ W3, wr.alloc (.cells #[.int .i64 N, .string ⟨V.toArray⟩] 36) = W3 := ⟨_, rfl⟩
      have HW3 := hide hW3
      have HO3 : Hid (OR W3 w.heap.size 36 2 o k (vc (L.take k))) := hide (by rw [← hW3]; exact HO.out.later ((Below.refl _ _).alloc (Nat.le_refl _) _))
      have HN3 : Hid (∀ j u, ([.int .i64 N, .string ⟨V.toArray⟩] : List Value)[j]? = some u → W3.cell? ((⟨wr.heap.size, 0, none⟩ : Addr).add j) = some u) := hide (fun j u hj => by
        rw [← hW3, Addr.add_lit, cell_of_row _ wr.heap.size _ _ _ _ (alloc_newV wr _)]
        match j, hj with
        | 0, hj => cases hj; rfl
        | 1, hj => cases hj; rfl)
      have HZ3 : Hid (w.heap.size ≤ W3.heap.size) := hide (by rw [← hW3]; have := HB.out.size; simp; omega)
      clear hp q1 q2
      go_wp2_with (at_builtin; refine wp_append_or W3 w.heap.size 24 36 i0 _ 2 24 rfl _ _ rfl Try.underlying24 HI.out.1 HI.out.2.1 HI.out.2.2.1 HI.out.2.2.2 rfl (by decide) o k (vc (L.take k)) rfl HO3.out ⟨wr.heap.size, 0, none⟩ 1 [.int .i64 N, .string ⟨V.toArray⟩] rfl rfl HN3.out (by intro u hu; simp at hu; rcases hu with rfl | rfl <;> rfl) (by have := HL.out; unfold maxLen; omega) (by have := HL.out; omega) HZ3.out ?_)
      intro v' w4 r1 r2 _
      have HO4 : Hid (OR w4 w.heap.size 36 2 v' (k + 1) (vc (L.take (k + 1)))) := hide (by rw [HT.out, ← vc_snoc]; exact r1)
      have HB4 := hide (row_push (p := (N, V)) HB.out HO.out HW3.out r2)
      clear r1 r2 hW3 HW3 z1 z2
      go_wp2_with fail
      go_roundw
      case rel => exact ⟨k + 1, _, by omega, by go_num, rfl, HO4, HB4⟩
      case measure => rw [wk]; simp [intOf]; omega
    · have e : k = L.length := by omega
      subst e
      go_wp2_with fail
      go_ret
      exact ⟨_, rfl, by have := HO.out; rw [List.take_length] at this; exact this, HB.out⟩
end Go.Proofs.Ytechjcmolccdjaa
