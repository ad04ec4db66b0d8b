/-
  My own text: are two rows of Keys the same? A row copied (printed by mkrow16.py out of PX4).
-/
import Derived.Test.YtknnojjfdfkdmaaGreatDoorGKR
namespace Go.Proofs.YtknnojjfdfkdmaaGreatDoor.KY
open Go.RowKit

theorem take_step {A B : List El} {k : Nat} {p : El} (h : A.take k = B.take k) (ha : A[k]? = some p) (hb : B[k]? = some p) : A.take (k + 1) = B.take (k + 1) := by
  rw [List.take_add_one, List.take_add_one, h, ha, hb]
theorem take_ne {A B : List El} {k : Nat} {p q : El} (ha : A[k]? = some p) (hb : B[k]? = some q) (h : ¬ p = q) : ¬ A = B := fun e => by
  rw [e, hb] at ha; exact h (Option.some.inj ha).symm
set_option maxRecDepth 100000 in
set_option maxHeartbeats 2000000 in
theorem copyM_any (v : Value) (l : List El) (w : World) (hv : RM w v l) (hl : l.length ≤ 8796093022000) :
    Calls Tryz.prog 60 #[v] w fun e w' => ∃ v', e = .returned v' ∧ OM w' w.heap.size v' l ∧ Below w.heap.size w w' := by
  obtain ⟨a, cap, rfl, _, hr⟩ := hv
  obtain ⟨i0, hi, hz0, hz1, hz2⟩ := info_parts Tryz.infoMk
  go_enter Tryz.func60, Tryz.ntmps60
  go_wp2_with fail
  go_loopw [3, 4] (fun o i wr => ∃ k : Nat, k ≤ l.length ∧ i = .int .i64 k ∧ wr.ownsRow w.heap.size 23 2 o k (mc (l.take k)) ∧ Below w.heap.size w wr) (fun _ i _ => l.length - (intOf i).toNat)
  case atStart => exact ⟨0, Nat.zero_le _, rfl, World.ownsRow_nil w w.heap.size 23 2, Below.refl _ _⟩
  case round =>
    obtain ⟨k, hk, rfl, hown, hB⟩ := hrel
    by_cases hlt : k < l.length
    · obtain ⟨⟨q0, q1⟩, hx⟩ : ∃ p, l[k]? = some p := ⟨_, List.getElem?_eq_getElem hlt⟩
      rcases hr with h0 | ⟨b, off, rfl, hbl, hc⟩
      · rw [h0] at hlt; simp at hlt
      have c0 : wr.cell? ⟨b, off + k * 2, none⟩ = some (.int .i64 q0) := (hB.cell (p := ⟨b, _, none⟩) hbl).trans (hc k _ hx).1
      have c1 : wr.cell? ⟨b, off + k * 2 + 1, none⟩ = some (.int .i64 q1) := (hB.cell (p := ⟨b, _, none⟩) hbl).trans (hc k _ hx).2
      have c0' : wr.cell? ⟨b, off + (k * 2), none⟩ = some (.int .i64 q0) := c0
      have c1' : wr.cell? ⟨b, off + (k * 2 + 1), none⟩ = some (.int .i64 q1) := c1
      have HT := hide (mc_take hx)
      clear hc hx
      go_wp2_with (first
        | (at_builtin; refine wpList_append_own_wide _ rfl _ _ 24 rfl w.heap.size 23 i0 (.agg #[.int .i64 0, .int .i64 0]) 2 16 Tryz.underlying24 hi hz0 hz1 hz2 rfl (by decide) _ _ _ rfl (hown.alloc _) ⟨_, 0, none⟩ 1 1 [.int .i64 q0, .int .i64 q1] rfl rfl ?c1 ?c2 ?c3 ?c4 ?c5 ?_)
        | go_in)
      case c2 => exact ⟨rfl, rfl⟩
      case c3 => unfold maxLen; omega
      case c4 => omega
      case c5 => have := hB.size; simp; omega
      intro v' w1 hown' hgrow _
      have hB1 : Below w.heap.size w w1 := (hB.alloc hB.size _).grown hgrow (by have := hB.size; simp; omega) (fun k hk => (hown.lt k hk).1)
      clear hown hgrow
      go_wp2_with fail
      go_roundw
      case rel => exact ⟨k + 1, by omega, by go_num, by rw [HT.out]; exact hown', hB1⟩
      case measure => simp [intOf]; omega
    · have hk' : k = l.length := by omega
      subst hk'
      rw [List.take_length] at hown
      go_wp2_with fail
      go_ret
      exact ⟨_, rfl, hown, hB⟩
end Go.Proofs.YtknnojjfdfkdmaaGreatDoor.KY
