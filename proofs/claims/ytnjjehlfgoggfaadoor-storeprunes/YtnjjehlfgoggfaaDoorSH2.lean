/-
  My own text: what a number of shards counts as; the shard of a key.
-/
import Derived.Test.YtnjjehlfgoggfaaDoorSH1
namespace Go.Proofs.YtnjjehlfgoggfaaDoor
open Go.RowKit Go.Extern

def cnt (s : Int) : Int := if s < 1 then 1 else if 64 < s then 64 else s
theorem cnt_lo (s : Int) : 1 ≤ cnt s := by unfold cnt; split <;> (try split) <;> omega
theorem cnt_hi (s : Int) : cnt s ≤ 64 := by unfold cnt; split <;> (try split) <;> omega
set_option maxRecDepth 100000 in
theorem counted_any (s : Int) (w : World) :
    Calls Tryd.prog 17 #[.int .i64 s] w fun e w' => e = .returned (.int .i64 (cnt s)) ∧ Below w.heap.size w w' := by
  have HC : Hid (cnt s = if s < 1 then 1 else if 64 < s then 64 else s) := hide rfl
  go_enter Tryd.func17, Tryd.ntmps17
  go_wp2_with fail
  all_goals
    go_ret
    refine ⟨?_, Below.refl _ _⟩
    rw [HC.out]
    rename_i h1
    by_cases q1 : s < 1
    · rw [if_pos q1] at h1 ⊢
      first | rfl | (exfalso; omega)
    · rw [if_neg q1] at h1 ⊢
      by_cases q2 : 64 < s
      · rw [if_pos q2]; first | rfl | (exfalso; omega)
      · rw [if_neg q2]; first | rfl | (exfalso; omega)
def shF (a b s : Int) : Int := hashF a b % cnt s
theorem shF_lo (a b s : Int) : 0 ≤ shF a b s := Int.emod_nonneg _ (by have := cnt_lo s; omega)
theorem shF_hi (a b s : Int) : shF a b s < cnt s := Int.emod_lt_of_pos _ (by have := cnt_lo s; omega)
set_option maxRecDepth 100000 in
theorem shard_any (a b s : Int) (w : World) :
    Calls Tryd.prog 53 #[.agg #[.int .i64 a, .int .i64 b], .int .i64 s] w fun e w' => e = .returned (.int .i64 (shF a b s)) ∧ Below w.heap.size w w' := by
  have HB := hide ((Below.refl w.heap.size w).alloc (Nat.le_refl _) (.cells #[.int .i64 a, .int .i64 b] 29))
  have HH := hide (fun W => hash_any a b W)
  have HK := hide (fun W => counted_any s W)
  have h1 := hashF_lo a b
  have h2 := hashF_hi a b
  have h3 := cnt_lo s
  have h4 := cnt_hi s
  obtain ⟨h, hh⟩ : ∃ h, h = hashF a b := ⟨_, rfl⟩
  obtain ⟨c, hc⟩ : ∃ c, c = cnt s := ⟨_, rfl⟩
  have HS : Hid (shF a b s = h % c) := hide (by rw [hh, hc]; rfl)
  rw [← hh] at h1 h2 HH
  rw [← hc] at h3 h4 HK
  clear hh hc
  have wr : wrap64 (h % c) = h % c := by
    have q1 := Int.emod_nonneg h (show c ≠ 0 by omega)
    have q2 := Int.emod_lt_of_pos h (show 0 < c by omega)
    unfold wrap64; omega
  go_enter Tryd.func53, Tryd.ntmps53
  go_wp2_with fail
  refine (HH.out _).mono ?_
  rintro e w1 ⟨rfl, hb1⟩
  have B1 := hide (HB.out.trans (hb1.mono HB.out.size))
  clear hb1 HB
  go_wp2_with fail
  refine (HK.out _).mono ?_
  rintro e w2 ⟨rfl, hb2⟩
  have B2 := hide (B1.out.trans (hb2.mono B1.out.size))
  clear hb2 B1
  go_wp2_with fail
  go_ret
  exact ⟨by rw [HS.out]; exact congrArg (fun x => Ending.returned (Value.int .i64 x)) wr, B2.out⟩
end Go.Proofs.YtnjjehlfgoggfaaDoor
