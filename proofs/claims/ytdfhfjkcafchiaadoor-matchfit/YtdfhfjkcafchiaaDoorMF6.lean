/-
  My own text: layer 22: two ISINs compared.
-/
import Derived.Test.YtdfhfjkcafchiaaDoorMF5
namespace Go.Proofs.YtdfhfjkcafchiaaDoor
open Go.RowKit LC

theorem Tryd.cellsU8 : Tryd.prog.cellsOf 5 = 1 := by kernel_rfl
theorem Tryd.cellsIsin : Tryd.prog.cellsOf 23 = 12 := by kernel_rfl
theorem Tryd.keyIsin : Tryd.prog.keyTypeAt 5 23 = true := by kernel_rfl
theorem kl_isin (d : Nat) (l : List UInt8) (h : l.length = 12) : Tryd.prog.keyLits (d + 2) 23 (cel l).toList = some (l.map fun c => .int .u8 (c.toNat : Int)) := by
  obtain ⟨c0, c1, c2, c3, c4, c5, c6, c7, c8, c9, c10, c11, rfl⟩ := LC.len12 h
  unfold Program.keyLits
  rw [Tryd.underlying23]
  simp only [Tryd.cellsIsin, Tryd.cellsU8, cel]
  simp [List.range, List.range.loop, kl_u8 d]
theorem isin_formed (l : List UInt8) (h : l.length = 12) : Value.formed Tryd.prog 23 (.agg (cel l)) = true := by
  obtain ⟨c0, c1, c2, c3, c4, c5, c6, c7, c8, c9, c10, c11, rfl⟩ := LC.len12 h
  rfl
theorem ne_isin (a b : List UInt8) (ha : a.length = 12) (hb : b.length = 12) (W : World) : (binOp .neq 23 (.agg (cel a)) (.agg (cel b))).run Tryd.prog W = .ok (.bool (decide (a ≠ b))) W := by
  obtain ⟨r, hr, hiff⟩ := run_equalIn_deep (P := Tryd.prog) 9995 5 23 Tryd.keyIsin W 2 2 (.agg (cel a)) (.agg (cel b)) _ _ (isin_formed a ha) (isin_formed b hb) (kl_isin 0 a ha) (kl_isin 0 b hb)
  have e : r = decide (a = b) := by
    by_cases hh : a = b
    · rw [decide_eq_true hh]
      exact hiff.2 (by rw [hh])
    · rw [decide_eq_false hh]
      cases r with
      | false => rfl
      | true =>
        refine absurd ?_ hh
        refine (List.map_inj_right ?_).1 (hiff.1 rfl)
        intro x y hxy
        have : (x.toNat : Int) = (y.toNat : Int) := by simpa using hxy
        exact UInt8.toNat_inj.1 (by omega)
  subst e
  simp only [binOp]
  simp [Op.equal, Op.maxDepth, hr]
end Go.Proofs.YtdfhfjkcafchiaaDoor
