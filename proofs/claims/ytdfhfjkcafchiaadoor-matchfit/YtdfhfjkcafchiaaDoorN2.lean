/-
  My own text: N1, N2 in one.
-/
import Derived.Test.YtdfhfjkcafchiaaDoorD5
import Derived.Test.YtdfhfjkcafchiaaDoorC10c
namespace Go.Proofs.YtdfhfjkcafchiaaDoor
open Go.RowKit LC

/-- Is a text a reference? -/
def refB (l : List UInt8) : Bool := decide (l.length ≤ 16) && decide ((LC.formR l (LC.accF l)).1 = 0)
theorem refB_long {l : List UInt8} (h : 16 < l.length) : refB l = false := by unfold refB; rw [decide_eq_false (by omega)]; rfl
theorem refB_iff {l : List UInt8} (h : l.length ≤ 16) : refB l = decide ((LC.formR l (LC.accF l)).1 = 0) := by unfold refB; rw [decide_eq_true h]; rfl
theorem errF_nil {r : Int × Int} (h : r.1 = 0) : LC.errF r = .nilIface := by unfold LC.errF; rw [if_pos h]
end Go.Proofs.YtdfhfjkcafchiaaDoor
namespace Go.Proofs.YtdfhfjkcafchiaaDoor
open Go.RowKit LC

def okE (r : Int × Int) : Bool := decide (r.1 = 0)
theorem okE_yes {r : Int × Int} (h : r.1 = 0) : okE r = true := decide_eq_true h
theorem okE_no {r : Int × Int} (h : ¬ r.1 = 0) : okE r = false := decide_eq_false h
theorem bicV_size (l : List UInt8) : (LC.bicV l).size = 4 := by unfold LC.bicV LC.bicP LC.bicZ; split <;> rfl
theorem bicV_one (l : List UInt8) : (LC.bicV l).all (·.oneCell') = true := by unfold LC.bicV LC.bicP LC.bicZ LC.str; split <;> simp [Value.oneCell']
/-- Bytes as values. -/
def nb (l : List UInt8) : List Value := l.map fun c => Value.int .u8 (c.toNat : Int)
theorem nb_take {l : List UInt8} {k : Nat} {c : UInt8} (h : l[k]? = some c) : nb (l.take (k + 1)) = nb (l.take k) ++ [.int .u8 (c.toNat : Int)] := by
  unfold nb; rw [List.take_add_one, h]; simp
theorem Tryd.infoBn : (Tryd.prog.info? 5).map (fun i => (i.zero, i.size, i.bytes)) = some (some (.int .u8 0), 1, 1) := by kernel_rfl
end Go.Proofs.YtdfhfjkcafchiaaDoor
