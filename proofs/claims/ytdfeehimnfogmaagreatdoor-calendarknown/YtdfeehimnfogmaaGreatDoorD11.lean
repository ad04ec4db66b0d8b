/-
  My own text: days from a date to another where each month has thirty: the program's.
-/
import Derived.Test.YtdfeehimnfogmaaGreatDoorD9
import Derived.Test.YtdfeehimnfogmaaGreatDoorHeld
namespace Go.Proofs.YtdfeehimnfogmaaGreatDoor
open Go.RowKit

def thA (d : Int) : Int := if d = 31 then 30 else d
def thB (d d' : Int) (eu : Bool) : Int := if d' = 31 ∧ (eu = true ∨ thA d = 30) then 30 else d'
def th (y m d y' m' d' : Int) (eu : Bool) : Int := 360 * (y' - y) + 30 * (m' - m) + thB d d' eu - thA d
theorem Trio.range {w : World} {b : Nat} {x y z : Int} (h : Trio w b x y z) : w.rangeAt b 0 [.int .i64 x, .int .i64 y, .int .i64 z] := by
  intro j v hv
  match j, hv with
  | 0, hv => simp at hv; subst hv; exact h.c0
  | 1, hv => simp at hv; subst hv; exact h.c1
  | 2, hv => simp at hv; subst hv; exact h.c2
/-- Worlds that have grown out of w0, two dates' variables as they are said. -/
def Two (w0 : World) (b c : Nat) (x y z x' y' z' : Int) : Type := { w' : World // Trio w' b x y z ∧ Trio w' c x' y' z' ∧ Below w0.heap.size w0 w' }
theorem Two.call {w0 : World} {b c : Nat} {x y z x' y' z' : Int} (q : Two w0 b c x y z x' y' z') {P : Program} {f : FuncId} {args : Array Value} {v : Value} (h : Calls P f args q.1 fun e w' => e = .returned v ∧ Below q.1.heap.size q.1 w') :
    Calls P f args q.1 fun e w' => e = .returned v ∧ ∃ r : Two w0 b c x y z x' y' z', w' = r.1 :=
  h.mono fun _ w' ⟨he, hb⟩ => ⟨he, ⟨w', q.2.1.later hb, q.2.2.1.later hb, q.2.2.2.trans (hb.mono q.2.2.2.size)⟩, rfl⟩
theorem quiet_cell {P : Program} {o : Oper} {a : Act} {C : World → Prop} {K : Act → Prop} (ty : TypeId) (x : Operand) (h : o.op = .load ty x) (b n : Nat) (hx : a.eval x = .pointer (some ⟨b, n, none⟩)) (v : Int)
    (hc : ∀ w, C w → w.cell? ⟨b, n, none⟩ = some (.int .i64 v)) (hu : P.underlying ty = some (.int .i64)) (hk : K (a.put o.dst (.int .i64 v))) : o.quiet P a C K :=
  ⟨_, fun w hw => by
    have h1 := hc w hw
    have hr : (Instr.loadAt ty (.pointer (some ⟨b, n, none⟩))).run P w = .ok (.int .i64 v) w := by
      have hA : (isAgg ty).run P w = .ok false w := by unfold isAgg; simp [Sem.run_bind, run_underlying hu]
      simp [go_sem, Instr.loadAt, Instr.sureAddr, hA, h1]
    unfold Oper.quietAt
    simp [execOp, h, hx, hr, Oper.quietUpon], hk⟩
end Go.Proofs.YtdfeehimnfogmaaGreatDoor
