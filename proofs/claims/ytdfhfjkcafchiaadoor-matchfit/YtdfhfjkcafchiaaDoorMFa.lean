/-
  My own text: layer 22: when a face is whole; the face of a notice.
-/
import Derived.Test.YtdfhfjkcafchiaaDoorMF9
namespace Go.Proofs.YtdfhfjkcafchiaaDoor
open Go.RowKit LC

def qZ : Q4 := ([], [], [], [])
theorem qZ_ok : QOk qZ := ⟨by simp [qZ], by simp [qZ], by simp [qZ], by simp [qZ]⟩
/-- Is it somebody at both ends? -/
def whB (f : Fc) : Bool := decide (f.q0 ≠ qZ) && decide (f.q1 ≠ qZ)
set_option maxRecDepth 100000 in
set_option maxHeartbeats 2000000 in
theorem isWhole_any (f : Fc) (w : World) (hf : FOk f) :
    Calls Tryd.prog 16 #[.agg (fC f)] w fun e w' => e = .returned (.bool (whB f)) ∧ Below w.heap.size w w' := by
  have g0 := ne_off f.q0 qZ hf.q0 qZ_ok
  have g1 := ne_off f.q1 qZ hf.q1 qZ_ok
  unfold whB
  obtain ⟨tr, st, code, qty, py, cur, a0, a1, ⟨qa, qb, qc, qd⟩, ⟨ra, rb, rc, rd⟩⟩ := f
  obtain ⟨c0, c1, c2, c3, c4, c5, c6, c7, c8, c9, c10, c11, e⟩ := LC.len12 hf.code
  dsimp only at e g0 g1 ⊢
  obtain ⟨b0, hb0⟩ : ∃ b, decide ((qa, qb, qc, qd) ≠ qZ) = b := ⟨_, rfl⟩
  obtain ⟨b1, hb1⟩ : ∃ b, decide ((ra, rb, rc, rd) ≠ qZ) = b := ⟨_, rfl⟩
  rw [hb0] at g0 ⊢
  rw [hb1] at g1 ⊢
  subst e
  unfold qZ at g0 g1
  dsimp only [q4] at g0 g1
  have hfc : fC ⟨tr, st, [c0, c1, c2, c3, c4, c5, c6, c7, c8, c9, c10, c11], qty, py, cur, a0, a1, (qa, qb, qc, qd), (ra, rb, rc, rd)⟩ = #[.int .i64 tr, .int .i64 st, .int .u8 (c0.toNat : Int), .int .u8 (c1.toNat : Int), .int .u8 (c2.toNat : Int), .int .u8 (c3.toNat : Int), .int .u8 (c4.toNat : Int), .int .u8 (c5.toNat : Int), .int .u8 (c6.toNat : Int), .int .u8 (c7.toNat : Int), .int .u8 (c8.toNat : Int), .int .u8 (c9.toNat : Int), .int .u8 (c10.toNat : Int), .int .u8 (c11.toNat : Int), .int .i64 qty, .bool py, .string ⟨cur.toArray⟩, .string ⟨a0.toArray⟩, .string ⟨a1.toArray⟩, .string ⟨qa.toArray⟩, .string ⟨qb.toArray⟩, .string ⟨qc.toArray⟩, .string ⟨qd.toArray⟩, .string ⟨ra.toArray⟩, .string ⟨rb.toArray⟩, .string ⟨rc.toArray⟩, .string ⟨rd.toArray⟩] := rfl
  rw [hfc]
  clear hfc hf hb0 hb1
  cases b0
  · go_enter Tryd.func16, Tryd.ntmps16
    go_wp2_with fail
    go_ret
    exact ⟨by simp, (Below.refl _ _).alloc (Nat.le_refl _) _⟩
  · go_enter Tryd.func16, Tryd.ntmps16
    go_wp2_with fail
    go_ret
    exact ⟨by simp, (Below.refl _ _).alloc (Nat.le_refl _) _⟩
end Go.Proofs.YtdfhfjkcafchiaaDoor
