/-
  My own text: the end of the law on writers.
-/
import Derived.Test.YthalmfbcdkihgaaDoorWZ2
namespace Go.Proofs.YthalmfbcdkihgaaDoor
open Go.RowKit Go.Extern

/-- The cells that the end of the law reads. -/
def Cl (W : World) (R Q q0 q1 : Nat) (u0 u1 : Value) : Prop := W.cell? ⟨R, 0, none⟩ = some (.pointer (some ⟨q0, 0, none⟩)) ∧ W.cell? ⟨R, 1, none⟩ = some (.pointer (some ⟨q1, 0, none⟩)) ∧ W.cell? ⟨Q, 0, none⟩ = some u0 ∧ W.cell? ⟨Q, 1, none⟩ = some u1
theorem Zs.cl {w W : World} {R Q q0 q1 : Nat} {v0 v1 u0 u1 : Value} {l0 l1 m0 m1 : List UInt8} {T : List (Value × List UInt8)} {tv : Value} (h : Zs w W R Q q0 q1 v0 v1 u0 u1 l0 l1 m0 m1 T tv) : Cl W R Q q0 q1 u0 u1 := ⟨h.bR.cell 0, h.bR.cell 1, h.bQ.cell 0, h.bQ.cell 1⟩
theorem told_apart {w W : World} {R Q q0 q1 : Nat} {v0 v1 u0 u1 : Value} {l0 l1 m0 m1 : List UInt8} {T : List (Value × List UInt8)} {tv : Value} (h : Zs w W R Q q0 q1 v0 v1 u0 u1 l0 l1 m0 m1 T tv) (hT : T.length ≤ 2097152) (hl : ∀ x ∈ T, x.2.length ≤ 40000000) :
    Calls Tryd.prog 44 #[tv] W fun e w' => e = .returned (.bool true) ∧ Zs w w' R Q q0 q1 v0 v1 u0 u1 l0 l1 m0 m1 [] (.slice none 0 0) := by
  by_cases h0 : T = []
  · have hv := h.tn h0
    subst h0 hv
    exact (apartBytes_nil W).mono fun e w' hh => by obtain ⟨h1, h2⟩ := hh; subst h2; exact ⟨h1, h⟩
  · have hpos : 0 < T.length := List.length_pos_iff.2 h0
    obtain ⟨g, cap, hv, _, _⟩ := World.ownsRow.form h.tk hpos
    have hcap : T.length ≤ cap := by
      rcases h.tk.2 with ⟨_, h2⟩ | ⟨g', cap', cur, h1, _, _, h2, _⟩
      · omega
      · rw [hv] at h1; injection h1 with _ _ h3; omega
    have hA := h.all hv
    rw [hv]
    refine (apartBytes_sp w.heap.size g T.length cap _ _ _ _ W hA (fun k => ?_) (by omega) hcap h.b.size).mono fun e w' hh => ⟨hh.1, h.spared hh.2⟩
    by_cases hk : k < T.length
    · rw [(own_sl (h.row hk)).2]
      have := hl (tAt T k) (List.mem_of_getElem? (tAt_some hk))
      omega
    · have e : tAt T k = (.slice none 0 0, []) := by unfold tAt; rw [List.getD_eq_getElem?_getD, List.getElem?_eq_none (by omega)]; rfl
      rw [e]; exact Nat.zero_le _
theorem done_zs0 {w W : World} {R Q q0 q1 : Nat} {v0 v1 u0 u1 : Value} {l0 l1 : List UInt8} (h : Zs w W R Q q0 q1 v0 v1 u0 u1 l0 l1 l0 l1 [] (.slice none 0 0)) (hl : l0.length ≤ 140737488355328) :
    Calls Tryd.prog 10 #[.pointer (some ⟨q0, 0, none⟩)] W fun e w' => ∃ va, e = .returned va ∧ Own w' 0 va l0 ∧ Zs w w' R Q q0 q1 v0 v1 u0 u1 l0 l1 l0 l1 [] (.slice none 0 0) ∧ Cl w' R Q q0 q1 u0 u1 :=
  (done_any w.heap.size q0 v0 l0 W h.wr0 hl).mono fun e w' hh => by
    obtain ⟨va, h1, h2, h3⟩ := hh
    exact ⟨va, h1, h2.zero, h.later h3, (h.later h3).cl⟩
theorem same_zs0 {w W : World} {R Q q0 q1 : Nat} {v0 v1 u0 u1 va : Value} {l0 l1 : List UInt8} (h : Zs w W R Q q0 q1 v0 v1 u0 u1 l0 l1 l0 l1 [] (.slice none 0 0)) (ho : Own W 0 va l0) (hl : l0.length ≤ 140737488355328) :
    Calls Tryd.prog 11 #[va, u0] W fun e w' => e = .returned (.bool true) ∧ Zs w w' R Q q0 q1 v0 v1 u0 u1 l0 l1 l0 l1 [] (.slice none 0 0) ∧ Cl w' R Q q0 q1 u0 u1 := by
  have hc := sameBytes_any va u0 l0 l0 W ho.rb (h.rk.own 2 _ rfl).rb hl
  rw [show decide (l0 = l0) = true by simp] at hc
  exact hc.mono fun e w' hh => ⟨hh.1, h.later hh.2, (h.later hh.2).cl⟩
theorem done_zs1 {w W : World} {R Q q0 q1 : Nat} {v0 v1 u0 u1 : Value} {l0 l1 : List UInt8} (h : Zs w W R Q q0 q1 v0 v1 u0 u1 l0 l1 l0 l1 [] (.slice none 0 0)) (hl : l1.length ≤ 140737488355328) :
    Calls Tryd.prog 10 #[.pointer (some ⟨q1, 0, none⟩)] W fun e w' => ∃ va, e = .returned va ∧ Own w' 0 va l1 ∧ Zs w w' R Q q0 q1 v0 v1 u0 u1 l0 l1 l0 l1 [] (.slice none 0 0) ∧ Cl w' R Q q0 q1 u0 u1 :=
  (done_any w.heap.size q1 v1 l1 W h.wr1 hl).mono fun e w' hh => by
    obtain ⟨va, h1, h2, h3⟩ := hh
    exact ⟨va, h1, h2.zero, h.later h3, (h.later h3).cl⟩
theorem same_zs1 {w W : World} {R Q q0 q1 : Nat} {v0 v1 u0 u1 va : Value} {l0 l1 : List UInt8} (h : Zs w W R Q q0 q1 v0 v1 u0 u1 l0 l1 l0 l1 [] (.slice none 0 0)) (ho : Own W 0 va l1) (hl : l1.length ≤ 140737488355328) :
    Calls Tryd.prog 11 #[va, u1] W fun e w' => e = .returned (.bool true) ∧ Zs w w' R Q q0 q1 v0 v1 u0 u1 l0 l1 l0 l1 [] (.slice none 0 0) ∧ Cl w' R Q q0 q1 u0 u1 := by
  have hc := sameBytes_any va u1 l1 l1 W ho.rb (h.rk.own 3 _ rfl).rb hl
  rw [show decide (l1 = l1) = true by simp] at hc
  exact hc.mono fun e w' hh => ⟨hh.1, h.later hh.2, (h.later hh.2).cl⟩
end Go.Proofs.YthalmfbcdkihgaaDoor
