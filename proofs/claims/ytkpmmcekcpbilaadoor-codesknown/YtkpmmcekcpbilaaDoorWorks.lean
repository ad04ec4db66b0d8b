/-
  My own text: a code that is taken, and one that isn't.
-/
import Derived.Test.YtkpmmcekcpbilaaDoorTxt
namespace Go.Proofs.YtkpmmcekcpbilaaDoor
open Go.RowKit

theorem wpList_load_want {P : Program} {ops : Array Oper} {rest : List Oper} {o : Oper} {a : Act} {w : World} {Q : Exit → Act → World → Prop} (hw : Region.wanted o (yielded ops a.tmps) = true) (ty : TypeId) (x : Operand) (ho : o.op = .load ty x)
    (g : Nat) (hx : a.eval x = .pointer (some ⟨g, 0, none⟩)) (t : TypeId) (cs : Array Value) (fr : Nat × Nat) (d : TypeDesc) (hg : w.heap[g]? = some (.cells cs t fr))
    (hu : P.underlying ty = some d) (hd : (match d with | .struct _ | .array _ _ => true | _ => false) = true) (hi : (P.info? ty).map (·.size) = some cs.size)
    (h : wpList P ops Q rest (a.put o.dst (.agg cs)) w) : wpList P ops Q (o :: rest) a w :=
  BigFrame.wpList_want hw fun _ hK => wp_load_row ty x ho g hx t cs fr d hg hu hd hi (hK _ _ h)
def apple5 : List UInt8 := [85, 83, 48, 51, 55, 56, 51, 51, 49, 48, 48, 53]
def apple4 : List UInt8 := [85, 83, 48, 51, 55, 56, 51, 51, 49, 48, 48, 52]
theorem apple5_ok : isinR apple5 = (0, 0) := by decide
theorem apple4_sum : isinR apple4 = (7, 0) := by decide
set_option maxRecDepth 100000 in
set_option maxHeartbeats 1000000 in
theorem works_any (w : World) (hE : ErrType w) :
    Calls Tryd.prog 25 #[] w fun e w' => e = .returned (.bool true) ∧ Below w.heap.size w w' := by
  have HE := hide hE
  have H5 := hide (fun W : World => isin_any apple5 W (by decide))
  have H4 := hide (fun W : World => isin_any apple4 W (by decide))
  rw [apple5_ok, if_pos rfl, errF_ok] at H5
  rw [apple4_sum, if_neg (by decide), errF_no (by decide) (by decide)] at H4
  unfold arr at H5 H4
  have HTX := hide (fun W : World => textIsin_any apple5 W rfl)
  clear hE
  go_enter Tryd.func25, Tryd.ntmps25
  go_wp2_with fail
  refine (H5.out _).mono ?_
  rintro e w1 ⟨rfl, hb1⟩
  have HB1 := hide hb1
  clear hb1
  go_wp2_with (refine wpList_store_row rfl 25 (.tmp 1) _ rfl w1.heap.size (cel apple5) rfl rfl _ (cel (zer 12)) (alloc_new w1 _) (by rw [cel_size]; exact Tryd.sizeIsin) rfl (cel_one _) ?_; rw [World.setRow_alloc_new])
  have HW1 := hide (HB1.out.alloc HB1.out.size (.cells (cel apple5) 25))
  have HN1 := hide (alloc_new w1 (.cells (cel apple5) 25))
  refine (H4.out _).mono ?_
  rintro e w2 ⟨rfl, hb2⟩
  have HB2 := hide (HW1.out.trans (hb2.mono HW1.out.size))
  have HN2 := hide ((hb2.block w1.heap.size (by simp)).trans HN1.out)
  clear hb2
  have HB3 := hide (HB2.out.alloc HB2.out.size (.cells (cel (zer 12)) 25))
  have HN3 := hide (alloc_block (o := .cells (cel (zer 12)) 25) HN2.out)
  go_wp2_with (first
    | (refine wpList_store_row rfl 25 (.tmp 3) _ rfl w2.heap.size (cel (zer 12)) rfl rfl _ (cel (zer 12)) (alloc_new w2 _) (by rw [cel_size]; exact Tryd.sizeIsin) rfl (cel_one _) ?_; rw [World.setRow_alloc_new])
    | (refine wpList_load_want rfl 25 (.tmp 1) rfl w1.heap.size rfl _ (cel apple5) _ _ HN3.out Tryd.underlying25 rfl (by rw [cel_size]; exact Tryd.sizeIsin) ?_)
    | (go_at_call 28; refine (HTX.out _).mono ?_; rintro e w4 ⟨rfl, hb4⟩; have HB4 := hide (HB3.out.trans (hb4.mono HB3.out.size)); clear hb4)
    | (go_at_call 37; refine (plain_errno 7 7 _ (by decide) (by decide) (HE.out.below HB4.out)).mono ?_; rintro e w5 ⟨rfl, hb5⟩))
  go_ret
  exact ⟨rfl, HB4.out.trans (hb5.mono HB4.out.size)⟩
end Go.Proofs.YtkpmmcekcpbilaaDoor
