/-
  My own text: one of the four calls, as the laws ask it; that anything works (printed by mkb8.py).
-/
import Derived.Test.YtmebomifakmkbabDoorBM2
import Derived.Test.YtmebomifakmkbabDoorBE3
namespace Go.Proofs.YtmebomifakmkbabDoor
open Go.RowKit

theorem Ans.no {w w' : World} {s : List UInt8} {t : TypeId} {x : Value} {e : Ending} (h : Ans w w' s (.no t x) e) : e = .returned (.tuple #[posZ, refV s (.iface t x)]) := h
theorem Ans.ok {w w' : World} {s : List UInt8} {a : Int} {M : List Mk} {e : Ending} (h : Ans w w' s (.ok a M) e) : ∃ v, e = .returned (.tuple #[.agg #[.int .i64 a, v], .nilIface]) ∧ OM w' w.heap.size v M := h
theorem ifEql (t : TypeId) (x : Value) (W : World) : (binOp .eql 26 (.iface t x) .nilIface).run Tryd.prog W = .ok (.bool false) W := by kernel_rfl
theorem ifEql0 (W : World) : (binOp .eql 26 .nilIface .nilIface).run Tryd.prog W = .ok (.bool true) W := by kernel_rfl
theorem trip_cells {w : World} {a b c : Value} {t : TypeId} {g : Nat} (h : w.heap[g]? = some (.cells #[a, b, c] t (0, 0))) : w.cell? ⟨g, 0, none⟩ = some a ∧ w.cell? ⟨g, 1, none⟩ = some b ∧ w.cell? ⟨g, 2, none⟩ = some c :=
  ⟨by rw [cell_of_row _ _ 0 _ _ _ h]; rfl, by rw [cell_of_row _ _ 1 _ _ _ h]; rfl, by rw [cell_of_row _ _ 2 _ _ _ h]; rfl⟩
set_option maxRecDepth 100000 in
set_option maxHeartbeats 2000000 in
theorem works_any (w : World) (hE : ErrType w) :
    Calls Tryd.prog 5 #[] w fun e w' => e = .returned (.bool true) ∧ Below w.heap.size w w' := by
  have htop : top = 9223372036854775807 := rfl
  have m0 : MOk [] := fun p hp => by cases hp
  have HC1 := hide (credit_any 0 5 (.slice Option.none 0 0) [] w RM.none m0 (by omega) (by omega) (by simp))
  rw [show creditO 0 [] 5 = .ok 5 [] from rfl] at HC1
  have HC2 := hide (fun (W : World) (v : Value) (hv : RM W v []) => credit_any 5 0 v [] W hv m0 (by omega) (by omega) (by simp))
  rw [show creditO 5 [] 0 = .no 40 (.int .i64 16) from rfl] at HC2
  have HT := hide (fun (W : World) (v : Value) (hv : RM W v []) => total_any 5 v [] W hv m0 (by omega) (by simp))
  rw [show totV 5 [] = 5 from rfl] at HT
  have HP := hide (fun (W : World) (h : ErrType W) => plain_rn [99, 114, 101, 100, 105, 116] 16 16 W (by omega) (by omega) h)
  have HE := hide hE
  have q0 := ifEql0
  clear m0 htop hE
  go_enter Tryd.func5, Tryd.ntmps5
  go_wp2_with fail
  refine HC1.out.mono ?_
  rintro e w1 ⟨hA, hb⟩
  obtain ⟨v', hv', hO⟩ := hA.ok
  subst hv'
  obtain ⟨a4, c4, hv4⟩ := rm_lt (OM.rm hO)
  subst hv4
  have HO := hide hO
  have HB1 := hide hb
  have BA := hide (hb.alloc hb.size (.cells #[.int .i64 5, .slice a4 ([] : List Mk).length c4] 24))
  have XA := hide (alloc_new w1 (.cells #[.int .i64 5, .slice a4 ([] : List Mk).length c4] 24))
  obtain ⟨x0, x1⟩ := pair_cells XA.out rfl
  have HB0 := hide ((Below.refl w1.heap.size w1).alloc (Nat.le_refl _) (.cells #[.int .i64 5, .slice a4 ([] : List Mk).length c4] 24))
  clear hA hO hb HC1
  generalize hln : ([] : List Mk).length = ln at *
  go_wp2_with fail
  refine (HC2.out _ _ (HO.out.rm.later HB0.out)).mono ?_
  rintro e w2 ⟨hA, hb⟩
  replace hA := hA.no
  subst hA
  unfold refV at HP ⊢
  have B2 := hide (BA.out.trans (hb.mono BA.out.size))
  have X2 := hide (blk_later XA.out hb)
  have HO2 := hide ((HO.out.rm.later HB0.out).later hb)
  have X3 := hide (alloc_block (o := .cells #[.int .i64 0, .slice Option.none 0 0] 24) X2.out)
  have B3 := hide (B2.out.alloc B2.out.size (.cells #[.int .i64 0, .slice Option.none 0 0] 24))
  have HO3 := hide (HO2.out.later ((Below.refl w2.heap.size w2).alloc (Nat.le_refl _) (.cells #[.int .i64 0, .slice Option.none 0 0] 24)))
  clear x0 x1
  obtain ⟨x0, x1⟩ := pair_cells X3.out rfl
  clear hb
  go_wp2_with fail
  refine (HT.out _ _ HO3.out).mono ?_
  rintro e w3 ⟨rfl, hb⟩
  have B4 := hide (B3.out.trans (hb.mono B3.out.size))
  clear hb
  go_wp2_with fail
  refine (HP.out _ (HE.out.below B4.out)).mono ?_
  rintro e w4 ⟨rfl, hb⟩
  have B5 := hide (B4.out.trans (hb.mono B4.out.size))
  clear hb
  go_wp2_with fail
  go_ret
  exact ⟨rfl, B5.out⟩

end Go.Proofs.YtmebomifakmkbabDoor
