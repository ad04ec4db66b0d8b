/-
  My own text: At, Last, Len, New of a chain.
-/
import Derived.Test.YtnjjehlfgoggfaaDoorHC4
namespace Go.Proofs.YtnjjehlfgoggfaaDoor
open Go.RowKit
set_option maxRecDepth 100000 in
set_option maxHeartbeats 1000000 in
theorem at_no (n : Int) (B cb : Nat) (L : List Ver) (w : World) (h : CH w B cb L) (hr : Ris L) (hl : L.length ≤ 4611686018427387904) (h0 : ab n L = 0) :
    Calls Tryd.prog 42 #[.pointer (some ⟨cb, 0, none⟩), .int .i64 n] w fun e w' => e = .returned (.tuple #[.string ⟨#[]⟩, .bool false]) ∧ Below w.heap.size w w' := by
  have HA := hide (counts_no n B cb L w h hr hl h0)
  clear h hr hl h0
  go_enter Tryd.func42, Tryd.ntmps42
  go_wp2_with fail
  refine HA.out.mono ?_
  rintro e w2 ⟨rfl, hb2⟩
  have B3 : Hid (Below w.heap.size w (w2.alloc (.cells #[.int .i64 0, .string ⟨#[]⟩] 92))) := hide (hb2.alloc hb2.size _)
  clear hb2 HA
  go_wp2_with (refine wpList_store_row rfl 92 _ _ rfl w2.heap.size #[.int .i64 0, .string ⟨#[]⟩] rfl rfl _ _ (alloc_newV w2 _) Tryd.sizeVer rfl (by simp [Value.oneCell']) ?_; rw [World.setRow_alloc_new])
  go_ret2
  exact ⟨rfl, B3.out⟩
set_option maxRecDepth 100000 in
set_option maxHeartbeats 1000000 in
theorem at_yes (n : Int) (B cb : Nat) (L : List Ver) (k : Nat) (p : Ver) (w : World) (h : CH w B cb L) (hr : Ris L) (hl : L.length ≤ 4611686018427387904) (h0 : ab n L = k + 1) (hp : L[k]? = some p) :
    Calls Tryd.prog 42 #[.pointer (some ⟨cb, 0, none⟩), .int .i64 n] w fun e w' => e = .returned (.tuple #[.string ⟨p.2.toArray⟩, .bool true]) ∧ Below w.heap.size w w' := by
  have HA := hide (counts_yes n B cb k L p w h hr hl h0 hp)
  clear h hr hl h0 hp
  go_enter Tryd.func42, Tryd.ntmps42
  go_wp2_with fail
  refine HA.out.mono ?_
  rintro e w2 ⟨rfl, hb2⟩
  have B3 : Hid (Below w.heap.size w (w2.alloc (.cells #[.int .i64 p.1, .string ⟨p.2.toArray⟩] 92))) := hide (hb2.alloc hb2.size _)
  clear hb2 HA
  go_wp2_with (refine wpList_store_row rfl 92 _ _ rfl w2.heap.size #[.int .i64 p.1, .string ⟨p.2.toArray⟩] rfl rfl _ _ (alloc_newV w2 _) Tryd.sizeVer rfl (by simp [Value.oneCell']) ?_; rw [World.setRow_alloc_new])
  go_ret2
  exact ⟨rfl, B3.out⟩
set_option maxRecDepth 100000 in
set_option maxHeartbeats 1000000 in
theorem last_no (B cb : Nat) (L : List Ver) (w : World) (h : CH w B cb L) (hr : Ris L) (hl : L.length ≤ 4611686018427387904) (h0 : ab 9223372036854775807 L = 0) :
    Calls Tryd.prog 32 #[.pointer (some ⟨cb, 0, none⟩)] w fun e w' => e = .returned (.tuple #[.string ⟨#[]⟩, .int .i64 0, .bool false]) ∧ Below w.heap.size w w' := by
  have HA := hide (counts_no 9223372036854775807 B cb L w h hr hl h0)
  clear h hr hl h0
  go_enter Tryd.func32, Tryd.ntmps32
  go_wp2_with fail
  refine HA.out.mono ?_
  rintro e w2 ⟨rfl, hb2⟩
  have B3 : Hid (Below w.heap.size w (w2.alloc (.cells #[.int .i64 0, .string ⟨#[]⟩] 92))) := hide (hb2.alloc hb2.size _)
  clear hb2 HA
  go_wp2_with (refine wpList_store_row rfl 92 _ _ rfl w2.heap.size #[.int .i64 0, .string ⟨#[]⟩] rfl rfl _ _ (alloc_newV w2 _) Tryd.sizeVer rfl (by simp [Value.oneCell']) ?_; rw [World.setRow_alloc_new])
  go_quiet (fail)
  go_wp2_with fail
  go_ret3
  exact ⟨rfl, below_dq B3.out _⟩
set_option maxRecDepth 100000 in
set_option maxHeartbeats 1000000 in
theorem last_yes (B cb : Nat) (L : List Ver) (k : Nat) (p : Ver) (w : World) (h : CH w B cb L) (hr : Ris L) (hl : L.length ≤ 4611686018427387904) (h0 : ab 9223372036854775807 L = k + 1) (hp : L[k]? = some p) :
    Calls Tryd.prog 32 #[.pointer (some ⟨cb, 0, none⟩)] w fun e w' => e = .returned (.tuple #[.string ⟨p.2.toArray⟩, .int .i64 p.1, .bool true]) ∧ Below w.heap.size w w' := by
  have HA := hide (counts_yes 9223372036854775807 B cb k L p w h hr hl h0 hp)
  clear h hr hl h0 hp
  go_enter Tryd.func32, Tryd.ntmps32
  go_wp2_with fail
  refine HA.out.mono ?_
  rintro e w2 ⟨rfl, hb2⟩
  have B3 : Hid (Below w.heap.size w (w2.alloc (.cells #[.int .i64 p.1, .string ⟨p.2.toArray⟩] 92))) := hide (hb2.alloc hb2.size _)
  clear hb2 HA
  go_wp2_with (refine wpList_store_row rfl 92 _ _ rfl w2.heap.size #[.int .i64 p.1, .string ⟨p.2.toArray⟩] rfl rfl _ _ (alloc_newV w2 _) Tryd.sizeVer rfl (by simp [Value.oneCell']) ?_; rw [World.setRow_alloc_new])
  go_quiet (fail)
  go_wp2_with fail
  go_ret3
  exact ⟨rfl, below_dq B3.out _⟩
set_option maxRecDepth 100000 in
theorem len_any (B cb : Nat) (L : List Ver) (w : World) (h : CH w B cb L) :
    Calls Tryd.prog 33 #[.pointer (some ⟨cb, 0, none⟩)] w fun e w' => e = .returned (.int .i64 (L.length : Int)) ∧ Below w.heap.size w w' := by
  obtain ⟨a, cap, c0, _⟩ := h.parts
  clear h
  go_enter Tryd.func33, Tryd.ntmps33
  go_wp2_with fail
  go_ret
  exact ⟨rfl, Below.refl _ _⟩
set_option maxRecDepth 100000 in
theorem new_any (w : World) :
    Calls Tryd.prog 49 #[] w fun e w' => e = .returned (.pointer (some ⟨w.heap.size, 0, none⟩)) ∧ CH w' w.heap.size w.heap.size [] ∧ Below w.heap.size w w' := by
  have HC : Hid (CH (w.alloc (.cells #[.slice none 0 0, .int .i64 0] 100)) w.heap.size w.heap.size []) := hide ⟨Nat.le_refl _, .slice none 0 0, 0, alloc_newV w _, OR.nil _ _ _ _, (fun e => by cases e), Nat.le_refl _⟩
  have HB := hide ((Below.refl w.heap.size w).alloc (Nat.le_refl _) (.cells #[.slice none 0 0, .int .i64 0] 100))
  go_enter Tryd.func49, Tryd.ntmps49
  go_wp2_with fail
  go_ret
  exact ⟨rfl, HC.out, HB.out⟩
end Go.Proofs.YtnjjehlfgoggfaaDoor
