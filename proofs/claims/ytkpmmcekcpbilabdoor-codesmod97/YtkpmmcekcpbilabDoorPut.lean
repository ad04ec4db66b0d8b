/-
  My own text: a text with another byte at a place, or with two neighbours that have changed places; a place out of any number.
-/
import Derived.Test.YtkpmmcekcpbilabDoorC9
namespace Go.Proofs.YtkpmmcekcpbilabDoor
open Go.RowKit

/-- a text with another byte at a place -/
def putL (l : List UInt8) (k : Nat) (c : UInt8) : List UInt8 := l.take k ++ [c] ++ l.drop (k + 1)
theorem putL_len {l : List UInt8} {k : Nat} {c : UInt8} (h : k < l.length) : (putL l k c).length = l.length := by
  unfold putL; simp; omega
set_option maxRecDepth 100000 in
set_option maxHeartbeats 2000000 in
theorem put_any (l : List UInt8) (k : Nat) (c : UInt8) (w : World) (hk : k < l.length) (hl : l.length ≤ 100) :
    Calls Tryd.prog 10 #[.string ⟨l.toArray⟩, .int .i64 (k : Int), .int .u8 (c.toNat : Int)] w fun e w' => e = .returned (.string ⟨(putL l k c).toArray⟩) ∧ Below w.heap.size w w' := by
  have hk2 : k ≤ l.length := by omega
  have hk3 : k + 1 ≤ l.length := by omega
  have hsl := bytes_take l k
  have hsd := bytes_drop l (k + 1) l.length rfl
  have hcv : (convert 27 9 (.slice (some ⟨w.heap.size, 0, none⟩) 1 1)).run Tryd.prog (w.alloc (.cells #[.int .u8 (c.toNat : Int)] 5)).drew = .ok (.string ⟨#[c]⟩) (w.alloc (.cells #[.int .u8 (c.toNat : Int)] 5)).drew :=
    run_convert_bytes_back (P := Tryd.prog) (w.alloc (.cells #[.int .u8 (c.toNat : Int)] 5)).drew 27 9 5 ⟨w.heap.size, 0, none⟩ 1 [c] Tryd.underlying27 Tryd.underlying5 Tryd.underlying9 (fun j hj => by
      match j, hj with
      | 0, _ => simp [Addr.add])
  obtain ⟨A, HA, ha⟩ : ∃ A, Hid (l.take k = A) ∧ A.length ≤ 100 := ⟨_, hide rfl, by rw [List.length_take]; omega⟩
  obtain ⟨D, HD, hd⟩ : ∃ D, Hid (l.drop (k + 1) = D) ∧ D.length ≤ 100 := ⟨_, hide rfl, by rw [List.length_drop]; omega⟩
  rw [HA.out] at hsl
  rw [HD.out] at hsd
  have happ1 : (⟨A.toArray⟩ : ByteArray) ++ ⟨#[c]⟩ = ⟨(A ++ [c]).toArray⟩ := bytes_app A [c]
  have hb : (A ++ [c]).length ≤ 101 := by simp; omega
  have happ2 : (⟨(A ++ [c]).toArray⟩ : ByteArray) ++ ⟨D.toArray⟩ = ⟨(A ++ [c] ++ D).toArray⟩ := bytes_app (A ++ [c]) D
  unfold putL
  rw [HA.out, HD.out]
  obtain ⟨B, HB⟩ : ∃ B, Hid (A ++ [c] = B) := ⟨_, hide rfl⟩
  rw [HB.out] at happ1 happ2 hb ⊢
  obtain ⟨R, HR⟩ : ∃ R, Hid (B ++ D = R) := ⟨_, hide rfl⟩
  rw [HR.out] at happ2 ⊢
  clear HA HD HB HR
  go_enter Tryd.func10, Tryd.ntmps10
  go_wp2_with fail
  go_region
  all_goals
    go_wp2_with fail
    go_ret
    exact ⟨rfl, ((Below.refl _ _).alloc (Nat.le_refl _) _).drew⟩
end Go.Proofs.YtkpmmcekcpbilabDoor
