/-
  My own text: so many great letters and digits, out of any bytes.
-/
import Derived.Test.YtnpaamkoonlkpaaT7
namespace Go.Proofs.Ytnpaamkoonlkpaa
open Go.RowKit

def g36 : List UInt8 := [65, 66, 67, 68, 69, 70, 71, 72, 73, 74, 75, 76, 77, 78, 79, 80, 81, 82, 83, 84, 85, 86, 87, 88, 89, 90, 48, 49, 50, 51, 52, 53, 54, 55, 56, 57]
theorem g36_sg : g36.all sg = true := by decide
theorem wrap_byte (c : UInt8) : wrap64 (c.toNat : Int) = (c.toNat : Int) := by
  have := c.toNat_lt
  unfold wrap64; omega
def strL : Value → Nat | .string b => b.size | _ => 0
set_option maxRecDepth 100000 in
set_option maxHeartbeats 2000000 in
theorem great_any (s : List UInt8) (a b : Nat) (w : World) (hs : s.length ≤ 140737488355328) (hab : a ≤ b) (hb : b ≤ 16) :
    Calls Try.prog 9 #[.string ⟨s.toArray⟩, .int .i64 (a : Int), .int .i64 (b : Int)] w fun e w' => (∃ o : List UInt8, e = .returned (.string ⟨o.toArray⟩) ∧ o.all sg = true ∧ a ≤ o.length ∧ o.length ≤ b) ∧ Below w.heap.size w w' := by
  go_enter Try.func9, Try.ntmps9
  go_wp2_with fail
  go_loopw [8, 9] (fun o i wr => ∃ C : List UInt8, o = .string ⟨C.toArray⟩ ∧ i = .int .i64 (C.length : Int) ∧ C.length ≤ b ∧ Hid (C.all sg = true) ∧ Hid (Below w.heap.size w wr)) (fun o _ _ => b - strL o)
  case atStart => exact ⟨[], rfl, rfl, Nat.zero_le _, hide rfl, hide (Below.refl _ _)⟩
  case round =>
    obtain ⟨C, rfl, rfl, hC, HA, HB⟩ := hrel
    by_cases h1 : C.length < s.length
    · by_cases h2 : C.length < b
      · have hs1 : C.length < (⟨s.toArray⟩ : ByteArray).size := by rw [bytes_size]; exact h1
        obtain ⟨c, hc⟩ : ∃ c, (⟨s.toArray⟩ : ByteArray)[C.length]'hs1 = c := ⟨_, rfl⟩
        obtain ⟨k, hk, hk36⟩ : ∃ k : Nat, (wrap64 (c.toNat : Int)).tmod 36 = (k : Int) ∧ k < 36 := ⟨c.toNat % 36, by rw [wrap_byte, Int.tmod_eq_emod_of_nonneg (by omega)]; omega, Nat.mod_lt _ (by omega)⟩
        have hk1 : k < (⟨#[65, 66, 67, 68, 69, 70, 71, 72, 73, 74, 75, 76, 77, 78, 79, 80, 81, 82, 83, 84, 85, 86, 87, 88, 89, 90, 48, 49, 50, 51, 52, 53, 54, 55, 56, 57]⟩ : ByteArray).size := hk36
        obtain ⟨x, hx⟩ : ∃ x, (⟨#[65, 66, 67, 68, 69, 70, 71, 72, 73, 74, 75, 76, 77, 78, 79, 80, 81, 82, 83, 84, 85, 86, 87, 88, 89, 90, 48, 49, 50, 51, 52, 53, 54, 55, 56, 57]⟩ : ByteArray)[k]'hk1 = x := ⟨_, rfl⟩
        have HX : Hid (sg x = true) := by
          show _ = _
          have : x = g36[k]'hk36 := hx.symm
          rw [this]
          exact List.all_eq_true.1 g36_sg _ (List.getElem_mem hk36)
        have hcv : (convert 43 9 (.slice (some ⟨wr.heap.size, 0, none⟩) 1 1)).run Try.prog (wr.alloc (.cells #[.int .u8 (x.toNat : Int)] 5)) = .ok (.string ⟨#[x]⟩) (wr.alloc (.cells #[.int .u8 (x.toNat : Int)] 5)) :=
          run_convert_bytes_back (P := Try.prog) (wr.alloc (.cells #[.int .u8 (x.toNat : Int)] 5)) 43 9 5 ⟨wr.heap.size, 0, none⟩ 1 [x] Try.underlying43 Try.underlying5 Try.underlying9 (fun j hj => by
            match j, hj with
            | 0, _ => simp [Addr.add])
        obtain ⟨D, happ, HD, hDl⟩ : ∃ D : List UInt8, (⟨C.toArray⟩ : ByteArray) ++ ⟨#[x]⟩ = ⟨D.toArray⟩ ∧ Hid (D.all sg = true) ∧ D.length = C.length + 1 := ⟨C ++ [x], by apply ByteArray.ext; simp, hide (by rw [List.all_append, HA.out]; simp [HX.out]), by simp⟩
        have HDL := hide hDl
        have B1 := hide (HB.out.alloc HB.out.size (.cells #[.int .u8 (x.toNat : Int)] 5))
        clear hDl HX
        go_wp2_with fail
        go_roundw
        case rel => exact ⟨D, rfl, by rw [HDL.out]; go_num, by rw [HDL.out]; omega, HD, B1⟩
        case measure => simp [strL, bytes_size, HDL.out]; omega
      · skip
        go_wp2_with fail
        go_loopw [8] (fun o wr => ∃ E : List UInt8, o = .string ⟨E.toArray⟩ ∧ E.length ≤ b ∧ Hid (E.all sg = true) ∧ Hid (Below w.heap.size w wr)) (fun o _ => a - strL o)
        case atStart => exact ⟨C, rfl, hC, HA, HB⟩
        case round =>
          clear HB HA
          obtain ⟨E, rfl, hE, HA, HB⟩ := hrel
          by_cases h3 : E.length < a
          · obtain ⟨D, happ, HD, hDl⟩ : ∃ D : List UInt8, (⟨E.toArray⟩ : ByteArray) ++ ⟨#[65]⟩ = ⟨D.toArray⟩ ∧ Hid (D.all sg = true) ∧ D.length = E.length + 1 := ⟨E ++ [65], by apply ByteArray.ext; simp, hide (by rw [List.all_append, HA.out]; decide), by simp⟩
            have HDL := hide hDl
            clear hDl
            go_wp2_with fail
            go_roundw
            case rel => exact ⟨D, rfl, by rw [HDL.out]; omega, HD, HB⟩
            case measure => simp [strL, bytes_size, HDL.out]; omega
          · go_wp2_with fail
            go_ret
            exact ⟨⟨E, rfl, HA.out, by omega, hE⟩, HB.out⟩
    · skip
      go_wp2_with fail
      go_loopw [8] (fun o wr => ∃ E : List UInt8, o = .string ⟨E.toArray⟩ ∧ E.length ≤ b ∧ Hid (E.all sg = true) ∧ Hid (Below w.heap.size w wr)) (fun o _ => a - strL o)
      case atStart => exact ⟨C, rfl, hC, HA, HB⟩
      case round =>
        clear HB HA
        obtain ⟨E, rfl, hE, HA, HB⟩ := hrel
        by_cases h3 : E.length < a
        · obtain ⟨D, happ, HD, hDl⟩ : ∃ D : List UInt8, (⟨E.toArray⟩ : ByteArray) ++ ⟨#[65]⟩ = ⟨D.toArray⟩ ∧ Hid (D.all sg = true) ∧ D.length = E.length + 1 := ⟨E ++ [65], by apply ByteArray.ext; simp, hide (by rw [List.all_append, HA.out]; decide), by simp⟩
          have HDL := hide hDl
          clear hDl
          go_wp2_with fail
          go_roundw
          case rel => exact ⟨D, rfl, by rw [HDL.out]; omega, HD, HB⟩
          case measure => simp [strL, bytes_size, HDL.out]; omega
        · go_wp2_with fail
          go_ret
          exact ⟨⟨E, rfl, HA.out, by omega, hE⟩, HB.out⟩
end Go.Proofs.Ytnpaamkoonlkpaa
