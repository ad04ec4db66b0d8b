/-
  My own text: texts, each call of a text, the same text so many times.
-/
import Derived.Test.YtkpmmcekcpbilaaDoorC6
import Derived.Test.YtkpmmcekcpbilaaDoorC10
namespace Go.Proofs.YtkpmmcekcpbilaaDoor
open Go.RowKit

theorem head_any (l : List UInt8) (n : Nat) (w : World) (hn : 1 ≤ n) (hn2 : n ≤ 100) :
    Calls Tryd.prog 59 #[.string ⟨l.toArray⟩, .int .i64 (n : Int)] w fun e w' => e = .returned (.string ⟨(l.take n).toArray⟩) ∧ w' = w := by
  by_cases h : l.length ≤ n
  · have HT : Hid (l.take n = l) := List.take_of_length_le h
    rw [HT.out]
    go_enter Tryd.func59, Tryd.ntmps59
    go_wp2
    go_ret
    exact ⟨rfl, rfl⟩
  · have hsl := bytes_take l n
    obtain ⟨A, HA⟩ : ∃ A, Hid (l.take n = A) := ⟨_, hide rfl⟩
    rw [HA.out] at hsl ⊢
    have hle : n ≤ l.length := by omega
    go_enter Tryd.func59, Tryd.ntmps59
    go_wp2
    go_ret
    exact ⟨rfl, rfl⟩
def sLen : Value → Nat | .string b => b.size | _ => 0
theorem pad_grow {n : Nat} {l : List UInt8} {j : Nat} (h : (l.take n ++ zer j).length = n) : l.take n ++ zer j = pad n l := by
  unfold pad
  rw [List.take_append, List.append_cancel_left_eq]
  unfold zer at h ⊢
  rw [List.take_replicate]
  congr 1
  simp at h
  omega
set_option maxRecDepth 100000 in
set_option maxHeartbeats 1000000 in
theorem text_law (l : List UInt8) (w : World) (hl : l.length ≤ 140737488355320) :
    Calls Tryd.prog 52 #[.string ⟨l.toArray⟩] w fun e w' => e = .returned (.bool true) ∧ Below w.heap.size w w' := by
  have HH12 := hide (fun W : World => head_any l 12 W (by decide) (by decide))
  have HH20 := hide (fun W : World => head_any l 20 W (by decide) (by decide))
  have HI := hide (fun W : World => lawIsin_any l W (by omega))
  have HL := hide (fun W : World => lawLei_any l W (by omega))
  have HTI := hide (fun W : World => textIsin_any (pad 12 l) W (pad_len 12 l))
  have HTL := hide (fun W : World => textLei_any (pad 20 l) W (pad_len 20 l))
  unfold arr at HI HL
  have HP12 := hide (fun j => pad_grow (n := 12) (l := l) (j := j))
  have HP20 := hide (fun j => pad_grow (n := 20) (l := l) (j := j))
  have HA0 : Hid ((l.take 12).length ≤ 12) := hide (by rw [List.length_take]; omega)
  have HB0 : Hid ((l.take 20).length ≤ 20) := hide (by rw [List.length_take]; omega)
  obtain ⟨A, HA⟩ : ∃ A, Hid (l.take 12 = A) := ⟨_, hide rfl⟩
  obtain ⟨B, HB⟩ : ∃ B, Hid (l.take 20 = B) := ⟨_, hide rfl⟩
  rw [HA.out] at HH12 HP12 HA0
  rw [HB.out] at HH20 HP20 HB0
  obtain ⟨P, HP⟩ : ∃ P, Hid (pad 12 l = P) := ⟨_, hide rfl⟩
  obtain ⟨Q, HQ⟩ : ∃ Q, Hid (pad 20 l = Q) := ⟨_, hide rfl⟩
  rw [HP.out] at HI HTI HP12
  rw [HQ.out] at HL HTL HP20
  clear HA HB HP HQ
  go_enter Tryd.func52, Tryd.ntmps52
  go_wp2_with fail
  refine (HH12.out _).mono ?_
  rintro e w1 ⟨rfl, rfl⟩
  go_wp2_with fail
  refine (HH20.out _).mono ?_
  rintro e w2 ⟨rfl, rfl⟩
  go_wp2_with fail
  go_loop [3] (fun v => ∃ (j : Nat) (C : List UInt8), v = .string ⟨C.toArray⟩ ∧ Hid (C = A ++ zer j) ∧ C.length ≤ 12) (fun v => 12 - sLen v)
  case atStart => exact ⟨0, A, rfl, by simp [Hid, zer], HA0.out⟩
  case round =>
    obtain ⟨j, C, rfl, HC, hC⟩ := hrel
    by_cases hlt : C.length < 12
    · have happ : (⟨C.toArray⟩ : ByteArray) ++ ⟨#[0]⟩ = ⟨(C ++ [0]).toArray⟩ := bytes_app C [0]
      have hl1 : (C ++ [0]).length = C.length + 1 := by simp
      obtain ⟨D, HD⟩ : ∃ D, Hid (C ++ [0] = D) := ⟨_, hide rfl⟩
      rw [HD.out] at happ hl1
      have HL1 := hide hl1
      clear hl1
      go_wp2_with fail
      go_round
      case rel => exact ⟨j + 1, D, rfl, by show D = _; rw [← HD.out, HC.out]; unfold zer; rw [List.append_assoc, ← List.replicate_succ'], by rw [HL1.out]; omega⟩
      case measure => simp [sLen, bytes_size, HL1.out]; omega
    · have hCP : C = P := by rw [HC.out]; exact HP12.out j (by rw [← HC.out]; omega)
      subst hCP
      clear HC HP12
      go_wp2_with fail
      go_loop [4] (fun v => ∃ (j : Nat) (E : List UInt8), v = .string ⟨E.toArray⟩ ∧ Hid (E = B ++ zer j) ∧ E.length ≤ 20) (fun v => 20 - sLen v)
      case atStart => exact ⟨0, B, rfl, by simp [Hid, zer], HB0.out⟩
      case round =>
        obtain ⟨j, E, rfl, HE, hE⟩ := hrel
        by_cases hlt2 : E.length < 20
        · have happ : (⟨E.toArray⟩ : ByteArray) ++ ⟨#[0]⟩ = ⟨(E ++ [0]).toArray⟩ := bytes_app E [0]
          have hl1 : (E ++ [0]).length = E.length + 1 := by simp
          obtain ⟨D, HD⟩ : ∃ D, Hid (E ++ [0] = D) := ⟨_, hide rfl⟩
          rw [HD.out] at happ hl1
          have HL1 := hide hl1
          clear hl1
          go_wp2_with fail
          go_round
          case rel => exact ⟨j + 1, D, rfl, by show D = _; rw [← HD.out, HE.out]; unfold zer; rw [List.append_assoc, ← List.replicate_succ'], by rw [HL1.out]; omega⟩
          case measure => simp [sLen, bytes_size, HL1.out]; omega
        · have hEQ : E = Q := by rw [HE.out]; exact HP20.out j (by rw [← HE.out]; omega)
          subst hEQ
          clear HE HP20
          go_wp2_with fail
          refine (HI.out _).mono ?_
          rintro e w3 ⟨rfl, hb3⟩
          go_wp2_with fail
          refine (HTI.out _).mono ?_
          rintro e w4 ⟨rfl, hb4⟩
          have hB4 := hb3.trans (hb4.mono hb3.size)
          go_wp2_with fail
          refine (HL.out _).mono ?_
          rintro e w5 ⟨rfl, hb5⟩
          have hB5 := hB4.trans (hb5.mono hB4.size)
          go_wp2_with fail
          refine (HTL.out _).mono ?_
          rintro e w6 ⟨rfl, hb6⟩
          go_wp2_with fail
          go_ret
          exact ⟨rfl, hB5.trans (hb6.mono hB5.size)⟩


set_option maxHeartbeats 1000000 in
theorem every_any (l : List UInt8) (w : World) (hE : ErrType w) (hO : HeadOffice w) (hl : l.length ≤ 1000) :
    Calls Tryd.prog 41 #[.string ⟨l.toArray⟩] w fun e w' => e = .returned (.bool true) ∧ Below w.heap.size w w' := by
  have HE := hide hE
  have HO := hide hO
  have H1 := hide (fun (W : World) (hW : ErrType W) => isin_law l W hW (by omega))
  have H2 := hide (fun (W : World) (hW : ErrType W) => lei_law l W hW (by omega))
  have H3 := hide (fun (W : World) (hW : ErrType W) (hO : HeadOffice W) => forms_law l W hW hO (by omega))
  have H4 := hide (fun W : World => text_law l W (by omega))
  clear hE hO
  go_enter Tryd.func41, Tryd.ntmps41
  go_wp2_with fail
  refine (H1.out _ HE.out).mono ?_
  rintro e w1 ⟨rfl, hb1⟩
  have HB1 := hide hb1
  clear hb1
  go_wp2_with fail
  refine (H2.out _ (HE.out.below HB1.out)).mono ?_
  rintro e w2 ⟨rfl, hb2⟩
  have HB2 := hide (HB1.out.trans (hb2.mono HB1.out.size))
  clear hb2
  go_wp2_with fail
  refine (H3.out _ (HE.out.below HB2.out) (HO.out.below HB2.out)).mono ?_
  rintro e w3 ⟨rfl, hb3⟩
  have HB3 := hide (HB2.out.trans (hb3.mono HB2.out.size))
  clear hb3
  go_wp2_with fail
  refine (H4.out _).mono ?_
  rintro e w4 ⟨rfl, hb4⟩
  go_wp2_with fail
  go_ret
  exact ⟨rfl, HB3.out.trans (hb4.mono HB3.out.size)⟩
set_option maxRecDepth 100000 in
set_option maxHeartbeats 1000000 in
theorem times_any (x : UInt8) (n : Nat) (w : World) (hn : n ≤ 100) :
    Calls Tryd.prog 42 #[.string ⟨#[x]⟩, .int .i64 (n : Int)] w fun e w' => e = .returned (.string ⟨(List.replicate n x).toArray⟩) ∧ w' = w := by
  go_enter Tryd.func42, Tryd.ntmps42
  go_wp2_with fail
  go_loop [5, 6] (fun v i => ∃ (k : Nat) (L : List UInt8), k ≤ n ∧ i = .int .i64 (k : Int) ∧ v = .string ⟨L.toArray⟩ ∧ Hid (L = List.replicate k x) ∧ L.length ≤ 100) (fun _ i => n - (intOf i).toNat)
  case atStart => exact ⟨0, [], Nat.zero_le _, rfl, rfl, hide rfl, by simp⟩
  case round =>
    obtain ⟨k, L, hk, rfl, rfl, HL, hL⟩ := hrel
    by_cases hlt : k < n
    · have happ : (⟨L.toArray⟩ : ByteArray) ++ ⟨#[x]⟩ = ⟨(L ++ [x]).toArray⟩ := bytes_app L [x]
      have HN : Hid (L ++ [x] = List.replicate (k + 1) x) := by show _ = _; rw [HL.out, ← List.replicate_succ']
      have HNL : Hid ((L ++ [x]).length ≤ 100) := by show _ ≤ _; rw [HN.out, List.length_replicate]; omega
      obtain ⟨D, HD⟩ : ∃ D, Hid (L ++ [x] = D) := ⟨_, hide rfl⟩
      rw [HD.out] at happ HN HNL
      go_wp2_with fail
      go_round
      case rel => exact ⟨k + 1, D, by omega, by go_num, rfl, HN, HNL.out⟩
      case measure => simp [intOf]; omega
    · have hk' : k = n := by omega
      subst hk'
      go_wp2_with fail
      go_ret
      exact ⟨ret_v (by rw [HL.out]; rfl), rfl⟩
end Go.Proofs.YtkpmmcekcpbilaaDoor
