/-
  My own text: the law on texts of identifiers: its walk, its row.
-/
import Derived.Test.YtkpmmcekcpbilaaTBase
import Derived.Test.YtkpmmcekcpbilaaRows
import Derived.ProofKit
import Derived.OpenShut
import Derived.ChangeSame
import Derived.JoinedOf
import Derived.HandedShaped
import Derived.SizedLaws
import Derived.ShutString
namespace Go.Proofs.Ytkpmmcekcpbilaa
open Go.ChangeShapes Go.WideShapes Go.ChangeAt Go.RowKit
open Go.ChangeMaps (open_string shut_string)

theorem head_any (l : List UInt8) (n : Nat) (w : World) (hn : 1 ≤ n) (hn2 : n ≤ 100) :
    Calls Try.prog 4 #[.string ⟨l.toArray⟩, .int .i64 (n : Int)] w fun e w' => e = .returned (.string ⟨(l.take n).toArray⟩) ∧ w' = w := by
  by_cases h : l.length ≤ n
  · have HT : Hid (l.take n = l) := List.take_of_length_le h
    rw [HT.out]
    go_enter Try.func4, Try.ntmps4
    go_wp2
    go_ret
    exact ⟨rfl, rfl⟩
  · have hsl := bytes_take l n
    obtain ⟨A, HA⟩ : ∃ A, Hid (l.take n = A) := ⟨_, hide rfl⟩
    rw [HA.out] at hsl ⊢
    have hle : n ≤ l.length := by omega
    go_enter Try.func4, Try.ntmps4
    go_wp2
    go_ret
    exact ⟨rfl, rfl⟩
def sLen : Value → Nat | .string b => b.size | _ => 0
theorem pad_grow {n : Nat} {l : List UInt8} {j : Nat} (h : (l.take n ++ zer j).length = n) : l.take n ++ zer j = pad n l := by
  unfold pad
  rw [List.take_append, List.append_cancel_left_eq]
  unfold zer at h ⊢
  rw [List.take_replicate]
  congr 1
  simp at h
  omega
set_option maxRecDepth 100000 in
set_option maxHeartbeats 1000000 in
theorem text_law (l : List UInt8) (w : World) (hl : l.length ≤ 140737488355320) :
    Calls Try.prog 3 #[.string ⟨l.toArray⟩] w fun e w' => e = .returned (.bool true) ∧ Below w.heap.size w w' := by
  have HH12 := hide (fun W : World => head_any l 12 W (by decide) (by decide))
  have HH20 := hide (fun W : World => head_any l 20 W (by decide) (by decide))
  have HI := hide (fun W : World => lawIsin_any l W (by omega))
  have HL := hide (fun W : World => lawLei_any l W (by omega))
  have HTI := hide (fun W : World => textIsin_any (pad 12 l) W (pad_len 12 l))
  have HTL := hide (fun W : World => textLei_any (pad 20 l) W (pad_len 20 l))
  unfold arr at HI HL
  have HP12 := hide (fun j => pad_grow (n := 12) (l := l) (j := j))
  have HP20 := hide (fun j => pad_grow (n := 20) (l := l) (j := j))
  have HA0 : Hid ((l.take 12).length ≤ 12) := hide (by rw [List.length_take]; omega)
  have HB0 : Hid ((l.take 20).length ≤ 20) := hide (by rw [List.length_take]; omega)
  obtain ⟨A, HA⟩ : ∃ A, Hid (l.take 12 = A) := ⟨_, hide rfl⟩
  obtain ⟨B, HB⟩ : ∃ B, Hid (l.take 20 = B) := ⟨_, hide rfl⟩
  rw [HA.out] at HH12 HP12 HA0
  rw [HB.out] at HH20 HP20 HB0
  obtain ⟨P, HP⟩ : ∃ P, Hid (pad 12 l = P) := ⟨_, hide rfl⟩
  obtain ⟨Q, HQ⟩ : ∃ Q, Hid (pad 20 l = Q) := ⟨_, hide rfl⟩
  rw [HP.out] at HI HTI HP12
  rw [HQ.out] at HL HTL HP20
  clear HA HB HP HQ
  go_enter Try.func3, Try.ntmps3
  go_wp2_with fail
  refine (HH12.out _).mono ?_
  rintro e w1 ⟨rfl, rfl⟩
  go_wp2_with fail
  refine (HH20.out _).mono ?_
  rintro e w2 ⟨rfl, rfl⟩
  go_wp2_with fail
  go_loop [3] (fun v => ∃ (j : Nat) (C : List UInt8), v = .string ⟨C.toArray⟩ ∧ Hid (C = A ++ zer j) ∧ C.length ≤ 12) (fun v => 12 - sLen v)
  case atStart => exact ⟨0, A, rfl, by simp [Hid, zer], HA0.out⟩
  case round =>
    obtain ⟨j, C, rfl, HC, hC⟩ := hrel
    by_cases hlt : C.length < 12
    · have happ : (⟨C.toArray⟩ : ByteArray) ++ ⟨#[0]⟩ = ⟨(C ++ [0]).toArray⟩ := bytes_app C [0]
      have hl1 : (C ++ [0]).length = C.length + 1 := by simp
      obtain ⟨D, HD⟩ : ∃ D, Hid (C ++ [0] = D) := ⟨_, hide rfl⟩
      rw [HD.out] at happ hl1
      have HL1 := hide hl1
      clear hl1
      go_wp2_with fail
      go_round
      case rel => exact ⟨j + 1, D, rfl, by show D = _; rw [← HD.out, HC.out]; unfold zer; rw [List.append_assoc, ← List.replicate_succ'], by rw [HL1.out]; omega⟩
      case measure => simp [sLen, bytes_size, HL1.out]; omega
    · have hCP : C = P := by rw [HC.out]; exact HP12.out j (by rw [← HC.out]; omega)
      subst hCP
      clear HC HP12
      go_wp2_with fail
      go_loop [4] (fun v => ∃ (j : Nat) (E : List UInt8), v = .string ⟨E.toArray⟩ ∧ Hid (E = B ++ zer j) ∧ E.length ≤ 20) (fun v => 20 - sLen v)
      case atStart => exact ⟨0, B, rfl, by simp [Hid, zer], HB0.out⟩
      case round =>
        obtain ⟨j, E, rfl, HE, hE⟩ := hrel
        by_cases hlt2 : E.length < 20
        · have happ : (⟨E.toArray⟩ : ByteArray) ++ ⟨#[0]⟩ = ⟨(E ++ [0]).toArray⟩ := bytes_app E [0]
          have hl1 : (E ++ [0]).length = E.length + 1 := by simp
          obtain ⟨D, HD⟩ : ∃ D, Hid (E ++ [0] = D) := ⟨_, hide rfl⟩
          rw [HD.out] at happ hl1
          have HL1 := hide hl1
          clear hl1
          go_wp2_with fail
          go_round
          case rel => exact ⟨j + 1, D, rfl, by show D = _; rw [← HD.out, HE.out]; unfold zer; rw [List.append_assoc, ← List.replicate_succ'], by rw [HL1.out]; omega⟩
          case measure => simp [sLen, bytes_size, HL1.out]; omega
        · have hEQ : E = Q := by rw [HE.out]; exact HP20.out j (by rw [← HE.out]; omega)
          subst hEQ
          clear HE HP20
          go_wp2_with fail
          refine (HI.out _).mono ?_
          rintro e w3 ⟨rfl, hb3⟩
          go_wp2_with fail
          refine (HTI.out _).mono ?_
          rintro e w4 ⟨rfl, hb4⟩
          have hB4 := hb3.trans (hb4.mono hb3.size)
          go_wp2_with fail
          refine (HL.out _).mono ?_
          rintro e w5 ⟨rfl, hb5⟩
          have hB5 := hB4.trans (hb5.mono hB4.size)
          go_wp2_with fail
          refine (HTL.out _).mono ?_
          rintro e w6 ⟨rfl, hb6⟩
          go_wp2_with fail
          go_ret
          exact ⟨rfl, hB5.trans (hb6.mono hB5.size)⟩

theorem Try.own : ownKnob Try.prog.godebug = none := by kernel_rfl
set_option maxRecDepth 100000 in
theorem codesText_lifted (os : Os) (started : os.Started) (H : Type) (enc : TypeId × Value → H) :
    ReturnsInHanded {} Try.checked os 3 .any (Rows.codesTextSpec.pre6 enc Try.prog Try.f3 [] false) (Rows.codesTextSpec.post enc Try.prog Try.f3 false true false false) := by
  refine returnsInHanded_of_change_shaped (C := Try.checked) Try.own started (by kernel_rfl) Try.func3
    (ChangeSpec.witness6 (enc := enc) (C := Try.checked) false ⟨#[], #[.string ⟨#[]⟩], []⟩ 8 (by kernel_rfl) (by kernel_rfl) (by kernel_rfl) (by kernel_rfl)) ?_
  intro W base args ds gs before hval0 hW _ hsz0 _ _
  have hsz : (DataW.weightsEach Try.prog (Try.f3.params.toList ++ Rows.codesTextSpec.plain.varTypes Try.prog) (ds ++ gs)).all (· ≤ reachBytes) = true := hsz0
  clear hsz0
  have hval : ∀ (j : Nat) t v, Try.f3.params[j]? = some t → args[j]? = some v → Value.okWide Try.prog W .any base t v := hval0
  have hW' := hW
  obtain ⟨p, q, hA0, hV, rfl, hfz, hnd⟩ := hW
  have hA : DataW.TrodAll enc Try.prog W 0 (fun _ => true) true Try.f3.params.toList args.toList ds p := hA0
  rw [Try.params3] at hA hval hsz
  obtain ⟨v0, d0, rfl, rfl, h0⟩ := trodAll_one hA
  obtain ⟨rfl, rfl⟩ := trodVars_none hV
  obtain ⟨ls, rfl, rfl, rfl, hls⟩ := open_string Try.underlying9 (hval 0 9 v0 rfl rfl) h0
  have hlen := sized_string hsz (j := 0) (t := 9) (bytes := ls.data.toList) rfl rfl
  obtain ⟨⟨l⟩⟩ := ls
  have hl : l.length ≤ 140737488355320 := by
    have : l.length ≤ reachBytes := hlen
    unfold reachBytes at this; omega
  clear hA0 hval0
  have e1 : Rows.codesTextSpec.fn H ([.lit (.string (ByteArray.mk (Array.mk l)).data.toList)] ++ []) = { results := [.lit (.bool true)], args := [.lit (.string (ByteArray.mk (Array.mk l)).data.toList)] } := by simp [Rows.codesTextSpec]
  refine (text_law l W hl).mono fun e W' ⟨he, hw⟩ => ?_
  subst he
  refine ⟨_, rfl, _, _, _, [], [], [], hW', ?_, ?_, ?_, hw.frame _, fun h => by cases h⟩
  · rw [e1]; exact trodAll_mk1 (shut_bool Try.underlying4 true)
  · rw [e1]; exact trodAll_mk1 (shut_string Try.underlying9 hls)
  · rw [e1]; rfl
theorem codesText_holds : Rows.CodesTextSaid :=
  OpenClaim.holds_of_wide 3 Try.f3 rfl rfl rfl rfl rfl rfl rfl ⟨rfl, rfl, rfl, rfl, rfl⟩ rfl rfl rfl rfl rfl (by kernel_rfl) Try.func3 (by kernel_rfl)
    (of_decide_eq_true (by kernel_rfl)) (by unfold Func.isWrapper; rw [if_neg (of_decide_eq_false (by kernel_rfl))]; exact ⟨rfl, rfl⟩)
    (fun os started H enc _ => codesText_lifted os started H enc)
#print axioms codesText_holds
end Go.Proofs.Ytkpmmcekcpbilaa
