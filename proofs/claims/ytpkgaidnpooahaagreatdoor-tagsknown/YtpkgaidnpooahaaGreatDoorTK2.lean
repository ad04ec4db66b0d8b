/-
  My own text: the closed law on tags: each byte in each place.
-/
import Derived.Test.YtpkgaidnpooahaaGreatDoorTKB
import Derived.Deep.RegionHeld3
namespace Go.Proofs.YtpkgaidnpooahaaGreatDoor
open Go.RowKit

theorem cv_one (W : World) (y : UInt8) : (convert 34 9 (.slice (some ⟨W.heap.size, 0, none⟩) 1 1)).run Tryz.prog (W.alloc (.cells #[.int .u8 (y.toNat : Int)] 5)) = .ok (.string ⟨#[y]⟩) (W.alloc (.cells #[.int .u8 (y.toNat : Int)] 5)) :=
  run_convert_bytes_back (P := Tryz.prog) (W.alloc (.cells #[.int .u8 (y.toNat : Int)] 5)) 34 9 5 ⟨W.heap.size, 0, none⟩ 1 [y] Tryz.underlying34 Tryz.underlying5 Tryz.underlying9 (fun j hj => by
    match j, hj with
    | 0, _ => simp [Addr.add])
theorem cv_oneD (W : World) (y : UInt8) : (convert 34 9 (.slice (some ⟨W.heap.size, 0, none⟩) 1 1)).run Tryz.prog (W.alloc (.cells #[.int .u8 (y.toNat : Int)] 5)).drew = .ok (.string ⟨#[y]⟩) (W.alloc (.cells #[.int .u8 (y.toNat : Int)] 5)).drew :=
  run_convert_bytes_back (P := Tryz.prog) (W.alloc (.cells #[.int .u8 (y.toNat : Int)] 5)).drew 34 9 5 ⟨W.heap.size, 0, none⟩ 1 [y] Tryz.underlying34 Tryz.underlying5 Tryz.underlying9 (fun j hj => by
    match j, hj with
    | 0, _ => simp [Addr.add])
def byL : List (List UInt8) := [[58, 50, 48, 67, 58, 58, 83, 69, 77, 69, 47, 47, 65, 10], [58, 50, 48, 58, 65, 66, 10], [58, 50, 48, 67, 58, 65, 10, 66, 67, 10], [58, 49, 54, 82, 58, 78, 65, 77, 69, 10, 58, 49, 54, 83, 58, 78, 65, 77, 69, 10], [58, 49, 54, 82, 58, 78, 10, 58, 50, 50, 65, 58, 88, 10, 58, 49, 54, 83, 58, 78, 10]]
def btL (y : UInt8) : List (Tr × Value) := [(.mk ⟨[y], [], [], []⟩ [], .slice none 0 0), (.mk ⟨[50, y], [], [], []⟩ [], .slice none 0 0), (.mk ⟨[50, 48, y], [], [], []⟩ [], .slice none 0 0), (.mk ⟨[50, 48], [65, 66, y, 68], [], []⟩ [], .slice none 0 0), (.mk ⟨[50, 48], [], [y], []⟩ [], .slice none 0 0), (.mk ⟨[50, 48], [], [97, y], []⟩ [], .slice none 0 0), (.mk ⟨[50, 48], [], [97, 10, y], []⟩ [], .slice none 0 0), (.mk ⟨[50, 48], [65, 66, 67, 68], [y], []⟩ [], .slice none 0 0), (.mk ⟨[], [], [], [y]⟩ [], .slice none 0 0), (.mk ⟨[], [], [], [65, y]⟩ [], .slice none 0 0), (.mk ⟨[], [y], [], [65]⟩ [], .slice none 0 0), (.mk ⟨[], [], [y], [65]⟩ [], .slice none 0 0)]
theorem btL_len (y : UInt8) : ((btL y).map (·.1)).length = 12 := rfl
theorem btL_wts (y : UInt8) : wts ((btL y).map (·.1)) ≤ 1000 := by simp [btL, wts, Tr.wt]
theorem btL_kids (y : UInt8) : ∀ p ∈ btL y, p.2 = .slice none 0 0 ∧ p.1.kids = [] := by
  intro p hp
  simp only [btL, List.mem_cons, List.not_mem_nil, or_false] at hp
  rcases hp with rfl | rfl | rfl | rfl | rfl | rfl | rfl | rfl | rfl | rfl | rfl | rfl <;> exact ⟨rfl, rfl⟩
theorem ap2 (a y : UInt8) : (⟨#[a]⟩ : ByteArray) ++ ⟨#[y]⟩ = ⟨#[a, y]⟩ := by apply ByteArray.ext; simp
theorem ap3 (a b y : UInt8) : (⟨#[a, b]⟩ : ByteArray) ++ ⟨#[y]⟩ = ⟨#[a, b, y]⟩ := by apply ByteArray.ext; simp
theorem ap4 (a b c y : UInt8) : (⟨#[a, b, c]⟩ : ByteArray) ++ ⟨#[y]⟩ = ⟨#[a, b, c, y]⟩ := by apply ByteArray.ext; simp
set_option maxRecDepth 100000 in
set_option maxHeartbeats 8000000 in
theorem bytesK_any (w : World) (hL : KL w) :
    Calls Tryz.prog 5 #[] w fun e w' => e = .returned (.bool true) ∧ Below w.heap.size w w' := by
  have HL := hide hL
  have HB0 : Hid (Below w.heap.size w (w.alloc (.cells (byL.map fun x => Value.string ⟨x.toArray⟩).toArray 9))) := hide ((Below.refl _ _).alloc (Nat.le_refl _) _)
  have HS0 : Hid (ST (w.alloc (.cells (byL.map fun x => Value.string ⟨x.toArray⟩).toArray 9)) w.heap.size byL) := hide (ST.new w byL 9)
  have HLN : Hid (∀ k : Nat, k < 5 → ∃ l : List UInt8, byL[k]? = some l ∧ l.length ≤ 1000) := hide (by decide)
  clear hL
  go_enter Tryz.func5, Tryz.ntmps5
  go_wp2_with fail
  go_loopw [12] (fun i wr => ∃ k : Nat, k ≤ 5 ∧ i = .int .i64 k ∧ Hid (Below w.heap.size w wr) ∧ Hid (ST wr w.heap.size byL)) (fun i _ => 5 - (intOf i).toNat)
  case atStart => exact ⟨0, Nat.zero_le _, rfl, HB0, HS0⟩
  case round =>
    clear HB0 HS0
    obtain ⟨k, hk, rfl, HB, HS⟩ := hrel
    by_cases hkl : k < 5
    · have hd1 : decide ((k : Int) < 5) = true := by rw [decide_eq_true_eq]; omega
      obtain ⟨x, hx, x1⟩ := HLN.out k hkl
      have hxc := HS.out.2 k x hx
      have k0 : (0 : Int) ≤ (k : Int) := by omega
      have k1 : (k : Int) < 5 := by omega
      go_wp2_with fail
      clear hxc hx
      go_loopw [3] (fun i wr => ∃ j : Nat, j ≤ x.length + 1 ∧ i = .int .i64 j ∧ Hid (Below w.heap.size w wr) ∧ Hid (ST wr w.heap.size byL)) (fun i _ => x.length + 1 - (intOf i).toNat)
      case atStart => exact ⟨0, Nat.zero_le _, rfl, HB, HS⟩
      case round =>
        clear HB HS
        obtain ⟨j, hj, rfl, HB, HS⟩ := hrel
        by_cases hjl : j ≤ x.length
        · have hd2 : decide ((j : Int) ≤ (x.length : Int)) = true := by rw [decide_eq_true_eq]; omega
          go_wp2_with fail
          go_loopw [4] (fun i wr => ∃ c : Nat, c ≤ 256 ∧ i = .int .i64 c ∧ Hid (Below w.heap.size w wr) ∧ Hid (ST wr w.heap.size byL)) (fun i _ => 256 - (intOf i).toNat)
          case atStart => exact ⟨0, Nat.zero_le _, rfl, HB, HS⟩
          case round =>
            clear HB HS
            obtain ⟨c, hc, rfl, HB, HS⟩ := hrel
            by_cases hcl : c < 256
            · have hd3 : decide ((c : Int) < 256) = true := by rw [decide_eq_true_eq]; omega
              obtain ⟨y, hy⟩ : ∃ y : UInt8, IntKind.u8.wrap (c : Int) = (y.toNat : Int) := ⟨UInt8.ofNat c, by rw [IntKind.wrap_u8, UInt8.toNat_ofNat']; omega⟩
              have hcv := cv_oneD wr y
              have HCV := hide (fun W : World => cv_one W y)
              have j0 : (0 : Int) ≤ (j : Int) := by omega
              have j1 : (j : Int) ≤ (x.length : Int) := by omega
              have HB1 := hide ((HB.out.alloc HB.out.size (.cells #[.int .u8 (y.toNat : Int)] 5)).drew)
              have HS1 := hide (HS.out.low (((Below.refl wr.heap.size wr).alloc (Nat.le_refl _) (.cells #[.int .u8 (y.toNat : Int)] 5)).drew))
              go_wp2_with fail
              go_region_held (fun _ => True) (trivial) ((first | fail))
              clear hcv HB HS
              generalize (wr.alloc (.cells #[.int .u8 (y.toNat : Int)] 5)).drew = W1 at HB1 HS1 ⊢
              have hpl : ((⟨x.toArray⟩ : ByteArray).extract 0 j ++ ⟨#[y]⟩ ++ (⟨x.toArray⟩ : ByteArray).extract j x.length).size ≤ 140737488355328 := by simp [ByteArray.size_append, ByteArray.size_extract, bytes_size]; omega
              generalize ((⟨x.toArray⟩ : ByteArray).extract 0 j ++ ⟨#[y]⟩ ++ (⟨x.toArray⟩ : ByteArray).extract j x.length) = P at hpl ⊢
              have HPar := hide (HL.out.par2 HB1.out)
              have hS : Below W1.heap.size W1 W1 := Below.refl _ _
              have hcv := HCV.out
              by_cases hjx : j < x.length
              · have hd4 : decide ((j : Int) < (x.length : Int)) = true := by rw [decide_eq_true_eq]; omega
                have j2 : IntKind.i64.wrap ((j : Int) + 1) = (j : Int) + 1 := by rw [IntKind.wrap_i64]; omega
                have j3 : (j : Int) + 1 ≤ (x.length : Int) := by omega
                have j4 : (0 : Int) ≤ (j : Int) + 1 := by omega
                have j5 : ¬ 9223372036854775807 < j + 1 + (x.length - (j + 1)) := by omega
                go_wp2_with fail
                go_region_held (fun W => Below W1.heap.size W1 W) (first | assumption | exact S_al (by assumption) _ | exact Below.drew (by assumption)) ((first
                  | (go_at_call 14; refine (HPar.out _ _ ?_ ?_).mono ?_; assumption; (first | assumption | (rw [ByteArray.size_append, ByteArray.size_append, ByteArray.size_extract, ByteArray.size_extract, bytes_size]; simp [ByteArray.size]; omega)); rintro e w' ⟨rfl, hS2⟩)))
                clear hcv hpl
                have HB2 := hide (HB1.out.trans (hS2.mono HB1.out.size))
                have HS2 := hide (HS1.out.low hS2)
                clear hS2 hS HPar HCV HB1 HS1
                go_wp2_with fail
                go_roundw
                case rel => exact ⟨c + 1, by omega, by go_num, HB2, HS2⟩
                case measure => simp [intOf]; omega
              · have hd4 : decide ((j : Int) < (x.length : Int)) = false := by rw [decide_eq_false_iff_not]; omega
                have HX0 : Hid (Below W1.heap.size W1 W1.drew) := hide (Below.refl _ _).drew
                have HBx : Hid (∀ q : Gr W1, Below w.heap.size w q.1) := hide (fun q => HB1.out.trans (q.2.mono HB1.out.size))
                clear hcv
                go_wp2_with fail
                haveI : Nonempty (Gr W1) := ⟨⟨_, HX0.out⟩⟩
                refine region_class (C := fun W => ∃ z : Gr W1, W = z.1) (by kernel_rfl) (by kernel_rfl) ⟨⟨_, HX0.out⟩, rfl⟩ ?_
                repeat (first
                  | go_big_quiet_skip
                  | (go_big_quiet_want; (go_big_quiet_op; first
                      | go_big_quiet_on
                      | (apply Exists.intro; refine ⟨fun q => ?_, ?_⟩; (first
                          | (go_at_call 14; exact q.call (HL.out.par q.1 _ (HBx.out q) hpl))); go_big_quiet_on))))
                refine wpQuiet_nil ?_
                rintro w3 ⟨q3, rfl⟩
                obtain ⟨w3, hw3⟩ := q3
                dsimp only
                have HB2 := hide (HB1.out.trans (hw3.mono HB1.out.size))
                have HS2 := hide (HS1.out.low hw3)
                clear hw3 hS HPar HCV HB1 HS1 hpl HX0 HBx this
                go_wp2_with fail
                go_roundw
                case rel => exact ⟨c + 1, by omega, by go_num, HB2, HS2⟩
                case measure => simp [intOf]; omega
            · have h' : c = 256 := by omega
              subst h'
              rw [show ((256 : Nat) : Int) = 256 from rfl]
              have HX0 : Hid (Below wr.heap.size wr wr.drew) := hide (Below.refl _ _).drew
              have HBx : Hid (∀ q : Gr wr, Below w.heap.size w q.1) := hide (fun q => HB.out.trans (q.2.mono HB.out.size))
              have j0 : (0 : Int) ≤ (j : Int) := by omega
              have j1 : (j : Int) ≤ (x.length : Int) := by omega
              by_cases hjx : j < x.length
              · have hd4 : decide ((j : Int) < (x.length : Int)) = true := by rw [decide_eq_true_eq]; omega
                have j2 : IntKind.i64.wrap ((j : Int) + 1) = (j : Int) + 1 := by rw [IntKind.wrap_i64]; omega
                have j3 : (j : Int) + 1 ≤ (x.length : Int) := by omega
                have j4 : (0 : Int) ≤ (j : Int) + 1 := by omega
                have j5 : ¬ 9223372036854775807 < j + (x.length - (j + 1)) := by omega
                go_wp2_with fail
                haveI : Nonempty (Gr wr) := ⟨⟨_, HX0.out⟩⟩
                refine region_class (C := fun W => ∃ z : Gr wr, W = z.1) (by kernel_rfl) (by kernel_rfl) ⟨⟨_, HX0.out⟩, rfl⟩ ?_
                repeat (first
                  | go_big_quiet_skip
                  | (go_big_quiet_want; (go_big_quiet_op; first
                      | go_big_quiet_on
                      | (apply Exists.intro; refine ⟨fun q => ?_, ?_⟩; (first
                          | (go_at_call 14; exact q.call (HL.out.par q.1 _ (HBx.out q) (by (first | (rw [ByteArray.size_append, ByteArray.size_extract, ByteArray.size_extract, bytes_size]; omega) | (rw [ByteArray.size_extract, bytes_size]; omega)))))); go_big_quiet_on))))
                refine wpQuiet_nil ?_
                rintro w3 ⟨q3, rfl⟩
                obtain ⟨w3, hw3⟩ := q3
                dsimp only
                have HB3 := hide (HB.out.trans (hw3.mono HB.out.size))
                have HS3 := hide (HS.out.low hw3)
                clear HX0 this hw3 HB HS HBx
                go_wp2_with fail
                go_roundw
                case rel => exact ⟨j + 1, by omega, by go_num, HB3, HS3⟩
                case measure => simp [intOf]; omega
              · have hd4 : decide ((j : Int) < (x.length : Int)) = false := by rw [decide_eq_false_iff_not]; omega
                go_wp2_with fail
                haveI : Nonempty (Gr wr) := ⟨⟨_, HX0.out⟩⟩
                refine region_class (C := fun W => ∃ z : Gr wr, W = z.1) (by kernel_rfl) (by kernel_rfl) ⟨⟨_, HX0.out⟩, rfl⟩ ?_
                repeat (first
                  | go_big_quiet_skip
                  | (go_big_quiet_want; (go_big_quiet_op; first
                      | go_big_quiet_on
                      | (apply Exists.intro; refine ⟨fun q => ?_, ?_⟩; (first
                          | (go_at_call 14; exact q.call (HL.out.par q.1 _ (HBx.out q) (by (first | (rw [ByteArray.size_append, ByteArray.size_extract, ByteArray.size_extract, bytes_size]; omega) | (rw [ByteArray.size_extract, bytes_size]; omega)))))); go_big_quiet_on))))
                refine wpQuiet_nil ?_
                rintro w3 ⟨q3, rfl⟩
                obtain ⟨w3, hw3⟩ := q3
                dsimp only
                have HB3 := hide (HB.out.trans (hw3.mono HB.out.size))
                have HS3 := hide (HS.out.low hw3)
                clear HX0 this hw3 HB HS HBx
                go_wp2_with fail
                go_roundw
                case rel => exact ⟨j + 1, by omega, by go_num, HB3, HS3⟩
                case measure => simp [intOf]; omega
        · have h' : j = x.length + 1 := by omega
          have hd2 : decide ((j : Int) ≤ (x.length : Int)) = false := by rw [decide_eq_false_iff_not]; omega
          go_wp2_with fail
          go_roundw
          case rel => exact ⟨k + 1, by omega, by go_num, HB, HS⟩
          case measure => simp [intOf]; omega
    · have h' : k = 5 := by omega
      subst h'
      rw [show ((5 : Nat) : Int) = 5 from rfl]
      clear HS HLN
      go_wp2_with fail
      go_loopw [6] (fun i wr => ∃ c : Nat, c ≤ 256 ∧ i = .int .i64 c ∧ Hid (Below w.heap.size w wr)) (fun i _ => 256 - (intOf i).toNat)
      case atStart => exact ⟨0, Nat.zero_le _, rfl, HB⟩
      case round =>
        clear HB
        obtain ⟨c, hc, rfl, HB⟩ := hrel
        by_cases hcl : c < 256
        · have hd3 : decide ((c : Int) < 256) = true := by rw [decide_eq_true_eq]; omega
          obtain ⟨y, hy⟩ : ∃ y : UInt8, IntKind.u8.wrap (c : Int) = (y.toNat : Int) := ⟨UInt8.ofNat c, by rw [IntKind.wrap_u8, UInt8.toNat_ofNat']; omega⟩
          obtain ⟨W0, rfl⟩ : ∃ W0, W0 = wr := ⟨_, rfl⟩
          have hcv := cv_one W0 y
          have a1 := ap2 50 y
          have a2 := ap3 50 48 y
          have a3 := ap3 65 66 y
          have a4 := ap4 65 66 y 68
          have a5 := ap2 97 y
          have a6 := ap3 97 10 y
          have a7 := ap2 65 y
          have HB1 : Hid (Below w.heap.size w ((W0.alloc (.cells #[.int .u8 (y.toNat : Int)] 5)).alloc (.cells (itC (btL y)).toArray 25))) := hide ((HB.out.alloc HB.out.size _).alloc (by have := HB.out.size; simp; omega) _)
          have HR1 : Hid (RT ((W0.alloc (.cells #[.int .u8 (y.toNat : Int)] 5)).alloc (.cells (itC (btL y)).toArray 25)) (.slice (some ⟨W0.heap.size + 1, 0, none⟩) 12 12) ((btL y).map (·.1))) := hide (RT_litn (btL y) _ _ (by simp) rfl rfl (btL_len y).symm (fun p hp => by obtain ⟨e1, e2⟩ := btL_kids y p hp; rw [e1, e2]; exact RT_nil _))
          have h12 := btL_len y
          have HWT := hide (btL_wts y)
          go_wp2_with fail
          clear hcv a1 a2 a3 a4 a5 a6 a7 hy
          go_loopw [136] (fun i wq => ∃ k : Nat, k ≤ 12 ∧ i = .int .i64 k ∧ Hid (Below w.heap.size w wq) ∧ Hid (RT wq (.slice (some ⟨W0.heap.size + 1, 0, none⟩) 12 12) ((btL y).map (·.1)))) (fun i _ => 12 - (intOf i).toNat)
          case atStart => exact ⟨0, Nat.zero_le _, rfl, HB1, HR1⟩
          case round =>
            clear HB HB1 HR1
            obtain ⟨L, hLL⟩ : ∃ L, L = (btL y).map (·.1) := ⟨_, rfl⟩
            rw [← hLL] at h12 HWT hrel ⊢
            clear hLL
            obtain ⟨k, hk, rfl, HB, HR⟩ := hrel
            by_cases hkl : k < 12
            · have hd4 : decide ((k : Int) < 12) = true := by rw [decide_eq_true_eq]; omega
              obtain ⟨t, ht⟩ : ∃ t, L[k]? = some t := ⟨_, List.getElem?_eq_getElem (by omega)⟩
              obtain ⟨hlt, kv, c0, c1, c2, c3, c4, hkv⟩ := RT_pos HR.out ht
              have HWt := hide (Nat.le_trans (wts_one ht) HWT.out)
              obtain ⟨ka, kc, hkve, _⟩ := id hkv
              subst hkve
              have HKV := hide hkv
              have HLT := hide hlt
              have HB2 : Hid (Below w.heap.size w ((wr.alloc (.cells (iC t.itm (.slice ka t.kids.length kc)) 25)).alloc (.cells (iC t.itm (.slice ka t.kids.length kc)) 25))) := hide ((HB.out.alloc HB.out.size _).alloc (by have := HB.out.size; simp; omega) _)
              have HR2 := hide (RT_later HR.out (((Below.refl wr.heap.size wr).alloc (Nat.le_refl _) (.cells (iC t.itm (.slice ka t.kids.length kc)) 25)).alloc (by simp) (.cells (iC t.itm (.slice ka t.kids.length kc)) 25)))
              have HPR := hide (HL.out.prn ((wr.alloc (.cells (iC t.itm (.slice ka t.kids.length kc)) 25)).alloc (.cells (iC t.itm (.slice ka t.kids.length kc)) 25)) (.slice (some ⟨wr.heap.size + 1, 0, none⟩) 1 1) [t] HB2.out (RT_litn [(t, .slice ka t.kids.length kc)] [t] _ (by simp) rfl rfl rfl (fun p hp => by rw [List.mem_singleton.1 hp]; exact RT_later hkv ((Below.refl wr.heap.size wr).alloc (Nat.le_refl _) _))) (by have := HWt.out; omega))
              have hs := HB.out.size
              have k0 : (0 : Int) ≤ (k : Int) := by omega
              have k1 : (k : Int) < 12 := by omega
              clear ht hkv hlt h12
              go_wp2_with fail
              refine HPR.out.mono ?_
              rintro e w5 ⟨rfl, hb5⟩
              have HB5 := hide (HB2.out.trans (hb5.mono HB2.out.size))
              have HR5 := hide (RT_later HR2.out hb5)
              clear hb5 HPR HB2 HR2 HB HR HKV HLT
              go_wp2_with fail
              go_roundw
              case rel => exact ⟨k + 1, by omega, by go_num, HB5, HR5⟩
              case measure => simp [intOf]; omega
            · have h' : k = 12 := by omega
              subst h'
              rw [show ((12 : Nat) : Int) = 12 from rfl]
              go_wp2_with fail
              go_roundw
              case rel => exact ⟨c + 1, by omega, by go_num, HB⟩
              case measure => simp [intOf]; omega
        · have h' : c = 256 := by omega
          subst h'
          rw [show ((256 : Nat) : Int) = 256 from rfl]
          go_wp2_with fail
          go_ret
          exact ⟨rfl, HB.out⟩
end Go.Proofs.YtpkgaidnpooahaaGreatDoor
