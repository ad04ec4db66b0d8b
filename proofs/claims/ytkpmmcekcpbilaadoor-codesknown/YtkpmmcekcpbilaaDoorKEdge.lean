/-
  My own text: every byte in each place of right codes, and texts about each length.
-/
import Derived.Test.YtkpmmcekcpbilaaDoorKText
import Derived.Deep.RegionHeld3
namespace Go.Proofs.YtkpmmcekcpbilaaDoor
open Go.RowKit

def goodL : List (List UInt8) := [[85, 83, 48, 51, 55, 56, 51, 51, 49, 48, 48, 53], [68, 69, 48, 48, 48, 66, 65, 89, 48, 48, 49, 55], [88, 83, 48, 48, 48, 48, 48, 48, 48, 48, 48, 57], [55, 76, 84, 87, 70, 90, 89, 73, 67, 78, 83, 88, 56, 68, 54, 50, 49, 75, 56, 54], [73, 78, 82, 50, 69, 74, 78, 49, 69, 82, 65, 78, 48, 87, 53, 90, 80, 57, 55, 52], [48, 48, 48, 48, 48, 48, 48, 48, 48, 48, 48, 48, 48, 48, 48, 48, 48, 48, 57, 56], [68, 69, 85, 84, 68, 69, 70, 70], [68, 69, 85, 84, 68, 69, 70, 70, 88, 88, 88], [68, 69, 85, 84, 68, 69, 70, 70, 53, 48, 48], [69, 85, 82], [68, 69, 56, 57, 51, 55, 48, 52, 48, 48, 52, 52, 48, 53, 51, 50, 48, 49, 51, 48, 48, 48]]
def goodV : Array Value := (goodL.map fun l => Value.string ⟨l.toArray⟩).toArray
theorem good_len : ∀ l ∈ goodL, l.length ≤ 22 := by decide
theorem good_at {i : Nat} (h : i < 11) : ∃ L : List UInt8, L.length ≤ 22 ∧ goodV[i]? = some (.string ⟨L.toArray⟩) := by
  have hl : i < goodL.length := h
  refine ⟨goodL[i], good_len _ (List.getElem_mem hl), ?_⟩
  unfold goodV
  simp [List.getElem?_eq_getElem hl]
set_option maxRecDepth 100000 in
set_option maxHeartbeats 8000000 in
theorem edged_any (w : World) (hE : ErrType w) (hO : HeadOffice w) :
    Calls Tryd.prog 27 #[] w fun e w' => e = .returned (.bool true) ∧ Below w.heap.size w w' := by
  have HE := hide hE
  have HO := hide hO
  have HF := hide (fun (l : List UInt8) (W : World) (hW : ErrType W) (hO : HeadOffice W) (hl : l.length ≤ 1000) => forms_law l W hW hO (by omega))
  have HI := hide (fun (l : List UInt8) (W : World) (hW : ErrType W) (hl : l.length ≤ 1000) => isin_law l W hW (by omega))
  have HLE := hide (fun (l : List UInt8) (W : World) (hW : ErrType W) (hl : l.length ≤ 1000) => lei_law l W hW (by omega))
  have HEV := hide (fun (l : List UInt8) (W : World) (hW : ErrType W) (hO : HeadOffice W) (hl : l.length ≤ 1000) => every_any l W hW hO hl)
  clear hE hO
  obtain ⟨w0, Hw0⟩ : ∃ w0, Hid (w.alloc (.cells goodV 9) = w0) := ⟨_, hide rfl⟩
  have HB0 : Hid (Below w.heap.size w w0) := by show Below _ _ _; rw [← Hw0.out]; exact (Below.refl _ _).alloc (Nat.le_refl _) _
  have HG0 : Hid (w0.heap[w.heap.size]? = some (.cells goodV 9 (0, 0))) := by show _ = _; rw [← Hw0.out]; exact alloc_new w _
  have HLT0 : Hid (w.heap.size < w0.heap.size) := by show _ < _; rw [← Hw0.out]; simp
  go_enter Tryd.func27, Tryd.ntmps27
  go_wp2_with fail
  rw [show w.alloc (.cells #[.string ⟨#[85, 83, 48, 51, 55, 56, 51, 51, 49, 48, 48, 53]⟩, .string ⟨#[68, 69, 48, 48, 48, 66, 65, 89, 48, 48, 49, 55]⟩, .string ⟨#[88, 83, 48, 48, 48, 48, 48, 48, 48, 48, 48, 57]⟩, .string ⟨#[55, 76, 84, 87, 70, 90, 89, 73, 67, 78, 83, 88, 56, 68, 54, 50, 49, 75, 56, 54]⟩, .string ⟨#[73, 78, 82, 50, 69, 74, 78, 49, 69, 82, 65, 78, 48, 87, 53, 90, 80, 57, 55, 52]⟩, .string ⟨#[48, 48, 48, 48, 48, 48, 48, 48, 48, 48, 48, 48, 48, 48, 48, 48, 48, 48, 57, 56]⟩, .string ⟨#[68, 69, 85, 84, 68, 69, 70, 70]⟩, .string ⟨#[68, 69, 85, 84, 68, 69, 70, 70, 88, 88, 88]⟩, .string ⟨#[68, 69, 85, 84, 68, 69, 70, 70, 53, 48, 48]⟩, .string ⟨#[69, 85, 82]⟩, .string ⟨#[68, 69, 56, 57, 51, 55, 48, 52, 48, 48, 52, 52, 48, 53, 51, 50, 48, 49, 51, 48, 48, 48]⟩] 9) = w0 from Hw0.out]
  clear Hw0
  go_loopw [2] (fun i wr => ∃ k : Nat, k ≤ 11 ∧ i = .int .i64 (k : Int) ∧ Hid (Below w0.heap.size w0 wr)) (fun i _ => 11 - (intOf i).toNat)
  case atStart => exact ⟨0, by omega, rfl, hide (Below.refl _ _)⟩
  case round =>
    obtain ⟨i, hi, rfl, HB⟩ := hrel
    by_cases hi11 : i < 11
    · obtain ⟨L, hL22, hLv⟩ := good_at hi11
      have HLV := hide hLv
      clear hLv
      have hii : (i : Int) < 11 := by omega
      go_wp2_with fail
      go_loopw [3] (fun k wr => ∃ n : Nat, n ≤ L.length ∧ k = .int .i64 (n : Int) ∧ Hid (Below w0.heap.size w0 wr)) (fun k _ => L.length - (intOf k).toNat)
      case atStart => exact ⟨0, by omega, rfl, HB⟩
      case round =>
        clear HB
        obtain ⟨n, hn, rfl, HB⟩ := hrel
        have hcell : wr.cell? ⟨w.heap.size, i, none⟩ = some (.string ⟨L.toArray⟩) := by
          rw [HB.out.cell (p := ⟨w.heap.size, i, none⟩) HLT0.out, cell_of_row _ _ i _ _ _ HG0.out]; exact HLV.out
        by_cases hnl : n < L.length
        · go_wp2_with fail
          clear hcell
          go_loopw [4] (fun c wr => ∃ b : Nat, b ≤ 256 ∧ c = .int .i64 (b : Int) ∧ Hid (Below w0.heap.size w0 wr)) (fun c _ => 256 - (intOf c).toNat)
          case atStart => exact ⟨0, by omega, rfl, HB⟩
          case round =>
            clear HB
            obtain ⟨b, hb, rfl, HB⟩ := hrel
            have hcell : wr.cell? ⟨w.heap.size, i, none⟩ = some (.string ⟨L.toArray⟩) := by
              rw [HB.out.cell (p := ⟨w.heap.size, i, none⟩) HLT0.out, cell_of_row _ _ i _ _ _ HG0.out]; exact HLV.out
            by_cases hb256 : b < 256
            · obtain ⟨x, hx⟩ : ∃ x : UInt8, x.toNat = b := ⟨UInt8.ofNat b, by rw [UInt8.toNat_ofNat']; omega⟩
              have hcv : (convert 53 9 (.slice (some ⟨wr.heap.size, 0, none⟩) 1 1)).run Tryd.prog (wr.alloc (.cells #[.int .u8 (b : Int)] 5)).drew = .ok (.string ⟨#[x]⟩) (wr.alloc (.cells #[.int .u8 (b : Int)] 5)).drew :=
                run_convert_bytes_back (P := Tryd.prog) (wr.alloc (.cells #[.int .u8 (b : Int)] 5)).drew 53 9 5 ⟨wr.heap.size, 0, none⟩ 1 [x] Tryd.underlying53 Tryd.underlying5 Tryd.underlying9 (fun j hj => by
                  match j, hj with
                  | 0, _ => simp [Addr.add, hx])
              have hcv2 : (convert 53 9 (.slice (some ⟨wr.heap.size, 0, none⟩) 1 1)).run Tryd.prog (wr.drew.alloc (.cells #[.int .u8 (b : Int)] 5)) = .ok (.string ⟨#[x]⟩) (wr.drew.alloc (.cells #[.int .u8 (b : Int)] 5)) :=
                run_convert_bytes_back (P := Tryd.prog) (wr.drew.alloc (.cells #[.int .u8 (b : Int)] 5)) 53 9 5 ⟨wr.heap.size, 0, none⟩ 1 [x] Tryd.underlying53 Tryd.underlying5 Tryd.underlying9 (fun j hj => by
                  match j, hj with
                  | 0, _ => simp only [Addr.add_mid]; rw [show (⟨wr.heap.size, 0 + 0, none⟩ : Addr) = ⟨wr.drew.heap.size, 0, none⟩ from rfl, cell_of_row _ _ 0 _ _ _ (alloc_new wr.drew _)]; simp [hx])
              have hsl := bytes_take L n
              have hsd := bytes_drop L (n + 1) L.length rfl
              obtain ⟨A, HA, ha⟩ : ∃ A, Hid (L.take n = A) ∧ A.length ≤ 22 := ⟨_, hide rfl, by rw [List.length_take]; omega⟩
              obtain ⟨D, HD, hd⟩ : ∃ D, Hid (L.drop (n + 1) = D) ∧ D.length ≤ 22 := ⟨_, hide rfl, by rw [List.length_drop]; omega⟩
              rw [HA.out] at hsl
              rw [HD.out] at hsd
              have happ1 : (⟨A.toArray⟩ : ByteArray) ++ ⟨#[x]⟩ = ⟨(A ++ [x]).toArray⟩ := bytes_app A [x]
              have hal : (A ++ [x]).length ≤ 23 := by simp; omega
              obtain ⟨B, HBB⟩ : ∃ B, Hid (A ++ [x] = B) := ⟨_, hide rfl⟩
              rw [HBB.out] at happ1 hal
              have happ2 : (⟨B.toArray⟩ : ByteArray) ++ ⟨D.toArray⟩ = ⟨(B ++ D).toArray⟩ := bytes_app B D
              have hrl : (B ++ D).length ≤ 1000 := by simp; omega
              obtain ⟨R, HR⟩ : ∃ R, Hid (B ++ D = R) := ⟨_, hide rfl⟩
              rw [HR.out] at happ2 hrl
              have HRL := hide hrl
              have hn1 : (n : Int) ≤ (L.length : Int) := by omega
              have hn2 : (n : Int) + 1 ≤ (L.length : Int) := by omega
              have hn3 : (0 : Int) ≤ (n : Int) + 1 := by omega
              have hnt : ((n : Int) + 1).toNat = n + 1 := by omega
              clear HA HD HBB HR hrl hx
              have HBA := hide ((HB.out.alloc HB.out.size (.cells #[.int .u8 (b : Int)] 5)).drew)
              have hwb : IntKind.u8.wrap (b : Int) = (b : Int) := by rw [IntKind.wrap_u8]; omega
              have hwn : IntKind.i64.wrap ((n : Int) + 1) = (n : Int) + 1 := by rw [IntKind.wrap_i64]; omega
              go_wp2_with fail
              go_region_held (fun w' => w'.cell? ⟨w.heap.size, i, none⟩ = some (.string ⟨L.toArray⟩)) (go_keep) (fail)
              all_goals
                have HBW := hide (HB0.out.trans (HBA.out.mono HB0.out.size))
                clear hcv hcv2 hsl hsd happ1 happ2 hcell
                by_cases h128 : b < 128
                · go_wp2_with fail
                  refine (HF.out R _ (HE.out.below HBW.out) (HO.out.below HBW.out) HRL.out).mono ?_
                  rintro e w1 ⟨rfl, hb1⟩
                  have HC1 := hide (HBA.out.trans (hb1.mono HBA.out.size))
                  clear hb1
                  go_wp2_with fail
                  refine (HI.out R _ (HE.out.below (HB0.out.trans (HC1.out.mono HB0.out.size))) HRL.out).mono ?_
                  rintro e w2 ⟨rfl, hb2⟩
                  have HC2 := hide (HC1.out.trans (hb2.mono HC1.out.size))
                  clear hb2
                  go_wp2_with fail
                  refine (HLE.out R _ (HE.out.below (HB0.out.trans (HC2.out.mono HB0.out.size))) HRL.out).mono ?_
                  rintro e w3 ⟨rfl, hb3⟩
                  have HC3 := hide (HC2.out.trans (hb3.mono HC2.out.size))
                  clear hb3
                  go_wp2_with fail
                  go_roundw
                  case rel => exact ⟨b + 1, by omega, by go_num, HC3⟩
                  case measure => simp [intOf]; omega
                · go_wp2_with fail
                  refine (HF.out R _ (HE.out.below HBW.out) (HO.out.below HBW.out) HRL.out).mono ?_
                  rintro e w1 ⟨rfl, hb1⟩
                  have HC1 := hide (HBA.out.trans (hb1.mono HBA.out.size))
                  clear hb1
                  go_wp2_with fail
                  go_roundw
                  case rel => exact ⟨b + 1, by omega, by go_num, HC1⟩
                  case measure => simp [intOf]; omega
            · have hsl := bytes_take L n
              obtain ⟨A, HA, ha⟩ : ∃ A, Hid (L.take n = A) ∧ A.length ≤ 22 := ⟨_, hide rfl, by rw [List.length_take]; omega⟩
              rw [HA.out] at hsl
              have happ1 : (⟨L.toArray⟩ : ByteArray) ++ ⟨A.toArray⟩ = ⟨(L ++ A).toArray⟩ := bytes_app L A
              have hql : (L ++ A).length ≤ 1000 := by simp; omega
              obtain ⟨Q, HQ⟩ : ∃ Q, Hid (L ++ A = Q) := ⟨_, hide rfl⟩
              rw [HQ.out] at happ1 hql
              have HQL := hide hql
              have HAL : Hid (A.length ≤ 1000) := hide (by omega)
              have hn1 : (n : Int) ≤ (L.length : Int) := by omega
              clear HA HQ hql
              have HX := hide (show wr.drew.rangeAt w.heap.size 0 goodV.toList ∧ ErrType wr.drew ∧ Below w0.heap.size w0 wr.drew from
                ⟨rng_later (HB.out.drew.mono (Nat.le_refl _)) (fun j v hv => by rw [Nat.zero_add, cell_of_row _ _ j _ _ _ HG0.out]; simpa using hv), HE.out.below ((HB0.out.trans (HB.out.mono HB0.out.size)).drew), HB.out.drew⟩)
              haveI : Nonempty (Grown w0 w.heap.size goodV.toList) := ⟨⟨_, HX.out⟩⟩
              have hcx : ∀ x : Grown w0 w.heap.size goodV.toList, x.1.cell? ⟨w.heap.size, i, none⟩ = some (.string ⟨L.toArray⟩) := fun x => by
                have h := x.2.1 i (.string ⟨L.toArray⟩) (by have := HLV.out; simpa using this)
                rw [Nat.zero_add] at h; exact h
              have hk' : b = 256 := by omega
              subst hk'
              clear hcell
              go_wp2_with fail
              refine region_class (C := fun w' => ∃ x : Grown w0 w.heap.size goodV.toList, w' = x.1) (by kernel_rfl) (by kernel_rfl) ⟨⟨_, HX.out⟩, rfl⟩ ?_
              repeat (first
                | go_big_quiet_skip
                | (go_big_quiet_want; go_big_quiet_op; first
                    | go_big_quiet_on
                    | (apply Exists.intro; refine ⟨fun x => ?_, ?_⟩; (first
                        | (go_at_call_of 41 Q; exact x.call (HEV.out Q x.1 x.2.2.1 (HO.out.below (HB0.out.trans (x.2.2.2.mono HB0.out.size))) HQL.out))
                        | (go_at_call_of 41 A; exact x.call (HEV.out A x.1 x.2.2.1 (HO.out.below (HB0.out.trans (x.2.2.2.mono HB0.out.size))) HAL.out))); go_big_quiet_on)))
              refine wpQuiet_nil ?_
              rintro w3 ⟨x, rfl⟩
              obtain ⟨w3, hw3⟩ := x
              have HB3 : Hid (Below w0.heap.size w0 w3) := hide hw3.2.2
              dsimp only
              clear hw3 HX this hcx
              go_wp2_with fail
              go_roundw
              case rel => exact ⟨n + 1, by omega, by go_num, HB3⟩
              case measure => simp [intOf]; omega
        · have hn' : n = L.length := by omega
          subst hn'
          go_wp2_with fail
          go_roundw
          case rel => exact ⟨i + 1, by omega, by go_num, HB⟩
          case measure => simp [intOf]; omega
    · have hdd1 : decide ((i : Int) < 11) = false := by simp; omega
      go_wp2_with fail
      go_loopw [6] (fun c wr => ∃ n : Nat, n ≤ 40 ∧ c = .int .i64 (n : Int) ∧ Hid (Below w0.heap.size w0 wr)) (fun c _ => 40 - (intOf c).toNat)
      case atStart => exact ⟨0, by omega, rfl, HB⟩
      case round =>
        clear HB
        obtain ⟨n, hn, rfl, HB⟩ := hrel
        by_cases hn40 : n < 40
        · go_wp2_with fail
          refine (times_any 65 n _ (by omega)).mono ?_
          rintro e t0 ⟨rfl, rfl⟩
          go_wp2_with fail
          refine (HEV.out (List.replicate n 65) _ (HE.out.below (HB0.out.trans (HB.out.mono HB0.out.size))) (HO.out.below (HB0.out.trans (HB.out.mono HB0.out.size))) (by rw [List.length_replicate]; omega)).mono ?_
          rintro e v0 ⟨rfl, hbn⟩
          have HE0 := hide (HB.out.trans (hbn.mono HB.out.size))
          clear hbn
          go_wp2_with fail
          refine (times_any 48 n _ (by omega)).mono ?_
          rintro e t1 ⟨rfl, rfl⟩
          go_wp2_with fail
          refine (HEV.out (List.replicate n 48) _ (HE.out.below (HB0.out.trans (HE0.out.mono HB0.out.size))) (HO.out.below (HB0.out.trans (HE0.out.mono HB0.out.size))) (by rw [List.length_replicate]; omega)).mono ?_
          rintro e v1 ⟨rfl, hbn⟩
          have HE1 := hide (HE0.out.trans (hbn.mono HE0.out.size))
          clear hbn
          go_wp2_with fail
          refine (times_any 90 n _ (by omega)).mono ?_
          rintro e t2 ⟨rfl, rfl⟩
          go_wp2_with fail
          refine (HEV.out (List.replicate n 90) _ (HE.out.below (HB0.out.trans (HE1.out.mono HB0.out.size))) (HO.out.below (HB0.out.trans (HE1.out.mono HB0.out.size))) (by rw [List.length_replicate]; omega)).mono ?_
          rintro e v2 ⟨rfl, hbn⟩
          have HE2 := hide (HE1.out.trans (hbn.mono HE1.out.size))
          clear hbn
          go_wp2_with fail
          refine (times_any 97 n _ (by omega)).mono ?_
          rintro e t3 ⟨rfl, rfl⟩
          go_wp2_with fail
          refine (HEV.out (List.replicate n 97) _ (HE.out.below (HB0.out.trans (HE2.out.mono HB0.out.size))) (HO.out.below (HB0.out.trans (HE2.out.mono HB0.out.size))) (by rw [List.length_replicate]; omega)).mono ?_
          rintro e v3 ⟨rfl, hbn⟩
          have HE3 := hide (HE2.out.trans (hbn.mono HE2.out.size))
          clear hbn
          go_wp2_with fail
          refine (times_any 195 n _ (by omega)).mono ?_
          rintro e t4 ⟨rfl, rfl⟩
          go_wp2_with fail
          refine (HEV.out (List.replicate n 195) _ (HE.out.below (HB0.out.trans (HE3.out.mono HB0.out.size))) (HO.out.below (HB0.out.trans (HE3.out.mono HB0.out.size))) (by rw [List.length_replicate]; omega)).mono ?_
          rintro e v4 ⟨rfl, hbn⟩
          have HE4 := hide (HE3.out.trans (hbn.mono HE3.out.size))
          clear hbn
          go_wp2_with fail
          go_roundw
          case rel => exact ⟨n + 1, by omega, by go_num, HE4⟩
          case measure => simp [intOf]; omega
        · have hdd4 : decide ((n : Int) < 40) = false := by simp; omega
          go_wp2_with fail
          go_loopw [7] (fun c wr => ∃ n : Nat, n ≤ 200 ∧ c = .int .i64 (n : Int) ∧ Hid (Below w0.heap.size w0 wr)) (fun c _ => 200 - (intOf c).toNat)
          case atStart => exact ⟨0, by omega, rfl, HB⟩
          case round =>
            clear HB
            obtain ⟨k, hk, rfl, HB⟩ := hrel
            by_cases hk200 : k < 200
            · obtain ⟨x, hx⟩ : ∃ x : UInt8, x.toNat = 48 + k / 100 := ⟨UInt8.ofNat (48 + k / 100), by rw [UInt8.toNat_ofNat']; omega⟩
              obtain ⟨y, hy⟩ : ∃ x : UInt8, x.toNat = 48 + k / 10 % 10 := ⟨UInt8.ofNat (48 + k / 10 % 10), by rw [UInt8.toNat_ofNat']; omega⟩
              obtain ⟨z, hz⟩ : ∃ x : UInt8, x.toNat = 48 + k % 10 := ⟨UInt8.ofNat (48 + k % 10), by rw [UInt8.toNat_ofNat']; omega⟩
              have hcv : (convert 53 9 (.slice (some ⟨wr.heap.size, 0, none⟩) 3 3)).run Tryd.prog (wr.alloc (.cells #[.int .u8 (48 + (k : Int) / 100), .int .u8 (48 + (k : Int) / 10 % 10), .int .u8 (48 + (k : Int) % 10)] 5)) = .ok (.string ⟨#[x, y, z]⟩) (wr.alloc (.cells #[.int .u8 (48 + (k : Int) / 100), .int .u8 (48 + (k : Int) / 10 % 10), .int .u8 (48 + (k : Int) % 10)] 5)) :=
                run_convert_bytes_back (P := Tryd.prog) (wr.alloc (.cells #[.int .u8 (48 + (k : Int) / 100), .int .u8 (48 + (k : Int) / 10 % 10), .int .u8 (48 + (k : Int) % 10)] 5)) 53 9 5 ⟨wr.heap.size, 0, none⟩ 3 [x, y, z] Tryd.underlying53 Tryd.underlying5 Tryd.underlying9 (fun j hj => by
                  match j, hj with
                  | 0, _ => simp [Addr.add]; omega
                  | 1, _ => simp [Addr.add]; omega
                  | 2, _ => simp [Addr.add]; omega)
              clear hx hy hz
              obtain ⟨S, hS, hSL⟩ : ∃ S : List UInt8, (⟨#[48, 48, 48, 48, 48, 48, 48, 48, 48, 48, 48, 48, 48, 48, 48]⟩ : ByteArray) ++ ⟨#[x, y, z]⟩ = ⟨S.toArray⟩ ∧ S.length ≤ 100 := ⟨_, bytes_app [48, 48, 48, 48, 48, 48, 48, 48, 48, 48, 48, 48, 48, 48, 48] [x, y, z], by simp⟩
              have HSL : Hid (S.length ≤ 1000) := hide (by omega)
              obtain ⟨S1, hS1, HS1⟩ : ∃ S1 : List UInt8, (⟨S.toArray⟩ : ByteArray) ++ ⟨#[57, 56]⟩ = ⟨S1.toArray⟩ ∧ Hid (S1.length ≤ 1000) := ⟨_, bytes_app S [57, 56], hide (by simp; omega)⟩
              obtain ⟨S2, hS2, HS2⟩ : ∃ S2 : List UInt8, (⟨S.toArray⟩ : ByteArray) ++ ⟨#[48, 49]⟩ = ⟨S2.toArray⟩ ∧ Hid (S2.length ≤ 1000) := ⟨_, bytes_app S [48, 49], hide (by simp; omega)⟩
              obtain ⟨S3, hS3, HS3⟩ : ∃ S3 : List UInt8, (⟨S.toArray⟩ : ByteArray) ++ ⟨#[48, 48]⟩ = ⟨S3.toArray⟩ ∧ Hid (S3.length ≤ 1000) := ⟨_, bytes_app S [48, 48], hide (by simp; omega)⟩
              obtain ⟨S4, hS4, HS4⟩ : ∃ S4 : List UInt8, (⟨S.toArray⟩ : ByteArray) ++ ⟨#[57, 57]⟩ = ⟨S4.toArray⟩ ∧ Hid (S4.length ≤ 1000) := ⟨_, bytes_app S [57, 57], hide (by simp; omega)⟩
              obtain ⟨S5, hS5, HS5⟩ : ∃ S5 : List UInt8, (⟨S.toArray⟩ : ByteArray) ++ ⟨#[48, 50]⟩ = ⟨S5.toArray⟩ ∧ Hid (S5.length ≤ 1000) := ⟨_, bytes_app S [48, 50], hide (by simp; omega)⟩
              obtain ⟨S6, hS6, HS6⟩ : ∃ S6 : List UInt8, (⟨S.toArray⟩ : ByteArray) ++ ⟨#[57, 55]⟩ = ⟨S6.toArray⟩ ∧ Hid (S6.length ≤ 1000) := ⟨_, bytes_app S [57, 55], hide (by simp; omega)⟩
              have HBS := hide (HB.out.alloc HB.out.size (.cells #[.int .u8 (48 + (k : Int) / 100), .int .u8 (48 + (k : Int) / 10 % 10), .int .u8 (48 + (k : Int) % 10)] 5))
              go_wp2_with fail
              refine (HLE.out S _ (HE.out.below (HB0.out.trans (HBS.out.mono HB0.out.size))) HSL.out).mono ?_
              rintro e u0 ⟨rfl, hbn⟩
              have HU0 := hide (HBS.out.trans (hbn.mono HBS.out.size))
              clear hbn
              go_wp2_with fail
              refine (HLE.out S1 _ (HE.out.below (HB0.out.trans (HU0.out.mono HB0.out.size))) HS1.out).mono ?_
              rintro e u1 ⟨rfl, hbn⟩
              have HU1 := hide (HU0.out.trans (hbn.mono HU0.out.size))
              clear hbn
              go_wp2_with fail
              refine (HLE.out S2 _ (HE.out.below (HB0.out.trans (HU1.out.mono HB0.out.size))) HS2.out).mono ?_
              rintro e u2 ⟨rfl, hbn⟩
              have HU2 := hide (HU1.out.trans (hbn.mono HU1.out.size))
              clear hbn
              go_wp2_with fail
              refine (HLE.out S3 _ (HE.out.below (HB0.out.trans (HU2.out.mono HB0.out.size))) HS3.out).mono ?_
              rintro e u3 ⟨rfl, hbn⟩
              have HU3 := hide (HU2.out.trans (hbn.mono HU2.out.size))
              clear hbn
              go_wp2_with fail
              refine (HLE.out S4 _ (HE.out.below (HB0.out.trans (HU3.out.mono HB0.out.size))) HS4.out).mono ?_
              rintro e u4 ⟨rfl, hbn⟩
              have HU4 := hide (HU3.out.trans (hbn.mono HU3.out.size))
              clear hbn
              go_wp2_with fail
              refine (HLE.out S5 _ (HE.out.below (HB0.out.trans (HU4.out.mono HB0.out.size))) HS5.out).mono ?_
              rintro e u5 ⟨rfl, hbn⟩
              have HU5 := hide (HU4.out.trans (hbn.mono HU4.out.size))
              clear hbn
              go_wp2_with fail
              refine (HLE.out S6 _ (HE.out.below (HB0.out.trans (HU5.out.mono HB0.out.size))) HS6.out).mono ?_
              rintro e u6 ⟨rfl, hbn⟩
              have HU6 := hide (HU5.out.trans (hbn.mono HU5.out.size))
              clear hbn
              go_wp2_with fail
              go_roundw
              case rel => exact ⟨k + 1, by omega, by go_num, HU6⟩
              case measure => simp [intOf]; omega
            · go_wp2_with fail
              go_ret
              exact ⟨rfl, HB0.out.trans (HB.out.mono HB0.out.size)⟩
end Go.Proofs.YtkpmmcekcpbilaaDoor
