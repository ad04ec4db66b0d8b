/-
  My own text: the law on one digit and one pair: its walk.
-/
import Derived.Test.YtkpmmcekcpbilaaDoorC9
namespace Go.Proofs.YtkpmmcekcpbilaaDoor
open Go.RowKit

set_option maxRecDepth 100000 in
set_option maxHeartbeats 4000000 in
theorem cback_law (l : List UInt8) (w : World) (hE : ErrType w) (hl : l.length ≤ 140737488355320) :
    Calls Tryd.prog 7 #[.string ⟨l.toArray⟩] w fun e w' => e = .returned (.bool true) ∧ Below w.heap.size w w' := by
  have HE := hide hE
  have HWK := hide (works_any w hE)
  have HID := hide (fun W : World => isinDigit_any l W (by omega))
  have HLD := hide (fun W : World => leiDigits_any l W (by omega))
  have HHL := hide hl
  clear hE
  obtain ⟨e1, He1⟩ : ∃ v, Hid (errF (formR l isinH) = v) := ⟨_, hide rfl⟩
  obtain ⟨e2, He2⟩ : ∃ v, Hid (errF (formR l leiH) = v) := ⟨_, hide rfl⟩
  obtain ⟨dg, Hdg⟩ : ∃ v, Hid (digV l = v) := ⟨_, hide rfl⟩
  obtain ⟨T, HT⟩ : ∃ v, Hid (twoV l = v) := ⟨_, hide rfl⟩
  rw [He1.out, Hdg.out] at HID
  rw [He2.out, HT.out] at HLD
  have HF1 : Hid ((Form l isinH ∧ e1 = .nilIface ∧ dg = 48 + chk (spr l)) ∨ (¬ Form l isinH ∧ ∃ t u, e1 = .iface t u)) := by
    by_cases h : Form l isinH
    · exact .inl ⟨h, by rw [← He1.out, form_eq h]; rfl, by rw [← Hdg.out, digV_ok h]⟩
    · obtain ⟨t, u, he⟩ := errF_iface (form_ne h)
      exact .inr ⟨h, t, u, by rw [← He1.out]; exact he⟩
  have HF2 : Hid ((Form l leiH ∧ e2 = .nilIface ∧ T = two (spr l)) ∨ (¬ Form l leiH ∧ ∃ t u, e2 = .iface t u)) := by
    by_cases h : Form l leiH
    · exact .inl ⟨h, by rw [← He2.out, form_eq h]; rfl, by rw [← HT.out, twoV_ok h]⟩
    · obtain ⟨t, u, he⟩ := errF_iface (form_ne h)
      exact .inr ⟨h, t, u, by rw [← He2.out]; exact he⟩
  clear He1 He2 Hdg HT
  go_enter Tryd.func7, Tryd.ntmps7
  go_wp2_with fail
  refine HWK.out.mono ?_
  rintro e w0 ⟨rfl, hb0⟩
  go_wp2_with fail
  refine (HID.out _).mono ?_
  rintro e w1 ⟨rfl, hb1⟩
  have hB1 := hb0.trans (hb1.mono hb0.size)
  clear hb0 hb1 HWK HID
  go_wp2_with fail
  go_loopw [5] (fun c wr => ∃ k : Nat, k ≤ 10 ∧ c = .int .u8 (48 + (k : Int)) ∧ Below w.heap.size w wr) (fun c _ => 58 - (intOf c).toNat)
  case atStart => exact ⟨0, by omega, rfl, hB1⟩
  case round =>
    clear hB1
    obtain ⟨k, hk, rfl, hB⟩ := hrel
    by_cases hlt : k ≤ 9
    · obtain ⟨hdg, hsp⟩ := dg_of hlt
      have hxn : (UInt8.ofNat (48 + k)).toNat = 48 + k := by rw [UInt8.toNat_ofNat']; omega
      have HTK := hide (fun hf => isin_take (l := l) hlt hf)
      have HNO := hide (fun hf => isin_none (l := l) hdg hf)
      have HIS := hide (fun W : World => isin_any (l ++ [UInt8.ofNat (48 + k)]) W (by have := HHL.out; simp; omega))
      have happ : (⟨l.toArray⟩ : ByteArray) ++ ⟨#[UInt8.ofNat (48 + k)]⟩ = ⟨(l ++ [UInt8.ofNat (48 + k)]).toArray⟩ := bytes_app l [UInt8.ofNat (48 + k)]
      generalize UInt8.ofNat (48 + k) = x at HTK HNO HIS hxn happ
      have hcv : (convert 53 9 (.slice (some ⟨wr.heap.size, 0, none⟩) 1 1)).run Tryd.prog (wr.alloc (.cells #[.int .u8 (48 + (k : Int))] 5)) = .ok (.string ⟨#[x]⟩) (wr.alloc (.cells #[.int .u8 (48 + (k : Int))] 5)) :=
        run_convert_bytes_back (P := Tryd.prog) (wr.alloc (.cells #[.int .u8 (48 + (k : Int))] 5)) 53 9 5 ⟨wr.heap.size, 0, none⟩ 1 [x] Tryd.underlying53 Tryd.underlying5 Tryd.underlying9 (fun j hj => by
          match j, hj with
          | 0, _ => simp [Addr.add]; omega)
      have HBA := hide (hB.alloc hB.size (.cells #[.int .u8 (48 + (k : Int))] 5))
      clear hdg hsp hxn hB
      obtain ⟨L, HLL⟩ : ∃ L, Hid (l ++ [x] = L) := ⟨_, hide rfl⟩
      rw [HLL.out] at HTK HNO HIS happ
      clear HLL
      by_cases hok : (isinR L).1 = 0
      · rw [if_pos hok, errF_zero hok] at HIS
        unfold arr at HIS
        have HCL := hide (isinR_len hok)
        have HTX := hide (fun W : World => textIsin_any L W HCL.out)
        obtain ⟨C, rfl⟩ : ∃ C, C = L := ⟨_, rfl⟩
        rcases HF1.out with ⟨hf, rfl, hd⟩ | ⟨hf, _⟩
        · have hqd : ((48 + (k : Int)) == dg) = true := by have := (HTK.out hf).1 hok; simp; omega
          clear hf hd HNO HTK hok
          go_wp2_with fail
          refine (HIS.out _ ).mono ?_
          rintro e w2 ⟨rfl, hb2⟩
          have HB2 := hide (HBA.out.trans (hb2.mono HBA.out.size))
          clear hb2
          go_wp2_with (refine wpList_store_row rfl 25 (.tmp 7) _ rfl w2.heap.size (cel C) rfl rfl _ (cel (zer 12)) (alloc_new w2 _) (by rw [cel_size, HCL.out]; exact Tryd.sizeIsin) (by rw [cel_size, cel_size, HCL.out]; rfl) (cel_one _) ?_; rw [World.setRow_alloc_new])
          have HX := hide (show (w2.alloc (.cells (cel C) 25)).drew.rangeAt w2.heap.size 0 (cel C).toList ∧ ErrType (w2.alloc (.cells (cel C) 25)).drew ∧ Below w.heap.size w (w2.alloc (.cells (cel C) 25)).drew from
            ⟨rng_new w2 C 25, HE.out.below ((HB2.out.alloc HB2.out.size _).drew), (HB2.out.alloc HB2.out.size _).drew⟩)
          haveI : Nonempty (Grown w w2.heap.size (cel C).toList) := ⟨⟨_, HX.out⟩⟩
          refine region_class (C := fun w' => ∃ x : Grown w w2.heap.size (cel C).toList, w' = x.1) (by kernel_rfl) (by kernel_rfl) ⟨⟨_, HX.out⟩, rfl⟩ ?_
          repeat (first
            | go_big_quiet_skip
            | (go_big_quiet_want; first
                | (refine quiet_load 25 (.tmp 7) rfl w2.heap.size rfl (cel C).toList _ (fun w' ⟨x, hx⟩ => by subst hx; exact x.2.1) Tryd.underlying25 rfl (by rw [Array.length_toList, cel_size, HCL.out]; exact Tryd.sizeIsin) ?_; rw [Array.toArray_toList]; simp only [Act.put, List.setIfInBounds_toArray, List.set_cons_zero, List.set_cons_succ]; go_big_quiet_on)
                | (go_big_quiet_op; first
                    | go_big_quiet_on
                    | (apply Exists.intro; refine ⟨fun x => ?_, ?_⟩; (first
                        | (go_at_call 28; exact x.call (HTX.out x.1))); go_big_quiet_on))))
          refine wpQuiet_nil ?_
          rintro w3 ⟨x, rfl⟩
          obtain ⟨w3, hw3⟩ := x
          have HB3 : Hid (Below w.heap.size w w3) := hide hw3.2.2
          dsimp only
          clear hw3 HX this
          go_wp2_with fail
          go_roundw
          case rel => exact ⟨k + 1, by omega, by go_num, HB3.out⟩
          case measure => simp [intOf]; omega
        · exact absurd hok (HNO.out hf)
      · rw [if_neg hok] at HIS
        obtain ⟨t, u, he⟩ := errF_iface hok
        rw [he] at HIS
        unfold arr at HIS
        clear he
        obtain ⟨C, HC⟩ : ∃ C, Hid (zer 12 = C) := ⟨_, hide rfl⟩
        have HCL : Hid (C.length = 12) := by show _ = _; rw [← HC.out]; rfl
        rw [HC.out] at HIS
        have HTX := hide (fun W : World => textIsin_any C W HCL.out)
        rcases HF1.out with ⟨hf, rfl, hd⟩ | ⟨hf, t1, u1, rfl⟩
        · have hqd : ((48 + (k : Int)) == dg) = false := by have := mt (HTK.out hf).2 hok; simp; omega
          clear hf hd HNO HTK hok HC
          go_wp2_with fail
          refine (HIS.out _ ).mono ?_
          rintro e w2 ⟨rfl, hb2⟩
          have HB2 := hide (HBA.out.trans (hb2.mono HBA.out.size))
          clear hb2
          go_wp2_with (refine wpList_store_row rfl 25 (.tmp 7) _ rfl w2.heap.size (cel C) rfl rfl _ (cel (zer 12)) (alloc_new w2 _) (by rw [cel_size, HCL.out]; exact Tryd.sizeIsin) (by rw [cel_size, cel_size, HCL.out]; rfl) (cel_one _) ?_; rw [World.setRow_alloc_new])
          have HX := hide (show (w2.alloc (.cells (cel C) 25)).drew.rangeAt w2.heap.size 0 (cel C).toList ∧ ErrType (w2.alloc (.cells (cel C) 25)).drew ∧ Below w.heap.size w (w2.alloc (.cells (cel C) 25)).drew from
            ⟨rng_new w2 C 25, HE.out.below ((HB2.out.alloc HB2.out.size _).drew), (HB2.out.alloc HB2.out.size _).drew⟩)
          haveI : Nonempty (Grown w w2.heap.size (cel C).toList) := ⟨⟨_, HX.out⟩⟩
          refine region_class (C := fun w' => ∃ x : Grown w w2.heap.size (cel C).toList, w' = x.1) (by kernel_rfl) (by kernel_rfl) ⟨⟨_, HX.out⟩, rfl⟩ ?_
          repeat (first
            | go_big_quiet_skip
            | (go_big_quiet_want; first
                | (refine quiet_load 25 (.tmp 7) rfl w2.heap.size rfl (cel C).toList _ (fun w' ⟨x, hx⟩ => by subst hx; exact x.2.1) Tryd.underlying25 rfl (by rw [Array.length_toList, cel_size, HCL.out]; exact Tryd.sizeIsin) ?_; rw [Array.toArray_toList]; simp only [Act.put, List.setIfInBounds_toArray, List.set_cons_zero, List.set_cons_succ]; go_big_quiet_on)
                | (go_big_quiet_op; first
                    | go_big_quiet_on
                    | (apply Exists.intro; refine ⟨fun x => ?_, ?_⟩; (first
                        | (go_at_call 28; exact x.call (HTX.out x.1))); go_big_quiet_on))))
          refine wpQuiet_nil ?_
          rintro w3 ⟨x, rfl⟩
          obtain ⟨w3, hw3⟩ := x
          have HB3 : Hid (Below w.heap.size w w3) := hide hw3.2.2
          dsimp only
          clear hw3 HX this
          go_wp2_with fail
          go_roundw
          case rel => exact ⟨k + 1, by omega, by go_num, HB3.out⟩
          case measure => simp [intOf]; omega
        · clear hf HNO HTK hok HC
          go_wp2_with fail
          refine (HIS.out _ ).mono ?_
          rintro e w2 ⟨rfl, hb2⟩
          have HB2 := hide (HBA.out.trans (hb2.mono HBA.out.size))
          clear hb2
          go_wp2_with (refine wpList_store_row rfl 25 (.tmp 7) _ rfl w2.heap.size (cel C) rfl rfl _ (cel (zer 12)) (alloc_new w2 _) (by rw [cel_size, HCL.out]; exact Tryd.sizeIsin) (by rw [cel_size, cel_size, HCL.out]; rfl) (cel_one _) ?_; rw [World.setRow_alloc_new])
          have HX := hide (show (w2.alloc (.cells (cel C) 25)).drew.rangeAt w2.heap.size 0 (cel C).toList ∧ ErrType (w2.alloc (.cells (cel C) 25)).drew ∧ Below w.heap.size w (w2.alloc (.cells (cel C) 25)).drew from
            ⟨rng_new w2 C 25, HE.out.below ((HB2.out.alloc HB2.out.size _).drew), (HB2.out.alloc HB2.out.size _).drew⟩)
          haveI : Nonempty (Grown w w2.heap.size (cel C).toList) := ⟨⟨_, HX.out⟩⟩
          refine region_class (C := fun w' => ∃ x : Grown w w2.heap.size (cel C).toList, w' = x.1) (by kernel_rfl) (by kernel_rfl) ⟨⟨_, HX.out⟩, rfl⟩ ?_
          repeat (first
            | go_big_quiet_skip
            | (go_big_quiet_want; first
                | (refine quiet_load 25 (.tmp 7) rfl w2.heap.size rfl (cel C).toList _ (fun w' ⟨x, hx⟩ => by subst hx; exact x.2.1) Tryd.underlying25 rfl (by rw [Array.length_toList, cel_size, HCL.out]; exact Tryd.sizeIsin) ?_; rw [Array.toArray_toList]; simp only [Act.put, List.setIfInBounds_toArray, List.set_cons_zero, List.set_cons_succ]; go_big_quiet_on)
                | (go_big_quiet_op; first
                    | go_big_quiet_on
                    | (apply Exists.intro; refine ⟨fun x => ?_, ?_⟩; (first
                        | (go_at_call 28; exact x.call (HTX.out x.1))); go_big_quiet_on))))
          refine wpQuiet_nil ?_
          rintro w3 ⟨x, rfl⟩
          obtain ⟨w3, hw3⟩ := x
          have HB3 : Hid (Below w.heap.size w w3) := hide hw3.2.2
          dsimp only
          clear hw3 HX this
          go_wp2_with fail
          go_roundw
          case rel => exact ⟨k + 1, by omega, by go_num, HB3.out⟩
          case measure => simp [intOf]; omega
    · have hk' : k = 10 := by omega
      subst hk'
      have HB := hide hB
      clear hB hlt HF1
      go_wp2_with fail
      refine (HLD.out _).mono ?_
      rintro e w1 ⟨rfl, hb1⟩
      have hB1 := HB.out.trans (hb1.mono HB.out.size)
      clear HB hb1
      go_wp2_with fail
      go_loopw [10] (fun c wr => ∃ k : Nat, k ≤ 100 ∧ c = .int .i64 (k : Int) ∧ Below w.heap.size w wr) (fun c _ => 100 - (intOf c).toNat)
      case atStart => exact ⟨0, by omega, rfl, hB1⟩
      case round =>
        clear hB1
        obtain ⟨k, hk, rfl, hB⟩ := hrel
        by_cases hlt : k < 100
        · obtain ⟨hdx, hsx⟩ := dg_of (k := k / 10) (by omega)
          obtain ⟨hdy, hsy⟩ := dg_of (k := k % 10) (by omega)
          have hxn : (UInt8.ofNat (48 + k / 10)).toNat = 48 + k / 10 := by rw [UInt8.toNat_ofNat']; omega
          have hyn : (UInt8.ofNat (48 + k % 10)).toNat = 48 + k % 10 := by rw [UInt8.toNat_ofNat']; omega
          have HTK := hide (fun hf => lei_take (l := l) hdx hdy hf)
          have HNO := hide (fun hf => lei_none (l := l) hdx hdy hf)
          have HIS := hide (fun (W : World) (hW : ErrType W) => lei_any (l ++ [UInt8.ofNat (48 + k / 10), UInt8.ofNat (48 + k % 10)]) W hW (by have := HHL.out; simp; omega))
          generalize UInt8.ofNat (48 + k / 10) = x at HTK HNO HIS hxn
          generalize UInt8.ofNat (48 + k % 10) = y at HTK HNO HIS hyn
          have happ : (⟨l.toArray⟩ : ByteArray) ++ ⟨#[x, y]⟩ = ⟨(l ++ [x, y]).toArray⟩ := bytes_app l [x, y]
          have hcv : (convert 53 9 (.slice (some ⟨wr.heap.size, 0, none⟩) 2 2)).run Tryd.prog (wr.alloc (.cells #[.int .u8 (48 + (k : Int) / 10), .int .u8 (48 + (k : Int) % 10)] 5)) = .ok (.string ⟨#[x, y]⟩) (wr.alloc (.cells #[.int .u8 (48 + (k : Int) / 10), .int .u8 (48 + (k : Int) % 10)] 5)) :=
            run_convert_bytes_back (P := Tryd.prog) (wr.alloc (.cells #[.int .u8 (48 + (k : Int) / 10), .int .u8 (48 + (k : Int) % 10)] 5)) 53 9 5 ⟨wr.heap.size, 0, none⟩ 2 [x, y] Tryd.underlying53 Tryd.underlying5 Tryd.underlying9 (fun j hj => by
              match j, hj with
              | 0, _ => simp [Addr.add]; omega
              | 1, _ => simp [Addr.add]; omega)
          have HBA := hide (hB.alloc hB.size (.cells #[.int .u8 (48 + (k : Int) / 10), .int .u8 (48 + (k : Int) % 10)] 5))
          clear hdx hsx hdy hsy hxn hyn hB
          obtain ⟨L, HLL⟩ : ∃ L, Hid (l ++ [x, y] = L) := ⟨_, hide rfl⟩
          rw [HLL.out] at HTK HNO HIS happ
          clear HLL
          by_cases hok : (leiR L).1 = 0
          · rw [if_pos hok, errF_zero hok] at HIS
            unfold arr at HIS
            have HCL := hide (leiR_len hok)
            have HTX := hide (fun W : World => textLei_any L W HCL.out)
            obtain ⟨C, rfl⟩ : ∃ C, C = L := ⟨_, rfl⟩
            rcases HF2.out with ⟨hf, rfl, hd⟩ | ⟨hf, _⟩
            · have hqd := (HTK.out hf).1 hok
              rw [← hd] at hqd
              subst hqd
              clear hf hd HNO HTK hok
              go_wp2_with fail
              refine (HIS.out _ (HE.out.below HBA.out)).mono ?_
              rintro e w2 ⟨rfl, hb2⟩
              have HB2 := hide (HBA.out.trans (hb2.mono HBA.out.size))
              clear hb2
              go_wp2_with (refine wpList_store_row rfl 38 (.tmp 13) _ rfl w2.heap.size (cel C) rfl rfl _ (cel (zer 20)) (alloc_new w2 _) (by rw [cel_size, HCL.out]; exact Tryd.sizeLei) (by rw [cel_size, cel_size, HCL.out]; rfl) (cel_one _) ?_; rw [World.setRow_alloc_new])
              have HX := hide (show (w2.alloc (.cells (cel C) 38)).drew.rangeAt w2.heap.size 0 (cel C).toList ∧ ErrType (w2.alloc (.cells (cel C) 38)).drew ∧ Below w.heap.size w (w2.alloc (.cells (cel C) 38)).drew from
                ⟨rng_new w2 C 38, HE.out.below ((HB2.out.alloc HB2.out.size _).drew), (HB2.out.alloc HB2.out.size _).drew⟩)
              haveI : Nonempty (Grown w w2.heap.size (cel C).toList) := ⟨⟨_, HX.out⟩⟩
              refine region_class (C := fun w' => ∃ x : Grown w w2.heap.size (cel C).toList, w' = x.1) (by kernel_rfl) (by kernel_rfl) ⟨⟨_, HX.out⟩, rfl⟩ ?_
              repeat (first
                | go_big_quiet_skip
                | (go_big_quiet_want; first
                    | (refine quiet_load 38 (.tmp 13) rfl w2.heap.size rfl (cel C).toList _ (fun w' ⟨x, hx⟩ => by subst hx; exact x.2.1) Tryd.underlying38 rfl (by rw [Array.length_toList, cel_size, HCL.out]; exact Tryd.sizeLei) ?_; rw [Array.toArray_toList]; simp only [Act.put, List.setIfInBounds_toArray, List.set_cons_zero, List.set_cons_succ]; go_big_quiet_on)
                    | (go_big_quiet_op; first
                        | go_big_quiet_on
                        | (apply Exists.intro; refine ⟨fun x => ?_, ?_⟩; (first
                            | (go_at_call 29; exact x.call (HTX.out x.1))); go_big_quiet_on))))
              refine wpQuiet_nil ?_
              rintro w3 ⟨x, rfl⟩
              obtain ⟨w3, hw3⟩ := x
              have HB3 : Hid (Below w.heap.size w w3) := hide hw3.2.2
              dsimp only
              clear hw3 HX this
              go_wp2_with fail
              go_roundw
              case rel => exact ⟨k + 1, by omega, by go_num, HB3.out⟩
              case measure => simp [intOf]; omega
            · exact absurd hok (HNO.out hf)
          · rw [if_neg hok] at HIS
            obtain ⟨t, u, he⟩ := errF_iface hok
            rw [he] at HIS
            unfold arr at HIS
            clear he
            obtain ⟨C, HC⟩ : ∃ C, Hid (zer 20 = C) := ⟨_, hide rfl⟩
            have HCL : Hid (C.length = 20) := by show _ = _; rw [← HC.out]; rfl
            rw [HC.out] at HIS
            have HTX := hide (fun W : World => textLei_any C W HCL.out)
            rcases HF2.out with ⟨hf, rfl, hd⟩ | ⟨hf, t1, u1, rfl⟩
            · have hqd : ([x, y] == T) = false := by
                have h1 := mt (HTK.out hf).2 hok
                rw [← hd] at h1; simpa using h1
              clear hf hd HNO HTK hok HC
              go_wp2_with fail
              refine (HIS.out _ (HE.out.below HBA.out)).mono ?_
              rintro e w2 ⟨rfl, hb2⟩
              have HB2 := hide (HBA.out.trans (hb2.mono HBA.out.size))
              clear hb2
              go_wp2_with (refine wpList_store_row rfl 38 (.tmp 13) _ rfl w2.heap.size (cel C) rfl rfl _ (cel (zer 20)) (alloc_new w2 _) (by rw [cel_size, HCL.out]; exact Tryd.sizeLei) (by rw [cel_size, cel_size, HCL.out]; rfl) (cel_one _) ?_; rw [World.setRow_alloc_new])
              have HX := hide (show (w2.alloc (.cells (cel C) 38)).drew.rangeAt w2.heap.size 0 (cel C).toList ∧ ErrType (w2.alloc (.cells (cel C) 38)).drew ∧ Below w.heap.size w (w2.alloc (.cells (cel C) 38)).drew from
                ⟨rng_new w2 C 38, HE.out.below ((HB2.out.alloc HB2.out.size _).drew), (HB2.out.alloc HB2.out.size _).drew⟩)
              haveI : Nonempty (Grown w w2.heap.size (cel C).toList) := ⟨⟨_, HX.out⟩⟩
              refine region_class (C := fun w' => ∃ x : Grown w w2.heap.size (cel C).toList, w' = x.1) (by kernel_rfl) (by kernel_rfl) ⟨⟨_, HX.out⟩, rfl⟩ ?_
              repeat (first
                | go_big_quiet_skip
                | (go_big_quiet_want; first
                    | (refine quiet_load 38 (.tmp 13) rfl w2.heap.size rfl (cel C).toList _ (fun w' ⟨x, hx⟩ => by subst hx; exact x.2.1) Tryd.underlying38 rfl (by rw [Array.length_toList, cel_size, HCL.out]; exact Tryd.sizeLei) ?_; rw [Array.toArray_toList]; simp only [Act.put, List.setIfInBounds_toArray, List.set_cons_zero, List.set_cons_succ]; go_big_quiet_on)
                    | (go_big_quiet_op; first
                        | go_big_quiet_on
                        | (apply Exists.intro; refine ⟨fun x => ?_, ?_⟩; (first
                            | (go_at_call 29; exact x.call (HTX.out x.1))); go_big_quiet_on))))
              refine wpQuiet_nil ?_
              rintro w3 ⟨x, rfl⟩
              obtain ⟨w3, hw3⟩ := x
              have HB3 : Hid (Below w.heap.size w w3) := hide hw3.2.2
              dsimp only
              clear hw3 HX this
              go_wp2_with fail
              go_roundw
              case rel => exact ⟨k + 1, by omega, by go_num, HB3.out⟩
              case measure => simp [intOf]; omega
            · clear hf HNO HTK hok HC
              go_wp2_with fail
              refine (HIS.out _ (HE.out.below HBA.out)).mono ?_
              rintro e w2 ⟨rfl, hb2⟩
              have HB2 := hide (HBA.out.trans (hb2.mono HBA.out.size))
              clear hb2
              go_wp2_with (refine wpList_store_row rfl 38 (.tmp 13) _ rfl w2.heap.size (cel C) rfl rfl _ (cel (zer 20)) (alloc_new w2 _) (by rw [cel_size, HCL.out]; exact Tryd.sizeLei) (by rw [cel_size, cel_size, HCL.out]; rfl) (cel_one _) ?_; rw [World.setRow_alloc_new])
              have HX := hide (show (w2.alloc (.cells (cel C) 38)).drew.rangeAt w2.heap.size 0 (cel C).toList ∧ ErrType (w2.alloc (.cells (cel C) 38)).drew ∧ Below w.heap.size w (w2.alloc (.cells (cel C) 38)).drew from
                ⟨rng_new w2 C 38, HE.out.below ((HB2.out.alloc HB2.out.size _).drew), (HB2.out.alloc HB2.out.size _).drew⟩)
              haveI : Nonempty (Grown w w2.heap.size (cel C).toList) := ⟨⟨_, HX.out⟩⟩
              refine region_class (C := fun w' => ∃ x : Grown w w2.heap.size (cel C).toList, w' = x.1) (by kernel_rfl) (by kernel_rfl) ⟨⟨_, HX.out⟩, rfl⟩ ?_
              repeat (first
                | go_big_quiet_skip
                | (go_big_quiet_want; first
                    | (refine quiet_load 38 (.tmp 13) rfl w2.heap.size rfl (cel C).toList _ (fun w' ⟨x, hx⟩ => by subst hx; exact x.2.1) Tryd.underlying38 rfl (by rw [Array.length_toList, cel_size, HCL.out]; exact Tryd.sizeLei) ?_; rw [Array.toArray_toList]; simp only [Act.put, List.setIfInBounds_toArray, List.set_cons_zero, List.set_cons_succ]; go_big_quiet_on)
                    | (go_big_quiet_op; first
                        | go_big_quiet_on
                        | (apply Exists.intro; refine ⟨fun x => ?_, ?_⟩; (first
                            | (go_at_call 29; exact x.call (HTX.out x.1))); go_big_quiet_on))))
              refine wpQuiet_nil ?_
              rintro w3 ⟨x, rfl⟩
              obtain ⟨w3, hw3⟩ := x
              have HB3 : Hid (Below w.heap.size w w3) := hide hw3.2.2
              dsimp only
              clear hw3 HX this
              go_wp2_with fail
              go_roundw
              case rel => exact ⟨k + 1, by omega, by go_num, HB3.out⟩
              case measure => simp [intOf]; omega
        · have hk' : k = 100 := by omega
          subst hk'
          have HB := hide hB
          clear hB hlt
          go_wp2_with fail
          go_ret
          exact ⟨rfl, HB.out⟩
end Go.Proofs.YtkpmmcekcpbilaaDoor
