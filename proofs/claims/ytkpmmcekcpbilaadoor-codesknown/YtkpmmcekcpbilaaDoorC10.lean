/-
  My own text: the law on forms: its walk.
-/
import Derived.Test.YtkpmmcekcpbilaaDoorC10c
namespace Go.Proofs.YtkpmmcekcpbilaaDoor
open Go.RowKit

theorem Tryd.cellsStr : Tryd.prog.cellsOf 9 = 1 := by kernel_rfl
theorem equalStr (d : Nat) (x : ByteArray) (w : World) : (Op.equalIn (d + 1) 9 (.string x) (.string x)).run Tryd.prog w = .ok true w := by
  have h : (x == x) = true := by first | exact beq_self_eq_true x | (show (x.data == x.data) = true; simp)
  simp [Op.equalIn, run_underlying Tryd.underlying9, h]
theorem part_str {xs : Array Value} {i : Nat} {v : Value} (h : xs[i]? = some v) (w : World) : (part 9 xs i).run Tryd.prog w = .ok v w := by
  simp [part, isAgg, underlying, Tryd.underlying9, h, Result.andThen]
theorem run_neq_four (a b c d : ByteArray) (w : World) : (binOp .neq 46 (.agg #[.string a, .string b, .string c, .string d]) (.agg #[.string a, .string b, .string c, .string d])).run Tryd.prog w = .ok (.bool false) w := by
  obtain ⟨i, hi, _⟩ := info_parts (P := Tryd.prog) (t := 9) (z := .string ⟨#[]⟩) (s := 1) (b := 16) (by kernel_rfl)
  have h := run_equalIn_array (P := Tryd.prog) w 9999 #[.string a, .string b, .string c, .string d] #[.string a, .string b, .string c, .string d] Tryd.underlying46 hi
  have p0 : (part 9 #[.string a, .string b, .string c, .string d] 0).run Tryd.prog w = .ok (.string a) w := part_str rfl w
  have p1 : (part 9 #[.string a, .string b, .string c, .string d] 1).run Tryd.prog w = .ok (.string b) w := part_str rfl w
  have p2 : (part 9 #[.string a, .string b, .string c, .string d] 2).run Tryd.prog w = .ok (.string c) w := part_str rfl w
  have p3 : (part 9 #[.string a, .string b, .string c, .string d] 3).run Tryd.prog w = .ok (.string d) w := part_str rfl w
  rw [Tryd.cellsStr, show List.range 4 = [0, 1, 2, 3] from rfl] at h
  have q0 := equalStr 9998 a w
  have q1 := equalStr 9998 b w
  have q2 := equalStr 9998 c w
  have q3 := equalStr 9998 d w
  have hE : (Op.eqItems 9999 9 1 #[.string a, .string b, .string c, .string d] #[.string a, .string b, .string c, .string d] [0, 1, 2, 3]).run Tryd.prog w = .ok true w := by
    simp [Op.eqItems, p0, p1, p2, p3, q0, q1, q2, q3]
  rw [hE] at h
  simp only [binOp]
  simp [Op.equal, Op.maxDepth, h]
theorem bicV_four (l : List UInt8) : ∃ a b c d : ByteArray, bicV l = #[.string a, .string b, .string c, .string d] := by
  unfold bicV bicP bicZ str
  split <;> exact ⟨_, _, _, _, rfl⟩
set_option maxRecDepth 100000 in
set_option maxHeartbeats 2000000 in
theorem forms_law (l : List UInt8) (w : World) (hE : ErrType w) (hO : HeadOffice w) (hl : l.length ≤ 140737488355328) :
    Calls Tryd.prog 5 #[.string ⟨l.toArray⟩] w fun e w' => e = .returned (.bool true) ∧ Below w.heap.size w w' := by
  have HE := hide hE
  have HO := hide hO
  have HRB := hide (fun W : World => refBic_any l W hl)
  have HPB := hide (fun (W : World) (hW : HeadOffice W) => bic_any l W hW hl)
  have HRC := hide (fun W : World => refCurrency_any l W hl)
  have HPC := hide (fun W : World => currency_any l W hl)
  have HRA := hide (fun W : World => refAccount_any l W hl)
  have HPA := hide (fun W : World => account_any l W hl)
  have HTB := hide (fun W : World => told_any (formR l (bicF l)) W (err6_form _ _))
  have HTC := hide (fun W : World => told_any (formR l curF) W (err6_form _ _))
  have HTA := hide (fun W : World => told_any (formR l (accF l)) W (err6_form _ _))
  have HWK := hide (fun (W : World) (hW : ErrType W) => works_any W hW)
  obtain ⟨b1, b2, hb⟩ : ∃ a b, formR l (bicF l) = (a, b) := ⟨_, _, rfl⟩
  obtain ⟨c1, c2, hc⟩ : ∃ a b, formR l curF = (a, b) := ⟨_, _, rfl⟩
  obtain ⟨a1, a2, ha⟩ : ∃ a b, formR l (accF l) = (a, b) := ⟨_, _, rfl⟩
  rw [hb] at HRB HPB HTB
  rw [hc] at HRC HPC HTC
  rw [ha] at HRA HPA HTA
  dsimp only at HRB HPB HTB HRC HPC HTC HRA HPA HTA
  obtain ⟨eb, Heb⟩ : ∃ v, Hid (errF (b1, b2) = v) := ⟨_, hide rfl⟩
  obtain ⟨ec, Hec⟩ : ∃ v, Hid (errF (c1, c2) = v) := ⟨_, hide rfl⟩
  obtain ⟨ea, Hea⟩ : ∃ v, Hid (errF (a1, a2) = v) := ⟨_, hide rfl⟩
  rw [Heb.out] at HPB HTB
  rw [Hec.out] at HPC HTC
  rw [Hea.out] at HPA HTA
  obtain ⟨p, q, r, s, hV⟩ := bicV_four l
  rw [hV] at HRB HPB
  have hneq := run_neq_four p q r s
  obtain ⟨V, HV, HV4, HVO⟩ : ∃ V : Array Value, Hid (#[.string p, .string q, .string r, .string s] = V) ∧ Hid (V.size = 4) ∧ Hid (V.all (·.oneCell') = true) := ⟨_, hide rfl, hide rfl, hide (by simp [Value.oneCell'])⟩
  rw [HV.out] at HRB HPB hneq
  clear hE hO hb hc ha Heb Hec Hea hV HV
  go_enter Tryd.func5, Tryd.ntmps5
  go_wp2_with fail
  refine (HRB.out _).mono ?_
  rintro e w1 ⟨rfl, hb1⟩
  have HB1 := hide hb1
  clear hb1
  go_wp2_with (refine wpList_store_row rfl 46 (.tmp 3) _ rfl w1.heap.size V rfl rfl _ bicZ (alloc_new w1 _) (by rw [HV4.out]; exact Tryd.size4) (by rw [HV4.out]; rfl) HVO.out ?_; rw [World.setRow_alloc_new])
  have HW1 := hide (HB1.out.alloc HB1.out.size (.cells V 46))
  have HN1 := hide (alloc_new w1 (.cells V 46))
  refine (HPB.out _ (HO.out.below HW1.out)).mono ?_
  rintro e w2 ⟨rfl, hb2⟩
  have HB2 := hide (HW1.out.trans (hb2.mono HW1.out.size))
  have HN2 := hide (alloc_block (o := .cells V 46) ((hb2.block w1.heap.size (by simp)).trans HN1.out))
  have HN3 := hide (alloc_new w2 (.cells V 46))
  have HB3 := hide (HB2.out.alloc HB2.out.size (.cells V 46))
  clear hb2
  go_wp2_with (first
    | (refine wpList_store_row rfl 46 (.tmp 6) _ rfl w2.heap.size V rfl rfl _ bicZ (alloc_new w2 _) (by rw [HV4.out]; exact Tryd.size4) (by rw [HV4.out]; rfl) HVO.out ?_; rw [World.setRow_alloc_new])
    | (refine wpList_load_row rfl 46 (.tmp 6) rfl w2.heap.size rfl _ V _ _ HN3.out Tryd.underlying46 rfl (by rw [HV4.out]; exact Tryd.size4) ?_)
    | (refine wpList_load_row rfl 46 (.tmp 3) rfl w1.heap.size rfl _ V _ _ HN2.out Tryd.underlying46 rfl (by rw [HV4.out]; exact Tryd.size4) ?_))
  refine (HTB.out _ (HE.out.below HB3.out)).mono ?_
  rintro e w3 ⟨rfl, hb3⟩
  have HB4 := hide (HB3.out.trans (hb3.mono HB3.out.size))
  clear hb3 HN1 HN2 HN3
  go_wp2_with fail
  refine (HRC.out _).mono ?_
  rintro e w4 ⟨rfl, hb4⟩
  have HB5 := hide (HB4.out.trans (hb4.mono HB4.out.size))
  clear hb4
  go_wp2_with fail
  refine (HPC.out _).mono ?_
  rintro e w5 ⟨rfl, hb5⟩
  have HB6 := hide (HB5.out.trans (hb5.mono HB5.out.size))
  clear hb5
  go_wp2_with fail
  refine (HTC.out _ (HE.out.below HB6.out)).mono ?_
  rintro e w6 ⟨rfl, hb6⟩
  have HB7 := hide (HB6.out.trans (hb6.mono HB6.out.size))
  clear hb6
  go_wp2_with fail
  refine (HRA.out _).mono ?_
  rintro e w7 ⟨rfl, hb7⟩
  have HB8 := hide (HB7.out.trans (hb7.mono HB7.out.size))
  clear hb7
  go_wp2_with fail
  refine (HPA.out _).mono ?_
  rintro e w8 ⟨rfl, hb8⟩
  have HB9 := hide (HB8.out.trans (hb8.mono HB8.out.size))
  clear hb8
  go_wp2_with fail
  refine (HTA.out _ (HE.out.below HB9.out)).mono ?_
  rintro e w9 ⟨rfl, hb9⟩
  have HB10 := hide (HB9.out.trans (hb9.mono HB9.out.size))
  clear hb9
  go_wp2_with fail
  refine (HWK.out _ (HE.out.below HB10.out)).mono ?_
  rintro e w10 ⟨rfl, hb10⟩
  go_wp2_with fail
  go_ret
  exact ⟨rfl, HB10.out.trans (hb10.mono HB10.out.size)⟩
end Go.Proofs.YtkpmmcekcpbilaaDoor
