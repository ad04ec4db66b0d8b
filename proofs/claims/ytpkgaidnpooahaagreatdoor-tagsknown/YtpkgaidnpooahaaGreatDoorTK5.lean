/-
  My own text: the closed law on tags: texts of as many bytes as there may be.
-/
import Derived.Test.YtpkgaidnpooahaaGreatDoorTKB
import Derived.Test.YtpkgaidnpooahaaGreatDoorQE
import Derived.Test.YtpkgaidnpooahaaGreatDoorQH
import Derived.Test.YtpkgaidnpooahaaGreatDoorQY
import Derived.Test.YtpkgaidnpooahaaGreatDoorT15
namespace Go.Proofs.YtpkgaidnpooahaaGreatDoor
open Go.RowKit

/-- A field with a text of so many bytes. -/
def lgI (n : Nat) : Tr := .mk ⟨[50, 48, 67], [], List.replicate n 97, []⟩ []
theorem lg_txt (n : Nat) : txtL [lgI n] = [58, 50, 48, 67, 58] ++ List.replicate n 97 ++ [10] := by
  simp [txtL, txtI, lgI, fT]
theorem lg_get (n j : Nat) : (List.replicate n (97 : UInt8)).getD j 0 = if j < n then 97 else 0 := by
  rw [List.getD_eq_getElem?_getD, List.getElem?_replicate]
  split <;> rfl
theorem lg_err (n : Nat) : errL [lgI n] 0 = 0 := by
  have h1 : txB (List.replicate n 97) = true := by
    unfold txB
    rw [List.all_eq_true]
    intro c hc
    rw [(List.mem_replicate.1 hc).2]; decide
  have h2 : nlB (List.replicate n 97) = false := by
    unfold nlB
    rw [List.any_eq_false]
    intro j _
    unfold badAt
    rw [lg_get]
    split <;> simp
  have h3 : hdB (List.replicate n 97) = false := by
    unfold hdB
    rw [lg_get]
    split <;> decide
  have h4 : tagB [50, 48, 67] = true := by decide
  simp [errL, errI, lgI, itemE, fieldE, fE, h1, h2, h3, h4]
theorem lg_wts (n : Nat) : wts [lgI n] = n + 4 := by simp [wts, Tr.wt, lgI]; omega
theorem Tryz.infoZ : (Tryz.prog.info? 5).map (fun i => (i.zero, i.size, i.bytes)) = some (some (.int .u8 0), 1, 1) := by kernel_rfl
def zv (n : Nat) : List Value := List.replicate n (.int .u8 97)
theorem zv_snoc (n : Nat) : zv (n + 1) = zv n ++ [.int .u8 97] := by unfold zv; rw [List.replicate_succ']
/-- A byte behind a row of the same bytes. -/
theorem wp_append_z {w : World} {ops : Array Oper} {rest : List Oper} {o : Oper} {a : Act} {Q : Exit → Act → World → Prop} (hgd : o.guard = none) (s x : Operand)
    (ho : o.op = .call { callee := .builtin .append, args := #[s, x], argTypes := #[34, 34] }) (B : Nat) (v : Value) (n : Nat) (b : Nat) (hs : a.eval s = v) (hx : a.eval x = .slice (some ⟨b, 0, none⟩) 1 1)
    (hown : w.ownsRow B 5 1 v n (zv n)) (hc : w.cell? ⟨b, 0, none⟩ = some (.int .u8 97)) (hB : B ≤ w.heap.size) (hsz : n ≤ 2000000)
    (h : ∀ v' w', w'.ownsRow B 5 1 v' (n + 1) (zv (n + 1)) → w.grownBy w' v.ownBlock → (∀ g, v.ownBlock = some g → B ≤ g) → wpList Tryz.prog ops Q rest (a.put o.dst v') w') : wpList Tryz.prog ops Q (o :: rest) a w := by
  obtain ⟨i0, hi, hz0, hz1, hz2⟩ := info_parts Tryz.infoZ
  refine wpList_append_own _ hgd s x 34 ho B 5 i0 (.int .u8 0) 1 1 Tryz.underlying34 hi hz0 hz1 hz2 rfl (by decide) _ _ _ hs hown ⟨b, 0, none⟩ 1 1 [.int .u8 97] hx rfl (fun j u hj => ?_) (fun u hu => ?_) (by unfold maxLen; omega) (by omega) hB ?_
  · match j, hj with
    | 0, hj => simp at hj; subst hj; simpa [Addr.add] using hc
  · simp at hu; subst hu; rfl
  · intro v' w1 hown' hgrow _
    exact h v' w1 (by rw [zv_snoc]; exact hown') hgrow (fun g hg => (own_ltq hown g hg).1)
theorem cv_own {w : World} {B : Nat} {v : Value} {n : Nat} (h : w.ownsRow B 5 1 v n (zv n)) (hn : 0 < n) : ∃ g cap, v = .slice (some ⟨g, 0, none⟩) n cap ∧ (convert 34 9 v).run Tryz.prog w = .ok (.string ⟨(List.replicate n 97).toArray⟩) w := by
  rcases id h.2 with ⟨rfl, h0⟩ | ⟨g, cap, cur, rfl, _⟩
  · omega
  · refine ⟨g, cap, rfl, ?_⟩
    have := run_convert_bytes_back (P := Tryz.prog) w 34 9 5 ⟨g, 0, none⟩ cap (List.replicate n 97) Tryz.underlying34 Tryz.underlying5 Tryz.underlying9 (fun j hj => by
      have hj' : j < n := by simpa using hj
      have h2 := World.ownsRow.cells h rfl j (.int .u8 97) (by simp [zv, hj'])
      rw [h2]; simp)
    rw [List.length_replicate] at this
    exact this
theorem ext_rep (m n : Nat) (h : n ≤ m) : (⟨(List.replicate m (97 : UInt8)).toArray⟩ : ByteArray).extract 0 n = ⟨(List.replicate n 97).toArray⟩ := by
  apply ByteArray.ext
  simp [Nat.min_eq_left h]
set_option maxRecDepth 100000 in
set_option maxHeartbeats 16000000 in
theorem longK_any (w : World) (hL : KL w) (hm : ML w) :
    Calls Tryz.prog 9 #[] w fun e w' => e = .returned (.bool true) ∧ Below w.heap.size w w' := by
  have HL := hide hL
  have HM := hide hm
  clear hL hm
  go_enter Tryz.func9, Tryz.ntmps9
  go_wp2_with fail
  go_loopw [1, 2] (fun v i wr => ∃ k : Nat, k ≤ 1048577 ∧ i = .int .i64 k ∧ Hid (wr.ownsRow w.heap.size 5 1 v k (zv k)) ∧ Hid (Below w.heap.size w wr)) (fun _ i _ => 1048577 - (intOf i).toNat)
  case atStart => exact ⟨0, Nat.zero_le _, rfl, hide (World.ownsRow_nil _ _ _ _), hide (Below.refl _ _)⟩
  case round =>
    obtain ⟨k, hk, rfl, HO, HB⟩ := hrel
    have hbs := HB.out.size
    by_cases hkl : k < 1048577
    · have hd1 : decide ((k : Int) < 1048577) = true := by rw [decide_eq_true_eq]; omega
      have HO1 := hide (HO.out.alloc (.cells #[.int .u8 97] 5))
      have HB1 := hide (HB.out.alloc HB.out.size (.cells #[.int .u8 97] 5))
      go_wp2_with (at_builtin; refine wp_append_z rfl _ _ rfl w.heap.size _ k wr.heap.size rfl rfl HO1.out (by simp) (by simp; omega) (by omega) ?_)
      intro v2 w2 ho2 hg2 hbl
      have HO2 := hide ho2
      have HB2 := hide (HB1.out.grown hg2 (by simp; omega) hbl)
      clear ho2 hg2 hbl HO HB HO1 HB1
      go_wp2_with fail
      go_roundw
      case rel => exact ⟨k + 1, by omega, by go_num, HO2, HB2⟩
      case measure => simp [intOf]; omega
    · have h' : k = 1048577 := by omega
      subst h'
      rw [show ((1048577 : Nat) : Int) = 1048577 from rfl]
      obtain ⟨g, cap, rfl, hcv⟩ := cv_own HO.out (by omega)
      obtain ⟨X, hX⟩ : ∃ X : List UInt8, Hid (X = List.replicate 1048577 97) := ⟨_, hide rfl⟩
      rw [← hX.out] at hcv
      have hXl : X.length = 1048577 := by rw [hX.out, List.length_replicate]
      clear HO
      go_wp2_with fail
      clear hcv
      go_loopw [4] (fun i wr => ∃ n : Nat, 1048568 ≤ n ∧ n ≤ 1048572 ∧ i = .int .i64 ((n : Int) + 6) ∧ Hid (Below w.heap.size w wr)) (fun i _ => 1048578 - (intOf i).toNat)
      case atStart => exact ⟨1048568, Nat.le_refl _, by omega, rfl, HB⟩
      case round =>
        clear HB hbs
        obtain ⟨n, hn0, hn1, rfl, HB⟩ := hrel
        by_cases hnl : n < 1048572
        · have hd1 : decide ((n : Int) + 6 ≤ 1048577) = true := by rw [decide_eq_true_eq]; omega
          obtain ⟨R, hR, e1⟩ : ∃ R : List UInt8, Hid (R = List.replicate n 97) ∧ (⟨X.toArray⟩ : ByteArray).extract 0 n = ⟨R.toArray⟩ := ⟨_, hide rfl, by rw [hX.out]; exact ext_rep _ _ (by omega)⟩
          obtain ⟨X2, hX2, e2⟩ : ∃ X2 : List UInt8, X2.length = n + 6 ∧ (⟨X.toArray⟩ : ByteArray).extract 0 (n + 6) = ⟨X2.toArray⟩ := ⟨List.replicate (n + 6) 97, List.length_replicate, by rw [hX.out]; exact ext_rep _ _ (by omega)⟩
          have hRl : R.length = n := by rw [hR.out, List.length_replicate]
          obtain ⟨R1, hR1, a1⟩ : ∃ R1 : List UInt8, Hid (R1 = [58, 50, 48, 67, 58] ++ R) ∧ (⟨#[58, 50, 48, 67, 58]⟩ : ByteArray) ++ ⟨R.toArray⟩ = ⟨R1.toArray⟩ := ⟨_, hide rfl, by apply ByteArray.ext; simp⟩
          obtain ⟨T, hT, a2⟩ : ∃ T : List UInt8, Hid (T = R1 ++ [10]) ∧ (⟨R1.toArray⟩ : ByteArray) ++ ⟨#[10]⟩ = ⟨T.toArray⟩ := ⟨_, hide rfl, by apply ByteArray.ext; simp⟩
          have hTl : T.length = n + 6 := by rw [hT.out, hR1.out]; simp; omega
          have hTT : Hid (txtL [(Tr.mk ⟨[50, 48, 67], [], R, []⟩ [])] = T) := hide (by rw [hT.out, hR1.out, hR.out]; exact lg_txt n)
          have hTE : Hid (errL [(Tr.mk ⟨[50, 48, 67], [], R, []⟩ [])] 0 = 0) := hide (by rw [hR.out]; exact lg_err n)
          have HRW : Hid (14 * wts [(Tr.mk ⟨[50, 48, 67], [], R, []⟩ [])] ≤ 1099511627776) := hide (by simp [wts, Tr.wt]; omega)
          have hR1l : R1.length = n + 5 := by rw [hR1.out]; simp; omega
          have n0 : (0 : Int) ≤ (n : Int) := by omega
          have n1 : (n : Int) ≤ 1048577 := by omega
          have n2 : (n : Int) + 6 ≤ 1048577 := by omega
          clear hR hR1 hT
          by_cases hg : n + 6 ≤ 1048576
          · have hd2 : decide ((n : Int) + 6 ≤ 1048576) = true := by rw [decide_eq_true_eq]; omega
            have HPE : Hid (prE [(Tr.mk ⟨[50, 48, 67], [], R, []⟩ [])] = 0) := hide (by unfold prE; rw [hTE.out, hTT.out, if_neg (by simp), if_neg (by omega)])
            have HPT : Hid (prT [(Tr.mk ⟨[50, 48, 67], [], R, []⟩ [])] = T) := hide (by unfold prT; rw [HPE.out, if_pos rfl, hTT.out])
            have HPA := hide (parse_ok T [(Tr.mk ⟨[50, 48, 67], [], R, []⟩ [])] wr (by omega) (by obtain ⟨x, y, hxy⟩ := rdT_back [(Tr.mk ⟨[50, 48, 67], [], R, []⟩ [])] hTE.out; rw [hTT.out] at hxy; exact readsOk (by omega) hxy) (HM.out.later HB.out))
            go_wp2_with fail
            refine HPA.out.mono ?_
            rintro e w2 ⟨⟨a, cap2, rfl, _⟩, hb2⟩
            have B2 := hide (HB.out.trans (hb2.mono HB.out.size))
            clear hb2 HPA HB
            dsimp only [List.length_cons, List.length_nil]
            go_wp2_with fail
            refine (HL.out.plc w2 _ B2.out (by rw [bytes_size]; omega)).mono ?_
            rintro e w3 ⟨rfl, hb3⟩
            have B3 := hide (B2.out.trans (hb3.mono B2.out.size))
            clear hb3 B2
            go_wp2_with fail
            refine (HL.out.plc w3 _ B3.out (by rw [bytes_size]; omega)).mono ?_
            rintro e w4 ⟨rfl, hb4⟩
            have B4 := hide (B3.out.trans (hb4.mono B3.out.size))
            clear hb4 B3
            have bA := (Below.refl w4.heap.size w4).alloc (Nat.le_refl _) (.cells (itC [((Tr.mk ⟨[50, 48, 67], [], R, []⟩ []), .slice none 0 0)]).toArray 25)
            have B5 := hide (B4.out.trans (bA.mono B4.out.size))
            have HPR := hide (tPrint_any [(Tr.mk ⟨[50, 48, 67], [], R, []⟩ [])] (.slice (some ⟨w4.heap.size, 0, none⟩) 1 1) (w4.alloc (.cells (itC [((Tr.mk ⟨[50, 48, 67], [], R, []⟩ []), .slice none 0 0)]).toArray 25)) (by have := HRW.out; omega) (RT_litn [((Tr.mk ⟨[50, 48, 67], [], R, []⟩ []), .slice none 0 0)] _ _ rfl rfl rfl rfl (fun p hp => by rw [List.mem_singleton.1 hp]; exact RT_nil _)))
            rw [HPE.out, HPT.out, errV_zero] at HPR
            clear bA B4
            go_wp2_with fail
            refine HPR.out.mono ?_
            rintro e w6 ⟨rfl, hb6⟩
            have B6 := hide (B5.out.trans (hb6.mono B5.out.size))
            clear hb6 HPR B5
            go_wp2_with fail
            refine (HL.out.par w6 _ B6.out (by rw [ByteArray.size_append, bytes_size]; simp [ByteArray.size]; omega)).mono ?_
            rintro e w7 ⟨rfl, hb7⟩
            have B7 := hide (B6.out.trans (hb7.mono B6.out.size))
            clear hb7 B6
            have bA := (Below.refl w7.heap.size w7).alloc (Nat.le_refl _) (.cells (itC [((Tr.mk ⟨[50, 48, 67], [], R, []⟩ []), .slice none 0 0), (Tr.mk ⟨[], [], [], []⟩ [], .slice none 0 0)]).toArray 25)
            have B8 := hide (B7.out.trans (bA.mono B7.out.size))
            have HPR := hide (HL.out.prn (w7.alloc (.cells (itC [((Tr.mk ⟨[50, 48, 67], [], R, []⟩ []), .slice none 0 0), (Tr.mk ⟨[], [], [], []⟩ [], .slice none 0 0)]).toArray 25)) (.slice (some ⟨w7.heap.size, 0, none⟩) 2 2) [(Tr.mk ⟨[50, 48, 67], [], R, []⟩ []), Tr.mk ⟨[], [], [], []⟩ []] B8.out (RT_litn [((Tr.mk ⟨[50, 48, 67], [], R, []⟩ []), .slice none 0 0), (Tr.mk ⟨[], [], [], []⟩ [], .slice none 0 0)] _ _ rfl rfl rfl rfl (fun p hp => by simp only [List.mem_cons, List.not_mem_nil, or_false] at hp; rcases hp with rfl | rfl <;> exact RT_nil _)) (by simp [wts, Tr.wt]; omega))
            clear bA B7
            go_wp2_with fail
            refine HPR.out.mono ?_
            rintro e w9 ⟨rfl, hb9⟩
            have B9 := hide (B8.out.trans (hb9.mono B8.out.size))
            clear hb9 HPR B8
            go_wp2_with fail
            go_roundw
            case rel => exact ⟨n + 1, by omega, by omega, by go_num, B9⟩
            case measure => simp [intOf]; omega
          · have hd2 : decide ((n : Int) + 6 ≤ 1048576) = false := by rw [decide_eq_false_iff_not]; omega
            have HPE : Hid (prE [(Tr.mk ⟨[50, 48, 67], [], R, []⟩ [])] = 5) := hide (by unfold prE; rw [hTE.out, hTT.out, if_neg (by simp), if_pos (by omega)])
            have HPT : Hid (prT [(Tr.mk ⟨[50, 48, 67], [], R, []⟩ [])] = []) := hide (by unfold prT; rw [HPE.out, if_neg (by decide)])
            have HPA := hide (parse_big T wr (by omega) (by omega))
            rw [errV_pos (by omega)] at HPA
            go_wp2_with fail
            refine HPA.out.mono ?_
            rintro e w2 ⟨rfl, hb2⟩
            have B2 := hide (HB.out.trans (hb2.mono HB.out.size))
            clear hb2 HPA HB
            go_wp2_with fail
            refine (HL.out.plc w2 _ B2.out (by rw [bytes_size]; omega)).mono ?_
            rintro e w3 ⟨rfl, hb3⟩
            have B3 := hide (B2.out.trans (hb3.mono B2.out.size))
            clear hb3 B2
            go_wp2_with fail
            refine (HL.out.plc w3 _ B3.out (by rw [bytes_size]; omega)).mono ?_
            rintro e w4 ⟨rfl, hb4⟩
            have B4 := hide (B3.out.trans (hb4.mono B3.out.size))
            clear hb4 B3
            have bA := (Below.refl w4.heap.size w4).alloc (Nat.le_refl _) (.cells (itC [((Tr.mk ⟨[50, 48, 67], [], R, []⟩ []), .slice none 0 0)]).toArray 25)
            have B5 := hide (B4.out.trans (bA.mono B4.out.size))
            have HPR := hide (tPrint_any [(Tr.mk ⟨[50, 48, 67], [], R, []⟩ [])] (.slice (some ⟨w4.heap.size, 0, none⟩) 1 1) (w4.alloc (.cells (itC [((Tr.mk ⟨[50, 48, 67], [], R, []⟩ []), .slice none 0 0)]).toArray 25)) (by have := HRW.out; omega) (RT_litn [((Tr.mk ⟨[50, 48, 67], [], R, []⟩ []), .slice none 0 0)] _ _ rfl rfl rfl rfl (fun p hp => by rw [List.mem_singleton.1 hp]; exact RT_nil _)))
            rw [HPE.out, HPT.out, errV_pos (by omega)] at HPR
            clear bA B4
            go_wp2_with fail
            refine HPR.out.mono ?_
            rintro e w6 ⟨rfl, hb6⟩
            have B6 := hide (B5.out.trans (hb6.mono B5.out.size))
            clear hb6 HPR B5
            go_wp2_with fail
            refine (HL.out.par w6 _ B6.out (by rw [ByteArray.size_append, bytes_size]; simp [ByteArray.size]; omega)).mono ?_
            rintro e w7 ⟨rfl, hb7⟩
            have B7 := hide (B6.out.trans (hb7.mono B6.out.size))
            clear hb7 B6
            have bA := (Below.refl w7.heap.size w7).alloc (Nat.le_refl _) (.cells (itC [((Tr.mk ⟨[50, 48, 67], [], R, []⟩ []), .slice none 0 0), (Tr.mk ⟨[], [], [], []⟩ [], .slice none 0 0)]).toArray 25)
            have B8 := hide (B7.out.trans (bA.mono B7.out.size))
            have HPR := hide (HL.out.prn (w7.alloc (.cells (itC [((Tr.mk ⟨[50, 48, 67], [], R, []⟩ []), .slice none 0 0), (Tr.mk ⟨[], [], [], []⟩ [], .slice none 0 0)]).toArray 25)) (.slice (some ⟨w7.heap.size, 0, none⟩) 2 2) [(Tr.mk ⟨[50, 48, 67], [], R, []⟩ []), Tr.mk ⟨[], [], [], []⟩ []] B8.out (RT_litn [((Tr.mk ⟨[50, 48, 67], [], R, []⟩ []), .slice none 0 0), (Tr.mk ⟨[], [], [], []⟩ [], .slice none 0 0)] _ _ rfl rfl rfl rfl (fun p hp => by simp only [List.mem_cons, List.not_mem_nil, or_false] at hp; rcases hp with rfl | rfl <;> exact RT_nil _)) (by simp [wts, Tr.wt]; omega))
            clear bA B7
            go_wp2_with fail
            refine HPR.out.mono ?_
            rintro e w9 ⟨rfl, hb9⟩
            have B9 := hide (B8.out.trans (hb9.mono B8.out.size))
            clear hb9 HPR B8
            go_wp2_with fail
            go_roundw
            case rel => exact ⟨n + 1, by omega, by omega, by go_num, B9⟩
            case measure => simp [intOf]; omega
        · have h' : n = 1048572 := by omega
          subst h'
          rw [show ((1048572 : Nat) : Int) + 6 = 1048578 from rfl]
          go_wp2_with fail
          go_ret
          exact ⟨rfl, HB.out⟩
end Go.Proofs.YtpkgaidnpooahaaGreatDoor
