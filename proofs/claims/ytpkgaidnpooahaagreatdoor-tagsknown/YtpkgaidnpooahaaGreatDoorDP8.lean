/-
  My own text: the document's reading of a line.
-/
import Derived.Test.YtpkgaidnpooahaaGreatDoorDP7
import Derived.Deep.QuietTactic
namespace Go.Proofs.YtpkgaidnpooahaaGreatDoor
open Go.RowKit Go.Extern

/-- What a line's reading ends with. -/
def DE (w' : World) (B R : Nat) (e : Ending) : DR → Prop
  | .bad no at_ => e = .returned (.tuple #[.int .i64 no, .int .i64 at_])
  | .ok s => e = .returned (.tuple #[.int .i64 0, .int .i64 0]) ∧ ∃ L cap lab vs, DM w' B R L cap lab (s.S ++ [(s.nm, s.l)]) vs s.fl
theorem DM.some {w : World} {B R L cap : Nat} {lab : Nat → Nat} {lv : List (List UInt8 × List Tr)} {vs : List Value} {q : List UInt8 × List Tr} {fl : Bool} (h : DM w B R L cap lab (lv ++ [q]) vs fl) : ∃ vs0 v, vs = vs0 ++ [v] := by
  rcases List.eq_nil_or_concat vs with rfl | ⟨vs0, v, hc⟩
  · have := h.len; simp at this
  · exact ⟨vs0, v, by rw [← List.concat_eq_append]; exact hc⟩
/-- A line of two colons. -/
def dlc (s : DS) (tx tag rest : List UInt8) : DR :=
  if tag = r16 then
    (if 8 ≤ s.S.length then .bad 5 1
     else if !nameB rest then .bad 4 6
     else .ok ⟨s.S ++ [(s.nm, s.l)], rest, [], false⟩)
  else if tag = s16 then
    (match s.S.getLast? with
     | none => .bad 10 1
     | some q => if rest ≠ s.nm then .bad 4 6 else .ok ⟨s.S.dropLast, q.1, q.2 ++ [.mk ⟨[], [], [], s.nm⟩ s.l], false⟩)
  else match fldO tag rest tx.length with
    | some q => .bad q.1 q.2
    | none => .ok ⟨s.S, s.nm, s.l ++ [.mk (fldI tag rest) []], true⟩
set_option maxRecDepth 100000 in
set_option maxHeartbeats 4000000 in
theorem line_any (s : DS) (tx : List UInt8) (B R : Nat) (w : World) (h : ∃ L cap lab vs, DM w B R L cap lab (s.S ++ [(s.nm, s.l)]) vs s.fl) (hS : s.S.length ≤ 8) (htx : tx.length ≤ 1048576) (hln : ∀ q ∈ s.S ++ [(s.nm, s.l)], q.2.length ≤ 1048577) (htt : ∀ a, s.l.getLast? = some a → a.itm.text.length ≤ 2199023255552) (hfl : s.fl = flOf s.l) :
    Calls Tryz.prog 50 #[.pointer (some ⟨R, 0, none⟩), .string ⟨tx.toArray⟩] w fun e w' => Below B w w' ∧ DE w' B R e (dln s tx) := by
  obtain ⟨S, nm, l, fl⟩ := s
  dsimp only at h hS hln htt hfl
  obtain ⟨L, cap, lab, vs, hD⟩ := h
  obtain ⟨vs0, v, rfl⟩ := hD.some
  have HD := hide hD
  have hBw : B ≤ w.heap.size := by have := hD.bx.lt; have := hD.bR; omega
  have HLN := hide hln
  have HTT := hide htt
  have HFL := hide hfl
  clear hD hln htt hfl
  go_enter Tryz.func50, Tryz.ntmps50
  go_wp2_with fail
  go_loopw [6] (fun i wr => ∃ i' : Nat, i' ≤ tx.length ∧ i = .int .i64 (i' : Int) ∧ Hid (∀ j, j < i' → inS (tx.getD j 0) = true) ∧ Hid (Below w.heap.size w wr)) (fun i _ => tx.length - (intOf i).toNat)
  case atStart => exact ⟨0, by omega, rfl, hide (fun j hj => by omega), hide (Below.refl _ _)⟩
  case round =>
    obtain ⟨i, hi, rfl, HA, HB⟩ := hrel
    by_cases hlt : i < tx.length
    · have hs1 : i < (⟨tx.toArray⟩ : ByteArray).size := by rw [bytes_size]; exact hlt
      obtain ⟨c, hc, Hc⟩ : ∃ c, (⟨tx.toArray⟩ : ByteArray)[i]'hs1 = c ∧ Hid (tx.getD i 0 = c) := ⟨_, rfl, by rw [getD_at hlt]; exact hide rfl⟩
      have HIN := hide (fun W : World => refIn_any c W)
      cases hb : inS c with
      | false =>
        have HR := hide (fstNot_at (p := inS) hlt HA.out (by rw [Hc.out]; exact hb))
        have HDL : Hid (dln ⟨S, nm, l, fl⟩ tx = .bad 6 ((i : Int) + 1)) := hide (by unfold dln; rw [HR.out, if_pos hlt])
        rw [hb] at HIN
        clear hb Hc HA
        go_wp2_with (go_at_call 73; refine (HIN.out _).mono ?_; rintro e w1 ⟨rfl, hb1⟩; have B1 := hide (HB.out.trans (hb1.mono HB.out.size)); clear hb1)
        go_ret2
        rw [HDL.out]
        exact ⟨B1.out.mono hBw, rfl⟩
      | true =>
        have HA2 : Hid (∀ j, j < i + 1 → inS (tx.getD j 0) = true) := hide (fun j hj => by
          by_cases e : j = i
          · subst e; rw [Hc.out]; exact hb
          · exact HA.out j (by omega))
        rw [hb] at HIN
        clear hb Hc HA
        go_wp2_with (go_at_call 73; refine (HIN.out _).mono ?_; rintro e w1 ⟨rfl, hb1⟩; have B1 := hide (HB.out.trans (hb1.mono HB.out.size)); clear hb1)
        go_roundw
        case rel => exact ⟨i + 1, by omega, by go_num, HA2, B1⟩
        case measure => simp [intOf]; omega
    · have hie : i = tx.length := by omega
      subst hie
      obtain ⟨W, rfl⟩ : ∃ W, W = wr := ⟨wr, rfl⟩
      have HF := hide (fstNot_all (p := inS) HA.out)
      have D1 := hide (HD.out.later HB.out)
      clear HA HD hlt hi
      by_cases h0 : tx.length = 0
      · obtain rfl : tx = [] := List.length_eq_zero_iff.1 h0
        have HDL : Hid (dln ⟨S, nm, l, fl⟩ [] = .bad 4 1) := hide (by unfold dln; rw [HF.out, if_neg (by simp)]; rfl)
        clear h0
        go_wp2_with fail
        go_ret2
        rw [HDL.out]
        exact ⟨HB.out.mono hBw, rfl⟩
      · have he : (tx == []) = false := beq_eq_false_iff_ne.2 (fun e => h0 (by rw [e]; rfl))
        have hp : 0 < tx.length := by omega
        have hs1 : 0 < (⟨tx.toArray⟩ : ByteArray).size := by rw [bytes_size]; exact hp
        obtain ⟨c, hc, Hc⟩ : ∃ c, (⟨tx.toArray⟩ : ByteArray)[0]'hs1 = c ∧ Hid (tx.getD 0 0 = c) := ⟨_, rfl, by rw [getD_at hp]; exact hide rfl⟩
        have c1 : W.cell? ⟨R, 1, none⟩ = some (.bool fl) := by have := D1.out.bx.cell 1; simpa using this
        have f1 := D1.out.bx.free 1
        have c0 := D1.out.open
        simp only [List.length_append, List.length_cons, List.length_nil, Nat.zero_add] at c0
        obtain ⟨m, hm⟩ : ∃ m, m = S.length := ⟨_, rfl⟩
        rw [← hm] at c0
        have HM := hide hm
        have hm8 : m ≤ 8 := by omega
        clear hm hS
        have HDn : Hid (¬ fstNot inS tx < tx.length ∧ ¬ tx.isEmpty = true) := hide ⟨by rw [HF.out]; omega, by cases tx with | nil => simp at hp | cons a r => simp⟩
        by_cases h58 : c = 58
        · have hcb : ((c.toNat : Int) == 58) = true := by rw [h58]; rfl
          have g58 : ¬ tx.getD 0 0 ≠ 58 := by rw [Hc.out]; exact fun h => h h58
          have HCC : Hid (tx.getD 0 0 = 58) := hide (by rw [Hc.out]; exact h58)
          clear h58 Hc
          cases hf : (Lib.cut (tx.drop 1) [58]).2.2 with
          | false =>
            have HDL : Hid (dln ⟨S, nm, l, fl⟩ tx = .bad 4 (tx.length + 1)) := hide (by unfold dln; rw [if_neg HDn.out.1, if_neg HDn.out.2, if_neg g58, hf]; rfl)
            have HNC := hide (fun k h1 h2 => nocolon (k := k) hf h1 h2)
            clear hf g58
            go_wp2_with fail
            go_loop [8] (fun t => ∃ k : Nat, 1 ≤ k ∧ k ≤ tx.length ∧ t = .int .i64 (k : Int)) (fun t => tx.length - (intOf t).toNat)
            case atStart => exact ⟨1, by omega, by omega, rfl⟩
            case round =>
              obtain ⟨k, hk1, hk2, rfl⟩ := hrel
              by_cases hkl : k < tx.length
              · have hs2 : k < (⟨tx.toArray⟩ : ByteArray).size := by rw [bytes_size]; exact hkl
                obtain ⟨d, hd, Hd⟩ : ∃ d, (⟨tx.toArray⟩ : ByteArray)[k]'hs2 = d ∧ Hid (tx.getD k 0 = d) := ⟨_, rfl, by rw [getD_at hkl]; exact hide rfl⟩
                have hdb : ((d.toNat : Int) == 58) = false := (u8_lit rfl 58 rfl).trans (beq_eq_false_iff_ne.2 (by rw [← Hd.out]; exact HNC.out k hk1 hkl))
                go_wp2_with fail
                go_round
                case rel => exact ⟨k + 1, by omega, by omega, by go_num⟩
                case measure => simp [intOf]; omega
              · obtain rfl : k = tx.length := by omega
                have hkk : ((tx.length : Int) == (tx.length : Int)) = true := by simp
                go_wp2_with fail
                go_ret2
                rw [HDL.out]
                exact ⟨HB.out.mono hBw, rfl⟩
          | true =>
            have CL := hide (Cl.of hp HCC.out hf)
            have HDC : Hid (dln ⟨S, nm, l, fl⟩ tx = dlc ⟨S, nm, l, fl⟩ tx (Lib.cut (tx.drop 1) [58]).1 (Lib.cut (tx.drop 1) [58]).2.1) := hide (by unfold dln dlc; rw [if_neg HDn.out.1, if_neg HDn.out.2, if_neg g58, hf]; rfl)
            generalize (Lib.cut (tx.drop 1) [58]).1 = tag at *
            generalize (Lib.cut (tx.drop 1) [58]).2.1 = rest at *
            have HLEN := hide CL.out.len
            have hb1 : tag.length + 2 ≤ tx.length := by have := HLEN.out; omega
            have hb2 : rest.length ≤ 1048576 := by have := HLEN.out; omega
            have hb3 : tag.length ≤ 1048576 := by omega
            clear hf g58 HCC
            go_wp2_with fail
            go_loop [8] (fun t => ∃ k : Nat, 1 ≤ k ∧ k ≤ tag.length + 1 ∧ t = .int .i64 (k : Int)) (fun t => tx.length - (intOf t).toNat)
            case atStart => exact ⟨1, by omega, by omega, rfl⟩
            case round =>
              obtain ⟨k, hk1, hk2, rfl⟩ := hrel
              have hkl : k < tx.length := by omega
              have hs2 : k < (⟨tx.toArray⟩ : ByteArray).size := by rw [bytes_size]; exact hkl
              obtain ⟨d, hd, Hd⟩ : ∃ d, (⟨tx.toArray⟩ : ByteArray)[k]'hs2 = d ∧ Hid (tx.getD k 0 = d) := ⟨_, rfl, by rw [getD_at hkl]; exact hide rfl⟩
              by_cases hkt : k < tag.length + 1
              · have hdb : ((d.toNat : Int) == 58) = false := (u8_lit rfl 58 rfl).trans (beq_eq_false_iff_ne.2 (by rw [← Hd.out]; exact CL.out.tagAt hk1 hkt))
                go_wp2_with fail
                go_round
                case rel => exact ⟨k + 1, by omega, by omega, by go_num⟩
                case measure => simp [intOf]; omega
              · have hke : k = tag.length + 1 := by omega
                have hdb : ((d.toNat : Int) == 58) = true := by
                  have e := CL.out.stop
                  rw [← hke, Hd.out] at e
                  rw [e]; rfl
                have hkk : ((k : Int) == (tx.length : Int)) = false := by rw [beq_eq_false_iff_ne]; omega
                have hsl1 : (⟨tx.toArray⟩ : ByteArray).extract 1 k = ⟨tag.toArray⟩ := by rw [hke]; exact CL.out.sl1
                have hsl2 : (⟨tx.toArray⟩ : ByteArray).extract (k + 1) tx.length = ⟨rest.toArray⟩ := by rw [hke]; exact CL.out.sl2
                have D2 := hide (D1.out.mark false)
                obtain ⟨W1, hW1⟩ : ∃ W1, W.setCell ⟨R, 1, none⟩ (.bool false) = W1 := ⟨_, rfl⟩
                rw [hW1] at D2
                have B1 : Hid (Below B w W1) := hide (by rw [← hW1]; exact (HB.out.mono hBw).setCell D1.out.bR _)
                have HKE := hide hke
                clear hke hkt HB D1
                by_cases hr : tag = r16
                · have q16 : (tag == [49, 54, 82]) = true := beq_iff_eq.2 hr
                  have HDR : Hid (dln ⟨S, nm, l, fl⟩ tx = if 8 ≤ S.length then .bad 5 1 else if !nameB rest then .bad 4 6 else .ok ⟨S ++ [(nm, l)], rest, [], false⟩) := hide (by rw [HDC.out]; unfold dlc; rw [if_pos hr])
                  clear hr
                  by_cases h8 : 8 ≤ S.length
                  · have HBG := hide (begin_deep rest W1 D2.out (by simp; omega) (by simp; have := HM.out; omega))
                    rw [if_pos h8] at HDR
                    go_wp2_with (go_at_call 74; refine HBG.out.mono ?_; rintro e w2 ⟨rfl, hw⟩; obtain rfl := hw.symm)
                    go_ret2
                    rw [HDR.out]
                    exact ⟨B1.out, rfl⟩
                  · rw [if_neg h8] at HDR
                    cases hn : nameB rest with
                    | false =>
                      have HBG := hide (begin_name rest W1 D2.out (by simp; omega) hb2 hn)
                      rw [hn] at HDR
                      clear hn
                      go_wp2_with (go_at_call 74; refine HBG.out.mono ?_; rintro e w2 ⟨rfl, hw⟩; obtain rfl := hw.symm)
                      go_ret2
                      rw [HDR.out]
                      exact ⟨B1.out, rfl⟩
                    | true =>
                      have HBG := hide (begin_ok rest W1 D2.out (by simp; omega) hb2 hn)
                      rw [hn] at HDR
                      clear hn
                      go_wp2_with (go_at_call 74; refine HBG.out.mono ?_; rintro e w2 ⟨rfl, ⟨L2, cap2, lab2, hD2⟩, hb⟩; have D3 := hide hD2; have B3 := hide hb; clear hb hD2)
                      go_ret2
                      rw [HDR.out]
                      exact ⟨B1.out.trans B3.out, rfl, L2, cap2, lab2, _, D3.out⟩
                · have q16 : (tag == [49, 54, 82]) = false := beq_eq_false_iff_ne.2 hr
                  by_cases hs : tag = s16
                  · have q17 : (tag == [49, 54, 83]) = true := beq_iff_eq.2 hs
                    rcases List.eq_nil_or_concat S with rfl | ⟨S', q, hc'⟩
                    · have HDR : Hid (dln ⟨[], nm, l, fl⟩ tx = .bad 10 1) := hide (by rw [HDC.out]; unfold dlc; rw [if_neg hr, if_pos hs]; rfl)
                      obtain rfl : vs0 = [] := List.length_eq_zero_iff.1 D2.out.top.1.symm
                      have HEN := hide (end_lost rest W1 D2.out)
                      clear hr hs HDC
                      go_wp2_with (go_at_call 75; refine HEN.out.mono ?_; rintro e w2 ⟨rfl, hw⟩; obtain rfl := hw.symm)
                      go_ret2
                      rw [HDR.out]
                      exact ⟨B1.out, rfl⟩
                    · rw [List.concat_eq_append] at hc'
                      subst hc'
                      have HDR : Hid (dln ⟨S' ++ [q], nm, l, fl⟩ tx = if rest ≠ nm then .bad 4 6 else .ok ⟨S', q.1, q.2 ++ [.mk ⟨[], [], [], nm⟩ l], false⟩) := hide (by rw [HDC.out]; unfold dlc; rw [if_neg hr, if_pos hs]; dsimp only; rw [List.getLast?_concat]; dsimp only; rw [List.dropLast_concat])
                      by_cases hnm : rest ≠ nm
                      · have HEN := hide (end_name rest W1 D2.out (by simp) (by have := HM.out; omega) (fun e => hnm e.symm))
                        rw [if_pos hnm] at HDR
                        clear hr hs HDC hnm
                        go_wp2_with (go_at_call 75; refine HEN.out.mono ?_; rintro e w2 ⟨rfl, hb⟩; have B3 := hide hb; clear hb)
                        go_ret2
                        rw [HDR.out]
                        exact ⟨B1.out.trans (B3.out.mono (by have := B1.out.size; omega)), rfl⟩
                      · rw [if_neg hnm] at HDR
                        have hnm' : rest = nm := Decidable.of_not_not hnm
                        subst hnm'
                        rcases List.eq_nil_or_concat vs0 with rfl | ⟨vs1, v1, hv1⟩
                        · have := D2.out.top.1; simp at this
                        · rw [List.concat_eq_append] at hv1
                          subst hv1
                          have HEN := hide (end_ok W1 D2.out (by have := HM.out; simp at this; omega) (by have := HLN.out q (by simp); omega))
                          clear hr hs HDC hnm
                          go_wp2_with (go_at_call 75; refine HEN.out.mono ?_; rintro e w2 ⟨rfl, ⟨lab2, v2, hD2⟩, hb⟩; have D3 := hide hD2; have B3 := hide hb; clear hb hD2)
                          go_ret2
                          rw [HDR.out]
                          exact ⟨B1.out.trans B3.out, rfl, L, cap, lab2, _, D3.out⟩
                  · have q17 : (tag == [49, 54, 83]) = false := beq_eq_false_iff_ne.2 hs
                    have HTG := hide (fun W : World => refTag_any tag W (by omega))
                    cases htb : tagB tag with
                    | false =>
                      have HDR : Hid (dln ⟨S, nm, l, fl⟩ tx = .bad 4 2) := hide (by rw [HDC.out]; unfold dlc; rw [if_neg hr, if_neg hs, fld_tagno htb])
                      rw [htb] at HTG
                      clear hr hs HDC htb
                      go_wp2_with (go_at_call 76; refine (HTG.out _).mono ?_; rintro e w2 ⟨rfl, hw⟩; obtain rfl := hw.symm)
                      go_ret2
                      rw [HDR.out]
                      exact ⟨B1.out, rfl⟩
                    | true =>
                      rw [htb] at HTG
                      go_wp2_with (go_at_call 76; refine (HTG.out _).mono ?_; rintro e w2 ⟨rfl, hw⟩; obtain rfl := hw.symm)
                      have i1 : (1 : Int) ≤ (k : Int) := by omega
                      have i2 : (0 : Int) ≤ (k : Int) := by omega
                      have i3 : (k : Int) ≤ (tx.length : Int) := by omega
                      have i4 : IntKind.i64.wrap ((k : Int) + 1) = (k : Int) + 1 := by rw [IntKind.wrap_i64]; omega
                      have i5 : (k : Int) + 1 ≤ (tx.length : Int) := by omega
                      have i6 : (0 : Int) ≤ (k : Int) + 1 := by omega
                      have i7 : ((k : Int) + 1).toNat = k + 1 := by omega
                      go_region_held3 (fun _ => True) (trivial) (fail)
                      have HX0 : Hid (Bk ((W1.alloc (.cells #[.string ⟨tag.toArray⟩, .string ⟨#[]⟩, .string ⟨rest.toArray⟩, .string ⟨#[]⟩, .slice none 0 0] 25)).drew) W1.heap.size #[.string ⟨tag.toArray⟩, .string ⟨#[]⟩, .string ⟨rest.toArray⟩, .string ⟨#[]⟩, .slice none 0 0] 25) := hide (alloc_new W1 _)
                      have BX := hide (((Below.refl W1.heap.size W1).alloc (Nat.le_refl _) (.cells #[.string ⟨tag.toArray⟩, .string ⟨#[]⟩, .string ⟨rest.toArray⟩, .string ⟨#[]⟩, .slice none 0 0] 25)).drew)
                      generalize (W1.alloc (.cells #[.string ⟨tag.toArray⟩, .string ⟨#[]⟩, .string ⟨rest.toArray⟩, .string ⟨#[]⟩, .slice none 0 0] 25)).drew = W2 at *
                      have HB1s : Hid (B ≤ W1.heap.size) := hide (by have := B1.out.size; omega)
                      have HFD : Hid (dln ⟨S, nm, l, fl⟩ tx = match fldO tag rest tx.length with
                        | some q => .bad q.1 q.2
                        | none => .ok ⟨S, nm, l ++ [.mk (fldI tag rest) []], true⟩) := hide (by rw [HDC.out]; unfold dlc; rw [if_neg hr, if_neg hs])
                      have HTB := hide htb
                      have HLL : Hid (l.length ≤ 2097152) := hide (by have := HLN.out (nm, l) (by simp); dsimp only at this; omega)
                      have HHD : Hid (tx.getD (k + 1) 0 = rest.getD 0 0) := hide (by rw [HKE.out]; exact CL.out.head)
                      clear hr hs HDC htb hcb hdb hd q16 q17 HTG
                      have hRX : R < W1.heap.size := D2.out.bx.lt
                      have d3c : W2.cell? ⟨R, 1, none⟩ = some (.bool false) := by have := (D2.out.later BX.out).bx.cell 1; simpa using this
                      have d3f : W2.frozen? ⟨R, 1, none⟩ = false := (D2.out.later BX.out).bx.free 1
                      cases hh : hdB rest with
                      | false =>
                        obtain ⟨e1, e2⟩ := fld_plain (len := tx.length) HTB.out hh
                        have HDR : Hid (dln ⟨S, nm, l, fl⟩ tx = .ok ⟨S, nm, l ++ [.mk ⟨tag, [], rest, []⟩ []], true⟩) := hide (by rw [HFD.out, e1, e2])
                        have D4 := hide ((D2.out.later BX.out).mark true)
                        obtain ⟨W3, hW3⟩ : ∃ W3, W2.setCell ⟨R, 1, none⟩ (.bool true) = W3 := ⟨_, rfl⟩
                        rw [hW3] at D4
                        have B4 : Hid (Below B w W3) := hide (by rw [← hW3]; exact (B1.out.trans (BX.out.mono HB1s.out)).setCell D2.out.bR _)
                        have XR : Hid (W3.rangeAt W1.heap.size 0 [.string ⟨tag.toArray⟩, .string ⟨#[]⟩, .string ⟨rest.toArray⟩, .string ⟨#[]⟩, .slice none 0 0]) := hide (fun j u hj => by
                          rw [← hW3, World.cell?_setCell_other _ _ _ _ (fun e => by injection e with e1; omega), Nat.zero_add, HX0.out.cell j]
                          simpa using hj)
                        have A1 := hide (add_any (.mk ⟨tag, [], rest, []⟩ []) (.slice none 0 0) W3 D4.out ⟨none, 0, rfl, .inl rfl⟩ (by have := HM.out; omega) HLL.out)
                        unfold iC Tr.itm at A1
                        dsimp only at A1
                        clear HX0 HFD e1 e2 D2 BX
                        by_cases hre : rest.length = 0
                        · have hkd : decide ((k : Int) + 1 < (tx.length : Int)) = false := decide_eq_false (by have := HLEN.out; have := HKE.out; omega)
                          have hkn : ¬ (k : Int) + 1 < (tx.length : Int) := of_decide_eq_false hkd
                          clear hh hre
                          go_wp2_with (first
                            | (refine wpList_load_mid rfl 25 _ rfl W1.heap.size 0 rfl [.string ⟨tag.toArray⟩, .string ⟨#[]⟩, .string ⟨rest.toArray⟩, .string ⟨#[]⟩, .slice none 0 0] _ XR.out Tryz.underlying25 rfl Tryz.sizeItm ?_)
                            | (go_at_call 78; refine A1.out.mono ?_; rintro e w5 ⟨rfl, ⟨lab2, v2, hD5⟩, hb⟩; have D5 := hide hD5; have B5 := hide hb; clear hb hD5)
                            | go_in)
                          go_ret2
                          rw [HDR.out]
                          exact ⟨B4.out.trans B5.out, rfl, L, cap, lab2, _, D5.out⟩
                        · have hk3 : k + 1 < tx.length := by have := HLEN.out; have := HKE.out; omega
                          have hs3 : k + 1 < (⟨tx.toArray⟩ : ByteArray).size := by rw [bytes_size]; exact hk3
                          obtain ⟨d2, hd2, Hd2⟩ : ∃ d2, (⟨tx.toArray⟩ : ByteArray)[k + 1]'hs3 = d2 ∧ Hid (tx.getD (k + 1) 0 = d2) := ⟨_, rfl, by rw [getD_at hk3]; exact hide rfl⟩
                          have hd2b : ((d2.toNat : Int) == 58) = false := (u8_lit rfl 58 rfl).trans (by rw [← Hd2.out, HHD.out]; exact hh)
                          have hkd : (k : Int) + 1 < (tx.length : Int) := by omega
                          clear hh hre
                          go_wp2_with (first
                            | (refine wpList_load_mid rfl 25 _ rfl W1.heap.size 0 rfl [.string ⟨tag.toArray⟩, .string ⟨#[]⟩, .string ⟨rest.toArray⟩, .string ⟨#[]⟩, .slice none 0 0] _ XR.out Tryz.underlying25 rfl Tryz.sizeItm ?_)
                            | (go_at_call 78; refine A1.out.mono ?_; rintro e w5 ⟨rfl, ⟨lab2, v2, hD5⟩, hb⟩; have D5 := hide hD5; have B5 := hide hb; clear hb hD5)
                            | go_in)
                          go_ret2
                          rw [HDR.out]
                          exact ⟨B4.out.trans B5.out, rfl, L, cap, lab2, _, D5.out⟩
                      | true =>
                        have hrp : 0 < rest.length := by
                          cases rest with
                          | nil => simp [hdB] at hh
                          | cons a r => simp
                        have hk3 : k + 1 < tx.length := by have := HLEN.out; have := HKE.out; omega
                        have hs3 : k + 1 < (⟨tx.toArray⟩ : ByteArray).size := by rw [bytes_size]; exact hk3
                        obtain ⟨d2, hd2, Hd2⟩ : ∃ d2, (⟨tx.toArray⟩ : ByteArray)[k + 1]'hs3 = d2 ∧ Hid (tx.getD (k + 1) 0 = d2) := ⟨_, rfl, by rw [getD_at hk3]; exact hide rfl⟩
                        have hd2b : ((d2.toNat : Int) == 58) = true := (u8_lit rfl 58 rfl).trans (by rw [← Hd2.out, HHD.out]; exact hh)
                        have hkd : (k : Int) + 1 < (tx.length : Int) := by omega
                        have hsl3 : (⟨tx.toArray⟩ : ByteArray).extract (k + 2) tx.length = ⟨(rest.drop 1).toArray⟩ := by rw [HKE.out]; exact CL.out.sl3
                        have HFB := hide (fun hq => fld_bad (len := tx.length) HTB.out hh (hq : qok (rest.drop 1) = false))
                        have HFQ := hide (fun hq => fld_qual (len := tx.length) HTB.out hh (hq : qok (rest.drop 1) = true))
                        have HR2 : Hid ((rest.drop 1).length + 1 = rest.length) := hide (by rw [List.length_drop]; omega)
                        generalize rest.drop 1 = r2 at *
                        have hr2 : r2.length ≤ 1048576 := by have := HR2.out; omega
                        have HBAD : Hid ((tx.length : Int) - rest.length + 2 = (k : Int) + 3) := hide (by have := HLEN.out; have := HKE.out; omega)
                        have HBW : Hid (Below B w W2) := hide (B1.out.trans (BX.out.mono HB1s.out))
                        have HQL := hide (fun W : World => refQual_any (r2.take 4) W (by rw [List.length_take]; omega))
                        clear hh
                        by_cases h6 : r2.length < 6
                        · have HDR : Hid (dln ⟨S, nm, l, fl⟩ tx = .bad 4 ((k : Int) + 3)) := hide (by rw [HFD.out, HFB.out (by unfold qok; rw [decide_eq_false (by omega)]; rfl), ← HBAD.out])
                          have h6d : decide ((r2.length : Int) < 6) = true := decide_eq_true (by omega)
                          clear HFD HFB HFQ D2 BX HX0
                          go_wp2_with fail
                          go_ret2
                          rw [HDR.out]
                          exact ⟨HBW.out, rfl⟩
                        · have h6d : decide ((r2.length : Int) < 6) = false := decide_eq_false (by omega)
                          have h6n : 6 ≤ r2.length := by omega
                          obtain ⟨q4, hq4, HQ4⟩ : ∃ q4 : List UInt8, (⟨r2.toArray⟩ : ByteArray).extract 0 4 = ⟨q4.toArray⟩ ∧ Hid (r2.take 4 = q4) := ⟨r2.take 4, by apply ByteArray.ext; simp, hide rfl⟩
                          obtain ⟨m2, hm2, HM2⟩ : ∃ m2 : List UInt8, (⟨r2.toArray⟩ : ByteArray).extract 4 6 = ⟨m2.toArray⟩ ∧ Hid ((r2.drop 4).take 2 = m2) := ⟨(r2.drop 4).take 2, by apply ByteArray.ext; simp [List.extract_eq_take_drop], hide rfl⟩
                          obtain ⟨t6, ht6, HT6⟩ : ∃ t6 : List UInt8, (⟨r2.toArray⟩ : ByteArray).extract 6 r2.length = ⟨t6.toArray⟩ ∧ Hid (r2.drop 6 = t6) := ⟨r2.drop 6, by apply ByteArray.ext; simp; exact List.take_of_length_le (by simp), hide rfl⟩
                          rw [HQ4.out] at HQL
                          clear h6
                          cases hqb : qualB q4 with
                          | false =>
                            have HDR : Hid (dln ⟨S, nm, l, fl⟩ tx = .bad 4 ((k : Int) + 3)) := hide (by rw [HFD.out, HFB.out (by unfold qok; rw [HQ4.out, hqb, Bool.and_false, Bool.false_and]), ← HBAD.out])
                            rw [hqb] at HQL
                            clear HFD HFB HFQ D2 BX HX0 hqb
                            go_wp2_with (go_at_call 77; refine (HQL.out _).mono ?_; rintro e w4 ⟨rfl, hw⟩; obtain rfl := hw.symm)
                            go_ret2
                            rw [HDR.out]
                            exact ⟨HBW.out, rfl⟩
                          | true =>
                            rw [hqb] at HQL
                            by_cases hmm : m2 = [47, 47]
                            · have hmb : (m2 == [47, 47]) = true := beq_iff_eq.2 hmm
                              have hqk : qok r2 = true := by unfold qok; rw [HQ4.out, hqb, HM2.out, hmb, decide_eq_true h6n]; rfl
                              obtain ⟨e1, e2⟩ := HFQ.out hqk
                              have HDR : Hid (dln ⟨S, nm, l, fl⟩ tx = .ok ⟨S, nm, l ++ [.mk ⟨tag, q4, t6, []⟩ []], true⟩) := hide (by rw [HFD.out, e1, e2, HQ4.out, HT6.out])
                              have x1 : W2.cell? ⟨W1.heap.size, 1, none⟩ = some (.string ⟨#[]⟩) := by have := HX0.out.cell 1; simpa using this
                              have y1 := HX0.out.free 1
                              have HXa : Hid (Bk (W2.setCell ⟨W1.heap.size, 1, none⟩ (.string ⟨q4.toArray⟩)) W1.heap.size #[.string ⟨tag.toArray⟩, .string ⟨q4.toArray⟩, .string ⟨rest.toArray⟩, .string ⟨#[]⟩, .slice none 0 0] 25) := hide (by
                                have := HX0.out
                                unfold Bk at this ⊢
                                simp only [World.setCell, Array.getElem?_modify, if_true]
                                rw [this]; rfl)
                              have BXa := hide (BX.out.setCell (p := ⟨W1.heap.size, 1, none⟩) (Nat.le_refl _) (.string ⟨q4.toArray⟩))
                              obtain ⟨Wa, hWa⟩ : ∃ Wa, W2.setCell ⟨W1.heap.size, 1, none⟩ (.string ⟨q4.toArray⟩) = Wa := ⟨_, rfl⟩
                              rw [hWa] at HXa BXa
                              have x2 : Wa.cell? ⟨W1.heap.size, 2, none⟩ = some (.string ⟨rest.toArray⟩) := by have := HXa.out.cell 2; simpa using this
                              have y2 := HXa.out.free 2
                              have HXb : Hid (Bk (Wa.setCell ⟨W1.heap.size, 2, none⟩ (.string ⟨t6.toArray⟩)) W1.heap.size #[.string ⟨tag.toArray⟩, .string ⟨q4.toArray⟩, .string ⟨t6.toArray⟩, .string ⟨#[]⟩, .slice none 0 0] 25) := hide (by
                                have := HXa.out
                                unfold Bk at this ⊢
                                simp only [World.setCell, Array.getElem?_modify, if_true]
                                rw [this]; rfl)
                              have BXb := hide (BXa.out.setCell (p := ⟨W1.heap.size, 2, none⟩) (Nat.le_refl _) (.string ⟨t6.toArray⟩))
                              obtain ⟨Wb, hWb⟩ : ∃ Wb, Wa.setCell ⟨W1.heap.size, 2, none⟩ (.string ⟨t6.toArray⟩) = Wb := ⟨_, rfl⟩
                              rw [hWb] at HXb BXb
                              have dbc : Wb.cell? ⟨R, 1, none⟩ = some (.bool false) := by have := (D2.out.later BXb.out).bx.cell 1; simpa using this
                              have dbf : Wb.frozen? ⟨R, 1, none⟩ = false := (D2.out.later BXb.out).bx.free 1
                              have D4 := hide ((D2.out.later BXb.out).mark true)
                              obtain ⟨W3, hW3⟩ : ∃ W3, Wb.setCell ⟨R, 1, none⟩ (.bool true) = W3 := ⟨_, rfl⟩
                              rw [hW3] at D4
                              have B4 : Hid (Below B w W3) := hide (by rw [← hW3]; exact (B1.out.trans (BXb.out.mono HB1s.out)).setCell D2.out.bR _)
                              have XR : Hid (W3.rangeAt W1.heap.size 0 [.string ⟨tag.toArray⟩, .string ⟨q4.toArray⟩, .string ⟨t6.toArray⟩, .string ⟨#[]⟩, .slice none 0 0]) := hide (fun j u hj => by
                                rw [← hW3, World.cell?_setCell_other _ _ _ _ (fun e => by injection e with e1; omega), Nat.zero_add, HXb.out.cell j]
                                simpa using hj)
                              have A1 := hide (add_any (.mk ⟨tag, q4, t6, []⟩ []) (.slice none 0 0) W3 D4.out ⟨none, 0, rfl, .inl rfl⟩ (by have := HM.out; omega) HLL.out)
                              unfold iC Tr.itm at A1
                              dsimp only at A1
                              clear HX0 HXa HXb HFD e1 e2 D2 BX BXa BXb HFB HFQ hqk hqb hmm HBW
                              go_wp2_with (first
                                | (go_at_call 77; refine (HQL.out _).mono ?_; rintro e w4 ⟨rfl, hw⟩; obtain rfl := hw.symm)
                                | (refine wpList_load_mid rfl 25 _ rfl W1.heap.size 0 rfl [.string ⟨tag.toArray⟩, .string ⟨q4.toArray⟩, .string ⟨t6.toArray⟩, .string ⟨#[]⟩, .slice none 0 0] _ XR.out Tryz.underlying25 rfl Tryz.sizeItm ?_)
                                | (go_at_call 78; refine A1.out.mono ?_; rintro e w5 ⟨rfl, ⟨lab2, v2, hD5⟩, hb⟩; have D5 := hide hD5; have B5 := hide hb; clear hb hD5)
                                | go_in)
                              go_ret2
                              rw [HDR.out]
                              exact ⟨B4.out.trans B5.out, rfl, L, cap, lab2, _, D5.out⟩
                            · have hmb : (m2 == [47, 47]) = false := beq_eq_false_iff_ne.2 hmm
                              have HDR : Hid (dln ⟨S, nm, l, fl⟩ tx = .bad 4 ((k : Int) + 3)) := hide (by rw [HFD.out, HFB.out (by unfold qok; rw [HM2.out, hmb, Bool.and_false]), ← HBAD.out])
                              clear HFD HFB HFQ D2 BX HX0 hqb hmm
                              go_wp2_with (go_at_call 77; refine (HQL.out _).mono ?_; rintro e w4 ⟨rfl, hw⟩; obtain rfl := hw.symm)
                              go_ret2
                              rw [HDR.out]
                              exact ⟨HBW.out, rfl⟩
        · have hcb : ((c.toNat : Int) == 58) = false := (u8_lit rfl 58 rfl).trans (beq_eq_false_iff_ne.2 h58)
          have g58 : tx.getD 0 0 ≠ 58 := by rw [Hc.out]; exact h58
          by_cases h45 : c = 45
          · have h45b : ((c.toNat : Int) == 45) = true := by rw [h45]; rfl
            have HDR : Hid (dln ⟨S, nm, l, fl⟩ tx = .bad 4 1) := hide (by unfold dln; rw [if_neg HDn.out.1, if_neg HDn.out.2, if_pos g58, if_pos (by rw [Hc.out]; exact h45)])
            clear h45 h58 g58
            go_wp2_with fail
            go_ret2
            rw [HDR.out]
            exact ⟨HB.out.mono hBw, rfl⟩
          · have h45b : ((c.toNat : Int) == 45) = false := (u8_lit rfl 45 rfl).trans (beq_eq_false_iff_ne.2 h45)
            have HDR : Hid (dln ⟨S, nm, l, fl⟩ tx = if !fl then .bad 4 1 else .ok ⟨S, nm, moreL l tx, fl⟩) := hide (by unfold dln; rw [if_neg HDn.out.1, if_neg HDn.out.2, if_pos g58, if_neg (by rw [Hc.out]; exact h45)])
            clear h45 h58 g58 Hc
            cases fl with
            | false =>
              go_wp2_with fail
              go_ret2
              rw [HDR.out]
              exact ⟨HB.out.mono hBw, rfl⟩
            | true =>
              rcases List.eq_nil_or_concat l with rfl | ⟨l', a, hl'⟩
              · have := HFL.out; simp [flOf] at this
              · rw [List.concat_eq_append] at hl'
                subst hl'
                have HDO : Hid (dln ⟨S, nm, l' ++ [a], true⟩ tx = .ok ⟨S, nm, l' ++ [a.withText (a.itm.text ++ 10 :: tx)], true⟩) := hide (by rw [HDR.out]; unfold moreL; rw [List.getLast?_concat]; dsimp only; rw [List.dropLast_concat]; rfl)
                obtain ⟨V, hV⟩ := D1.out.top.2.1
                obtain ⟨g, vc, hv, hgB, hgl⟩ := dp_form hV.row (by simp)
                have hll : (l' ++ [a]).length = l'.length + 1 := by simp
                rw [hll] at hv
                subst hv
                rcases List.eq_nil_or_concat V with rfl | ⟨V0, u0, hc'⟩
                · have := hV.len; simp at this
                rw [List.concat_eq_append] at hc'
                subst hc'
                have HL' : Hid (l'.length ≤ 1048577) := hide (by have := HLN.out (nm, l' ++ [a]) (by simp); simp at this; omega)
                have htl : a.itm.text.length ≤ 2199023255552 := HTT.out a (by simp)
                have HVH := hide hV
                have c2 : W.cell? ⟨L, m * 2 + 1, none⟩ = some (.slice (some ⟨g, 0, none⟩) (l'.length + 1) vc) := by rw [HM.out]; exact D1.out.top.2.2.2
                have hl0 : l'.length = V0.length := by have := hV.len; simp at this; omega
                have i2 : W.cell? ⟨g, l'.length * 5 + 2, none⟩ = some (.string ⟨a.itm.text.toArray⟩) := by
                  have := World.ownsRow.cells hV.row rfl (l'.length * 5 + 2) _ (ic_at (l' ++ [a]) (V0 ++ [u0]) l'.length a u0 (by simp) (by rw [hl0]; simp)).2.2.1
                  rw [Addr.add_lit, Nat.zero_add] at this; exact this
                have z2 : W.frozen? ⟨g, l'.length * 5 + 2, none⟩ = false := World.ownsRow.frozenAt (by simpa using hV.row) (l'.length * 5 + 2)
                have HGB := hide hgB
                obtain ⟨n', hn'⟩ : ∃ n', n' = l'.length := ⟨_, rfl⟩
                rw [← hn'] at c2 i2 z2
                have HN' := hide hn'
                have hn1 : n' ≤ 1048577 := by have := HL'.out; omega
                obtain ⟨at_, Hat⟩ : ∃ at_, Hid (a.itm.text = at_) := ⟨_, hide rfl⟩
                rw [Hat.out] at i2 htl HDO
                clear hV hgl hll hn' HDR hgB hl0
                have j0 : (0 : Int) ≤ (m : Int) := by omega
                have j1 : (m : Int) < (m : Int) + 1 := by omega
                have j2 : IntKind.i64.wrap ((m : Int) + 1 - 1) = (m : Int) := by rw [IntKind.wrap_i64]; omega
                go_wp2_with fail
                go_quiet (fail)
                have BD := hide (below_dN (Below.refl W.heap.size W) nq)
                have i3 : (W.drewN nq).cell? ⟨g, n' * 5 + 2, none⟩ = some (.string ⟨at_.toArray⟩) := i2
                have z3 : (W.drewN nq).frozen? ⟨g, n' * 5 + 2, none⟩ = false := z2
                have HBn : Hid (Below B w (W.drewN nq)) := hide ((HB.out.mono hBw).trans (BD.out.mono (by have := HB.out.size; omega)))
                have D2 := hide ((D1.out.later BD.out).text (HVH.out.kept (P' := fun x => lab x = S.length + 2) BD.out.size (fun x _ hx => BD.out.block x hx) (fun x hx _ => hx)) (at_ ++ 10 :: tx))
                rw [← HN'.out] at D2
                have hcat : ((⟨at_.toArray⟩ : ByteArray) ++ ⟨#[10]⟩ ++ ⟨tx.toArray⟩) = ⟨(at_ ++ 10 :: tx).toArray⟩ := by apply ByteArray.ext; simp [ByteArray.data_append]
                clear i2 z2 c0 c1 c2 f1 BD
                generalize W.drewN nq = Wn at *
                go_wp2_with fail
                go_ret2
                rw [HDO.out]
                (try rw [hcat])
                exact ⟨HBn.out.setCell HGB.out _, rfl, L, cap, lab, _, D2.out⟩
end Go.Proofs.YtpkgaidnpooahaaGreatDoor
