/-
  My own text: the document's Message (printed by mknm4.py).
-/
import Derived.Test.YtbaideeiljeamaaGreatDoorNM3
import Derived.Test.YtbaideeiljeamaaGreatDoorNG2
import Derived.Test.YtbaideeiljeamaaGreatDoorQRz
import Derived.Test.YtbaideeiljeamaaGreatDoorQRz
namespace Go.Proofs.YtbaideeiljeamaaGreatDoor
open Go.RowKit

set_option maxRecDepth 100000 in
set_option maxHeartbeats 16000000 in
theorem refMsg_tf (n : Ntc) (v : Value) (ls : List Lnk) (w : World) (hcn : n.cn = true) (hpy : n.py = false) (hn : NOk n) (hG : Good n ls) (hq1 : n.qty ≤ 9223372036854775807) (_ha1 : n.amt ≤ 9223372036854775807) (hR : RL w v ls) :
    Calls Tryz.prog 12 #[.agg (nC n v)] w fun e w' => (∃ ka kc, e = .returned (.slice ka (msgT n ls).length kc) ∧ TG.PT w' (fun x => w.heap.size ≤ x ∧ x < w'.heap.size) (.slice ka (msgT n ls).length kc) (msgT n ls)) ∧ Below w.heap.size w w' := by
  have HLC := hide hn.code
  have HSZ : Hid ((Tryz.prog.info? 26).map (·.size) = some (nC n v).size) := by show _ = _; rw [nC_size n v hn.code]; exact Tryz.sizeNtc
  have HSI : Hid ((Tryz.prog.info? 23).map (·.size) = some (LC.cel n.code).size) := by show _ = _; rw [show (LC.cel n.code).size = 12 by simp [LC.cel, hn.code]]; exact sizeIsn
  have HF := hide (fun (a b c : List UInt8) (W : World) => refField2 a b c W)
  have HTY := hide (fun W : World => refType_any n v W hn)
  have HSD := hide (fun W : World => refSide_any n v W hn)
  have HKD := hide (fun (k : Int) (W : World) => refKind_any k W)
  have HDT := hide (fun W : World => refDate_any n.tr W hG.tr)
  have HDS := hide (fun W : World => refDate_any n.st W hG.st)
  have HCO := hide (fun W : World => refCode_any n.code W hn.code)
  have hfew := hG.few
  have HKS := hide hG.kinds
  have eF : funcT n = [67, 65, 78, 67] := by unfold funcT; rw [hcn]; rfl
  obtain ⟨PR, ePR⟩ : ∃ PR : Nat, (PR : Int) = n.pri := ⟨n.pri.toNat, by have := hG.pri0; omega⟩
  obtain ⟨QT, eQT⟩ : ∃ QT : Nat, (QT : Int) = n.qty := ⟨n.qty.toNat, by have := hG.qty0; omega⟩
  have HDP := hide (fun W : World => digitsT_any PR 4 W (by have := hG.pri1; omega) (by omega) (by omega))
  have HDQ := hide (fun W : World => digitsT_any QT 1 W (by omega) (by omega) (by omega))
  have ePT : Hid (n.pri.toNat = PR) := hide (by omega)
  have eQN : Hid (n.qty.toNat = QT) := hide (by omega)
  have lQ := pd_len_le (N := QT) (least := 1) (by omega) (by omega)
  rw [ePR] at HDP
  rw [eQT] at HDQ
  clear ePR eQT
  obtain ⟨la, lc, rfl, hRR⟩ : ∃ la lc, v = .slice la ls.length lc ∧ True := by obtain ⟨x, y, h, _⟩ := hR; exact ⟨x, y, h, trivial⟩
  have R := hide (hR.later ((Below.refl w.heap.size w).alloc (Nat.le_refl _) (.cells (nC n (.slice la ls.length lc)) 26)))
  have X := hide (Bx.new w n (.slice la ls.length lc))
  have B := hide ((Below.refl w.heap.size w).alloc (Nat.le_refl _) (.cells (nC n (.slice la ls.length lc)) 26))
  have HS1 : Hid ((w.alloc (.cells (nC n (.slice la ls.length lc)) 26)).heap.size = w.heap.size + 1) := hide (by simp)
  have c2 := X.out.cn hn.code
  rw [hcn] at c2
  have HMT : Hid (msgT n ls = [blkT [71, 69, 78, 76] (genlT n ls), blkT [84, 82, 65, 68, 68, 69, 84] (tradT n), blkT [70, 73, 65, 67] (fiacT n), blkT [83, 69, 84, 68, 69, 84] (setdT n)]) := hide rfl
  have HML : Hid ((msgT n ls).length = 4) := hide rfl
  clear hn hG hR hRR hq1
  obtain ⟨TT, HTT⟩ : ∃ TT, Hid (typeT n = TT) := ⟨_, hide rfl⟩
  obtain ⟨TS, HTS⟩ : ∃ TS, Hid (sideT n = TS) := ⟨_, hide rfl⟩
  obtain ⟨M, HM⟩ : ∃ M, Hid (msgT n ls = M) := ⟨_, hide rfl⟩
  rw [HTT.out] at HTY
  rw [HTS.out] at HSD
  rw [HM.out] at HMT HML ⊢
  go_enter Tryz.func12, Tryz.ntmps12
  go_wp2_with fail
  clear c2
  generalize w.alloc (.cells (nC n (.slice la ls.length lc)) 26) = W1 at *
  have HX0 := hide ((Below.refl W1.heap.size W1).drew)
  haveI : Nonempty (Gr W1) := ⟨⟨_, HX0.out⟩⟩
  have q0 : ∀ x : Gr W1, x.1.cell? ⟨w.heap.size, 0, none⟩ = some (.string ⟨n.ref.toArray⟩) := fun x => (X.out.later x.2).ref HLC.out
  refine TG.region_qtails (C := fun w' => ∃ x : Gr W1, w' = x.1) 8 1 rfl (by kernel_rfl) (by kernel_rfl) ⟨⟨_, HX0.out⟩, rfl⟩ ?_
  simp only [List.take_succ_cons, List.take_zero, List.drop_succ_cons, List.drop_zero]
  repeat (first
    | go_big_quiet_skip
    | (go_big_quiet_want; first
        | (refine quiet_load 26 (.tmp 1) rfl w.heap.size rfl (nC n (.slice la ls.length lc)).toList _ (fun w' ⟨x, hx⟩ => by subst hx; exact (X.out.later x.2).range) Tryz.underlying26 rfl (by rw [Array.length_toList]; exact HSZ.out) ?_; rw [Array.toArray_toList]; simp only [Act.put, List.setIfInBounds_toArray, List.set_cons_zero, List.set_cons_succ]; go_big_quiet_on)
        | (go_big_quiet_op; first
            | go_big_quiet_on
            | (apply Exists.intro; refine ⟨fun x => ?_, ?_⟩; (first
                | (go_at_call_of 26 (Value.string ⟨#[50, 48, 67]⟩); exact x.call (HF.out [50, 48, 67] [83, 69, 77, 69] n.ref x.1))
                | (go_at_call_of 26 (Value.string ⟨#[50, 51, 71]⟩); exact x.call (HF.out [50, 51, 71] [] [67, 65, 78, 67] x.1))
                | (go_at_call 27; exact x.call (HTY.out x.1))
                | (go_at_call_of 26 (Value.string ⟨#[50, 50, 70]⟩); exact x.call (HF.out [50, 50, 70] [84, 89, 80, 69] TT x.1))); go_big_quiet_on))))
  refine wpQuiet_nil ?_
  rintro w2 ⟨x, rfl⟩
  obtain ⟨w2, hx⟩ := x
  dsimp only
  have D := hide hx
  clear HX0 this q0 hx
  obtain ⟨W2, hW2⟩ : ∃ W, w2.alloc (.cells #[.string ⟨#[50, 48, 67]⟩, .string ⟨#[83, 69, 77, 69]⟩, .string ⟨n.ref.toArray⟩, .string ⟨#[]⟩, .slice none 0 0, .string ⟨#[50, 51, 71]⟩, .string ⟨#[]⟩, .string ⟨#[67, 65, 78, 67]⟩, .string ⟨#[]⟩, .slice none 0 0, .string ⟨#[50, 50, 70]⟩, .string ⟨#[84, 89, 80, 69]⟩, .string ⟨TT.toArray⟩, .string ⟨#[]⟩, .slice none 0 0] 58) = W := ⟨_, rfl⟩
  have I : Hid (TG.IW W2 W1.heap.size (.slice (some ⟨w2.heap.size, 0, none⟩) 3 3) [fldT [50, 48, 67] [83, 69, 77, 69] n.ref, fldT [50, 51, 71] [] [67, 65, 78, 67], fldT [50, 50, 70] [84, 89, 80, 69] TT] [.slice none 0 0, .slice none 0 0, .slice none 0 0]) := hide (by
    rw [← hW2]
    refine iw_lit [(fldT [50, 48, 67] [83, 69, 77, 69] n.ref, .slice none 0 0), (fldT [50, 51, 71] [] [67, 65, 78, 67], .slice none 0 0), (fldT [50, 50, 70] [84, 89, 80, 69] TT, .slice none 0 0)] _ _ _ D.out.size rfl rfl rfl rfl rfl (by omega) (fun p hp => ?_)
    simp only [List.mem_cons, List.not_mem_nil, or_false] at hp
    rcases hp with rfl | rfl | rfl <;> exact pt_nil _ _)
  have D : Hid (Below W1.heap.size W1 W2) := hide (by rw [← hW2]; exact D.out.alloc D.out.size _)
  have c2 := (X.out.later D.out).cn HLC.out
  rw [hcn] at c2
  have c1 := (X.out.later D.out).prev HLC.out
  go_wp2_with fail
  clear hW2 c2
  clear c1
  refine (HF.out [50, 48, 67] [80, 82, 69, 86] n.prev _).mono ?_
  rintro e w3 ⟨rfl, hb3⟩
  have HB3 := hide hb3
  clear hb3
  go_wp2_with (at_builtin; refine wp_pushW W2 w3 W1.heap.size _ _ _ ⟨[50, 48, 67], [80, 82, 69, 86], n.prev, []⟩ (.slice none 0 0) [] rfl _ _ rfl rfl rfl I.out HB3.out D.out.size (pt_nil _ _) (by simp) ?_)
  intro v4 W4 hI4 hB4
  have D := hide (D.out.trans hB4)
  obtain ⟨a4, c4, rfl, _⟩ := hI4.done
  have I := hide hI4
  clear hI4 hB4 HB3
  go_wp2_with fail
  have I4 : Hid (∃ V, TG.IW W4 W1.heap.size (.slice a4 _ c4) [fldT [50, 48, 67] [83, 69, 77, 69] n.ref, fldT [50, 51, 71] [] [67, 65, 78, 67], fldT [50, 50, 70] [84, 89, 80, 69] TT, fldT [50, 48, 67] [80, 82, 69, 86] n.prev] V) := hide ⟨_, I.out⟩
  obtain ⟨G4, HG4⟩ : ∃ G, Hid ([fldT [50, 48, 67] [83, 69, 77, 69] n.ref, fldT [50, 51, 71] [] [67, 65, 78, 67], fldT [50, 50, 70] [84, 89, 80, 69] TT, fldT [50, 48, 67] [80, 82, 69, 86] n.prev] = G) := ⟨_, hide rfl⟩
  have HLG : Hid (G4.length = 4) := hide (by rw [← HG4.out]; rfl)
  rw [HG4.out] at I4
  clear I
  go_loopw [4, 5] (fun v i wr => ∃ (k : Nat) (V : List Value) (a : Option Addr) (m cap : Nat), k ≤ ls.length ∧ i = .int .i64 k ∧ v = .slice a m cap ∧ Hid (TG.IW wr W1.heap.size (.slice a m cap) (G4 ++ (ls.take k).map linkT) V) ∧ Hid (Below W1.heap.size W1 wr)) (fun _ i _ => ls.length - (intOf i).toNat)
  case atStart =>
    obtain ⟨V, hV⟩ := I4.out
    exact ⟨0, V, _, _, _, Nat.zero_le _, rfl, rfl, hide (by simpa using hV), D⟩
  case round =>
    clear D I4
    obtain ⟨k, V, a, m, cap, hk, rfl, rfl, I, D⟩ := hrel
    have c26 := (X.out.later D.out).links HLC.out
    by_cases hlt : k < ls.length
    · have hd1 : decide ((k : Int) < (ls.length : Int)) = true := by rw [decide_eq_true_eq]; omega
      obtain ⟨p, hp⟩ : ∃ p, ls[k]? = some p := ⟨_, List.getElem?_eq_getElem hlt⟩
      obtain ⟨lb, lo, rfl, HC0, HC1⟩ : ∃ lb lo, la = some ⟨lb, lo, none⟩ ∧ Hid (W1.cell? ⟨lb, lo + k * 2, none⟩ = some (.int .i64 p.1)) ∧ Hid (W1.cell? ⟨lb, lo + k * 2 + 1, none⟩ = some (.string ⟨p.2.toArray⟩)) := by
        obtain ⟨x, y, he, hc⟩ := R.out
        injection he with e1 e2 e3
        subst e1 e3
        rcases hc with rfl | ⟨lb, lo, rfl, _, hc⟩
        · simp at hlt
        · exact ⟨lb, lo, rfl, hide (hc k p hp).1, hide (hc k p hp).2⟩
      have HTK : Hid ((ls.take (k + 1)).map linkT = (ls.take k).map linkT ++ [linkT p]) := hide (by rw [List.take_add_one, hp]; simp)
      have HLL : Hid ((G4 ++ (ls.take k).map linkT).length ≤ 1000) := hide (by rw [List.length_append, HLG.out, List.length_map, List.length_take]; omega)
      have hk0 : (0 : Int) ≤ (k : Int) := by omega
      have hk1 : (k : Int) < (ls.length : Int) := by omega
      clear hp
      obtain ⟨pk, pr⟩ := p
      dsimp only at HC0 HC1
      have s1 := cell_later D.out HC0.out
      have s2 := cell_later D.out HC1.out
      go_wp2_with fail
      refine TG.begins_held (S := fun W => W.cell? ⟨w.heap.size, 26, none⟩ = some (.slice (some ⟨lb, lo, none⟩) ls.length lc) ∧ W.cell? ⟨lb, lo + k * 2, none⟩ = some (.int .i64 pk) ∧ W.cell? ⟨lb, lo + k * 2 + 1, none⟩ = some (.string ⟨pr.toArray⟩)) 21 #[false, false, false, false, false, false, false, false, false, false, false, false, false, false, false, false, false, false, false, false, false] (by kernel_rfl) (by kernel_rfl) (by kernel_rfl) ⟨c26, s1, s2⟩ (fun hHeld => ?_)
      clear c26 s1 s2
      refine TG.tk (v := ?_) 0 35 #[true, false, false, false, false, false, false, false, false, false, false, false, false, false, false, false, false, false, false, false, false] rfl rfl (by kernel_rfl) (by kernel_rfl) (by kernel_rfl) (fun _ _ _ h => h) (by kernel_rfl) (by rfl) ?hy hHeld ?_
      case hy => rintro W ⟨hS0, hS1, hS2⟩; first | (go_simp; done) | (go_simp; with_reducible rfl)
      simp only [List.setIfInBounds_toArray, List.set_cons_zero, List.set_cons_succ]
      refine TG.tk (v := ?_) 1 36 #[true, true, false, false, false, false, false, false, false, false, false, false, false, false, false, false, false, false, false, false, false] rfl rfl (by kernel_rfl) (by kernel_rfl) (by kernel_rfl) (fun _ _ _ h => h) (by kernel_rfl) (by rfl) ?hy hHeld ?_
      case hy => rintro W ⟨hS0, hS1, hS2⟩; first | (go_simp; done) | (go_simp; with_reducible rfl)
      simp only [List.setIfInBounds_toArray, List.set_cons_zero, List.set_cons_succ]
      refine TG.tk (v := ?_) 2 37 #[true, true, true, false, false, false, false, false, false, false, false, false, false, false, false, false, false, false, false, false, false] rfl rfl (by kernel_rfl) (by kernel_rfl) (by kernel_rfl) (fun _ _ _ h => h) (by kernel_rfl) (by rfl) ?hy hHeld ?_
      case hy => rintro W ⟨hS0, hS1, hS2⟩; first | (go_simp; done) | (go_simp; with_reducible rfl)
      simp only [List.setIfInBounds_toArray, List.set_cons_zero, List.set_cons_succ]
      refine TG.tk (v := ?_) 3 38 #[true, true, true, true, false, false, false, false, false, false, false, false, false, false, false, false, false, false, false, false, false] rfl rfl (by kernel_rfl) (by kernel_rfl) (by kernel_rfl) (fun _ _ _ h => h) (by kernel_rfl) (by rfl) ?hy hHeld ?_
      case hy => rintro W ⟨hS0, hS1, hS2⟩; first | (go_simp; done) | (go_simp; with_reducible rfl)
      simp only [List.setIfInBounds_toArray, List.set_cons_zero, List.set_cons_succ]
      refine TG.tk (v := ?_) 4 39 #[true, true, true, true, true, false, false, false, false, false, false, false, false, false, false, false, false, false, false, false, false] rfl rfl (by kernel_rfl) (by kernel_rfl) (by kernel_rfl) (fun _ _ _ h => h) (by kernel_rfl) (by rfl) ?hy hHeld ?_
      case hy => rintro W ⟨hS0, hS1, hS2⟩; first | (go_simp; done) | (go_simp; with_reducible rfl)
      simp only [List.setIfInBounds_toArray, List.set_cons_zero, List.set_cons_succ]
      refine TG.tk (v := ?_) 5 40 #[true, true, true, true, true, true, false, false, false, false, false, false, false, false, false, false, false, false, false, false, false] rfl rfl (by kernel_rfl) (by kernel_rfl) (by kernel_rfl) (fun _ _ _ h => h) (by kernel_rfl) (by rfl) ?hy hHeld ?_
      case hy => rintro W ⟨hS0, hS1, hS2⟩; first | (go_simp; done) | (go_simp; with_reducible rfl)
      simp only [List.setIfInBounds_toArray, List.set_cons_zero, List.set_cons_succ]
      refine TG.tk (v := ?_) 6 41 #[true, true, true, true, true, true, true, false, false, false, false, false, false, false, false, false, false, false, false, false, false] rfl rfl (by kernel_rfl) (by kernel_rfl) (by kernel_rfl) (fun _ _ _ h => h) (by kernel_rfl) (by rfl) ?hy hHeld ?_
      case hy => rintro W ⟨hS0, hS1, hS2⟩; first | (go_simp; done) | (go_simp; with_reducible rfl)
      simp only [List.setIfInBounds_toArray, List.set_cons_zero, List.set_cons_succ]
      refine TG.tk (v := ?_) 9 44 #[true, true, true, true, true, true, true, false, false, true, false, false, false, false, false, false, false, false, false, false, false] rfl rfl (by kernel_rfl) (by kernel_rfl) (by kernel_rfl) (fun _ _ _ h => h) (by kernel_rfl) (by rfl) ?hy hHeld ?_
      case hy => rintro W ⟨hS0, hS1, hS2⟩; first | (go_simp; done) | (go_simp; with_reducible rfl)
      simp only [List.setIfInBounds_toArray, List.set_cons_zero, List.set_cons_succ]
      refine TG.tk (v := ?_) 10 45 #[true, true, true, true, true, true, true, false, false, true, true, false, false, false, false, false, false, false, false, false, false] rfl rfl (by kernel_rfl) (by kernel_rfl) (by kernel_rfl) (fun _ _ _ h => h) (by kernel_rfl) (by rfl) ?hy hHeld ?_
      case hy => rintro W ⟨hS0, hS1, hS2⟩; first | (go_simp; done) | (go_simp; with_reducible rfl)
      simp only [List.setIfInBounds_toArray, List.set_cons_zero, List.set_cons_succ]
      refine TG.tk (v := ?_) 11 46 #[true, true, true, true, true, true, true, false, false, true, true, true, false, false, false, false, false, false, false, false, false] rfl rfl (by kernel_rfl) (by kernel_rfl) (by kernel_rfl) (fun _ _ _ h => h) (by kernel_rfl) (by rfl) ?hy hHeld ?_
      case hy => rintro W ⟨hS0, hS1, hS2⟩; first | (go_simp; done) | (go_simp; with_reducible rfl)
      simp only [List.setIfInBounds_toArray, List.set_cons_zero, List.set_cons_succ]
      refine TG.tk (v := ?_) 12 47 #[true, true, true, true, true, true, true, false, false, true, true, true, true, false, false, false, false, false, false, false, false] rfl rfl (by kernel_rfl) (by kernel_rfl) (by kernel_rfl) (fun _ _ _ h => h) (by kernel_rfl) (by rfl) ?hy hHeld ?_
      case hy => rintro W ⟨hS0, hS1, hS2⟩; first | (go_simp; done) | (go_simp; with_reducible rfl)
      simp only [List.setIfInBounds_toArray, List.set_cons_zero, List.set_cons_succ]
      refine TG.tk (v := ?_) 13 48 #[true, true, true, true, true, true, true, false, false, true, true, true, true, true, false, false, false, false, false, false, false] rfl rfl (by kernel_rfl) (by kernel_rfl) (by kernel_rfl) (fun _ _ _ h => h) (by kernel_rfl) (by rfl) ?hy hHeld ?_
      case hy => rintro W ⟨hS0, hS1, hS2⟩; first | (go_simp; done) | (go_simp; with_reducible rfl)
      simp only [List.setIfInBounds_toArray, List.set_cons_zero, List.set_cons_succ]
      refine TG.tk (v := ?_) 14 49 #[true, true, true, true, true, true, true, false, false, true, true, true, true, true, true, false, false, false, false, false, false] rfl rfl (by kernel_rfl) (by kernel_rfl) (by kernel_rfl) (fun _ _ _ h => h) (by kernel_rfl) (by rfl) ?hy hHeld ?_
      case hy => rintro W ⟨hS0, hS1, hS2⟩; first | (go_simp; done) | (go_simp; with_reducible rfl)
      simp only [List.setIfInBounds_toArray, List.set_cons_zero, List.set_cons_succ]
      have E0 : Hid (Below wr.heap.size wr wr.drew) := hide ((Below.refl _ _).drew)
      refine TG.one_ready 7 #[true, true, true, true, true, true, true, true, false, true, true, true, true, true, true, false, false, false, false, false, false] rfl (by kernel_rfl) (by kernel_rfl) (by rfl) (fun K hK => ?_)
      go_simp
      refine (HKD.out pk wr.drew).mono ?_
      rintro e w5 ⟨rfl, hb5⟩
      have E5 := hide (E0.out.trans (hb5.mono E0.out.size))
      obtain ⟨g0, g1, g2⟩ := hHeld
      have g0 := cell_later hb5 g0
      have g1 := cell_later hb5 g1
      have g2 := cell_later hb5 g2
      clear hb5
      go_wp2_with fail
      refine hK.out _ _ ⟨g0, g1, g2⟩ (fun hHeld => ?_)
      clear hK K g0 g1 g2
      obtain ⟨KT, HKT⟩ : ∃ KT, Hid (kindT pk = KT) := ⟨_, hide rfl⟩
      rw [HKT.out]
      refine TG.one_ready 8 #[true, true, true, true, true, true, true, true, true, true, true, true, true, true, true, false, false, false, false, false, false] rfl (by kernel_rfl) (by kernel_rfl) (by rfl) (fun K hK => ?_)
      go_simp
      refine (HF.out [50, 50, 70] [76, 73, 78, 75] KT w5).mono ?_
      rintro e w6 ⟨rfl, hb5⟩
      have E6 := hide (E5.out.trans (hb5.mono E5.out.size))
      obtain ⟨g0, g1, g2⟩ := hHeld
      have g0 := cell_later hb5 g0
      have g1 := cell_later hb5 g1
      have g2 := cell_later hb5 g2
      clear hb5
      go_wp2_with fail
      refine hK.out _ _ ⟨g0, g1, g2⟩ (fun hHeld => ?_)
      clear hK K g0 g1 g2
      refine TG.one_ready 15 #[true, true, true, true, true, true, true, true, true, true, true, true, true, true, true, true, false, false, false, false, false] rfl (by kernel_rfl) (by kernel_rfl) (by rfl) (fun K hK => ?_)
      go_simp
      refine (HF.out [50, 48, 67] [82, 69, 76, 65] pr w6).mono ?_
      rintro e w7 ⟨rfl, hb5⟩
      have E7 := hide (E6.out.trans (hb5.mono E6.out.size))
      obtain ⟨g0, g1, g2⟩ := hHeld
      have g0 := cell_later hb5 g0
      have g1 := cell_later hb5 g1
      have g2 := cell_later hb5 g2
      clear hb5
      go_wp2_with fail
      refine hK.out _ _ ⟨g0, g1, g2⟩ (fun hHeld => ?_)
      clear hK K g0 g1 g2
      refine TG.one_ready 16 #[true, true, true, true, true, true, true, true, true, true, true, true, true, true, true, true, true, false, false, false, false] rfl (by kernel_rfl) (by kernel_rfl) (by rfl) (fun K hK => ?_)
      go_simp
      have IK := hide (iw_lit (w := w7) (B := wr.heap.size) (k := 2) (c := 2) [(fldT [50, 50, 70] [76, 73, 78, 75] KT, .slice none 0 0), (fldT [50, 48, 67] [82, 69, 76, 65] pr, .slice none 0 0)] [fldT [50, 50, 70] [76, 73, 78, 75] KT, fldT [50, 48, 67] [82, 69, 76, 65] pr] [.slice none 0 0, .slice none 0 0] #[.string ⟨#[50, 50, 70]⟩, .string ⟨#[76, 73, 78, 75]⟩, .string ⟨KT.toArray⟩, .string ⟨#[]⟩, .slice none 0 0, .string ⟨#[50, 48, 67]⟩, .string ⟨#[82, 69, 76, 65]⟩, .string ⟨pr.toArray⟩, .string ⟨#[]⟩, .slice none 0 0] E7.out.size rfl rfl rfl rfl rfl (by omega) (fun p hp => by
        simp only [List.mem_cons, List.not_mem_nil, or_false] at hp
        rcases hp with rfl | rfl <;> exact pt_nil _ _))
      have A8 := (Below.refl w7.heap.size w7).alloc (Nat.le_refl _) (.cells #[.string ⟨#[50, 50, 70]⟩, .string ⟨#[76, 73, 78, 75]⟩, .string ⟨KT.toArray⟩, .string ⟨#[]⟩, .slice none 0 0, .string ⟨#[50, 48, 67]⟩, .string ⟨#[82, 69, 76, 65]⟩, .string ⟨pr.toArray⟩, .string ⟨#[]⟩, .slice none 0 0] 58)
      have E8 := hide (E7.out.trans (A8.mono E7.out.size))
      refine hK.out _ _ ⟨cell_later A8 hHeld.1, cell_later A8 hHeld.2.1, cell_later A8 hHeld.2.2⟩ (fun hHeld => ?_)
      clear hK K A8
      generalize w7.alloc (.cells #[.string ⟨#[50, 50, 70]⟩, .string ⟨#[76, 73, 78, 75]⟩, .string ⟨KT.toArray⟩, .string ⟨#[]⟩, .slice none 0 0, .string ⟨#[50, 48, 67]⟩, .string ⟨#[82, 69, 76, 65]⟩, .string ⟨pr.toArray⟩, .string ⟨#[]⟩, .slice none 0 0] 58) = w8 at *
      refine TG.tk (v := ?_) 17 52 #[true, true, true, true, true, true, true, true, true, true, true, true, true, true, true, true, true, true, false, false, false] rfl rfl (by kernel_rfl) (by kernel_rfl) (by kernel_rfl) (fun _ _ _ h => h) (by kernel_rfl) (by rfl) ?hy hHeld ?_
      case hy => rintro W ⟨hS0, hS1, hS2⟩; first | (go_simp; done) | (go_simp; with_reducible rfl)
      simp only [List.setIfInBounds_toArray, List.set_cons_zero, List.set_cons_succ]
      refine TG.one_ready 18 #[true, true, true, true, true, true, true, true, true, true, true, true, true, true, true, true, true, true, true, false, false] rfl (by kernel_rfl) (by kernel_rfl) (by rfl) (fun K hK => ?_)
      go_simp
      have A9 := (Below.refl w8.heap.size w8).alloc (Nat.le_refl _) (.cells (TG.iC ⟨[], [], [], [76, 73, 78, 75]⟩ (.slice (some ⟨w7.heap.size, 0, none⟩) 2 2)) 58)
      refine hK.out _ _ ⟨cell_later A9 hHeld.1, cell_later A9 hHeld.2.1, cell_later A9 hHeld.2.2⟩ (fun hHeld => ?_)
      clear hK K A9
      refine TG.one_ready 19 #[true, true, true, true, true, true, true, true, true, true, true, true, true, true, true, true, true, true, true, true, false] rfl (by kernel_rfl) (by kernel_rfl) (by rfl) (fun K hK => ?_)
      refine op_pushW wr w8 W1.heap.size (.slice a m cap) _ V ⟨[], [], [], [76, 73, 78, 75]⟩ (.slice (some ⟨w7.heap.size, 0, none⟩) 2 2) [fldT [50, 50, 70] [76, 73, 78, 75] KT, fldT [50, 48, 67] [82, 69, 76, 65] pr] _ _ rfl rfl rfl I.out E8.out D.out.size IK.out.done HLL.out ?_
      intro v9 w9 hI9 hB9
      (try simp only [Act.put, List.setIfInBounds_toArray])
      have D := hide (D.out.trans hB9)
      have hX9 := (X.out.later D.out).links HLC.out
      refine hK.out _ _ ⟨hX9, cell_later D.out HC0.out, cell_later D.out HC1.out⟩ (fun hHeld => ?_)
      clear hK K hX9
      obtain ⟨a9, c9, rfl, _⟩ := hI9.done
      have I := hide hI9
      have eLT : linkT (pk, pr) = .mk ⟨[], [], [], [76, 73, 78, 75]⟩ [fldT [50, 50, 70] [76, 73, 78, 75] KT, fldT [50, 48, 67] [82, 69, 76, 65] pr] := by unfold linkT blkT; rw [HKT.out]
      rw [← eLT] at I ⊢
      have HLT := hide eLT
      clear hI9 hB9 eLT
      generalize (G4 ++ (ls.take k).map linkT ++ [linkT (pk, pr)]).length = m9 at I ⊢
      refine TG.tk (v := ?_) 20 4 #[true, true, true, true, true, true, true, true, true, true, true, true, true, true, true, true, true, true, true, true, true] rfl rfl (by kernel_rfl) (by kernel_rfl) (by kernel_rfl) (fun _ _ _ h => h) (by kernel_rfl) (by rfl) ?hy hHeld ?_
      case hy => rintro W ⟨hS0, hS1, hS2⟩; first | (go_simp; done) | (go_simp; with_reducible rfl)
      simp only [List.setIfInBounds_toArray, List.set_cons_zero, List.set_cons_succ]
      refine wpAnyH_done (by kernel_rfl) ?_ _
      go_wp2_with fail
      go_roundw
      case rel => exact ⟨k + 1, _, a9, m9, c9, by omega, by go_num, rfl, hide (by rw [HTK.out, ← List.append_assoc]; exact I.out), D⟩
      case measure => simp [intOf]; omega
    · have h' : k = ls.length := by omega
      subst h'
      have PG := hide (show TG.PT wr (fun x => W1.heap.size ≤ x ∧ x < wr.heap.size) (.slice a m cap) (genlT n ls) by
        have h := I.out.done
        rw [List.take_length, ← HG4.out] at h
        have e : [fldT [50, 48, 67] [83, 69, 77, 69] n.ref, fldT [50, 51, 71] [] [67, 65, 78, 67], fldT [50, 50, 70] [84, 89, 80, 69] TT, fldT [50, 48, 67] [80, 82, 69, 86] n.prev] ++ ls.map linkT = genlT n ls := by unfold genlT gen4T gen3T; rw [hcn, eF, HTT.out]; rfl
        rw [e] at h
        exact h)
      clear I HG4 HLG
      go_wp2_with fail
      clear c26
      have X5 := hide (X.out.later D.out)
      have B5 := hide (B.out.trans (D.out.mono B.out.size))
      have HS5 : Hid (w.heap.size ≤ W1.heap.size) := hide B.out.size
      clear X B D R
      have X := X5
      clear X5
      obtain ⟨DTR, HDTR⟩ : ∃ x, Hid (dayT n.tr = x) := ⟨_, hide rfl⟩
      obtain ⟨DST, HDST⟩ : ∃ x, Hid (dayT n.st = x) := ⟨_, hide rfl⟩
      obtain ⟨CT, HCT⟩ : ∃ x, Hid (codeT n = x) := ⟨_, hide rfl⟩
      obtain ⟨PPT, HPPT⟩ : ∃ x, Hid (pdT PR 4 = x) := ⟨_, hide rfl⟩
      obtain ⟨PQ, HPQ⟩ : ∃ x, Hid (pdT QT 1 = x) := ⟨_, hide rfl⟩
      rw [HDTR.out] at HDT
      rw [HDST.out] at HDS
      rw [HPPT.out] at HDP
      rw [HPQ.out] at HDQ lQ
      have lcode : n.code.length ≤ 12 := by have := HLC.out; omega
      have a1 : (⟨#[73, 83, 73, 78, 32]⟩ : ByteArray) ++ ⟨n.code.toArray⟩ = ⟨CT.toArray⟩ := by rw [← HCT.out]; unfold codeT; apply ByteArray.ext; simp
      have HX0 := hide ((Below.refl wr.heap.size wr).drew)
      haveI : Nonempty (Gr wr) := ⟨⟨_, HX0.out⟩⟩
      have q5 : ∀ x : Gr wr, x.1.cell? ⟨w.heap.size, 5, none⟩ = some (.int .i64 n.tr) := fun x => (X.out.later x.2).tr HLC.out
      have q6 : ∀ x : Gr wr, x.1.cell? ⟨w.heap.size, 6, none⟩ = some (.int .i64 n.st) := fun x => (X.out.later x.2).st HLC.out
      have q14 : ∀ x : Gr wr, x.1.cell? ⟨w.heap.size, 25, none⟩ = some (.int .i64 n.pri) := fun x => (X.out.later x.2).pri HLC.out
      refine TG.region_qtails (C := fun w' => ∃ x : Gr wr, w' = x.1) 17 1 rfl (by kernel_rfl) (by kernel_rfl) ⟨⟨_, HX0.out⟩, rfl⟩ ?_
      simp only [List.take_succ_cons, List.take_zero, List.drop_succ_cons, List.drop_zero]
      repeat (first
        | go_big_quiet_skip
        | (go_big_quiet_want; first
            | (refine quiet_load 26 (.tmp 1) rfl w.heap.size rfl (nC n (.slice la ls.length lc)).toList _ (fun w' ⟨x, hx⟩ => by subst hx; exact (X.out.later x.2).range) Tryz.underlying26 rfl (by rw [Array.length_toList]; exact HSZ.out) ?_; rw [Array.toArray_toList]; simp only [Act.put, List.setIfInBounds_toArray, List.set_cons_zero, List.set_cons_succ]; go_big_quiet_on)
            | (refine quiet_load_at 23 (.tmp 63) rfl w.heap.size 7 rfl (LC.cel n.code).toList _ (fun w' ⟨x, hx⟩ => by subst hx; exact (X.out.later x.2).code HLC.out) Tryz.underlying23 rfl (by rw [Array.length_toList]; exact HSI.out) ?_; rw [Array.toArray_toList]; simp only [Act.put, List.setIfInBounds_toArray, List.set_cons_zero, List.set_cons_succ]; go_big_quiet_on)
            | (go_big_quiet_op; first
                | go_big_quiet_on
                | (apply Exists.intro; refine ⟨fun x => ?_, ?_⟩; (first
                    | (go_at_call_of 29 (Value.int .i64 n.tr); exact x.call (HDT.out x.1))
                    | (go_at_call_of 29 (Value.int .i64 n.st); exact x.call (HDS.out x.1))
                    | (go_at_call 30; exact x.call (HCO.out x.1))
                    | (go_at_call 31; exact x.call (HDP.out x.1))
                    | (go_at_call_of 26 (Value.string ⟨#[84, 82, 65, 68]⟩); exact x.call (HF.out [57, 56, 65] [84, 82, 65, 68] DTR x.1))
                    | (go_at_call_of 26 (Value.string ⟨#[83, 69, 84, 84]⟩); exact x.call (HF.out [57, 56, 65] [83, 69, 84, 84] DST x.1))
                    | (go_at_call_of 26 (Value.string ⟨#[51, 53, 66]⟩); exact x.call (HF.out [51, 53, 66] [] CT x.1))
                    | (go_at_call_of 26 (Value.string ⟨#[80, 82, 73, 82]⟩); exact x.call (HF.out [50, 50, 70] [80, 82, 73, 82] PPT x.1))); go_big_quiet_on))))
      refine wpQuiet_nil ?_
      rintro w10 ⟨x, rfl⟩
      obtain ⟨w10, hx⟩ := x
      dsimp only
      have D10 := hide hx
      clear HX0 this hx q5 q6 q14
      clear a1 lcode
      obtain ⟨W10, hW10⟩ : ∃ W, w10.alloc (.cells #[.string ⟨#[57, 56, 65]⟩, .string ⟨#[84, 82, 65, 68]⟩, .string ⟨DTR.toArray⟩, .string ⟨#[]⟩, .slice none 0 0, .string ⟨#[57, 56, 65]⟩, .string ⟨#[83, 69, 84, 84]⟩, .string ⟨DST.toArray⟩, .string ⟨#[]⟩, .slice none 0 0, .string ⟨#[51, 53, 66]⟩, .string ⟨#[]⟩, .string ⟨CT.toArray⟩, .string ⟨#[]⟩, .slice none 0 0, .string ⟨#[50, 50, 70]⟩, .string ⟨#[80, 82, 73, 82]⟩, .string ⟨PPT.toArray⟩, .string ⟨#[]⟩, .slice none 0 0] 58) = W := ⟨_, rfl⟩
      have I10 : Hid (TG.IW W10 wr.heap.size (.slice (some ⟨w10.heap.size, 0, none⟩) 4 4) [fldT [57, 56, 65] [84, 82, 65, 68] DTR, fldT [57, 56, 65] [83, 69, 84, 84] DST, fldT [51, 53, 66] [] CT, fldT [50, 50, 70] [80, 82, 73, 82] PPT] [.slice none 0 0, .slice none 0 0, .slice none 0 0, .slice none 0 0]) := hide (by
        rw [← hW10]
        refine iw_lit [(fldT [57, 56, 65] [84, 82, 65, 68] DTR, .slice none 0 0), (fldT [57, 56, 65] [83, 69, 84, 84] DST, .slice none 0 0), (fldT [51, 53, 66] [] CT, .slice none 0 0), (fldT [50, 50, 70] [80, 82, 73, 82] PPT, .slice none 0 0)] _ _ _ D10.out.size rfl rfl rfl rfl rfl (by omega) (fun p hp => ?_)
        simp only [List.mem_cons, List.not_mem_nil, or_false] at hp
        rcases hp with rfl | rfl | rfl | rfl <;> exact pt_nil _ _)
      have D10 : Hid (Below wr.heap.size wr W10) := hide (by rw [← hW10]; exact D10.out.alloc D10.out.size _)
      have PT1 : Hid (TG.PT W10 (fun x => wr.heap.size ≤ x ∧ x < W10.heap.size) (.slice (some ⟨w10.heap.size, 0, none⟩) 4 4) (tradT n)) := hide (by have h := I10.out.done; unfold tradT; rw [HDTR.out, HDST.out, HCT.out, ePT.out, HPPT.out]; exact h)
      clear I10
      go_wp2_with fail
      clear hW10
      have X5 := hide (X.out.later D10.out)
      clear X
      have X := X5
      clear X5
      obtain ⟨UQ, HUQ⟩ : ∃ x, Hid ([85, 78, 73, 84, 47] ++ PQ = x) := ⟨_, hide rfl⟩
      obtain ⟨QX, HQX⟩ : ∃ x, Hid (UQ ++ [44] = x) := ⟨_, hide rfl⟩
      have lU : UQ.length ≤ 24 := by rw [← HUQ.out, List.length_append]; simp; omega
      have a1 : (⟨#[85, 78, 73, 84, 47]⟩ : ByteArray) ++ ⟨PQ.toArray⟩ = ⟨UQ.toArray⟩ := by rw [← HUQ.out]; apply ByteArray.ext; simp
      have a2 : (⟨UQ.toArray⟩ : ByteArray) ++ ⟨#[44]⟩ = ⟨QX.toArray⟩ := by rw [← HQX.out]; apply ByteArray.ext; simp
      have HX0 := hide ((Below.refl W10.heap.size W10).drew)
      haveI : Nonempty (Gr W10) := ⟨⟨_, HX0.out⟩⟩
      have q19 : ∀ x : Gr W10, x.1.cell? ⟨w.heap.size, 19, none⟩ = some (.int .i64 n.qty) := fun x => (X.out.later x.2).qty HLC.out
      have q20 : ∀ x : Gr W10, x.1.cell? ⟨w.heap.size, 20, none⟩ = some (.string ⟨n.acc.toArray⟩) := fun x => (X.out.later x.2).acc HLC.out
      refine TG.region_qtails (C := fun w' => ∃ x : Gr W10, w' = x.1) 9 1 rfl (by kernel_rfl) (by kernel_rfl) ⟨⟨_, HX0.out⟩, rfl⟩ ?_
      simp only [List.take_succ_cons, List.take_zero, List.drop_succ_cons, List.drop_zero]
      repeat (first
        | go_big_quiet_skip
        | (go_big_quiet_want; first
            | (refine quiet_load 26 (.tmp 1) rfl w.heap.size rfl (nC n (.slice la ls.length lc)).toList _ (fun w' ⟨x, hx⟩ => by subst hx; exact (X.out.later x.2).range) Tryz.underlying26 rfl (by rw [Array.length_toList]; exact HSZ.out) ?_; rw [Array.toArray_toList]; simp only [Act.put, List.setIfInBounds_toArray, List.set_cons_zero, List.set_cons_succ]; go_big_quiet_on)
            | (go_big_quiet_op; first
                | go_big_quiet_on
                | (apply Exists.intro; refine ⟨fun x => ?_, ?_⟩; (first
                    | (go_at_call 31; exact x.call (HDQ.out x.1))
                    | (go_at_call_of 26 (Value.string ⟨#[51, 54, 66]⟩); exact x.call (HF.out [51, 54, 66] [83, 69, 84, 84] QX x.1))
                    | (go_at_call_of 26 (Value.string ⟨#[57, 55, 65]⟩); exact x.call (HF.out [57, 55, 65] [83, 65, 70, 69] n.acc x.1))); go_big_quiet_on))))
      refine wpQuiet_nil ?_
      rintro w11 ⟨x, rfl⟩
      obtain ⟨w11, hx⟩ := x
      dsimp only
      have D11 := hide hx
      clear HX0 this hx q19 q20
      clear a1 a2 lU lQ
      obtain ⟨W11, hW11⟩ : ∃ W, w11.alloc (.cells #[.string ⟨#[51, 54, 66]⟩, .string ⟨#[83, 69, 84, 84]⟩, .string ⟨QX.toArray⟩, .string ⟨#[]⟩, .slice none 0 0, .string ⟨#[57, 55, 65]⟩, .string ⟨#[83, 65, 70, 69]⟩, .string ⟨n.acc.toArray⟩, .string ⟨#[]⟩, .slice none 0 0] 58) = W := ⟨_, rfl⟩
      have I11 : Hid (TG.IW W11 W10.heap.size (.slice (some ⟨w11.heap.size, 0, none⟩) 2 2) [fldT [51, 54, 66] [83, 69, 84, 84] QX, fldT [57, 55, 65] [83, 65, 70, 69] n.acc] [.slice none 0 0, .slice none 0 0]) := hide (by
        rw [← hW11]
        refine iw_lit [(fldT [51, 54, 66] [83, 69, 84, 84] QX, .slice none 0 0), (fldT [57, 55, 65] [83, 65, 70, 69] n.acc, .slice none 0 0)] _ _ _ D11.out.size rfl rfl rfl rfl rfl (by omega) (fun p hp => ?_)
        simp only [List.mem_cons, List.not_mem_nil, or_false] at hp
        rcases hp with rfl | rfl <;> exact pt_nil _ _)
      have D11 : Hid (Below W10.heap.size W10 W11) := hide (by rw [← hW11]; exact D11.out.alloc D11.out.size _)
      have PT2 : Hid (TG.PT W11 (fun x => W10.heap.size ≤ x ∧ x < W11.heap.size) (.slice (some ⟨w11.heap.size, 0, none⟩) 2 2) (fiacT n)) := hide (by have h := I11.out.done; unfold fiacT qtyT; rw [eQN.out, HPQ.out, HUQ.out, HQX.out]; exact h)
      clear I11 HUQ HQX HPQ HDTR HDST HCT HPPT
      go_wp2_with fail
      clear hW11
      have X5 := hide (X.out.later D11.out)
      clear X
      have X := X5
      clear X5
      have HX0 := hide ((Below.refl W11.heap.size W11).drew)
      haveI : Nonempty (Gr W11) := ⟨⟨_, HX0.out⟩⟩
      have q21 : ∀ x : Gr W11, x.1.cell? ⟨w.heap.size, 21, none⟩ = some (.string ⟨n.agt.toArray⟩) := fun x => (X.out.later x.2).agt HLC.out
      have q22 : ∀ x : Gr W11, x.1.cell? ⟨w.heap.size, 22, none⟩ = some (.string ⟨n.oth.toArray⟩) := fun x => (X.out.later x.2).oth HLC.out
      refine TG.region_qtails (C := fun w' => ∃ x : Gr W11, w' = x.1) 8 3 rfl (by kernel_rfl) (by kernel_rfl) ⟨⟨_, HX0.out⟩, rfl⟩ ?_
      simp only [List.take_succ_cons, List.take_zero, List.drop_succ_cons, List.drop_zero]
      repeat (first
        | go_big_quiet_skip
        | (go_big_quiet_want; first
            | (refine quiet_load 26 (.tmp 1) rfl w.heap.size rfl (nC n (.slice la ls.length lc)).toList _ (fun w' ⟨x, hx⟩ => by subst hx; exact (X.out.later x.2).range) Tryz.underlying26 rfl (by rw [Array.length_toList]; exact HSZ.out) ?_; rw [Array.toArray_toList]; simp only [Act.put, List.setIfInBounds_toArray, List.set_cons_zero, List.set_cons_succ]; go_big_quiet_on)
            | (go_big_quiet_op; first
                | go_big_quiet_on
                | (apply Exists.intro; refine ⟨fun x => ?_, ?_⟩; (first
                    | (go_at_call 32; exact x.call (HSD.out x.1))
                    | (go_at_call_of 26 (Value.string ⟨#[57, 53, 80]⟩); exact x.call (HF.out [57, 53, 80] TS n.agt x.1))
                    | (go_at_call_of 26 (Value.string ⟨#[57, 55, 65]⟩); exact x.call (HF.out [57, 55, 65] [83, 65, 70, 69] n.oth x.1))); go_big_quiet_on))))
      refine wpQuiet_nil ?_
      rintro w12 ⟨x, rfl⟩
      obtain ⟨w12, hx⟩ := x
      dsimp only
      have D12 := hide hx
      clear HX0 this hx q21 q22
      obtain ⟨W12, hW12⟩ : ∃ W, w12.alloc (.cells #[.string ⟨#[57, 53, 80]⟩, .string ⟨TS.toArray⟩, .string ⟨n.agt.toArray⟩, .string ⟨#[]⟩, .slice none 0 0, .string ⟨#[57, 55, 65]⟩, .string ⟨#[83, 65, 70, 69]⟩, .string ⟨n.oth.toArray⟩, .string ⟨#[]⟩, .slice none 0 0] 58) = W := ⟨_, rfl⟩
      have I12 : Hid (TG.IW W12 W11.heap.size (.slice (some ⟨w12.heap.size, 0, none⟩) 2 2) [fldT [57, 53, 80] TS n.agt, fldT [57, 55, 65] [83, 65, 70, 69] n.oth] [.slice none 0 0, .slice none 0 0]) := hide (by
        rw [← hW12]
        refine iw_lit [(fldT [57, 53, 80] TS n.agt, .slice none 0 0), (fldT [57, 55, 65] [83, 65, 70, 69] n.oth, .slice none 0 0)] _ _ _ D12.out.size rfl rfl rfl rfl rfl (by omega) (fun p hp => ?_)
        simp only [List.mem_cons, List.not_mem_nil, or_false] at hp
        rcases hp with rfl | rfl <;> exact pt_nil _ _)
      have D12 : Hid (Below W11.heap.size W11 W12) := hide (by rw [← hW12]; exact D12.out.alloc D12.out.size _)
      obtain ⟨W13, hW13⟩ : ∃ W, W12.alloc (.cells #[.string ⟨#[]⟩, .string ⟨#[]⟩, .string ⟨#[]⟩, .string ⟨#[83, 69, 84, 80, 82, 84, 89]⟩, .slice (some ⟨w12.heap.size, 0, none⟩) 2 2] 58) = W := ⟨_, rfl⟩
      have I13 : Hid (TG.IW W13 W11.heap.size (.slice (some ⟨W12.heap.size, 0, none⟩) 1 1) [blkT [83, 69, 84, 80, 82, 84, 89] [fldT [57, 53, 80] TS n.agt, fldT [57, 55, 65] [83, 65, 70, 69] n.oth]] [.slice (some ⟨w12.heap.size, 0, none⟩) 2 2]) := hide (by
        rw [← hW13]
        refine iw_lit [(blkT [83, 69, 84, 80, 82, 84, 89] [fldT [57, 53, 80] TS n.agt, fldT [57, 55, 65] [83, 65, 70, 69] n.oth], .slice (some ⟨w12.heap.size, 0, none⟩) 2 2)] _ _ _ D12.out.size rfl rfl rfl rfl rfl (by omega) (fun p hp => ?_)
        simp only [List.mem_cons, List.not_mem_nil, or_false] at hp
        subst hp; exact I12.out.done)
      have D13 : Hid (Below W11.heap.size W11 W13) := hide (by rw [← hW13]; exact D12.out.alloc D12.out.size _)
      have e12 : [fldT [57, 53, 80] TS n.agt, fldT [57, 55, 65] [83, 65, 70, 69] n.oth] = sidesT n := by unfold sidesT; rw [HTS.out]
      rw [e12] at I13
      have c4 := (X.out.later D13.out).py HLC.out
      rw [hpy] at c4
      clear I12 e12 D12
      go_wp2_with fail
      clear c4
      have PT3 : Hid (TG.PT W13 (fun x => W11.heap.size ≤ x ∧ x < W13.heap.size) (.slice (some ⟨W12.heap.size, 0, none⟩) 1 1) (setdT n)) := hide (by
        have h := I13.out.done
        have e : [blkT [83, 69, 84, 80, 82, 84, 89] (sidesT n)] = setdT n := by unfold setdT; rw [hpy]; rfl
        rw [e] at h
        exact h)
      go_ret
      have hs1 := HS5.out
      have hs2 := D10.out.size
      have hs3 := D11.out.size
      have hs4 := D13.out.size
      have hs0 := B5.out.size
      have DW := D10.out.trans ((D11.out.trans (D13.out.mono hs3)).mono hs2)
      have g1 := pt_low w.heap.size (pt_later PG.out DW) (by omega)
      have g2 := pt_low w.heap.size (pt_later PT1.out (D11.out.trans (D13.out.mono hs3))) (by omega)
      have g3 := pt_low w.heap.size (pt_later PT2.out D13.out) (by omega)
      have g4 := pt_low w.heap.size PT3.out (by omega)
      have IF := iw_lit (w := W13) (B := w.heap.size) (k := 4) (c := 4) [(blkT [71, 69, 78, 76] (genlT n ls), .slice a m cap), (blkT [84, 82, 65, 68, 68, 69, 84] (tradT n), .slice (some ⟨w10.heap.size, 0, none⟩) 4 4), (blkT [70, 73, 65, 67] (fiacT n), .slice (some ⟨w11.heap.size, 0, none⟩) 2 2), (blkT [83, 69, 84, 68, 69, 84] (setdT n), .slice (some ⟨W12.heap.size, 0, none⟩) 1 1)] _ _ #[.string ⟨#[]⟩, .string ⟨#[]⟩, .string ⟨#[]⟩, .string ⟨#[71, 69, 78, 76]⟩, .slice a m cap, .string ⟨#[]⟩, .string ⟨#[]⟩, .string ⟨#[]⟩, .string ⟨#[84, 82, 65, 68, 68, 69, 84]⟩, .slice (some ⟨w10.heap.size, 0, none⟩) 4 4, .string ⟨#[]⟩, .string ⟨#[]⟩, .string ⟨#[]⟩, .string ⟨#[70, 73, 65, 67]⟩, .slice (some ⟨w11.heap.size, 0, none⟩) 2 2, .string ⟨#[]⟩, .string ⟨#[]⟩, .string ⟨#[]⟩, .string ⟨#[83, 69, 84, 68, 69, 84]⟩, .slice (some ⟨W12.heap.size, 0, none⟩) 1 1] (by omega) rfl rfl rfl rfl rfl (by omega) (fun p hp => by
        simp only [List.mem_cons, List.not_mem_nil, or_false] at hp
        rcases hp with rfl | rfl | rfl | rfl
        · exact g1
        · exact g2
        · exact g3
        · exact g4)
      have hBE := (B5.out.trans (DW.mono hs0)).alloc (by omega) (.cells #[.string ⟨#[]⟩, .string ⟨#[]⟩, .string ⟨#[]⟩, .string ⟨#[71, 69, 78, 76]⟩, .slice a m cap, .string ⟨#[]⟩, .string ⟨#[]⟩, .string ⟨#[]⟩, .string ⟨#[84, 82, 65, 68, 68, 69, 84]⟩, .slice (some ⟨w10.heap.size, 0, none⟩) 4 4, .string ⟨#[]⟩, .string ⟨#[]⟩, .string ⟨#[]⟩, .string ⟨#[70, 73, 65, 67]⟩, .slice (some ⟨w11.heap.size, 0, none⟩) 2 2, .string ⟨#[]⟩, .string ⟨#[]⟩, .string ⟨#[]⟩, .string ⟨#[83, 69, 84, 68, 69, 84]⟩, .slice (some ⟨W12.heap.size, 0, none⟩) 1 1] 58)
      rw [HML.out, HMT.out]
      exact ⟨⟨_, _, rfl, IF.done⟩, hBE⟩
end Go.Proofs.YtbaideeiljeamaaGreatDoor
