/-
  My own text: the law of Write of a notice.
-/
import Derived.Test.YtbaideeiljeamaaGreatDoorNM4
import Derived.Test.YtbaideeiljeamaaGreatDoorNG2
import Derived.Test.YtbaideeiljeamaaGreatDoorNP12
import Derived.Test.YtbaideeiljeamaaGreatDoorN10
import Derived.Test.YtbaideeiljeamaaGreatDoorAI4
namespace Go.Proofs.YtbaideeiljeamaaGreatDoor
open Go.RowKit LC

/-- What was written over: one block alone. -/
structure OV (w wr : World) (g k : Nat) : Prop where
  size : wr.heap.size = w.heap.size
  rest : ∀ x, x ≠ g → wr.heap[x]? = w.heap[x]?
  th : wr.there g 0 k
  low : Below g w wr
set_option maxRecDepth 100000 in
set_option maxHeartbeats 4000000 in
theorem nwLaw (n : Ntc) (v : Value) (ls : List Lnk) (w : World) (M : List TG.Tr) (N : Int) (E : Value) (hc : n.code.length = 12) (hv : RL w v ls) (hlen : ls.length ≤ 5864062014805) (hM : TG.wts M ≤ 1048576)
    (HRW : Hid (∀ W : World, RL W v ls → Calls Tryz.prog 4 #[.agg (nC n v)] W fun e w' => (∃ ka kc, e = .returned (.tuple #[.slice ka M.length kc, .int .i64 N]) ∧ TG.PT w' (fun x => W.heap.size ≤ x ∧ x < w'.heap.size) (.slice ka M.length kc) M) ∧ Below W.heap.size W w'))
    (HPW : Hid (∀ (W : World) (la : Option Addr) (lc : Nat), RL W (.slice la ls.length lc) ls → ls.length ≤ lc → Wd W → Hid (LC.HeadOffice W) → Calls Tryz.prog 6 #[.agg (nC n (.slice la ls.length lc))] W fun e w' => (∃ ka kc, e = .returned (.tuple #[.slice ka M.length kc, E]) ∧ TG.PA w' (fun x => W.heap.size ≤ x ∧ x < w'.heap.size) (.slice ka M.length kc) M) ∧ Below W.heap.size W w'))
    (HPL : Hid (∀ W : World, ErrType W → Calls Tryz.prog 7 #[E, .int .i64 N] W fun e w' => e = .returned (.bool true) ∧ Below W.heap.size W w'))
    (HE : Hid (ErrType w)) (HW : Hid (Wd w)) (HO : Hid (LC.HeadOffice w)) :
    Calls Tryz.prog 3 #[.agg (nC n v)] w fun e w' => e = .returned (.bool true) ∧ Below w.heap.size w w' := by
  have HLC := hide hc
  have HSZ : Hid (∀ u : Value, (Tryz.prog.info? 26).map (·.size) = some (nC n u).size) := hide (fun u => by rw [nC_size n u HLC.out]; exact Tryz.sizeNtc)
  have X0 := hide (Bx.new w n v)
  have B0 := hide ((Below.refl w.heap.size w).alloc (Nat.le_refl _) (.cells (nC n v) 26))
  have HV1 : Hid (v.oneCell' = true) := by obtain ⟨a, cap, rfl, _⟩ := hv; exact hide rfl
  have HRL := hide hv
  have HLL := hide (fun (W : World) (h : RL W v ls) => lentLinks_any v ls W h hlen)
  have HKL := hide (fun (W : World) (B g cap : Nat) (h : RL W v ls) (h2 : LentL W B g cap ls) => keptLinks_any v ls B g cap W h h2 hlen)
  have HSM := hide (fun (va vb : Value) (W : World) (h1 : TG.RT W va M) (h2 : TG.RT W vb M) => TG.sameItems_all _ M M va vb W (Nat.le_refl _) (by omega) h1 h2)
  rw [TG.eqL_refl] at HSM
  have HAP := hide (fun (B M1 M2 : Nat) (va vb : Value) (W : World) (h1 : B ≤ M1) (h2 : M1 ≤ M2) (h3 : M2 ≤ W.heap.size) (ha : TG.PA W (fun x => B ≤ x ∧ x < M1) va M) (hb : TG.PA W (fun x => M1 ≤ x ∧ x < M2) vb M) => TG.apart_two h1 h2 h3 hM ha hb)
  have HLEN := hide hlen
  clear hv hc hM hlen
  go_enter Tryz.func3, Tryz.ntmps3
  go_wp2_with (refine wpList_load_row rfl 26 (.tmp 1) rfl w.heap.size rfl _ (nC n v) _ _ X0.out Tryz.underlying26 rfl (HSZ.out v) ?_)
  refine (HRW.out _ (HRL.out.later B0.out)).mono ?_
  rintro e w1 ⟨⟨ka, kc, rfl, hpt⟩, hb1⟩
  have X1 := hide (X0.out.later hb1)
  have B1 := hide (B0.out.trans (hb1.mono B0.out.size))
  have P1 := hide (pt_low w.heap.size hpt B0.out.size)
  have XA := hide (X1.out.alloc (.cells (nC n v) 26))
  have YA := hide (Bx.new w1 n v)
  have A1 := hide ((Below.refl w1.heap.size w1).alloc (Nat.le_refl _) (.cells (nC n v) 26))
  have BA := hide (B1.out.trans (A1.out.mono B1.out.size))
  have zl := XA.out.links HLC.out
  clear hb1 hpt X0 B0 HRW
  go_wp2_with (first
    | (refine wpList_load_row rfl 26 (.tmp 1) rfl w.heap.size rfl _ (nC n v) _ _ X1.out Tryz.underlying26 rfl (HSZ.out v) ?_)
    | (refine wpList_store_row rfl 26 (.tmp 5) _ rfl w1.heap.size (nC n v) rfl rfl _ _ (LC.alloc_new w1 _) (HSZ.out v) (by rw [nC_size n v HLC.out]; rfl) (nC_one n v HV1.out) ?_; rw [setRow1]))
  refine (HLL.out _ (HRL.out.later BA.out)).mono ?_
  rintro e w2 ⟨g, cap, rfl, hlent, hb2⟩
  have X2 := hide (XA.out.later hb2)
  have Y2 := hide (YA.out.later hb2)
  have B2 := hide (BA.out.trans (hb2.mono BA.out.size))
  have D2 := hide (A1.out.trans (hb2.mono A1.out.size))
  have HG2 : Hid (w1.heap.size + 1 ≤ g) := by have := hlent.base; simp at this; exact hide (by omega)
  have HLT := hide hlent
  have S01 := hide B1.out.size
  have HX1 : Hid (w.heap.size < w1.heap.size) := hide X1.out.lt
  clear hb2 XA YA BA zl hlent X1 A1
  have y1 := Y2.out.links HLC.out
  have f1 := frozen_blk Y2.out 26
  have Y3 := hide (Y2.out.set HLC.out (.slice (some ⟨g, 0, none⟩) ls.length cap))
  go_wp2_with (refine wpList_load_row rfl 26 (.tmp 5) rfl w1.heap.size rfl _ (nC n (.slice (some ⟨g, 0, none⟩) ls.length cap)) _ _ Y3.out Tryz.underlying26 rfl (HSZ.out _) ?_)
  have X3 : Hid (Bx (w2.setCell ⟨w1.heap.size, 26, none⟩ (.slice (some ⟨g, 0, none⟩) ls.length cap)) w.heap.size n v) := by
    show Bx _ _ _ _
    unfold Bx; rw [Below.heap_setCell _ _ _ _ (by have := HX1.out; show w.heap.size ≠ w1.heap.size; omega)]; exact X2.out
  have L3 := hide (HLT.out.block (w' := w2.setCell ⟨w1.heap.size, 26, none⟩ (.slice (some ⟨g, 0, none⟩) ls.length cap)) (Below.heap_setCell _ _ _ _ (by have := HG2.out; simp; omega)))
  have B3 := hide (B2.out.setCell (p := ⟨w1.heap.size, 26, none⟩) (by have := S01.out; simpa using this) (.slice (some ⟨g, 0, none⟩) ls.length cap))
  have D3 := hide (D2.out.setCell (p := ⟨w1.heap.size, 26, none⟩) (by simp) (.slice (some ⟨g, 0, none⟩) ls.length cap))
  have HG3 : Hid (g < (w2.setCell ⟨w1.heap.size, 26, none⟩ (.slice (some ⟨g, 0, none⟩) ls.length cap)).heap.size) := hide L3.out.parts.1
  clear X2 Y2 HLT B2 D2 y1 f1
  generalize w2.setCell ⟨w1.heap.size, 26, none⟩ (.slice (some ⟨g, 0, none⟩) ls.length cap) = w3 at *
  have P3 := hide (pt_later P1.out D3.out)
  have HCP : Hid (ls.length ≤ cap) := hide (by have := L3.out.parts.2.1; omega)
  refine (HPW.out _ _ _ L3.out.rl HCP.out (HW.out.later B3.out) (hide (HO.out.below B3.out))).mono ?_
  rintro e w4 ⟨⟨a1, c1, rfl, hpa⟩, hb4⟩
  have X4 := hide (X3.out.later hb4)
  have Y4 := hide (Y3.out.later hb4)
  have L4 := hide (L3.out.later hb4)
  have B4 := hide (B3.out.trans (hb4.mono B3.out.size))
  have S34 := hide hb4.size
  have D4 := hide hb4
  have Q4 := hide hpa
  clear hb4 hpa X3 Y3
  go_wp2_with (refine wpList_load_row rfl 26 (.tmp 5) rfl w1.heap.size rfl _ (nC n (.slice (some ⟨g, 0, none⟩) ls.length cap)) _ _ Y4.out Tryz.underlying26 rfl (HSZ.out _) ?_)
  refine (HPW.out _ _ _ L4.out.rl HCP.out (HW.out.later B4.out) (hide (HO.out.below B4.out))).mono ?_
  rintro e w5 ⟨⟨a2, c2, rfl, hpa⟩, hb5⟩
  have X5 := hide (X4.out.later hb5)
  have L5 := hide (L4.out.later hb5)
  have B5 := hide (B4.out.trans (hb5.mono B4.out.size))
  have D5 := hide (D4.out.trans (hb5.mono D4.out.size))
  have P5 := hide (pt_later P3.out D5.out)
  have P6 := hide (TG.PT_kept (w := w1) (w' := w5) (S := fun x => w.heap.size ≤ x ∧ x < w1.heap.size) (S' := fun x => w.heap.size ≤ x ∧ x < w1.heap.size) (fun x _ hx => (D3.out.trans (D5.out.mono D3.out.size)).block x hx) (D3.out.trans (D5.out.mono D3.out.size)).size (fun _ h _ => h) _ _ _ (Nat.le_refl _) P1.out)
  have S45 := hide hb5.size
  have Q5 := hide (TG.PA_kept (w' := w5) (S' := fun x => w3.heap.size ≤ x ∧ x < w4.heap.size) (fun g _ hg => hb5.block g hg) hb5.size (fun g hg _ => hg) _ _ _ (Nat.le_refl _) Q4.out)
  have R5 := hide hpa
  clear hb5 hpa X4 Y4 L4 B4 Q4 HPW P1 P3 D4
  go_wp2_with fail
  refine (HPL.out _ (HE.out.below B5.out)).mono ?_
  rintro e w6 ⟨rfl, hb⟩
  have G := hide hb
  clear hb
  go_wp2_with fail
  refine (HPL.out _ (HE.out.below (B5.out.trans (G.out.mono B5.out.size)))).mono ?_
  rintro e w7 ⟨rfl, hb⟩
  have G := hide (G.out.trans (hb.mono G.out.size))
  clear hb
  go_wp2_with fail
  refine (HSM.out _ _ _ (TG.RT_later (TG.PT_rt _ _ _ (Nat.le_refl _) Q5.out.1) G.out) (TG.RT_later (TG.PT_rt _ _ _ (Nat.le_refl _) P5.out) G.out)).mono ?_
  rintro e w8 ⟨rfl, hb⟩
  have G := hide (G.out.trans (hb.mono G.out.size))
  clear hb
  go_wp2_with fail
  refine (HSM.out _ _ _ (TG.RT_later (TG.PT_rt _ _ _ (Nat.le_refl _) R5.out.1) G.out) (TG.RT_later (TG.PT_rt _ _ _ (Nat.le_refl _) P5.out) G.out)).mono ?_
  rintro e w9 ⟨rfl, hb⟩
  have G := hide (G.out.trans (hb.mono G.out.size))
  clear hb
  have zl := (X5.out.later G.out).links HLC.out
  go_wp2_with fail
  refine (HKL.out _ _ _ _ (HRL.out.later (B5.out.trans (G.out.mono B5.out.size))) (L5.out.later G.out)).mono ?_
  rintro e w10 ⟨rfl, hb⟩
  have G := hide (G.out.trans (hb.mono G.out.size))
  clear hb zl
  have HTH : Hid (w10.there g 0 (ls.length * 2)) := hide (fun j hj => by
    have hO := (L5.out.later G.out).own
    have hlt : j < (lc (ls ++ marksL)).length := by rw [lc_len, List.length_append]; omega
    have hc := World.ownsRow.cells hO rfl j _ (List.getElem?_eq_getElem hlt)
    rw [Addr.add_lit, Nat.zero_add] at hc
    rw [Nat.zero_add]
    exact ⟨by rw [hc]; rfl, World.ownsRow.frozenAt hO j⟩)
  have HG5 : Hid (g < w3.heap.size) := hide HG3.out
  go_wp2_with fail
  go_loopw [11] (fun i wr => ∃ k : Nat, k ≤ ls.length ∧ i = .int .i64 (k : Int) ∧ Hid (OV w10 wr g (ls.length * 2))) (fun i _ => ls.length - (intOf i).toNat)
  case atStart => exact ⟨0, Nat.zero_le _, rfl, hide ⟨rfl, fun _ _ => rfl, HTH.out, Below.refl _ _⟩⟩
  case round =>
    obtain ⟨k, hk, rfl, OVk⟩ := hrel
    by_cases hlt : k < ls.length
    · have hd1 : decide ((k : Int) < (ls.length : Int)) = true := by rw [decide_eq_true_eq]; omega
      have hbn := HLEN.out
      have hk0 : (0 : Int) ≤ (k : Int) := by omega
      have hk1 : (k : Int) < (ls.length : Int) := by omega
      have HT2 : Hid (wr.there g (k * 2) 2) := hide (fun j hj => by have := OVk.out.th (k * 2 + j) (by omega); rw [Nat.zero_add] at this; exact this)
      have OV2 : Hid (OV w10 (wr.setCells g (k * 2) [.int .i64 9, .string ⟨#[111, 118, 101, 114]⟩]) g (ls.length * 2)) := hide ⟨by rw [TG.sc_size]; exact OVk.out.size, fun x hx => (TG.sc_heap g _ _ _ x hx).trans (OVk.out.rest x hx), World.there_setCells OVk.out.th _ _ _, TG.sc_below (Nat.le_refl _) _ _ _ OVk.out.low⟩
      go_wp2_with (refine wpList_store_mid rfl 39 _ _ rfl g (k * 2) #[.int .i64 9, .string ⟨#[111, 118, 101, 114]⟩] rfl rfl HT2.out Tryz.sizeLnk (by simp [Value.oneCell']) ?_)
      go_roundw
      case rel => exact ⟨k + 1, by omega, by go_num, OV2⟩
      case measure => simp [intOf]; omega
    · have h' : k = ls.length := by omega
      subst h'
      have o1 := OVk.out.size
      have o2 := G.out.size
      have HK : Hid (∀ x, x < w5.heap.size → x ≠ g → wr.heap[x]? = w5.heap[x]?) := hide (fun x hx hne => (OVk.out.rest x hne).trans (G.out.block x hx))
      have PK : Hid (TG.PT wr (fun x => w.heap.size ≤ x ∧ x < w1.heap.size) (.slice ka M.length kc) M) := hide (TG.PT_kept (w := w5) (S := fun x => w.heap.size ≤ x ∧ x < w1.heap.size) (fun x hx hx2 => HK.out x hx2 (by have := HG2.out; omega)) (by omega) (fun _ h _ => h) _ _ _ (Nat.le_refl _) P6.out)
      have QK : Hid (TG.PA wr (fun x => w3.heap.size ≤ x ∧ x < w4.heap.size) (.slice a1 M.length c1) M) := hide (TG.PA_kept (w := w5) (S := fun x => w3.heap.size ≤ x ∧ x < w4.heap.size) (fun x hx hx2 => HK.out x hx2 (by have := HG5.out; omega)) (by omega) (fun _ h _ => h) _ _ _ (Nat.le_refl _) Q5.out)
      have RK : Hid (TG.PA wr (fun x => w4.heap.size ≤ x ∧ x < w5.heap.size) (.slice a2 M.length c2) M) := hide (TG.PA_kept (w := w5) (S := fun x => w4.heap.size ≤ x ∧ x < w5.heap.size) (fun x hx hx2 => HK.out x hx2 (by have := HG5.out; have := S34.out; omega)) (by omega) (fun _ h _ => h) _ _ _ (Nat.le_refl _) R5.out)
      have BK : Hid (Below w.heap.size w wr) := hide ((B5.out.trans (G.out.mono B5.out.size)).trans (OVk.out.low.mono (by have := HG2.out; have := HX1.out; omega)))
      have SK : Hid (w5.heap.size ≤ wr.heap.size) := hide (by omega)
      clear OVk o1 o2 HK P6 P5 Q5 R5 B5 G HTH
      go_wp2_with fail
      refine (HSM.out _ _ _ (TG.PT_rt _ _ _ (Nat.le_refl _) QK.out.1) (TG.PT_rt _ _ _ (Nat.le_refl _) PK.out)).mono ?_
      rintro e w11 ⟨rfl, hb⟩
      have G := hide hb
      clear hb
      go_wp2_with fail
      refine (HSM.out _ _ _ (TG.RT_later (TG.PT_rt _ _ _ (Nat.le_refl _) RK.out.1) G.out) (TG.RT_later (TG.PT_rt _ _ _ (Nat.le_refl _) PK.out) G.out)).mono ?_
      rintro e w12 ⟨rfl, hb⟩
      have G := hide (G.out.trans (hb.mono G.out.size))
      clear hb
      have HA2 := hide (HAP.out w3.heap.size w4.heap.size w5.heap.size (.slice a1 M.length c1) (.slice a2 M.length c2) w12 S34.out S45.out (Nat.le_trans SK.out G.out.size)
        (TG.PA_kept (w' := w12) (fun g _ hg => G.out.block g hg) G.out.size (fun g hg _ => hg) _ _ _ (Nat.le_refl _) QK.out) (TG.PA_kept (w' := w12) (fun g _ hg => G.out.block g hg) G.out.size (fun g hg _ => hg) _ _ _ (Nat.le_refl _) RK.out))
      have B12 := hide (BK.out.trans (G.out.mono BK.out.size))
      have S3 : Hid (w.heap.size ≤ w3.heap.size) := hide B3.out.size
      clear G PK QK RK BK SK
      go_wp2_with fail
      refine HA2.out.mono ?_
      rintro e w13 ⟨rfl, hb⟩
      have B13 := hide (B12.out.trans (hb.mono S3.out))
      clear hb
      go_wp2_with fail
      go_ret
      exact ⟨rfl, B13.out⟩
theorem noticeWrite_law (n : Ntc) (v : Value) (ls : List Lnk) (w : World) (hn : NOk n) (hq1 : n.qty ≤ 9223372036854775807) (ha1 : n.amt ≤ 9223372036854775807) (hv : RL w v ls) (hL : LOk ls) (hlen : ls.length ≤ 5864062014805) (HE : Hid (ErrType w)) (HW : Hid (Wd w)) (HO : Hid (LC.HeadOffice w)) :
    Calls Tryz.prog 3 #[.agg (nC n v)] w fun e w' => e = .returned (.bool true) ∧ Below w.heap.size w w' := by
  have hp : ∀ W : World, ErrType W → Calls Tryz.prog 7 #[errV (noticeE n ls), .int .i64 (noticeE n ls)] W fun e w' => e = .returned (.bool true) ∧ Below W.heap.size W w' := fun W h => by
    have := plain_errV (noticeE n ls) (noticeE n ls) W (noticeE_in n ls).1 (noticeE_in n ls).2 h
    rw [beq_self_eq_true] at this
    exact this
  by_cases h0 : noticeE n ls = 0
  · rw [h0, errV_zero] at hp
    exact nwLaw n v ls w (msgT n ls) 0 .nilIface hn.code hv hlen (msg_small h0 hn.code hq1 ha1)
      (hide (fun W h => refWrite_ok n v ls W hn h0 hL hq1 ha1 h (by omega)))
      (hide (fun W la lc h h1 h2 h3 => nWrite_ok n la lc ls W hn h0 hL hq1 ha1 h h1 h2 h3)) (hide hp) HE HW HO
  · refine nwLaw n v ls w [] (noticeE n ls) (errV (noticeE n ls)) hn.code hv hlen (by simp [TG.wts])
      (hide (fun W h => (refWrite_bad n v ls W hn h0 hL h (by omega)).mono ?_))
      (hide (fun W la lc h h1 h2 h3 => (nWrite_bad n _ ls W hn h0 hL h (by omega) (hide h2.days) h3).mono ?_)) (hide hp) HE HW HO
    · rintro e w' ⟨rfl, hb⟩
      exact ⟨⟨none, 0, rfl, pt_nil _ _⟩, hb⟩
    · rintro e w' ⟨rfl, hb⟩
      exact ⟨⟨none, 0, rfl, TG.PA.nil _ _⟩, hb⟩
end Go.Proofs.YtbaideeiljeamaaGreatDoor
