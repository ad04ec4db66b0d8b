/-
  My own text: the first field of a tag and a qualifier.
-/
import Derived.Test.YtklhbhhkooddoaaQK
namespace Go.Proofs.Ytklhbhhkooddoaa
open Go.RowKit

mutual
def fndI (tag qual : List UInt8) : Tr → Option Tr
  | .mk i k => if !i.tag.isEmpty then (if i.tag == tag && i.qual == qual then some (.mk i k) else none) else if i.name.isEmpty then none else fndL tag qual k
def fndL (tag qual : List UInt8) : List Tr → Option Tr
  | [] => none
  | a :: r => match fndI tag qual a with
    | some x => some x
    | none => fndL tag qual r
end
theorem fndI_eq (tag qual : List UInt8) (a : Tr) : fndI tag qual a = if !a.itm.tag.isEmpty then (if a.itm.tag == tag && a.itm.qual == qual then some a else none) else if a.itm.name.isEmpty then none else fndL tag qual a.kids := by cases a; rw [fndI]; rfl
theorem fndL_step {tag qual : List UInt8} {l : List Tr} {k : Nat} {a : Tr} (h : l[k]? = some a) : fndL tag qual (l.drop k) = match fndI tag qual a with
    | some x => some x
    | none => fndL tag qual (l.drop (k + 1)) := by rw [drop_cons h, fndL]
def FO (w w' : World) (e : Ending) : Option Tr → Prop
  | none => e = .returned (.tuple #[.agg (iC ⟨[], [], [], []⟩ (.slice none 0 0)), .bool false])
  | some x => ∃ a cap, e = .returned (.tuple #[.agg (iC x.itm (.slice a x.kids.length cap)), .bool true]) ∧ PA w' (fun g => w.heap.size ≤ g ∧ g < w'.heap.size) (.slice a x.kids.length cap) x.kids
set_option maxRecDepth 100000 in
set_option maxHeartbeats 4000000 in
theorem find_any (tag qual : List UInt8) : ∀ (D : Nat) (l : List Tr) (v : Value) (w : World), wts l ≤ D → D ≤ 1099511627776 → RT w v l →
    Calls Try.prog 7 #[v, .string ⟨tag.toArray⟩, .string ⟨qual.toArray⟩] w fun e w' => FO w w' e (fndL tag qual l) ∧ Below w.heap.size w w' := by
  intro D
  induction D using Nat.strongRecOn with
  | ind D ih =>
    intro l v w hD hD2 hv
    have IH := hide ih
    obtain ⟨a, cap, rfl, hr⟩ := hv
    have HR := hide hr
    have HWL : Hid (wts l ≤ D ∧ D ≤ 1099511627776) := hide ⟨hD, hD2⟩
    clear hr ih
    have hll : l.length ≤ 1099511627776 := by have := wts_len l; omega
    clear hD hD2
    have Y0 := hide (Ix.new w ⟨[], [], [], []⟩ (.slice none 0 0))
    have B0 := hide ((Below.refl w.heap.size w).alloc (Nat.le_refl _) (.cells (iC ⟨[], [], [], []⟩ (.slice none 0 0)) 26))
    unfold iC at Y0 B0
    go_enter Try.func7, Try.ntmps7
    go_wp2_with fail
    go_loopw [14] (fun n wr => ∃ (k : Nat), k ≤ l.length ∧ n = .int .i64 k ∧ Hid (fndL tag qual l = fndL tag qual (l.drop k)) ∧ Hid (Below w.heap.size w wr) ∧ Hid (Ix wr w.heap.size ⟨[], [], [], []⟩ (.slice none 0 0))) (fun n _ => l.length - (intOf n).toNat)
    case atStart => exact ⟨0, Nat.zero_le _, rfl, hide rfl, B0, Y0⟩
    case round =>
      obtain ⟨k, hk, rfl, HF, HB, HY⟩ := hrel
      by_cases hlt : k < l.length
      · obtain ⟨t, ht⟩ : ∃ t, l[k]? = some t := ⟨_, List.getElem?_eq_getElem hlt⟩
        have HFS := hide (HF.out.trans (fndL_step ht))
        have HFI := hide (fndI_eq tag qual t)
        have HWE := hide (wt_eq t)
        have HWA := hide (wts_at ht)
        have HTIO := hide (iok_of HWA.out (by have := HWL.out; omega))
        obtain ⟨bb, off, kv, ha, hbl, c0, c1, c2, c3, c4, hkv⟩ := RT_at HR.out ht
        have c0 := (HB.out.cell (p := ⟨bb, _, none⟩) hbl).trans c0
        have c1 := (HB.out.cell (p := ⟨bb, _, none⟩) hbl).trans c1
        have c2 := (HB.out.cell (p := ⟨bb, _, none⟩) hbl).trans c2
        have c3 := (HB.out.cell (p := ⟨bb, _, none⟩) hbl).trans c3
        have c4 := (HB.out.cell (p := ⟨bb, _, none⟩) hbl).trans c4
        subst ha
        obtain ⟨ka, kcap, rfl, hkr⟩ := hkv
        have HKV : Hid (RT w (.slice ka t.kids.length kcap) t.kids) := hide ⟨ka, kcap, rfl, hkr⟩
        have HIF := hide (fun W : World => isField_any t.itm (.slice ka t.kids.length kcap) W)
        have HIB := hide (fun W : World => isBlock_any t.itm (.slice ka t.kids.length kcap) W)
        have XA := hide (Ix.new wr t.itm (.slice ka t.kids.length kcap))
        have BA := hide ((Below.refl wr.heap.size wr).alloc (Nat.le_refl _) (.cells (iC t.itm (.slice ka t.kids.length kcap)) 26))
        clear hkr ht HF
        unfold iC at XA BA
        go_wp2_with (refine wpList_load_row rfl 26 (.tmp 9) rfl wr.heap.size rfl _ (iC t.itm (.slice ka t.kids.length kcap)) _ _ XA.out Try.underlying26 rfl Try.sizeItm ?_)
        refine (HIF.out _).mono ?_
        rintro e w1 ⟨rfl, hb1⟩
        have X1 := hide (Ix.later XA.out hb1)
        have B1w := hide (BA.out.trans (hb1.mono BA.out.size))
        have B1 := hide (HB.out.trans (B1w.out.mono HB.out.size))
        have Y1 := hide (HY.out.later B1w.out)
        clear hb1 c0 c1 c2 c3 c4 HIF
        have x0 := X1.out.tag trivial
        have x1 := X1.out.qual trivial
        have x4 := X1.out.items trivial
        have step : Hid (∀ (W : World), Below w.heap.size w W → Calls Try.prog 23 #[.agg (iC t.itm (.slice ka t.kids.length kcap))] W fun e w' => (∃ a cap, e = .returned (.agg (iC t.itm (.slice a t.kids.length cap))) ∧ PA w' (fun x => W.heap.size ≤ x ∧ x < w'.heap.size) (.slice a t.kids.length cap) t.kids) ∧ Below W.heap.size W w') := hide (fun W hW => copied_any (wts t.kids) t.itm t.kids (.slice ka t.kids.length kcap) W (Nat.le_refl _) (by have := HWE.out; have := HWA.out; have := HWL.out; omega) HTIO.out (RT_later HKV.out hW))
        cases hte : t.itm.tag.isEmpty with
        | false =>
          rw [hte] at HIB
          try dsimp only [Bool.not_false, Bool.false_and] at HIB
          cases hmt : (t.itm.tag == tag && t.itm.qual == qual) with
          | true =>
            have HFF : Hid (fndL tag qual l = some t) := by show _ = _; rw [HFS.out, HFI.out, hte, hmt]; rfl
            rw [Bool.and_eq_true] at hmt
            obtain ⟨g1, g2⟩ := hmt
            clear HFS HFI hte HIB
            go_wp2_with (refine wpList_load_row rfl 26 (.tmp 9) rfl wr.heap.size rfl _ (iC t.itm (.slice ka t.kids.length kcap)) _ _ X1.out Try.underlying26 rfl Try.sizeItm ?_)
            refine (step.out _ B1.out).mono ?_
            rintro e w3 ⟨⟨qa, qc, rfl, hpt⟩, hb3⟩
            have Y3 := hide (Y1.out.later hb3)
            have B3 := hide (B1.out.trans (hb3.mono B1.out.size))
            have HP3 := hide hpt
            have HWS : Hid (w.heap.size + 1 ≤ w1.heap.size) := by show _ ≤ _; have := Y1.out.lt; omega
            clear hb3 hpt x0 x1 x4
            go_wp2_with (refine wpList_store_row rfl 26 (.tmp 6) _ rfl w.heap.size (iC t.itm (.slice qa t.kids.length qc)) rfl rfl _ _ Y3.out Try.sizeItm rfl (iC_one _ _ _ _) ?_)
            (try simp only [Exit.inBlock, Exit.then])
            refine bodyPost_ret (v := .tuple #[.agg (iC t.itm (.slice qa t.kids.length qc)), .bool true]) ?_ rfl ⟨by rw [HFF.out]; exact ⟨qa, qc, rfl, PA_kept (w := w3) (fun g hg _ => setRow_otherk _ _ _ _ (by have := HWS.out; omega)) (by rw [size_setRow]; exact Nat.le_refl _) (fun g hg hg2 => ⟨by have := HWS.out; omega, by rw [size_setRow]; exact hg2⟩) _ _ _ (Nat.le_refl _) HP3.out⟩, below_setRow B3.out (Nat.le_refl _) _⟩
            exact ret_cell_tmp rfl _ _ w.heap.size 26 (iC t.itm (.slice qa t.kids.length qc)) (0, 0) _ _ rfl rfl (setRow_heap _ _ _ _ _ _ Y3.out) Try.underlying26 rfl Try.sizeItm
          | false =>
            have HFN : Hid (fndL tag qual l = fndL tag qual (l.drop (k + 1))) := by show _ = _; rw [HFS.out, HFI.out, hte, hmt]; rfl
            clear HFS HFI hte step
            cases g1 : t.itm.tag == tag with
            | false =>
              clear hmt
              go_wp2_with (refine wpList_load_row rfl 26 (.tmp 9) rfl wr.heap.size rfl _ (iC t.itm (.slice ka t.kids.length kcap)) _ _ X1.out Try.underlying26 rfl Try.sizeItm ?_)
              refine (HIB.out _).mono ?_
              rintro e w3 ⟨rfl, hb3⟩
              have Y3 := hide (Y1.out.later hb3)
              have B3 := hide (B1.out.trans (hb3.mono B1.out.size))
              clear hb3
              go_wp2_with fail
              go_roundw
              case rel => exact ⟨k + 1, by omega, by go_num, HFN, B3, Y3⟩
              case measure => simp [intOf]; omega
            | true =>
              have g2 : (t.itm.qual == qual) = false := by rw [g1] at hmt; simpa using hmt
              clear hmt
              go_wp2_with (refine wpList_load_row rfl 26 (.tmp 9) rfl wr.heap.size rfl _ (iC t.itm (.slice ka t.kids.length kcap)) _ _ X1.out Try.underlying26 rfl Try.sizeItm ?_)
              refine (HIB.out _).mono ?_
              rintro e w3 ⟨rfl, hb3⟩
              have Y3 := hide (Y1.out.later hb3)
              have B3 := hide (B1.out.trans (hb3.mono B1.out.size))
              clear hb3
              go_wp2_with fail
              go_roundw
              case rel => exact ⟨k + 1, by omega, by go_num, HFN, B3, Y3⟩
              case measure => simp [intOf]; omega
        | true =>
          rw [hte] at HIB
          try dsimp only [Bool.not_true, Bool.true_and] at HIB
          clear step
          cases hne : t.itm.name.isEmpty with
          | true =>
            have HFN : Hid (fndL tag qual l = fndL tag qual (l.drop (k + 1))) := by show _ = _; rw [HFS.out, HFI.out, hte, hne]; rfl
            rw [hne] at HIB
            try dsimp only [Bool.not_true] at HIB
            clear HFS HFI hte hne
            go_wp2_with (refine wpList_load_row rfl 26 (.tmp 9) rfl wr.heap.size rfl _ (iC t.itm (.slice ka t.kids.length kcap)) _ _ X1.out Try.underlying26 rfl Try.sizeItm ?_)
            refine (HIB.out _).mono ?_
            rintro e w3 ⟨rfl, hb3⟩
            have Y3 := hide (Y1.out.later hb3)
            have B3 := hide (B1.out.trans (hb3.mono B1.out.size))
            clear hb3
            go_wp2_with fail
            go_roundw
            case rel => exact ⟨k + 1, by omega, by go_num, HFN, B3, Y3⟩
            case measure => simp [intOf]; omega
          | false =>
            have HFX : Hid (fndL tag qual l = match fndL tag qual t.kids with
              | some x => some x
              | none => fndL tag qual (l.drop (k + 1))) := by show _ = _; rw [HFS.out, HFI.out, hte, hne]; rfl
            rw [hne] at HIB
            try dsimp only [Bool.not_false] at HIB
            have HIH := hide (fun (W : World) (hW : Below w.heap.size w W) => IH.out (wts t.kids) (by have := HWE.out; have := HWA.out; have := HWL.out; omega) t.kids (.slice ka t.kids.length kcap) W (Nat.le_refl _) (by have := HWE.out; have := HWA.out; have := HWL.out; omega) (RT_later HKV.out hW))
            clear HFS HFI hte hne
            go_wp2_with (refine wpList_load_row rfl 26 (.tmp 9) rfl wr.heap.size rfl _ (iC t.itm (.slice ka t.kids.length kcap)) _ _ X1.out Try.underlying26 rfl Try.sizeItm ?_)
            refine (HIB.out _).mono ?_
            rintro e w3 ⟨rfl, hb3⟩
            have X3 := hide (X1.out.later hb3)
            have Y3 := hide (Y1.out.later hb3)
            have B3 := hide (B1.out.trans (hb3.mono B1.out.size))
            clear hb3 x0 x1 x4
            have x4 := X3.out.items trivial
            go_wp2_with fail
            refine (HIH.out _ B3.out).mono ?_
            rintro e w4 ⟨hfo, hb4⟩
            have Y4 := hide (Y3.out.later hb4)
            have B4 := hide (B3.out.trans (hb4.mono B3.out.size))
            have HWS : Hid (w.heap.size + 1 ≤ w3.heap.size) := by show _ ≤ _; have := Y3.out.lt; omega
            clear hb4 x4 HIH
            cases hfk : fndL tag qual t.kids with
            | none =>
              have HFN : Hid (fndL tag qual l = fndL tag qual (l.drop (k + 1))) := by show _ = _; rw [HFX.out, hfk]
              rw [hfk] at hfo
              have hfo' : e = .returned (.tuple #[.agg (iC ⟨[], [], [], []⟩ (.slice none 0 0)), .bool false]) := hfo
              subst hfo'
              clear hfo HFX hfk
              have BW := hide ((Below.refl w4.heap.size w4).alloc (Nat.le_refl _) (.cells (iC ⟨[], [], [], []⟩ (.slice none 0 0)) 26))
              have Y5 := hide (Y4.out.later BW.out)
              have B5 := hide (B4.out.trans (BW.out.mono B4.out.size))
              unfold iC at Y5 B5
              unfold iC
              go_wp2_with fail
              go_roundw
              case rel => exact ⟨k + 1, by omega, by go_num, HFN, B5, Y5⟩
              case measure => simp [intOf]; omega
            | some x =>
              have HFF : Hid (fndL tag qual l = some x) := by show _ = _; rw [HFX.out, hfk]
              rw [hfk] at hfo
              obtain ⟨qa, qc, rfl, hpt⟩ := hfo
              have HP4 := hide hpt
              have BW := hide ((Below.refl w4.heap.size w4).alloc (Nat.le_refl _) (.cells (iC x.itm (.slice qa x.kids.length qc)) 26))
              have Y5 := hide (Y4.out.later BW.out)
              have Z5 := hide (Ix.new w4 x.itm (.slice qa x.kids.length qc))
              have B5 := hide (B4.out.trans (BW.out.mono B4.out.size))
              have HP5 : Hid (PA (w4.alloc (.cells (iC x.itm (.slice qa x.kids.length qc)) 26)) (fun g => w3.heap.size ≤ g ∧ g < (w4.alloc (.cells (iC x.itm (.slice qa x.kids.length qc)) 26)).heap.size) (.slice qa x.kids.length qc) x.kids) := hide (PA_kept (fun g _ hg => BW.out.block g hg) BW.out.size (fun g hg hg2 => ⟨hg.1, Nat.lt_of_lt_of_le hg2 BW.out.size⟩) _ _ _ (Nat.le_refl _) HP4.out)
              clear hpt HFX hfk
              unfold iC at Y5 Z5 B5 HP5
              unfold iC
              go_wp2_with (first
                | (refine wpList_load_row rfl 26 (.tmp 10) rfl w4.heap.size rfl _ (iC x.itm (.slice qa x.kids.length qc)) _ _ Z5.out Try.underlying26 rfl Try.sizeItm ?_)
                | (refine wpList_store_row rfl 26 (.tmp 6) _ rfl w.heap.size (iC x.itm (.slice qa x.kids.length qc)) rfl rfl _ _ Y5.out Try.sizeItm rfl (iC_one _ _ _ _) ?_))
              (try simp only [Exit.inBlock, Exit.then])
              refine bodyPost_ret (v := .tuple #[.agg (iC x.itm (.slice qa x.kids.length qc)), .bool true]) ?_ rfl ⟨by rw [HFF.out]; exact ⟨qa, qc, rfl, PA_kept (w := w4.alloc _) (fun g hg _ => setRow_otherk _ _ _ _ (by have := HWS.out; omega)) (by rw [size_setRow]; exact Nat.le_refl _) (fun g hg hg2 => ⟨by have := HWS.out; omega, by rw [size_setRow]; exact hg2⟩) _ _ _ (Nat.le_refl _) HP5.out⟩, below_setRow B5.out (Nat.le_refl _) _⟩
              exact ret_cell_tmp rfl _ _ w.heap.size 26 (iC x.itm (.slice qa x.kids.length qc)) (0, 0) _ _ rfl rfl (setRow_heap _ _ _ _ _ _ Y5.out) Try.underlying26 rfl Try.sizeItm
      · have hk' : k = l.length := by omega
        subst hk'
        have HFN : Hid (fndL tag qual l = none) := by show _ = _; rw [HF.out, List.drop_of_length_le (Nat.le_refl _), fndL]
        clear HF
        go_wp2_with (refine wpList_store_row rfl 26 (.tmp 6) _ rfl w.heap.size (iC ⟨[], [], [], []⟩ (.slice none 0 0)) rfl rfl _ _ HY.out Try.sizeItm rfl (iC_one _ _ _ _) ?_)
        (try simp only [Exit.inBlock, Exit.then])
        refine bodyPost_ret (v := .tuple #[.agg (iC ⟨[], [], [], []⟩ (.slice none 0 0)), .bool false]) ?_ rfl ⟨by rw [HFN.out]; rfl, below_setRow HB.out (Nat.le_refl _) _⟩
        exact ret_cell_tmp rfl _ _ w.heap.size 26 (iC ⟨[], [], [], []⟩ (.slice none 0 0)) (0, 0) _ _ rfl rfl (setRow_heap _ _ _ _ _ _ HY.out) Try.underlying26 rfl Try.sizeItm
end Go.Proofs.Ytklhbhhkooddoaa
