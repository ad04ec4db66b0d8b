/-
  My own text: QK, QN, QC in one.
-/
import Derived.Test.YtpkgaidnpooahaaGreatDoorQ8
import Derived.Test.YtpkgaidnpooahaaGreatDoorQA2
import Derived.Test.YtpkgaidnpooahaaGreatDoorT7
namespace Go.Proofs.YtpkgaidnpooahaaGreatDoor
open Go.RowKit

theorem clone_all (T : List UInt8) (w : World) (hT : T.length ≤ 140737488355328) :
    Calls Tryz.prog 19 #[.string ⟨T.toArray⟩] w fun e w' => e = .returned (.string ⟨T.toArray⟩) ∧ Below w.heap.size w w' := by
  have HC := hide (Tryz.stringslite_Clone ⟨T.toArray⟩ w (by rw [bytes_size]; omega))
  go_enter Tryz.func19, Tryz.ntmps19
  go_wp2_with fail
  refine HC.out.mono ?_
  rintro e w1 ⟨rfl, hb1⟩
  go_wp2_with fail
  go_ret
  exact ⟨rfl, hb1⟩
theorem setRow_otherk (w : World) (g : Nat) (cs : Array Value) (k : Nat) (h : k ≠ g) : (w.setRow g cs).heap[k]? = w.heap[k]? := by
  simp only [World.setRow, Array.getElem?_modify]
  rw [if_neg (fun e => h e.symm)]
/-- Copies of items so far: a row of the call's own, in new memory. -/
structure CW (w : World) (wr : World) (v : Value) (l : List Tr) (V : List Value) : Prop where
  iw : IWA wr (w.heap.size + 2) v l V
  bl : Below w.heap.size w wr
theorem CW.later {w wr w1 : World} {v : Value} {l : List Tr} {V : List Value} (h : CW w wr v l V) (hb : Below wr.heap.size wr w1) : CW w w1 v l V := ⟨h.iw.later hb, h.bl.trans (hb.mono h.bl.size)⟩
theorem CW.snoc {w w0 wr w1 : World} {lo : Nat} {v v' u : Value} {l : List Tr} {V : List Value} {a : Tr} (h : CW w wr v l V) (hO : w1.ownsRow (w.heap.size + 2) 25 5 v' (l.length + 1) (ic l V ++ (iC a.itm u).toList)) (hg : wr.grownBy w1 v.ownBlock) (hr : ∀ x, v'.ownBlock = some x → v.ownBlock = some x ∨ wr.heap.size ≤ x)
    (h0 : CW w w0 v l V) (hk0 : Below w0.heap.size w0 wr) (hw0 : w0.heap.size ≤ lo) (hlo : w.heap.size + 2 ≤ lo) (hv : ∀ x, v.ownBlock = some x → x < lo) (hu : PA wr (fun x => lo ≤ x ∧ x < wr.heap.size) u a.kids) : CW w w1 v' (l ++ [a]) (V ++ [u]) :=
  ⟨h.iw.snoc h0.iw (fun g _ hg => hk0.block g hg) hk0.size hw0 hO (fun x hx hne => hg.block x hx (fun e => hne e.symm)) hg.size hr hlo hv hu, h.bl.grown hg h.bl.size (fun q hq => by have := (own_ltq h.iw.row q hq).1; omega)⟩
theorem grown_keeps {w wr w1 : World} {v : Value} {l : List Tr} {V : List Value} (h : CW w wr v l V) (hg : wr.grownBy w1 v.ownBlock) {x : Nat} (hx : x < wr.heap.size) (h2 : x < w.heap.size + 2) : w1.heap[x]? = wr.heap[x]? := hg.block x hx (fun e => by have := (own_ltq h.iw.row x e.symm).1; omega)
set_option maxRecDepth 100000 in
set_option maxHeartbeats 4000000 in
theorem copied_any : ∀ (D : Nat) (i : Itm) (l : List Tr) (v : Value) (w : World), wts l ≤ D → D ≤ 1099511627776 → IOk i → RT w v l →
    Calls Tryz.prog 47 #[.agg (iC i v)] w fun e w' => (∃ a cap, e = .returned (.agg (iC i (.slice a l.length cap))) ∧ PA w' (fun x => w.heap.size ≤ x ∧ x < w'.heap.size) (.slice a l.length cap) l) ∧ Below w.heap.size w w' := by
  intro D
  induction D using Nat.strongRecOn with
  | ind D ih =>
    intro i l v w hD hD2 hio hv
    have IH := hide ih
    have HIO := hide hio
    obtain ⟨a, cap, rfl, hr⟩ := hv
    have HR := hide hr
    have HWL : Hid (wts l ≤ D ∧ D ≤ 1099511627776) := hide ⟨hD, hD2⟩
    clear hr ih hio
    have hll : l.length ≤ 1099511627776 := by have := wts_len l; omega
    clear hD hD2
    have X0 := hide ((Ix.new w i (.slice a l.length cap)).alloc (.cells #[.string ⟨#[]⟩, .string ⟨#[]⟩, .string ⟨#[]⟩, .string ⟨#[]⟩, .slice none 0 0] 25))
    have Y0 : Hid (Ix ((w.alloc (.cells (iC i (.slice a l.length cap)) 25)).alloc (.cells #[.string ⟨#[]⟩, .string ⟨#[]⟩, .string ⟨#[]⟩, .string ⟨#[]⟩, .slice none 0 0] 25)) (w.heap.size + 1) ⟨[], [], [], []⟩ (.slice none 0 0)) := hide (alloc2_newq w _ _)
    have C0 : Hid (CW w ((w.alloc (.cells (iC i (.slice a l.length cap)) 25)).alloc (.cells #[.string ⟨#[]⟩, .string ⟨#[]⟩, .string ⟨#[]⟩, .string ⟨#[]⟩, .slice none 0 0] 25)) (.slice none 0 0) [] []) := hide ⟨IWA.nil _ _, ((Below.refl w.heap.size w).alloc (Nat.le_refl _) _).alloc (by simp) _⟩
    go_enter Tryz.func47, Tryz.ntmps47
    unfold iC at X0 Y0 C0
    unfold iC
    go_wp2_with fail
    go_loopw [3, 9] (fun u n wr => ∃ (k : Nat) (V : List Value), k ≤ l.length ∧ n = .int .i64 k ∧ Hid (CW w wr u (l.take k) V) ∧ Hid (Ix wr w.heap.size i (.slice a l.length cap)) ∧ Hid (Ix wr (w.heap.size + 1) ⟨[], [], [], []⟩ (.slice none 0 0))) (fun _ n _ => l.length - (intOf n).toNat)
    case atStart => exact ⟨0, [], Nat.zero_le _, rfl, C0, X0, Y0⟩
    case round =>
      obtain ⟨k, V, hk, rfl, HC, HX, HY⟩ := hrel
      by_cases hlt : k < l.length
      · obtain ⟨t, ht⟩ : ∃ t, l[k]? = some t := ⟨_, List.getElem?_eq_getElem hlt⟩
        have HTK : Hid (l.take (k + 1) = l.take k ++ [t]) := hide (by rw [List.take_add_one, ht]; rfl)
        have HWE := hide (wt_eq t)
        have HWA := hide (wts_at ht)
        have HTIO := hide (iok_of HWA.out (by have := HWL.out; omega))
        obtain ⟨bb, off, kv, ha, hbl, c0, c1, c2, c3, c4, hkv⟩ := RT_at HR.out ht
        have c0 := (HC.out.bl.cell (p := ⟨bb, _, none⟩) hbl).trans c0
        have c1 := (HC.out.bl.cell (p := ⟨bb, _, none⟩) hbl).trans c1
        have c2 := (HC.out.bl.cell (p := ⟨bb, _, none⟩) hbl).trans c2
        have c3 := (HC.out.bl.cell (p := ⟨bb, _, none⟩) hbl).trans c3
        have c4 := (HC.out.bl.cell (p := ⟨bb, _, none⟩) hbl).trans c4
        subst ha
        obtain ⟨ka, kcap, rfl, hkr⟩ := hkv
        have HKV : Hid (RT w (.slice ka t.kids.length kcap) t.kids) := hide ⟨ka, kcap, rfl, hkr⟩
        have HIH := hide (fun (W : World) (hW : Below w.heap.size w W) => IH.out (wts t.kids) (by have := HWE.out; have := HWA.out; have := HWL.out; omega) t.itm t.kids (.slice ka t.kids.length kcap) W (Nat.le_refl _) (by have := HWE.out; have := HWA.out; have := HWL.out; omega) HTIO.out (RT_later HKV.out hW))
        have XA := hide (Ix.new wr t.itm (.slice ka t.kids.length kcap))
        have BA := hide ((Below.refl wr.heap.size wr).alloc (Nat.le_refl _) (.cells (iC t.itm (.slice ka t.kids.length kcap)) 25))
        have HLT : Hid ((l.take k).length = k) := hide (by rw [List.length_take]; omega)
        clear hkr ht
        unfold iC at XA BA
        go_wp2_with (refine wpList_load_row rfl 25 (.tmp 5) rfl wr.heap.size rfl _ (iC t.itm (.slice ka t.kids.length kcap)) _ _ XA.out Tryz.underlying25 rfl Tryz.sizeItm ?_)
        refine (HIH.out _ (HC.out.bl.trans (BA.out.mono HC.out.bl.size))).mono ?_
        rintro e w6 ⟨⟨qa, qc, rfl, hpt⟩, hb6⟩
        have B6 := hide (BA.out.trans (hb6.mono BA.out.size))
        have C6 := hide (HC.out.later B6.out)
        have X6 := hide (HX.out.later B6.out)
        have Y6 := hide (HY.out.later B6.out)
        have HPT := hide hpt
        have HVL : Hid (∀ x, u3.ownBlock = some x → x < wr.heap.size + 1) := hide (fun x hx => by have := (own_ltq HC.out.iw.row x hx).2; omega)
        have HWS : Hid (w.heap.size + 2 ≤ wr.heap.size + 1) := by show _ ≤ _; have := HY.out.lt; omega
        clear hb6 hpt c0 c1 c2 c3 c4 HIH
        unfold iC
        have HOW := hide C6.out.iw.row
        rw [HLT.out] at HOW
        go_wp2_with (at_builtin; refine wp_append_itm rfl _ _ rfl (w.heap.size + 2) _ k _ rfl (HOW.out.alloc _) _ 1 1 [.string ⟨t.itm.tag.toArray⟩, .string ⟨t.itm.qual.toArray⟩, .string ⟨t.itm.text.toArray⟩, .string ⟨t.itm.name.toArray⟩, .slice qa t.kids.length qc] rfl rfl (by decide) ?c1 ?c2 ?c3 ?c4 ?_)
        case c1 =>
          intro j u hj
          match j, hj with
          | 0, hj => simp at hj; subst hj; simp [Addr.add]
          | 1, hj => simp at hj; subst hj; simp [Addr.add]
          | 2, hj => simp at hj; subst hj; simp [Addr.add]
          | 3, hj => simp at hj; subst hj; simp [Addr.add]
          | 4, hj => simp at hj; subst hj; simp [Addr.add]
        case c2 => intro u hu; simp at hu; rcases hu with rfl | rfl | rfl | rfl | rfl <;> rfl
        case c3 => have := Y6.out.lt; simp; omega
        case c4 => omega
        intro v' w7 hown' hgrow hfresh
        have BB := hide ((Below.refl w6.heap.size w6).alloc (Nat.le_refl _) (.cells #[.string ⟨t.itm.tag.toArray⟩, .string ⟨t.itm.qual.toArray⟩, .string ⟨t.itm.text.toArray⟩, .string ⟨t.itm.name.toArray⟩, .slice qa t.kids.length qc] 25))
        have C7 := hide ((C6.out.later BB.out).snoc (a := t) (u := .slice qa t.kids.length qc) (lo := wr.heap.size + 1) (by rw [HLT.out]; exact hown') hgrow (fun x hx => (hfresh x hx).imp id (fun h => by simpa using h)) HC.out (B6.out.trans (BB.out.mono B6.out.size)) (Nat.le_succ _) HWS.out HVL.out (PA_kept (fun g hg hg2 => BB.out.block g hg2) BB.out.size (fun g hg hg2 => ⟨by have := hg.1; simp at this; omega, Nat.lt_of_lt_of_le hg2 BB.out.size⟩) _ _ _ (Nat.le_refl _) HPT.out))
        have X7 : Hid (Ix w7 w.heap.size i (.slice (some ⟨bb, off, none⟩) l.length cap)) := hide ((grown_keeps (C6.out.later BB.out) hgrow (X6.out.later BB.out).lt (by omega)).trans (X6.out.later BB.out))
        have Y7 : Hid (Ix w7 (w.heap.size + 1) ⟨[], [], [], []⟩ (.slice none 0 0)) := hide ((grown_keeps (C6.out.later BB.out) hgrow (Y6.out.later BB.out).lt (by omega)).trans (Y6.out.later BB.out))
        rw [← HTK.out] at C7
        clear hown' hgrow hfresh BB
        go_wp2_with fail
        go_roundw
        case rel => exact ⟨k + 1, _, by omega, by go_num, C7, X7, Y7⟩
        case measure => simp [intOf]; omega
      · have hk' : k = l.length := by omega
        subst hk'
        rw [List.take_length] at HC
        obtain ⟨qa, qc, hv, _⟩ := HC.out.iw.done.1
        subst hv
        have HPT : Hid (PA wr (fun x => w.heap.size + 2 ≤ x ∧ x < wr.heap.size) (.slice qa l.length qc) l) := hide HC.out.iw.done
        have HB := hide HC.out.bl
        clear HC
        have K1 := hide (fun (W : World) => clone_all i.tag W HIO.out.tag)
        have K2 := hide (fun (W : World) => clone_all i.qual W HIO.out.qual)
        have K3 := hide (fun (W : World) => clone_all i.text W HIO.out.text)
        have K4 := hide (fun (W : World) => clone_all i.name W HIO.out.name)
        have x0 := HX.out.tag trivial
        have x1 := HX.out.qual trivial
        have x2 := HX.out.text trivial
        have x3 := HX.out.name trivial
        have HXL := hide HX.out.lt
        have HG0 := hide ((Below.refl wr.heap.size wr).drew)
        have y0 : ∀ x : Gq wr, x.1.cell? ⟨w.heap.size, 0, none⟩ = some (.string ⟨i.tag.toArray⟩) := fun x => (x.2.cell (p := ⟨w.heap.size, 0, none⟩) HXL.out).trans x0
        have y1 : ∀ x : Gq wr, x.1.cell? ⟨w.heap.size, 1, none⟩ = some (.string ⟨i.qual.toArray⟩) := fun x => (x.2.cell (p := ⟨w.heap.size, 1, none⟩) HXL.out).trans x1
        have y2 : ∀ x : Gq wr, x.1.cell? ⟨w.heap.size, 2, none⟩ = some (.string ⟨i.text.toArray⟩) := fun x => (x.2.cell (p := ⟨w.heap.size, 2, none⟩) HXL.out).trans x2
        have y3 : ∀ x : Gq wr, x.1.cell? ⟨w.heap.size, 3, none⟩ = some (.string ⟨i.name.toArray⟩) := fun x => (x.2.cell (p := ⟨w.heap.size, 3, none⟩) HXL.out).trans x3
        clear x0 x1 x2 x3
        go_wp2_with fail
        haveI : Nonempty (Gq wr) := ⟨⟨_, HG0.out⟩⟩
        refine region_qtail (C := fun w' => ∃ x : Gq wr, w' = x.1) 14 rfl rfl (by kernel_rfl) (by kernel_rfl) ⟨⟨_, HG0.out⟩, rfl⟩ ?_
        simp only [List.take_succ_cons, List.take_zero]
        repeat (first
          | go_big_quiet_skip
          | (go_big_quiet_want; (go_big_quiet_op; first
              | go_big_quiet_on
              | (apply Exists.intro; refine ⟨fun x => ?_, ?_⟩; (go_at_call 19; first | exact x.call (K1.out x.1) | exact x.call (K2.out x.1) | exact x.call (K3.out x.1) | exact x.call (K4.out x.1)); go_big_quiet_on))))
        refine wpQuiet_nil ?_
        rintro w3 ⟨x, rfl⟩
        obtain ⟨w3, hw3⟩ := x
        have Y3 : Hid (Ix w3 (w.heap.size + 1) ⟨[], [], [], []⟩ (.slice none 0 0)) := hide ((hw3.block _ HY.out.lt).trans HY.out)
        have B3 := hide (HB.out.trans (hw3.mono HB.out.size))
        have HP3 : Hid (PA w3 (fun x => w.heap.size + 2 ≤ x ∧ x < w3.heap.size) (.slice qa l.length qc) l) := hide (PA_kept (fun g _ hg => hw3.block g hg) hw3.size (fun g hg hg2 => ⟨hg.1, Nat.lt_of_lt_of_le hg2 hw3.size⟩) _ _ _ (Nat.le_refl _) HPT.out)
        dsimp only
        clear hw3 y0 y1 y2 y3 this HG0
        go_wp2_with (refine wpList_store_row rfl 25 (.tmp 2) _ rfl (w.heap.size + 1) (iC i (.slice qa l.length qc)) rfl rfl _ _ Y3.out Tryz.sizeItm rfl (iC_one _ _ _ _) ?_)
        (try simp only [Exit.inBlock, Exit.then])
        refine bodyPost_ret (v := .agg (iC i (.slice qa l.length qc))) ?_ rfl ⟨⟨qa, qc, rfl, PA_kept (w := w3) (fun g hg _ => setRow_otherk _ _ _ _ (by omega)) (by rw [size_setRow]; exact Nat.le_refl _) (fun g hg hg2 => ⟨by omega, by rw [size_setRow]; exact hg2⟩) _ _ _ (Nat.le_refl _) HP3.out⟩, below_setRow B3.out (by omega) _⟩
        exact results_cell_row rfl _ _ (w.heap.size + 1) 25 (iC i (.slice qa l.length qc)) (0, 0) _ rfl (setRow_heap _ _ _ _ _ _ Y3.out) Tryz.underlying25 rfl Tryz.sizeItm
end Go.Proofs.YtpkgaidnpooahaaGreatDoor
namespace Go.Proofs.YtpkgaidnpooahaaGreatDoor
open Go.RowKit

mutual
def fndI (tag qual : List UInt8) : Tr → Option Tr
  | .mk i k => if !i.tag.isEmpty then (if i.tag == tag && i.qual == qual then some (.mk i k) else none) else if i.name.isEmpty then none else fndL tag qual k
def fndL (tag qual : List UInt8) : List Tr → Option Tr
  | [] => none
  | a :: r => match fndI tag qual a with
    | some x => some x
    | none => fndL tag qual r
end
theorem fndI_eq (tag qual : List UInt8) (a : Tr) : fndI tag qual a = if !a.itm.tag.isEmpty then (if a.itm.tag == tag && a.itm.qual == qual then some a else none) else if a.itm.name.isEmpty then none else fndL tag qual a.kids := by cases a; rw [fndI]; rfl
theorem fndL_step {tag qual : List UInt8} {l : List Tr} {k : Nat} {a : Tr} (h : l[k]? = some a) : fndL tag qual (l.drop k) = match fndI tag qual a with
    | some x => some x
    | none => fndL tag qual (l.drop (k + 1)) := by rw [drop_cons h, fndL]
def FO (w w' : World) (e : Ending) : Option Tr → Prop
  | none => e = .returned (.tuple #[.agg (iC ⟨[], [], [], []⟩ (.slice none 0 0)), .bool false])
  | some x => ∃ a cap, e = .returned (.tuple #[.agg (iC x.itm (.slice a x.kids.length cap)), .bool true]) ∧ PA w' (fun g => w.heap.size ≤ g ∧ g < w'.heap.size) (.slice a x.kids.length cap) x.kids
set_option maxRecDepth 100000 in
set_option maxHeartbeats 4000000 in
theorem find_any (tag qual : List UInt8) : ∀ (D : Nat) (l : List Tr) (v : Value) (w : World), wts l ≤ D → D ≤ 1099511627776 → RT w v l →
    Calls Tryz.prog 23 #[v, .string ⟨tag.toArray⟩, .string ⟨qual.toArray⟩] w fun e w' => FO w w' e (fndL tag qual l) ∧ Below w.heap.size w w' := by
  intro D
  induction D using Nat.strongRecOn with
  | ind D ih =>
    intro l v w hD hD2 hv
    have IH := hide ih
    obtain ⟨a, cap, rfl, hr⟩ := hv
    have HR := hide hr
    have HWL : Hid (wts l ≤ D ∧ D ≤ 1099511627776) := hide ⟨hD, hD2⟩
    clear hr ih
    have hll : l.length ≤ 1099511627776 := by have := wts_len l; omega
    clear hD hD2
    have Y0 := hide (Ix.new w ⟨[], [], [], []⟩ (.slice none 0 0))
    have B0 := hide ((Below.refl w.heap.size w).alloc (Nat.le_refl _) (.cells (iC ⟨[], [], [], []⟩ (.slice none 0 0)) 25))
    unfold iC at Y0 B0
    go_enter Tryz.func23, Tryz.ntmps23
    go_wp2_with fail
    go_loopw [14] (fun n wr => ∃ (k : Nat), k ≤ l.length ∧ n = .int .i64 k ∧ Hid (fndL tag qual l = fndL tag qual (l.drop k)) ∧ Hid (Below w.heap.size w wr) ∧ Hid (Ix wr w.heap.size ⟨[], [], [], []⟩ (.slice none 0 0))) (fun n _ => l.length - (intOf n).toNat)
    case atStart => exact ⟨0, Nat.zero_le _, rfl, hide rfl, B0, Y0⟩
    case round =>
      obtain ⟨k, hk, rfl, HF, HB, HY⟩ := hrel
      by_cases hlt : k < l.length
      · obtain ⟨t, ht⟩ : ∃ t, l[k]? = some t := ⟨_, List.getElem?_eq_getElem hlt⟩
        have HFS := hide (HF.out.trans (fndL_step ht))
        have HFI := hide (fndI_eq tag qual t)
        have HWE := hide (wt_eq t)
        have HWA := hide (wts_at ht)
        have HTIO := hide (iok_of HWA.out (by have := HWL.out; omega))
        obtain ⟨bb, off, kv, ha, hbl, c0, c1, c2, c3, c4, hkv⟩ := RT_at HR.out ht
        have c0 := (HB.out.cell (p := ⟨bb, _, none⟩) hbl).trans c0
        have c1 := (HB.out.cell (p := ⟨bb, _, none⟩) hbl).trans c1
        have c2 := (HB.out.cell (p := ⟨bb, _, none⟩) hbl).trans c2
        have c3 := (HB.out.cell (p := ⟨bb, _, none⟩) hbl).trans c3
        have c4 := (HB.out.cell (p := ⟨bb, _, none⟩) hbl).trans c4
        subst ha
        obtain ⟨ka, kcap, rfl, hkr⟩ := hkv
        have HKV : Hid (RT w (.slice ka t.kids.length kcap) t.kids) := hide ⟨ka, kcap, rfl, hkr⟩
        have HIF := hide (fun W : World => isField_any t.itm (.slice ka t.kids.length kcap) W)
        have HIB := hide (fun W : World => isBlock_any t.itm (.slice ka t.kids.length kcap) W)
        have XA := hide (Ix.new wr t.itm (.slice ka t.kids.length kcap))
        have BA := hide ((Below.refl wr.heap.size wr).alloc (Nat.le_refl _) (.cells (iC t.itm (.slice ka t.kids.length kcap)) 25))
        clear hkr ht HF
        unfold iC at XA BA
        go_wp2_with (refine wpList_load_row rfl 25 (.tmp 9) rfl wr.heap.size rfl _ (iC t.itm (.slice ka t.kids.length kcap)) _ _ XA.out Tryz.underlying25 rfl Tryz.sizeItm ?_)
        refine (HIF.out _).mono ?_
        rintro e w1 ⟨rfl, hb1⟩
        have X1 := hide (Ix.later XA.out hb1)
        have B1w := hide (BA.out.trans (hb1.mono BA.out.size))
        have B1 := hide (HB.out.trans (B1w.out.mono HB.out.size))
        have Y1 := hide (HY.out.later B1w.out)
        clear hb1 c0 c1 c2 c3 c4 HIF
        have x0 := X1.out.tag trivial
        have x1 := X1.out.qual trivial
        have x4 := X1.out.items trivial
        have step : Hid (∀ (W : World), Below w.heap.size w W → Calls Tryz.prog 47 #[.agg (iC t.itm (.slice ka t.kids.length kcap))] W fun e w' => (∃ a cap, e = .returned (.agg (iC t.itm (.slice a t.kids.length cap))) ∧ PA w' (fun x => W.heap.size ≤ x ∧ x < w'.heap.size) (.slice a t.kids.length cap) t.kids) ∧ Below W.heap.size W w') := hide (fun W hW => copied_any (wts t.kids) t.itm t.kids (.slice ka t.kids.length kcap) W (Nat.le_refl _) (by have := HWE.out; have := HWA.out; have := HWL.out; omega) HTIO.out (RT_later HKV.out hW))
        cases hte : t.itm.tag.isEmpty with
        | false =>
          rw [hte] at HIB
          try dsimp only [Bool.not_false, Bool.false_and] at HIB
          cases hmt : (t.itm.tag == tag && t.itm.qual == qual) with
          | true =>
            have HFF : Hid (fndL tag qual l = some t) := by show _ = _; rw [HFS.out, HFI.out, hte, hmt]; rfl
            rw [Bool.and_eq_true] at hmt
            obtain ⟨g1, g2⟩ := hmt
            clear HFS HFI hte HIB
            go_wp2_with (refine wpList_load_row rfl 25 (.tmp 9) rfl wr.heap.size rfl _ (iC t.itm (.slice ka t.kids.length kcap)) _ _ X1.out Tryz.underlying25 rfl Tryz.sizeItm ?_)
            refine (step.out _ B1.out).mono ?_
            rintro e w3 ⟨⟨qa, qc, rfl, hpt⟩, hb3⟩
            have Y3 := hide (Y1.out.later hb3)
            have B3 := hide (B1.out.trans (hb3.mono B1.out.size))
            have HP3 := hide hpt
            have HWS : Hid (w.heap.size + 1 ≤ w1.heap.size) := by show _ ≤ _; have := Y1.out.lt; omega
            clear hb3 hpt x0 x1 x4
            go_wp2_with (refine wpList_store_row rfl 25 (.tmp 6) _ rfl w.heap.size (iC t.itm (.slice qa t.kids.length qc)) rfl rfl _ _ Y3.out Tryz.sizeItm rfl (iC_one _ _ _ _) ?_)
            (try simp only [Exit.inBlock, Exit.then])
            refine bodyPost_ret (v := .tuple #[.agg (iC t.itm (.slice qa t.kids.length qc)), .bool true]) ?_ rfl ⟨by rw [HFF.out]; exact ⟨qa, qc, rfl, PA_kept (w := w3) (fun g hg _ => setRow_otherk _ _ _ _ (by have := HWS.out; omega)) (by rw [size_setRow]; exact Nat.le_refl _) (fun g hg hg2 => ⟨by have := HWS.out; omega, by rw [size_setRow]; exact hg2⟩) _ _ _ (Nat.le_refl _) HP3.out⟩, below_setRow B3.out (Nat.le_refl _) _⟩
            exact ret_cell_tmp rfl _ _ w.heap.size 25 (iC t.itm (.slice qa t.kids.length qc)) (0, 0) _ _ rfl rfl (setRow_heap _ _ _ _ _ _ Y3.out) Tryz.underlying25 rfl Tryz.sizeItm
          | false =>
            have HFN : Hid (fndL tag qual l = fndL tag qual (l.drop (k + 1))) := by show _ = _; rw [HFS.out, HFI.out, hte, hmt]; rfl
            clear HFS HFI hte step
            cases g1 : t.itm.tag == tag with
            | false =>
              clear hmt
              go_wp2_with (refine wpList_load_row rfl 25 (.tmp 9) rfl wr.heap.size rfl _ (iC t.itm (.slice ka t.kids.length kcap)) _ _ X1.out Tryz.underlying25 rfl Tryz.sizeItm ?_)
              refine (HIB.out _).mono ?_
              rintro e w3 ⟨rfl, hb3⟩
              have Y3 := hide (Y1.out.later hb3)
              have B3 := hide (B1.out.trans (hb3.mono B1.out.size))
              clear hb3
              go_wp2_with fail
              go_roundw
              case rel => exact ⟨k + 1, by omega, by go_num, HFN, B3, Y3⟩
              case measure => simp [intOf]; omega
            | true =>
              have g2 : (t.itm.qual == qual) = false := by rw [g1] at hmt; simpa using hmt
              clear hmt
              go_wp2_with (refine wpList_load_row rfl 25 (.tmp 9) rfl wr.heap.size rfl _ (iC t.itm (.slice ka t.kids.length kcap)) _ _ X1.out Tryz.underlying25 rfl Tryz.sizeItm ?_)
              refine (HIB.out _).mono ?_
              rintro e w3 ⟨rfl, hb3⟩
              have Y3 := hide (Y1.out.later hb3)
              have B3 := hide (B1.out.trans (hb3.mono B1.out.size))
              clear hb3
              go_wp2_with fail
              go_roundw
              case rel => exact ⟨k + 1, by omega, by go_num, HFN, B3, Y3⟩
              case measure => simp [intOf]; omega
        | true =>
          rw [hte] at HIB
          try dsimp only [Bool.not_true, Bool.true_and] at HIB
          clear step
          cases hne : t.itm.name.isEmpty with
          | true =>
            have HFN : Hid (fndL tag qual l = fndL tag qual (l.drop (k + 1))) := by show _ = _; rw [HFS.out, HFI.out, hte, hne]; rfl
            rw [hne] at HIB
            try dsimp only [Bool.not_true] at HIB
            clear HFS HFI hte hne
            go_wp2_with (refine wpList_load_row rfl 25 (.tmp 9) rfl wr.heap.size rfl _ (iC t.itm (.slice ka t.kids.length kcap)) _ _ X1.out Tryz.underlying25 rfl Tryz.sizeItm ?_)
            refine (HIB.out _).mono ?_
            rintro e w3 ⟨rfl, hb3⟩
            have Y3 := hide (Y1.out.later hb3)
            have B3 := hide (B1.out.trans (hb3.mono B1.out.size))
            clear hb3
            go_wp2_with fail
            go_roundw
            case rel => exact ⟨k + 1, by omega, by go_num, HFN, B3, Y3⟩
            case measure => simp [intOf]; omega
          | false =>
            have HFX : Hid (fndL tag qual l = match fndL tag qual t.kids with
              | some x => some x
              | none => fndL tag qual (l.drop (k + 1))) := by show _ = _; rw [HFS.out, HFI.out, hte, hne]; rfl
            rw [hne] at HIB
            try dsimp only [Bool.not_false] at HIB
            have HIH := hide (fun (W : World) (hW : Below w.heap.size w W) => IH.out (wts t.kids) (by have := HWE.out; have := HWA.out; have := HWL.out; omega) t.kids (.slice ka t.kids.length kcap) W (Nat.le_refl _) (by have := HWE.out; have := HWA.out; have := HWL.out; omega) (RT_later HKV.out hW))
            clear HFS HFI hte hne
            go_wp2_with (refine wpList_load_row rfl 25 (.tmp 9) rfl wr.heap.size rfl _ (iC t.itm (.slice ka t.kids.length kcap)) _ _ X1.out Tryz.underlying25 rfl Tryz.sizeItm ?_)
            refine (HIB.out _).mono ?_
            rintro e w3 ⟨rfl, hb3⟩
            have X3 := hide (X1.out.later hb3)
            have Y3 := hide (Y1.out.later hb3)
            have B3 := hide (B1.out.trans (hb3.mono B1.out.size))
            clear hb3 x0 x1 x4
            have x4 := X3.out.items trivial
            go_wp2_with fail
            refine (HIH.out _ B3.out).mono ?_
            rintro e w4 ⟨hfo, hb4⟩
            have Y4 := hide (Y3.out.later hb4)
            have B4 := hide (B3.out.trans (hb4.mono B3.out.size))
            have HWS : Hid (w.heap.size + 1 ≤ w3.heap.size) := by show _ ≤ _; have := Y3.out.lt; omega
            clear hb4 x4 HIH
            cases hfk : fndL tag qual t.kids with
            | none =>
              have HFN : Hid (fndL tag qual l = fndL tag qual (l.drop (k + 1))) := by show _ = _; rw [HFX.out, hfk]
              rw [hfk] at hfo
              have hfo' : e = .returned (.tuple #[.agg (iC ⟨[], [], [], []⟩ (.slice none 0 0)), .bool false]) := hfo
              subst hfo'
              clear hfo HFX hfk
              have BW := hide ((Below.refl w4.heap.size w4).alloc (Nat.le_refl _) (.cells (iC ⟨[], [], [], []⟩ (.slice none 0 0)) 25))
              have Y5 := hide (Y4.out.later BW.out)
              have B5 := hide (B4.out.trans (BW.out.mono B4.out.size))
              unfold iC at Y5 B5
              unfold iC
              go_wp2_with fail
              go_roundw
              case rel => exact ⟨k + 1, by omega, by go_num, HFN, B5, Y5⟩
              case measure => simp [intOf]; omega
            | some x =>
              have HFF : Hid (fndL tag qual l = some x) := by show _ = _; rw [HFX.out, hfk]
              rw [hfk] at hfo
              obtain ⟨qa, qc, rfl, hpt⟩ := hfo
              have HP4 := hide hpt
              have BW := hide ((Below.refl w4.heap.size w4).alloc (Nat.le_refl _) (.cells (iC x.itm (.slice qa x.kids.length qc)) 25))
              have Y5 := hide (Y4.out.later BW.out)
              have Z5 := hide (Ix.new w4 x.itm (.slice qa x.kids.length qc))
              have B5 := hide (B4.out.trans (BW.out.mono B4.out.size))
              have HP5 : Hid (PA (w4.alloc (.cells (iC x.itm (.slice qa x.kids.length qc)) 25)) (fun g => w3.heap.size ≤ g ∧ g < (w4.alloc (.cells (iC x.itm (.slice qa x.kids.length qc)) 25)).heap.size) (.slice qa x.kids.length qc) x.kids) := hide (PA_kept (fun g _ hg => BW.out.block g hg) BW.out.size (fun g hg hg2 => ⟨hg.1, Nat.lt_of_lt_of_le hg2 BW.out.size⟩) _ _ _ (Nat.le_refl _) HP4.out)
              clear hpt HFX hfk
              unfold iC at Y5 Z5 B5 HP5
              unfold iC
              go_wp2_with (first
                | (refine wpList_load_row rfl 25 (.tmp 10) rfl w4.heap.size rfl _ (iC x.itm (.slice qa x.kids.length qc)) _ _ Z5.out Tryz.underlying25 rfl Tryz.sizeItm ?_)
                | (refine wpList_store_row rfl 25 (.tmp 6) _ rfl w.heap.size (iC x.itm (.slice qa x.kids.length qc)) rfl rfl _ _ Y5.out Tryz.sizeItm rfl (iC_one _ _ _ _) ?_))
              (try simp only [Exit.inBlock, Exit.then])
              refine bodyPost_ret (v := .tuple #[.agg (iC x.itm (.slice qa x.kids.length qc)), .bool true]) ?_ rfl ⟨by rw [HFF.out]; exact ⟨qa, qc, rfl, PA_kept (w := w4.alloc _) (fun g hg _ => setRow_otherk _ _ _ _ (by have := HWS.out; omega)) (by rw [size_setRow]; exact Nat.le_refl _) (fun g hg hg2 => ⟨by have := HWS.out; omega, by rw [size_setRow]; exact hg2⟩) _ _ _ (Nat.le_refl _) HP5.out⟩, below_setRow B5.out (Nat.le_refl _) _⟩
              exact ret_cell_tmp rfl _ _ w.heap.size 25 (iC x.itm (.slice qa x.kids.length qc)) (0, 0) _ _ rfl rfl (setRow_heap _ _ _ _ _ _ Y5.out) Tryz.underlying25 rfl Tryz.sizeItm
      · have hk' : k = l.length := by omega
        subst hk'
        have HFN : Hid (fndL tag qual l = none) := by show _ = _; rw [HF.out, List.drop_of_length_le (Nat.le_refl _), fndL]
        clear HF
        go_wp2_with (refine wpList_store_row rfl 25 (.tmp 6) _ rfl w.heap.size (iC ⟨[], [], [], []⟩ (.slice none 0 0)) rfl rfl _ _ HY.out Tryz.sizeItm rfl (iC_one _ _ _ _) ?_)
        (try simp only [Exit.inBlock, Exit.then])
        refine bodyPost_ret (v := .tuple #[.agg (iC ⟨[], [], [], []⟩ (.slice none 0 0)), .bool false]) ?_ rfl ⟨by rw [HFN.out]; rfl, below_setRow HB.out (Nat.le_refl _) _⟩
        exact ret_cell_tmp rfl _ _ w.heap.size 25 (iC ⟨[], [], [], []⟩ (.slice none 0 0)) (0, 0) _ _ rfl rfl (setRow_heap _ _ _ _ _ _ HY.out) Tryz.underlying25 rfl Tryz.sizeItm
end Go.Proofs.YtpkgaidnpooahaaGreatDoor
namespace Go.Proofs.YtpkgaidnpooahaaGreatDoor
open Go.RowKit

mutual
def cntI : Tr → Nat
  | .mk i k => if !i.tag.isEmpty then 1 else if i.name.isEmpty then 0 else cntL k
def cntL : List Tr → Nat
  | [] => 0
  | a :: r => cntI a + cntL r
end
theorem cntI_eq (a : Tr) : cntI a = if !a.itm.tag.isEmpty then 1 else if a.itm.name.isEmpty then 0 else cntL a.kids := by cases a; rw [cntI]; rfl
theorem cntL_cons (a : Tr) (r : List Tr) : cntL (a :: r) = cntI a + cntL r := by rw [cntL]
theorem cntL_app (x y : List Tr) : cntL (x ++ y) = cntL x + cntL y := by
  induction x with
  | nil => simp [cntL]
  | cons a r ih => rw [List.cons_append, cntL_cons, cntL_cons, ih, Nat.add_assoc]
theorem cntL_take {l : List Tr} {k : Nat} {a : Tr} (h : l[k]? = some a) : cntL (l.take (k + 1)) = cntL (l.take k) + cntI a := by
  rw [List.take_add_one, h, cntL_app]; simp [cntL]
theorem cntL_le : ∀ (D : Nat) (l : List Tr), wts l ≤ D → cntL l ≤ wts l := by
  intro D
  induction D using Nat.strongRecOn with
  | ind D ih =>
    intro l
    induction l with
    | nil => intro _; simp [cntL, wts]
    | cons a r ihr =>
      intro hD
      rw [wts_cons] at hD ⊢
      have hw := wt_eq a
      have h2 := ihr (by omega)
      have h3 := ih (wts a.kids) (by omega) a.kids (Nat.le_refl _)
      rw [cntL_cons, cntI_eq]
      split
      · omega
      · split
        · omega
        · omega
theorem cntL_take_le (l : List Tr) (k : Nat) : cntL (l.take k) ≤ cntL l := by
  conv => rhs; rw [← List.take_append_drop k l]
  rw [cntL_app]; omega
set_option maxRecDepth 100000 in
set_option maxHeartbeats 4000000 in
theorem count_any : ∀ (D : Nat) (l : List Tr) (v : Value) (w : World), wts l ≤ D → D ≤ 1099511627776 → RT w v l →
    Calls Tryz.prog 24 #[v] w fun e w' => e = .returned (.int .i64 (cntL l : Int)) ∧ Below w.heap.size w w' := by
  intro D
  induction D using Nat.strongRecOn with
  | ind D ih =>
    intro l v w hD hD2 hv
    have IH := hide ih
    obtain ⟨a, cap, rfl, hr⟩ := hv
    have HR := hide hr
    have HWL : Hid (wts l ≤ D ∧ D ≤ 1099511627776) := hide ⟨hD, hD2⟩
    clear hr ih
    have hll : l.length ≤ 1099511627776 := by have := wts_len l; omega
    have HCL := hide (Nat.le_trans (cntL_le _ l (Nat.le_refl _)) (Nat.le_trans hD hD2))
    clear hD hD2
    go_enter Tryz.func24, Tryz.ntmps24
    go_wp2_with fail
    go_loopw [3, 8] (fun n i wr => ∃ k c : Nat, k ≤ l.length ∧ i = .int .i64 k ∧ n = .int .i64 c ∧ Hid (c = cntL (l.take k)) ∧ Hid (Below w.heap.size w wr)) (fun _ i _ => l.length - (intOf i).toNat)
    case atStart => exact ⟨0, 0, Nat.zero_le _, rfl, rfl, hide (by simp [cntL]), hide (Below.refl _ _)⟩
    case round =>
      obtain ⟨k, c, hk, rfl, rfl, HC, HB⟩ := hrel
      by_cases hlt : k < l.length
      · obtain ⟨t, ht⟩ : ∃ t, l[k]? = some t := ⟨_, List.getElem?_eq_getElem hlt⟩
        have HTK := hide (cntL_take ht)
        have HCN : Hid (cntL (l.take (k + 1)) ≤ 1099511627776) := hide (Nat.le_trans (cntL_take_le _ _) HCL.out)
        have HWE := hide (wt_eq t)
        have HWA := hide (wts_at ht)
        have HCI := hide (cntI_eq t)
        obtain ⟨bb, off, kv, ha, hbl, c0, c1, c2, c3, c4, hkv⟩ := RT_at HR.out ht
        have c0 := (HB.out.cell (p := ⟨bb, _, none⟩) hbl).trans c0
        have c1 := (HB.out.cell (p := ⟨bb, _, none⟩) hbl).trans c1
        have c2 := (HB.out.cell (p := ⟨bb, _, none⟩) hbl).trans c2
        have c3 := (HB.out.cell (p := ⟨bb, _, none⟩) hbl).trans c3
        have c4 := (HB.out.cell (p := ⟨bb, _, none⟩) hbl).trans c4
        subst ha
        obtain ⟨ka, kcap, rfl, hkr⟩ := hkv
        have HKV : Hid (RT w (.slice ka t.kids.length kcap) t.kids) := hide ⟨ka, kcap, rfl, hkr⟩
        have HIF := hide (fun W : World => isField_any t.itm (.slice ka t.kids.length kcap) W)
        have HIB := hide (fun W : World => isBlock_any t.itm (.slice ka t.kids.length kcap) W)
        have XA := hide (Ix.new wr t.itm (.slice ka t.kids.length kcap))
        have BA := hide (HB.out.alloc HB.out.size (.cells (iC t.itm (.slice ka t.kids.length kcap)) 25))
        have hcb : c ≤ 1099511627776 := by have h1 := HC.out; have h2 := HTK.out; have h3 := HCN.out; omega
        clear hkr ht
        unfold iC at XA BA
        cases hte : t.itm.tag.isEmpty with
        | false =>
          rw [hte] at HIF
          try dsimp only [Bool.not_false] at HIF
          have HN : Hid (c + 1 = cntL (l.take (k + 1))) := by show _ = _; rw [HTK.out, HCI.out, hte, ← HC.out]; rfl
          have hcb1 : c + 1 ≤ 1099511627776 := by rw [HN.out]; exact HCN.out
          clear HTK HCI HCN hte HIB
          go_wp2_with (refine wpList_load_row rfl 25 (.tmp 5) rfl wr.heap.size rfl _ (iC t.itm (.slice ka t.kids.length kcap)) _ _ XA.out Tryz.underlying25 rfl Tryz.sizeItm ?_)
          refine (HIF.out _).mono ?_
          rintro e w1 ⟨rfl, hb1⟩
          have B1 := hide (BA.out.trans (hb1.mono BA.out.size))
          clear hb1 c0 c1 c2 c3 c4
          go_wp2_with fail
          go_roundw
          case rel => exact ⟨k + 1, c + 1, by omega, by go_num, by go_num, HN, B1⟩
          case measure => simp [intOf]; omega
        | true =>
          rw [hte] at HIF HIB
          try dsimp only [Bool.not_true, Bool.true_and] at HIF HIB
          cases hne : t.itm.name.isEmpty with
          | true =>
            rw [hne] at HIB
            try dsimp only [Bool.not_true] at HIB
            have HN : Hid (c = cntL (l.take (k + 1))) := by show _ = _; rw [HTK.out, HCI.out, hte, hne, ← HC.out]; rfl
            clear HTK HCI HCN hte hne
            go_wp2_with (refine wpList_load_row rfl 25 (.tmp 5) rfl wr.heap.size rfl _ (iC t.itm (.slice ka t.kids.length kcap)) _ _ XA.out Tryz.underlying25 rfl Tryz.sizeItm ?_)
            refine (HIF.out _).mono ?_
            rintro e w1 ⟨rfl, hb1⟩
            have X1 := hide (Ix.later XA.out hb1)
            have B1 := hide (BA.out.trans (hb1.mono BA.out.size))
            clear hb1 c0 c1 c2 c3 c4
            go_wp2_with (refine wpList_load_row rfl 25 (.tmp 5) rfl wr.heap.size rfl _ (iC t.itm (.slice ka t.kids.length kcap)) _ _ X1.out Tryz.underlying25 rfl Tryz.sizeItm ?_)
            refine (HIB.out _).mono ?_
            rintro e w2 ⟨rfl, hb2⟩
            have B2 := hide (B1.out.trans (hb2.mono B1.out.size))
            clear hb2
            go_wp2_with fail
            go_roundw
            case rel => exact ⟨k + 1, c, by omega, by go_num, rfl, HN, B2⟩
            case measure => simp [intOf]; omega
          | false =>
            rw [hne] at HIB
            try dsimp only [Bool.not_false] at HIB
            have HN : Hid (c + cntL t.kids = cntL (l.take (k + 1))) := by show _ = _; rw [HTK.out, HCI.out, hte, hne, ← HC.out]; rfl
            have HIH := hide (fun (W : World) (hW : Below w.heap.size w W) => IH.out (wts t.kids) (by have := HWE.out; have := HWA.out; have := HWL.out; omega) t.kids (.slice ka t.kids.length kcap) W (Nat.le_refl _) (by have := HWE.out; have := HWA.out; have := HWL.out; omega) (RT_later HKV.out hW))
            have hcb1 : c + cntL t.kids ≤ 1099511627776 := by rw [HN.out]; exact HCN.out
            clear HTK HCI HCN hte hne
            obtain ⟨s, Hs⟩ : ∃ s, Hid (cntL t.kids = s) := ⟨_, hide rfl⟩
            rw [Hs.out] at HIH HN hcb1
            go_wp2_with (refine wpList_load_row rfl 25 (.tmp 5) rfl wr.heap.size rfl _ (iC t.itm (.slice ka t.kids.length kcap)) _ _ XA.out Tryz.underlying25 rfl Tryz.sizeItm ?_)
            refine (HIF.out _).mono ?_
            rintro e w1 ⟨rfl, hb1⟩
            have X1 := hide (Ix.later XA.out hb1)
            have B1 := hide (BA.out.trans (hb1.mono BA.out.size))
            clear hb1 c0 c1 c2 c3 c4
            go_wp2_with (refine wpList_load_row rfl 25 (.tmp 5) rfl wr.heap.size rfl _ (iC t.itm (.slice ka t.kids.length kcap)) _ _ X1.out Tryz.underlying25 rfl Tryz.sizeItm ?_)
            refine (HIB.out _).mono ?_
            rintro e w2 ⟨rfl, hb2⟩
            have X2 := hide (X1.out.later hb2)
            have B2 := hide (B1.out.trans (hb2.mono B1.out.size))
            clear hb2
            have z4 := X2.out.items trivial
            go_wp2_with fail
            refine (HIH.out w2 B2.out).mono ?_
            rintro e w3 ⟨rfl, hb3⟩
            have B3 := hide (B2.out.trans (hb3.mono B2.out.size))
            clear hb3 z4
            go_wp2_with fail
            go_roundw
            case rel => exact ⟨k + 1, c + s, by omega, by go_num, by go_num, HN, B3⟩
            case measure => simp [intOf]; omega
      · have hk' : k = l.length := by omega
        subst hk'
        have HN : Hid (c = cntL l) := by show _ = _; rw [HC.out, List.take_length]
        go_wp2_with fail
        go_ret
        exact ⟨ret_i (by rw [HN.out]), HB.out⟩
end Go.Proofs.YtpkgaidnpooahaaGreatDoor
