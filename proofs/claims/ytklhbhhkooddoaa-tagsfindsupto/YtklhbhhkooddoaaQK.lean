/-
  My own text: an item in new memory.
-/
import Derived.Test.YtklhbhhkooddoaaQ7
import Derived.Test.YtklhbhhkooddoaaQA2
namespace Go.Proofs.Ytklhbhhkooddoaa
open Go.RowKit

theorem clone_all (T : List UInt8) (w : World) (hT : T.length ≤ 140737488355328) :
    Calls Try.prog 31 #[.string ⟨T.toArray⟩] w fun e w' => e = .returned (.string ⟨T.toArray⟩) ∧ Below w.heap.size w w' := by
  have HC := hide (Try.stringslite_Clone ⟨T.toArray⟩ w (by rw [bytes_size]; omega))
  go_enter Try.func31, Try.ntmps31
  go_wp2_with fail
  refine HC.out.mono ?_
  rintro e w1 ⟨rfl, hb1⟩
  go_wp2_with fail
  go_ret
  exact ⟨rfl, hb1⟩
theorem setRow_otherk (w : World) (g : Nat) (cs : Array Value) (k : Nat) (h : k ≠ g) : (w.setRow g cs).heap[k]? = w.heap[k]? := by
  simp only [World.setRow, Array.getElem?_modify]
  rw [if_neg (fun e => h e.symm)]
/-- Copies of items so far: a row of the call's own, in new memory. -/
structure CW (w : World) (wr : World) (v : Value) (l : List Tr) (V : List Value) : Prop where
  iw : IWA wr (w.heap.size + 2) v l V
  bl : Below w.heap.size w wr
theorem CW.later {w wr w1 : World} {v : Value} {l : List Tr} {V : List Value} (h : CW w wr v l V) (hb : Below wr.heap.size wr w1) : CW w w1 v l V := ⟨h.iw.later hb, h.bl.trans (hb.mono h.bl.size)⟩
theorem CW.snoc {w w0 wr w1 : World} {lo : Nat} {v v' u : Value} {l : List Tr} {V : List Value} {a : Tr} (h : CW w wr v l V) (hO : w1.ownsRow (w.heap.size + 2) 26 5 v' (l.length + 1) (ic l V ++ (iC a.itm u).toList)) (hg : wr.grownBy w1 v.ownBlock) (hr : ∀ x, v'.ownBlock = some x → v.ownBlock = some x ∨ wr.heap.size ≤ x)
    (h0 : CW w w0 v l V) (hk0 : Below w0.heap.size w0 wr) (hw0 : w0.heap.size ≤ lo) (hlo : w.heap.size + 2 ≤ lo) (hv : ∀ x, v.ownBlock = some x → x < lo) (hu : PA wr (fun x => lo ≤ x ∧ x < wr.heap.size) u a.kids) : CW w w1 v' (l ++ [a]) (V ++ [u]) :=
  ⟨h.iw.snoc h0.iw (fun g _ hg => hk0.block g hg) hk0.size hw0 hO (fun x hx hne => hg.block x hx (fun e => hne e.symm)) hg.size hr hlo hv hu, h.bl.grown hg h.bl.size (fun q hq => by have := (own_ltq h.iw.row q hq).1; omega)⟩
theorem grown_keeps {w wr w1 : World} {v : Value} {l : List Tr} {V : List Value} (h : CW w wr v l V) (hg : wr.grownBy w1 v.ownBlock) {x : Nat} (hx : x < wr.heap.size) (h2 : x < w.heap.size + 2) : w1.heap[x]? = wr.heap[x]? := hg.block x hx (fun e => by have := (own_ltq h.iw.row x e.symm).1; omega)
set_option maxRecDepth 100000 in
set_option maxHeartbeats 4000000 in
theorem copied_any : ∀ (D : Nat) (i : Itm) (l : List Tr) (v : Value) (w : World), wts l ≤ D → D ≤ 1099511627776 → IOk i → RT w v l →
    Calls Try.prog 23 #[.agg (iC i v)] w fun e w' => (∃ a cap, e = .returned (.agg (iC i (.slice a l.length cap))) ∧ PA w' (fun x => w.heap.size ≤ x ∧ x < w'.heap.size) (.slice a l.length cap) l) ∧ Below w.heap.size w w' := by
  intro D
  induction D using Nat.strongRecOn with
  | ind D ih =>
    intro i l v w hD hD2 hio hv
    have IH := hide ih
    have HIO := hide hio
    obtain ⟨a, cap, rfl, hr⟩ := hv
    have HR := hide hr
    have HWL : Hid (wts l ≤ D ∧ D ≤ 1099511627776) := hide ⟨hD, hD2⟩
    clear hr ih hio
    have hll : l.length ≤ 1099511627776 := by have := wts_len l; omega
    clear hD hD2
    have X0 := hide ((Ix.new w i (.slice a l.length cap)).alloc (.cells #[.string ⟨#[]⟩, .string ⟨#[]⟩, .string ⟨#[]⟩, .string ⟨#[]⟩, .slice none 0 0] 26))
    have Y0 : Hid (Ix ((w.alloc (.cells (iC i (.slice a l.length cap)) 26)).alloc (.cells #[.string ⟨#[]⟩, .string ⟨#[]⟩, .string ⟨#[]⟩, .string ⟨#[]⟩, .slice none 0 0] 26)) (w.heap.size + 1) ⟨[], [], [], []⟩ (.slice none 0 0)) := hide (alloc2_newq w _ _)
    have C0 : Hid (CW w ((w.alloc (.cells (iC i (.slice a l.length cap)) 26)).alloc (.cells #[.string ⟨#[]⟩, .string ⟨#[]⟩, .string ⟨#[]⟩, .string ⟨#[]⟩, .slice none 0 0] 26)) (.slice none 0 0) [] []) := hide ⟨IWA.nil _ _, ((Below.refl w.heap.size w).alloc (Nat.le_refl _) _).alloc (by simp) _⟩
    go_enter Try.func23, Try.ntmps23
    unfold iC at X0 Y0 C0
    unfold iC
    go_wp2_with fail
    go_loopw [3, 9] (fun u n wr => ∃ (k : Nat) (V : List Value), k ≤ l.length ∧ n = .int .i64 k ∧ Hid (CW w wr u (l.take k) V) ∧ Hid (Ix wr w.heap.size i (.slice a l.length cap)) ∧ Hid (Ix wr (w.heap.size + 1) ⟨[], [], [], []⟩ (.slice none 0 0))) (fun _ n _ => l.length - (intOf n).toNat)
    case atStart => exact ⟨0, [], Nat.zero_le _, rfl, C0, X0, Y0⟩
    case round =>
      obtain ⟨k, V, hk, rfl, HC, HX, HY⟩ := hrel
      by_cases hlt : k < l.length
      · obtain ⟨t, ht⟩ : ∃ t, l[k]? = some t := ⟨_, List.getElem?_eq_getElem hlt⟩
        have HTK : Hid (l.take (k + 1) = l.take k ++ [t]) := hide (by rw [List.take_add_one, ht]; rfl)
        have HWE := hide (wt_eq t)
        have HWA := hide (wts_at ht)
        have HTIO := hide (iok_of HWA.out (by have := HWL.out; omega))
        obtain ⟨bb, off, kv, ha, hbl, c0, c1, c2, c3, c4, hkv⟩ := RT_at HR.out ht
        have c0 := (HC.out.bl.cell (p := ⟨bb, _, none⟩) hbl).trans c0
        have c1 := (HC.out.bl.cell (p := ⟨bb, _, none⟩) hbl).trans c1
        have c2 := (HC.out.bl.cell (p := ⟨bb, _, none⟩) hbl).trans c2
        have c3 := (HC.out.bl.cell (p := ⟨bb, _, none⟩) hbl).trans c3
        have c4 := (HC.out.bl.cell (p := ⟨bb, _, none⟩) hbl).trans c4
        subst ha
        obtain ⟨ka, kcap, rfl, hkr⟩ := hkv
        have HKV : Hid (RT w (.slice ka t.kids.length kcap) t.kids) := hide ⟨ka, kcap, rfl, hkr⟩
        have HIH := hide (fun (W : World) (hW : Below w.heap.size w W) => IH.out (wts t.kids) (by have := HWE.out; have := HWA.out; have := HWL.out; omega) t.itm t.kids (.slice ka t.kids.length kcap) W (Nat.le_refl _) (by have := HWE.out; have := HWA.out; have := HWL.out; omega) HTIO.out (RT_later HKV.out hW))
        have XA := hide (Ix.new wr t.itm (.slice ka t.kids.length kcap))
        have BA := hide ((Below.refl wr.heap.size wr).alloc (Nat.le_refl _) (.cells (iC t.itm (.slice ka t.kids.length kcap)) 26))
        have HLT : Hid ((l.take k).length = k) := hide (by rw [List.length_take]; omega)
        clear hkr ht
        unfold iC at XA BA
        go_wp2_with (refine wpList_load_row rfl 26 (.tmp 5) rfl wr.heap.size rfl _ (iC t.itm (.slice ka t.kids.length kcap)) _ _ XA.out Try.underlying26 rfl Try.sizeItm ?_)
        refine (HIH.out _ (HC.out.bl.trans (BA.out.mono HC.out.bl.size))).mono ?_
        rintro e w6 ⟨⟨qa, qc, rfl, hpt⟩, hb6⟩
        have B6 := hide (BA.out.trans (hb6.mono BA.out.size))
        have C6 := hide (HC.out.later B6.out)
        have X6 := hide (HX.out.later B6.out)
        have Y6 := hide (HY.out.later B6.out)
        have HPT := hide hpt
        have HVL : Hid (∀ x, u3.ownBlock = some x → x < wr.heap.size + 1) := hide (fun x hx => by have := (own_ltq HC.out.iw.row x hx).2; omega)
        have HWS : Hid (w.heap.size + 2 ≤ wr.heap.size + 1) := by show _ ≤ _; have := HY.out.lt; omega
        clear hb6 hpt c0 c1 c2 c3 c4 HIH
        unfold iC
        have HOW := hide C6.out.iw.row
        rw [HLT.out] at HOW
        go_wp2_with (at_builtin; refine wp_append_itm rfl _ _ rfl (w.heap.size + 2) _ k _ rfl (HOW.out.alloc _) _ 1 1 [.string ⟨t.itm.tag.toArray⟩, .string ⟨t.itm.qual.toArray⟩, .string ⟨t.itm.text.toArray⟩, .string ⟨t.itm.name.toArray⟩, .slice qa t.kids.length qc] rfl rfl (by decide) ?c1 ?c2 ?c3 ?c4 ?_)
        case c1 =>
          intro j u hj
          match j, hj with
          | 0, hj => simp at hj; subst hj; simp [Addr.add]
          | 1, hj => simp at hj; subst hj; simp [Addr.add]
          | 2, hj => simp at hj; subst hj; simp [Addr.add]
          | 3, hj => simp at hj; subst hj; simp [Addr.add]
          | 4, hj => simp at hj; subst hj; simp [Addr.add]
        case c2 => intro u hu; simp at hu; rcases hu with rfl | rfl | rfl | rfl | rfl <;> rfl
        case c3 => have := Y6.out.lt; simp; omega
        case c4 => omega
        intro v' w7 hown' hgrow hfresh
        have BB := hide ((Below.refl w6.heap.size w6).alloc (Nat.le_refl _) (.cells #[.string ⟨t.itm.tag.toArray⟩, .string ⟨t.itm.qual.toArray⟩, .string ⟨t.itm.text.toArray⟩, .string ⟨t.itm.name.toArray⟩, .slice qa t.kids.length qc] 26))
        have C7 := hide ((C6.out.later BB.out).snoc (a := t) (u := .slice qa t.kids.length qc) (lo := wr.heap.size + 1) (by rw [HLT.out]; exact hown') hgrow (fun x hx => (hfresh x hx).imp id (fun h => by simpa using h)) HC.out (B6.out.trans (BB.out.mono B6.out.size)) (Nat.le_succ _) HWS.out HVL.out (PA_kept (fun g hg hg2 => BB.out.block g hg2) BB.out.size (fun g hg hg2 => ⟨by have := hg.1; simp at this; omega, Nat.lt_of_lt_of_le hg2 BB.out.size⟩) _ _ _ (Nat.le_refl _) HPT.out))
        have X7 : Hid (Ix w7 w.heap.size i (.slice (some ⟨bb, off, none⟩) l.length cap)) := hide ((grown_keeps (C6.out.later BB.out) hgrow (X6.out.later BB.out).lt (by omega)).trans (X6.out.later BB.out))
        have Y7 : Hid (Ix w7 (w.heap.size + 1) ⟨[], [], [], []⟩ (.slice none 0 0)) := hide ((grown_keeps (C6.out.later BB.out) hgrow (Y6.out.later BB.out).lt (by omega)).trans (Y6.out.later BB.out))
        rw [← HTK.out] at C7
        clear hown' hgrow hfresh BB
        go_wp2_with fail
        go_roundw
        case rel => exact ⟨k + 1, _, by omega, by go_num, C7, X7, Y7⟩
        case measure => simp [intOf]; omega
      · have hk' : k = l.length := by omega
        subst hk'
        rw [List.take_length] at HC
        obtain ⟨qa, qc, hv, _⟩ := HC.out.iw.done.1
        subst hv
        have HPT : Hid (PA wr (fun x => w.heap.size + 2 ≤ x ∧ x < wr.heap.size) (.slice qa l.length qc) l) := hide HC.out.iw.done
        have HB := hide HC.out.bl
        clear HC
        have K1 := hide (fun (W : World) => clone_all i.tag W HIO.out.tag)
        have K2 := hide (fun (W : World) => clone_all i.qual W HIO.out.qual)
        have K3 := hide (fun (W : World) => clone_all i.text W HIO.out.text)
        have K4 := hide (fun (W : World) => clone_all i.name W HIO.out.name)
        have x0 := HX.out.tag trivial
        have x1 := HX.out.qual trivial
        have x2 := HX.out.text trivial
        have x3 := HX.out.name trivial
        have HXL := hide HX.out.lt
        have HG0 := hide ((Below.refl wr.heap.size wr).drew)
        have y0 : ∀ x : Gq wr, x.1.cell? ⟨w.heap.size, 0, none⟩ = some (.string ⟨i.tag.toArray⟩) := fun x => (x.2.cell (p := ⟨w.heap.size, 0, none⟩) HXL.out).trans x0
        have y1 : ∀ x : Gq wr, x.1.cell? ⟨w.heap.size, 1, none⟩ = some (.string ⟨i.qual.toArray⟩) := fun x => (x.2.cell (p := ⟨w.heap.size, 1, none⟩) HXL.out).trans x1
        have y2 : ∀ x : Gq wr, x.1.cell? ⟨w.heap.size, 2, none⟩ = some (.string ⟨i.text.toArray⟩) := fun x => (x.2.cell (p := ⟨w.heap.size, 2, none⟩) HXL.out).trans x2
        have y3 : ∀ x : Gq wr, x.1.cell? ⟨w.heap.size, 3, none⟩ = some (.string ⟨i.name.toArray⟩) := fun x => (x.2.cell (p := ⟨w.heap.size, 3, none⟩) HXL.out).trans x3
        clear x0 x1 x2 x3
        go_wp2_with fail
        haveI : Nonempty (Gq wr) := ⟨⟨_, HG0.out⟩⟩
        refine region_qtail (C := fun w' => ∃ x : Gq wr, w' = x.1) 14 rfl rfl (by kernel_rfl) (by kernel_rfl) ⟨⟨_, HG0.out⟩, rfl⟩ ?_
        simp only [List.take_succ_cons, List.take_zero]
        repeat (first
          | go_big_quiet_skip
          | (go_big_quiet_want; (go_big_quiet_op; first
              | go_big_quiet_on
              | (apply Exists.intro; refine ⟨fun x => ?_, ?_⟩; (go_at_call 31; first | exact x.call (K1.out x.1) | exact x.call (K2.out x.1) | exact x.call (K3.out x.1) | exact x.call (K4.out x.1)); go_big_quiet_on))))
        refine wpQuiet_nil ?_
        rintro w3 ⟨x, rfl⟩
        obtain ⟨w3, hw3⟩ := x
        have Y3 : Hid (Ix w3 (w.heap.size + 1) ⟨[], [], [], []⟩ (.slice none 0 0)) := hide ((hw3.block _ HY.out.lt).trans HY.out)
        have B3 := hide (HB.out.trans (hw3.mono HB.out.size))
        have HP3 : Hid (PA w3 (fun x => w.heap.size + 2 ≤ x ∧ x < w3.heap.size) (.slice qa l.length qc) l) := hide (PA_kept (fun g _ hg => hw3.block g hg) hw3.size (fun g hg hg2 => ⟨hg.1, Nat.lt_of_lt_of_le hg2 hw3.size⟩) _ _ _ (Nat.le_refl _) HPT.out)
        dsimp only
        clear hw3 y0 y1 y2 y3 this HG0
        go_wp2_with (refine wpList_store_row rfl 26 (.tmp 2) _ rfl (w.heap.size + 1) (iC i (.slice qa l.length qc)) rfl rfl _ _ Y3.out Try.sizeItm rfl (iC_one _ _ _ _) ?_)
        (try simp only [Exit.inBlock, Exit.then])
        refine bodyPost_ret (v := .agg (iC i (.slice qa l.length qc))) ?_ rfl ⟨⟨qa, qc, rfl, PA_kept (w := w3) (fun g hg _ => setRow_otherk _ _ _ _ (by omega)) (by rw [size_setRow]; exact Nat.le_refl _) (fun g hg hg2 => ⟨by omega, by rw [size_setRow]; exact hg2⟩) _ _ _ (Nat.le_refl _) HP3.out⟩, below_setRow B3.out (by omega) _⟩
        exact results_cell_row rfl _ _ (w.heap.size + 1) 26 (iC i (.slice qa l.length qc)) (0, 0) _ rfl (setRow_heap _ _ _ _ _ _ Y3.out) Try.underlying26 rfl Try.sizeItm
end Go.Proofs.Ytklhbhhkooddoaa
