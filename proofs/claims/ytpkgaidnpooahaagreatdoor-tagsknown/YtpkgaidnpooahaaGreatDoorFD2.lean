/-
  My own text: TJ1, FD2 in one.
-/
import Derived.Test.YtpkgaidnpooahaaGreatDoorQC
import Derived.Test.YtpkgaidnpooahaaGreatDoorFD1
namespace Go.Proofs.YtpkgaidnpooahaaGreatDoor
open Go.RowKit

theorem alloc3_newj (w : World) (a b c : Obj) : (((w.alloc a).alloc b).alloc c).heap[w.heap.size + 2]? = some c := by
  have h := alloc_new ((w.alloc a).alloc b) c
  have hs : ((w.alloc a).alloc b).heap.size = w.heap.size + 2 := by simp
  rw [hs] at h; exact h
theorem Ix.putItems {w : World} {g : Nat} {i : Itm} {v : Value} (h : Ix w g i v) (u : Value) : Ix (w.setCell ⟨g, 4, none⟩ u) g i u := by
  unfold Ix at h ⊢
  simp only [World.setCell, Array.getElem?_modify, if_true]
  rw [h]; rfl
theorem Ix.free4 {w : World} {g : Nat} {i : Itm} {v : Value} (h : Ix w g i v) : w.frozen? ⟨g, 4, none⟩ = false := frozen_of_row _ _ _ _ _ h
set_option maxRecDepth 100000 in
set_option maxHeartbeats 4000000 in
theorem copyItem_of (i : Itm) (l : List Tr) (ka : Option Addr) (kc : Nat) (w : World) (hc : ∀ W : World, Below w.heap.size w W → Calls Tryz.prog 62 #[.slice ka l.length kc] W fun e w' => (∃ a cap, e = .returned (.slice a l.length cap) ∧ PT w' (fun x => W.heap.size ≤ x ∧ x < w'.heap.size) (.slice a l.length cap) l) ∧ Below W.heap.size W w') :
    Calls Tryz.prog 61 #[.agg (iC i (.slice ka l.length kc))] w fun e w' => (∃ a cap, e = .returned (.agg (iC i (.slice a l.length cap))) ∧ PT w' (fun x => w.heap.size ≤ x ∧ x < w'.heap.size) (.slice a l.length cap) l) ∧ Below w.heap.size w w' := by
  have HC := hide hc
  clear hc
  have B0 := hide ((((Below.refl w.heap.size w).alloc (Nat.le_refl _) (.cells (iC i (.slice ka l.length kc)) 25)).alloc (by simp) (.cells #[.string ⟨#[]⟩, .string ⟨#[]⟩, .string ⟨#[]⟩, .string ⟨#[]⟩, .slice none 0 0] 25)).alloc (by simp; omega) (.cells (iC i (.slice ka l.length kc)) 25))
  have Y0 : Hid (Ix (((w.alloc (.cells (iC i (.slice ka l.length kc)) 25)).alloc (.cells #[.string ⟨#[]⟩, .string ⟨#[]⟩, .string ⟨#[]⟩, .string ⟨#[]⟩, .slice none 0 0] 25)).alloc (.cells (iC i (.slice ka l.length kc)) 25)) (w.heap.size + 1) ⟨[], [], [], []⟩ (.slice none 0 0)) := hide (alloc_block (alloc2_newq w _ _))
  have Z0 : Hid (Ix (((w.alloc (.cells (iC i (.slice ka l.length kc)) 25)).alloc (.cells #[.string ⟨#[]⟩, .string ⟨#[]⟩, .string ⟨#[]⟩, .string ⟨#[]⟩, .slice none 0 0] 25)).alloc (.cells (iC i (.slice ka l.length kc)) 25)) (w.heap.size + 2) i (.slice ka l.length kc)) := hide (alloc3_newj w _ _ _)
  unfold iC at B0 Y0 Z0
  go_enter Tryz.func61, Tryz.ntmps61
  unfold iC
  go_wp2_with fail
  refine (HC.out _ B0.out).mono ?_
  rintro e w1 ⟨⟨qa, qc, rfl, hpt⟩, hb1⟩
  have Y1 := hide (Ix.later Y0.out hb1)
  have Z1 := hide (Ix.later Z0.out hb1)
  have B1 := hide (B0.out.trans (hb1.mono B0.out.size))
  have HPT : Hid (PT w1 (fun x => w.heap.size + 3 ≤ x ∧ x < w1.heap.size) (.slice qa l.length qc) l) := hide (PT_kept (fun _ _ _ => rfl) (Nat.le_refl _) (fun g hg _ => ⟨by have := hg.1; simp at this; omega, hg.2⟩) _ _ _ (Nat.le_refl _) hpt)
  have z4 := Z1.out.items trivial
  have zf := Z1.out.free4
  have hzl : w.heap.size + 2 < w1.heap.size := Z1.out.lt
  have Z2 := hide (Z1.out.putItems (.slice qa l.length qc))
  have Y2 : Hid (Ix (w1.setCell ⟨w.heap.size + 2, 4, none⟩ (.slice qa l.length qc)) (w.heap.size + 1) ⟨[], [], [], []⟩ (.slice none 0 0)) := hide ((Below.heap_setCell _ _ _ (w.heap.size + 1) (by show w.heap.size + 1 ≠ w.heap.size + 2; omega)).trans Y1.out)
  have B2 := hide (B1.out.setCell (p := ⟨w.heap.size + 2, 4, none⟩) (by show w.heap.size ≤ w.heap.size + 2; omega) (.slice qa l.length qc))
  have P2 : Hid (PT (w1.setCell ⟨w.heap.size + 2, 4, none⟩ (.slice qa l.length qc)) (fun x => w.heap.size + 3 ≤ x ∧ x < w1.heap.size) (.slice qa l.length qc) l) := hide (PT_kept (fun g hg _ => Below.heap_setCell _ _ _ g (by have := hg.1; show g ≠ w.heap.size + 2; omega)) (by simp [World.setCell]) (fun g hg _ => hg) _ _ _ (Nat.le_refl _) HPT.out)
  have HSZ : Hid ((w1.setCell ⟨w.heap.size + 2, 4, none⟩ (.slice qa l.length qc)).heap.size = w1.heap.size) := hide (by simp [World.setCell])
  obtain ⟨w2, hW2⟩ : ∃ w2, w1.setCell ⟨w.heap.size + 2, 4, none⟩ (.slice qa l.length qc) = w2 := ⟨_, rfl⟩
  rw [hW2] at Z2 Y2 B2 P2 HSZ
  clear hb1 hpt HPT Y1 Z1 B1
  go_wp2_with (first
    | (refine wpList_load_row rfl 25 (.tmp 3) rfl (w.heap.size + 2) rfl _ (iC i (.slice qa l.length qc)) _ _ Z2.out Tryz.underlying25 rfl Tryz.sizeItm ?_)
    | (refine wpList_store_row rfl 25 (.tmp 2) _ rfl (w.heap.size + 1) (iC i (.slice qa l.length qc)) rfl rfl _ _ Y2.out Tryz.sizeItm rfl (iC_one _ _ _ _) ?_))
  (try simp only [Exit.inBlock, Exit.then])
  refine bodyPost_ret (v := .agg (iC i (.slice qa l.length qc))) ?_ rfl ⟨⟨qa, qc, rfl, PT_kept (w := w2) (fun g hg _ => setRow_otherk _ _ _ _ (by have := hg.1; omega)) (by rw [size_setRow]; exact Nat.le_refl _) (fun g hg hg2 => ⟨by have := hg.1; omega, by rw [size_setRow]; exact hg2⟩) _ _ _ (Nat.le_refl _) P2.out⟩, below_setRow B2.out (by omega) _⟩
  exact results_cell_row rfl _ _ (w.heap.size + 1) 25 (iC i (.slice qa l.length qc)) (0, 0) _ rfl (setRow_heap _ _ _ _ _ _ Y2.out) Tryz.underlying25 rfl Tryz.sizeItm
/-- Copies so far. -/
structure DW (w : World) (wr : World) (v : Value) (l : List Tr) (V : List Value) : Prop where
  iw : IW wr w.heap.size v l V
  bl : Below w.heap.size w wr
theorem DW.later {w wr w1 : World} {v : Value} {l : List Tr} {V : List Value} (h : DW w wr v l V) (hb : Below wr.heap.size wr w1) : DW w w1 v l V := ⟨h.iw.later hb, h.bl.trans (hb.mono h.bl.size)⟩
theorem DW.snoc {w wr w1 : World} {lo : Nat} {v v' u : Value} {l : List Tr} {V : List Value} {a : Tr} (h : DW w wr v l V) (hO : w1.ownsRow w.heap.size 25 5 v' (l.length + 1) (ic l V ++ (iC a.itm u).toList)) (hg : wr.grownBy w1 v.ownBlock) (hr : ∀ x, v'.ownBlock = some x → v.ownBlock = some x ∨ wr.heap.size ≤ x)
    (hlo : w.heap.size ≤ lo) (hv : ∀ x, v.ownBlock = some x → x < lo) (hu : PT wr (fun x => lo ≤ x ∧ x < wr.heap.size) u a.kids) : DW w w1 v' (l ++ [a]) (V ++ [u]) :=
  ⟨h.iw.snoc hO (fun x hx hne => hg.block x hx (fun e => hne e.symm)) hg.size hr hlo hv hu, h.bl.grown hg h.bl.size (fun q hq => (own_ltq h.iw.row q hq).1)⟩
set_option maxRecDepth 100000 in
set_option maxHeartbeats 4000000 in
theorem copyItems_any : ∀ (D : Nat) (l : List Tr) (v : Value) (w : World), wts l ≤ D → D ≤ 1099511627776 → RT w v l →
    Calls Tryz.prog 62 #[v] w fun e w' => (∃ a cap, e = .returned (.slice a l.length cap) ∧ ∃ V, DW w w' (.slice a l.length cap) l V) := by
  intro D
  induction D using Nat.strongRecOn with
  | ind D ih =>
    intro l v w hD hD2 hv
    have IH := hide ih
    obtain ⟨a, cap, rfl, hr⟩ := hv
    have HR := hide hr
    have HWL : Hid (wts l ≤ D ∧ D ≤ 1099511627776) := hide ⟨hD, hD2⟩
    clear hr ih
    have hll : l.length ≤ 1099511627776 := by have := wts_len l; omega
    clear hD hD2
    have C0 : Hid (DW w w (.slice none 0 0) [] []) := hide ⟨IW.nil _ _, Below.refl _ _⟩
    go_enter Tryz.func62, Tryz.ntmps62
    go_wp2_with fail
    go_loopw [3, 4] (fun u n wr => ∃ (k : Nat) (V : List Value), k ≤ l.length ∧ n = .int .i64 k ∧ Hid (DW w wr u (l.take k) V)) (fun _ n _ => l.length - (intOf n).toNat)
    case atStart => exact ⟨0, [], Nat.zero_le _, rfl, C0⟩
    case round =>
      obtain ⟨k, V, hk, rfl, HC⟩ := hrel
      by_cases hlt : k < l.length
      · obtain ⟨t, ht⟩ : ∃ t, l[k]? = some t := ⟨_, List.getElem?_eq_getElem hlt⟩
        have HTK : Hid (l.take (k + 1) = l.take k ++ [t]) := hide (by rw [List.take_add_one, ht]; rfl)
        have HWE := hide (wt_eq t)
        have HWA := hide (wts_at ht)
        obtain ⟨bb, off, kv, ha, hbl, c0, c1, c2, c3, c4, hkv⟩ := RT_at HR.out ht
        have c0 := (HC.out.bl.cell (p := ⟨bb, _, none⟩) hbl).trans c0
        have c1 := (HC.out.bl.cell (p := ⟨bb, _, none⟩) hbl).trans c1
        have c2 := (HC.out.bl.cell (p := ⟨bb, _, none⟩) hbl).trans c2
        have c3 := (HC.out.bl.cell (p := ⟨bb, _, none⟩) hbl).trans c3
        have c4 := (HC.out.bl.cell (p := ⟨bb, _, none⟩) hbl).trans c4
        subst ha
        obtain ⟨ka, kcap, rfl, hkr⟩ := hkv
        have HKV : Hid (RT w (.slice ka t.kids.length kcap) t.kids) := hide ⟨ka, kcap, rfl, hkr⟩
        have HCP := hide (copyItem_of t.itm t.kids ka kcap wr (fun W hW => (IH.out (wts t.kids) (by have := HWE.out; have := HWA.out; have := HWL.out; omega) t.kids (.slice ka t.kids.length kcap) W (Nat.le_refl _) (by have := HWE.out; have := HWA.out; have := HWL.out; omega) (RT_later HKV.out (HC.out.bl.trans (hW.mono HC.out.bl.size)))).mono (fun e w' h => by
          obtain ⟨qa, qc, rfl, V', hd⟩ := h
          exact ⟨⟨qa, qc, rfl, hd.iw.done⟩, hd.bl⟩)))
        have HLT : Hid ((l.take k).length = k) := hide (by rw [List.length_take]; omega)
        clear hkr ht
        unfold iC at HCP
        go_wp2_with fail
        refine HCP.out.mono ?_
        rintro e w6 ⟨⟨qa, qc, rfl, hpt⟩, hb6⟩
        have C6 := hide (HC.out.later hb6)
        have BX := hide ((Below.refl w6.heap.size w6).alloc (Nat.le_refl _) (.cells #[.string ⟨t.itm.tag.toArray⟩, .string ⟨t.itm.qual.toArray⟩, .string ⟨t.itm.text.toArray⟩, .string ⟨t.itm.name.toArray⟩, .slice qa t.kids.length qc] 25))
        have X6 : Hid (Ix (w6.alloc (.cells #[.string ⟨t.itm.tag.toArray⟩, .string ⟨t.itm.qual.toArray⟩, .string ⟨t.itm.text.toArray⟩, .string ⟨t.itm.name.toArray⟩, .slice qa t.kids.length qc] 25)) w6.heap.size t.itm (.slice qa t.kids.length qc)) := hide (alloc_new w6 _)
        have C7 := hide (C6.out.later BX.out)
        have HPT : Hid (PT (w6.alloc (.cells #[.string ⟨t.itm.tag.toArray⟩, .string ⟨t.itm.qual.toArray⟩, .string ⟨t.itm.text.toArray⟩, .string ⟨t.itm.name.toArray⟩, .slice qa t.kids.length qc] 25)) (fun x => wr.heap.size ≤ x ∧ x < w6.heap.size) (.slice qa t.kids.length qc) t.kids) := hide (PT_kept (fun g hg hg2 => BX.out.block g hg2) BX.out.size (fun g hg _ => hg) _ _ _ (Nat.le_refl _) hpt)
        have HVL : Hid (∀ x, u3.ownBlock = some x → x < wr.heap.size) := hide (fun x hx => (own_ltq HC.out.iw.row x hx).2)
        have HWS : Hid (w.heap.size ≤ wr.heap.size) := hide HC.out.bl.size
        have HS6 : Hid (wr.heap.size ≤ w6.heap.size) := hide hb6.size
        have HOW := hide C7.out.iw.row
        rw [HLT.out] at HOW
        obtain ⟨w7, hW7⟩ : ∃ w7, w6.alloc (.cells #[.string ⟨t.itm.tag.toArray⟩, .string ⟨t.itm.qual.toArray⟩, .string ⟨t.itm.text.toArray⟩, .string ⟨t.itm.name.toArray⟩, .slice qa t.kids.length qc] 25) = w7 := ⟨_, rfl⟩
        have HS7 : Hid (w6.heap.size + 1 = w7.heap.size) := hide (by rw [← hW7]; simp)
        rw [hW7] at X6 C7 HPT HOW
        clear hb6 hpt c0 c1 c2 c3 c4 HCP BX C6
        (try unfold iC)
        go_wp2_with (first
          | (refine wpList_load_row rfl 25 (.tmp 5) rfl w6.heap.size rfl _ (iC t.itm (.slice qa t.kids.length qc)) _ _ X6.out Tryz.underlying25 rfl Tryz.sizeItm ?_; unfold iC)
          | (at_builtin; refine wp_append_itm rfl _ _ rfl w.heap.size _ k _ rfl (HOW.out.alloc _) _ 1 1 [.string ⟨t.itm.tag.toArray⟩, .string ⟨t.itm.qual.toArray⟩, .string ⟨t.itm.text.toArray⟩, .string ⟨t.itm.name.toArray⟩, .slice qa t.kids.length qc] rfl rfl (by decide) ?c1 ?c2 ?c3 ?c4 ?_))
        case c1 =>
          intro j u hj
          match j, hj with
          | 0, hj => simp at hj; subst hj; simp [Addr.add]
          | 1, hj => simp at hj; subst hj; simp [Addr.add]
          | 2, hj => simp at hj; subst hj; simp [Addr.add]
          | 3, hj => simp at hj; subst hj; simp [Addr.add]
          | 4, hj => simp at hj; subst hj; simp [Addr.add]
        case c2 => intro u hu; simp at hu; rcases hu with rfl | rfl | rfl | rfl | rfl <;> rfl
        case c3 => have := HWS.out; have := HS6.out; have := HS7.out; simp; omega
        case c4 => omega
        intro v' w8 hown' hgrow hfresh
        have BB := hide ((Below.refl w7.heap.size w7).alloc (Nat.le_refl _) (.cells #[.string ⟨t.itm.tag.toArray⟩, .string ⟨t.itm.qual.toArray⟩, .string ⟨t.itm.text.toArray⟩, .string ⟨t.itm.name.toArray⟩, .slice qa t.kids.length qc] 25))
        have C8 := hide ((C7.out.later BB.out).snoc (a := t) (u := .slice qa t.kids.length qc) (lo := wr.heap.size) (by rw [HLT.out]; exact hown') hgrow (fun x hx => (hfresh x hx).imp id (fun h => by simpa using h)) HWS.out HVL.out (PT_kept (fun g hg hg2 => BB.out.block g hg2) BB.out.size (fun g hg hg2 => ⟨hg.1, Nat.lt_of_lt_of_le hg2 BB.out.size⟩) _ _ _ (Nat.le_refl _) HPT.out))
        rw [← HTK.out] at C8
        clear hown' hgrow hfresh BB
        go_wp2_with fail
        go_roundw
        case rel => exact ⟨k + 1, _, by omega, by go_num, C8⟩
        case measure => simp [intOf]; omega
      · have hk' : k = l.length := by omega
        subst hk'
        rw [List.take_length] at HC
        obtain ⟨qa, qc, hv, _⟩ := HC.out.iw.done
        subst hv
        go_wp2_with fail
        go_ret
        exact ⟨qa, qc, rfl, V, HC.out⟩
theorem Tryz.fldItems (i : Itm) (a : Option Addr) (n c : Nat) (w : World) : (Instr.field 25 (.agg #[.string ⟨i.tag.toArray⟩, .string ⟨i.qual.toArray⟩, .string ⟨i.text.toArray⟩, .string ⟨i.name.toArray⟩, .slice a n c]) 4).run Tryz.prog w = .ok (.slice a n c) w := by kernel_rfl
def blkL (nm : List UInt8) : List Tr → Option (List Tr)
  | [] => none
  | a :: r => if a.itm.tag.isEmpty && !a.itm.name.isEmpty && (a.itm.name == nm) then some a.kids else blkL nm r
theorem blkL_step {nm : List UInt8} {l : List Tr} {k : Nat} {a : Tr} (h : l[k]? = some a) : blkL nm (l.drop k) = if a.itm.tag.isEmpty && !a.itm.name.isEmpty && (a.itm.name == nm) then some a.kids else blkL nm (l.drop (k + 1)) := by rw [drop_cons h, blkL]
def BO (w w' : World) (e : Ending) : Option (List Tr) → Prop
  | none => e = .returned (.tuple #[.slice none 0 0, .bool false])
  | some m => ∃ a cap, e = .returned (.tuple #[.slice a m.length cap, .bool true]) ∧ PA w' (fun g => w.heap.size ≤ g ∧ g < w'.heap.size) (.slice a m.length cap) m
set_option maxRecDepth 100000 in
set_option maxHeartbeats 4000000 in
theorem tBlock_any (nm : List UInt8) (l : List Tr) (v : Value) (w : World) (hD : wts l ≤ 1099511627776) (hv : RT w v l) :
    Calls Tryz.prog 37 #[v, .string ⟨nm.toArray⟩] w fun e w' => BO w w' e (blkL nm l) ∧ Below w.heap.size w w' := by
  obtain ⟨a, cap, rfl, hr⟩ := hv
  have HR := hide hr
  have HWL := hide hD
  have hll : l.length ≤ 1099511627776 := by have := wts_len l; omega
  clear hr hD
  go_enter Tryz.func37, Tryz.ntmps37
  go_wp2_with fail
  go_loopw [10] (fun n wr => ∃ (k : Nat), k ≤ l.length ∧ n = .int .i64 k ∧ Hid (blkL nm l = blkL nm (l.drop k)) ∧ Hid (Below w.heap.size w wr)) (fun n _ => l.length - (intOf n).toNat)
  case atStart => exact ⟨0, Nat.zero_le _, rfl, hide rfl, hide (Below.refl _ _)⟩
  case round =>
    obtain ⟨k, hk, rfl, HF, HB⟩ := hrel
    by_cases hlt : k < l.length
    · obtain ⟨t, ht⟩ : ∃ t, l[k]? = some t := ⟨_, List.getElem?_eq_getElem hlt⟩
      have HFS := hide (HF.out.trans (blkL_step ht))
      have HWE := hide (wt_eq t)
      have HWA := hide (wts_at ht)
      have HTIO := hide (iok_of HWA.out (by have := HWL.out; omega))
      obtain ⟨bb, off, kv, ha, hbl, c0, c1, c2, c3, c4, hkv⟩ := RT_at HR.out ht
      have c0 := (HB.out.cell (p := ⟨bb, _, none⟩) hbl).trans c0
      have c1 := (HB.out.cell (p := ⟨bb, _, none⟩) hbl).trans c1
      have c2 := (HB.out.cell (p := ⟨bb, _, none⟩) hbl).trans c2
      have c3 := (HB.out.cell (p := ⟨bb, _, none⟩) hbl).trans c3
      have c4 := (HB.out.cell (p := ⟨bb, _, none⟩) hbl).trans c4
      subst ha
      obtain ⟨ka, kcap, rfl, hkr⟩ := hkv
      have HKV : Hid (RT w (.slice ka t.kids.length kcap) t.kids) := hide ⟨ka, kcap, rfl, hkr⟩
      have HIB := hide (fun W : World => isBlock_any t.itm (.slice ka t.kids.length kcap) W)
      have XA := hide (Ix.new wr t.itm (.slice ka t.kids.length kcap))
      have BA := hide ((Below.refl wr.heap.size wr).alloc (Nat.le_refl _) (.cells (iC t.itm (.slice ka t.kids.length kcap)) 25))
      clear hkr ht HF
      unfold iC at XA BA
      cases hib : (t.itm.tag.isEmpty && !t.itm.name.isEmpty) with
      | false =>
        rw [hib] at HIB
        have HFN : Hid (blkL nm l = blkL nm (l.drop (k + 1))) := by show _ = _; rw [HFS.out, hib]; rfl
        clear HFS hib
        go_wp2_with (refine wpList_load_row rfl 25 (.tmp 7) rfl wr.heap.size rfl _ (iC t.itm (.slice ka t.kids.length kcap)) _ _ XA.out Tryz.underlying25 rfl Tryz.sizeItm ?_)
        refine (HIB.out _).mono ?_
        rintro e w1 ⟨rfl, hb1⟩
        have B1 := hide (HB.out.trans ((BA.out.trans (hb1.mono BA.out.size)).mono HB.out.size))
        clear hb1 c0 c1 c2 c3 c4
        go_wp2_with fail
        go_roundw
        case rel => exact ⟨k + 1, by omega, by go_num, HFN, B1⟩
        case measure => simp [intOf]; omega
      | true =>
        rw [hib] at HIB
        cases hnm : t.itm.name == nm with
        | false =>
          have HFN : Hid (blkL nm l = blkL nm (l.drop (k + 1))) := by show _ = _; rw [HFS.out, hib, hnm]; rfl
          clear HFS hib
          go_wp2_with (refine wpList_load_row rfl 25 (.tmp 7) rfl wr.heap.size rfl _ (iC t.itm (.slice ka t.kids.length kcap)) _ _ XA.out Tryz.underlying25 rfl Tryz.sizeItm ?_)
          refine (HIB.out _).mono ?_
          rintro e w1 ⟨rfl, hb1⟩
          have X1 := hide (Ix.later XA.out hb1)
          have B1 := hide (HB.out.trans ((BA.out.trans (hb1.mono BA.out.size)).mono HB.out.size))
          clear hb1 c0 c1 c2 c3 c4
          have x3 := X1.out.name trivial
          go_wp2_with fail
          go_roundw
          case rel => exact ⟨k + 1, by omega, by go_num, HFN, B1⟩
          case measure => simp [intOf]; omega
        | true =>
          have HFF : Hid (blkL nm l = some t.kids) := by show _ = _; rw [HFS.out, hib, hnm]; rfl
          clear HFS hib
          go_wp2_with (refine wpList_load_row rfl 25 (.tmp 7) rfl wr.heap.size rfl _ (iC t.itm (.slice ka t.kids.length kcap)) _ _ XA.out Tryz.underlying25 rfl Tryz.sizeItm ?_)
          refine (HIB.out _).mono ?_
          rintro e w1 ⟨rfl, hb1⟩
          have X1 := hide (Ix.later XA.out hb1)
          have B1 := hide (HB.out.trans ((BA.out.trans (hb1.mono BA.out.size)).mono HB.out.size))
          clear hb1 c0 c1 c2 c3 c4
          have x3 := X1.out.name trivial
          have HCP := hide (copied_any (wts t.kids) t.itm t.kids (.slice ka t.kids.length kcap) w1 (Nat.le_refl _) (by have := HWE.out; have := HWA.out; have := HWL.out; omega) HTIO.out (RT_later HKV.out B1.out))
          go_wp2_with (refine wpList_load_row rfl 25 (.tmp 7) rfl wr.heap.size rfl _ (iC t.itm (.slice ka t.kids.length kcap)) _ _ X1.out Tryz.underlying25 rfl Tryz.sizeItm ?_)
          refine HCP.out.mono ?_
          rintro e w3 ⟨⟨qa, qc, rfl, hpt⟩, hb3⟩
          have B3 := hide (B1.out.trans (hb3.mono B1.out.size))
          have HP3 : Hid (PA w3 (fun g => w.heap.size ≤ g ∧ g < w3.heap.size) (.slice qa t.kids.length qc) t.kids) := hide (PA_kept (fun _ _ _ => rfl) (Nat.le_refl _) (fun g hg _ => ⟨by have := hg.1; have := B1.out.size; omega, hg.2⟩) _ _ _ (Nat.le_refl _) hpt)
          clear hb3 hpt x3
          unfold iC
          have hfi := Tryz.fldItems t.itm qa t.kids.length qc w3
          go_wp2_with fail
          go_ret2
          exact ⟨by rw [HFF.out]; exact ⟨qa, qc, rfl, HP3.out⟩, B3.out⟩
    · have hk' : k = l.length := by omega
      subst hk'
      have HFN : Hid (blkL nm l = none) := by show _ = _; rw [HF.out, List.drop_of_length_le (Nat.le_refl _), blkL]
      clear HF
      go_wp2_with fail
      go_ret2
      exact ⟨by rw [HFN.out]; rfl, HB.out⟩
end Go.Proofs.YtpkgaidnpooahaaGreatDoor
namespace Go.Proofs.YtpkgaidnpooahaaGreatDoor
open Go.RowKit

/-- What the document's Find ends with. -/
def FD (w' : World) (e : Ending) : Option Tr → Prop
  | none => e = .returned (.tuple #[.agg (iC ⟨[], [], [], []⟩ (.slice none 0 0)), .bool false])
  | some x => ∃ a cap, e = .returned (.tuple #[.agg (iC x.itm (.slice a x.kids.length cap)), .bool true]) ∧ RT w' (.slice a x.kids.length cap) x.kids
/-- What the document's Block ends with. -/
def BD (w' : World) (e : Ending) : Option (List Tr) → Prop
  | none => e = .returned (.tuple #[.slice none 0 0, .bool false])
  | some m => ∃ a cap, e = .returned (.tuple #[.slice a m.length cap, .bool true]) ∧ RT w' (.slice a m.length cap) m
theorem copies (l : List Tr) (ka : Option Addr) (kc : Nat) (w : World) (hD : wts l ≤ 1099511627776) (hv : RT w (.slice ka l.length kc) l) :
    Calls Tryz.prog 62 #[.slice ka l.length kc] w fun e w' => (∃ a cap, e = .returned (.slice a l.length cap) ∧ PT w' (fun x => w.heap.size ≤ x ∧ x < w'.heap.size) (.slice a l.length cap) l) ∧ Below w.heap.size w w' :=
  (copyItems_any _ l _ w (Nat.le_refl _) hD hv).mono (fun _ _ ⟨a, cap, h1, _, h2⟩ => ⟨⟨a, cap, h1, h2.iw.done⟩, h2.bl⟩)
set_option maxRecDepth 100000 in
set_option maxHeartbeats 4000000 in
theorem dBlock_any (nm : List UInt8) (l : List Tr) (v : Value) (w : World) (hD : wts l ≤ 1099511627776) (hv : RT w v l) :
    Calls Tryz.prog 36 #[v, .string ⟨nm.toArray⟩] w fun e w' => BD w' e (blkL nm l) ∧ Below w.heap.size w w' := by
  obtain ⟨a, cap, rfl, hr⟩ := hv
  have HR := hide hr
  have hll : l.length ≤ 1099511627776 := by have := wts_len l; omega
  have HWL := hide hD
  clear hr hD
  go_enter Tryz.func36, Tryz.ntmps36
  go_wp2_with fail
  go_loop [6] (fun n => ∃ k : Nat, k ≤ l.length ∧ n = .int .i64 (k : Int) ∧ Hid (blkL nm (l.drop k) = blkL nm l)) (fun n => l.length - (intOf n).toNat)
  case atStart => exact ⟨0, Nat.zero_le _, rfl, hide rfl⟩
  case round =>
    obtain ⟨k, hk, rfl, HBL⟩ := hrel
    by_cases hlt : k < l.length
    · obtain ⟨t, ht⟩ : ∃ t, l[k]? = some t := ⟨_, List.getElem?_eq_getElem hlt⟩
      have HST := hide (blkL_step (nm := nm) ht)
      have HWA := hide (wts_at ht)
      have HWE := hide (wt_eq t)
      have hkn : (k : Int) < (l.length : Int) := by omega
      have hk0 : (0 : Int) ≤ (k : Int) := by omega
      obtain ⟨bb, off, kv, ha, hbl, c0, c1, c2, c3, c4, hkv⟩ := RT_at HR.out ht
      subst ha
      obtain ⟨ka, kcap, rfl, hkr⟩ := hkv
      have HCP := hide (copies t.kids ka kcap w (by have := HWA.out; have := HWE.out; have := HWL.out; omega) ⟨ka, kcap, rfl, hkr⟩)
      clear hkr ht c1 c2
      cases hte : t.itm.tag.isEmpty with
      | false =>
        have hneq : (t.itm.tag == []) = false := beq_eq_false_iff_ne.2 (fun e => by rw [e] at hte; simp at hte)
        have HNX : Hid (blkL nm (l.drop (k + 1)) = blkL nm l) := hide (by rw [← HBL.out, HST.out, hte]; simp)
        clear hte HST
        go_wp2_with fail
        go_round
        case rel => exact ⟨k + 1, by omega, by go_num, HNX⟩
        case measure => simp [intOf]; omega
      | true =>
        have hneq : (t.itm.tag == []) = true := beq_iff_eq.2 (List.isEmpty_iff.1 hte)
        cases hne : t.itm.name.isEmpty with
        | true =>
          have hnn : (t.itm.name == []) = true := beq_iff_eq.2 (List.isEmpty_iff.1 hne)
          have HNX : Hid (blkL nm (l.drop (k + 1)) = blkL nm l) := hide (by rw [← HBL.out, HST.out, hte, hne]; simp)
          clear hte hne HST
          go_wp2_with fail
          go_round
          case rel => exact ⟨k + 1, by omega, by go_num, HNX⟩
          case measure => simp [intOf]; omega
        | false =>
          have hnn : (t.itm.name == []) = false := beq_eq_false_iff_ne.2 (fun e => by rw [e] at hne; simp at hne)
          cases hnm : t.itm.name == nm with
          | false =>
            have HNX : Hid (blkL nm (l.drop (k + 1)) = blkL nm l) := hide (by rw [← HBL.out, HST.out, hte, hne, hnm]; simp)
            clear hte hne HST
            go_wp2_with fail
            go_round
            case rel => exact ⟨k + 1, by omega, by go_num, HNX⟩
            case measure => simp [intOf]; omega
          | true =>
            have HNX : Hid (blkL nm l = some t.kids) := hide (by rw [← HBL.out, HST.out, hte, hne, hnm]; simp)
            clear hte hne HST
            go_wp2_with fail
            refine HCP.out.mono ?_
            rintro e w1 ⟨⟨qa, qc, rfl, hpt⟩, hb1⟩
            have R1 := hide (PT_rt _ _ _ (Nat.le_refl _) hpt)
            have B1 := hide hb1
            clear hb1 hpt
            go_wp2_with fail
            go_ret2
            rw [HNX.out]
            exact ⟨⟨qa, qc, rfl, R1.out⟩, B1.out⟩
    · have hk' : k = l.length := by omega
      subst hk'
      have HN : Hid (blkL nm l = none) := hide (by rw [← HBL.out, List.drop_length]; rfl)
      go_wp2_with fail
      go_ret2
      rw [HN.out]
      exact ⟨rfl, Below.refl _ _⟩
set_option maxRecDepth 100000 in
set_option maxHeartbeats 2000000 in
theorem dCount_any (l : List Tr) (v : Value) (w : World) (hD : wts l ≤ 1099511627776) (hv : RT w v l) :
    Calls Tryz.prog 38 #[v] w fun e w' => e = .returned (.int .i64 (cntL l : Int)) ∧ Below w.heap.size w w' := by
  have HF := hide (fields_any w _ l v w (Nat.le_refl _) hD hv (Below.refl _ _))
  have HL := hide (fls_len _ l (Nat.le_refl _))
  go_enter Tryz.func38, Tryz.ntmps38
  go_wp2_with fail
  refine HF.out.mono ?_
  rintro e w1 ⟨⟨qa, qc, V, rfl, _⟩, hb1⟩
  have B1 := hide hb1
  clear hb1
  rw [HL.out]
  go_wp2_with fail
  go_ret
  exact ⟨rfl, B1.out⟩
theorem find_none {p : Tr → Bool} {l : List Tr} (h : ∀ (j : Nat) (a : Tr), l[j]? = some a → p a = false) : l.find? p = none := by
  rw [List.find?_eq_none]
  intro x hx
  obtain ⟨j, hj⟩ := List.getElem?_of_mem hx
  rw [h j x hj]; decide
theorem find_at {p : Tr → Bool} : ∀ {l : List Tr} {k : Nat} {a : Tr}, l[k]? = some a → p a = true → (∀ (j : Nat) (b : Tr), j < k → l[j]? = some b → p b = false) → l.find? p = some a
  | x :: r, 0, a, h, hp, _ => by simp at h; subst h; rw [List.find?_cons, hp]
  | x :: r, k + 1, a, h, hp, hn => by
    rw [List.find?_cons, hn 0 x (by omega) rfl]
    exact find_at (k := k) (by simpa using h) hp (fun j b hj hb => hn (j + 1) b (by omega) (by simpa using hb))
set_option maxRecDepth 100000 in
set_option maxHeartbeats 4000000 in
theorem dFind_any (tag qual : List UInt8) (l : List Tr) (v : Value) (w : World) (hD : wts l ≤ 1099511627776) (hv : RT w v l) :
    Calls Tryz.prog 35 #[v, .string ⟨tag.toArray⟩, .string ⟨qual.toArray⟩] w fun e w' => FD w' e (fndL tag qual l) ∧ Below w.heap.size w w' := by
  have Y0 := hide (Ix.new w ⟨[], [], [], []⟩ (.slice none 0 0))
  have B0 := hide ((Below.refl w.heap.size w).alloc (Nat.le_refl _) (.cells (iC ⟨[], [], [], []⟩ (.slice none 0 0)) 25))
  have HF := hide (fields_any w _ l v (w.alloc (.cells (iC ⟨[], [], [], []⟩ (.slice none 0 0)) 25)) (Nat.le_refl _) hD hv B0.out)
  have HFN := hide (fls_find tag qual _ l (Nat.le_refl _))
  have HLN : Hid ((flsL l).length ≤ 1099511627776) := hide (by rw [fls_len _ l (Nat.le_refl _)]; have := cntL_le _ l (Nat.le_refl _); omega)
  have HWL : Hid (∀ t ∈ flsL l, wts t.kids ≤ 1099511627776) := hide (fun t ht => by have := fls_wts _ l (Nat.le_refl _) t ht; omega)
  generalize flsL l = F at *
  clear hv hD
  unfold iC at Y0 B0 HF
  dsimp only at Y0 B0 HF
  go_enter Tryz.func35, Tryz.ntmps35
  go_wp2_with fail
  refine HF.out.mono ?_
  rintro e W ⟨⟨qa, qc, V, rfl, hfq⟩, hb1⟩
  have HQ := hide hfq
  have B1 := hide (B0.out.trans (hb1.mono B0.out.size))
  have Y1 : Hid (Ix W w.heap.size ⟨[], [], [], []⟩ (.slice none 0 0)) := hide ((hb1.block w.heap.size (by simp)).trans Y0.out)
  have hfl := HLN.out
  clear hb1 hfq HF
  go_wp2_with fail
  go_loop [9] (fun n => ∃ k : Nat, k ≤ F.length ∧ n = .int .i64 (k : Int) ∧ Hid (∀ j b, j < k → F[j]? = some b → (b.itm.tag == tag && b.itm.qual == qual) = false)) (fun n => F.length - (intOf n).toNat)
  case atStart => exact ⟨0, Nat.zero_le _, rfl, hide (fun j b h => by omega)⟩
  case round =>
    obtain ⟨k, hk, rfl, HNO⟩ := hrel
    by_cases hlt : k < F.length
    · obtain ⟨t, ht⟩ : ∃ t, F[k]? = some t := ⟨_, List.getElem?_eq_getElem hlt⟩
      obtain ⟨u, hu⟩ : ∃ u, V[k]? = some u := ⟨_, List.getElem?_eq_getElem (by rw [HQ.out.len]; exact hlt)⟩
      obtain ⟨g, c, hv, _, _⟩ : ∃ g cap, Value.slice qa F.length qc = .slice (some ⟨g, 0, none⟩) F.length cap ∧ True ∧ True := by
        rcases HQ.out.row.2 with ⟨_, h0⟩ | ⟨g, cap, cur, hv, _⟩
        · omega
        · exact ⟨g, cap, hv, trivial, trivial⟩
      injection hv with e1 _ e3
      subst e1; subst e3
      have hkn : (k : Int) < (F.length : Int) := by omega
      have hk0 : (0 : Int) ≤ (k : Int) := by omega
      obtain ⟨d0, d1, d2, d3, d4⟩ := ic_at F V k t u ht hu
      have hcc := fun j x hj => World.ownsRow.cells HQ.out.row rfl j x hj
      have c0 := hcc _ _ d0
      have c1 := hcc _ _ d1
      have c2 := hcc _ _ d2
      have c3 := hcc _ _ d3
      have c4 := hcc _ _ d4
      rw [Addr.add_lit, Nat.zero_add] at c0 c1 c2 c3 c4
      obtain ⟨ka, kcap, rfl, hkr⟩ := HQ.out.kids k t u ht hu
      have HTK := hide ht
      clear d0 d1 d2 d3 d4 hcc hu
      have nxt : (t.itm.tag == tag && t.itm.qual == qual) = false → Hid (∀ j b, j < k + 1 → F[j]? = some b → (b.itm.tag == tag && b.itm.qual == qual) = false) := fun hf => hide (fun j b hj hb => by
        by_cases e : j = k
        · subst e; rw [HTK.out] at hb; cases hb; exact hf
        · exact HNO.out j b (by omega) hb)
      cases htg : t.itm.tag == tag with
      | false =>
        have HNX := nxt (by rw [htg]; rfl)
        clear nxt ht hkr
        go_wp2_with fail
        go_round
        case rel => exact ⟨k + 1, by omega, by go_num, HNX⟩
        case measure => simp [intOf]; omega
      | true =>
        cases hql : t.itm.qual == qual with
        | false =>
          have HNX := nxt (by rw [htg, hql]; rfl)
          clear nxt ht hkr
          go_wp2_with fail
          go_round
          case rel => exact ⟨k + 1, by omega, by go_num, HNX⟩
          case measure => simp [intOf]; omega
        | true =>
          have HFD : Hid (fndL tag qual l = some t) := hide (by rw [← HFN.out]; exact find_at HTK.out (by rw [htg, hql]; rfl) HNO.out)
          have HRG : Hid (W.rangeAt g (k * 5) (iC t.itm (.slice ka t.kids.length kcap)).toList) := hide (fun j x hj => by
            unfold iC at hj
            match j, hj with
            | 0, hj => simp at hj; subst hj; exact c0
            | 1, hj => simp at hj; subst hj; exact c1
            | 2, hj => simp at hj; subst hj; exact c2
            | 3, hj => simp at hj; subst hj; exact c3
            | 4, hj => simp at hj; subst hj; exact c4)
          have HKW : Hid (RT W (.slice ka t.kids.length kcap) t.kids) := hide (RT_later ⟨ka, kcap, rfl, hkr⟩ B1.out)
          have HCI := hide (copyItem_of t.itm t.kids ka kcap W (fun W' hW' => copies t.kids ka kcap W' (HWL.out t (List.mem_of_getElem? HTK.out)) (RT_later HKW.out hW')))
          have HWS : Hid (w.heap.size < W.heap.size) := hide Y1.out.lt
          clear nxt ht hkr
          go_wp2_with (refine wpList_load_mid rfl 25 _ rfl g (k * 5) rfl (iC t.itm (.slice ka t.kids.length kcap)).toList _ HRG.out Tryz.underlying25 rfl Tryz.sizeItm ?_)
          refine HCI.out.mono ?_
          rintro e w3 ⟨⟨xa, xc, rfl, hpt⟩, hb3⟩
          have B3 := hide (B1.out.trans (hb3.mono B1.out.size))
          have Y3 := hide (Y1.out.later hb3)
          have HP3 := hide hpt
          clear hb3 hpt
          go_wp2_with (refine wpList_store_row rfl 25 (.tmp 6) _ rfl w.heap.size (iC t.itm (.slice xa t.kids.length xc)) rfl rfl _ _ Y3.out Tryz.sizeItm rfl (iC_one _ _ _ _) ?_)
          (try simp only [Exit.inBlock, Exit.then])
          refine bodyPost_ret (v := .tuple #[.agg (iC t.itm (.slice xa t.kids.length xc)), .bool true]) ?_ rfl ⟨by rw [HFD.out]; exact ⟨xa, xc, rfl, PT_rt _ _ _ (Nat.le_refl _) (PT_kept (w := w3) (S' := fun _ => True) (fun g hg _ => setRow_otherk _ _ _ _ (by have := HWS.out; omega)) (by rw [size_setRow]; exact Nat.le_refl _) (fun _ _ _ => trivial) _ _ _ (Nat.le_refl _) HP3.out)⟩, below_setRow B3.out (Nat.le_refl _) _⟩
          exact ret_cell_tmp rfl _ _ w.heap.size 25 (iC t.itm (.slice xa t.kids.length xc)) (0, 0) _ _ rfl rfl (setRow_heap _ _ _ _ _ _ Y3.out) Tryz.underlying25 rfl Tryz.sizeItm
    · have hk' : k = F.length := by omega
      subst hk'
      have HFD : Hid (fndL tag qual l = none) := hide (by rw [← HFN.out]; exact find_none (fun j b hb => HNO.out j b (List.getElem?_eq_some_iff.1 hb).1 hb))
      go_wp2_with (refine wpList_store_row rfl 25 (.tmp 6) _ rfl w.heap.size (iC ⟨[], [], [], []⟩ (.slice none 0 0)) rfl rfl _ _ Y1.out Tryz.sizeItm rfl (iC_one _ _ _ _) ?_)
      (try simp only [Exit.inBlock, Exit.then])
      refine bodyPost_ret (v := .tuple #[.agg (iC ⟨[], [], [], []⟩ (.slice none 0 0)), .bool false]) ?_ rfl ⟨by rw [HFD.out]; rfl, below_setRow B1.out (Nat.le_refl _) _⟩
      exact ret_cell_tmp rfl _ _ w.heap.size 25 (iC ⟨[], [], [], []⟩ (.slice none 0 0)) (0, 0) _ _ rfl rfl (setRow_heap _ _ _ _ _ _ Y1.out) Tryz.underlying25 rfl Tryz.sizeItm
end Go.Proofs.YtpkgaidnpooahaaGreatDoor
