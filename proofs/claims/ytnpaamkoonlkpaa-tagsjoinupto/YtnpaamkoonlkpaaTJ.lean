/-
  My own text: the law of two messages one behind the other, whole (put together by mktj.py).
-/
import Derived.Test.YtnpaamkoonlkpaaTB5
import Derived.Test.YtnpaamkoonlkpaaQW
import Derived.Test.YtnpaamkoonlkpaaQC
import Derived.Test.YtnpaamkoonlkpaaQF
import Derived.Test.YtnpaamkoonlkpaaQY
import Derived.Test.YtnpaamkoonlkpaaQN
import Derived.Test.YtnpaamkoonlkpaaQ6
import Derived.Test.YtnpaamkoonlkpaaT15
namespace Go.Proofs.Ytnpaamkoonlkpaa
open Go.RowKit

mutual
def flI : Tr → Nat
  | .mk i k => (if i.tag.isEmpty then 0 else 1) + flL k
def flL : List Tr → Nat
  | [] => 0
  | a :: r => flI a + flL r
end
theorem flI_eq (a : Tr) : flI a = (if a.itm.tag.isEmpty then 0 else 1) + flL a.kids := by cases a; rw [flI]; rfl
theorem flL_cons (a : Tr) (r : List Tr) : flL (a :: r) = flI a + flL r := by rw [flL]
theorem flL_app (x y : List Tr) : flL (x ++ y) = flL x + flL y := by
  induction x with
  | nil => simp [flL]
  | cons a r ih => rw [List.cons_append, flL_cons, flL_cons, ih, Nat.add_assoc]
theorem flL_take {l : List Tr} {k : Nat} {a : Tr} (h : l[k]? = some a) : flL (l.take (k + 1)) = flL (l.take k) + flI a := by
  rw [List.take_add_one, h, flL_app]; simp [flL]
theorem flL_le : ∀ (D : Nat) (l : List Tr), wts l ≤ D → flL l ≤ wts l := by
  intro D
  induction D using Nat.strongRecOn with
  | ind D ih =>
    intro l
    induction l with
    | nil => intro _; simp [flL, wts]
    | cons a r ihr =>
      intro hD
      rw [wts_cons] at hD ⊢
      have hw := wt_eq a
      have h2 := ihr (by omega)
      have h3 := ih (wts a.kids) (by omega) a.kids (Nat.le_refl _)
      rw [flL_cons, flI_eq]
      split <;> omega
theorem flL_take_le (l : List Tr) (k : Nat) : flL (l.take k) ≤ flL l := by
  conv => rhs; rw [← List.take_append_drop k l]
  rw [flL_app]; omega
/-- Of a message both ways of counting tell the same. -/
theorem flL_cnt : ∀ (D : Nat) (l : List Tr) (d : Int), wts l ≤ D → errL l d = 0 → flL l = cntL l := by
  intro D
  induction D using Nat.strongRecOn with
  | ind D ih =>
    intro l
    induction l with
    | nil => intro d _ _; simp [flL, cntL]
    | cons a r ihr =>
      intro d hD he
      obtain ⟨g1, g2⟩ := errL_left (x := [a]) (y := r) he
      rw [errL_one] at g1
      rw [wts_cons] at hD
      have hw := wt_eq a
      have h2 := ihr d (by omega) g2
      have e := errI_eq a d
      rw [g1] at e
      have hi : itemE a.itm a.kids.length d = 0 := by
        by_cases hz : itemE a.itm a.kids.length d = 0
        · exact hz
        · rw [if_pos hz] at e; exact absurd e.symm hz
      rw [flL_cons, cntL_cons, h2, flI_eq, cntI_eq]
      cases hta : a.itm.tag.isEmpty with
      | false =>
        rw [itemE_field hta] at hi
        obtain ⟨_, _, _, q4, _⟩ := fE_zero hi
        have hk : a.kids = [] := List.length_eq_zero_iff.1 (of_decide_eq_true q4)
        rw [hk]; simp [flL]
      | true =>
        rw [hta, hi] at e
        simp only [ne_eq, not_true, if_false, Bool.not_true, Bool.false_eq_true] at e
        have h3 := ih (wts a.kids) (by omega) a.kids (d + 1) (Nat.le_refl _) e.symm
        have hne : a.itm.name.isEmpty = false := by
          cases hn : a.itm.name.isEmpty with
          | false => rfl
          | true => rw [itemE_none hta hn] at hi; omega
        rw [hne, h3]; simp

set_option maxRecDepth 100000 in
theorem message_any (l : List Tr) (v : Value) (d : Nat) (w : World) (hD : wts l ≤ 1099511627776) (hd : d ≤ 8) (hv : RT w v l) :
    Calls Try.prog 4 #[v, .int .i64 (d : Int)] w fun e w' => (∃ a cap m, e = .returned (.slice a (m : List Tr).length cap) ∧ RT w' (.slice a m.length cap) m ∧ errL m d = 0 ∧ (txtL m).length ≤ 72000 ∧ (a = none → cap = 0)) ∧ Below w.heap.size w w' := by
  have B0 := hide ((Below.refl w.heap.size w).alloc (Nat.le_refl _) (.cells #[.int .i64 300] 3))
  have HT := hide (tidy_any w w.heap.size (Nat.le_refl _) (wts l) d l v 300 (w.alloc (.cells #[.int .i64 300] 3)) (Nat.le_refl _) hD (Nat.le_refl _) hd hv B0.out (alloc_new w _))
  obtain ⟨a, cap, rfl, hr⟩ := hv
  clear hr hD
  go_enter Try.func4, Try.ntmps4
  go_wp2_with fail
  refine HT.out.mono ?_
  rintro e w1 ⟨qa, qc, m, n', rfl, hnc, hpt, herr, hle, hbk, hlen, hcnt, hmv⟩
  have R1 := hide (PT_rt _ _ _ (Nat.le_refl _) hpt)
  have E1 := hide herr
  have NC := hide hnc
  have L1 : Hid ((txtL m).length ≤ 72000) := hide (by omega)
  have B1 := hide (Mv.below B0.out hmv (by simp) (Nat.le_refl _) (Nat.le_refl _))
  clear hpt herr hle hbk hlen hcnt hmv HT hnc
  go_wp2_with fail
  go_ret
  exact ⟨⟨qa, qc, m, rfl, R1.out, E1.out, L1.out, NC.out⟩, B1.out⟩

theorem itemE_low {i : Itm} {n : Nat} {d d' : Int} (hd : d' ≤ d) (h : itemE i n d = 0) : itemE i n d' = 0 := by
  unfold itemE at h ⊢
  split at h
  · rename_i h1; rw [if_pos h1]; exact h
  · rename_i h1
    rw [if_neg h1]
    split at h
    · rename_i h2; rw [if_pos h2]; exact h
    · rename_i h2
      rw [if_neg h2]
      unfold blockE at h ⊢
      by_cases h8 : 8 ≤ d
      · unfold bE at h; rw [decide_eq_true h8] at h; simp at h
      · rw [decide_eq_false h8] at h
        rw [decide_eq_false (by omega)]; exact h
theorem errL_low : ∀ (D : Nat) (l : List Tr) (d d' : Int), wts l ≤ D → d' ≤ d → errL l d = 0 → errL l d' = 0 := by
  intro D
  induction D using Nat.strongRecOn with
  | ind D ih =>
    intro l
    induction l with
    | nil => intro d d' _ _ _; rfl
    | cons a r ihr =>
      intro d d' hD hd he
      obtain ⟨g1, g2⟩ := errL_left (x := [a]) (y := r) he
      rw [errL_one] at g1
      rw [wts_cons] at hD
      have hw := wt_eq a
      have h2 := ihr d d' (by omega) hd g2
      have e := errI_eq a d
      rw [g1] at e
      have hi : itemE a.itm a.kids.length d = 0 := by
        by_cases hz : itemE a.itm a.kids.length d = 0
        · exact hz
        · rw [if_pos hz] at e; exact absurd e.symm hz
      have hi2 := itemE_low hd hi
      refine errL_app0 (x := [a]) (y := r) ?_ h2
      rw [errL_one, errI_eq, hi2]
      rw [hi] at e
      simp only [ne_eq, not_true, if_false] at e ⊢
      cases hta : a.itm.tag.isEmpty with
      | false => rfl
      | true =>
        rw [hta] at e
        simp only [Bool.not_true, Bool.false_eq_true, if_false] at e ⊢
        exact ih (wts a.kids) (by omega) a.kids (d + 1) (d' + 1) (Nat.le_refl _) (by omega) e.symm
/-- A message in a block of its own. -/
theorem one_block {nm : List UInt8} {m : List Tr} (hn : nameB nm = true) (h : errL m 1 = 0) : errL [.mk ⟨[], [], [], nm⟩ m] 0 = 0 ∧ txtL [.mk ⟨[], [], [], nm⟩ m] = bO nm ++ txtL m ++ bC nm := by
  constructor
  · rw [errL_one]; exact err_block (d := 0) (by omega) hn h
  · rw [txtL_one, txtI_eq]; rfl

theorem alloc3_newj (w : World) (a b c : Obj) : (((w.alloc a).alloc b).alloc c).heap[w.heap.size + 2]? = some c := by
  have h := alloc_new ((w.alloc a).alloc b) c
  have hs : ((w.alloc a).alloc b).heap.size = w.heap.size + 2 := by simp
  rw [hs] at h; exact h
theorem Ix.putItems {w : World} {g : Nat} {i : Itm} {v : Value} (h : Ix w g i v) (u : Value) : Ix (w.setCell ⟨g, 4, none⟩ u) g i u := by
  unfold Ix at h ⊢
  simp only [World.setCell, Array.getElem?_modify, if_true]
  rw [h]; rfl
theorem Ix.free4 {w : World} {g : Nat} {i : Itm} {v : Value} (h : Ix w g i v) : w.frozen? ⟨g, 4, none⟩ = false := frozen_of_row _ _ _ _ _ h
set_option maxRecDepth 100000 in
set_option maxHeartbeats 4000000 in
theorem copyItem_of (i : Itm) (l : List Tr) (ka : Option Addr) (kc : Nat) (w : World) (hc : ∀ W : World, Below w.heap.size w W → Calls Try.prog 6 #[.slice ka l.length kc] W fun e w' => (∃ a cap, e = .returned (.slice a l.length cap) ∧ PT w' (fun x => W.heap.size ≤ x ∧ x < w'.heap.size) (.slice a l.length cap) l) ∧ Below W.heap.size W w') :
    Calls Try.prog 16 #[.agg (iC i (.slice ka l.length kc))] w fun e w' => (∃ a cap, e = .returned (.agg (iC i (.slice a l.length cap))) ∧ PT w' (fun x => w.heap.size ≤ x ∧ x < w'.heap.size) (.slice a l.length cap) l) ∧ Below w.heap.size w w' := by
  have HC := hide hc
  clear hc
  have B0 := hide ((((Below.refl w.heap.size w).alloc (Nat.le_refl _) (.cells (iC i (.slice ka l.length kc)) 34)).alloc (by simp) (.cells #[.string ⟨#[]⟩, .string ⟨#[]⟩, .string ⟨#[]⟩, .string ⟨#[]⟩, .slice none 0 0] 34)).alloc (by simp; omega) (.cells (iC i (.slice ka l.length kc)) 34))
  have Y0 : Hid (Ix (((w.alloc (.cells (iC i (.slice ka l.length kc)) 34)).alloc (.cells #[.string ⟨#[]⟩, .string ⟨#[]⟩, .string ⟨#[]⟩, .string ⟨#[]⟩, .slice none 0 0] 34)).alloc (.cells (iC i (.slice ka l.length kc)) 34)) (w.heap.size + 1) ⟨[], [], [], []⟩ (.slice none 0 0)) := hide (alloc_block (alloc2_newq w _ _))
  have Z0 : Hid (Ix (((w.alloc (.cells (iC i (.slice ka l.length kc)) 34)).alloc (.cells #[.string ⟨#[]⟩, .string ⟨#[]⟩, .string ⟨#[]⟩, .string ⟨#[]⟩, .slice none 0 0] 34)).alloc (.cells (iC i (.slice ka l.length kc)) 34)) (w.heap.size + 2) i (.slice ka l.length kc)) := hide (alloc3_newj w _ _ _)
  unfold iC at B0 Y0 Z0
  go_enter Try.func16, Try.ntmps16
  unfold iC
  go_wp2_with fail
  refine (HC.out _ B0.out).mono ?_
  rintro e w1 ⟨⟨qa, qc, rfl, hpt⟩, hb1⟩
  have Y1 := hide (Ix.later Y0.out hb1)
  have Z1 := hide (Ix.later Z0.out hb1)
  have B1 := hide (B0.out.trans (hb1.mono B0.out.size))
  have HPT : Hid (PT w1 (fun x => w.heap.size + 3 ≤ x ∧ x < w1.heap.size) (.slice qa l.length qc) l) := hide (PT_kept (fun _ _ _ => rfl) (Nat.le_refl _) (fun g hg _ => ⟨by have := hg.1; simp at this; omega, hg.2⟩) _ _ _ (Nat.le_refl _) hpt)
  have z4 := Z1.out.items trivial
  have zf := Z1.out.free4
  have hzl : w.heap.size + 2 < w1.heap.size := Z1.out.lt
  have Z2 := hide (Z1.out.putItems (.slice qa l.length qc))
  have Y2 : Hid (Ix (w1.setCell ⟨w.heap.size + 2, 4, none⟩ (.slice qa l.length qc)) (w.heap.size + 1) ⟨[], [], [], []⟩ (.slice none 0 0)) := hide ((Below.heap_setCell _ _ _ (w.heap.size + 1) (by show w.heap.size + 1 ≠ w.heap.size + 2; omega)).trans Y1.out)
  have B2 := hide (B1.out.setCell (p := ⟨w.heap.size + 2, 4, none⟩) (by show w.heap.size ≤ w.heap.size + 2; omega) (.slice qa l.length qc))
  have P2 : Hid (PT (w1.setCell ⟨w.heap.size + 2, 4, none⟩ (.slice qa l.length qc)) (fun x => w.heap.size + 3 ≤ x ∧ x < w1.heap.size) (.slice qa l.length qc) l) := hide (PT_kept (fun g hg _ => Below.heap_setCell _ _ _ g (by have := hg.1; show g ≠ w.heap.size + 2; omega)) (by simp [World.setCell]) (fun g hg _ => hg) _ _ _ (Nat.le_refl _) HPT.out)
  have HSZ : Hid ((w1.setCell ⟨w.heap.size + 2, 4, none⟩ (.slice qa l.length qc)).heap.size = w1.heap.size) := hide (by simp [World.setCell])
  obtain ⟨w2, hW2⟩ : ∃ w2, w1.setCell ⟨w.heap.size + 2, 4, none⟩ (.slice qa l.length qc) = w2 := ⟨_, rfl⟩
  rw [hW2] at Z2 Y2 B2 P2 HSZ
  clear hb1 hpt HPT Y1 Z1 B1
  go_wp2_with (first
    | (refine wpList_load_row rfl 34 (.tmp 3) rfl (w.heap.size + 2) rfl _ (iC i (.slice qa l.length qc)) _ _ Z2.out Try.underlying34 rfl Try.sizeItm ?_)
    | (refine wpList_store_row rfl 34 (.tmp 2) _ rfl (w.heap.size + 1) (iC i (.slice qa l.length qc)) rfl rfl _ _ Y2.out Try.sizeItm rfl (iC_one _ _ _ _) ?_))
  (try simp only [Exit.inBlock, Exit.then])
  refine bodyPost_ret (v := .agg (iC i (.slice qa l.length qc))) ?_ rfl ⟨⟨qa, qc, rfl, PT_kept (w := w2) (fun g hg _ => setRow_otherk _ _ _ _ (by have := hg.1; omega)) (by rw [size_setRow]; exact Nat.le_refl _) (fun g hg hg2 => ⟨by have := hg.1; omega, by rw [size_setRow]; exact hg2⟩) _ _ _ (Nat.le_refl _) P2.out⟩, below_setRow B2.out (by omega) _⟩
  exact results_cell_row rfl _ _ (w.heap.size + 1) 34 (iC i (.slice qa l.length qc)) (0, 0) _ rfl (setRow_heap _ _ _ _ _ _ Y2.out) Try.underlying34 rfl Try.sizeItm
/-- Copies so far. -/
structure DW (w : World) (wr : World) (v : Value) (l : List Tr) (V : List Value) : Prop where
  iw : IW wr w.heap.size v l V
  bl : Below w.heap.size w wr
theorem DW.later {w wr w1 : World} {v : Value} {l : List Tr} {V : List Value} (h : DW w wr v l V) (hb : Below wr.heap.size wr w1) : DW w w1 v l V := ⟨h.iw.later hb, h.bl.trans (hb.mono h.bl.size)⟩
theorem DW.snoc {w wr w1 : World} {lo : Nat} {v v' u : Value} {l : List Tr} {V : List Value} {a : Tr} (h : DW w wr v l V) (hO : w1.ownsRow w.heap.size 34 5 v' (l.length + 1) (ic l V ++ (iC a.itm u).toList)) (hg : wr.grownBy w1 v.ownBlock) (hr : ∀ x, v'.ownBlock = some x → v.ownBlock = some x ∨ wr.heap.size ≤ x)
    (hlo : w.heap.size ≤ lo) (hv : ∀ x, v.ownBlock = some x → x < lo) (hu : PT wr (fun x => lo ≤ x ∧ x < wr.heap.size) u a.kids) : DW w w1 v' (l ++ [a]) (V ++ [u]) :=
  ⟨h.iw.snoc hO (fun x hx hne => hg.block x hx (fun e => hne e.symm)) hg.size hr hlo hv hu, h.bl.grown hg h.bl.size (fun q hq => (own_ltq h.iw.row q hq).1)⟩
set_option maxRecDepth 100000 in
set_option maxHeartbeats 4000000 in
theorem copyItems_any : ∀ (D : Nat) (l : List Tr) (v : Value) (w : World), wts l ≤ D → D ≤ 1099511627776 → RT w v l →
    Calls Try.prog 6 #[v] w fun e w' => (∃ a cap, e = .returned (.slice a l.length cap) ∧ ∃ V, DW w w' (.slice a l.length cap) l V) := by
  intro D
  induction D using Nat.strongRecOn with
  | ind D ih =>
    intro l v w hD hD2 hv
    have IH := hide ih
    obtain ⟨a, cap, rfl, hr⟩ := hv
    have HR := hide hr
    have HWL : Hid (wts l ≤ D ∧ D ≤ 1099511627776) := hide ⟨hD, hD2⟩
    clear hr ih
    have hll : l.length ≤ 1099511627776 := by have := wts_len l; omega
    clear hD hD2
    have C0 : Hid (DW w w (.slice none 0 0) [] []) := hide ⟨IW.nil _ _, Below.refl _ _⟩
    go_enter Try.func6, Try.ntmps6
    go_wp2_with fail
    go_loopw [3, 4] (fun u n wr => ∃ (k : Nat) (V : List Value), k ≤ l.length ∧ n = .int .i64 k ∧ Hid (DW w wr u (l.take k) V)) (fun _ n _ => l.length - (intOf n).toNat)
    case atStart => exact ⟨0, [], Nat.zero_le _, rfl, C0⟩
    case round =>
      obtain ⟨k, V, hk, rfl, HC⟩ := hrel
      by_cases hlt : k < l.length
      · obtain ⟨t, ht⟩ : ∃ t, l[k]? = some t := ⟨_, List.getElem?_eq_getElem hlt⟩
        have HTK : Hid (l.take (k + 1) = l.take k ++ [t]) := hide (by rw [List.take_add_one, ht]; rfl)
        have HWE := hide (wt_eq t)
        have HWA := hide (wts_at ht)
        obtain ⟨bb, off, kv, ha, hbl, c0, c1, c2, c3, c4, hkv⟩ := RT_at HR.out ht
        have c0 := (HC.out.bl.cell (p := ⟨bb, _, none⟩) hbl).trans c0
        have c1 := (HC.out.bl.cell (p := ⟨bb, _, none⟩) hbl).trans c1
        have c2 := (HC.out.bl.cell (p := ⟨bb, _, none⟩) hbl).trans c2
        have c3 := (HC.out.bl.cell (p := ⟨bb, _, none⟩) hbl).trans c3
        have c4 := (HC.out.bl.cell (p := ⟨bb, _, none⟩) hbl).trans c4
        subst ha
        obtain ⟨ka, kcap, rfl, hkr⟩ := hkv
        have HKV : Hid (RT w (.slice ka t.kids.length kcap) t.kids) := hide ⟨ka, kcap, rfl, hkr⟩
        have HCP := hide (copyItem_of t.itm t.kids ka kcap wr (fun W hW => (IH.out (wts t.kids) (by have := HWE.out; have := HWA.out; have := HWL.out; omega) t.kids (.slice ka t.kids.length kcap) W (Nat.le_refl _) (by have := HWE.out; have := HWA.out; have := HWL.out; omega) (RT_later HKV.out (HC.out.bl.trans (hW.mono HC.out.bl.size)))).mono (fun e w' h => by
          obtain ⟨qa, qc, rfl, V', hd⟩ := h
          exact ⟨⟨qa, qc, rfl, hd.iw.done⟩, hd.bl⟩)))
        have HLT : Hid ((l.take k).length = k) := hide (by rw [List.length_take]; omega)
        clear hkr ht
        unfold iC at HCP
        go_wp2_with fail
        refine HCP.out.mono ?_
        rintro e w6 ⟨⟨qa, qc, rfl, hpt⟩, hb6⟩
        have C6 := hide (HC.out.later hb6)
        have BX := hide ((Below.refl w6.heap.size w6).alloc (Nat.le_refl _) (.cells #[.string ⟨t.itm.tag.toArray⟩, .string ⟨t.itm.qual.toArray⟩, .string ⟨t.itm.text.toArray⟩, .string ⟨t.itm.name.toArray⟩, .slice qa t.kids.length qc] 34))
        have X6 : Hid (Ix (w6.alloc (.cells #[.string ⟨t.itm.tag.toArray⟩, .string ⟨t.itm.qual.toArray⟩, .string ⟨t.itm.text.toArray⟩, .string ⟨t.itm.name.toArray⟩, .slice qa t.kids.length qc] 34)) w6.heap.size t.itm (.slice qa t.kids.length qc)) := hide (alloc_new w6 _)
        have C7 := hide (C6.out.later BX.out)
        have HPT : Hid (PT (w6.alloc (.cells #[.string ⟨t.itm.tag.toArray⟩, .string ⟨t.itm.qual.toArray⟩, .string ⟨t.itm.text.toArray⟩, .string ⟨t.itm.name.toArray⟩, .slice qa t.kids.length qc] 34)) (fun x => wr.heap.size ≤ x ∧ x < w6.heap.size) (.slice qa t.kids.length qc) t.kids) := hide (PT_kept (fun g hg hg2 => BX.out.block g hg2) BX.out.size (fun g hg _ => hg) _ _ _ (Nat.le_refl _) hpt)
        have HVL : Hid (∀ x, u3.ownBlock = some x → x < wr.heap.size) := hide (fun x hx => (own_ltq HC.out.iw.row x hx).2)
        have HWS : Hid (w.heap.size ≤ wr.heap.size) := hide HC.out.bl.size
        have HS6 : Hid (wr.heap.size ≤ w6.heap.size) := hide hb6.size
        have HOW := hide C7.out.iw.row
        rw [HLT.out] at HOW
        obtain ⟨w7, hW7⟩ : ∃ w7, w6.alloc (.cells #[.string ⟨t.itm.tag.toArray⟩, .string ⟨t.itm.qual.toArray⟩, .string ⟨t.itm.text.toArray⟩, .string ⟨t.itm.name.toArray⟩, .slice qa t.kids.length qc] 34) = w7 := ⟨_, rfl⟩
        have HS7 : Hid (w6.heap.size + 1 = w7.heap.size) := hide (by rw [← hW7]; simp)
        rw [hW7] at X6 C7 HPT HOW
        clear hb6 hpt c0 c1 c2 c3 c4 HCP BX C6
        (try unfold iC)
        go_wp2_with (first
          | (refine wpList_load_row rfl 34 (.tmp 5) rfl w6.heap.size rfl _ (iC t.itm (.slice qa t.kids.length qc)) _ _ X6.out Try.underlying34 rfl Try.sizeItm ?_; unfold iC)
          | (at_builtin; refine wp_append_itm rfl _ _ rfl w.heap.size _ k _ rfl (HOW.out.alloc _) _ 1 1 [.string ⟨t.itm.tag.toArray⟩, .string ⟨t.itm.qual.toArray⟩, .string ⟨t.itm.text.toArray⟩, .string ⟨t.itm.name.toArray⟩, .slice qa t.kids.length qc] rfl rfl (by decide) ?c1 ?c2 ?c3 ?c4 ?_))
        case c1 =>
          intro j u hj
          match j, hj with
          | 0, hj => simp at hj; subst hj; simp [Addr.add]
          | 1, hj => simp at hj; subst hj; simp [Addr.add]
          | 2, hj => simp at hj; subst hj; simp [Addr.add]
          | 3, hj => simp at hj; subst hj; simp [Addr.add]
          | 4, hj => simp at hj; subst hj; simp [Addr.add]
        case c2 => intro u hu; simp at hu; rcases hu with rfl | rfl | rfl | rfl | rfl <;> rfl
        case c3 => have := HWS.out; have := HS6.out; have := HS7.out; simp; omega
        case c4 => omega
        intro v' w8 hown' hgrow hfresh
        have BB := hide ((Below.refl w7.heap.size w7).alloc (Nat.le_refl _) (.cells #[.string ⟨t.itm.tag.toArray⟩, .string ⟨t.itm.qual.toArray⟩, .string ⟨t.itm.text.toArray⟩, .string ⟨t.itm.name.toArray⟩, .slice qa t.kids.length qc] 34))
        have C8 := hide ((C7.out.later BB.out).snoc (a := t) (u := .slice qa t.kids.length qc) (lo := wr.heap.size) (by rw [HLT.out]; exact hown') hgrow (fun x hx => (hfresh x hx).imp id (fun h => by simpa using h)) HWS.out HVL.out (PT_kept (fun g hg hg2 => BB.out.block g hg2) BB.out.size (fun g hg hg2 => ⟨hg.1, Nat.lt_of_lt_of_le hg2 BB.out.size⟩) _ _ _ (Nat.le_refl _) HPT.out))
        rw [← HTK.out] at C8
        clear hown' hgrow hfresh BB
        go_wp2_with fail
        go_roundw
        case rel => exact ⟨k + 1, _, by omega, by go_num, C8⟩
        case measure => simp [intOf]; omega
      · have hk' : k = l.length := by omega
        subst hk'
        rw [List.take_length] at HC
        obtain ⟨qa, qc, hv, _⟩ := HC.out.iw.done
        subst hv
        go_wp2_with fail
        go_ret
        exact ⟨qa, qc, rfl, V, HC.out⟩
theorem Try.fldItems (i : Itm) (a : Option Addr) (n c : Nat) (w : World) : (Instr.field 34 (.agg #[.string ⟨i.tag.toArray⟩, .string ⟨i.qual.toArray⟩, .string ⟨i.text.toArray⟩, .string ⟨i.name.toArray⟩, .slice a n c]) 4).run Try.prog w = .ok (.slice a n c) w := by kernel_rfl
def blkL (nm : List UInt8) : List Tr → Option (List Tr)
  | [] => none
  | a :: r => if a.itm.tag.isEmpty && !a.itm.name.isEmpty && (a.itm.name == nm) then some a.kids else blkL nm r
theorem blkL_step {nm : List UInt8} {l : List Tr} {k : Nat} {a : Tr} (h : l[k]? = some a) : blkL nm (l.drop k) = if a.itm.tag.isEmpty && !a.itm.name.isEmpty && (a.itm.name == nm) then some a.kids else blkL nm (l.drop (k + 1)) := by rw [drop_cons h, blkL]
def BO (w w' : World) (e : Ending) : Option (List Tr) → Prop
  | none => e = .returned (.tuple #[.slice none 0 0, .bool false])
  | some m => ∃ a cap, e = .returned (.tuple #[.slice a m.length cap, .bool true]) ∧ PT w' (fun g => w.heap.size ≤ g ∧ g < w'.heap.size) (.slice a m.length cap) m
set_option maxRecDepth 100000 in
set_option maxHeartbeats 4000000 in
theorem tBlock_any (nm : List UInt8) (l : List Tr) (v : Value) (w : World) (hD : wts l ≤ 1099511627776) (hv : RT w v l) :
    Calls Try.prog 10 #[v, .string ⟨nm.toArray⟩] w fun e w' => BO w w' e (blkL nm l) ∧ Below w.heap.size w w' := by
  obtain ⟨a, cap, rfl, hr⟩ := hv
  have HR := hide hr
  have HWL := hide hD
  have hll : l.length ≤ 1099511627776 := by have := wts_len l; omega
  clear hr hD
  go_enter Try.func10, Try.ntmps10
  go_wp2_with fail
  go_loopw [10] (fun n wr => ∃ (k : Nat), k ≤ l.length ∧ n = .int .i64 k ∧ Hid (blkL nm l = blkL nm (l.drop k)) ∧ Hid (Below w.heap.size w wr)) (fun n _ => l.length - (intOf n).toNat)
  case atStart => exact ⟨0, Nat.zero_le _, rfl, hide rfl, hide (Below.refl _ _)⟩
  case round =>
    obtain ⟨k, hk, rfl, HF, HB⟩ := hrel
    by_cases hlt : k < l.length
    · obtain ⟨t, ht⟩ : ∃ t, l[k]? = some t := ⟨_, List.getElem?_eq_getElem hlt⟩
      have HFS := hide (HF.out.trans (blkL_step ht))
      have HWE := hide (wt_eq t)
      have HWA := hide (wts_at ht)
      have HTIO := hide (iok_of HWA.out (by have := HWL.out; omega))
      obtain ⟨bb, off, kv, ha, hbl, c0, c1, c2, c3, c4, hkv⟩ := RT_at HR.out ht
      have c0 := (HB.out.cell (p := ⟨bb, _, none⟩) hbl).trans c0
      have c1 := (HB.out.cell (p := ⟨bb, _, none⟩) hbl).trans c1
      have c2 := (HB.out.cell (p := ⟨bb, _, none⟩) hbl).trans c2
      have c3 := (HB.out.cell (p := ⟨bb, _, none⟩) hbl).trans c3
      have c4 := (HB.out.cell (p := ⟨bb, _, none⟩) hbl).trans c4
      subst ha
      obtain ⟨ka, kcap, rfl, hkr⟩ := hkv
      have HKV : Hid (RT w (.slice ka t.kids.length kcap) t.kids) := hide ⟨ka, kcap, rfl, hkr⟩
      have HIB := hide (fun W : World => isBlock_any t.itm (.slice ka t.kids.length kcap) W)
      have XA := hide (Ix.new wr t.itm (.slice ka t.kids.length kcap))
      have BA := hide ((Below.refl wr.heap.size wr).alloc (Nat.le_refl _) (.cells (iC t.itm (.slice ka t.kids.length kcap)) 34))
      clear hkr ht HF
      unfold iC at XA BA
      cases hib : (t.itm.tag.isEmpty && !t.itm.name.isEmpty) with
      | false =>
        rw [hib] at HIB
        have HFN : Hid (blkL nm l = blkL nm (l.drop (k + 1))) := by show _ = _; rw [HFS.out, hib]; rfl
        clear HFS hib
        go_wp2_with (refine wpList_load_row rfl 34 (.tmp 7) rfl wr.heap.size rfl _ (iC t.itm (.slice ka t.kids.length kcap)) _ _ XA.out Try.underlying34 rfl Try.sizeItm ?_)
        refine (HIB.out _).mono ?_
        rintro e w1 ⟨rfl, hb1⟩
        have B1 := hide (HB.out.trans ((BA.out.trans (hb1.mono BA.out.size)).mono HB.out.size))
        clear hb1 c0 c1 c2 c3 c4
        go_wp2_with fail
        go_roundw
        case rel => exact ⟨k + 1, by omega, by go_num, HFN, B1⟩
        case measure => simp [intOf]; omega
      | true =>
        rw [hib] at HIB
        cases hnm : t.itm.name == nm with
        | false =>
          have HFN : Hid (blkL nm l = blkL nm (l.drop (k + 1))) := by show _ = _; rw [HFS.out, hib, hnm]; rfl
          clear HFS hib
          go_wp2_with (refine wpList_load_row rfl 34 (.tmp 7) rfl wr.heap.size rfl _ (iC t.itm (.slice ka t.kids.length kcap)) _ _ XA.out Try.underlying34 rfl Try.sizeItm ?_)
          refine (HIB.out _).mono ?_
          rintro e w1 ⟨rfl, hb1⟩
          have X1 := hide (Ix.later XA.out hb1)
          have B1 := hide (HB.out.trans ((BA.out.trans (hb1.mono BA.out.size)).mono HB.out.size))
          clear hb1 c0 c1 c2 c3 c4
          have x3 := X1.out.name trivial
          go_wp2_with fail
          go_roundw
          case rel => exact ⟨k + 1, by omega, by go_num, HFN, B1⟩
          case measure => simp [intOf]; omega
        | true =>
          have HFF : Hid (blkL nm l = some t.kids) := by show _ = _; rw [HFS.out, hib, hnm]; rfl
          clear HFS hib
          go_wp2_with (refine wpList_load_row rfl 34 (.tmp 7) rfl wr.heap.size rfl _ (iC t.itm (.slice ka t.kids.length kcap)) _ _ XA.out Try.underlying34 rfl Try.sizeItm ?_)
          refine (HIB.out _).mono ?_
          rintro e w1 ⟨rfl, hb1⟩
          have X1 := hide (Ix.later XA.out hb1)
          have B1 := hide (HB.out.trans ((BA.out.trans (hb1.mono BA.out.size)).mono HB.out.size))
          clear hb1 c0 c1 c2 c3 c4
          have x3 := X1.out.name trivial
          have HCP := hide (copied_any (wts t.kids) t.itm t.kids (.slice ka t.kids.length kcap) w1 (Nat.le_refl _) (by have := HWE.out; have := HWA.out; have := HWL.out; omega) HTIO.out (RT_later HKV.out B1.out))
          go_wp2_with (refine wpList_load_row rfl 34 (.tmp 7) rfl wr.heap.size rfl _ (iC t.itm (.slice ka t.kids.length kcap)) _ _ X1.out Try.underlying34 rfl Try.sizeItm ?_)
          refine HCP.out.mono ?_
          rintro e w3 ⟨⟨qa, qc, rfl, hpt⟩, hb3⟩
          have B3 := hide (B1.out.trans (hb3.mono B1.out.size))
          have HP3 : Hid (PT w3 (fun g => w.heap.size ≤ g ∧ g < w3.heap.size) (.slice qa t.kids.length qc) t.kids) := hide (PT_kept (fun _ _ _ => rfl) (Nat.le_refl _) (fun g hg _ => ⟨by have := hg.1; have := B1.out.size; omega, hg.2⟩) _ _ _ (Nat.le_refl _) hpt)
          clear hb3 hpt x3
          unfold iC
          have hfi := Try.fldItems t.itm qa t.kids.length qc w3
          go_wp2_with fail
          go_ret2
          exact ⟨by rw [HFF.out]; exact ⟨qa, qc, rfl, HP3.out⟩, B3.out⟩
    · have hk' : k = l.length := by omega
      subst hk'
      have HFN : Hid (blkL nm l = none) := by show _ = _; rw [HF.out, List.drop_of_length_le (Nat.le_refl _), blkL]
      clear HF
      go_wp2_with fail
      go_ret2
      exact ⟨by rw [HFN.out]; rfl, HB.out⟩

theorem wp_append_list {w : World} {ops : Array Oper} {rest : List Oper} {o : Oper} {a : Act} {Q : Exit → Act → World → Prop} (hgd : o.guard = none) (s x : Operand)
    (ho : o.op = .call { callee := .builtin .append, args := #[s, x], argTypes := #[22, 22] }) (B : Nat) (v : Value) (n : Nat) (xs : List Value) (hs : a.eval s = v) (hown : w.ownsRow B 34 5 v n xs)
    (xa : Option Addr) (m c : Nat) (news : List Value) (hx : a.eval x = .slice xa m c) (hnone : xa = none → m = 0 ∧ c = 0) (hl : news.length = m * 5) (hnews : ∀ ad, xa = some ad → ∀ j u, news[j]? = some u → w.cell? (ad.add j) = some u) (h1 : ∀ u ∈ news, u.oneCell' = true) (hB : B ≤ w.heap.size) (hsz : n + m ≤ 1099511627776)
    (h : ∀ v' w', w'.ownsRow B 34 5 v' (n + m) (xs ++ news) → w.grownBy w' v.ownBlock → wpList Try.prog ops Q rest (a.put o.dst v') w') : wpList Try.prog ops Q (o :: rest) a w := by
  obtain ⟨i0, hi, hz0, hz1, hz2⟩ := info_parts Try.infoItmq
  refine wpList_plain hgd fun K hK' => ?_
  cases xa with
  | none =>
    obtain ⟨rfl, rfl⟩ := hnone rfl
    obtain rfl : news = [] := List.eq_nil_of_length_eq_zero (by simpa using hl)
    have hrun := run_append_owned_none (P := Try.prog) w B 22 o.type 34 i0 5 Try.underlying22 hi v n xs hown
    unfold Oper.wp
    simp [execOp, ho, resolve, invoke, builtin, hs, hx, hrun, Result.andThen]
    exact hK' _ _ (h v w (by simpa using hown) (World.grownBy.refl _ _))
  | some ad =>
    obtain ⟨v', w', hrun, r1, r2, _⟩ := run_append_own (P := Try.prog) w B 22 o.type 34 i0 _ 5 88 Try.underlying22 hi hz0 hz1 hz2 zItmq (by decide) v n xs hown ad m c news hl (hnews ad rfl) h1 (by unfold maxLen; omega) (by omega) hB
    unfold Oper.wp
    simp [execOp, ho, resolve, invoke, builtin, hs, hx, hrun, Result.andThen]
    exact hK' _ _ (h v' w' r1 r2)
theorem list_of {α : Type} {Q : Nat → α → Prop} : ∀ n : Nat, (∀ j, j < n → ∃ p, Q j p) → ∃ l : List α, l.length = n ∧ ∀ j p, l[j]? = some p → Q j p
  | 0, _ => ⟨[], rfl, fun j p h => by simp at h⟩
  | n + 1, h => by
    obtain ⟨l, hl, hq⟩ := list_of n (fun j hj => h j (by omega))
    obtain ⟨p, hp⟩ := h n (by omega)
    refine ⟨l ++ [p], by simp [hl], fun j p' hj => ?_⟩
    by_cases hjn : j < n
    · rw [List.getElem?_append_left (by omega)] at hj; exact hq j p' hj
    · rw [List.getElem?_append_right (by omega)] at hj
      have : j - l.length = 0 := by
        have := (List.getElem?_eq_some_iff.1 hj).1
        simp at this; omega
      rw [this] at hj
      have hj' : j = n := by omega
      simp at hj; subst hj; rw [hj']; exact hp
theorem ic_mem : ∀ (l : List Tr) (V : List Value) (f : Nat → Option Value), (∀ (k : Nat) (a : Tr) (u : Value), l[k]? = some a → V[k]? = some u → f (k * 5) = some (.string ⟨a.itm.tag.toArray⟩) ∧ f (k * 5 + 1) = some (.string ⟨a.itm.qual.toArray⟩) ∧ f (k * 5 + 2) = some (.string ⟨a.itm.text.toArray⟩) ∧ f (k * 5 + 3) = some (.string ⟨a.itm.name.toArray⟩) ∧ f (k * 5 + 4) = some u) → ∀ (j : Nat) (x : Value), (ic l V)[j]? = some x → f j = some x
  | [], _, f, _, j, x, h => by simp [ic] at h
  | _ :: _, [], f, _, j, x, h => by simp [ic] at h
  | b :: r, u :: q, f, hf, j, x, h => by
    obtain ⟨g0, g1, g2, g3, g4⟩ := hf 0 b u rfl rfl
    match j, h with
    | 0, h => simp [ic] at h; subst h; exact g0
    | 1, h => simp [ic] at h; subst h; exact g1
    | 2, h => simp [ic] at h; subst h; exact g2
    | 3, h => simp [ic] at h; subst h; exact g3
    | 4, h => simp [ic] at h; subst h; exact g4
    | j + 5, h =>
      have := ic_mem r q (fun i => f (i + 5)) (fun k a u h1 h2 => by
        obtain ⟨e0, e1, e2, e3, e4⟩ := hf (k + 1) a u (by simpa using h1) (by simpa using h2)
        rw [show (k + 1) * 5 = k * 5 + 5 by omega] at e0 e1 e2 e3 e4
        exact ⟨e0, by rw [show k * 5 + 1 + 5 = k * 5 + 5 + 1 by omega]; exact e1, by rw [show k * 5 + 2 + 5 = k * 5 + 5 + 2 by omega]; exact e2, by rw [show k * 5 + 3 + 5 = k * 5 + 5 + 3 by omega]; exact e3, by rw [show k * 5 + 4 + 5 = k * 5 + 5 + 4 by omega]; exact e4⟩) j x (by simpa [ic] using h)
      exact this
theorem ic_app : ∀ (l : List Tr) (V : List Value) (m : List Tr) (U : List Value), l.length = V.length → ic (l ++ m) (V ++ U) = ic l V ++ ic m U
  | [], [], m, U, _ => by simp [ic]
  | b :: r, u :: q, m, U, h => by
    have := ic_app r q m U (by simpa using h)
    simp only [List.cons_append, ic, this]
theorem ic_one : ∀ (l : List Tr) (V : List Value), (∀ u ∈ V, u.oneCell' = true) → ∀ x ∈ ic l V, x.oneCell' = true
  | [], _, _, x, h => by simp [ic] at h
  | _ :: _, [], _, x, h => by simp [ic] at h
  | b :: r, u :: q, hV, x, h => by
    simp only [ic, List.mem_cons] at h
    rcases h with rfl | rfl | rfl | rfl | rfl | h
    · rfl
    · rfl
    · rfl
    · rfl
    · exact hV _ (by simp)
    · exact ic_one r q (fun v hv => hV v (by simp [hv])) x h
/-- The cells of a list in memory. -/
theorem RT_cells {w : World} {a : Option Addr} {cap : Nat} {l : List Tr} (h : RT w (.slice a l.length cap) l) : ∃ V : List Value, V.length = l.length ∧ (∀ ad, a = some ad → ∀ j u, (ic l V)[j]? = some u → w.cell? (ad.add j) = some u) ∧ (∀ (j : Nat) (t : Tr) (u : Value), l[j]? = some t → V[j]? = some u → RT w u t.kids) ∧ (∀ u ∈ V, u.oneCell' = true) := by
  obtain ⟨a', cap', e, hr⟩ := h
  simp only [Value.slice.injEq] at e
  obtain ⟨rfl, _, rfl⟩ := e
  obtain ⟨V, hVl, hV⟩ := list_of (Q := fun j (u : Value) => ∃ t, l[j]? = some t ∧ RT w u t.kids ∧ ∀ b off, a = some ⟨b, off, none⟩ → w.cell? ⟨b, off + j * 5, none⟩ = some (.string ⟨t.itm.tag.toArray⟩) ∧ w.cell? ⟨b, off + j * 5 + 1, none⟩ = some (.string ⟨t.itm.qual.toArray⟩) ∧ w.cell? ⟨b, off + j * 5 + 2, none⟩ = some (.string ⟨t.itm.text.toArray⟩) ∧ w.cell? ⟨b, off + j * 5 + 3, none⟩ = some (.string ⟨t.itm.name.toArray⟩) ∧ w.cell? ⟨b, off + j * 5 + 4, none⟩ = some u) l.length (fun j hj => by
    obtain ⟨t, ht⟩ : ∃ t, l[j]? = some t := ⟨_, List.getElem?_eq_getElem hj⟩
    obtain ⟨b, off, v, ha, _, c0, c1, c2, c3, c4, hkv⟩ := RT_at hr ht
    refine ⟨v, t, ht, hkv, fun b' off' e => ?_⟩
    rw [ha] at e
    simp only [Option.some.injEq, Addr.mk.injEq, and_true] at e
    obtain ⟨rfl, rfl⟩ := e
    exact ⟨c0, c1, c2, c3, c4⟩)
  refine ⟨V, hVl, fun ad hd j u hj => ?_, fun j t u h1 h2 => ?_, fun u hu => ?_⟩
  · have hne : l ≠ [] := fun e => by rw [e] at hj; simp [ic] at hj
    rcases hr with h0 | ⟨b, off, ha, _, _⟩
    · exact absurd h0 hne
    · rw [ha] at hd
      cases hd
      have := ic_mem l V (fun i => w.cell? ⟨b, off + i, none⟩) (fun k t u h1 h2 => by
        obtain ⟨t', ht', _, hc⟩ := hV k u h2
        rw [h1] at ht'; cases ht'
        obtain ⟨c0, c1, c2, c3, c4⟩ := hc b off ha
        exact ⟨c0, c1, c2, c3, c4⟩) j u hj
      rw [Addr.add_lit]; exact this
  · obtain ⟨t', ht', hk, _⟩ := hV j u h2
    rw [h1] at ht'; cases ht'; exact hk
  · obtain ⟨j, hj⟩ := List.getElem?_of_mem hu
    obtain ⟨t', _, hk, _⟩ := hV j u hj
    obtain ⟨a', c', rfl, _⟩ := hk
    rfl
theorem RT_own {w : World} {B : Nat} {v : Value} {l : List Tr} {V : List Value} (hl : V.length = l.length) (h : w.ownsRow B 34 5 v l.length (ic l V)) (hk : ∀ (j : Nat) (a : Tr) (u : Value), l[j]? = some a → V[j]? = some u → RT w u a.kids) : RT w v l := by
  rcases h.2 with ⟨rfl, h0⟩ | ⟨g, cap, cur, rfl, hb, hh, _⟩
  · have : l = [] := List.length_eq_zero_iff.1 h0
    subst this
    exact ⟨none, 0, rfl, .inl rfl⟩
  · have hlt := (Array.getElem?_eq_some_iff.1 hh).1
    refine ⟨_, _, rfl, .inr ⟨g, 0, rfl, hlt, RR_mk (fun k a hk' => ?_)⟩⟩
    have hc : ∀ j u, (ic l V)[j]? = some u → w.cell? ⟨g, j, none⟩ = some u := fun j u hj => by
      have := World.ownsRow.cells h rfl j u hj
      rw [Addr.add_lit, Nat.zero_add] at this; exact this
    have hkl := (List.getElem?_eq_some_iff.1 hk').1
    obtain ⟨u, hu⟩ : ∃ u, V[k]? = some u := ⟨_, List.getElem?_eq_getElem (by rw [hl]; exact hkl)⟩
    obtain ⟨e0, e1, e2, e3, e4⟩ := ic_at l V k a u hk' hu
    rw [Nat.zero_add]
    exact RI_iff.2 ⟨hc _ _ e0, hc _ _ e1, hc _ _ e2, hc _ _ e3, u, hc _ _ e4, hk k a u hk' hu⟩

theorem bcat (a b : List UInt8) : (⟨a.toArray⟩ : ByteArray) ++ ⟨b.toArray⟩ = ⟨(a ++ b).toArray⟩ := by apply ByteArray.ext; simp
theorem printed {m : List Tr} (he : errL m 0 = 0) (hl : (txtL m).length ≤ 1048576) : prE m = 0 ∧ prT m = txtL m ∧ wts m ≤ (txtL m).length := by
  have h1 : prE m = 0 := by unfold prE; rw [he]; simp; omega
  exact ⟨h1, by unfold prT; rw [h1]; rfl, wts_txt (wts m) m 0 (Nat.le_refl _) he⟩
theorem name_of {o : List UInt8} (h1 : o.all sg = true) (h2 : 1 ≤ o.length) (h3 : o.length ≤ 16) : nameB o = true := by unfold nameB; rw [h1, decide_eq_true h2, decide_eq_true h3]; rfl
theorem blk_one {nm : List UInt8} {m : List Tr} (hn : nameB nm = true) : blkL nm [.mk ⟨[], [], [], nm⟩ m] = some m := by
  have hne : nm.isEmpty = false := by cases nm with
    | nil => simp [nameB] at hn
    | cons _ _ => rfl
  rw [blkL]
  simp [Tr.itm, Tr.kids, hne]
set_option maxRecDepth 100000 in
set_option maxHeartbeats 8000000 in
theorem join_law (la lb : List Tr) (va vb : Value) (nm : List UInt8) (w : World) (hDa : wts la ≤ 1099511627776) (hDb : wts lb ≤ 1099511627776) (hva : RT w va la) (hvb : RT w vb lb) (hnm : nm.length ≤ 140737488355328) (hm : ML w) :
    Calls Try.prog 3 #[va, vb, .string ⟨nm.toArray⟩] w fun e w' => e = .returned (.bool true) ∧ Below w.heap.size w w' := by
  have HM := hide hm
  have HMA : Hid (Calls Try.prog 4 #[va, .int .i64 0] w fun e w' => (∃ a cap m, e = .returned (.slice a (m : List Tr).length cap) ∧ RT w' (.slice a m.length cap) m ∧ errL m (0 : Nat) = 0 ∧ (txtL m).length ≤ 72000 ∧ (a = none → cap = 0)) ∧ Below w.heap.size w w') := hide (message_any la va 0 w hDa (by omega) hva)
  have HMB : Hid (∀ W : World, Below w.heap.size w W → Calls Try.prog 4 #[vb, .int .i64 1] W fun e w' => (∃ a cap m, e = .returned (.slice a (m : List Tr).length cap) ∧ RT w' (.slice a m.length cap) m ∧ errL m (1 : Nat) = 0 ∧ (txtL m).length ≤ 72000 ∧ (a = none → cap = 0)) ∧ Below W.heap.size W w') := hide (fun W hW => message_any lb vb 1 W hDb (by omega) (RT_later hvb hW))
  have HW := hide (fun (W : World) (h : ML W) => works_any W h)
  have HGR : Hid (∀ W : World, Calls Try.prog 9 #[.string ⟨nm.toArray⟩, .int .i64 1, .int .i64 16] W fun e w' => (∃ o : List UInt8, e = .returned (.string ⟨o.toArray⟩) ∧ o.all sg = true ∧ 1 ≤ o.length ∧ o.length ≤ 16) ∧ Below W.heap.size W w') := hide (fun W => great_any nm 1 16 W hnm (by omega) (by omega))
  obtain ⟨a0, cap0, rfl, hr⟩ := hva
  obtain ⟨b0, bcap0, rfl, hr2⟩ := hvb
  clear hr hr2 hDa hDb hm hnm
  go_enter Try.func3, Try.ntmps3
  go_wp2_with fail
  refine HMA.out.mono ?_
  rintro e w1 ⟨⟨xa, xc, mx, rfl, hrx, hex, hlx, _⟩, hb1⟩
  have B1 := hide hb1
  have RX1 := hide hrx
  have EX := hide hex
  have LX := hide hlx
  clear hb1 hrx hex hlx HMA
  go_wp2_with fail
  refine (HMB.out w1 B1.out).mono ?_
  rintro e w2 ⟨⟨ya, yc, my, rfl, hry, hey, hly, hny⟩, hb2⟩
  have B2 := hide (B1.out.trans (hb2.mono B1.out.size))
  have RX2 := hide (RT_later RX1.out hb2)
  have RY2 := hide hry
  have EY1 : Hid (errL my 1 = 0) := hide hey
  have EY0 : Hid (errL my 0 = 0) := hide (errL_low (wts my) my 1 0 (Nat.le_refl _) (by omega) hey)
  have LY := hide hly
  have NY := hide hny
  clear hb2 hry hey hly hny HMB RX1
  obtain ⟨px1, px2, px3⟩ := printed (m := mx) EX.out (by have := LX.out; omega)
  obtain ⟨py1, py2, py3⟩ := printed (m := my) EY0.out (by have := LY.out; omega)
  have WX : Hid (wts mx ≤ 72000) := hide (by have := LX.out; omega)
  have WY : Hid (wts my ≤ 72000) := hide (by have := LY.out; omega)
  have HPX := hide (tPrint_any mx (.slice xa mx.length xc) w2 (by have := WX.out; omega) RX2.out)
  rw [px1, px2, errV_zero] at HPX
  have HPY := hide (fun (W : World) (h : RT W (.slice ya my.length yc) my) => tPrint_any my (.slice ya my.length yc) W (by have := WY.out; omega) h)
  rw [py1, py2, errV_zero] at HPY
  clear px1 px2 px3 py1 py2 py3
  obtain ⟨X, HX⟩ : ∃ X, Hid (txtL mx = X) := ⟨_, hide rfl⟩
  obtain ⟨Y, HYE⟩ : ∃ Y, Hid (txtL my = Y) := ⟨_, hide rfl⟩
  rw [HX.out] at HPX LX
  rw [HYE.out] at HPY LY
  go_wp2_with fail
  refine HPX.out.mono ?_
  rintro e w3 ⟨rfl, hb3⟩
  have B3 := hide (B2.out.trans (hb3.mono B2.out.size))
  have RX3 := hide (RT_later RX2.out hb3)
  have RY3 := hide (RT_later RY2.out hb3)
  clear hb3 HPX RX2 RY2
  go_wp2_with fail
  refine (HPY.out w3 RY3.out).mono ?_
  rintro e w4 ⟨rfl, hb4⟩
  have B4 := hide (B3.out.trans (hb4.mono B3.out.size))
  have RX4 := hide (RT_later RX3.out hb4)
  have RY4 := hide (RT_later RY3.out hb4)
  clear hb4 HPY RX3 RY3
  have HCX := hide (copyItems_any (wts mx) mx (.slice xa mx.length xc) w4 (Nat.le_refl _) (by have := WX.out; omega) RX4.out)
  go_wp2_with fail
  refine HCX.out.mono ?_
  rintro e w5 ⟨ca, cc, rfl, V, hdw⟩
  have D5 := hide hdw
  have B5 := hide (B4.out.trans (hdw.bl.mono B4.out.size))
  have RX5 := hide (RT_later RX4.out hdw.bl)
  have RY5 := hide (RT_later RY4.out hdw.bl)
  obtain ⟨U, hUl, hUc4, hUk, hU1⟩ := RT_cells RY4.out
  have HUL := hide hUl
  have HUC : Hid (∀ ad, ya = some ad → ∀ j u, (ic my U)[j]? = some u → w5.cell? (ad.add j) = some u) := hide (fun ad hd j u hj => (hdw.bl.cell (p := ad.add j) (World.block_lt_of_cell? w4 _ (hUc4 ad hd j u hj))).trans (hUc4 ad hd j u hj))
  have HUK := hide hUk
  have HU1 := hide (ic_one my U hU1)
  clear hdw HCX hUl hUc4 hUk hU1
  have HICL : Hid ((ic my U).length = my.length * 5) := hide (ic_len my U HUL.out.symm)
  go_wp2_with (at_builtin; refine wp_append_list rfl _ _ rfl w4.heap.size _ mx.length (ic mx V) rfl D5.out.iw.row ya my.length yc (ic my U) rfl ?c1 HICL.out HUC.out HU1.out ?c2 ?c3 ?_)
  case c1 => intro e; exact ⟨by obtain ⟨_, _, e2, h⟩ := RY5.out; simp only [Value.slice.injEq] at e2; obtain ⟨rfl, _, rfl⟩ := e2; rcases h with h | ⟨_, _, h, _⟩; (rw [h]; rfl); (rw [e] at h; cases h), NY.out e⟩
  case c2 => exact D5.out.bl.size
  case c3 => have h1 := wts_len mx; have h2 := wts_len my; have := WX.out; have := WY.out; omega
  intro v6 w6 hown6 hgrow6
  have BG : Hid (Below w4.heap.size w4 w6) := hide (D5.out.bl.grown hgrow6 D5.out.bl.size (fun q hq => (own_ltq D5.out.iw.row q hq).1))
  have R6 : Hid (RT w6 v6 (mx ++ my)) := hide (RT_own (B := w4.heap.size) (V := V ++ U) (by simp [D5.out.iw.len, HUL.out]) (by rw [ic_app _ _ _ _ D5.out.iw.len.symm, List.length_append]; exact hown6) (fun j t u h1 h2 => by
    by_cases hj : j < mx.length
    · rw [List.getElem?_append_left hj] at h1
      rw [List.getElem?_append_left (by rw [D5.out.iw.len]; exact hj)] at h2
      exact PT_rt _ _ _ (Nat.le_refl _) (PT_kept (w' := w6) (S' := fun _ => True) (fun g hg hg2 => hgrow6.block g hg2 (fun e => hg.2.2 e.symm)) hgrow6.size (fun _ _ _ => trivial) _ _ _ (Nat.le_refl _) (D5.out.iw.kids j t u h1 h2))
    · rw [List.getElem?_append_right (by omega)] at h1
      rw [List.getElem?_append_right (by rw [D5.out.iw.len]; omega), D5.out.iw.len] at h2
      exact RT_later (HUK.out _ t u h1 h2) BG.out))
  have B6 := hide (B4.out.trans (BG.out.mono B4.out.size))
  have RX6 := hide (RT_later RX4.out BG.out)
  have RY6 := hide (RT_later RY4.out BG.out)
  obtain ⟨v6a, v6c, hv6, _⟩ := R6.out
  subst hv6
  clear hown6 hgrow6 RX5 RY5 RX4 RY4 D5 HUL HUC HUK HU1 HICL BG B5
  have EA : Hid (errL (mx ++ my) 0 = 0) := hide (errL_app0 EX.out EY0.out)
  have TA : Hid (txtL (mx ++ my) = X ++ Y) := hide (by rw [txtL_app, HX.out, HYE.out])
  obtain ⟨Z, hcatZ, HZE⟩ : ∃ Z : List UInt8, (⟨X.toArray⟩ : ByteArray) ++ ⟨Y.toArray⟩ = ⟨Z.toArray⟩ ∧ Hid (Z = X ++ Y) := ⟨X ++ Y, bcat X Y, hide rfl⟩
  have HZL : Hid (Z.length ≤ 144000) := hide (by rw [HZE.out, List.length_append]; have := LX.out; have := LY.out; omega)
  have WA : Hid (wts (mx ++ my) ≤ 144000) := hide (by have h := wts_txt (wts (mx ++ my)) (mx ++ my) 0 (Nat.le_refl _) EA.out; rw [TA.out, ← HZE.out] at h; have := HZL.out; omega)
  have HPA : Hid (∀ W : World, ML W → Calls Try.prog 7 #[.string ⟨Z.toArray⟩] W fun e w' => (∃ a cap, e = .returned (.tuple #[.slice a (mx ++ my).length cap, .nilIface]) ∧ PT w' (fun x => W.heap.size ≤ x ∧ x < w'.heap.size) (.slice a (mx ++ my).length cap) (mx ++ my)) ∧ Below W.heap.size W w') := hide (fun W h => by
    obtain ⟨n', b', hrd⟩ := rdT_back (mx ++ my) EA.out
    rw [TA.out, ← HZE.out] at hrd
    exact parse_ok Z (mx ++ my) W (by have := HZL.out; omega) (readsOk (by have := HZL.out; omega) hrd) h)
  have hXl : X.length ≤ 72000 := LX.out
  have hYl : Y.length ≤ 72000 := LY.out
  go_wp2_with fail
  refine (HPA.out w6 (HM.out.later B6.out)).mono ?_
  rintro e w7 ⟨⟨qa, qc, rfl, hpt⟩, hb7⟩
  have B7 := hide (B6.out.trans (hb7.mono B6.out.size))
  have RX7 := hide (RT_later RX6.out hb7)
  have RY7 := hide (RT_later RY6.out hb7)
  have R7 := hide (RT_later R6.out hb7)
  have RA7 := hide (PT_rt _ _ _ (Nat.le_refl _) hpt)
  clear hb7 hpt HPA hcatZ RX6 RY6 R6
  have HSA := hide (sameItems_all (wts (mx ++ my)) (mx ++ my) (mx ++ my) _ _ w7 (Nat.le_refl _) (by have := WA.out; omega) RA7.out R7.out)
  rw [eqL_refl] at HSA
  obtain ⟨na, HNA⟩ : ∃ na, Hid ((mx ++ my).length = na) := ⟨_, hide rfl⟩
  rw [HNA.out] at HSA RA7 R7
  simp only [HNA.out]
  go_wp2_with fail
  refine HSA.out.mono ?_
  rintro e w8 ⟨rfl, hb8⟩
  have B8 := hide (B7.out.trans (hb8.mono B7.out.size))
  have RX8 := hide (RT_later RX7.out hb8)
  have RY8 := hide (RT_later RY7.out hb8)
  have RA8 := hide (RT_later RA7.out hb8)
  clear hb8 HSA RX7 RY7 RA7 R7
  go_wp2_with fail
  refine (HGR.out w8).mono ?_
  rintro e w9 ⟨⟨o, rfl, ho1, ho2, ho3⟩, hb9⟩
  have HNO := hide (name_of ho1 ho2 ho3)
  have HOL := hide ho3
  have B9 := hide (B8.out.trans (hb9.mono B8.out.size))
  have RX9 := hide (RT_later RX8.out hb9)
  have RY9 := hide (RT_later RY8.out hb9)
  have RA9 := hide (RT_later RA8.out hb9)
  clear hb9 HGR ho1 ho2 ho3 RX8 RY8 RA8
  obtain ⟨p1, hp1, H1⟩ : ∃ p1 : List UInt8, (⟨#[58, 49, 54, 82, 58]⟩ : ByteArray) ++ ⟨o.toArray⟩ = ⟨p1.toArray⟩ ∧ Hid (p1 = [58, 49, 54, 82, 58] ++ o) := ⟨_, bcat [58, 49, 54, 82, 58] o, hide rfl⟩
  obtain ⟨p2, hp2, H2⟩ : ∃ p2 : List UInt8, (⟨p1.toArray⟩ : ByteArray) ++ ⟨#[10]⟩ = ⟨p2.toArray⟩ ∧ Hid (p2 = p1 ++ [10]) := ⟨_, bcat p1 [10], hide rfl⟩
  obtain ⟨p3, hp3, H3⟩ : ∃ p3 : List UInt8, (⟨p2.toArray⟩ : ByteArray) ++ ⟨Y.toArray⟩ = ⟨p3.toArray⟩ ∧ Hid (p3 = p2 ++ Y) := ⟨_, bcat p2 Y, hide rfl⟩
  obtain ⟨p4, hp4, H4⟩ : ∃ p4 : List UInt8, (⟨p3.toArray⟩ : ByteArray) ++ ⟨#[58, 49, 54, 83, 58]⟩ = ⟨p4.toArray⟩ ∧ Hid (p4 = p3 ++ [58, 49, 54, 83, 58]) := ⟨_, bcat p3 [58, 49, 54, 83, 58], hide rfl⟩
  obtain ⟨p5, hp5, H5⟩ : ∃ p5 : List UInt8, (⟨p4.toArray⟩ : ByteArray) ++ ⟨o.toArray⟩ = ⟨p5.toArray⟩ ∧ Hid (p5 = p4 ++ o) := ⟨_, bcat p4 o, hide rfl⟩
  obtain ⟨p6, hp6, H6⟩ : ∃ p6 : List UInt8, (⟨p5.toArray⟩ : ByteArray) ++ ⟨#[10]⟩ = ⟨p6.toArray⟩ ∧ Hid (p6 = p5 ++ [10]) := ⟨_, bcat p5 [10], hide rfl⟩
  obtain ⟨eb1, eb2⟩ := one_block (nm := o) (m := my) HNO.out EY1.out
  have HP6 : Hid (p6 = txtL [.mk ⟨[], [], [], o⟩ my]) := hide (by rw [eb2, H6.out, H5.out, H4.out, H3.out, H2.out, H1.out, HYE.out]; simp [bO, bC])
  have HP6L : Hid (p6.length ≤ 72100) := hide (by rw [H6.out, H5.out, H4.out, H3.out, H2.out, H1.out]; simp; have := HOL.out; have := LY.out; omega)
  have HPB : Hid (∀ W : World, ML W → Calls Try.prog 7 #[.string ⟨p6.toArray⟩] W fun e w' => (∃ a cap, e = .returned (.tuple #[.slice a 1 cap, .nilIface]) ∧ PT w' (fun x => W.heap.size ≤ x ∧ x < w'.heap.size) (.slice a 1 cap) [.mk ⟨[], [], [], o⟩ my]) ∧ Below W.heap.size W w') := hide (fun W h => by
    obtain ⟨n', b', hrd⟩ := rdT_back [.mk ⟨[], [], [], o⟩ my] eb1
    rw [← HP6.out] at hrd
    exact parse_ok p6 [.mk ⟨[], [], [], o⟩ my] W (by have := HP6L.out; omega) (readsOk (by have := HP6L.out; omega) hrd) h)
  have l1 : p1.length ≤ 100000 := by rw [H1.out]; simp; have := HOL.out; omega
  have l2 : p2.length ≤ 100000 := by rw [H2.out, H1.out]; simp; have := HOL.out; omega
  have l3 : p3.length ≤ 100000 := by rw [H3.out, H2.out, H1.out]; simp; have := HOL.out; have := LY.out; omega
  have l4 : p4.length ≤ 100000 := by rw [H4.out, H3.out, H2.out, H1.out]; simp; have := HOL.out; have := LY.out; omega
  have l5 : p5.length ≤ 100000 := by rw [H5.out, H4.out, H3.out, H2.out, H1.out]; simp; have := HOL.out; have := LY.out; omega
  clear H1 H2 H3 H4 H5 H6 eb1 eb2
  have hol : o.length ≤ 16 := HOL.out
  go_wp2_with fail
  refine (HPB.out w9 (HM.out.later B9.out)).mono ?_
  rintro e w10 ⟨⟨ia, icap, rfl, hpt⟩, hb10⟩
  have RB10 := hide (PT_rt _ _ _ (Nat.le_refl _) hpt)
  have B10 := hide (B9.out.trans (hb10.mono B9.out.size))
  have RX10 := hide (RT_later RX9.out hb10)
  have RY10 := hide (RT_later RY9.out hb10)
  have RA10 := hide (RT_later RA9.out hb10)
  clear hb10 hpt HPB RX9 RY9 RA9 hp1 hp2 hp3 hp4 hp5 hp6 l1 l2 l3 l4 l5
  obtain ⟨ia', icap', e10, hr10⟩ := id RB10.out
  simp only [Value.slice.injEq] at e10
  obtain ⟨rfl, h1x, rfl⟩ := e10
  clear h1x
  obtain ⟨bb, off, kv, hia, hbl, _, _, _, c3, c4, hkv⟩ := RT_at hr10 (k := 0) (t := .mk ⟨[], [], [], o⟩ my) rfl
  simp only [Nat.zero_mul, Nat.add_zero, Tr.itm, Tr.kids] at c3 c4 hkv
  have HKV := hide hkv
  subst hia
  obtain ⟨ka, kcap, hkve, _⟩ := hkv
  subst hkve
  have HSB := hide (sameItems_all (wts my) my my _ _ w10 (Nat.le_refl _) (by have := WY.out; omega) HKV.out RY10.out)
  rw [eqL_refl] at HSB
  clear hr10 hXl hYl hol hbl
  go_wp2_with fail
  refine HSB.out.mono ?_
  rintro e w11 ⟨rfl, hb11⟩
  have B11 := hide (B10.out.trans (hb11.mono B10.out.size))
  have RX11 := hide (RT_later RX10.out hb11)
  have RY11 := hide (RT_later RY10.out hb11)
  have RA11 := hide (RT_later RA10.out hb11)
  have RB11 := hide (RT_later RB10.out hb11)
  clear hb11 HSB RX10 RY10 RA10 RB10 c3 c4 HKV
  have WB : Hid (wts [.mk ⟨[], [], [], o⟩ my] ≤ 1099511627776) := hide (by
    rw [wts_cons, wt_eq]
    simp only [Tr.itm, Tr.kids, List.length_nil, wts]
    have := WY.out; have := HOL.out; omega)
  have HBK := hide (tBlock_any o [.mk ⟨[], [], [], o⟩ my] _ w11 WB.out RB11.out)
  rw [blk_one HNO.out] at HBK
  go_wp2_with fail
  refine HBK.out.mono ?_
  rintro e w12 ⟨⟨ja, jc, rfl, hpt⟩, hb12⟩
  have RJ12 := hide (PT_rt _ _ _ (Nat.le_refl _) hpt)
  have B12 := hide (B11.out.trans (hb12.mono B11.out.size))
  have RX12 := hide (RT_later RX11.out hb12)
  have RY12 := hide (RT_later RY11.out hb12)
  have RA12 := hide (RT_later RA11.out hb12)
  clear hb12 hpt HBK RX11 RY11 RA11 RB11
  have HSC := hide (sameItems_all (wts my) my my _ _ w12 (Nat.le_refl _) (by have := WY.out; omega) RJ12.out RY12.out)
  rw [eqL_refl] at HSC
  go_wp2_with fail
  refine HSC.out.mono ?_
  rintro e w13 ⟨rfl, hb13⟩
  have B13 := hide (B12.out.trans (hb13.mono B12.out.size))
  have RX13 := hide (RT_later RX12.out hb13)
  have RY13 := hide (RT_later RY12.out hb13)
  have RA13 := hide (RT_later RA12.out hb13)
  clear hb13 HSC RX12 RY12 RA12 RJ12
  obtain ⟨cx, HCX⟩ : ∃ cx, Hid (cntL mx = cx) := ⟨_, hide rfl⟩
  obtain ⟨cy, HCY⟩ : ∃ cy, Hid (cntL my = cy) := ⟨_, hide rfl⟩
  have HK1 := hide (fun (W : World) (h : RT W (.slice qa na qc) (mx ++ my)) => count_any (wts (mx ++ my)) (mx ++ my) (.slice qa na qc) W (Nat.le_refl _) (by have := WA.out; omega) h)
  rw [cntL_app, HCX.out, HCY.out] at HK1
  have HK2 := hide (fun (W : World) (h : RT W (.slice xa mx.length xc) mx) => count_any (wts mx) mx (.slice xa mx.length xc) W (Nat.le_refl _) (by have := WX.out; omega) h)
  rw [HCX.out] at HK2
  have HK3 := hide (fun (W : World) (h : RT W (.slice ya my.length yc) my) => count_any (wts my) my (.slice ya my.length yc) W (Nat.le_refl _) (by have := WY.out; omega) h)
  rw [HCY.out] at HK3
  have hcx : cx ≤ 72000 := by rw [← HCX.out]; exact Nat.le_trans (cntL_le _ mx (Nat.le_refl _)) WX.out
  have hcy : cy ≤ 72000 := by rw [← HCY.out]; exact Nat.le_trans (cntL_le _ my (Nat.le_refl _)) WY.out
  have hcc : (((cx + cy : Nat)) : Int) = (cx : Int) + (cy : Int) := by omega
  rw [hcc] at HK1
  clear hcc
  go_wp2_with fail
  refine (HK1.out w13 RA13.out).mono ?_
  rintro e w14 ⟨rfl, hb14⟩
  have B14 := hide (B13.out.trans (hb14.mono B13.out.size))
  have RX14 := hide (RT_later RX13.out hb14)
  have RY14 := hide (RT_later RY13.out hb14)
  clear hb14 HK1 RX13 RY13 RA13
  go_wp2_with fail
  refine (HK2.out w14 RX14.out).mono ?_
  rintro e w15 ⟨rfl, hb15⟩
  have B15 := hide (B14.out.trans (hb15.mono B14.out.size))
  have RY15 := hide (RT_later RY14.out hb15)
  clear hb15 HK2 RX14 RY14
  go_wp2_with fail
  refine (HK3.out w15 RY15.out).mono ?_
  rintro e w16 ⟨rfl, hb16⟩
  have B16 := hide (B15.out.trans (hb16.mono B15.out.size))
  clear hb16 HK3 RY15
  go_wp2_with fail
  refine (HW.out w16 (HM.out.later B16.out)).mono ?_
  rintro e w17 ⟨rfl, hb17⟩
  have B17 := hide (B16.out.trans (hb17.mono B16.out.size))
  clear hb17
  go_wp2_with fail
  go_ret
  exact ⟨rfl, B17.out⟩
end Go.Proofs.Ytnpaamkoonlkpaa
