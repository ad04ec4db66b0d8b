/-
  My own text: T16, TKB in one.
-/
import Derived.Test.YtbaideeiljeamaaGreatDoorT11
import Derived.Test.YtbaideeiljeamaaGreatDoorGr0
namespace Go.Proofs.YtbaideeiljeamaaGreatDoor.TG
open Go.RowKit

theorem alloc2_news (w : World) (a b : Obj) : ((w.alloc a).alloc b).heap[w.heap.size + 1]? = some b := by
  have h := alloc_new (w.alloc a) b
  have hs : (w.alloc a).heap.size = w.heap.size + 1 := by simp
  rw [hs] at h; exact h
theorem Ix.range {w : World} {g : Nat} {i : Itm} {v : Value} (h : Ix w g i v) : w.rangeAt g 0 (iC i v).toList := fun j u hj => by
  rw [Nat.zero_add, cell_of_row _ _ j _ _ _ h]; simpa using hj
set_option maxRecDepth 100000 in
set_option maxHeartbeats 4000000 in
theorem sameItem_of (i : Itm) (va vb : Value) (w : World) (hc : ∀ W : World, Below w.heap.size w W → Calls Tryz.prog 8 #[va, vb] W fun e w' => e = .returned (.bool true) ∧ Below W.heap.size W w') :
    Calls Tryz.prog 19 #[.agg (iC i va), .agg (iC i vb)] w fun e w' => e = .returned (.bool true) ∧ Below w.heap.size w w' := by
  have HC := hide hc
  have X0 := hide ((Ix.new w i va).alloc (.cells (iC i vb) 58))
  have Y0 : Hid (Ix ((w.alloc (.cells (iC i va) 58)).alloc (.cells (iC i vb) 58)) (w.heap.size + 1) i vb) := hide (alloc2_news w _ _)
  have B0 := hide (((Below.refl w.heap.size w).alloc (Nat.le_refl _) (.cells (iC i va) 58)).alloc (by simp) (.cells (iC i vb) 58))
  clear hc
  go_enter Tryz.func19, Tryz.ntmps19
  have x0 := X0.out.tag trivial
  have x1 := X0.out.qual trivial
  have x2 := X0.out.text trivial
  have x3 := X0.out.name trivial
  have x4 := X0.out.items trivial
  have y0 := Y0.out.tag trivial
  have y1 := Y0.out.qual trivial
  have y2 := Y0.out.text trivial
  have y3 := Y0.out.name trivial
  have y4 := Y0.out.items trivial
  go_wp2_with fail
  refine (HC.out _ B0.out).mono ?_
  rintro e w1 ⟨rfl, hb1⟩
  have B1 := hide (B0.out.trans (hb1.mono B0.out.size))
  clear hb1
  go_wp2_with fail
  go_ret
  exact ⟨rfl, B1.out⟩
theorem five_range {w : World} {b o : Nat} {i : Itm} {v : Value} (h0 : w.cell? ⟨b, o, none⟩ = some (.string ⟨i.tag.toArray⟩)) (h1 : w.cell? ⟨b, o + 1, none⟩ = some (.string ⟨i.qual.toArray⟩)) (h2 : w.cell? ⟨b, o + 2, none⟩ = some (.string ⟨i.text.toArray⟩)) (h3 : w.cell? ⟨b, o + 3, none⟩ = some (.string ⟨i.name.toArray⟩)) (h4 : w.cell? ⟨b, o + 4, none⟩ = some v) :
    w.rangeAt b o (iC i v).toList := fun j u hj => by
  match j, hj with
  | 0, hj => simp [iC] at hj; subst hj; exact h0
  | 1, hj => simp [iC] at hj; subst hj; exact h1
  | 2, hj => simp [iC] at hj; subst hj; exact h2
  | 3, hj => simp [iC] at hj; subst hj; exact h3
  | 4, hj => simp [iC] at hj; subst hj; exact h4
  | j + 5, hj => simp [iC] at hj
theorem rng_below {W w' : World} {b o : Nat} {cs : List Value} (hb : Below W.heap.size W w') (hlt : b < W.heap.size) (h : W.rangeAt b o cs) : w'.rangeAt b o cs := fun j v hv => by
  rw [hb.cell (p := ⟨b, o + j, none⟩) hlt]; exact h j v hv
set_option maxRecDepth 100000 in
set_option maxHeartbeats 4000000 in
theorem sameItems_any : ∀ (D : Nat) (l : List Tr) (va vb : Value) (w : World), wts l ≤ D → D ≤ 1099511627776 → RT w va l → RT w vb l →
    Calls Tryz.prog 8 #[va, vb] w fun e w' => e = .returned (.bool true) ∧ Below w.heap.size w w' := by
  intro D
  induction D using Nat.strongRecOn with
  | ind D ih =>
    intro l va vb w hD hD2 ha hb
    have IH := hide ih
    obtain ⟨aa, capa, rfl, hra⟩ := ha
    obtain ⟨ab, capb, rfl, hrb⟩ := hb
    have HRA := hide hra
    have HRB := hide hrb
    clear hra hrb ih
    have hll : l.length ≤ 1099511627776 := by have := wts_len l; omega
    go_enter Tryz.func8, Tryz.ntmps8
    go_wp2_with fail
    go_loopw [5] (fun i wr => ∃ k : Nat, k ≤ l.length ∧ i = .int .i64 k ∧ Hid (Below w.heap.size w wr)) (fun i _ => l.length - (intOf i).toNat)
    case atStart => exact ⟨0, Nat.zero_le _, rfl, hide (Below.refl _ _)⟩
    case round =>
      obtain ⟨k, hk, rfl, HB⟩ := hrel
      by_cases hlt : k < l.length
      · obtain ⟨t, ht⟩ : ∃ t, l[k]? = some t := ⟨_, List.getElem?_eq_getElem hlt⟩
        have HWE := hide (wt_eq t)
        have HWA := hide (wts_at ht)
        obtain ⟨ba, offa, kva, ea, hbla, a0, a1, a2, a3, a4, hkva⟩ := RT_at HRA.out ht
        obtain ⟨bb, offb, kvb, eb, hblb, b0, b1, b2, b3, b4, hkvb⟩ := RT_at HRB.out ht
        have HRGA := hide (five_range a0 a1 a2 a3 a4)
        have HRGB := hide (five_range b0 b1 b2 b3 b4)
        have HKA := hide hkva
        have HKB := hide hkvb
        have HLA := hide hbla
        have HLB := hide hblb
        subst ea eb
        clear a0 a1 a2 a3 a4 b0 b1 b2 b3 b4 hkva hkvb hbla hblb ht
        have HSI := hide (fun (W : World) (hW : Below w.heap.size w W) => sameItem_of t.itm kva kvb W (fun W2 h2 => IH.out (wts t.kids) (by have := HWE.out; have := HWA.out; omega) t.kids kva kvb W2 (Nat.le_refl _) (by have := HWE.out; have := HWA.out; omega) (RT_later HKA.out (hW.trans (h2.mono hW.size))) (RT_later HKB.out (hW.trans (h2.mono hW.size)))))
        go_wp2_with fail
        have HG0 := hide ((Below.refl wr.heap.size wr).drew)
        have HBx : Hid (∀ x : Gr wr, Below w.heap.size w x.1) := hide (fun x => HB.out.trans (x.2.mono HB.out.size))
        haveI : Nonempty (Gr wr) := ⟨⟨_, HG0.out⟩⟩
        refine region_class (C := fun w' => ∃ x : Gr wr, w' = x.1) (by kernel_rfl) (by kernel_rfl) ⟨⟨_, HG0.out⟩, rfl⟩ ?_
        repeat (first
          | go_big_quiet_skip
          | (go_big_quiet_want; first
              | (refine quiet_load_at 58 (.tmp 19) rfl ba (offa + k * 5) rfl (iC t.itm kva).toList _ (fun w' ⟨x, hx⟩ => by subst hx; exact rng_below (HBx.out x) HLA.out HRGA.out) Tryz.underlying58 rfl Tryz.sizeItm ?_; rw [Array.toArray_toList]; simp only [Act.put, List.setIfInBounds_toArray, List.set_cons_zero, List.set_cons_succ]; go_big_quiet_on)
              | (refine quiet_load_at 58 (.tmp 23) rfl bb (offb + k * 5) rfl (iC t.itm kvb).toList _ (fun w' ⟨x, hx⟩ => by subst hx; exact rng_below (HBx.out x) HLB.out HRGB.out) Tryz.underlying58 rfl Tryz.sizeItm ?_; rw [Array.toArray_toList]; simp only [Act.put, List.setIfInBounds_toArray, List.set_cons_zero, List.set_cons_succ]; go_big_quiet_on)
              | (go_big_quiet_op; first
                  | go_big_quiet_on
                  | (apply Exists.intro; refine ⟨fun x => ?_, ?_⟩; (first
                      | (go_at_call 19; exact x.call (HSI.out x.1 (HBx.out x)))); go_big_quiet_on))))
        refine wpQuiet_nil ?_
        rintro w3 ⟨x, rfl⟩
        have HB3 := hide (HBx.out x)
        obtain ⟨w3, hw3⟩ := x
        dsimp only at HB3 ⊢
        clear hw3 HG0 this HBx
        go_wp2_with fail
        go_roundw
        case rel => exact ⟨k + 1, by omega, by go_num, HB3⟩
        case measure => simp [intOf]; omega
      · have hk' : k = l.length := by omega
        subst hk'
        go_wp2_with fail
        go_ret
        exact ⟨rfl, HB.out⟩
end Go.Proofs.YtbaideeiljeamaaGreatDoor.TG
namespace Go.Proofs.YtbaideeiljeamaaGreatDoor.TG
open Go.RowKit

/-- A row of texts. -/
def ST (w : World) (g : Nat) (L : List (List UInt8)) : Prop := g < w.heap.size ∧ ∀ j x, L[j]? = some x → w.cell? ⟨g, j, none⟩ = some (.string ⟨x.toArray⟩)
theorem ST.low {w w' : World} {g : Nat} {L : List (List UInt8)} (h : ST w g L) (hb : Below w.heap.size w w') : ST w' g L :=
  ⟨Nat.lt_of_lt_of_le h.1 hb.size, fun j x hx => (hb.cell (p := ⟨g, j, none⟩) h.1).trans (h.2 j x hx)⟩
theorem ST.new (w : World) (L : List (List UInt8)) (t : TypeId) : ST (w.alloc (.cells (L.map fun x => Value.string ⟨x.toArray⟩).toArray t)) w.heap.size L := by
  have h := (MapKept.heap_alloc w (.cells (L.map fun x => Value.string ⟨x.toArray⟩).toArray t)).1
  refine ⟨by simp, fun j x hx => ?_⟩
  unfold World.cell?
  rw [h]
  simp [hx]
theorem quiet_cellV {P : Program} {o : Oper} {a : Act} {C : World → Prop} {K : Act → Prop} (ty : TypeId) (x : Operand) (h : o.op = .load ty x) (b n : Nat) (hx : a.eval x = .pointer (some ⟨b, n, none⟩)) (v : Value)
    (hc : ∀ w, C w → w.cell? ⟨b, n, none⟩ = some v) (hA : ∀ w, (isAgg ty).run P w = .ok false w) (hk : K (a.put o.dst v)) : o.quiet P a C K :=
  ⟨_, fun w hw => by
    have h1 := hc w hw
    have hr : (Instr.loadAt ty (.pointer (some ⟨b, n, none⟩))).run P w = .ok v w := by
      simp [go_sem, Instr.loadAt, Instr.sureAddr, hA w, h1]
    unfold Oper.quietAt
    simp [execOp, h, hx, hr, Oper.quietUpon], hk⟩
theorem Tryz.aggStr (w : World) : (isAgg 9).run Tryz.prog w = .ok false w := by unfold isAgg; simp [Sem.run_bind, run_underlying Tryz.underlying9]
/-- The cells of items. -/
def itC : List (Tr × Value) → List Value
  | [] => []
  | p :: r => .string ⟨p.1.itm.tag.toArray⟩ :: .string ⟨p.1.itm.qual.toArray⟩ :: .string ⟨p.1.itm.text.toArray⟩ :: .string ⟨p.1.itm.name.toArray⟩ :: p.2 :: itC r
theorem itC_at : ∀ (L : List (Tr × Value)) (k : Nat) (p : Tr × Value), L[k]? = some p → (itC L)[k * 5]? = some (.string ⟨p.1.itm.tag.toArray⟩) ∧ (itC L)[k * 5 + 1]? = some (.string ⟨p.1.itm.qual.toArray⟩) ∧ (itC L)[k * 5 + 2]? = some (.string ⟨p.1.itm.text.toArray⟩) ∧ (itC L)[k * 5 + 3]? = some (.string ⟨p.1.itm.name.toArray⟩) ∧ (itC L)[k * 5 + 4]? = some p.2
  | q :: r, 0, p, h => by
    have e : q = p := Option.some.inj h
    subst e; exact ⟨rfl, rfl, rfl, rfl, rfl⟩
  | q :: r, k + 1, p, h => by
    have h2 := itC_at r k p h
    have e : ∀ i, (itC (q :: r))[(k + 1) * 5 + i]? = (itC r)[k * 5 + i]? := fun i => by
      rw [show (k + 1) * 5 + i = (k * 5 + i) + 5 by omega]
      simp [itC]
    exact ⟨(e 0).trans h2.1, (e 1).trans h2.2.1, (e 2).trans h2.2.2.1, (e 3).trans h2.2.2.2.1, (e 4).trans h2.2.2.2.2⟩
/-- A row of items that was laid. -/
theorem RT_lit (w : World) (L : List (Tr × Value)) (c : Nat) (h : ∀ p ∈ L, RT w p.2 p.1.kids) : RT (w.alloc (.cells (itC L).toArray 58)) (.slice (some ⟨w.heap.size, 0, none⟩) (L.map (·.1)).length c) (L.map (·.1)) := by
  have hh := (MapKept.heap_alloc w (.cells (itC L).toArray 58)).1
  have hb := (Below.refl w.heap.size w).alloc (Nat.le_refl _) (.cells (itC L).toArray 58)
  have hc : ∀ j : Nat, (w.alloc (.cells (itC L).toArray 58)).cell? ⟨w.heap.size, j, none⟩ = (itC L)[j]? := fun j => by
    unfold World.cell?; rw [hh]; simp
  refine ⟨_, c, rfl, .inr ⟨w.heap.size, 0, rfl, by simp, RR_mk (fun k a hk => ?_)⟩⟩
  rw [List.getElem?_map] at hk
  obtain ⟨p, hp, rfl⟩ := Option.map_eq_some_iff.1 hk
  obtain ⟨h0, h1, h2, h3, h4⟩ := itC_at L k p hp
  rw [Nat.zero_add]
  exact RI_iff.2 ⟨(hc _).trans h0, (hc _).trans h1, (hc _).trans h2, (hc _).trans h3, _, (hc _).trans h4, RT_later (h p (List.mem_of_getElem? hp)) hb⟩
theorem RT_litn {w : World} {n c k : Nat} (L : List (Tr × Value)) (l : List Tr) (cs : Array Value) (hn : w.heap.size = n) (hc : cs = (itC L).toArray) (hl : l = L.map (·.1)) (hk : k = l.length) (h : ∀ p ∈ L, RT w p.2 p.1.kids) : RT (w.alloc (.cells cs 58)) (.slice (some ⟨n, 0, none⟩) k c) l := by
  subst hn hc hl hk; exact RT_lit w L c h
theorem S_al {a w : World} (h : Below a.heap.size a w) (o : Obj) : Below a.heap.size a (w.alloc o) := h.alloc h.size o
/-- What a place of a row of items holds. -/
theorem RT_pos {w : World} {b n c k : Nat} {l : List Tr} {t : Tr} (h : RT w (.slice (some ⟨b, 0, none⟩) n c) l) (hk : l[k]? = some t) : b < w.heap.size ∧ ∃ v, w.cell? ⟨b, k * 5, none⟩ = some (.string ⟨t.itm.tag.toArray⟩) ∧ w.cell? ⟨b, k * 5 + 1, none⟩ = some (.string ⟨t.itm.qual.toArray⟩) ∧ w.cell? ⟨b, k * 5 + 2, none⟩ = some (.string ⟨t.itm.text.toArray⟩) ∧ w.cell? ⟨b, k * 5 + 3, none⟩ = some (.string ⟨t.itm.name.toArray⟩) ∧ w.cell? ⟨b, k * 5 + 4, none⟩ = some v ∧ RT w v t.kids := by
  obtain ⟨a, cap, hv, hr⟩ := h
  injection hv with e1 e2 e3
  subst e1
  obtain ⟨b', off, v, e, hlt, h0, h1, h2, h3, h4, h5⟩ := RT_at hr hk
  injection e with e
  injection e with e6 e7
  subst e6 e7
  rw [Nat.zero_add] at h0 h1 h2 h3 h4
  exact ⟨hlt, v, h0, h1, h2, h3, h4, h5⟩
theorem wts_one {l : List Tr} {k : Nat} {t : Tr} (h : l[k]? = some t) : wts [t] ≤ wts l := by
  have := wts_at h
  rw [wts_cons]; simp [wts]; exact this
theorem RT_nil (w : World) : RT w (.slice none 0 0) [] := ⟨none, 0, rfl, .inl rfl⟩
end Go.Proofs.YtbaideeiljeamaaGreatDoor.TG
