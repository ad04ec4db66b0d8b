/-
  My own text: the law of Check of a notice.
-/
import Derived.Test.YtbpdjjihimplaaaDoorN6
import Derived.Test.YtbpdjjihimplaaaDoorN9
namespace Go.Proofs.YtbpdjjihimplaaaDoor
open Go.RowKit LC

theorem in_ite {c : Prop} [Decidable c] {a b : Int} (ha : 0 ≤ a ∧ a ≤ 24) (hb : 0 ≤ b ∧ b ≤ 24) : 0 ≤ (if c then a else b) ∧ (if c then a else b) ≤ 24 := by
  split
  · exact ha
  · exact hb
theorem tE_in (r1 cn r2 pe d1 d2 lt ci ql ac bi ot py al cu az ce pl pg : Bool) : 0 ≤ tE r1 cn r2 pe d1 d2 lt ci ql ac bi ot py al cu az ce pl pg ∧ tE r1 cn r2 pe d1 d2 lt ci ql ac bi ot py al cu az ce pl pg ≤ 24 := by
  unfold tE
  repeat (first | (refine in_ite (by decide) ?_) | exact ⟨by decide, by decide⟩)
theorem linkE_in (ref : List UInt8) : ∀ ls : List Lnk, 0 ≤ linkE ref ls ∧ linkE ref ls ≤ 24
  | [] => by show (0 : Int) ≤ 0 ∧ (0 : Int) ≤ 24; decide
  | (k, r) :: t => by
    show 0 ≤ (if decide (k < 1) || decide (3 < k) then (24 : Int) else if !refB r then 6 else if decide (r = ref) then 17 else linkE ref t) ∧ (if decide (k < 1) || decide (3 < k) then (24 : Int) else if !refB r then 6 else if decide (r = ref) then 17 else linkE ref t) ≤ 24
    exact in_ite (by decide) (in_ite (by decide) (in_ite (by decide) (linkE_in ref t)))
theorem noticeE_in (n : Ntc) (ls : List Lnk) : 0 ≤ noticeE n ls ∧ noticeE n ls ≤ 24 := by
  unfold noticeE
  split
  · exact tE_in ..
  · unfold linksE
    split
    · decide
    · exact linkE_in ..
/-- Worlds that have grown out of W. -/
def Gr (W : World) : Type := { w' : World // Below W.heap.size W w' }
theorem Gr.call {W : World} (x : Gr W) {P : Program} {f : FuncId} {args : Array Value} {v : Value} (h : Calls P f args x.1 fun e w' => e = .returned v ∧ Below x.1.heap.size x.1 w') :
    Calls P f args x.1 fun e w' => e = .returned v ∧ ∃ y : Gr W, w' = y.1 :=
  h.mono fun _ w' ⟨he, hb⟩ => ⟨he, ⟨w', x.2.trans (hb.mono x.2.size)⟩, rfl⟩
theorem Bx.range {w : World} {g : Nat} {n : Ntc} {v : Value} (h : Bx w g n v) : w.rangeAt g 0 (nC n v).toList := fun j u hj => by
  rw [Nat.zero_add, cell_of_row _ _ j _ _ _ h]; simpa using hj
theorem nC_set (n : Ntc) (v v' : Value) (hc : n.code.length = 12) : (nC n v).setIfInBounds 26 v' = nC n v' := by
  obtain ⟨c0, c1, c2, c3, c4, c5, c6, c7, c8, c9, c10, c11, he⟩ := nC_cases hc
  unfold nC nb; rw [he]; rfl
theorem Bx.set {w : World} {g : Nat} {n : Ntc} {v : Value} (h : Bx w g n v) (hc : n.code.length = 12) (v' : Value) : Bx (w.setCell ⟨g, 26, none⟩ v') g n v' := by
  have e := setCell_eq_setRow w g 26 _ _ _ v' h
  rw [nC_set n v v' hc] at e
  unfold Bx
  rw [e]
  exact setRow_heap w g _ (nC n v') _ _ h
theorem frozen_blk {w : World} {g : Nat} {cs : Array Value} {t : TypeId} (h : w.heap[g]? = some (.cells cs t (0, 0))) (j : Nat) : w.frozen? ⟨g, j, none⟩ = false := by
  unfold World.frozen?; simp [h]
theorem alloc2_new (w : World) (a b : Obj) : ((w.alloc a).alloc b).heap[w.heap.size + 1]? = some b := by
  have := LC.alloc_new (w.alloc a) b
  simpa using this
theorem setRow2 (w : World) (a : Obj) (c c' : Array Value) (t : TypeId) : ((w.alloc a).alloc (.cells c t)).setRow (w.heap.size + 1) c' = (w.alloc a).alloc (.cells c' t) := by
  have := World.setRow_alloc_new (w.alloc a) c c' t
  rw [show (w.alloc a).heap.size = w.heap.size + 1 by simp] at this
  exact this
theorem LentL.block {w w' : World} {B g cap : Nat} {l : List Lnk} (h : LentL w B g cap l) (hb : w'.heap[g]? = w.heap[g]?) : LentL w' B g cap l := by
  refine ⟨h.base, h.own.1, ?_⟩
  rcases h.own.2 with ⟨h0, _⟩ | ⟨g', cap', cur, hv, hg, hh, h3⟩
  · cases h0
  · cases hv
    exact .inr ⟨g, cap, cur, rfl, hg, hb.trans hh, h3⟩
set_option maxRecDepth 100000 in
set_option maxHeartbeats 4000000 in
theorem noticeCheck_law (n : Ntc) (v : Value) (ls : List Lnk) (w : World) (hn : NOk n) (hv : RL w v ls) (hL : LOk ls) (hlen : ls.length ≤ 5864062014805) (HE : Hid (ErrType w)) (HM : Hid (MDays w)) (HO : Hid (LC.HeadOffice w)) :
    Calls Tryd.prog 3 #[.agg (nC n v)] w fun e w' => e = .returned (.bool true) ∧ Below w.heap.size w w' := by
  have HLC := hide hn.code
  have HSZ : Hid (∀ u : Value, (Tryd.prog.info? 26).map (·.size) = some (nC n u).size) := hide (fun u => by rw [nC_size n u HLC.out]; exact Tryd.sizeNtc)
  have X0 := hide (Bx.new w n v)
  have XA := hide ((Bx.new w n v).alloc (.cells (nC n v) 26))
  have YA : Hid (Bx ((w.alloc (.cells (nC n v) 26)).alloc (.cells (nC n v) 26)) (w.heap.size + 1) n v) := hide (alloc2_new w _ _)
  have BA := hide (((Below.refl w.heap.size w).alloc (Nat.le_refl _) (.cells (nC n v) 26)).alloc (by simp) (.cells (nC n v) 26))
  have HV1 : Hid (v.oneCell' = true) := by obtain ⟨a, cap, rfl, _⟩ := hv; exact hide rfl
  have HRL := hide hv
  have HLL := hide (fun (W : World) (h : RL W v ls) => lentLinks_any v ls W h hlen)
  have HCK : Hid (∀ (W : World) (u : Value), RL W u ls → Hid (MDays W) → Hid (LC.HeadOffice W) → Calls Tryd.prog 6 #[.agg (nC n u)] W fun e w' => e = .returned (errV (noticeE n ls)) ∧ Below W.heap.size W w') := hide (fun W u h h1 h2 => nCheck_any n u ls W hn h hL (by omega) h1 h2)
  have HRC := hide (fun (W : World) (h : RL W v ls) => refCheck_any n v ls W hn h hL (by omega))
  have HKL := hide (fun (W : World) (B g cap : Nat) (h : RL W v ls) (h2 : LentL W B g cap ls) => keptLinks_any v ls B g cap W h h2 hlen)
  have HPL := hide (fun (W : World) (h : ErrType W) => plain_errV (noticeE n ls) (noticeE n ls) W (noticeE_in n ls).1 (noticeE_in n ls).2 h)
  have hbb : (noticeE n ls == noticeE n ls) = true := beq_self_eq_true _
  rw [hbb] at HPL
  generalize noticeE n ls = N at *
  obtain ⟨E, HEV⟩ : ∃ E, Hid (errV N = E) := ⟨_, hide rfl⟩
  rw [HEV.out] at HCK HPL
  clear hv hn hL hlen hbb HEV
  have zl := XA.out.links HLC.out
  go_enter Tryd.func3, Tryd.ntmps3
  go_wp2_with (first
    | (refine wpList_load_row rfl 26 (.tmp 1) rfl w.heap.size rfl _ (nC n v) _ _ X0.out Tryd.underlying26 rfl (HSZ.out v) ?_)
    | (refine wpList_store_row rfl 26 (.tmp 3) _ rfl (w.heap.size + 1) (nC n v) rfl rfl _ _ (alloc2_new w _ _) (HSZ.out v) (by rw [nC_size n v HLC.out]; rfl) (nC_one n v HV1.out) ?_; rw [setRow2]))
  refine (HLL.out _ (HRL.out.later BA.out)).mono ?_
  rintro e w1 ⟨g, cap, rfl, hlent, hb1⟩
  have X1 := hide (XA.out.later hb1)
  have Y1 := hide (YA.out.later hb1)
  have B1 := hide (BA.out.trans (hb1.mono BA.out.size))
  have HG2 : Hid (w.heap.size + 2 ≤ g) := by have := hlent.base; simp at this; exact hide (by omega)
  have HLT := hide hlent
  clear hb1 XA YA BA X0 zl hlent
  have y1 := Y1.out.links HLC.out
  have f1 := frozen_blk Y1.out 26
  go_wp2_with fail
  have X2 : Hid (Bx (w1.setCell ⟨w.heap.size + 1, 26, none⟩ (.slice (some ⟨g, 0, none⟩) ls.length cap)) w.heap.size n v) := by
    show Bx _ _ _ _
    unfold Bx; rw [Below.heap_setCell _ _ _ _ (by simp)]; exact X1.out
  have Y2 := hide (Y1.out.set HLC.out (.slice (some ⟨g, 0, none⟩) ls.length cap))
  have L2 := hide (HLT.out.block (w' := w1.setCell ⟨w.heap.size + 1, 26, none⟩ (.slice (some ⟨g, 0, none⟩) ls.length cap)) (Below.heap_setCell _ _ _ _ (by have := HG2.out; simp; omega)))
  have B2 := hide (B1.out.setCell (p := ⟨w.heap.size + 1, 26, none⟩) (by simp) (.slice (some ⟨g, 0, none⟩) ls.length cap))
  clear X1 Y1 HLT B1 y1 f1
  generalize w1.setCell ⟨w.heap.size + 1, 26, none⟩ (.slice (some ⟨g, 0, none⟩) ls.length cap) = w2 at *
  have hz : ∀ x : Gr w2, x.1.cell? ⟨w.heap.size, 26, none⟩ = some v := fun x => (X2.out.later x.2).links HLC.out
  have HBx : Hid (∀ x : Gr w2, Below w.heap.size w x.1) := hide (fun x => B2.out.trans (x.2.mono B2.out.size))
  have HG0 := hide ((Below.refl w2.heap.size w2).drew)
  haveI : Nonempty (Gr w2) := ⟨⟨_, HG0.out⟩⟩
  refine region_class (C := fun w' => ∃ x : Gr w2, w' = x.1) (by kernel_rfl) (by kernel_rfl) ⟨⟨_, HG0.out⟩, rfl⟩ ?_
  repeat (first
    | go_big_quiet_skip
    | (go_big_quiet_want; first
        | (refine quiet_load 26 (.tmp 3) rfl (w.heap.size + 1) rfl (nC n (.slice (some ⟨g, 0, none⟩) ls.length cap)).toList _ (fun w' ⟨x, hx⟩ => by subst hx; exact (Y2.out.later x.2).range) Tryd.underlying26 rfl (by rw [Array.length_toList]; exact HSZ.out _) ?_; rw [Array.toArray_toList]; simp only [Act.put, List.setIfInBounds_toArray, List.set_cons_zero, List.set_cons_succ]; go_big_quiet_on)
        | (refine quiet_load 26 (.tmp 1) rfl w.heap.size rfl (nC n v).toList _ (fun w' ⟨x, hx⟩ => by subst hx; exact (X2.out.later x.2).range) Tryd.underlying26 rfl (by rw [Array.length_toList]; exact HSZ.out _) ?_; rw [Array.toArray_toList]; simp only [Act.put, List.setIfInBounds_toArray, List.set_cons_zero, List.set_cons_succ]; go_big_quiet_on)
        | (go_big_quiet_op; first
            | go_big_quiet_on
            | (apply Exists.intro; refine ⟨fun x => ?_, ?_⟩; (first
                | (go_at_call 6; exact x.call (HCK.out x.1 _ (L2.out.rl.later x.2) (hide (HM.out.below (HBx.out x))) (hide (HO.out.below (HBx.out x)))))
                | (go_at_call 7; exact x.call (HRC.out x.1 (HRL.out.later (HBx.out x))))
                | (go_at_call 5; exact x.call (HPL.out x.1 (HE.out.below (HBx.out x))))
                | (go_at_call 8; exact x.call (HKL.out x.1 _ _ _ (HRL.out.later (HBx.out x)) (L2.out.later x.2)))); go_big_quiet_on))))
  refine wpQuiet_nil ?_
  rintro w3 ⟨x, rfl⟩
  have HB3 := hide (HBx.out x)
  obtain ⟨w3, hw3⟩ := x
  dsimp only at HB3 ⊢
  clear hw3 HG0 this hz HBx X2 Y2 L2 B2
  go_wp2_with fail
  go_ret
  exact ⟨rfl, HB3.out⟩
end Go.Proofs.YtbpdjjihimplaaaDoor
