/-
  My own text: layer 19: slices.Values, AppendSeq, Collect, SortedFunc of keys; each key once.
-/
import Derived.Test.YtknnojjfdfkdmaaGreatDoorU5c
namespace Go.Proofs.YtknnojjfdfkdmaaGreatDoor
open Go.RowKit Go.Shelf

attribute [local go_sem] Oper.semAt_some

theorem wpListIn_append_run {F : Fence} {nF : Nat} {P : Program} {ops : Array Oper} {rest : List Oper} {o : Oper} {a : Act} {Q : Exit → Act → World → Prop} (w : World) (hgd : o.guard = none) (s x : Operand) (t tn : TypeId)
    (ho : o.op = .call { callee := .builtin .append, args := #[s, x], argTypes := #[t, tn] }) (vs vx : Value) (hs : a.eval s = vs) (hx : a.eval x = vx)
    (v' : Value) (w' : World) (hr : (Builtin.append_ #[t, tn] o.type #[vs, vx]).run P w = .ok v' w') (h : wpListIn F nF P ops Q rest (a.put o.dst v') w') : wpListIn F nF P ops Q (o :: rest) a w := by
  refine wpListIn_plain hgd fun K hK' => ?_
  unfold Oper.wpIn
  refine ⟨by simp [Oper.about, ho, resolve, Target.leads, Sem.run_pure], ?_⟩
  rw [Oper.semAt_plain F _ _ (by rw [ho]; intro c hc'; cases hc')]
  simp [execOp, ho, resolve, invoke, builtin, hs, hx, hr, Result.andThen]
  exact hK' _ _ h
theorem valuesK_any (a : Option Addr) (n c : Nat) (w : World) :
    Calls Tryz.prog 48 #[.slice a n c] w fun e w' => e = .returned (.func (Fn.func 66) #[] #[.pointer (some ⟨w.heap.size, 0, none⟩)]) ∧ w' = w.alloc (.cells #[.slice a n c] 24) := by
  go_enter Tryz.func48, Tryz.ntmps48
  go_wp2_with fail
  go_ret
  exact ⟨rfl, rfl⟩
def encV (p : Ky) : Array Value := #[.agg #[.int .i64 p.1, .int .i64 p.2]]
theorem eqNilK (l : Nat) (W : World) : (binOp .eql 107 (.func (Fn.yield l) #[] #[]) .nilFunc).run Tryz.prog W = .ok (.bool false) W := by kernel_rfl
set_option maxRecDepth 100000 in
set_option maxHeartbeats 4000000 in
theorem values_stays (n : Nat) (hn : 1 ≤ n) (bc cap : Nat) (a : Option Addr) (L : List Ky) (w : World) (hl : L.length ≤ 8796093022000) :
    Leans Fence.wide n Tryz.prog 66 #[.pointer (some ⟨bc, 0, none⟩)] encV (fun _ V => KY.RM V (.slice a L.length cap) L ∧ V.cell? ⟨bc, 0, none⟩ = some (.slice a L.length cap)) KeepsWalks
      (fun s x => L[s.length]? = some x) (fun s => s = L) (fun _ => True) w := by
  intro l J Jx W hW hJ0 hH hY h0
  have hJ : ∀ s A C, J s A → Below A.heap.size A C → J s C := fun s A C hs hb => hJ0 s A C none hs (grown_of_below hb) (fun r e => by cases e)
  have hc0 := (hH _ _ h0).2
  have HH := hide hH
  have HJ0 := hide h0
  have qf := eqNilK l
  have HL := hide hl
  clear hH h0 hl
  refine callsIn_of_wp Tryz.func66 rfl trivial ?_ rfl
  simp only [Tryz.ntmps66, List.size_toArray, List.length_cons, List.length_nil, Nat.reduceAdd, Nat.reduceSub, Array.replicate_succ, Array.replicate_zero, List.push_toArray, List.append_toArray, List.nil_append, List.cons_append]
  gi_wp2
  clear hc0
  gi_loopw [7] (fun i wr => ∃ k : Nat, k ≤ L.length ∧ i = .int .i64 (k : Int) ∧ Hid (J (L.take k) wr)) (fun i _ => L.length - (intOf i).toNat)
  case atStart => exact ⟨0, Nat.zero_le _, rfl, HJ0⟩
  case round =>
    obtain ⟨k, hk, rfl, HJ⟩ := hrel
    by_cases hlt : k < L.length
    · obtain ⟨⟨x0, x1⟩, hx⟩ : ∃ p, L[k]? = some p := ⟨_, List.getElem?_eq_getElem hlt⟩
      have hRM := (HH.out _ _ HJ.out).1
      obtain ⟨a', cap', hv, _, hr⟩ := hRM
      injection hv with hv1 hv2 hv3
      clear hv2 hv3
      obtain ⟨b, off, ha, hbl, hc⟩ := hr.resolve_left (fun h => by rw [h] at hlt; simp at hlt)
      have z0 : wr.cell? ⟨b, off + k * 2, none⟩ = some (.int .i64 x0) := (hc k _ hx).1
      have z1 : wr.cell? ⟨b, off + k * 2 + 1, none⟩ = some (.int .i64 x1) := (hc k _ hx).2
      have z1' : wr.cell? ⟨b, off + (k * 2 + 1), none⟩ = some (.int .i64 x1) := z1
      subst hv1
      subst ha
      have hd1 : decide ((k : Int) < (L.length : Int)) = true := by rw [decide_eq_true_eq]; omega
      have k0 : (0 : Int) ≤ (k : Int) := by omega
      have k1 : (k : Int) < (L.length : Int) := by omega
      have wk : wrap64 ((k : Int) + 1) = (k : Int) + 1 := by have := HL.out; unfold wrap64; omega
      obtain ⟨W4, hW4⟩ : ∃ W4, wr.alloc (.cells #[.int .i64 x0, .int .i64 x1] 23) = W4 := ⟨_, rfl⟩
      have hb4 : Below wr.heap.size wr W4 := by rw [← hW4]; exact (Below.refl _ _).alloc (Nat.le_refl _) _
      have hk4 : W4.heap[wr.heap.size]? = some (.cells #[.int .i64 x0, .int .i64 x1] 23 (0, 0)) := by rw [← hW4]; exact alloc_new wr _
      have d0 : W4.cell? ⟨wr.heap.size, 0, none⟩ = some (.int .i64 x0) := by rw [cell_of_row _ _ 0 _ _ _ hk4]; rfl
      have d1 : W4.cell? ⟨wr.heap.size, 1, none⟩ = some (.int .i64 x1) := by rw [cell_of_row _ _ 1 _ _ _ hk4]; rfl
      obtain ⟨fn, tmps, assign, body, hy, hR⟩ := hY (L.take k) (x0, x1) W4 (hJ _ _ _ HJ.out hb4) (by rw [List.length_take, Nat.min_eq_left hk]; exact hx)
      dsimp only [encV] at hy
      have HRR := hide hR
      have HTK : Hid (L.take k ++ [(x0, x1)] = L.take (k + 1)) := hide (by rw [List.take_add_one, hx]; rfl)
      clear hR hb4 hk4 hc hbl hx
      gi_wp2
      refine HRR.out.mono ?_
      rintro e W5 (⟨rfl, hJ5, hk5⟩ | ⟨rfl, hJx5⟩)
      · rw [HTK.out] at hJ5
        have HJ5 := hide hJ5
        clear hJ5 hk5 hW4 d0 d1
        gi_wp2
        go_roundw
        case rel => exact ⟨k + 1, by omega, by go_num, HJ5⟩
        case measure => first | (rw [wk]; simp [intOf]; omega) | (simp [intOf]; omega)
      · have HX5 := hide hJx5
        clear hJx5
        gi_wp2
        refine bodyPost_ret (results_none rfl _ _ _) rfl ?_
        exact ⟨⟨_, rfl⟩, .inr ⟨_, trivial, HX5.out⟩⟩
    · have e : k = L.length := by omega
      subst e
      gi_wp2
      go_end0
      exact ⟨⟨_, rfl⟩, .inl ⟨_, rfl, by have := HJ.out; rwa [List.take_length] at this⟩⟩
/-- What the rounds leave. -/
structure KI (w : World) (bo : Nat) (s : List Ky) (v : Value) (V : World) : Prop where
  bl : Below w.heap.size w V
  out : Box V bo 24 v
  row : KY.OM V w.heap.size v s
  ne : w.heap.size ≤ bo
theorem KI.grown {w V V' : World} {bo D : Nat} {s : List Ky} {v : Value} {row : Option Nat} (h : KI w bo s v V) (hD : w.heap.size ≤ D) (hg : V.grownBy V' row) (hr : ∀ r, row = some r → D ≤ r ∧ ∃ o : Obj, V.heap[r]? = some o ∧ o.isCells = false) : KI w bo s v V' := by
  have hr' : ∀ r, row = some r → ∃ o : Obj, V.heap[r]? = some o ∧ o.isCells = false := fun r e => (hr r e).2
  refine ⟨⟨hg.os.trans h.bl.os, hg.tape.trans h.bl.tape, hg.output.trans h.bl.output, Nat.le_trans h.bl.size hg.size, fun y hy => (hg.block y (Nat.lt_of_lt_of_le hy h.bl.size) (fun e => by have := (hr y e.symm).1; omega)).trans (h.bl.block y hy)⟩, grown_cells hg hr' h.out, owns_blk h.row (fun g hgg => ?_), h.ne⟩
  obtain ⟨c, fz, hc⟩ := ownsRow_kind h.row g hgg
  rw [hc]; exact grown_cells hg hr' hc
/-- One key more. -/
theorem KI.push {w W W3 w4 : World} {bo D : Nat} {v v' : Value} {s : List Ky} {x : Ky} (h : KI w bo s v W) (hW3 : W.alloc (.cells #[.int .i64 x.1, .int .i64 x.2] 23) = W3)
    (r1 : KY.OM w4 w.heap.size v' (s ++ [x])) (r2 : W3.grownBy w4 v.ownBlock) :
    Box w4 bo 24 v ∧ KI w bo (s ++ [x]) v' (w4.setCell ⟨bo, 0, none⟩ v') ∧ KeepsWalks W (w4.setCell ⟨bo, 0, none⟩ v') ∧ KeepsFrom D W (w4.setCell ⟨bo, 0, none⟩ v') := by
  have hb3 : Below W.heap.size W W3 := by rw [← hW3]; exact (Below.refl _ _).alloc (Nat.le_refl _) _
  have hkind := fun g hg => ownsRow_kind h.row g hg
  have hk : ∀ (b : Nat) (c : Array Value) (t : TypeId) (fz : Nat × Nat), W.heap[b]? = some (Obj.cells c t fz) → t ≠ 23 → w4.heap[b]? = some (Obj.cells c t fz) := fun b c t fz hb ht => by
    have h3 := (hb3.block b (Array.getElem?_eq_some_iff.1 hb).1).trans hb
    refine (r2.block b (Array.getElem?_eq_some_iff.1 h3).1 (fun e => ?_)).trans h3
    obtain ⟨c', fz', hc'⟩ := hkind b e.symm
    rw [hb] at hc'
    injection hc' with hc'; injection hc' with _ hc' _
    exact ht hc'
  have hno : ∀ (g : Nat) (o : Obj), W.heap[g]? = some o → o.isCells = false → w4.heap[g]? = some o := fun g o hg ho => by
    have h3 := (hb3.block g (Array.getElem?_eq_some_iff.1 hg).1).trans hg
    refine (r2.block g (Array.getElem?_eq_some_iff.1 h3).1 (fun e => ?_)).trans h3
    obtain ⟨c', fz', hc'⟩ := hkind g e.symm
    rw [hg] at hc'
    cases hc'; cases ho
  have o4 : Box w4 bo 24 v := hk _ _ _ _ h.out (by decide)
  have o4' : w4.heap[bo]? = some (.cells #[v] 24 (0, 0)) := o4
  have b4 : Below w.heap.size w w4 := (h.bl.trans (hb3.mono h.bl.size)).grown r2 (Nat.le_trans h.bl.size hb3.size) (fun k hk => (World.ownsRow.lt h.row k hk).1)
  have ks : ∀ (g : Nat) (o : Obj), W.heap[g]? = some o → o.isCells = false → (w4.setCell ⟨bo, 0, none⟩ v').heap[g]? = some o := fun g o hg ho => by
    have h4 := hno g o hg ho
    refine (Below.heap_setCell _ _ _ g (fun e => ?_)).trans h4
    rw [show g = bo from e, o4'] at h4
    cases h4; cases ho
  have hsz : W.heap.size ≤ (w4.setCell ⟨bo, 0, none⟩ v').heap.size := Nat.le_trans hb3.size (Nat.le_trans r2.size (by simp [World.setCell]))
  refine ⟨o4, ⟨b4.trans ⟨rfl, rfl, rfl, by simp [World.setCell], fun y hy => Below.heap_setCell _ _ _ y (fun e => by have : y = bo := e; have := h.ne; omega)⟩, o4.set v', owns_blk r1 (fun g hg => Below.heap_setCell _ _ _ g (fun e => ?_)), h.ne⟩, ⟨hsz, fun g o hg ho => ks g o hg (Obj.not_cells_of_walk ho)⟩, ⟨hsz, fun g o _ hg ho => ks g o hg ho⟩⟩
  obtain ⟨c', fz', hc'⟩ := ownsRow_kind r1 g hg
  rw [show g = bo from e, o4'] at hc'
  injection hc' with hc'; injection hc' with _ hc' _
  exact absurd hc' (by decide)
theorem eqNilS2 (b : Nat) (W : World) : (binOp .eql 84 (.func (Fn.func 66) #[] #[.pointer (some ⟨b, 0, none⟩)]) .nilFunc).run Tryz.prog W = .ok (.bool false) W := by kernel_rfl
theorem rm_box {w : World} {x : Ky} : KY.RM (w.alloc (.cells #[.int .i64 x.1, .int .i64 x.2] 23)) (.slice (some ⟨w.heap.size, 0, none⟩) 1 1) [x] := by
  obtain ⟨x0, x1⟩ := pair_cells (alloc_new w (.cells #[.int .i64 x.1, .int .i64 x.2] 23)) rfl
  refine ⟨_, 1, rfl, Nat.le_refl _, .inr ⟨_, 0, rfl, by simp, fun j p hj => ?_⟩⟩
  match j, hj with
  | 0, hj => obtain rfl := Option.some.inj hj; exact ⟨x0, x1⟩
set_option maxRecDepth 100000 in
set_option maxHeartbeats 4000000 in
theorem appSeq_in (bc cap : Nat) (a : Option Addr) (L : List Ky) (w : World) (h : KY.RM w (.slice a L.length cap) L) (hc : Box w bc 24 (.slice a L.length cap)) (hl : L.length ≤ 8796093022000) :
    CallsIn Fence.wide 9 Tryz.prog 78 #[.slice none 0 0, .func (Fn.func 66) #[] #[.pointer (some ⟨bc, 0, none⟩)]] w fun e w' => ∃ v : Value, e = .returned v ∧ KY.OM w' w.heap.size v L ∧ Below w.heap.size w w' := by
  have HLL := hide hl
  have HR := hide h
  have HC := hide hc
  have qf := eqNilS2
  clear hl h hc
  refine callsIn_of_wp_marks Tryz.func78 rfl trivial ?_ rfl
  simp only [Tryz.ntmps78, List.size_toArray, List.length_cons, List.length_nil, Nat.reduceAdd, Nat.reduceSub, Array.replicate_succ, Array.replicate_zero, List.push_toArray, List.append_toArray, List.nil_append, List.cons_append]
  refine wpIn_wide.2 ?_
  go_wp2_with fail
  have P5 : Hid (KI w w.heap.size [] (.slice none 0 0) (w.alloc (.cells #[.slice none 0 0] 24))) := hide (by
    have b1 : Below w.heap.size w (w.alloc (.cells #[.slice none 0 0] 24)) := (Below.refl _ _).alloc (Nat.le_refl _) _
    have o1 := Box.new w 24 (.slice none 0 0)
    generalize w.alloc (.cells #[.slice none 0 0] 24) = U1 at *
    exact ⟨b1, o1, KY.OM.nil _ _, Nat.le_refl _⟩)
  have ZL : Hid (w.heap.size ≤ (w.alloc (.cells #[.slice none 0 0] 24)).heap.size) := hide P5.out.bl.size
  generalize w.alloc (.cells #[.slice none 0 0] 24) = W5 at *
  obtain ⟨bo, hbo⟩ : ∃ bo, bo = w.heap.size := ⟨_, rfl⟩
  rw [← hbo] at P5 ⊢
  have P6 : Hid (KI w bo [] (.slice none 0 0) W5) := hide (by have := P5.out; rw [hbo] at this ⊢; exact this)
  clear hbo P5
  have HSQ := hide (values_stays 8 (by omega) bc cap a L W5 HLL.out)
  refine (wpIn_wide (n := 9)).1 ?_
  refine' loop_leansA (F := Fence.wide) (n := 9) rfl (by omega) (gf := 66) (lb := #[.pointer (some ⟨bc, 0, none⟩)]) rfl trivial (enters_of Tryz.func66 (by kernel_rfl) rfl) HSQ.out (fun h k => h.trans k) (fun W l o o' _ h _ hw => KeepsWalks.putObj o' h hw) (fun W o => KeepsWalks.alloc W o) (fun _ => rfl)
    (fun s V => s.length ≤ L.length ∧ ∃ v, KI w bo s v V)
    (fun _ _ _ => False)
    (fun s V ⟨_, v, hs⟩ => ⟨HR.out.later hs.bl, (HC.out.later hs.bl).cell⟩)
    (fun s A C row ⟨hs0, v, hs⟩ hg hr => ⟨hs0, v, hs.grown ZL.out hg hr⟩)
    (fun _ _ _ _ _ hs _ _ => hs)
    ⟨Nat.zero_le _, _, P6.out⟩ _ (fun x => .cells #[.int .i64 x.1, .int .i64 x.2] 23) ?assign ?body ?done ?stop
  case assign =>
    intro l x W z K hz hK
    dsimp only [encV]
    gi_wp2
    rw [← hz]
    exact hK
  case body =>
    rintro l' s x kb W ⟨hs0, v, hP⟩ hsl _ hkb
    have hsl' := (List.getElem?_eq_some_iff.1 hsl).1
    have P0 := hide hP
    have c0' := hP.out.cell
    have k0 : W.cell? ⟨kb, 0, none⟩ = some (.int .i64 x.1) := by rw [cell_of_row _ _ 0 _ _ _ hkb]; rfl
    have k1 : W.cell? ⟨kb, 1, none⟩ = some (.int .i64 x.2) := by rw [cell_of_row _ _ 1 _ _ _ hkb]; rfl
    have HSL := hide hsl'
    obtain ⟨W3, hW3⟩ : ∃ W3, W.alloc (.cells #[.int .i64 x.1, .int .i64 x.2] 23) = W3 := ⟨_, rfl⟩
    have HW3 := hide hW3
    obtain ⟨v', w4, hrun, r1, r2⟩ := KY.run_append_rm W3 w.heap.size 24 v s (by rw [← hW3]; exact hP.row.later ((Below.refl _ _).alloc (Nat.le_refl _) _)) (.slice (some ⟨W.heap.size, 0, none⟩) 1 1) [x] (by rw [← hW3]; exact rm_box) (by have := HLL.out; simp; omega) (by rw [← hW3]; have := hP.bl.size; simp; omega)
    have HRUN := hide hrun
    obtain ⟨a4, cap4, hv4⟩ := KY.rm_lt r1.rm
    obtain ⟨o4, A4, K4, F4⟩ := hP.push (D := W5.heap.size) hW3 r1 r2
    subst hv4
    have e0 := o4.cell
    have e1 := o4.frozen
    obtain ⟨W6, hW6⟩ : ∃ W6, w4.setCell ⟨bo, 0, none⟩ (.slice a4 (s ++ [x]).length cap4) = W6 := ⟨_, rfl⟩
    rw [hW6] at A4 K4 F4
    have HA4 := hide A4
    have HK4 := hide K4
    have HF4 := hide F4
    have HS4 : Hid ((s ++ [x]).length ≤ L.length) := hide (by simp; omega)
    obtain ⟨n4, hn4⟩ : ∃ n4, (s ++ [x]).length = n4 := ⟨_, rfl⟩
    rw [hn4] at HRUN hW6
    clear A4 K4 F4 o4 r1 r2 hP hsl hsl' hkb hs0 hn4
    gi_wp2_with (gi_at_builtin; refine wpListIn_append_run W3 rfl _ _ 24 24 rfl _ _ rfl rfl _ _ HRUN.out ?_)
    exact ⟨HF4.out, HK4.out, HS4.out, _, HA4.out⟩
  case done =>
    rintro D s W hD hS ⟨_, v, hP⟩ hK
    subst hS
    have c0' := hP.out.cell
    have P7 := hide hP
    have HKD := hide hK
    have HDD := hide hD
    clear hP hK hD P6 HSQ
    go_wp2_with fail
    have PZ := P7.out.grown (D := W5.heap.size) ZL.out (grownBy_putObj' W D (.deferred none)) (fun r e => by cases e; exact ⟨HDD.out, _, HKD.out, rfl⟩)
    refine ⟨by simp, .inl ⟨_, _, rfl, run_takeDeferred HKD.out, ?_⟩⟩
    exact ⟨v, results_tmp (fn := Tryz.f78) (t := 4) rfl _ _ _, v, rfl, PZ.row, PZ.bl⟩
  case stop =>
    rintro D c s W hD _ hF
    exact hF.elim
end Go.Proofs.YtknnojjfdfkdmaaGreatDoor
