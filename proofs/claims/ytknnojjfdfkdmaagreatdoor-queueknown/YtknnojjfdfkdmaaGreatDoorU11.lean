/-
  My own text: layer 19: forget, Remove.
-/
import Derived.Test.YtknnojjfdfkdmaaGreatDoorU10
namespace Go.Proofs.YtknnojjfdfkdmaaGreatDoor
open Go.RowKit Go.Extern Go.MapKept Go.ChangeMaps

theorem by_del {w : World} {mb : Nat} {N : Int → Option Value} {id : Int} (h : MP iv IOK w mb N) (hid : IOK id) (ty : TypeId) :
    ∃ w', (Builtin.delete_ #[57, 3] ty #[.map (some mb), .int .i64 id]).run Tryz.prog w = .ok (.tuple #[]) w' ∧ MP iv IOK w' mb (fun x => if x = id then none else N x) ∧ w.grownBy w' (some mb) := by
  obtain ⟨w', h1, h2, h3, _⟩ := h.del Tryz.underlying57 lawInt keyOf_iv iv_inj hid 3 ty
  exact ⟨w', h1, h2, h3⟩
theorem wt_del {w : World} {mw : Nat} {f : Ky → Option Value} {k : Ky} (h : MP kv KOK w mw f) (hk : KOK k) (ty : TypeId) :
    ∃ w', (Builtin.delete_ #[58, 23] ty #[.map (some mw), .agg #[.int .i64 k.1, .int .i64 k.2]]).run Tryz.prog w = .ok (.tuple #[]) w' ∧ MP kv KOK w' mw (fun x => if x = k then none else f x) ∧ w.grownBy w' (some mw) := by
  obtain ⟨w', h1, h2, h3, _⟩ := h.del Tryz.underlying58 lawKey keyOf_kv kv_inj hk 23 ty
  exact ⟨w', h1, h2, h3⟩
/-- Nobody waits for a key any more. -/
theorem QM.drops {F : Nat → Prop} {w w1 : World} {q kb : Nat} {Z : Qx} (h : QM F w q Z) (hF : ∀ g, w.heap.size ≤ g → F g) {k : Ky} (hk : KOK k) (hg : w.grownBy w1 (Rf Z.f k).ownBlock) {c : Array Value} (hkb : w.heap[kb]? = some (.cells c 23 (0, 0))) (ty : TypeId) :
    w1.cell? ⟨q, 5, none⟩ = some (.map (some Z.mw)) ∧ w1.heap[kb]? = some (.cells c 23 (0, 0)) ∧ ∃ w2, (Builtin.delete_ #[58, 23] ty #[.map (some Z.mw), .agg #[.int .i64 k.1, .int .i64 k.2]]).run Tryz.prog w1.drew = .ok (.tuple #[]) w2 ∧ w2.cell? ⟨q, 5, none⟩ = some (.map (some Z.mw)) ∧ w2.heap[kb]? = some (.cells c 23 (0, 0)) ∧ QM F w2 q { Z with f := fun x => if x = k then none else Z.f x, C := fun x => if x = k then [] else Z.C x } ∧ Fw F w w2 := by
  have hg' : w.grownBy w1.drew (Rf Z.f k).ownBlock := gb_trans hg (gb_drew w1 _)
  obtain ⟨a1, a2, a3, a4, a5⟩ := h.rowed (h.row k) hg'
  have yk := row_kept (h.row k) hg' hkb (by decide)
  obtain ⟨w2, r2, m2, g2⟩ := wt_del a3 hk ty
  obtain ⟨z1, z2⟩ := h.waits (k := k) (f' := fun x => if x = k then none else Z.f x) (v' := .slice none 0 0) (L := []) hF (PR.nil _) hg' (fun g e => by cases e) m2 g2 (by show (if k = k then none else Z.f k).getD _ = _; rw [if_pos rfl]; rfl) (fun k' e => if_neg e)
  obtain ⟨es, cl, hb⟩ := a3.map
  exact ⟨by rw [cell_of_row w1 _ 5 _ _ _ a1]; rfl, yk, w2, r2, z1.cells.2.2.2.2.2, map_kept hb g2 yk, z1, z2⟩
theorem wpList_delete_run {P : Program} (w : World) {ops : Array Oper} {rest : List Oper} {o : Oper} {a : Act} {Q : Exit → Act → World → Prop} (hgd : o.guard = none) (s x : Operand) (t tn : TypeId)
    (ho : o.op = .call { callee := .builtin .delete, args := #[s, x], argTypes := #[t, tn] }) (vs vx : Value) (hs : a.eval s = vs) (hx : a.eval x = vx)
    (v' : Value) (w' : World) (hr : (Builtin.delete_ #[t, tn] o.type #[vs, vx]).run P w = .ok v' w') (h : wpList P ops Q rest (a.put o.dst v') w') : wpList P ops Q (o :: rest) a w :=
  wpList_plain hgd fun _ hK => by
    unfold Oper.wp execOp
    simp only [ho, resolve, invoke, builtin, Sem.run_bind, Sem.run_pure, Result.andThen_ok, List.map_toArray, List.map_cons, List.map_nil, hs, hx, hr]
    exact hK _ _ h
/-- Those that wait for a key, without one. -/
def outC (c : Nat → Int) (x : Nat) (L : List Nat) : List Nat := if hasC c (c x) L = true then delE c x L else L
set_option maxRecDepth 100000 in
set_option maxHeartbeats 2000000 in
theorem forget_any (F : Nat → Prop) (q x : Nat) (k : Ky) (Z : Qx) (w : World) (h : QM F w q Z) (hF : ∀ g, w.heap.size ≤ g → F g) (hk : KOK k) (hx : x ∈ Z.X) (hC : Sr (fun y => (Z.T y).came) (Z.C k) ∧ (∀ y ∈ Z.C k, y ∈ Z.X) ∧ (Z.C k).length ≤ 8796093022000) :
    Calls Tryz.prog 62 #[.pointer (some ⟨q, 0, none⟩), .agg #[.int .i64 k.1, .int .i64 k.2], .pointer (some ⟨x, 0, none⟩)] w fun r w' => r = .returned (.tuple #[]) ∧ (∃ f', QM F w' q { Z with f := f', C := fun y => if y = k then outC (fun y => (Z.T y).came) x (Z.C k) else Z.C y }) ∧ Fw F w w' := by
  obtain ⟨W8, hW8⟩ : ∃ W8, w.alloc (.cells #[.int .i64 k.1, .int .i64 k.2] 23) = W8 := ⟨_, rfl⟩
  have b8 : Below w.heap.size w W8 := by rw [← hW8]; exact (Below.refl _ _).alloc (Nat.le_refl _) _
  have kb8 : W8.heap[w.heap.size]? = some (.cells #[.int .i64 k.1, .int .i64 k.2] 23 (0, 0)) := by rw [← hW8]; exact alloc_new w _
  have b8d : Below w.heap.size w W8.drew := b8.trans ⟨rfl, rfl, rfl, Nat.le_refl _, fun _ _ => rfl⟩
  have h8 := h.later b8d
  have kd8 : W8.drew.heap[w.heap.size]? = some (.cells #[.int .i64 k.1, .int .i64 k.2] 23 (0, 0)) := kb8
  obtain ⟨s0, s1⟩ := pair_cells kb8 rfl
  obtain ⟨d0, d1⟩ := pair_cells kd8 rfl
  have q5 : W8.cell? ⟨q, 5, none⟩ = some (.map (some Z.mw)) := (h.later b8).cells.2.2.2.2.2
  have q5d : W8.drew.cell? ⟨q, 5, none⟩ = some (.map (some Z.mw)) := h8.cells.2.2.2.2.2
  have hlk8 := wt_look (k := k) h8.wt hk
  have HW0 := without_any (Rf Z.f k) (Z.C k) (fun y => (Z.T y).came) x W8.drew (h8.row k) hC.1 (h8.cms hC.2.1) (En.cm (h8.ent x hx)) hC.2.2
  obtain ⟨ar, cr, hRf⟩ := (h8.row k).slc
  have HRF := hide hRf
  have HW : Hid (Calls Tryz.prog 31 #[.slice ar (Z.C k).length cr, .pointer (some ⟨x, 0, none⟩)] W8.drew fun r w' => ∃ v', r = .returned v' ∧ PR w' v' (outC (fun y => (Z.T y).came) x (Z.C k)) ∧ W8.drew.grownBy w' (Rf Z.f k).ownBlock ∧ v'.ownBlock = (Rf Z.f k).ownBlock) := hide (by
    unfold outC
    rw [hRf] at HW0 ⊢
    exact HW0)
  rw [hRf] at hlk8
  have H8 := hide h8
  have HF8 : Hid (Fw F w W8.drew) := hide (Fw.below b8d)
  have HFF := hide (fun g (hg : W8.drew.heap.size ≤ g) => hF g (Nat.le_trans b8d.size hg))
  have HKD := hide kd8
  have HKOK := hide hk
  obtain ⟨k1, k2⟩ := k
  dsimp only at *
  clear b8 b8d kb8 kd8 h8 HW0 hC hRf h hF hk hx
  go_enter Tryz.func62, Tryz.ntmps62
  go_wp2_with fail
  generalize hL : outC (fun y => (Z.T y).came) x (Z.C (k1, k2)) = L at *
  have HLL := hide hL
  clear hL
  go_region_held3 (fun W => W.cell? ⟨q, 5, none⟩ = some (.map (some Z.mw)) ∧ W.cell? ⟨w.heap.size, 0, none⟩ = some (.int .i64 k1) ∧ W.cell? ⟨w.heap.size, 1, none⟩ = some (.int .i64 k2)) (go_keep) ((go_at_call 31; refine HW.out.mono ?_; rintro r w9 ⟨v9, rfl, p1, p2, p3⟩; obtain ⟨a9, c9, hv9⟩ := p1.slc; have P1 := hide p1; have P2 := hide p2; have P3 : Hid (∀ g, v9.ownBlock = some g → (Rf Z.f (k1, k2)).ownBlock = some g ∨ W8.drew.heap.size ≤ g) := hide (fun g hg => .inl (by rw [← p3]; exact hg)); obtain ⟨y5, yk, _⟩ := H8.out.drops HFF.out HKOK.out p2 HKD.out 0; obtain ⟨y0, y1⟩ := pair_cells yk rfl; have YK := hide yk; subst hv9; clear p1 p2 p3 yk))
  rename_i hheld
  clear hheld
  by_cases h0 : L = []
  · subst h0
    obtain ⟨_, _, w2, r2, x5, xk, z1, z2⟩ := H8.out.drops HFF.out HKOK.out P2.out HKD.out 0
    obtain ⟨x0, x1⟩ := pair_cells xk rfl
    have n5 : w9.drew.cell? ⟨q, 5, none⟩ = some (.map (some Z.mw)) := y5
    have n0 : w9.drew.cell? ⟨w.heap.size, 0, none⟩ = some (.int .i64 k1) := y0
    have n1 : w9.drew.cell? ⟨w.heap.size, 1, none⟩ = some (.int .i64 k2) := y1
    have HZ1 := hide z1
    have HZ2 := hide (HF8.out.trans z2)
    dsimp only at r2
    clear z1 z2 xk P1 P3 HW H8 HKD hlk8 q5 q5d s0 s1 d0 d1 hW8
    go_wp2_with fail
    go_region_held3 (fun W => W.cell? ⟨q, 5, none⟩ = some (.map (some Z.mw)) ∧ W.cell? ⟨w.heap.size, 0, none⟩ = some (.int .i64 k1) ∧ W.cell? ⟨w.heap.size, 1, none⟩ = some (.int .i64 k2)) (go_keep) ((fail))
    go_wp2_with fail
    refine bodyPost_ret (results_none rfl _ _ _) rfl ?_
    exact ⟨rfl, ⟨_, by rw [HLL.out]; exact HZ1.out⟩, HZ2.out⟩
  · have hz : ((L.length : Int) == 0) = false := by rw [beq_eq_false_iff_ne]; intro e; exact h0 (List.eq_nil_of_length_eq_zero (by omega))
    obtain ⟨_, _, w2, r2, x5, xk, z1, z2⟩ := H8.out.lays HFF.out HKOK.out (P1.out.later ((Below.refl _ _).drew)) (gb_trans P2.out (gb_drew w9 _)) P3.out HKD.out
    obtain ⟨x0, x1⟩ := pair_cells xk rfl
    have n5 : w9.drew.cell? ⟨q, 5, none⟩ = some (.map (some Z.mw)) := y5
    have n0 : w9.drew.cell? ⟨w.heap.size, 0, none⟩ = some (.int .i64 k1) := y0
    have n1 : w9.drew.cell? ⟨w.heap.size, 1, none⟩ = some (.int .i64 k2) := y1
    have HZ1 := hide z1
    have HZ2 := hide (HF8.out.trans z2)
    dsimp only at r2
    clear z1 z2 xk P1 P3 HW H8 HKD hlk8 q5 q5d s0 s1 d0 d1 hW8 h0
    go_wp2_with fail
    go_region_held3 (fun W => W.cell? ⟨q, 5, none⟩ = some (.map (some Z.mw)) ∧ W.cell? ⟨w.heap.size, 0, none⟩ = some (.int .i64 k1) ∧ W.cell? ⟨w.heap.size, 1, none⟩ = some (.int .i64 k2)) (go_keep) ((fail))
    go_wp2_with fail
    go_end0
    exact ⟨rfl, ⟨_, by rw [HLL.out]; exact HZ1.out⟩, HZ2.out⟩
set_option maxRecDepth 100000 in
set_option maxHeartbeats 1000000 in
theorem remove_no (F : Nat → Prop) (q : Nat) (id : Int) (Z : Qx) (w : World) (h : QM F w q Z) (hid : IOK id) (h0 : Z.N id = none) :
    Calls Tryz.prog 42 #[.pointer (some ⟨q, 0, none⟩), .int .i64 id] w fun r w' => r = .returned (.bool false) ∧ w' = w := by
  have q2 := h.cells.2.2.1
  have hlk := by_look h.by' hid
  rw [h0] at hlk
  dsimp only [Option.getD, Option.isSome] at hlk
  clear h h0
  go_enter Tryz.func42, Tryz.ntmps42
  go_wp2_with fail
  go_ret
  exact ⟨rfl, rfl⟩
/-- What a queue is behind a Remove. -/
structure RemTo (Z Z' : Qx) (x : Nat) (id : Int) : Prop where
  room : Z'.room = Z.room
  n : Z'.n = Z.n
  T : Z'.T = Z.T
  X : Z'.X = Z.X
  A : Z'.A = outC (fun y => (Z.T y).came) x Z.A
  Rd : Z'.Rd = outC (fun y => (Z.T y).came) x Z.Rd
  N : ∀ i, Z'.N i = if i = id then none else Z.N i
  C : ∀ k, Z'.C k = if k ∈ (Z.T x).keys then outC (fun y => (Z.T y).came) x (Z.C k) else Z.C k
set_option maxRecDepth 100000 in
set_option maxHeartbeats 2000000 in
theorem remove_yes (F : Nat → Prop) (q x : Nat) (id : Int) (Z : Qx) (w : World) (h : QM F w q Z) (hF : ∀ g, w.heap.size ≤ g → F g) (hid : IOK id) (h0 : Z.N id = some (ep x)) (hx : x ∈ Z.X) (hLK : ∀ k ∈ (Z.T x).keys, KOK k) (hI : Inc (Z.T x).keys) (hKl : (Z.T x).keys.length ≤ 8796093022000)
    (hA : Sr (fun y => (Z.T y).came) Z.A ∧ (∀ y ∈ Z.A, y ∈ Z.X) ∧ Z.A.length ≤ 8796093022000) (hR : Sr (fun y => (Z.T y).came) Z.Rd ∧ (∀ y ∈ Z.Rd, y ∈ Z.X) ∧ Z.Rd.length ≤ 8796093022000) (hC : ∀ k, Sr (fun y => (Z.T y).came) (Z.C k) ∧ (∀ y ∈ Z.C k, y ∈ Z.X) ∧ (Z.C k).length ≤ 8796093022000) :
    Calls Tryz.prog 42 #[.pointer (some ⟨q, 0, none⟩), .int .i64 id] w fun r w' => r = .returned (.bool true) ∧ ∃ Z', QM F w' q Z' ∧ RemTo Z Z' x id ∧ Fw F w w' := by
  have q2 := h.cells.2.2.1
  have hlk := by_look h.by' hid
  rw [h0] at hlk
  dsimp only [Option.getD, Option.isSome, ep] at hlk
  obtain ⟨W1, run1, mp1, g1⟩ := by_del h.by' hid 0
  obtain ⟨h1, f1⟩ := h.named mp1 g1
  have m3 := h1.cells.2.2.2.1
  dsimp only at m3
  obtain ⟨av, cap, hva⟩ := h1.all.slc
  dsimp only at hva
  have HVA := hide hva
  have HW0 := without_any Z.va Z.A (fun y => (Z.T y).came) x W1 h1.all hA.1 (h1.cms hA.2.1) (En.cm (T := Z.T) (h1.ent x hx)) hA.2.2
  have HW : Hid (Calls Tryz.prog 31 #[.slice av Z.A.length cap, .pointer (some ⟨x, 0, none⟩)] W1 fun r w' => ∃ v', r = .returned v' ∧ PR w' v' (outC (fun y => (Z.T y).came) x Z.A) ∧ W1.grownBy w' Z.va.ownBlock ∧ v'.ownBlock = Z.va.ownBlock) := hide (by
    unfold outC
    rw [hva] at HW0 ⊢
    exact HW0)
  rw [hva] at m3
  obtain ⟨A', hA'⟩ : ∃ A', outC (fun y => (Z.T y).came) x Z.A = A' := ⟨_, rfl⟩
  rw [hA'] at HW
  have HA' := hide hA'
  have H1 := hide h1
  have HF1 := hide f1
  have HF' := hide hF
  have HX := hide hx
  have HLK := hide hLK
  have HI := hide hI
  have HKL := hide hKl
  have HR := hide hR
  have HC := hide hC
  clear h hid h0 mp1 g1 h1 f1 hva HW0 hA' hF hx hLK hI hA hR hC hKl
  go_enter Tryz.func42, Tryz.ntmps42
  go_wp2_with fail
  refine HW.out.mono ?_
  rintro r w2 ⟨v', rfl, p1, p2, p3⟩
  obtain ⟨z1, z2, z3⟩ := H1.out.alls (fun g hg => HF'.out g (Nat.le_trans HF1.out.size hg)) p1 p2 (fun g hg => .inl (by rw [← p3]; exact hg))
  obtain ⟨a', cap', rfl⟩ := p1.slc
  have d3 : w2.cell? ⟨q, 3, none⟩ = some (.slice av Z.A.length cap) := by rw [cell_of_row _ _ 3 _ _ _ z1]; show some Z.va = _; rw [HVA.out]
  have g3 : w2.frozen? ⟨q, 3, none⟩ = false := clr_row z1 3
  have f3 := HF1.out.trans z3
  obtain ⟨W3, hW3⟩ : ∃ W3, w2.setCell ⟨q, 3, none⟩ (.slice a' A'.length cap') = W3 := ⟨_, rfl⟩
  rw [hW3] at z2 f3
  have m4 := z2.cells.2.2.2.2.1
  dsimp only at m4
  obtain ⟨av2, cap2, hvr⟩ := z2.rdy.slc
  dsimp only at hvr
  have HVR := hide hvr
  have hR := HR.out
  have HV0 := without_any Z.vr Z.Rd (fun y => (Z.T y).came) x W3 z2.rdy hR.1 (z2.cms hR.2.1) (En.cm (T := Z.T) (z2.ent x HX.out)) hR.2.2
  have HV : Hid (Calls Tryz.prog 31 #[.slice av2 Z.Rd.length cap2, .pointer (some ⟨x, 0, none⟩)] W3 fun r w' => ∃ v', r = .returned v' ∧ PR w' v' (outC (fun y => (Z.T y).came) x Z.Rd) ∧ W3.grownBy w' Z.vr.ownBlock ∧ v'.ownBlock = Z.vr.ownBlock) := hide (by
    unfold outC
    rw [hvr] at HV0 ⊢
    exact HV0)
  rw [hvr] at m4
  obtain ⟨R', hR'⟩ : ∃ R', outC (fun y => (Z.T y).came) x Z.Rd = R' := ⟨_, rfl⟩
  rw [hR'] at HV
  have HR' := hide hR'
  have H3 := hide z2
  have HF3 := hide f3
  clear p1 p2 p3 z1 z2 z3 HW H1 HF1 hvr hR HV0 hR' f3 run1 q2 hlk m3
  go_wp2_with fail
  refine HV.out.mono ?_
  rintro r w4 ⟨v', rfl, p1, p2, p3⟩
  obtain ⟨z1, z2, z3⟩ := H3.out.ready (fun g hg => HF'.out g (Nat.le_trans HF3.out.size hg)) p1 p2 (fun g hg => .inl (by rw [← p3]; exact hg))
  obtain ⟨a4, cap4, rfl⟩ := p1.slc
  have d4 : w4.cell? ⟨q, 4, none⟩ = some (.slice av2 Z.Rd.length cap2) := by rw [cell_of_row _ _ 4 _ _ _ z1]; show some Z.vr = _; rw [HVR.out]
  have g4 : w4.frozen? ⟨q, 4, none⟩ = false := clr_row z1 4
  have f5 := HF3.out.trans z3
  obtain ⟨W5, hW5⟩ : ∃ W5, w4.setCell ⟨q, 4, none⟩ (.slice a4 R'.length cap4) = W5 := ⟨_, rfl⟩
  rw [hW5] at z2 f5
  have e2 := (z2.ent x HX.out).cells.2.2.1
  have hks := (z2.ent x HX.out).ks
  dsimp only at e2 hks
  obtain ⟨K, hK⟩ : ∃ K, (Z.T x).keys = K := ⟨_, rfl⟩
  rw [hK] at hks HLK HI HKL
  obtain ⟨a2, c2, hkv⟩ := KY.rm_lt hks.rm
  rw [hkv] at e2
  have HK := hide hK
  have HKV := hide hkv
  obtain ⟨Z7, hZ7⟩ : ∃ Z7 : Qx, Z7 = { room := Z.room, n := Z.n, mb := Z.mb, mw := Z.mw, va := .slice a' A'.length cap', vr := .slice a4 R'.length cap4, f := Z.f, N := fun i => if i = id then none else Z.N i, T := Z.T, X := Z.X, A := A', Rd := R', C := Z.C } := ⟨_, rfl⟩
  have H7 : Hid (QM F W5 q { Z7 with f := Z.f, C := Z.C }) := hide (by rw [hZ7]; exact z2)
  have HZ : Hid (Z7.room = Z.room ∧ Z7.n = Z.n ∧ Z7.T = Z.T ∧ Z7.X = Z.X ∧ Z7.A = A' ∧ Z7.Rd = R' ∧ Z7.N = fun i => if i = id then none else Z.N i) := hide (by rw [hZ7]; exact ⟨rfl, rfl, rfl, rfl, rfl, rfl, rfl⟩)
  have HF7 := hide f5
  clear p1 p2 p3 z1 z2 z3 HV H3 HF3 f5 hK hkv hks hZ7 m4 hW3 d3 g3
  go_wp2_with fail
  clear hW5 d4 g4
  go_loopw [48] (fun i wr => ∃ (j : Nat) (f : Ky → Option Value) (C : Ky → List Nat), j ≤ K.length ∧ i = .int .i64 (j : Int) ∧ Hid (QM F wr q { Z7 with f := f, C := C }) ∧ Hid (∀ k, C k = if k ∈ K.take j then outC (fun y => (Z.T y).came) x (Z.C k) else Z.C k) ∧ Hid (Fw F w wr)) (fun i _ => K.length - (intOf i).toNat)
  case atStart => exact ⟨0, Z.f, Z.C, Nat.zero_le _, rfl, H7, hide (fun k => by rw [if_neg (by simp)]), HF7⟩
  case round =>
    clear H7 HF7 e2
    obtain ⟨j, f, C, hj, rfl, HQ, HCJ, HFW⟩ := hrel
    by_cases hlt : j < K.length
    · obtain ⟨⟨k1, k2⟩, hk⟩ : ∃ p, K[j]? = some p := ⟨_, List.getElem?_eq_getElem hlt⟩
      have hxm : x ∈ Z7.X := by rw [HZ.out.2.2.2.1]; exact HX.out
      have hTx : Z7.T x = Z.T x := by rw [HZ.out.2.2.1]
      have hks := (HQ.out.ent x hxm).ks
      dsimp only at hks
      rw [hTx, HK.out, HKV.out] at hks
      obtain ⟨ga, gcap, hgv, _, hgr⟩ := KY.OM.rm hks
      injection hgv with hv1 hv2 hv3
      clear hv2 hv3
      obtain ⟨gb, goff, hga, hgl, hgc⟩ := hgr.resolve_left (fun h => by rw [h] at hlt; simp at hlt)
      have z0 : wr.cell? ⟨gb, goff + j * 2, none⟩ = some (.int .i64 k1) := (hgc j _ hk).1
      have z1 : wr.cell? ⟨gb, goff + j * 2 + 1, none⟩ = some (.int .i64 k2) := (hgc j _ hk).2
      have z1' : wr.cell? ⟨gb, goff + (j * 2 + 1), none⟩ = some (.int .i64 k2) := z1
      subst hga
      subst hv1
      have hKOK : KOK (k1, k2) := HLK.out _ (List.mem_of_getElem? hk)
      have hd1 : decide ((j : Int) < (K.length : Int)) = true := by rw [decide_eq_true_eq]; omega
      have i0 : (0 : Int) ≤ (j : Int) := by omega
      have i1 : (j : Int) < (K.length : Int) := by omega
      have wk : wrap64 ((j : Int) + 1) = (j : Int) + 1 := by have := HKL.out; unfold wrap64; omega
      obtain ⟨W8, hW8⟩ : ∃ W8, wr.alloc (.cells #[.int .i64 k1, .int .i64 k2] 23) = W8 := ⟨_, rfl⟩
      have b8 : Below wr.heap.size wr W8 := by rw [← hW8]; exact (Below.refl _ _).alloc (Nat.le_refl _) _
      have kb8 : W8.heap[wr.heap.size]? = some (.cells #[.int .i64 k1, .int .i64 k2] 23 (0, 0)) := by rw [← hW8]; exact alloc_new wr _
      obtain ⟨s0, s1⟩ := pair_cells kb8 rfl
      have h8 := HQ.out.later b8
      have hCk : C (k1, k2) = Z.C (k1, k2) := by rw [HCJ.out, if_neg (inc_not_take HI.out hk)]
      have hC0 := HC.out (k1, k2)
      have hF8 := HFW.out.trans (Fw.below (F := F) b8)
      have HW0 := forget_any F q x (k1, k2) { Z7 with f := f, C := C } W8 h8 (fun g hg => HF'.out g (Nat.le_trans hF8.size hg)) hKOK hxm (by dsimp only; rw [hCk, HZ.out.2.2.1, HZ.out.2.2.2.1]; exact hC0)
      dsimp only at HW0
      rw [hCk, HZ.out.2.2.1] at HW0
      have HW := hide HW0
      have HF8 := hide hF8
      have HKJ := hide hk
      clear hgr hgl hgc hks hTx hxm hk hKOK b8 kb8 h8 HW0 hC0 hCk hF8
      go_wp2_with fail
      refine HW.out.mono ?_
      rintro r w9 ⟨rfl, ⟨f9, hQ9⟩, hF9⟩
      have HQ9 : Hid (QM F w9 q { Z7 with f := f9, C := fun y => if y = (k1, k2) then outC (fun y => (Z.T y).came) x (Z.C (k1, k2)) else C y }) := hide (by rw [← HZ.out.2.2.1] at hQ9 ⊢; exact hQ9)
      have HF9 := hide (HF8.out.trans hF9)
      clear hQ9 hF9 HW
      go_wp2_with fail
      go_roundw
      case rel =>
        refine ⟨j + 1, _, _, by omega, by go_num, HQ9, hide (fun k => ?_), HF9⟩
        show (if k = (k1, k2) then _ else C k) = _
        by_cases e : k = (k1, k2)
        · rw [if_pos e, if_pos ((mem_take_succ HKJ.out).2 (.inl e)), e]
        · rw [if_neg e, HCJ.out k]
          by_cases e2 : k ∈ K.take j
          · rw [if_pos e2, if_pos ((mem_take_succ HKJ.out).2 (.inr e2))]
          · rw [if_neg e2, if_neg (fun h => ((mem_take_succ HKJ.out).1 h).elim e e2)]
      case measure => first | (rw [wk]; simp [intOf]; omega) | (simp [intOf]; omega)
    · have e : j = K.length := by omega
      subst e
      go_wp2_with fail
      go_ret
      refine ⟨rfl, _, HQ.out, ?_, HFW.out⟩
      obtain ⟨y1, y2, y3, y4, y5, y6, y7⟩ := HZ.out
      refine ⟨y1, y2, y3, y4, ?_, ?_, fun i => by dsimp only; rw [y7], fun k => ?_⟩
      · dsimp only; rw [y5, ← HA'.out]
      · dsimp only; rw [y6, ← HR'.out]
      · have := HCJ.out k
        rw [List.take_length] at this
        rw [HK.out]
        exact this
end Go.Proofs.YtknnojjfdfkdmaaGreatDoor
