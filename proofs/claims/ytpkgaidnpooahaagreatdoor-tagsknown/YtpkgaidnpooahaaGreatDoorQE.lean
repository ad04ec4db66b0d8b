/-
  My own text: QR, QD, QE in one.
-/
import Derived.Test.YtpkgaidnpooahaaGreatDoorQ4
import Derived.Test.YtpkgaidnpooahaaGreatDoorQA2
namespace Go.Proofs.YtpkgaidnpooahaaGreatDoor
open Go.RowKit

theorem Bk.drew {w : World} {q : Nat} {cs : Array Value} {t : TypeId} (h : Bk w q cs t) : Bk w.drew q cs t := h
theorem Mv.drew {p q : Nat} {w w' : World} (h : Mv p q w w') : Mv p q w w'.drew := ⟨h.os, h.tape, h.output, h.size, h.block⟩
theorem isFault (v : Value) (xT : TypeId) (w : World) : (Instr.typeAssert (.iface 66 v) xT 66 true).run Tryz.prog w = .ok (.tuple #[v, .bool true]) w := by
  have hu := Tryz.underlying66
  simp [Instr.typeAssert, run_underlying hu]
set_option maxRecDepth 100000 in
set_option maxHeartbeats 1000000 in
theorem catch_none (p q : Nat) (w : World) :
    CallsD Tryz.prog 39 #[.pointer (some ⟨p, 0, none⟩), .pointer (some ⟨q, 0, none⟩)] .returning w fun e u' w' => e = .returned (.tuple #[]) ∧ u' = .returning ∧ w' = w := by
  refine callsD_of_wpS Tryz.func39 rfl fun c₀ cs hu => ?_
  apply wpS_seq
  apply wpS_region
  simp [wpOpsS, go_sem, recoverD, hu, Tryz.ntmps39, Exit.thenS]
  apply wpS_seq
  apply wpS_seq
  apply wpS_region
  simp [wpOpsS, go_sem, Exit.thenS]
  refine wpS_cond (t := true) (by simp [Act.eval, Array.replicate]) ?_
  simp only [if_true]
  refine wpS_of_wp ?_
  go_wp2_with fail
  cases c₀
  simp_all [bodyPostS, Exit.thenS, results, Tryz.results39]
set_option maxRecDepth 100000 in
set_option maxHeartbeats 2000000 in
theorem catch_fault (p q : Nat) (lv ev : Value) (no n at_ : Int) (older : List PanicEntry) (w : World) (hp : Bk w p #[lv] 23) (hq : Bk w q #[ev] 27) (hpq : p ≠ q) :
    CallsD Tryz.prog 39 #[.pointer (some ⟨p, 0, none⟩), .pointer (some ⟨q, 0, none⟩)] (.panicking ({ v := fltV no n at_, recovered := false } :: older)) w fun e u' w' => e = .returned (.tuple #[]) ∧ u' = .panicking ({ v := fltV no n at_, recovered := true } :: older) ∧ Bk w' p #[.slice none 0 0] 23 ∧ Bk w' q #[fltV no n at_] 27 ∧ Mv p q w w' := by
  refine callsD_of_wpS Tryz.func39 rfl fun c₀ cs hu => ?_
  unfold fltV at hu ⊢
  apply wpS_seq
  apply wpS_region
  simp [wpOpsS, go_sem, recoverD, hu, Tryz.ntmps39, Exit.thenS]
  apply wpS_seq
  apply wpS_seq
  apply wpS_region
  simp [wpOpsS, go_sem, Exit.thenS]
  refine wpS_cond (t := false) (by simp [Act.eval, Array.replicate]) ?_
  simp only [Bool.false_eq_true, if_false]
  refine wpS_of_wp (wp_skip ?_)
  simp only [Exit.thenS]
  refine wpS_of_wp ?_
  have c0 := hp.cell 0
  have c1 := hq.cell 0
  simp only [List.getElem?_toArray, List.getElem?_cons_zero] at c0 c1
  have z0 := hp.free 0
  have z1 := hq.free 0
  have hpl := hp.lt
  have hql := hq.lt
  have hqp : q ≠ p := Ne.symm hpq
  have hta := isFault (.agg #[.int .i64 no, .int .i64 n, .int .i64 at_]) 20 w
  simp only [Array.replicate_succ, Array.replicate_zero, List.push_toArray, List.append_toArray, List.setIfInBounds_toArray, List.set_cons_zero, List.set_cons_succ, List.cons_append, List.nil_append]
  go_wp2_with fail
  go_region
  all_goals (refine ⟨rfl, _, rfl, _, results_none rfl _ _ _, rfl, rfl, ?_, ?_, ?_⟩)
  all_goals first
    | exact (Bk.alloc (Bk.other (Bk.set1 hp) 0 _ hpq) _).drew
    | exact (Bk.alloc (Bk.set1 (Bk.other hp 0 _ hpq)) _).drew
    | exact (Bk.alloc (Bk.other (Bk.set1 hq) 0 _ hqp) _).drew
    | exact (Bk.alloc (Bk.set1 (Bk.other hq 0 _ hqp)) _).drew
    | exact ((((Mv.refl p q w).set (.inl rfl) _).set (.inr rfl) _).trans (Mv.of ((Below.refl _ _).alloc (Nat.le_refl _) _))).drew
    | exact ((((Mv.refl p q w).set (.inr rfl) _).set (.inl rfl) _).trans (Mv.of ((Below.refl _ _).alloc (Nat.le_refl _) _))).drew
end Go.Proofs.YtpkgaidnpooahaaGreatDoor
namespace Go.Proofs.YtpkgaidnpooahaaGreatDoor
open Go.RowKit

def nxF (p t q : Nat) : Value := .func (Fn.func 63) #[] #[.pointer (some ⟨p, 0, none⟩), .pointer (some ⟨t, 0, none⟩), .pointer (some ⟨q, 0, none⟩)]
/-- The reading of a text's items comes to l, in every world. -/
def ReadsOk (T : List UInt8) (l : List Tr) : Prop := ∀ (p t q : Nat) (W : World), NS W p t q T 1 0 → Apt p t q → ML W →
  Calls Tryz.prog 41 #[.agg (rdC T (nxF p t q)), .int .i64 0, .string ⟨#[]⟩] W fun e w' => Mv p q W w' ∧ ∃ a cap, e = .returned (.slice a l.length cap) ∧ PA w' (fun x => W.heap.size ≤ x ∧ x < w'.heap.size) (.slice a l.length cap) l
/-- It gives up, in every world. -/
def ReadsBad (T : List UInt8) (no n at_ : Int) : Prop := ∀ (p t q : Nat) (W : World), NS W p t q T 1 0 → Apt p t q → ML W →
  Calls Tryz.prog 41 #[.agg (rdC T (nxF p t q)), .int .i64 0, .string ⟨#[]⟩] W fun e w' => Mv p q W w' ∧ e = gone no n at_
theorem Tryz.sizeRdr : (Tryz.prog.info? 71).map (·.size) = some 2 := by kernel_rfl
theorem rdC_one (T : List UInt8) (p t q : Nat) : (rdC T (nxF p t q)).all (·.oneCell') = true := by simp [rdC, nxF, Value.oneCell']
theorem two_cells {P : Program} {fn : Func} {p u : Tmp} {ty ty' : TypeId} (h : fn.results = #[.cell p ty, .cell u ty']) (tmps : Array Value) (w : World) {a b : Addr} {x y : Value} (hp : tmps.getD p undef = .pointer (some a)) (hu : tmps.getD u undef = .pointer (some b)) (h1 : (loadVar ty a).run P w = .ok x w) (h2 : (loadVar ty' b).run P w = .ok y w) :
    (results fn tmps).run P w = .ok (.tuple #[x, y]) w := by
  simp only [results, h]
  have hp' : tmps[p]?.getD undef = .pointer (some a) := by simpa using hp
  have hu' : tmps[u]?.getD undef = .pointer (some b) := by simpa using hu
  simp [Sem.run_bind, Result.andThen, asAddr, hp', hu', h1, h2]
set_option maxRecDepth 100000 in
set_option maxHeartbeats 2000000 in
theorem read_bad (T : List UInt8) (no n at_ : Int) (w : World) (hR : ReadsBad T no n at_) (hm : ML w) :
    Calls Tryz.prog 18 #[.string ⟨T.toArray⟩] w fun e w' => e = .returned (.tuple #[.slice none 0 0, fltV no n at_]) ∧ Below w.heap.size w w' := by
  have hmf : ∀ (fn : Fn) (first cap : Array Value) (w : World), (Instr.makeFunc fn first cap).run Tryz.prog w = .ok (.func fn first cap) w := fun _ _ _ _ => rfl
  have HR := hide hR
  have HM := hide hm
  have HGT : Hid (1 < w.heap.size) := by obtain ⟨m, h⟩ := hm; exact hide (World.block_lt_of_cell? w _ h)
  clear hR hm
  have HL := hide (lines_any T ((w.alloc (.cells #[.slice none 0 0] 23)).alloc (.cells #[.nilIface] 27)))
  have B0 := hide (((Below.refl w.heap.size w).alloc (Nat.le_refl _) (.cells #[.slice none 0 0] 23)).alloc (by simp) (.cells #[.nilIface] 27))
  have K0 : Hid (Bk ((w.alloc (.cells #[.slice none 0 0] 23)).alloc (.cells #[.nilIface] 27)) w.heap.size #[.slice none 0 0] 23) := hide (alloc_block (alloc_new w _))
  have K1 : Hid (Bk ((w.alloc (.cells #[.slice none 0 0] 23)).alloc (.cells #[.nilIface] 27)) (w.heap.size + 1) #[.nilIface] 27) := hide (alloc2_newq w _ _)
  have HS : Hid (((w.alloc (.cells #[.slice none 0 0] 23)).alloc (.cells #[.nilIface] 27)).heap.size = w.heap.size + 2) := hide (by simp)
  go_enter_defers Tryz.func18, Tryz.ntmps18
  go_wp2_with fail
  refine HL.out.mono ?_
  rintro e w1 ⟨rfl, hN, hb1⟩
  have K01 := hide (K0.out.later hb1)
  have K11 := hide (K1.out.later hb1)
  have B1 := hide (B0.out.trans (hb1.mono B0.out.size))
  have HS1 : Hid (w.heap.size + 2 ≤ w1.heap.size) := by show _ ≤ _; have := hb1.size; rw [HS.out] at this; exact this
  have HNS : Hid (NS w1 (w.heap.size + 4) (w.heap.size + 2) (w.heap.size + 3) T 1 0) := by rw [HS.out] at hN; exact hide hN
  simp only [HS.out]
  clear hb1 hN HL K0 K1
  have F0 : Hid (nxF (w.heap.size + 4) (w.heap.size + 2) (w.heap.size + 3) = .func (Fn.func 63) #[] #[.pointer (some ⟨w.heap.size + 2 + 2, 0, none⟩), .pointer (some ⟨w.heap.size + 2, 0, none⟩), .pointer (some ⟨w.heap.size + 2 + 1, 0, none⟩)]) := hide rfl
  have A0 := hide (alloc_new w1 (.cells #[.string ⟨#[]⟩, .nilFunc] 71))
  have BW := hide (below_setRow ((Below.refl w1.heap.size w1).alloc (Nat.le_refl _) (.cells #[.string ⟨#[]⟩, .nilFunc] 71)) (Nat.le_refl _) (rdC T (nxF (w.heap.size + 4) (w.heap.size + 2) (w.heap.size + 3))))
  have R0 := hide (setRow_heap (w1.alloc (.cells #[.string ⟨#[]⟩, .nilFunc] 71)) w1.heap.size _ (rdC T (nxF (w.heap.size + 4) (w.heap.size + 2) (w.heap.size + 3))) _ _ A0.out)
  have HI := hide (HR.out (w.heap.size + 4) (w.heap.size + 2) (w.heap.size + 3) ((w1.alloc (.cells #[.string ⟨#[]⟩, .nilFunc] 71)).setRow w1.heap.size (rdC T (nxF (w.heap.size + 4) (w.heap.size + 2) (w.heap.size + 3)))) (HNS.out.later BW.out) ⟨by omega, by omega, by omega, by have := HGT.out; omega, by have := HGT.out; omega⟩ ((HM.out.later B1.out).later BW.out))
  go_wp2_with (first
    | (refine wpList_store_row rfl 71 (.tmp 4) _ rfl w1.heap.size (rdC T (nxF (w.heap.size + 4) (w.heap.size + 2) (w.heap.size + 3))) rfl rfl _ _ A0.out Tryz.sizeRdr rfl (rdC_one _ _ _ _) ?_)
    | (refine wpList_load_row rfl 71 (.tmp 4) rfl w1.heap.size rfl _ _ _ _ R0.out Tryz.underlying71 rfl Tryz.sizeRdr ?_))
  refine HI.out.mono ?_
  rintro e w2 ⟨hmv, rfl⟩
  have K02 := hide ((K01.out.later BW.out).mv hmv (by omega) (by omega))
  have K12 := hide ((K11.out.later BW.out).mv hmv (by omega) (by omega))
  have B2 := hide (Mv.below (B1.out.trans (BW.out.mono B1.out.size)) hmv (by have := BW.out.size; have := B1.out.size; omega) (by omega) (by omega))
  clear HI hmv
  refine leaves_cons (f := 39) (args := #[.pointer (some ⟨w.heap.size, 0, none⟩), .pointer (some ⟨w.heap.size + 1, 0, none⟩)]) (by simp) (by simp [go_sem]) ?_
  refine (catch_fault w.heap.size (w.heap.size + 1) _ _ no n at_ [] w2 K02.out K12.out (by omega)).mono ?_
  rintro e u' w3 ⟨rfl, rfl, h1, h2, hm3⟩
  have B3 := hide (Mv.below B2.out hm3 (by have := B2.out.size; omega) (Nat.le_refl _) (by omega))
  have c0 := h1.cell 0
  have c1 := h2.cell 0
  simp only [List.getElem?_toArray, List.getElem?_cons_zero] at c0 c1
  simp [Leaves, settle, results, Tryz.results18, go_sem, c0, c1]
  exact B3.out
set_option maxRecDepth 100000 in
set_option maxHeartbeats 2000000 in
theorem read_ok (T : List UInt8) (l : List Tr) (w : World) (hR : ReadsOk T l) (hm : ML w) :
    Calls Tryz.prog 18 #[.string ⟨T.toArray⟩] w fun e w' => (∃ a cap, e = .returned (.tuple #[.slice a l.length cap, .nilIface]) ∧ PA w' (fun x => w.heap.size ≤ x ∧ x < w'.heap.size) (.slice a l.length cap) l) ∧ Below w.heap.size w w' := by
  have hmf : ∀ (fn : Fn) (first cap : Array Value) (w : World), (Instr.makeFunc fn first cap).run Tryz.prog w = .ok (.func fn first cap) w := fun _ _ _ _ => rfl
  have HR := hide hR
  have HM := hide hm
  have HGT : Hid (1 < w.heap.size) := by obtain ⟨m, h⟩ := hm; exact hide (World.block_lt_of_cell? w _ h)
  clear hR hm
  have HL := hide (lines_any T ((w.alloc (.cells #[.slice none 0 0] 23)).alloc (.cells #[.nilIface] 27)))
  have B0 := hide (((Below.refl w.heap.size w).alloc (Nat.le_refl _) (.cells #[.slice none 0 0] 23)).alloc (by simp) (.cells #[.nilIface] 27))
  have K0 : Hid (Bk ((w.alloc (.cells #[.slice none 0 0] 23)).alloc (.cells #[.nilIface] 27)) w.heap.size #[.slice none 0 0] 23) := hide (alloc_block (alloc_new w _))
  have K1 : Hid (Bk ((w.alloc (.cells #[.slice none 0 0] 23)).alloc (.cells #[.nilIface] 27)) (w.heap.size + 1) #[.nilIface] 27) := hide (alloc2_newq w _ _)
  have HS : Hid (((w.alloc (.cells #[.slice none 0 0] 23)).alloc (.cells #[.nilIface] 27)).heap.size = w.heap.size + 2) := hide (by simp)
  go_enter_defers Tryz.func18, Tryz.ntmps18
  go_wp2_with fail
  refine HL.out.mono ?_
  rintro e w1 ⟨rfl, hN, hb1⟩
  have K01 := hide (K0.out.later hb1)
  have K11 := hide (K1.out.later hb1)
  have B1 := hide (B0.out.trans (hb1.mono B0.out.size))
  have HS1 : Hid (w.heap.size + 2 ≤ w1.heap.size) := by show _ ≤ _; have := hb1.size; rw [HS.out] at this; exact this
  have HNS : Hid (NS w1 (w.heap.size + 4) (w.heap.size + 2) (w.heap.size + 3) T 1 0) := by rw [HS.out] at hN; exact hide hN
  simp only [HS.out]
  clear hb1 hN HL K0 K1
  have F0 : Hid (nxF (w.heap.size + 4) (w.heap.size + 2) (w.heap.size + 3) = .func (Fn.func 63) #[] #[.pointer (some ⟨w.heap.size + 2 + 2, 0, none⟩), .pointer (some ⟨w.heap.size + 2, 0, none⟩), .pointer (some ⟨w.heap.size + 2 + 1, 0, none⟩)]) := hide rfl
  have A0 := hide (alloc_new w1 (.cells #[.string ⟨#[]⟩, .nilFunc] 71))
  have BW := hide (below_setRow ((Below.refl w1.heap.size w1).alloc (Nat.le_refl _) (.cells #[.string ⟨#[]⟩, .nilFunc] 71)) (Nat.le_refl _) (rdC T (nxF (w.heap.size + 4) (w.heap.size + 2) (w.heap.size + 3))))
  have R0 := hide (setRow_heap (w1.alloc (.cells #[.string ⟨#[]⟩, .nilFunc] 71)) w1.heap.size _ (rdC T (nxF (w.heap.size + 4) (w.heap.size + 2) (w.heap.size + 3))) _ _ A0.out)
  have HI := hide (HR.out (w.heap.size + 4) (w.heap.size + 2) (w.heap.size + 3) ((w1.alloc (.cells #[.string ⟨#[]⟩, .nilFunc] 71)).setRow w1.heap.size (rdC T (nxF (w.heap.size + 4) (w.heap.size + 2) (w.heap.size + 3)))) (HNS.out.later BW.out) ⟨by omega, by omega, by omega, by have := HGT.out; omega, by have := HGT.out; omega⟩ ((HM.out.later B1.out).later BW.out))
  go_wp2_with (first
    | (refine wpList_store_row rfl 71 (.tmp 4) _ rfl w1.heap.size (rdC T (nxF (w.heap.size + 4) (w.heap.size + 2) (w.heap.size + 3))) rfl rfl _ _ A0.out Tryz.sizeRdr rfl (rdC_one _ _ _ _) ?_)
    | (refine wpList_load_row rfl 71 (.tmp 4) rfl w1.heap.size rfl _ _ _ _ R0.out Tryz.underlying71 rfl Tryz.sizeRdr ?_))
  refine HI.out.mono ?_
  rintro e w2 ⟨hmv, a, cap, rfl, hpt⟩
  have K02 := hide ((K01.out.later BW.out).mv hmv (by omega) (by omega))
  have K12 := hide ((K11.out.later BW.out).mv hmv (by omega) (by omega))
  have B2 := hide (Mv.below (B1.out.trans (BW.out.mono B1.out.size)) hmv (by have := BW.out.size; have := B1.out.size; omega) (by omega) (by omega))
  have HPT := hide hpt
  have HWS : Hid (w.heap.size + 2 ≤ ((w1.alloc (.cells #[.string ⟨#[]⟩, .nilFunc] 71)).setRow w1.heap.size (rdC T (nxF (w.heap.size + 4) (w.heap.size + 2) (w.heap.size + 3)))).heap.size) := by show _ ≤ _; have := BW.out.size; have := HS1.out; omega
  clear HI hmv hpt
  have d0 := K02.out.cell 0
  have d1 := K12.out.cell 0
  simp only [List.getElem?_toArray, List.getElem?_cons_zero] at d0 d1
  have z0 := K02.out.free 0
  have z1 := K12.out.free 0
  have hk0 : w.heap.size < w2.heap.size := K02.out.lt
  have hk1 : w.heap.size + 1 < w2.heap.size := K12.out.lt
  go_wp2_with fail
  refine leaves_cons (f := 39) (args := #[.pointer (some ⟨w.heap.size, 0, none⟩), .pointer (some ⟨w.heap.size + 1, 0, none⟩)]) (by simp) (by simp [go_sem]) ?_
  refine (catch_none w.heap.size (w.heap.size + 1) _).mono ?_
  rintro e u' w3 ⟨rfl, rfl, rfl⟩
  have k0 : Bk ((w2.setCell ⟨w.heap.size, 0, none⟩ (.slice a l.length cap)).setCell ⟨w.heap.size + 1, 0, none⟩ .nilIface) w.heap.size #[.slice a l.length cap] 23 := Bk.other (Bk.set1 K02.out) 0 _ (by omega)
  have k1 : Bk ((w2.setCell ⟨w.heap.size, 0, none⟩ (.slice a l.length cap)).setCell ⟨w.heap.size + 1, 0, none⟩ .nilIface) (w.heap.size + 1) #[.nilIface] 27 := Bk.set1 (Bk.other K12.out 0 _ (by omega))
  have hp3 : PA ((w2.setCell ⟨w.heap.size, 0, none⟩ (.slice a l.length cap)).setCell ⟨w.heap.size + 1, 0, none⟩ .nilIface) (fun x => w.heap.size ≤ x ∧ x < w2.heap.size) (.slice a l.length cap) l := PA_kept (fun g hg _ => (Below.heap_setCell _ _ _ g (by have := HWS.out; have := hg.1; show g ≠ w.heap.size + 1; omega)).trans (Below.heap_setCell _ _ _ g (by have := HWS.out; have := hg.1; show g ≠ w.heap.size; omega))) (by simp [World.setCell]) (fun g hg _ => ⟨by have := HWS.out; omega, hg.2⟩) _ _ _ (Nat.le_refl _) HPT.out
  have B3 : Below w.heap.size w ((w2.setCell ⟨w.heap.size, 0, none⟩ (.slice a l.length cap)).setCell ⟨w.heap.size + 1, 0, none⟩ .nilIface) := (B2.out.setCell (p := ⟨w.heap.size, 0, none⟩) (Nat.le_refl _) _).setCell (p := ⟨w.heap.size + 1, 0, none⟩) (by simp) _
  have hsz : ((w2.setCell ⟨w.heap.size, 0, none⟩ (.slice a l.length cap)).setCell ⟨w.heap.size + 1, 0, none⟩ .nilIface).heap.size = w2.heap.size := by simp [World.setCell]
  rw [← hsz] at hp3
  generalize ((w2.setCell ⟨w.heap.size, 0, none⟩ (.slice a l.length cap)).setCell ⟨w.heap.size + 1, 0, none⟩ .nilIface) = w3 at *
  have c0 := k0.cell 0
  have c1 := k1.cell 0
  simp only [List.getElem?_toArray, List.getElem?_cons_zero] at c0 c1
  clear d0 d1 z0 z1
  simp only [Leaves, settle]
  refine ⟨.tuple #[.slice a l.length cap, .nilIface], ?_, ⟨a, cap, rfl, hp3⟩, B3⟩
  simp [results, Tryz.results18, go_sem, c0, c1]
end Go.Proofs.YtpkgaidnpooahaaGreatDoor
namespace Go.Proofs.YtpkgaidnpooahaaGreatDoor
open Go.RowKit

theorem clone_any (T : List UInt8) (w : World) (hT : T.length ≤ 1048576) :
    Calls Tryz.prog 19 #[.string ⟨T.toArray⟩] w fun e w' => e = .returned (.string ⟨T.toArray⟩) ∧ Below w.heap.size w w' := by
  have HC := hide (Tryz.stringslite_Clone ⟨T.toArray⟩ w (by rw [bytes_size]; omega))
  go_enter Tryz.func19, Tryz.ntmps19
  go_wp2_with fail
  refine HC.out.mono ?_
  rintro e w1 ⟨rfl, hb1⟩
  go_wp2_with fail
  go_ret
  exact ⟨rfl, hb1⟩
theorem parse_big (T : List UInt8) (w : World) (hT : 1048576 < T.length) (hT2 : T.length ≤ 140737488355328) :
    Calls Tryz.prog 10 #[.string ⟨T.toArray⟩] w fun e w' => e = .returned (.tuple #[.slice none 0 0, errV 5]) ∧ Below w.heap.size w w' := by
  go_enter Tryz.func10, Tryz.ntmps10
  go_wp2_with fail
  go_ret2
  exact ⟨rfl, Below.refl _ _⟩
theorem parse_bad (T : List UInt8) (no n at_ : Int) (w : World) (hT : T.length ≤ 1048576) (hR : ReadsBad T no n at_) (hm : ML w) :
    Calls Tryz.prog 10 #[.string ⟨T.toArray⟩] w fun e w' => e = .returned (.tuple #[.slice none 0 0, fltV no n at_]) ∧ Below w.heap.size w w' := by
  have HC := hide (clone_any T w hT)
  have HR := hide (fun W h => read_bad T no n at_ W hR h)
  have HM := hide hm
  clear hR hm
  go_enter Tryz.func10, Tryz.ntmps10
  go_wp2_with fail
  refine HC.out.mono ?_
  rintro e w1 ⟨rfl, hb1⟩
  have B1 := hide hb1
  clear hb1
  go_wp2_with fail
  refine (HR.out w1 (HM.out.later B1.out)).mono ?_
  rintro e w2 ⟨rfl, hb2⟩
  have B2 := hide (B1.out.trans (hb2.mono B1.out.size))
  clear hb2
  go_wp2_with fail
  go_ret2
  exact ⟨rfl, B2.out⟩
theorem parse_okA (T : List UInt8) (l : List Tr) (w : World) (hT : T.length ≤ 1048576) (hR : ReadsOk T l) (hm : ML w) :
    Calls Tryz.prog 10 #[.string ⟨T.toArray⟩] w fun e w' => (∃ a cap, e = .returned (.tuple #[.slice a l.length cap, .nilIface]) ∧ PA w' (fun x => w.heap.size ≤ x ∧ x < w'.heap.size) (.slice a l.length cap) l) ∧ Below w.heap.size w w' := by
  have HC := hide (clone_any T w hT)
  have HR := hide (fun W h => read_ok T l W hR h)
  have HM := hide hm
  clear hR hm
  go_enter Tryz.func10, Tryz.ntmps10
  go_wp2_with fail
  refine HC.out.mono ?_
  rintro e w1 ⟨rfl, hb1⟩
  have B1 := hide hb1
  clear hb1
  go_wp2_with fail
  refine (HR.out w1 (HM.out.later B1.out)).mono ?_
  rintro e w2 ⟨⟨a, cap, rfl, hpt⟩, hb2⟩
  have HP : Hid (PA w2 (fun x => w.heap.size ≤ x ∧ x < w2.heap.size) (.slice a l.length cap) l) := hide (PA_kept (fun _ _ _ => rfl) (Nat.le_refl _) (fun x hx _ => ⟨by have := B1.out.size; omega, hx.2⟩) _ _ _ (Nat.le_refl _) hpt)
  have B2 := hide (B1.out.trans (hb2.mono B1.out.size))
  clear hb2 hpt
  go_wp2_with fail
  go_ret2
  exact ⟨⟨a, cap, rfl, HP.out⟩, B2.out⟩
theorem parse_ok (T : List UInt8) (l : List Tr) (w : World) (hT : T.length ≤ 1048576) (hR : ReadsOk T l) (hm : ML w) :
    Calls Tryz.prog 10 #[.string ⟨T.toArray⟩] w fun e w' => (∃ a cap, e = .returned (.tuple #[.slice a l.length cap, .nilIface]) ∧ PT w' (fun x => w.heap.size ≤ x ∧ x < w'.heap.size) (.slice a l.length cap) l) ∧ Below w.heap.size w w' :=
  (parse_okA T l w hT hR hm).mono (fun _ _ ⟨⟨a, cap, h1, h2⟩, h3⟩ => ⟨⟨a, cap, h1, h2.1⟩, h3⟩)
end Go.Proofs.YtpkgaidnpooahaaGreatDoor
