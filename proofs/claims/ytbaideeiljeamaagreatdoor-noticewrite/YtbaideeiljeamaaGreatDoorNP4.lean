/-
  My own text: NP3, NP4 in one.
-/
import Derived.Test.YtbaideeiljeamaaGreatDoorNP2
import Derived.Test.YtbaideeiljeamaaGreatDoorQRz
import Derived.Test.YtbaideeiljeamaaGreatDoorN10
namespace Go.Proofs.YtbaideeiljeamaaGreatDoor
open Go.RowKit

set_option maxRecDepth 100000 in
set_option maxHeartbeats 1000000 in
theorem atRela_any (n : Ntc) (b off m cap g : Nat) (w : World) (hn : NOk n) (hX : Bx w g n (.slice (some ⟨b, off, none⟩) (m + 1) cap)) (hm : m ≤ 1000) :
    Calls Tryz.prog 48 #[.pointer (some ⟨g, 0, none⟩)] w fun e w' => e = .returned (.pointer (some ⟨b, off + m * 2 + 1, none⟩)) ∧ Below w.heap.size w w' := by
  have H := hide (lastLink_any n b off m cap g w hn hX hm)
  go_enter Tryz.func48, Tryz.ntmps48
  go_wp2_with fail
  refine H.out.mono ?_
  rintro e w1 ⟨rfl, hb1⟩
  go_wp2_with fail
  go_ret
  exact ⟨rfl, hb1⟩
set_option maxRecDepth 100000 in
set_option maxHeartbeats 1000000 in
theorem tellRela_any (n : Ntc) (b off m cap g cb : Nat) (s : List UInt8) (w : World) (hn : NOk n) (hX : Bx w g n (.slice (some ⟨b, off, none⟩) (m + 1) cap)) (hm : m ≤ 1000) (hF : w.cell? ⟨cb, 0, none⟩ = some (.func (Fn.func 48) #[] #[])) (hs : w.cell? ⟨b, off + m * 2 + 1, none⟩ = some (.string ⟨s.toArray⟩)) (hl : s.length ≤ 140737488355328) :
    Calls Tryz.prog 85 #[.pointer (some ⟨g, 0, none⟩), .pointer (some ⟨cb, 0, none⟩)] w fun e w' => e = .returned (.string ⟨s.toArray⟩) ∧ Below w.heap.size w w' := by
  have HC := hide (atRela_any n b off m cap g w hn hX hm)
  have HK := hide (fun W : World => cloneN_any s W hl)
  have HS := hide hs
  clear hs
  go_enter Tryz.func85, Tryz.ntmps85
  go_wp2_with fail
  refine HC.out.mono ?_
  rintro e w1 ⟨rfl, hb1⟩
  have hs1 := cell_later hb1 HS.out
  have B1 := hide hb1
  clear HC hb1
  go_wp2_with fail
  refine (HK.out w1).mono ?_
  rintro e w2 ⟨rfl, hb2⟩
  have B2 := hide (B1.out.trans (hb2.mono B1.out.size))
  clear hb2
  go_wp2_with fail
  go_ret
  exact ⟨rfl, B2.out⟩
set_option maxRecDepth 100000 in
set_option maxHeartbeats 1000000 in
theorem tellKind_any (n : Ntc) (b off m cap g : Nat) (k : Int) (w : World) (hn : NOk n) (hX : Bx w g n (.slice (some ⟨b, off, none⟩) (m + 1) cap)) (hm : m ≤ 1000) (hs : w.cell? ⟨b, off + m * 2, none⟩ = some (.int .i64 k)) (h1 : 1 ≤ k) (h3 : k ≤ 3) (hL : LWds w) :
    Calls Tryz.prog 46 #[.pointer (some ⟨g, 0, none⟩)] w fun e w' => e = .returned (.string ⟨(kindT k).toArray⟩) ∧ Below w.heap.size w w' := by
  have HC := hide (lastLink_any n b off m cap g w hn hX hm)
  have HS := hide hs
  have HL := hide hL
  clear hs hL
  unfold kindT
  rcases (show k = 1 ∨ k = 2 ∨ k = 3 by omega) with rfl | rfl | rfl
  all_goals
    go_enter Tryz.func46, Tryz.ntmps46
    go_wp2_with fail
    refine HC.out.mono ?_
    rintro e w1 ⟨rfl, hb1⟩
    have hs1 := cell_later hb1 HS.out
    obtain ⟨t0, t1, t2⟩ := HL.out.later hb1
    go_wp2_with fail
    go_ret
    exact ⟨rfl, hb1⟩
set_option maxRecDepth 100000 in
set_option maxHeartbeats 1000000 in
theorem tellMoney_any (n : Ntc) (v : Value) (g : Nat) (w : World) (hn : NOk n) (hX : Bx w g n v) (hP : AM.Pow w) (h0 : 0 ≤ n.amt) (h1 : n.amt ≤ 9223372036854775807) (hcu : n.cur.length ≤ 1000) :
    Calls Tryz.prog 65 #[.pointer (some ⟨g, 0, none⟩)] w fun e w' => e = .returned (.string ⟨(monT n).toArray⟩) ∧ Below w.heap.size w w' := by
  have c := hX.amt hn.code
  have c2 := hX.cur hn.code
  have hgl := hX.lt
  unfold monT
  obtain ⟨N, hN⟩ : ∃ N : Nat, n.amt = (N : Int) := ⟨n.amt.toNat, by omega⟩
  rw [hN] at c h1 ⊢
  have H := hide (fun (W : World) (h : AM.Pow W) => tellAmount_any N W h (by omega))
  have l1 := pd_len_le (N := N) (least := 1) (by omega) (by omega)
  simp only [Int.toNat_natCast]
  obtain ⟨T, hT⟩ : ∃ T, Hid (pdT N 1 = T) := ⟨_, hide rfl⟩
  rw [hT.out] at H l1 ⊢
  obtain ⟨U, hU, hUl⟩ : ∃ U, Hid (T ++ [44] = U) ∧ U.length ≤ 20 := ⟨T ++ [44], hide rfl, by simp; omega⟩
  rw [hU.out] at H
  obtain ⟨C, hC⟩ : ∃ C, Hid (n.cur = C) := ⟨_, hide rfl⟩
  rw [hC.out] at c2 hcu ⊢
  have a1 : (⟨C.toArray⟩ : ByteArray) ++ ⟨U.toArray⟩ = ⟨(C ++ U).toArray⟩ := by apply ByteArray.ext; simp
  have e1 : Hid (C ++ T ++ [44] = C ++ U) := hide (by rw [← hU.out]; simp)
  rw [e1.out]
  have HX0 := hide ((Below.refl w.heap.size w).drew)
  have q0 : ∀ x : Gr w, x.1.cell? ⟨g, 24, none⟩ = some (.string ⟨C.toArray⟩) := fun x => (x.2.cell (p := ⟨g, 24, none⟩) hgl).trans c2
  have q1 : ∀ x : Gr w, x.1.cell? ⟨g, 23, none⟩ = some (.int .i64 (N : Int)) := fun x => (x.2.cell (p := ⟨g, 23, none⟩) hgl).trans c
  have HPx : Hid (∀ x : Gr w, AM.Pow x.1) := hide (fun x => hP.later x.2)
  clear hN h0 hT hU e1 hC c c2
  go_enter Tryz.func65, Tryz.ntmps65
  go_wp2_with fail
  haveI : Nonempty (Gr w) := ⟨⟨_, HX0.out⟩⟩
  refine region_class (C := fun w' => ∃ x : Gr w, w' = x.1) (by kernel_rfl) (by kernel_rfl) ⟨⟨_, HX0.out⟩, rfl⟩ ?_
  repeat (first
    | go_big_quiet_skip
    | (go_big_quiet_want; (go_big_quiet_op; first
        | go_big_quiet_on
        | (apply Exists.intro; refine ⟨fun x => ?_, ?_⟩; (go_at_call 97; exact x.call (H.out x.1 (HPx.out x))); go_big_quiet_on))))
  refine wpQuiet_nil ?_
  rintro w3 ⟨x, rfl⟩
  have B3 := hide x.2
  obtain ⟨w3, hw3⟩ := x
  dsimp only at B3 ⊢
  go_wp2_with fail
  go_ret
  exact ⟨rfl, B3.out⟩
set_option maxRecDepth 100000 in
set_option maxHeartbeats 1000000 in
theorem tellCode_any (n : Ntc) (v : Value) (g : Nat) (w : World) (hn : NOk n) (hX : Bx w g n v) :
    Calls Tryz.prog 53 #[.pointer (some ⟨g, 0, none⟩)] w fun e w' => e = .returned (.string ⟨(codeT n).toArray⟩) ∧ Below w.heap.size w w' := by
  have HR := hide (hX.code hn.code)
  have HTX := hide (LC.textIsin_any n.code w hn.code)
  have hcl := hn.code
  unfold codeT
  obtain ⟨C, hC⟩ : ∃ C, Hid (n.code = C) := ⟨_, hide rfl⟩
  rw [hC.out] at HR HTX hcl ⊢
  have HSI : Hid ((Tryz.prog.info? 23).map (·.size) = some (LC.cel C).size) := by show _ = _; rw [LC.cel_size, hcl]; exact LC.Tryz.sizeIsin
  have a1 : (⟨#[73, 83, 73, 78, 32]⟩ : ByteArray) ++ ⟨C.toArray⟩ = ⟨([73, 83, 73, 78, 32] ++ C).toArray⟩ := by apply ByteArray.ext; simp
  clear hC hn hX
  go_enter Tryz.func53, Tryz.ntmps53
  go_wp2_with (refine wpList_load_mid rfl 23 (.tmp 5) rfl g 7 rfl (LC.cel C).toList _ HR.out Tryz.underlying23 rfl HSI.out ?_; rw [Array.toArray_toList])
  refine HTX.out.mono ?_
  rintro e w1 ⟨rfl, hb1⟩
  go_wp2_with fail
  go_ret
  exact ⟨rfl, hb1⟩
end Go.Proofs.YtbaideeiljeamaaGreatDoor
namespace Go.Proofs.YtbaideeiljeamaaGreatDoor
open Go.RowKit

theorem Tryz.sizeItN : (Tryz.prog.info? 58).map (·.size) = some 5 := by kernel_rfl
theorem results_cell1 {fn : Func} {p : Tmp} {ty : TypeId} (h : fn.results = #[.cell p ty]) (tmps : Array Value) (P : Program) (w : World) :
    (results fn tmps).run P w = ((asAddr (tmps.getD p undef)).run P w).andThen fun a w₁ => (loadVar ty a).run P w₁ := by
  simp only [results, h]
  simp [Sem.run_bind, Result.andThen]
theorem bx2 (w : World) (a b : Obj) : Below w.heap.size w ((w.alloc a).alloc b) := ((Below.refl _ _).alloc (Nat.le_refl _) _).alloc (by simp) _
set_option maxRecDepth 100000 in
set_option maxHeartbeats 2000000 in
theorem placeField_any (fid : FuncId) (caps : Array Value) (tag qual T : List UInt8) (tk th : Value) (lk : Bool) (g : Nat) (w : World) (hE : ∀ (W : World) (a : Array Value), (callFunc fid a).run Tryz.prog W = .ok (.enter fid a) W)
    (hT : ∀ W : World, Below w.heap.size w W → Calls Tryz.prog fid (#[.pointer (some ⟨g, 0, none⟩)] ++ caps) W fun e w' => e = .returned (.string ⟨T.toArray⟩) ∧ Below W.heap.size W w') :
    Calls Tryz.prog 36 #[.agg #[.string ⟨tag.toArray⟩, .string ⟨qual.toArray⟩, .func (Fn.func fid) #[] caps, tk, .string ⟨#[]⟩, .slice none 0 0, th, .bool lk], .pointer (some ⟨g, 0, none⟩)] w fun e w' => e = .returned (.agg (TG.iC ⟨tag, qual, T, []⟩ (.slice none 0 0))) ∧ Below w.heap.size w w' := by
  have HT := hide hT
  clear hT
  go_enter Tryz.func36, Tryz.ntmps36
  go_wp2_with fail
  have B0 := hide (bx2 w (.cells #[.string ⟨tag.toArray⟩, .string ⟨qual.toArray⟩, .func (Fn.func fid) #[] caps, tk, .string ⟨#[]⟩, .slice none 0 0, th, .bool lk] 74) (.cells #[.string ⟨#[]⟩, .string ⟨#[]⟩, .string ⟨#[]⟩, .string ⟨#[]⟩, .slice none 0 0] 58))
  have K0 : Hid (((w.alloc (.cells #[.string ⟨tag.toArray⟩, .string ⟨qual.toArray⟩, .func (Fn.func fid) #[] caps, tk, .string ⟨#[]⟩, .slice none 0 0, th, .bool lk] 74)).alloc (.cells #[.string ⟨#[]⟩, .string ⟨#[]⟩, .string ⟨#[]⟩, .string ⟨#[]⟩, .slice none 0 0] 58)).heap[w.heap.size + 1]? = some (.cells #[.string ⟨#[]⟩, .string ⟨#[]⟩, .string ⟨#[]⟩, .string ⟨#[]⟩, .slice none 0 0] 58 (0, 0))) := hide (alloc2_new w _ _)
  have hlt : w.heap.size < ((w.alloc (.cells #[.string ⟨tag.toArray⟩, .string ⟨qual.toArray⟩, .func (Fn.func fid) #[] caps, tk, .string ⟨#[]⟩, .slice none 0 0, th, .bool lk] 74)).alloc (.cells #[.string ⟨#[]⟩, .string ⟨#[]⟩, .string ⟨#[]⟩, .string ⟨#[]⟩, .slice none 0 0] 58)).heap.size := by simp; omega
  have c0 : ((w.alloc (.cells #[.string ⟨tag.toArray⟩, .string ⟨qual.toArray⟩, .func (Fn.func fid) #[] caps, tk, .string ⟨#[]⟩, .slice none 0 0, th, .bool lk] 74)).alloc (.cells #[.string ⟨#[]⟩, .string ⟨#[]⟩, .string ⟨#[]⟩, .string ⟨#[]⟩, .slice none 0 0] 58)).cell? ⟨w.heap.size, 0, none⟩ = some (.string ⟨tag.toArray⟩) := by simp
  have c1 : ((w.alloc (.cells #[.string ⟨tag.toArray⟩, .string ⟨qual.toArray⟩, .func (Fn.func fid) #[] caps, tk, .string ⟨#[]⟩, .slice none 0 0, th, .bool lk] 74)).alloc (.cells #[.string ⟨#[]⟩, .string ⟨#[]⟩, .string ⟨#[]⟩, .string ⟨#[]⟩, .slice none 0 0] 58)).cell? ⟨w.heap.size, 1, none⟩ = some (.string ⟨qual.toArray⟩) := by simp
  have c2 : ((w.alloc (.cells #[.string ⟨tag.toArray⟩, .string ⟨qual.toArray⟩, .func (Fn.func fid) #[] caps, tk, .string ⟨#[]⟩, .slice none 0 0, th, .bool lk] 74)).alloc (.cells #[.string ⟨#[]⟩, .string ⟨#[]⟩, .string ⟨#[]⟩, .string ⟨#[]⟩, .slice none 0 0] 58)).cell? ⟨w.heap.size, 2, none⟩ = some (.func (Fn.func fid) #[] caps) := by simp
  generalize ((w.alloc (.cells #[.string ⟨tag.toArray⟩, .string ⟨qual.toArray⟩, .func (Fn.func fid) #[] caps, tk, .string ⟨#[]⟩, .slice none 0 0, th, .bool lk] 74)).alloc (.cells #[.string ⟨#[]⟩, .string ⟨#[]⟩, .string ⟨#[]⟩, .string ⟨#[]⟩, .slice none 0 0] 58)) = W0 at *
  have HX0 := hide ((Below.refl W0.heap.size W0).drew)
  haveI : Nonempty (Gr W0) := ⟨⟨_, HX0.out⟩⟩
  have q0 : ∀ x : Gr W0, x.1.cell? ⟨w.heap.size, 0, none⟩ = some (.string ⟨tag.toArray⟩) := fun x => (x.2.cell (p := ⟨w.heap.size, 0, none⟩) hlt).trans c0
  have q1 : ∀ x : Gr W0, x.1.cell? ⟨w.heap.size, 1, none⟩ = some (.string ⟨qual.toArray⟩) := fun x => (x.2.cell (p := ⟨w.heap.size, 1, none⟩) hlt).trans c1
  have q2 : ∀ x : Gr W0, x.1.cell? ⟨w.heap.size, 2, none⟩ = some (.func (Fn.func fid) #[] caps) := fun x => (x.2.cell (p := ⟨w.heap.size, 2, none⟩) hlt).trans c2
  clear c0 c1 c2
  refine TG.region_qtails (C := fun w' => ∃ x : Gr W0, w' = x.1) 9 1 rfl (by kernel_rfl) (by kernel_rfl) ⟨⟨_, HX0.out⟩, rfl⟩ ?_
  simp only [List.take_succ_cons, List.take_zero, List.drop_succ_cons, List.drop_zero]
  repeat (first
    | go_big_quiet_skip
    | (go_big_quiet_want; (go_big_quiet_op; first
        | go_big_quiet_on
        | (apply Exists.intro; refine ⟨fun x => ?_, ?_⟩; exact x.call (HT.out x.1 (B0.out.trans (x.2.mono B0.out.size))); go_big_quiet_on))))
  refine wpQuiet_nil ?_
  rintro w3 ⟨x, rfl⟩
  have B3 := hide (B0.out.trans (x.2.mono B0.out.size))
  have K3 := hide ((x.2.block (w.heap.size + 1) (Array.getElem?_eq_some_iff.1 K0.out).1).trans K0.out)
  obtain ⟨w3, hw3⟩ := x
  dsimp only at B3 K3 ⊢
  clear HX0 this q0 q1 q2 hw3 K0 B0 HT
  go_wp2_with (refine wpList_store_row rfl 58 (.tmp 4) _ rfl (w.heap.size + 1) #[.string ⟨tag.toArray⟩, .string ⟨qual.toArray⟩, .string ⟨T.toArray⟩, .string ⟨#[]⟩, .slice none 0 0] rfl rfl _ _ K3.out Tryz.sizeItN rfl (by simp [Value.oneCell']) ?_)
  have hld := run_loadVar_row (P := Tryz.prog) (w3.setRow (w.heap.size + 1) #[.string ⟨tag.toArray⟩, .string ⟨qual.toArray⟩, .string ⟨T.toArray⟩, .string ⟨#[]⟩, .slice none 0 0]) (w.heap.size + 1) 58 58 #[.string ⟨tag.toArray⟩, .string ⟨qual.toArray⟩, .string ⟨T.toArray⟩, .string ⟨#[]⟩, .slice none 0 0] (0, 0) _ (setRow_heap _ _ _ _ _ _ K3.out) Tryz.underlying58 rfl Tryz.sizeItN
  refine bodyPost_ret (v := .agg #[.string ⟨tag.toArray⟩, .string ⟨qual.toArray⟩, .string ⟨T.toArray⟩, .string ⟨#[]⟩, .slice none 0 0]) ?_ rfl ⟨rfl, below_setRow B3.out (by omega) _⟩
  rw [results_cell1 rfl]
  exact hld
end Go.Proofs.YtbaideeiljeamaaGreatDoor
