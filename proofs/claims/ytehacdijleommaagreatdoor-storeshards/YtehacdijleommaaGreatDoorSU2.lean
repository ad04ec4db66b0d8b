/-
  My own text: layer 11: StoreShards: number, by kinds of calls (printed by mksu2.py).
-/
import Derived.Test.YtehacdijleommaaGreatDoorSU1
import Derived.Test.YtehacdijleommaaGreatDoorSFh0
import Derived.Test.YtehacdijleommaaGreatDoorQRz
namespace Go.Proofs.YtehacdijleommaaGreatDoor
open Go.RowKit

/-- A store of numbers among things apart. -/
def UOp (B sb n : Nat) (U : CI.Sx) (kk : Nat) (F : Nat → Prop) : Cp := ⟨F, fun w => CI.SO B w sb n U kk F⟩
theorem UOp.ok (B sb n : Nat) (U : CI.Sx) (kk : Nat) (F : Nat → Prop) : (UOp B sb n U kk F).Ok := ⟨fun _ _ h hs hk => h.kept hk hs, fun _ h g hg => (h.fb g hg).2⟩
theorem FS.of_fbU {w w' : World} {F F' : Nat → Prop} (h : FB w w' F F') : FS F w w' := ⟨h.os, h.tape, h.output, h.size, h.block⟩
theorem Sep.uo {w0 w w' : World} {cs : List Cp} {i sb n kk kk' : Nat} {U U' : CI.Sx} {F : Nat → Prop} (h : Sep w0 w cs) (hi : cs[i]? = some (UOp w0.heap.size sb n U kk F)) (h1 : CI.SO w0.heap.size w' sb n U' kk' (gw F w w')) (h2 : FB w w' F (gw F w w')) : Sep w0 w' (cs.set i (UOp w0.heap.size sb n U' kk' (gw F w w'))) :=
  h.step (c' := UOp w0.heap.size sb n U' kk' (gw F w w')) hi (FS.of_fbU h2) (UOp.ok _ _ _ _ _ _) h1 (fun g hg => h2.grow g hg)
theorem Sep.uup {w0 w : World} {cs : List Cp} {i sb n kk : Nat} {U : CI.Sx} {F : Nat → Prop} (h : Sep w0 w cs) (hi : cs[i]? = some (UOp w0.heap.size sb n U kk F)) : Sep w0 w (cs.set i (UOp w0.heap.size sb n U (kk + 1) F)) :=
  h.step (c' := UOp w0.heap.size sb n U (kk + 1) F) hi (FS.below (Below.refl _ _)) (UOp.ok _ _ _ _ _ _) (CI.SO.up (h.is i _ hi)) (fun _ hg => .inl hg)
def NB (b4 b5 : Nat) (C X : Array Value) : List Cp := [BCp b4 C 31, BCp b5 X 36]
theorem NB.start {w0 w : World} {cs : List Cp} (h : Sep w0 w cs) (C X : Array Value) : Sep w0 ((w.alloc (.cells C 31)).alloc (.cells X 36)) (cs ++ NB w.heap.size (w.heap.size + 1) C X) := by
  have h1 := (h.box C 31).box X 36
  rw [List.append_assoc] at h1
  have e : (w.alloc (.cells C 31)).heap.size = w.heap.size + 1 := by simp
  rw [e] at h1
  exact h1
theorem set_app {cs ds : List Cp} {i : Nat} {c : Cp} (hi : i < cs.length) : (cs ++ ds).set i c = cs.set i c ++ ds := List.set_append_left _ _ hi
theorem get_app {cs ds : List Cp} {i : Nat} {c : Cp} (hi : cs[i]? = some c) : (cs ++ ds)[i]? = some c := by rw [List.getElem?_append_left (List.getElem?_eq_some_iff.1 hi).1]; exact hi
theorem NB.cells {w0 W : World} {cs : List Cp} {b4 b5 : Nat} {a0 a1 a2 a3 a4 a5 x0 x1 x2 : Value} (h : Sep w0 W (cs ++ NB b4 b5 #[a0, a1, a2, a3, a4, a5] #[x0, x1, x2])) :
    W.cell? ⟨b4, 1, none⟩ = some a1 ∧ W.cell? ⟨b4, 2, none⟩ = some a2 ∧ W.cell? ⟨b4, 3, none⟩ = some a3 ∧ W.cell? ⟨b4, 4, none⟩ = some a4 ∧ W.cell? ⟨b4, 5, none⟩ = some a5 ∧ W.cell? ⟨b5, 0, none⟩ = some x0 ∧ W.cell? ⟨b5, 1, none⟩ = some x1 ∧ W.cell? ⟨b5, 2, none⟩ = some x2 := by
  have h4 : W.heap[b4]? = some (.cells #[a0, a1, a2, a3, a4, a5] 31 (0, 0)) := h.is cs.length (BCp b4 #[a0, a1, a2, a3, a4, a5] 31) (by simp [NB])
  have h5 : W.heap[b5]? = some (.cells #[x0, x1, x2] 36 (0, 0)) := h.is (cs.length + 1) (BCp b5 #[x0, x1, x2] 36) (by simp [NB])
  refine ⟨?_, ?_, ?_, ?_, ?_, ?_, ?_, ?_⟩
  · rw [cell_of_row _ _ 1 _ _ _ h4]; rfl
  · rw [cell_of_row _ _ 2 _ _ _ h4]; rfl
  · rw [cell_of_row _ _ 3 _ _ _ h4]; rfl
  · rw [cell_of_row _ _ 4 _ _ _ h4]; rfl
  · rw [cell_of_row _ _ 5 _ _ _ h4]; rfl
  · rw [cell_of_row _ _ 0 _ _ _ h5]; rfl
  · rw [cell_of_row _ _ 1 _ _ _ h5]; rfl
  · rw [cell_of_row _ _ 2 _ _ _ h5]; rfl
set_option maxRecDepth 100000 in
set_option maxHeartbeats 2000000 in
theorem number_put (on : Int) (k : Ky) (N : Int) (V : List UInt8) (s : Array UInt8) (b : Bool) (pn : Int) (w0 w : World) (cs : List Cp) (i sb n kk : Nat) (U : CI.Sx) (F : Nat → Prop) (h : Sep w0 w cs) (hi : cs[i]? = some (UOp w0.heap.size sb n U kk F)) (hk : KOK k) (hN : N ≤ 9223372036854775807) (hpn : CI.peR N (U.K k) = pn) (hl : kk ≤ 5864062014803) :
    Calls Tryz.prog 11 #[.pointer (some ⟨sb, 0, none⟩), .agg #[.int .i64 on, .int .i64 0, .int .i64 k.1, .int .i64 k.2, .int .i64 N, .string ⟨V.toArray⟩], .agg #[.string ⟨s⟩, .int .i64 pn, .bool b]] w fun e w' => e = .returned (.bool true) ∧ ∃ F', Hid (Sep w0 w' (cs.set i (UOp w0.heap.size sb n (U.put k N (V.length : Int)) (kk + 1) F'))) := by
  have HIL := hide (List.getElem?_eq_some_iff.1 hi).1
  have HI := hide hi
  obtain ⟨W2, hW2⟩ : ∃ W, (w.alloc (.cells #[.int .i64 on, .int .i64 0, .int .i64 k.1, .int .i64 k.2, .int .i64 N, .string ⟨V.toArray⟩] 31)).alloc (.cells #[.string ⟨s⟩, .int .i64 pn, .bool b] 36) = W := ⟨_, rfl⟩
  have H2 : Hid (Sep w0 W2 (cs ++ NB w.heap.size (w.heap.size + 1) #[.int .i64 on, .int .i64 0, .int .i64 k.1, .int .i64 k.2, .int .i64 N, .string ⟨V.toArray⟩] #[.string ⟨s⟩, .int .i64 pn, .bool b])) := hide (by rw [← hW2]; exact NB.start h _ _)
  obtain ⟨y1, y2, y3, y4, y5, y6, y7, y8⟩ := NB.cells H2.out
  clear h hi
  have hpe : pn = 0 ∨ pn = 1 := by
    rw [← hpn]; unfold CI.peR; split
    · exact .inl rfl
    · exact .inr rfl
  have HPN := hide hpn
  have HN : Hid (∀ W : World, Calls Tryz.prog 24 #[errV pn] W fun e w' => e = .returned (.int .i64 pn) ∧ w' = W) := hide (fun W => by
    rcases hpe with rfl | rfl
    · rw [errV_zero]; exact num_nil W
    · rw [errV_pos (by omega)]; exact num_errno 1 W (by omega) (by omega))
  have qq : (pn == pn) = true := by simp
  clear hpe hpn
  go_enter Tryz.func11, Tryz.ntmps11
  go_wp2_with fail
  obtain ⟨b4, hb4⟩ : ∃ b, w.heap.size = b := ⟨_, rfl⟩
  obtain ⟨b5, hb5⟩ : ∃ b, w.heap.size + 1 = b := ⟨_, rfl⟩
  rw [hb5, hb4] at H2 ⊢
  clear y1 y2 y3 y4 y5 y6 y7 y8 hW2
  have HX : Hid (∀ (W : World) (ds : List Cp), Sep w0 W (ds ++ NB b4 b5 #[.int .i64 on, .int .i64 0, .int .i64 k.1, .int .i64 k.2, .int .i64 N, .string ⟨V.toArray⟩] #[.string ⟨s⟩, .int .i64 pn, .bool b]) → (fun W : World => W.cell? ⟨b4, 1, none⟩ = some (.int .i64 0) ∧ W.cell? ⟨b4, 2, none⟩ = some (.int .i64 k.1) ∧ W.cell? ⟨b4, 3, none⟩ = some (.int .i64 k.2) ∧ W.cell? ⟨b4, 4, none⟩ = some (.int .i64 N) ∧ W.cell? ⟨b4, 5, none⟩ = some (.string ⟨V.toArray⟩) ∧ W.cell? ⟨b5, 0, none⟩ = some (.string ⟨s⟩) ∧ W.cell? ⟨b5, 1, none⟩ = some (.int .i64 pn) ∧ W.cell? ⟨b5, 2, none⟩ = some (.bool b)) W) := hide (fun W ds h => NB.cells h)
  have H2d := hide (Sep.later H2.out ((Below.refl W2.heap.size W2).drew))
  have HU : Hid (CI.SO w0.heap.size W2.drew sb n U kk F) := hide (H2d.out.is i _ (get_app HI.out))
  have HC := hide (CI.putO_any k N (V.length : Int) w0.heap.size sb n kk U F W2.drew HU.out hk hN hl)
  rw [HPN.out] at HC
  obtain ⟨ev, hev⟩ : ∃ ev, errV pn = ev := ⟨_, rfl⟩
  rw [hev] at HC HN
  clear hev
  clear hb4 hb5 H2 HU
  refine z_begins (S := (fun W : World => W.cell? ⟨b4, 1, none⟩ = some (.int .i64 0) ∧ W.cell? ⟨b4, 2, none⟩ = some (.int .i64 k.1) ∧ W.cell? ⟨b4, 3, none⟩ = some (.int .i64 k.2) ∧ W.cell? ⟨b4, 4, none⟩ = some (.int .i64 N) ∧ W.cell? ⟨b4, 5, none⟩ = some (.string ⟨V.toArray⟩) ∧ W.cell? ⟨b5, 0, none⟩ = some (.string ⟨s⟩) ∧ W.cell? ⟨b5, 1, none⟩ = some (.int .i64 pn) ∧ W.cell? ⟨b5, 2, none⟩ = some (.bool b))) 13 14 #[false, false, false, false, false, false, false, false, false, false, false, false, false, false] (by kernel_rfl) (by kernel_rfl) (by kernel_rfl) (HX.out _ _ H2d.out) (fun hHeld => ?_)
  refine zk (v := ?_) 0 16 #[true, false, false, false, false, false, false, false, false, false, false, false, false, false] rfl rfl (by kernel_rfl) (by kernel_rfl) (by kernel_rfl) (by kernel_rfl) (fun _ _ _ h => h) (by kernel_rfl) (by rfl) ?hy hHeld ?_
  case hy => intro W _; first | (go_simp; done) | (go_simp; with_reducible rfl)
  simp only [List.setIfInBounds_toArray, List.set_cons_zero, List.set_cons_succ]
  refine zk (v := ?_) 1 17 #[true, true, false, false, false, false, false, false, false, false, false, false, false, false] rfl rfl (by kernel_rfl) (by kernel_rfl) (by kernel_rfl) (by kernel_rfl) (fun _ _ _ h => h) (by kernel_rfl) (by rfl) ?hy hHeld ?_
  case hy => intro W _; first | (go_simp; done) | (go_simp; with_reducible rfl)
  simp only [List.setIfInBounds_toArray, List.set_cons_zero, List.set_cons_succ]
  refine zk (v := ?_) 2 18 #[true, true, true, false, false, false, false, false, false, false, false, false, false, false] rfl rfl (by kernel_rfl) (by kernel_rfl) (by kernel_rfl) (by kernel_rfl) (fun _ _ _ h => h) (by kernel_rfl) (by rfl) ?hy hHeld ?_
  case hy => rintro W ⟨r0, r1, r2, r3, r4, r5, r6, r7⟩; first | (go_simp; done) | (go_simp; with_reducible rfl)
  simp only [List.setIfInBounds_toArray, List.set_cons_zero, List.set_cons_succ]
  refine zk (v := ?_) 3 19 #[true, true, true, true, false, false, false, false, false, false, false, false, false, false] rfl rfl (by kernel_rfl) (by kernel_rfl) (by kernel_rfl) (by kernel_rfl) (fun _ _ _ h => h) (by kernel_rfl) (by rfl) ?hy hHeld ?_
  case hy => intro W _; first | (go_simp; done) | (go_simp; with_reducible rfl)
  simp only [List.setIfInBounds_toArray, List.set_cons_zero, List.set_cons_succ]
  refine zk (v := ?_) 4 20 #[true, true, true, true, true, false, false, false, false, false, false, false, false, false] rfl rfl (by kernel_rfl) (by kernel_rfl) (by kernel_rfl) (by kernel_rfl) (fun _ _ _ h => h) (by kernel_rfl) (by rfl) ?hy hHeld ?_
  case hy => rintro W ⟨r0, r1, r2, r3, r4, r5, r6, r7⟩; first | (go_simp; done) | (go_simp; with_reducible rfl)
  simp only [List.setIfInBounds_toArray, List.set_cons_zero, List.set_cons_succ]
  refine zk (v := ?_) 5 21 #[true, true, true, true, true, true, false, false, false, false, false, false, false, false] rfl rfl (by kernel_rfl) (by kernel_rfl) (by kernel_rfl) (by kernel_rfl) (fun _ _ _ h => h) (by kernel_rfl) (by rfl) ?hy hHeld ?_
  case hy => intro W _; first | (go_simp; done) | (go_simp; with_reducible rfl)
  simp only [List.setIfInBounds_toArray, List.set_cons_zero, List.set_cons_succ]
  refine zk (v := ?_) 6 22 #[true, true, true, true, true, true, true, false, false, false, false, false, false, false] rfl rfl (by kernel_rfl) (by kernel_rfl) (by kernel_rfl) (by kernel_rfl) (fun _ _ _ h => h) (by kernel_rfl) (by rfl) ?hy hHeld ?_
  case hy => rintro W ⟨r0, r1, r2, r3, r4, r5, r6, r7⟩; first | (go_simp; done) | (go_simp; with_reducible rfl)
  simp only [List.setIfInBounds_toArray, List.set_cons_zero, List.set_cons_succ]
  refine zk (v := ?_) 7 23 #[true, true, true, true, true, true, true, true, false, false, false, false, false, false] rfl rfl (by kernel_rfl) (by kernel_rfl) (by kernel_rfl) (by kernel_rfl) (fun _ _ _ h => h) (by kernel_rfl) (by rfl) ?hy hHeld ?_
  case hy => intro W _; first | (go_simp; done) | (go_simp; with_reducible rfl)
  simp only [List.setIfInBounds_toArray, List.set_cons_zero, List.set_cons_succ]
  refine zk (v := ?_) 10 26 #[true, true, true, true, true, true, true, true, false, false, true, false, false, false] rfl rfl (by kernel_rfl) (by kernel_rfl) (by kernel_rfl) (by kernel_rfl) (fun _ _ _ h => h) (by kernel_rfl) (by rfl) ?hy hHeld ?_
  case hy => intro W _; first | (go_simp; done) | (go_simp; with_reducible rfl)
  simp only [List.setIfInBounds_toArray, List.set_cons_zero, List.set_cons_succ]
  refine zk (v := ?_) 11 27 #[true, true, true, true, true, true, true, true, false, false, true, true, false, false] rfl rfl (by kernel_rfl) (by kernel_rfl) (by kernel_rfl) (by kernel_rfl) (fun _ _ _ h => h) (by kernel_rfl) (by rfl) ?hy hHeld ?_
  case hy => rintro W ⟨r0, r1, r2, r3, r4, r5, r6, r7⟩; first | (go_simp; done) | (go_simp; with_reducible rfl)
  simp only [List.setIfInBounds_toArray, List.set_cons_zero, List.set_cons_succ]
  refine z_ready 8 #[true, true, true, true, true, true, true, true, true, false, true, true, false, false] rfl (by kernel_rfl) (by kernel_rfl) (by rfl) (fun K' hK => ?_)
  refine op_call_fnS 30 #[.pointer (some ⟨sb, 0, none⟩), .agg #[.int .i64 k.1, .int .i64 k.2], .int .i64 N, .int .i64 (V.length : Int)] (by kernel_rfl) ?_
  refine (HC.out).mono ?_
  rintro e w3 ⟨rfl, h1, h2⟩
  refine ⟨_, rfl, ?_⟩
  have H3 := hide (Sep.uo (i := i) H2d.out (get_app HI.out) h1 h2)
  rw [set_app HIL.out] at H3
  clear h1 h2
  go_simp
  refine hK.out _ _ (fun _ => HX.out _ _ H3.out) (fun hHeld => ?_)
  replace hHeld := hHeld (by decide)
  clear hK K'
  refine z_ready 9 #[true, true, true, true, true, true, true, true, true, true, true, true, false, false] rfl (by kernel_rfl) (by kernel_rfl) (by rfl) (fun K' hK => ?_)
  refine op_call_fnS 24 #[ev] (by kernel_rfl) ?_
  refine (HN.out w3).mono ?_
  rintro e w4 ⟨rfl, e4⟩
  refine ⟨_, rfl, ?_⟩
  subst e4
  go_simp
  refine hK.out _ _ (fun _ => HX.out _ _ H3.out) (fun hHeld => ?_)
  replace hHeld := hHeld (by decide)
  clear hK K'
  refine zk (v := ?_) 12 28 #[true, true, true, true, true, true, true, true, true, true, true, true, true, false] rfl rfl (by kernel_rfl) (by kernel_rfl) (by kernel_rfl) (by kernel_rfl) (fun _ _ _ h => h) (by kernel_rfl) (by rfl) ?hy hHeld ?_
  case hy => intro W _; first | (go_simp; done) | (go_simp; with_reducible rfl)
  simp only [List.setIfInBounds_toArray, List.set_cons_zero, List.set_cons_succ]
  refine z_ready 13 #[true, true, true, true, true, true, true, true, true, true, true, true, true, true] rfl (by kernel_rfl) (by kernel_rfl) (by rfl) (fun K' hK => ?_)
  go_simp
  refine hK.out _ _ (fun h => absurd rfl h) (fun _ => ?_)
  clear hK K'
  refine z_done (by kernel_rfl) ?_ _
  have H9 := hide (Sep.front (cs := cs.set i _) H3.out)
  clear H3 HC HX
  go_wp2_with fail
  go_ret
  exact ⟨rfl, _, H9⟩
set_option maxRecDepth 100000 in
set_option maxHeartbeats 2000000 in
theorem number_open (on : Int) (k : Ky) (N : Int) (V : List UInt8) (s : Array UInt8) (b : Bool) (tb : Int) (w0 w : World) (cs : List Cp) (i sb n kk : Nat) (U : CI.Sx) (F : Nat → Prop) (h : Sep w0 w cs) (hi : cs[i]? = some (UOp w0.heap.size sb n U kk F)) (ht : (U.bg : Int) + 1 = tb) (hl : kk ≤ 5864062014803) :
    Calls Tryz.prog 11 #[.pointer (some ⟨sb, 0, none⟩), .agg #[.int .i64 on, .int .i64 4, .int .i64 k.1, .int .i64 k.2, .int .i64 N, .string ⟨V.toArray⟩], .agg #[.string ⟨s⟩, .int .i64 tb, .bool b]] w fun e w' => e = .returned (.bool true) ∧ ∃ F', Hid (Sep w0 w' (cs.set i (UOp w0.heap.size sb n (U.opn N) (kk + 1) F'))) := by
  have HIL := hide (List.getElem?_eq_some_iff.1 hi).1
  have HI := hide hi
  obtain ⟨W2, hW2⟩ : ∃ W, (w.alloc (.cells #[.int .i64 on, .int .i64 4, .int .i64 k.1, .int .i64 k.2, .int .i64 N, .string ⟨V.toArray⟩] 31)).alloc (.cells #[.string ⟨s⟩, .int .i64 tb, .bool b] 36) = W := ⟨_, rfl⟩
  have H2 : Hid (Sep w0 W2 (cs ++ NB w.heap.size (w.heap.size + 1) #[.int .i64 on, .int .i64 4, .int .i64 k.1, .int .i64 k.2, .int .i64 N, .string ⟨V.toArray⟩] #[.string ⟨s⟩, .int .i64 tb, .bool b])) := hide (by rw [← hW2]; exact NB.start h _ _)
  obtain ⟨y1, y2, y3, y4, y5, y6, y7, y8⟩ := NB.cells H2.out
  clear h hi
  have qq : ((tb : Int) == (tb : Int)) = true := by simp
  have HTB := hide ht
  clear ht
  go_enter Tryz.func11, Tryz.ntmps11
  go_wp2_with fail
  obtain ⟨b4, hb4⟩ : ∃ b, w.heap.size = b := ⟨_, rfl⟩
  obtain ⟨b5, hb5⟩ : ∃ b, w.heap.size + 1 = b := ⟨_, rfl⟩
  rw [hb5, hb4] at H2 ⊢
  clear y1 y2 y3 y4 y5 y6 y7 y8 hW2
  have HX : Hid (∀ (W : World) (ds : List Cp), Sep w0 W (ds ++ NB b4 b5 #[.int .i64 on, .int .i64 4, .int .i64 k.1, .int .i64 k.2, .int .i64 N, .string ⟨V.toArray⟩] #[.string ⟨s⟩, .int .i64 tb, .bool b]) → (fun W : World => W.cell? ⟨b4, 1, none⟩ = some (.int .i64 4) ∧ W.cell? ⟨b4, 2, none⟩ = some (.int .i64 k.1) ∧ W.cell? ⟨b4, 3, none⟩ = some (.int .i64 k.2) ∧ W.cell? ⟨b4, 4, none⟩ = some (.int .i64 N) ∧ W.cell? ⟨b4, 5, none⟩ = some (.string ⟨V.toArray⟩) ∧ W.cell? ⟨b5, 0, none⟩ = some (.string ⟨s⟩) ∧ W.cell? ⟨b5, 1, none⟩ = some (.int .i64 tb) ∧ W.cell? ⟨b5, 2, none⟩ = some (.bool b)) W) := hide (fun W ds h => NB.cells h)
  have H2d := hide (Sep.later H2.out ((Below.refl W2.heap.size W2).drew))
  have HU : Hid (CI.SO w0.heap.size W2.drew sb n U kk F) := hide (H2d.out.is i _ (get_app HI.out))
  have HC := hide (CI.openO_any N w0.heap.size sb n kk U F W2.drew HU.out hl)
  rw [HTB.out] at HC
  clear hb4 hb5 H2 HU
  refine z_begins (S := (fun W : World => W.cell? ⟨b4, 1, none⟩ = some (.int .i64 4) ∧ W.cell? ⟨b4, 2, none⟩ = some (.int .i64 k.1) ∧ W.cell? ⟨b4, 3, none⟩ = some (.int .i64 k.2) ∧ W.cell? ⟨b4, 4, none⟩ = some (.int .i64 N) ∧ W.cell? ⟨b4, 5, none⟩ = some (.string ⟨V.toArray⟩) ∧ W.cell? ⟨b5, 0, none⟩ = some (.string ⟨s⟩) ∧ W.cell? ⟨b5, 1, none⟩ = some (.int .i64 tb) ∧ W.cell? ⟨b5, 2, none⟩ = some (.bool b))) 7 8 #[false, false, false, false, false, false, false, false] (by kernel_rfl) (by kernel_rfl) (by kernel_rfl) (HX.out _ _ H2d.out) (fun hHeld => ?_)
  refine zk (v := ?_) 0 80 #[true, false, false, false, false, false, false, false] rfl rfl (by kernel_rfl) (by kernel_rfl) (by kernel_rfl) (by kernel_rfl) (fun _ _ _ h => h) (by kernel_rfl) (by rfl) ?hy hHeld ?_
  case hy => intro W _; first | (go_simp; done) | (go_simp; with_reducible rfl)
  simp only [List.setIfInBounds_toArray, List.set_cons_zero, List.set_cons_succ]
  refine zk (v := ?_) 1 81 #[true, true, false, false, false, false, false, false] rfl rfl (by kernel_rfl) (by kernel_rfl) (by kernel_rfl) (by kernel_rfl) (fun _ _ _ h => h) (by kernel_rfl) (by rfl) ?hy hHeld ?_
  case hy => intro W _; first | (go_simp; done) | (go_simp; with_reducible rfl)
  simp only [List.setIfInBounds_toArray, List.set_cons_zero, List.set_cons_succ]
  refine zk (v := ?_) 2 82 #[true, true, true, false, false, false, false, false] rfl rfl (by kernel_rfl) (by kernel_rfl) (by kernel_rfl) (by kernel_rfl) (fun _ _ _ h => h) (by kernel_rfl) (by rfl) ?hy hHeld ?_
  case hy => rintro W ⟨r0, r1, r2, r3, r4, r5, r6, r7⟩; first | (go_simp; done) | (go_simp; with_reducible rfl)
  simp only [List.setIfInBounds_toArray, List.set_cons_zero, List.set_cons_succ]
  refine zk (v := ?_) 4 84 #[true, true, true, false, true, false, false, false] rfl rfl (by kernel_rfl) (by kernel_rfl) (by kernel_rfl) (by kernel_rfl) (fun _ _ _ h => h) (by kernel_rfl) (by rfl) ?hy hHeld ?_
  case hy => intro W _; first | (go_simp; done) | (go_simp; with_reducible rfl)
  simp only [List.setIfInBounds_toArray, List.set_cons_zero, List.set_cons_succ]
  refine zk (v := ?_) 5 85 #[true, true, true, false, true, true, false, false] rfl rfl (by kernel_rfl) (by kernel_rfl) (by kernel_rfl) (by kernel_rfl) (fun _ _ _ h => h) (by kernel_rfl) (by rfl) ?hy hHeld ?_
  case hy => rintro W ⟨r0, r1, r2, r3, r4, r5, r6, r7⟩; first | (go_simp; done) | (go_simp; with_reducible rfl)
  simp only [List.setIfInBounds_toArray, List.set_cons_zero, List.set_cons_succ]
  refine z_ready 3 #[true, true, true, true, true, true, false, false] rfl (by kernel_rfl) (by kernel_rfl) (by rfl) (fun K' hK => ?_)
  refine op_call_fnS 33 #[.pointer (some ⟨sb, 0, none⟩), .int .i64 N] (by kernel_rfl) ?_
  refine (HC.out).mono ?_
  rintro e w3 ⟨rfl, h1, h2⟩
  refine ⟨_, rfl, ?_⟩
  have H3 := hide (Sep.uo (i := i) H2d.out (get_app HI.out) h1 h2)
  rw [set_app HIL.out] at H3
  clear h1 h2
  go_simp
  refine hK.out _ _ (fun _ => HX.out _ _ H3.out) (fun hHeld => ?_)
  replace hHeld := hHeld (by decide)
  clear hK K'
  refine zk (v := ?_) 6 86 #[true, true, true, true, true, true, true, false] rfl rfl (by kernel_rfl) (by kernel_rfl) (by kernel_rfl) (by kernel_rfl) (fun _ _ _ h => h) (by kernel_rfl) (by rfl) ?hy hHeld ?_
  case hy => intro W _; first | (go_simp; done) | (go_simp; with_reducible rfl)
  simp only [List.setIfInBounds_toArray, List.set_cons_zero, List.set_cons_succ]
  refine z_ready 7 #[true, true, true, true, true, true, true, true] rfl (by kernel_rfl) (by kernel_rfl) (by rfl) (fun K' hK => ?_)
  go_simp
  refine hK.out _ _ (fun h => absurd rfl h) (fun _ => ?_)
  clear hK K'
  refine z_done (by kernel_rfl) ?_ _
  have H9 := hide (Sep.front (cs := cs.set i _) H3.out)
  clear H3 HC HX
  go_wp2_with fail
  go_ret
  exact ⟨rfl, _, H9⟩
set_option maxRecDepth 100000 in
set_option maxHeartbeats 2000000 in
theorem number_close (on : Int) (k : Ky) (N : Int) (V : List UInt8) (s : Array UInt8) (x : Int) (tb : Bool) (w0 w : World) (cs : List Cp) (i sb n kk : Nat) (U : CI.Sx) (F : Nat → Prop) (h : Sep w0 w cs) (hi : cs[i]? = some (UOp w0.heap.size sb n U kk F)) (hI : IOK N) (ht : (U.R.find? fun p => p.1 == N).isSome = tb) (hl : kk ≤ 5864062014803) :
    Calls Tryz.prog 11 #[.pointer (some ⟨sb, 0, none⟩), .agg #[.int .i64 on, .int .i64 5, .int .i64 k.1, .int .i64 k.2, .int .i64 N, .string ⟨V.toArray⟩], .agg #[.string ⟨s⟩, .int .i64 x, .bool tb]] w fun e w' => e = .returned (.bool true) ∧ ∃ F', Hid (Sep w0 w' (cs.set i (UOp w0.heap.size sb n (U.cls N) (kk + 1) F'))) := by
  have HIL := hide (List.getElem?_eq_some_iff.1 hi).1
  have HI := hide hi
  obtain ⟨W2, hW2⟩ : ∃ W, (w.alloc (.cells #[.int .i64 on, .int .i64 5, .int .i64 k.1, .int .i64 k.2, .int .i64 N, .string ⟨V.toArray⟩] 31)).alloc (.cells #[.string ⟨s⟩, .int .i64 x, .bool tb] 36) = W := ⟨_, rfl⟩
  have H2 : Hid (Sep w0 W2 (cs ++ NB w.heap.size (w.heap.size + 1) #[.int .i64 on, .int .i64 5, .int .i64 k.1, .int .i64 k.2, .int .i64 N, .string ⟨V.toArray⟩] #[.string ⟨s⟩, .int .i64 x, .bool tb])) := hide (by rw [← hW2]; exact NB.start h _ _)
  obtain ⟨y1, y2, y3, y4, y5, y6, y7, y8⟩ := NB.cells H2.out
  clear h hi
  have qq : ((tb : Bool) == (tb : Bool)) = true := by simp
  have HTB := hide ht
  clear ht
  go_enter Tryz.func11, Tryz.ntmps11
  go_wp2_with fail
  obtain ⟨b4, hb4⟩ : ∃ b, w.heap.size = b := ⟨_, rfl⟩
  obtain ⟨b5, hb5⟩ : ∃ b, w.heap.size + 1 = b := ⟨_, rfl⟩
  rw [hb5, hb4] at H2 ⊢
  clear y1 y2 y3 y4 y5 y6 y7 y8 hW2
  have HX : Hid (∀ (W : World) (ds : List Cp), Sep w0 W (ds ++ NB b4 b5 #[.int .i64 on, .int .i64 5, .int .i64 k.1, .int .i64 k.2, .int .i64 N, .string ⟨V.toArray⟩] #[.string ⟨s⟩, .int .i64 x, .bool tb]) → (fun W : World => W.cell? ⟨b4, 1, none⟩ = some (.int .i64 5) ∧ W.cell? ⟨b4, 2, none⟩ = some (.int .i64 k.1) ∧ W.cell? ⟨b4, 3, none⟩ = some (.int .i64 k.2) ∧ W.cell? ⟨b4, 4, none⟩ = some (.int .i64 N) ∧ W.cell? ⟨b4, 5, none⟩ = some (.string ⟨V.toArray⟩) ∧ W.cell? ⟨b5, 0, none⟩ = some (.string ⟨s⟩) ∧ W.cell? ⟨b5, 1, none⟩ = some (.int .i64 x) ∧ W.cell? ⟨b5, 2, none⟩ = some (.bool tb)) W) := hide (fun W ds h => NB.cells h)
  have H2d := hide (Sep.later H2.out ((Below.refl W2.heap.size W2).drew))
  have HU : Hid (CI.SO w0.heap.size W2.drew sb n U kk F) := hide (H2d.out.is i _ (get_app HI.out))
  have HC := hide (CI.closeO_any N w0.heap.size sb n kk U F W2.drew HU.out hl hI)
  rw [HTB.out] at HC
  clear hb4 hb5 H2 HU
  refine z_begins (S := (fun W : World => W.cell? ⟨b4, 1, none⟩ = some (.int .i64 5) ∧ W.cell? ⟨b4, 2, none⟩ = some (.int .i64 k.1) ∧ W.cell? ⟨b4, 3, none⟩ = some (.int .i64 k.2) ∧ W.cell? ⟨b4, 4, none⟩ = some (.int .i64 N) ∧ W.cell? ⟨b4, 5, none⟩ = some (.string ⟨V.toArray⟩) ∧ W.cell? ⟨b5, 0, none⟩ = some (.string ⟨s⟩) ∧ W.cell? ⟨b5, 1, none⟩ = some (.int .i64 x) ∧ W.cell? ⟨b5, 2, none⟩ = some (.bool tb))) 7 8 #[false, false, false, false, false, false, false, false] (by kernel_rfl) (by kernel_rfl) (by kernel_rfl) (HX.out _ _ H2d.out) (fun hHeld => ?_)
  refine zk (v := ?_) 0 89 #[true, false, false, false, false, false, false, false] rfl rfl (by kernel_rfl) (by kernel_rfl) (by kernel_rfl) (by kernel_rfl) (fun _ _ _ h => h) (by kernel_rfl) (by rfl) ?hy hHeld ?_
  case hy => intro W _; first | (go_simp; done) | (go_simp; with_reducible rfl)
  simp only [List.setIfInBounds_toArray, List.set_cons_zero, List.set_cons_succ]
  refine zk (v := ?_) 1 90 #[true, true, false, false, false, false, false, false] rfl rfl (by kernel_rfl) (by kernel_rfl) (by kernel_rfl) (by kernel_rfl) (fun _ _ _ h => h) (by kernel_rfl) (by rfl) ?hy hHeld ?_
  case hy => intro W _; first | (go_simp; done) | (go_simp; with_reducible rfl)
  simp only [List.setIfInBounds_toArray, List.set_cons_zero, List.set_cons_succ]
  refine zk (v := ?_) 2 91 #[true, true, true, false, false, false, false, false] rfl rfl (by kernel_rfl) (by kernel_rfl) (by kernel_rfl) (by kernel_rfl) (fun _ _ _ h => h) (by kernel_rfl) (by rfl) ?hy hHeld ?_
  case hy => rintro W ⟨r0, r1, r2, r3, r4, r5, r6, r7⟩; first | (go_simp; done) | (go_simp; with_reducible rfl)
  simp only [List.setIfInBounds_toArray, List.set_cons_zero, List.set_cons_succ]
  refine zk (v := ?_) 4 93 #[true, true, true, false, true, false, false, false] rfl rfl (by kernel_rfl) (by kernel_rfl) (by kernel_rfl) (by kernel_rfl) (fun _ _ _ h => h) (by kernel_rfl) (by rfl) ?hy hHeld ?_
  case hy => intro W _; first | (go_simp; done) | (go_simp; with_reducible rfl)
  simp only [List.setIfInBounds_toArray, List.set_cons_zero, List.set_cons_succ]
  refine zk (v := ?_) 5 94 #[true, true, true, false, true, true, false, false] rfl rfl (by kernel_rfl) (by kernel_rfl) (by kernel_rfl) (by kernel_rfl) (fun _ _ _ h => h) (by kernel_rfl) (by rfl) ?hy hHeld ?_
  case hy => rintro W ⟨r0, r1, r2, r3, r4, r5, r6, r7⟩; first | (go_simp; done) | (go_simp; with_reducible rfl)
  simp only [List.setIfInBounds_toArray, List.set_cons_zero, List.set_cons_succ]
  refine z_ready 3 #[true, true, true, true, true, true, false, false] rfl (by kernel_rfl) (by kernel_rfl) (by rfl) (fun K' hK => ?_)
  refine op_call_fnS 34 #[.pointer (some ⟨sb, 0, none⟩), .int .i64 N] (by kernel_rfl) ?_
  refine (HC.out).mono ?_
  rintro e w3 ⟨rfl, h1, h2⟩
  refine ⟨_, rfl, ?_⟩
  have H3 := hide (Sep.uo (i := i) H2d.out (get_app HI.out) h1 h2)
  rw [set_app HIL.out] at H3
  clear h1 h2
  go_simp
  refine hK.out _ _ (fun _ => HX.out _ _ H3.out) (fun hHeld => ?_)
  replace hHeld := hHeld (by decide)
  clear hK K'
  refine zk (v := ?_) 6 95 #[true, true, true, true, true, true, true, false] rfl rfl (by kernel_rfl) (by kernel_rfl) (by kernel_rfl) (by kernel_rfl) (fun _ _ _ h => h) (by kernel_rfl) (by rfl) ?hy hHeld ?_
  case hy => intro W _; first | (go_simp; done) | (go_simp; with_reducible rfl)
  simp only [List.setIfInBounds_toArray, List.set_cons_zero, List.set_cons_succ]
  refine z_ready 7 #[true, true, true, true, true, true, true, true] rfl (by kernel_rfl) (by kernel_rfl) (by rfl) (fun K' hK => ?_)
  go_simp
  refine hK.out _ _ (fun h => absurd rfl h) (fun _ => ?_)
  clear hK K'
  refine z_done (by kernel_rfl) ?_ _
  have H9 := hide (Sep.front (cs := cs.set i _) H3.out)
  clear H3 HC HX
  go_wp2_with fail
  go_ret
  exact ⟨rfl, _, H9⟩
set_option maxRecDepth 100000 in
set_option maxHeartbeats 2000000 in
theorem number_old (on : Int) (k : Ky) (N : Int) (V : List UInt8) (s : Array UInt8) (b : Bool) (tb : Int) (w0 w : World) (cs : List Cp) (i sb n kk : Nat) (U : CI.Sx) (F : Nat → Prop) (h : Sep w0 w cs) (hi : cs[i]? = some (UOp w0.heap.size sb n U kk F)) (ht : oldR N U.L = tb) (hl : kk ≤ 5864062014803) :
    Calls Tryz.prog 11 #[.pointer (some ⟨sb, 0, none⟩), .agg #[.int .i64 on, .int .i64 6, .int .i64 k.1, .int .i64 k.2, .int .i64 N, .string ⟨V.toArray⟩], .agg #[.string ⟨s⟩, .int .i64 tb, .bool b]] w fun e w' => e = .returned (.bool true) ∧ ∃ F', Hid (Sep w0 w' (cs.set i (UOp w0.heap.size sb n (U) (kk + 1) F'))) := by
  have HIL := hide (List.getElem?_eq_some_iff.1 hi).1
  have HI := hide hi
  obtain ⟨W2, hW2⟩ : ∃ W, (w.alloc (.cells #[.int .i64 on, .int .i64 6, .int .i64 k.1, .int .i64 k.2, .int .i64 N, .string ⟨V.toArray⟩] 31)).alloc (.cells #[.string ⟨s⟩, .int .i64 tb, .bool b] 36) = W := ⟨_, rfl⟩
  have H2 : Hid (Sep w0 W2 (cs ++ NB w.heap.size (w.heap.size + 1) #[.int .i64 on, .int .i64 6, .int .i64 k.1, .int .i64 k.2, .int .i64 N, .string ⟨V.toArray⟩] #[.string ⟨s⟩, .int .i64 tb, .bool b])) := hide (by rw [← hW2]; exact NB.start h _ _)
  obtain ⟨y1, y2, y3, y4, y5, y6, y7, y8⟩ := NB.cells H2.out
  clear h hi
  have qq : ((tb : Int) == (tb : Int)) = true := by simp
  have HTB := hide ht
  clear ht
  go_enter Tryz.func11, Tryz.ntmps11
  go_wp2_with fail
  obtain ⟨b4, hb4⟩ : ∃ b, w.heap.size = b := ⟨_, rfl⟩
  obtain ⟨b5, hb5⟩ : ∃ b, w.heap.size + 1 = b := ⟨_, rfl⟩
  rw [hb5, hb4] at H2 ⊢
  clear y1 y2 y3 y4 y5 y6 y7 y8 hW2
  have HX : Hid (∀ (W : World) (ds : List Cp), Sep w0 W (ds ++ NB b4 b5 #[.int .i64 on, .int .i64 6, .int .i64 k.1, .int .i64 k.2, .int .i64 N, .string ⟨V.toArray⟩] #[.string ⟨s⟩, .int .i64 tb, .bool b]) → (fun W : World => W.cell? ⟨b4, 1, none⟩ = some (.int .i64 6) ∧ W.cell? ⟨b4, 2, none⟩ = some (.int .i64 k.1) ∧ W.cell? ⟨b4, 3, none⟩ = some (.int .i64 k.2) ∧ W.cell? ⟨b4, 4, none⟩ = some (.int .i64 N) ∧ W.cell? ⟨b4, 5, none⟩ = some (.string ⟨V.toArray⟩) ∧ W.cell? ⟨b5, 0, none⟩ = some (.string ⟨s⟩) ∧ W.cell? ⟨b5, 1, none⟩ = some (.int .i64 tb) ∧ W.cell? ⟨b5, 2, none⟩ = some (.bool b)) W) := hide (fun W ds h => NB.cells h)
  have H2d := hide (Sep.later H2.out ((Below.refl W2.heap.size W2).drew))
  have HU : Hid (CI.SO w0.heap.size W2.drew sb n U kk F) := hide (H2d.out.is i _ (get_app HI.out))
  have HC := hide (CI.oldO_any N w0.heap.size sb n kk U F W2.drew HU.out hl)
  rw [HTB.out] at HC
  clear hb4 hb5 H2 HU
  refine z_begins (S := (fun W : World => W.cell? ⟨b4, 1, none⟩ = some (.int .i64 6) ∧ W.cell? ⟨b4, 2, none⟩ = some (.int .i64 k.1) ∧ W.cell? ⟨b4, 3, none⟩ = some (.int .i64 k.2) ∧ W.cell? ⟨b4, 4, none⟩ = some (.int .i64 N) ∧ W.cell? ⟨b4, 5, none⟩ = some (.string ⟨V.toArray⟩) ∧ W.cell? ⟨b5, 0, none⟩ = some (.string ⟨s⟩) ∧ W.cell? ⟨b5, 1, none⟩ = some (.int .i64 tb) ∧ W.cell? ⟨b5, 2, none⟩ = some (.bool b))) 7 8 #[false, false, false, false, false, false, false, false] (by kernel_rfl) (by kernel_rfl) (by kernel_rfl) (HX.out _ _ H2d.out) (fun hHeld => ?_)
  refine zk (v := ?_) 0 98 #[true, false, false, false, false, false, false, false] rfl rfl (by kernel_rfl) (by kernel_rfl) (by kernel_rfl) (by kernel_rfl) (fun _ _ _ h => h) (by kernel_rfl) (by rfl) ?hy hHeld ?_
  case hy => intro W _; first | (go_simp; done) | (go_simp; with_reducible rfl)
  simp only [List.setIfInBounds_toArray, List.set_cons_zero, List.set_cons_succ]
  refine zk (v := ?_) 1 99 #[true, true, false, false, false, false, false, false] rfl rfl (by kernel_rfl) (by kernel_rfl) (by kernel_rfl) (by kernel_rfl) (fun _ _ _ h => h) (by kernel_rfl) (by rfl) ?hy hHeld ?_
  case hy => intro W _; first | (go_simp; done) | (go_simp; with_reducible rfl)
  simp only [List.setIfInBounds_toArray, List.set_cons_zero, List.set_cons_succ]
  refine zk (v := ?_) 2 100 #[true, true, true, false, false, false, false, false] rfl rfl (by kernel_rfl) (by kernel_rfl) (by kernel_rfl) (by kernel_rfl) (fun _ _ _ h => h) (by kernel_rfl) (by rfl) ?hy hHeld ?_
  case hy => rintro W ⟨r0, r1, r2, r3, r4, r5, r6, r7⟩; first | (go_simp; done) | (go_simp; with_reducible rfl)
  simp only [List.setIfInBounds_toArray, List.set_cons_zero, List.set_cons_succ]
  refine zk (v := ?_) 4 102 #[true, true, true, false, true, false, false, false] rfl rfl (by kernel_rfl) (by kernel_rfl) (by kernel_rfl) (by kernel_rfl) (fun _ _ _ h => h) (by kernel_rfl) (by rfl) ?hy hHeld ?_
  case hy => intro W _; first | (go_simp; done) | (go_simp; with_reducible rfl)
  simp only [List.setIfInBounds_toArray, List.set_cons_zero, List.set_cons_succ]
  refine zk (v := ?_) 5 103 #[true, true, true, false, true, true, false, false] rfl rfl (by kernel_rfl) (by kernel_rfl) (by kernel_rfl) (by kernel_rfl) (fun _ _ _ h => h) (by kernel_rfl) (by rfl) ?hy hHeld ?_
  case hy => rintro W ⟨r0, r1, r2, r3, r4, r5, r6, r7⟩; first | (go_simp; done) | (go_simp; with_reducible rfl)
  simp only [List.setIfInBounds_toArray, List.set_cons_zero, List.set_cons_succ]
  refine z_ready 3 #[true, true, true, true, true, true, false, false] rfl (by kernel_rfl) (by kernel_rfl) (by rfl) (fun K' hK => ?_)
  refine op_call_fnS 35 #[.pointer (some ⟨sb, 0, none⟩), .int .i64 N] (by kernel_rfl) ?_
  refine (HC.out).mono ?_
  rintro e w3 ⟨rfl, hb3⟩
  refine ⟨_, rfl, ?_⟩
  have H3 := hide (Sep.later H2d.out hb3)
  clear hb3
  go_simp
  refine hK.out _ _ (fun _ => HX.out _ _ H3.out) (fun hHeld => ?_)
  replace hHeld := hHeld (by decide)
  clear hK K'
  refine zk (v := ?_) 6 104 #[true, true, true, true, true, true, true, false] rfl rfl (by kernel_rfl) (by kernel_rfl) (by kernel_rfl) (by kernel_rfl) (fun _ _ _ h => h) (by kernel_rfl) (by rfl) ?hy hHeld ?_
  case hy => intro W _; first | (go_simp; done) | (go_simp; with_reducible rfl)
  simp only [List.setIfInBounds_toArray, List.set_cons_zero, List.set_cons_succ]
  refine z_ready 7 #[true, true, true, true, true, true, true, true] rfl (by kernel_rfl) (by kernel_rfl) (by rfl) (fun K' hK => ?_)
  go_simp
  refine hK.out _ _ (fun h => absurd rfl h) (fun _ => ?_)
  clear hK K'
  refine z_done (by kernel_rfl) ?_ _
  have H9 := hide (Sep.uup (Sep.front (cs := cs) H3.out) HI.out)
  clear H3 HC HX
  go_wp2_with fail
  go_ret
  exact ⟨rfl, _, H9⟩
set_option maxRecDepth 100000 in
set_option maxHeartbeats 2000000 in
theorem number_prune (on : Int) (k : Ky) (N : Int) (V : List UInt8) (s : Array UInt8) (b : Bool) (tb : Int) (w0 w : World) (cs : List Cp) (i sb n kk : Nat) (U : CI.Sx) (F : Nat → Prop) (h : Sep w0 w cs) (hi : cs[i]? = some (UOp w0.heap.size sb n U kk F)) (hk : KOK k) (ht : ((CI.ab (oldR N U.L) (U.K k) - 1 : Nat) : Int) = tb) (hl : kk ≤ 5864062014803) :
    Calls Tryz.prog 11 #[.pointer (some ⟨sb, 0, none⟩), .agg #[.int .i64 on, .int .i64 7, .int .i64 k.1, .int .i64 k.2, .int .i64 N, .string ⟨V.toArray⟩], .agg #[.string ⟨s⟩, .int .i64 tb, .bool b]] w fun e w' => e = .returned (.bool true) ∧ ∃ F', Hid (Sep w0 w' (cs.set i (UOp w0.heap.size sb n (U.pru k N) (kk + 1) F'))) := by
  have HIL := hide (List.getElem?_eq_some_iff.1 hi).1
  have HI := hide hi
  obtain ⟨W2, hW2⟩ : ∃ W, (w.alloc (.cells #[.int .i64 on, .int .i64 7, .int .i64 k.1, .int .i64 k.2, .int .i64 N, .string ⟨V.toArray⟩] 31)).alloc (.cells #[.string ⟨s⟩, .int .i64 tb, .bool b] 36) = W := ⟨_, rfl⟩
  have H2 : Hid (Sep w0 W2 (cs ++ NB w.heap.size (w.heap.size + 1) #[.int .i64 on, .int .i64 7, .int .i64 k.1, .int .i64 k.2, .int .i64 N, .string ⟨V.toArray⟩] #[.string ⟨s⟩, .int .i64 tb, .bool b])) := hide (by rw [← hW2]; exact NB.start h _ _)
  obtain ⟨y1, y2, y3, y4, y5, y6, y7, y8⟩ := NB.cells H2.out
  clear h hi
  have qq : ((tb : Int) == (tb : Int)) = true := by simp
  have HTB := hide ht
  clear ht
  go_enter Tryz.func11, Tryz.ntmps11
  go_wp2_with fail
  obtain ⟨b4, hb4⟩ : ∃ b, w.heap.size = b := ⟨_, rfl⟩
  obtain ⟨b5, hb5⟩ : ∃ b, w.heap.size + 1 = b := ⟨_, rfl⟩
  rw [hb5, hb4] at H2 ⊢
  clear y1 y2 y3 y4 y5 y6 y7 y8 hW2
  have HX : Hid (∀ (W : World) (ds : List Cp), Sep w0 W (ds ++ NB b4 b5 #[.int .i64 on, .int .i64 7, .int .i64 k.1, .int .i64 k.2, .int .i64 N, .string ⟨V.toArray⟩] #[.string ⟨s⟩, .int .i64 tb, .bool b]) → (fun W : World => W.cell? ⟨b4, 1, none⟩ = some (.int .i64 7) ∧ W.cell? ⟨b4, 2, none⟩ = some (.int .i64 k.1) ∧ W.cell? ⟨b4, 3, none⟩ = some (.int .i64 k.2) ∧ W.cell? ⟨b4, 4, none⟩ = some (.int .i64 N) ∧ W.cell? ⟨b4, 5, none⟩ = some (.string ⟨V.toArray⟩) ∧ W.cell? ⟨b5, 0, none⟩ = some (.string ⟨s⟩) ∧ W.cell? ⟨b5, 1, none⟩ = some (.int .i64 tb) ∧ W.cell? ⟨b5, 2, none⟩ = some (.bool b)) W) := hide (fun W ds h => NB.cells h)
  have H2d := hide (Sep.later H2.out ((Below.refl W2.heap.size W2).drew))
  have HU : Hid (CI.SO w0.heap.size W2.drew sb n U kk F) := hide (H2d.out.is i _ (get_app HI.out))
  have HC := hide (CI.pruneO_any k N w0.heap.size sb n kk U F W2.drew HU.out hk hl)
  rw [HTB.out] at HC
  clear hb4 hb5 H2 HU
  refine z_begins (S := (fun W : World => W.cell? ⟨b4, 1, none⟩ = some (.int .i64 7) ∧ W.cell? ⟨b4, 2, none⟩ = some (.int .i64 k.1) ∧ W.cell? ⟨b4, 3, none⟩ = some (.int .i64 k.2) ∧ W.cell? ⟨b4, 4, none⟩ = some (.int .i64 N) ∧ W.cell? ⟨b4, 5, none⟩ = some (.string ⟨V.toArray⟩) ∧ W.cell? ⟨b5, 0, none⟩ = some (.string ⟨s⟩) ∧ W.cell? ⟨b5, 1, none⟩ = some (.int .i64 tb) ∧ W.cell? ⟨b5, 2, none⟩ = some (.bool b))) 9 10 #[false, false, false, false, false, false, false, false, false, false] (by kernel_rfl) (by kernel_rfl) (by kernel_rfl) (HX.out _ _ H2d.out) (fun hHeld => ?_)
  refine zk (v := ?_) 0 107 #[true, false, false, false, false, false, false, false, false, false] rfl rfl (by kernel_rfl) (by kernel_rfl) (by kernel_rfl) (by kernel_rfl) (fun _ _ _ h => h) (by kernel_rfl) (by rfl) ?hy hHeld ?_
  case hy => intro W _; first | (go_simp; done) | (go_simp; with_reducible rfl)
  simp only [List.setIfInBounds_toArray, List.set_cons_zero, List.set_cons_succ]
  refine zk (v := ?_) 1 108 #[true, true, false, false, false, false, false, false, false, false] rfl rfl (by kernel_rfl) (by kernel_rfl) (by kernel_rfl) (by kernel_rfl) (fun _ _ _ h => h) (by kernel_rfl) (by rfl) ?hy hHeld ?_
  case hy => intro W _; first | (go_simp; done) | (go_simp; with_reducible rfl)
  simp only [List.setIfInBounds_toArray, List.set_cons_zero, List.set_cons_succ]
  refine zk (v := ?_) 2 109 #[true, true, true, false, false, false, false, false, false, false] rfl rfl (by kernel_rfl) (by kernel_rfl) (by kernel_rfl) (by kernel_rfl) (fun _ _ _ h => h) (by kernel_rfl) (by rfl) ?hy hHeld ?_
  case hy => rintro W ⟨r0, r1, r2, r3, r4, r5, r6, r7⟩; first | (go_simp; done) | (go_simp; with_reducible rfl)
  simp only [List.setIfInBounds_toArray, List.set_cons_zero, List.set_cons_succ]
  refine zk (v := ?_) 3 110 #[true, true, true, true, false, false, false, false, false, false] rfl rfl (by kernel_rfl) (by kernel_rfl) (by kernel_rfl) (by kernel_rfl) (fun _ _ _ h => h) (by kernel_rfl) (by rfl) ?hy hHeld ?_
  case hy => intro W _; first | (go_simp; done) | (go_simp; with_reducible rfl)
  simp only [List.setIfInBounds_toArray, List.set_cons_zero, List.set_cons_succ]
  refine zk (v := ?_) 4 111 #[true, true, true, true, true, false, false, false, false, false] rfl rfl (by kernel_rfl) (by kernel_rfl) (by kernel_rfl) (by kernel_rfl) (fun _ _ _ h => h) (by kernel_rfl) (by rfl) ?hy hHeld ?_
  case hy => rintro W ⟨r0, r1, r2, r3, r4, r5, r6, r7⟩; first | (go_simp; done) | (go_simp; with_reducible rfl)
  simp only [List.setIfInBounds_toArray, List.set_cons_zero, List.set_cons_succ]
  refine zk (v := ?_) 6 113 #[true, true, true, true, true, false, true, false, false, false] rfl rfl (by kernel_rfl) (by kernel_rfl) (by kernel_rfl) (by kernel_rfl) (fun _ _ _ h => h) (by kernel_rfl) (by rfl) ?hy hHeld ?_
  case hy => intro W _; first | (go_simp; done) | (go_simp; with_reducible rfl)
  simp only [List.setIfInBounds_toArray, List.set_cons_zero, List.set_cons_succ]
  refine zk (v := ?_) 7 114 #[true, true, true, true, true, false, true, true, false, false] rfl rfl (by kernel_rfl) (by kernel_rfl) (by kernel_rfl) (by kernel_rfl) (fun _ _ _ h => h) (by kernel_rfl) (by rfl) ?hy hHeld ?_
  case hy => rintro W ⟨r0, r1, r2, r3, r4, r5, r6, r7⟩; first | (go_simp; done) | (go_simp; with_reducible rfl)
  simp only [List.setIfInBounds_toArray, List.set_cons_zero, List.set_cons_succ]
  refine z_ready 5 #[true, true, true, true, true, true, true, true, false, false] rfl (by kernel_rfl) (by kernel_rfl) (by rfl) (fun K' hK => ?_)
  refine op_call_fnS 36 #[.pointer (some ⟨sb, 0, none⟩), .agg #[.int .i64 k.1, .int .i64 k.2], .int .i64 N] (by kernel_rfl) ?_
  refine (HC.out).mono ?_
  rintro e w3 ⟨rfl, h1, h2⟩
  refine ⟨_, rfl, ?_⟩
  have H3 := hide (Sep.uo (i := i) H2d.out (get_app HI.out) h1 h2)
  rw [set_app HIL.out] at H3
  clear h1 h2
  go_simp
  refine hK.out _ _ (fun _ => HX.out _ _ H3.out) (fun hHeld => ?_)
  replace hHeld := hHeld (by decide)
  clear hK K'
  refine zk (v := ?_) 8 115 #[true, true, true, true, true, true, true, true, true, false] rfl rfl (by kernel_rfl) (by kernel_rfl) (by kernel_rfl) (by kernel_rfl) (fun _ _ _ h => h) (by kernel_rfl) (by rfl) ?hy hHeld ?_
  case hy => intro W _; first | (go_simp; done) | (go_simp; with_reducible rfl)
  simp only [List.setIfInBounds_toArray, List.set_cons_zero, List.set_cons_succ]
  refine z_ready 9 #[true, true, true, true, true, true, true, true, true, true] rfl (by kernel_rfl) (by kernel_rfl) (by rfl) (fun K' hK => ?_)
  go_simp
  refine hK.out _ _ (fun h => absurd rfl h) (fun _ => ?_)
  clear hK K'
  refine z_done (by kernel_rfl) ?_ _
  have H9 := hide (Sep.front (cs := cs.set i _) H3.out)
  clear H3 HC HX
  go_wp2_with fail
  go_ret
  exact ⟨rfl, _, H9⟩
set_option maxRecDepth 100000 in
set_option maxHeartbeats 2000000 in
theorem number_ver (on : Int) (k : Ky) (N : Int) (V : List UInt8) (s : Array UInt8) (b : Bool) (tb : Int) (w0 w : World) (cs : List Cp) (i sb n kk : Nat) (U : CI.Sx) (F : Nat → Prop) (h : Sep w0 w cs) (hi : cs[i]? = some (UOp w0.heap.size sb n U kk F)) (L : List Ky) (hL : CI.KL U L) (hT : CI.lenS U L ≤ 4611686018427387904) (ht : (CI.lenS U L : Int) = tb) (_hl : kk ≤ 5864062014803) :
    Calls Tryz.prog 11 #[.pointer (some ⟨sb, 0, none⟩), .agg #[.int .i64 on, .int .i64 8, .int .i64 k.1, .int .i64 k.2, .int .i64 N, .string ⟨V.toArray⟩], .agg #[.string ⟨s⟩, .int .i64 tb, .bool b]] w fun e w' => e = .returned (.bool true) ∧ ∃ F', Hid (Sep w0 w' (cs.set i (UOp w0.heap.size sb n (U) (kk + 1) F'))) := by
  have HIL := hide (List.getElem?_eq_some_iff.1 hi).1
  have HI := hide hi
  obtain ⟨W2, hW2⟩ : ∃ W, (w.alloc (.cells #[.int .i64 on, .int .i64 8, .int .i64 k.1, .int .i64 k.2, .int .i64 N, .string ⟨V.toArray⟩] 31)).alloc (.cells #[.string ⟨s⟩, .int .i64 tb, .bool b] 36) = W := ⟨_, rfl⟩
  have H2 : Hid (Sep w0 W2 (cs ++ NB w.heap.size (w.heap.size + 1) #[.int .i64 on, .int .i64 8, .int .i64 k.1, .int .i64 k.2, .int .i64 N, .string ⟨V.toArray⟩] #[.string ⟨s⟩, .int .i64 tb, .bool b])) := hide (by rw [← hW2]; exact NB.start h _ _)
  obtain ⟨y1, y2, y3, y4, y5, y6, y7, y8⟩ := NB.cells H2.out
  clear h hi
  have qq : ((tb : Int) == (tb : Int)) = true := by simp
  have HTB := hide ht
  clear ht
  go_enter Tryz.func11, Tryz.ntmps11
  go_wp2_with fail
  obtain ⟨b4, hb4⟩ : ∃ b, w.heap.size = b := ⟨_, rfl⟩
  obtain ⟨b5, hb5⟩ : ∃ b, w.heap.size + 1 = b := ⟨_, rfl⟩
  rw [hb5, hb4] at H2 ⊢
  clear y1 y2 y3 y4 y5 y6 y7 y8 hW2
  have HX : Hid (∀ (W : World) (ds : List Cp), Sep w0 W (ds ++ NB b4 b5 #[.int .i64 on, .int .i64 8, .int .i64 k.1, .int .i64 k.2, .int .i64 N, .string ⟨V.toArray⟩] #[.string ⟨s⟩, .int .i64 tb, .bool b]) → (fun W : World => W.cell? ⟨b4, 1, none⟩ = some (.int .i64 8) ∧ W.cell? ⟨b4, 2, none⟩ = some (.int .i64 k.1) ∧ W.cell? ⟨b4, 3, none⟩ = some (.int .i64 k.2) ∧ W.cell? ⟨b4, 4, none⟩ = some (.int .i64 N) ∧ W.cell? ⟨b4, 5, none⟩ = some (.string ⟨V.toArray⟩) ∧ W.cell? ⟨b5, 0, none⟩ = some (.string ⟨s⟩) ∧ W.cell? ⟨b5, 1, none⟩ = some (.int .i64 tb) ∧ W.cell? ⟨b5, 2, none⟩ = some (.bool b)) W) := hide (fun W ds h => NB.cells h)
  have H2d := hide (Sep.later H2.out ((Below.refl W2.heap.size W2).drew))
  have HU : Hid (CI.SO w0.heap.size W2.drew sb n U kk F) := hide (H2d.out.is i _ (get_app HI.out))
  have HC := hide (CI.verE_any w0.heap.size sb n kk U F L W2.drew HU.out hL hT)
  rw [HTB.out] at HC
  clear hb4 hb5 H2 HU
  refine z_begins (S := (fun W : World => W.cell? ⟨b4, 1, none⟩ = some (.int .i64 8) ∧ W.cell? ⟨b4, 2, none⟩ = some (.int .i64 k.1) ∧ W.cell? ⟨b4, 3, none⟩ = some (.int .i64 k.2) ∧ W.cell? ⟨b4, 4, none⟩ = some (.int .i64 N) ∧ W.cell? ⟨b4, 5, none⟩ = some (.string ⟨V.toArray⟩) ∧ W.cell? ⟨b5, 0, none⟩ = some (.string ⟨s⟩) ∧ W.cell? ⟨b5, 1, none⟩ = some (.int .i64 tb) ∧ W.cell? ⟨b5, 2, none⟩ = some (.bool b))) 5 6 #[false, false, false, false, false, false] (by kernel_rfl) (by kernel_rfl) (by kernel_rfl) (HX.out _ _ H2d.out) (fun hHeld => ?_)
  refine zk (v := ?_) 0 116 #[true, false, false, false, false, false] rfl rfl (by kernel_rfl) (by kernel_rfl) (by kernel_rfl) (by kernel_rfl) (fun _ _ _ h => h) (by kernel_rfl) (by rfl) ?hy hHeld ?_
  case hy => intro W _; first | (go_simp; done) | (go_simp; with_reducible rfl)
  simp only [List.setIfInBounds_toArray, List.set_cons_zero, List.set_cons_succ]
  refine zk (v := ?_) 2 118 #[true, false, true, false, false, false] rfl rfl (by kernel_rfl) (by kernel_rfl) (by kernel_rfl) (by kernel_rfl) (fun _ _ _ h => h) (by kernel_rfl) (by rfl) ?hy hHeld ?_
  case hy => intro W _; first | (go_simp; done) | (go_simp; with_reducible rfl)
  simp only [List.setIfInBounds_toArray, List.set_cons_zero, List.set_cons_succ]
  refine zk (v := ?_) 3 119 #[true, false, true, true, false, false] rfl rfl (by kernel_rfl) (by kernel_rfl) (by kernel_rfl) (by kernel_rfl) (fun _ _ _ h => h) (by kernel_rfl) (by rfl) ?hy hHeld ?_
  case hy => rintro W ⟨r0, r1, r2, r3, r4, r5, r6, r7⟩; first | (go_simp; done) | (go_simp; with_reducible rfl)
  simp only [List.setIfInBounds_toArray, List.set_cons_zero, List.set_cons_succ]
  refine z_ready 1 #[true, true, true, true, false, false] rfl (by kernel_rfl) (by kernel_rfl) (by rfl) (fun K' hK => ?_)
  refine op_call_fnS 14 #[.pointer (some ⟨sb, 0, none⟩)] (by kernel_rfl) ?_
  refine (HC.out).mono ?_
  rintro e w3 ⟨rfl, hb3⟩
  refine ⟨_, rfl, ?_⟩
  have H3 := hide (Sep.later H2d.out hb3)
  clear hb3
  go_simp
  refine hK.out _ _ (fun _ => HX.out _ _ H3.out) (fun hHeld => ?_)
  replace hHeld := hHeld (by decide)
  clear hK K'
  refine zk (v := ?_) 4 120 #[true, true, true, true, true, false] rfl rfl (by kernel_rfl) (by kernel_rfl) (by kernel_rfl) (by kernel_rfl) (fun _ _ _ h => h) (by kernel_rfl) (by rfl) ?hy hHeld ?_
  case hy => intro W _; first | (go_simp; done) | (go_simp; with_reducible rfl)
  simp only [List.setIfInBounds_toArray, List.set_cons_zero, List.set_cons_succ]
  refine z_ready 5 #[true, true, true, true, true, true] rfl (by kernel_rfl) (by kernel_rfl) (by rfl) (fun K' hK => ?_)
  go_simp
  refine hK.out _ _ (fun h => absurd rfl h) (fun _ => ?_)
  clear hK K'
  refine z_done (by kernel_rfl) ?_ _
  have H9 := hide (Sep.uup (Sep.front (cs := cs) H3.out) HI.out)
  clear H3 HC HX
  go_wp2_with fail
  go_ret
  exact ⟨rfl, _, H9⟩
set_option maxRecDepth 100000 in
set_option maxHeartbeats 2000000 in
theorem number_at (on : Int) (k : Ky) (N : Int) (V : List UInt8) (x : Int) (S : List UInt8) (tb : Bool) (w0 w : World) (cs : List Cp) (i sb n kk : Nat) (U : CI.Sx) (F : Nat → Prop) (h : Sep w0 w cs) (hi : cs[i]? = some (UOp w0.heap.size sb n U kk F)) (hk : KOK k) (hS : CI.atS N (U.K k) = (S.length : Int)) (ht : CI.atB N (U.K k) = tb) (hl : kk ≤ 5864062014803) :
    Calls Tryz.prog 11 #[.pointer (some ⟨sb, 0, none⟩), .agg #[.int .i64 on, .int .i64 1, .int .i64 k.1, .int .i64 k.2, .int .i64 N, .string ⟨V.toArray⟩], .agg #[.string ⟨S.toArray⟩, .int .i64 x, .bool tb]] w fun e w' => e = .returned (.bool true) ∧ ∃ F', Hid (Sep w0 w' (cs.set i (UOp w0.heap.size sb n (U) (kk + 1) F'))) := by
  have HIL := hide (List.getElem?_eq_some_iff.1 hi).1
  have HI := hide hi
  obtain ⟨W2, hW2⟩ : ∃ W, (w.alloc (.cells #[.int .i64 on, .int .i64 1, .int .i64 k.1, .int .i64 k.2, .int .i64 N, .string ⟨V.toArray⟩] 31)).alloc (.cells #[.string ⟨S.toArray⟩, .int .i64 x, .bool tb] 36) = W := ⟨_, rfl⟩
  have H2 : Hid (Sep w0 W2 (cs ++ NB w.heap.size (w.heap.size + 1) #[.int .i64 on, .int .i64 1, .int .i64 k.1, .int .i64 k.2, .int .i64 N, .string ⟨V.toArray⟩] #[.string ⟨S.toArray⟩, .int .i64 x, .bool tb])) := hide (by rw [← hW2]; exact NB.start h _ _)
  obtain ⟨y1, y2, y3, y4, y5, y6, y7, y8⟩ := NB.cells H2.out
  clear h hi
  have HTB := hide ht
  have qq : (tb == tb) = true := by simp
  have qs : ((S.length : Int) == (S.length : Int)) = true := by simp
  clear ht
  go_enter Tryz.func11, Tryz.ntmps11
  have HU : Hid (CI.SO w0.heap.size W2 sb n U kk F) := hide (H2.out.is i _ (get_app HI.out))
  have HC := hide (CI.atO_any k N w0.heap.size sb n kk U F W2 HU.out hk hl)
  rw [HTB.out, hS] at HC
  clear HU
  go_wp2_with fail
  refine HC.out.mono ?_
  rintro e w3 ⟨rfl, hb3⟩
  have H3 := hide (Sep.later H2.out hb3)
  obtain ⟨z1, z2, z3, z4, z5, z6, z7, z8⟩ := NB.cells H3.out
  have H9 := hide (Sep.uup (Sep.front (cs := cs) H3.out) HI.out)
  clear HC hb3 H2 H3 y1 y2 y3 y4 y5 y6 y7 y8 hW2
  go_wp2_with fail
  go_ret
  exact ⟨rfl, _, H9⟩
set_option maxRecDepth 100000 in
set_option maxHeartbeats 2000000 in
theorem number_last (on : Int) (k : Ky) (N : Int) (V : List UInt8) (p : Ver) (tb : Bool) (w0 w : World) (cs : List Cp) (i sb n kk : Nat) (U : CI.Sx) (F : Nat → Prop) (h : Sep w0 w cs) (hi : cs[i]? = some (UOp w0.heap.size sb n U kk F)) (hk : KOK k) (hS : CI.laP (U.K k) = lv p) (ht : CI.laB (U.K k) = tb) (hl : kk ≤ 5864062014803) :
    Calls Tryz.prog 11 #[.pointer (some ⟨sb, 0, none⟩), .agg #[.int .i64 on, .int .i64 2, .int .i64 k.1, .int .i64 k.2, .int .i64 N, .string ⟨V.toArray⟩], .agg #[.string ⟨p.2.toArray⟩, .int .i64 p.1, .bool tb]] w fun e w' => e = .returned (.bool true) ∧ ∃ F', Hid (Sep w0 w' (cs.set i (UOp w0.heap.size sb n (U) (kk + 1) F'))) := by
  have HIL := hide (List.getElem?_eq_some_iff.1 hi).1
  have HI := hide hi
  obtain ⟨W2, hW2⟩ : ∃ W, (w.alloc (.cells #[.int .i64 on, .int .i64 2, .int .i64 k.1, .int .i64 k.2, .int .i64 N, .string ⟨V.toArray⟩] 31)).alloc (.cells #[.string ⟨p.2.toArray⟩, .int .i64 p.1, .bool tb] 36) = W := ⟨_, rfl⟩
  have H2 : Hid (Sep w0 W2 (cs ++ NB w.heap.size (w.heap.size + 1) #[.int .i64 on, .int .i64 2, .int .i64 k.1, .int .i64 k.2, .int .i64 N, .string ⟨V.toArray⟩] #[.string ⟨p.2.toArray⟩, .int .i64 p.1, .bool tb])) := hide (by rw [← hW2]; exact NB.start h _ _)
  obtain ⟨y1, y2, y3, y4, y5, y6, y7, y8⟩ := NB.cells H2.out
  clear h hi
  have HTB := hide ht
  have qq : (tb == tb) = true := by simp
  have qp : (p.1 == p.1) = true := by simp
  have qs : ((p.2.length : Int) == (p.2.length : Int)) = true := by simp
  clear ht
  go_enter Tryz.func11, Tryz.ntmps11
  have HU : Hid (CI.SO w0.heap.size W2 sb n U kk F) := hide (H2.out.is i _ (get_app HI.out))
  have HC := hide (CI.lastO_any k w0.heap.size sb n kk U F W2 HU.out hk hl)
  rw [HTB.out, hS] at HC
  dsimp only [lv] at HC
  clear HU
  go_wp2_with fail
  refine HC.out.mono ?_
  rintro e w3 ⟨rfl, hb3⟩
  have H3 := hide (Sep.later H2.out hb3)
  obtain ⟨z1, z2, z3, z4, z5, z6, z7, z8⟩ := NB.cells H3.out
  have H9 := hide (Sep.uup (Sep.front (cs := cs) H3.out) HI.out)
  clear HC hb3 H2 H3 y1 y2 y3 y4 y5 y6 y7 y8 hW2
  go_wp2_with fail
  go_ret
  exact ⟨rfl, _, H9⟩
end Go.Proofs.YtehacdijleommaaGreatDoor
