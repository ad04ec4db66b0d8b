/-
  My own text: QB, QB2, QM in one.
-/
import Derived.Test.YtpkgaidnpooahaaGreatDoorQA2
namespace Go.Proofs.YtpkgaidnpooahaaGreatDoor
open Go.RowKit

set_option maxRecDepth 100000 in
set_option maxHeartbeats 2000000 in
theorem block_deep (rc : Array Value) (n : Lin) (nm : List UInt8) (d : Nat) (w : World) (hl : n.tx.length ≤ 1048576) (hd : 8 ≤ d) (hd2 : d ≤ 1000) :
    Calls Tryz.prog 68 #[.agg rc, .agg (lnC n), .string ⟨nm.toArray⟩, .int .i64 (d : Int)] w fun e w' => e = gone 5 n.no 1 ∧ Below w.heap.size w w' := by
  obtain ⟨no, bg, tx, en⟩ := n
  dsimp only at hl
  have X0 : Hid (Lx (((w.alloc (.cells rc 71)).alloc (.cells (lnC ⟨no, bg, tx, en⟩) 98)).alloc (.cells #[.string ⟨#[]⟩, .string ⟨#[]⟩, .string ⟨#[]⟩, .string ⟨#[]⟩, .slice none 0 0] 25)) (w.heap.size + 1) ⟨no, bg, tx, en⟩) := hide (alloc_block (alloc2_newq w _ _))
  have B0 := hide ((((Below.refl w.heap.size w).alloc (Nat.le_refl _) (.cells rc 71)).alloc (by simp) (.cells (lnC ⟨no, bg, tx, en⟩) 98)).alloc (by simp; omega) (.cells #[.string ⟨#[]⟩, .string ⟨#[]⟩, .string ⟨#[]⟩, .string ⟨#[]⟩, .slice none 0 0] 25))
  have c0 := X0.out.num
  have c1 := X0.out.beg
  have c2 := X0.out.text
  have c3 := X0.out.ends
  dsimp only at c0 c1 c2 c3
  have HR := hide (fun W : World => refuse_yes ⟨no, bg, tx, en⟩ 5 1 W)
  have hdd : decide (8 ≤ (d : Int)) = true := decide_eq_true (by omega)
  go_enter Tryz.func68, Tryz.ntmps68
  go_wp2_with fail
  refine (HR.out _).mono ?_
  rintro e w1 ⟨rfl, hb1⟩
  exact ⟨rfl, rfl, B0.out.trans (hb1.mono B0.out.size)⟩
set_option maxRecDepth 100000 in
set_option maxHeartbeats 2000000 in
theorem block_name (rc : Array Value) (n : Lin) (nm : List UInt8) (d : Nat) (w : World) (hl : n.tx.length ≤ 1048576) (hd : d < 8) (hn : nameB nm = false) (hnl : nm.length ≤ 1048576) :
    Calls Tryz.prog 68 #[.agg rc, .agg (lnC n), .string ⟨nm.toArray⟩, .int .i64 (d : Int)] w fun e w' => e = gone 4 n.no ((n.tx.length : Int) - nm.length + 1) ∧ Below w.heap.size w w' := by
  obtain ⟨no, bg, tx, en⟩ := n
  dsimp only at hl
  have X0 : Hid (Lx (((w.alloc (.cells rc 71)).alloc (.cells (lnC ⟨no, bg, tx, en⟩) 98)).alloc (.cells #[.string ⟨#[]⟩, .string ⟨#[]⟩, .string ⟨#[]⟩, .string ⟨#[]⟩, .slice none 0 0] 25)) (w.heap.size + 1) ⟨no, bg, tx, en⟩) := hide (alloc_block (alloc2_newq w _ _))
  have B0 := hide ((((Below.refl w.heap.size w).alloc (Nat.le_refl _) (.cells rc 71)).alloc (by simp) (.cells (lnC ⟨no, bg, tx, en⟩) 98)).alloc (by simp; omega) (.cells #[.string ⟨#[]⟩, .string ⟨#[]⟩, .string ⟨#[]⟩, .string ⟨#[]⟩, .slice none 0 0] 25))
  have c0 := X0.out.num
  have c1 := X0.out.beg
  have c2 := X0.out.text
  have c3 := X0.out.ends
  dsimp only at c0 c1 c2 c3
  have HR := hide (fun W : World => refuse_no ⟨no, bg, tx, en⟩ 5 1 W)
  have HR2 := hide (fun W : World => refuse_yes ⟨no, bg, tx, en⟩ 4 ((tx.length : Int) - nm.length + 1) W)
  have HN : Hid (∀ W : World, Calls Tryz.prog 88 #[.string ⟨nm.toArray⟩] W fun e w' => e = .returned (.bool false) ∧ w' = W) := hide (fun W => by have := tIsName_any nm W (by omega); rw [hn] at this; exact this)
  have hdd : decide (8 ≤ (d : Int)) = false := decide_eq_false (by omega)
  go_enter Tryz.func68, Tryz.ntmps68
  go_wp2_with fail
  refine (HR.out _).mono ?_
  rintro e w1 ⟨rfl, hb1⟩
  have B1 := hide (B0.out.trans (hb1.mono B0.out.size))
  have X1 := hide (X0.out.later hb1)
  clear hb1 c0 c1 c2 c3
  have c0 := X1.out.num
  have c1 := X1.out.beg
  have c2 := X1.out.text
  have c3 := X1.out.ends
  dsimp only at c0 c1 c2 c3
  go_wp2_with fail
  refine region_tail 11 (by kernel_rfl) (by kernel_rfl) ?_
  simp only [List.take_succ_cons, List.take_zero, List.drop_succ_cons, List.drop_zero]
  repeat (first | still_step | still_call (HN.out _))
  refine wpStill_nil ?_
  go_wp2_with fail
  refine (HR2.out _).mono ?_
  rintro e w3 ⟨rfl, hb3⟩
  exact ⟨rfl, rfl, B1.out.drew.trans (hb3.mono B1.out.drew.size)⟩
end Go.Proofs.YtpkgaidnpooahaaGreatDoor
namespace Go.Proofs.YtpkgaidnpooahaaGreatDoor
open Go.RowKit

theorem alloc3_newq (w : World) (a b c : Obj) : (((w.alloc a).alloc b).alloc c).heap[w.heap.size + 2]? = some c := by
  have h := alloc_new ((w.alloc a).alloc b) c
  have hs : ((w.alloc a).alloc b).heap.size = w.heap.size + 2 := by simp
  rw [hs] at h; exact h
theorem Tryz.sizeRdq : (Tryz.prog.info? 71).map (·.size) = some 2 := by kernel_rfl
set_option maxRecDepth 100000 in
set_option maxHeartbeats 2000000 in
theorem block_gone (T : List UInt8) (fv : Value) (n : Lin) (nm : List UInt8) (d : Nat) (p q : Nat) (no' m at_ : Int) (w : World) (hl : n.tx.length ≤ 1048576) (hd : d < 8) (hn : nameB nm = true) (hnl : nm.length ≤ 1048576)
    (hI : ∀ W : World, Below w.heap.size w W → Calls Tryz.prog 41 #[.agg (rdC T fv), .int .i64 ((d : Int) + 1), .string ⟨nm.toArray⟩] W fun e w' => e = gone no' m at_ ∧ Mv p q W w') :
    Calls Tryz.prog 68 #[.agg (rdC T fv), .agg (lnC n), .string ⟨nm.toArray⟩, .int .i64 (d : Int)] w fun e w' => e = gone no' m at_ ∧ Mv p q w w' := by
  have HI := hide hI
  clear hI
  obtain ⟨no, bg, tx, en⟩ := n
  dsimp only at hl
  have X0 : Hid (Lx (((w.alloc (.cells (rdC T fv) 71)).alloc (.cells (lnC ⟨no, bg, tx, en⟩) 98)).alloc (.cells #[.string ⟨#[]⟩, .string ⟨#[]⟩, .string ⟨#[]⟩, .string ⟨#[]⟩, .slice none 0 0] 25)) (w.heap.size + 1) ⟨no, bg, tx, en⟩) := hide (alloc_block (alloc2_newq w _ _))
  have B0 := hide ((((Below.refl w.heap.size w).alloc (Nat.le_refl _) (.cells (rdC T fv) 71)).alloc (by simp) (.cells (lnC ⟨no, bg, tx, en⟩) 98)).alloc (by simp; omega) (.cells #[.string ⟨#[]⟩, .string ⟨#[]⟩, .string ⟨#[]⟩, .string ⟨#[]⟩, .slice none 0 0] 25))
  have RX0 : Hid (Bk (((w.alloc (.cells (rdC T fv) 71)).alloc (.cells (lnC ⟨no, bg, tx, en⟩) 98)).alloc (.cells #[.string ⟨#[]⟩, .string ⟨#[]⟩, .string ⟨#[]⟩, .string ⟨#[]⟩, .slice none 0 0] 25)) w.heap.size (rdC T fv) 71) := hide (alloc_block (alloc_block (alloc_new w _)))
  have IX0 : Hid (Ix (((w.alloc (.cells (rdC T fv) 71)).alloc (.cells (lnC ⟨no, bg, tx, en⟩) 98)).alloc (.cells #[.string ⟨#[]⟩, .string ⟨#[]⟩, .string ⟨#[]⟩, .string ⟨#[]⟩, .slice none 0 0] 25)) (w.heap.size + 2) ⟨[], [], [], []⟩ (.slice none 0 0)) := hide (alloc3_newq w _ _ _)
  have c0 := X0.out.num
  have c1 := X0.out.beg
  have c2 := X0.out.text
  have c3 := X0.out.ends
  dsimp only at c0 c1 c2 c3
  have HR := hide (fun W : World => refuse_no ⟨no, bg, tx, en⟩ 5 1 W)
  have HR2 := hide (fun W : World => refuse_no ⟨no, bg, tx, en⟩ 4 ((tx.length : Int) - nm.length + 1) W)
  have HN : Hid (∀ W : World, Calls Tryz.prog 88 #[.string ⟨nm.toArray⟩] W fun e w' => e = .returned (.bool true) ∧ w' = W) := hide (fun W => by have := tIsName_any nm W (by omega); rw [hn] at this; exact this)
  have hdd : decide (8 ≤ (d : Int)) = false := decide_eq_false (by omega)
  go_enter Tryz.func68, Tryz.ntmps68
  go_wp2_with fail
  refine (HR.out _).mono ?_
  rintro e w1 ⟨rfl, hb1⟩
  have B1 := hide (B0.out.trans (hb1.mono B0.out.size))
  have X1 := hide (X0.out.later hb1)
  have R1 := hide (RX0.out.later hb1)
  have I1 := hide (IX0.out.later hb1)
  clear hb1 c0 c1 c2 c3
  have c0 := X1.out.num
  have c1 := X1.out.beg
  have c2 := X1.out.text
  have c3 := X1.out.ends
  dsimp only at c0 c1 c2 c3
  go_wp2_with fail
  refine region_tail 11 (by kernel_rfl) (by kernel_rfl) ?_
  simp only [List.take_succ_cons, List.take_zero, List.drop_succ_cons, List.drop_zero]
  repeat (first | still_step | still_call (HN.out _))
  refine wpStill_nil ?_
  go_wp2_with fail
  refine (HR2.out _).mono ?_
  rintro e w3 ⟨rfl, hb3⟩
  have B3 := hide (B1.out.drew.trans (hb3.mono B1.out.drew.size))
  have R3 : Hid (Bk w3 w.heap.size (rdC T fv) 71) := hide ((hb3.block w.heap.size R1.out.lt).trans R1.out)
  have I3 : Hid (Ix w3 (w.heap.size + 2) ⟨[], [], [], []⟩ (.slice none 0 0)) := hide ((hb3.block (w.heap.size + 2) I1.out.lt).trans I1.out)
  clear hb3 c0 c1 c2 c3
  go_wp2_with (refine wpList_load_row rfl 71 (.tmp 4) rfl w.heap.size rfl _ _ _ _ R3.out Tryz.underlying71 rfl Tryz.sizeRdq ?_)
  refine (HI.out _ B3.out).mono ?_
  rintro e w4 ⟨rfl, hmv⟩
  exact ⟨rfl, rfl, (Mv.of B3.out).trans hmv⟩
set_option maxRecDepth 100000 in
set_option maxHeartbeats 2000000 in
theorem block_ok (T : List UInt8) (fv : Value) (n : Lin) (nm : List UInt8) (d : Nat) (Φ : World → Option Addr → Nat → Nat → World → Prop) (w : World) (hl : n.tx.length ≤ 1048576) (hd : d < 8) (hn : nameB nm = true) (hnl : nm.length ≤ 1048576)
    (hI : ∀ W : World, Below w.heap.size w W → Calls Tryz.prog 41 #[.agg (rdC T fv), .int .i64 ((d : Int) + 1), .string ⟨nm.toArray⟩] W fun e w' => ∃ a k cap, e = .returned (.slice a k cap) ∧ Φ W a k cap w' ∧ (∀ g, g < W.heap.size → w.heap.size ≤ g → w'.heap[g]? = W.heap[g]?)) :
    Calls Tryz.prog 68 #[.agg (rdC T fv), .agg (lnC n), .string ⟨nm.toArray⟩, .int .i64 (d : Int)] w fun e w' => ∃ W a k cap w1, Below w.heap.size w W ∧ w.heap.size + 2 < W.heap.size ∧ Φ W a k cap w1 ∧ e = .returned (.agg (iC ⟨[], [], [], nm⟩ (.slice a k cap))) ∧ w' = w1.setRow (w.heap.size + 2) (iC ⟨[], [], [], nm⟩ (.slice a k cap)) := by
  have HI := hide hI
  clear hI
  obtain ⟨no, bg, tx, en⟩ := n
  dsimp only at hl
  have X0 : Hid (Lx (((w.alloc (.cells (rdC T fv) 71)).alloc (.cells (lnC ⟨no, bg, tx, en⟩) 98)).alloc (.cells #[.string ⟨#[]⟩, .string ⟨#[]⟩, .string ⟨#[]⟩, .string ⟨#[]⟩, .slice none 0 0] 25)) (w.heap.size + 1) ⟨no, bg, tx, en⟩) := hide (alloc_block (alloc2_newq w _ _))
  have B0 := hide ((((Below.refl w.heap.size w).alloc (Nat.le_refl _) (.cells (rdC T fv) 71)).alloc (by simp) (.cells (lnC ⟨no, bg, tx, en⟩) 98)).alloc (by simp; omega) (.cells #[.string ⟨#[]⟩, .string ⟨#[]⟩, .string ⟨#[]⟩, .string ⟨#[]⟩, .slice none 0 0] 25))
  have RX0 : Hid (Bk (((w.alloc (.cells (rdC T fv) 71)).alloc (.cells (lnC ⟨no, bg, tx, en⟩) 98)).alloc (.cells #[.string ⟨#[]⟩, .string ⟨#[]⟩, .string ⟨#[]⟩, .string ⟨#[]⟩, .slice none 0 0] 25)) w.heap.size (rdC T fv) 71) := hide (alloc_block (alloc_block (alloc_new w _)))
  have IX0 : Hid (Ix (((w.alloc (.cells (rdC T fv) 71)).alloc (.cells (lnC ⟨no, bg, tx, en⟩) 98)).alloc (.cells #[.string ⟨#[]⟩, .string ⟨#[]⟩, .string ⟨#[]⟩, .string ⟨#[]⟩, .slice none 0 0] 25)) (w.heap.size + 2) ⟨[], [], [], []⟩ (.slice none 0 0)) := hide (alloc3_newq w _ _ _)
  have c0 := X0.out.num
  have c1 := X0.out.beg
  have c2 := X0.out.text
  have c3 := X0.out.ends
  dsimp only at c0 c1 c2 c3
  have HR := hide (fun W : World => refuse_no ⟨no, bg, tx, en⟩ 5 1 W)
  have HR2 := hide (fun W : World => refuse_no ⟨no, bg, tx, en⟩ 4 ((tx.length : Int) - nm.length + 1) W)
  have HN : Hid (∀ W : World, Calls Tryz.prog 88 #[.string ⟨nm.toArray⟩] W fun e w' => e = .returned (.bool true) ∧ w' = W) := hide (fun W => by have := tIsName_any nm W (by omega); rw [hn] at this; exact this)
  have hdd : decide (8 ≤ (d : Int)) = false := decide_eq_false (by omega)
  go_enter Tryz.func68, Tryz.ntmps68
  go_wp2_with fail
  refine (HR.out _).mono ?_
  rintro e w1 ⟨rfl, hb1⟩
  have B1 := hide (B0.out.trans (hb1.mono B0.out.size))
  have X1 := hide (X0.out.later hb1)
  have R1 := hide (RX0.out.later hb1)
  have I1 := hide (IX0.out.later hb1)
  clear hb1 c0 c1 c2 c3
  have c0 := X1.out.num
  have c1 := X1.out.beg
  have c2 := X1.out.text
  have c3 := X1.out.ends
  dsimp only at c0 c1 c2 c3
  go_wp2_with fail
  refine region_tail 11 (by kernel_rfl) (by kernel_rfl) ?_
  simp only [List.take_succ_cons, List.take_zero, List.drop_succ_cons, List.drop_zero]
  repeat (first | still_step | still_call (HN.out _))
  refine wpStill_nil ?_
  go_wp2_with fail
  refine (HR2.out _).mono ?_
  rintro e w3 ⟨rfl, hb3⟩
  have B3 := hide (B1.out.drew.trans (hb3.mono B1.out.drew.size))
  have R3 : Hid (Bk w3 w.heap.size (rdC T fv) 71) := hide ((hb3.block w.heap.size R1.out.lt).trans R1.out)
  have I3 : Hid (Ix w3 (w.heap.size + 2) ⟨[], [], [], []⟩ (.slice none 0 0)) := hide ((hb3.block (w.heap.size + 2) I1.out.lt).trans I1.out)
  clear hb3 c0 c1 c2 c3
  go_wp2_with (refine wpList_load_row rfl 71 (.tmp 4) rfl w.heap.size rfl _ _ _ _ R3.out Tryz.underlying71 rfl Tryz.sizeRdq ?_)
  refine (HI.out _ B3.out).mono ?_
  rintro e w4 ⟨a, k, cap, rfl, hΦ, hk⟩
  have I4 : Hid (Ix w4 (w.heap.size + 2) ⟨[], [], [], []⟩ (.slice none 0 0)) := hide ((hk (w.heap.size + 2) I3.out.lt (by omega)).trans I3.out)
  go_wp2_with (refine wpList_store_row rfl 25 (.tmp 8) _ rfl (w.heap.size + 2) (iC ⟨[], [], [], nm⟩ (.slice a k cap)) rfl rfl _ _ I4.out Tryz.sizeItm rfl (iC_one _ _ _ _) ?_)
  (try simp only [Exit.inBlock, Exit.then])
  refine bodyPost_ret (v := .agg (iC ⟨[], [], [], nm⟩ (.slice a k cap))) ?_ rfl ⟨w3, a, k, cap, w4, B3.out, I3.out.lt, hΦ, rfl, rfl⟩
  exact results_cell_row rfl _ _ (w.heap.size + 2) 25 (iC ⟨[], [], [], nm⟩ (.slice a k cap)) (0, 0) _ rfl (setRow_heap _ _ _ _ _ _ I4.out) Tryz.underlying25 rfl Tryz.sizeItm
end Go.Proofs.YtpkgaidnpooahaaGreatDoor
namespace Go.Proofs.YtpkgaidnpooahaaGreatDoor
open Go.RowKit

theorem pre_split {s sub : List UInt8} (h : sub.isPrefixOf s = true) : s = sub ++ s.drop sub.length := by
  obtain ⟨r, rfl⟩ := List.isPrefixOf_iff_prefix.1 h
  simp
theorem occ_split {s sub : List UInt8} {i : Nat} (h : Lib.occAt s sub i = true) : s = s.take i ++ sub ++ s.drop (i + sub.length) := by
  have h1 := pre_split (s := s.drop i) (sub := sub) h
  rw [List.drop_drop] at h1
  rw [List.append_assoc, ← h1, List.take_append_drop]
theorem cut_yes {s sep : List UInt8} (h : (Lib.cut s sep).2.2 = true) : s = (Lib.cut s sep).1 ++ sep ++ (Lib.cut s sep).2.1 := by
  unfold Lib.cut at h ⊢
  rcases Lib.index_spec s sep with ⟨h1, _⟩ | ⟨i, h1, h2, h3, _⟩
  · rw [h1] at h; simp at h
  · rw [h1, if_pos (by omega)]
    exact occ_split h3
theorem cut_no {s sep : List UInt8} (h : (Lib.cut s sep).2.2 = false) : (Lib.cut s sep).1 = s ∧ (Lib.cut s sep).2.1 = [] := by
  unfold Lib.cut at h ⊢
  split at h
  · simp at h
  · rw [if_neg (by assumption)]; exact ⟨rfl, rfl⟩
theorem own_yes {T : List UInt8} {b : Nat} (h : endL T b = true) : T.drop b = ownL T b ++ [10] ++ T.drop (nxtB T b) ∧ nxtB T b = b + (ownL T b).length + 1 := by
  obtain ⟨r, h1⟩ : ∃ r, T.drop b = ownL T b ++ [10] ++ r := ⟨_, cut_yes h⟩
  have hl : T.length - b = (ownL T b).length + 1 + r.length := by
    have := congrArg List.length h1
    rw [List.length_drop] at this; simp at this; omega
  have hn : nxtB T b = b + (ownL T b).length + 1 := by unfold nxtB; omega
  refine ⟨?_, hn⟩
  rw [hn]
  have h2 : T.drop (b + (ownL T b).length + 1) = r := by
    rw [Nat.add_assoc, ← List.drop_drop, h1, List.drop_left' (by simp)]
  rw [h2]; exact h1
theorem own_take {T : List UInt8} {b : Nat} (h : endL T b = true) : T.take (nxtB T b) = T.take b ++ ownL T b ++ [10] := by
  obtain ⟨h1, h2⟩ := own_yes h
  have e : T.take (nxtB T b) = T.take b ++ (T.drop b).take ((ownL T b).length + 1) := by rw [h2, Nat.add_assoc, List.take_add]
  rw [e, h1, List.take_left' (by simp), List.append_assoc]
/-- The last item, if it is a field, ends where the reading stands. -/
def TI (T : List UInt8) (l : List Tr) (b : Nat) : Prop := ∀ a, l.getLast? = some a → a.itm.tag.isEmpty = false → ∃ pre, T.take b = pre ++ a.itm.text ++ [10]
theorem TI.nil (T : List UInt8) (b : Nat) : TI T [] b := fun a h => by simp at h
theorem TI.block (T : List UInt8) (l : List Tr) (b : Nat) (nm : List UInt8) (k : List Tr) : TI T (l ++ [.mk ⟨[], [], [], nm⟩ k]) b := fun a h h2 => by
  simp at h; subst h; simp [Tr.itm] at h2
theorem TI.line {T : List UInt8} {b : Nat} (l : List Tr) (a : Tr) (pre : List UInt8) (h : endL T b = true) (ho : ownL T b = pre ++ a.itm.text) : TI T (l ++ [a]) (nxtB T b) := fun c hc _ => by
  simp at hc; subst hc
  exact ⟨T.take b ++ pre, by rw [own_take h, ho]; simp⟩
theorem TI.more {T : List UInt8} {b : Nat} {l : List Tr} {a : Tr} (ht : TI T (l ++ [a]) b) (hf : a.itm.tag.isEmpty = false) (h : endL T b = true) (hb : b ≤ T.length) :
    a.itm.text.length + 1 ≤ b ∧ b + (ownL T b).length ≤ T.length ∧ (T.drop (b - 1 - a.itm.text.length)).take (a.itm.text.length + 1 + (ownL T b).length) = a.itm.text ++ 10 :: ownL T b ∧ TI T (l ++ [a.withText (a.itm.text ++ 10 :: ownL T b)]) (nxtB T b) := by
  obtain ⟨pre, hp⟩ := ht a (by simp) hf
  obtain ⟨h1, h2⟩ := own_yes h
  have hl := congrArg List.length hp
  simp at hl
  have hl2 := congrArg List.length h1
  simp at hl2
  refine ⟨by omega, by omega, ?_, fun c hc _ => ?_⟩
  · have hT : T = pre ++ (a.itm.text ++ [10] ++ T.drop b) := by rw [← List.append_assoc, ← List.append_assoc, ← hp, List.take_append_drop]
    have e : T.drop (b - 1 - a.itm.text.length) = a.itm.text ++ [10] ++ T.drop b := by
      rw [show b - 1 - a.itm.text.length = pre.length by omega]
      conv => lhs; rw [hT]
      rw [List.drop_left]
    rw [e, h1]
    have e2 : a.itm.text ++ [10] ++ (ownL T b ++ [10] ++ T.drop (nxtB T b)) = (a.itm.text ++ 10 :: ownL T b) ++ ([10] ++ T.drop (nxtB T b)) := by simp
    rw [e2, List.take_left' (by simp; omega)]
  · simp at hc; subst hc
    exact ⟨pre, by rw [own_take h, hp]; simp [Tr.withText, Tr.itm]⟩
theorem fldI_text (tag rest : List UInt8) (len : Nat) (h : fldO tag rest len = none) : (fldI tag rest).tag = tag ∧ ∃ pre, rest = pre ++ (fldI tag rest).text := by
  unfold fldO at h
  unfold fldI
  cases hh : hdB rest with
  | false => exact ⟨rfl, [], by simp⟩
  | true =>
    rw [hh] at h
    simp only [Bool.not_true, Bool.false_eq_true, if_false] at h ⊢
    refine ⟨trivial, ?_⟩
    split at h
    · cases h
    · split at h
      · cases h
      · rename_i h3
        have hc : (Lib.cut (rest.drop 1) [47, 47]).2.2 = true := by
          cases hq : (Lib.cut (rest.drop 1) [47, 47]).2.2 with
          | true => rfl
          | false => rw [hq] at h3; simp at h3
        refine ⟨rest.take 1 ++ ((Lib.cut (rest.drop 1) [47, 47]).1 ++ [47, 47]), ?_⟩
        have := cut_yes hc
        rw [List.append_assoc, ← this, List.take_append_drop]
end Go.Proofs.YtpkgaidnpooahaaGreatDoor
