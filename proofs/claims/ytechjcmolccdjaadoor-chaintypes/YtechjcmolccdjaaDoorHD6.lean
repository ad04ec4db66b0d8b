/-
  My own text: one call of a chain, held against the row (printed by mkhd6.py).
-/
import Derived.Test.YtechjcmolccdjaaDoorHD5
namespace Go.Proofs.YtechjcmolccdjaaDoor
open Go.RowKit Go.Shelf

set_option maxRecDepth 100000 in
set_option maxHeartbeats 2000000 in
theorem step_put (on kd n : Int) (s : List UInt8) (cb k : Nat) (L : List Ver) (a : Option Addr) (cap : Nat) (w0 w : World) (h : CR w0 cb k L (.slice a L.length cap) w) (hl : k < 5864062014804) (hn : n ≤ 9223372036854775807) (HE : Hid (ErrType w0)) :
    Calls Tryd.prog 8 #[.pointer (some ⟨cb, 0, none⟩), .slice a L.length cap, .agg #[.int .i64 on, .int .i64 kd, .int .i64 n, .string ⟨s.toArray⟩], .int .i64 0] w (StepTo w0 cb (k + 1) (ptL n s L) w) := by
  obtain ⟨W1, hW1⟩ : ∃ W1, w.alloc (.cells #[.int .i64 on, .int .i64 kd, .int .i64 n, .string ⟨s.toArray⟩] 29) = W1 := ⟨_, rfl⟩
  have hb1 : Below w.heap.size w W1 := by rw [← hW1]; exact (Below.refl _ _).alloc (Nat.le_refl _) _
  have hk1 : W1.heap[w.heap.size]? = some (.cells #[.int .i64 on, .int .i64 kd, .int .i64 n, .string ⟨s.toArray⟩] 29 (0, 0)) := by rw [← hW1]; exact alloc_newV w _
  have d2 : W1.cell? ⟨w.heap.size, 2, none⟩ = some (.int .i64 n) := by rw [cell_of_row _ _ 2 _ _ _ hk1]; rfl
  have d3 : W1.cell? ⟨w.heap.size, 3, none⟩ = some (.string ⟨s.toArray⟩) := by rw [cell_of_row _ _ 3 _ _ _ hk1]; rfl
  have D2 := hide d2
  have D3 := hide d3
  have HCB := hide h.ch.lt
  have C1 := hide (h.later hb1)
  have F1 : Hid (Fr w W1 cb) := hide ((Fr.refl w cb).later h.ch.lt hb1)
  have HL := hide hl
  have HN := hide hn
  have HLL : Hid (L.length ≤ 5864062014804) := hide (by have := h.lk.len; omega)
  clear h hl hn hb1 hk1
  obtain ⟨ln, hln⟩ : ∃ ln, ln = L.length := ⟨_, rfl⟩
  rw [← hln] at C1 ⊢
  have HLN := hide hln
  clear hln
  go_enter Tryd.func8, Tryd.ntmps8
  go_wp2_with fail
  refine (refPut_any _ L n s w0.heap.size k W1 C1.out.row C1.out.lk HL.out C1.out.low.size).mono ?_
  rintro e w2 ⟨v2, rfl, ho2, hb2, _⟩
  obtain ⟨a2, c2, rfl⟩ := ho2.slc
  have C2 := hide (C1.out.later hb2)
  have O2 := hide ho2
  have F2 := hide (F1.out.later HCB.out hb2)
  have e2 : w2.cell? ⟨w.heap.size, 2, none⟩ = some (.int .i64 n) := (hb2.cell (World.block_lt_of_cell? _ _ D2.out)).trans D2.out
  have e3 : w2.cell? ⟨w.heap.size, 3, none⟩ = some (.string ⟨s.toArray⟩) := (hb2.cell (World.block_lt_of_cell? _ _ D3.out)).trans D3.out
  obtain ⟨ln2, hln2⟩ : ∃ ln2, ln2 = (ptL n s L).length := ⟨_, rfl⟩
  rw [← hln2] at O2 ⊢
  have HLN2 := hide hln2
  clear hb2 ho2 d2 d3 hW1 hln2
  go_wp2_with fail
  refine (put_any n s cb cb k L w2 C2.out.ch C2.out.lk (Nat.le_of_lt HL.out)).mono ?_
  rintro e w3 ⟨rfl, hc3, hf3⟩
  have F3 := hide (F2.out.trans hf3)
  have O3 := hide (O2.out.fr hf3 C2.out.ch (by decide) (by decide))
  have L3 := hide (C2.out.low.trans ((hf3.below C2.out.ch).mono C2.out.new))
  have C3 : Hid (CH w3 cb cb (ptL n s L)) := hide hc3
  obtain ⟨er, her⟩ : ∃ er, er = ptE n L := ⟨_, rfl⟩
  have HER : Hid (0 ≤ er ∧ er ≤ 24) := hide (by rw [her]; unfold ptE; split <;> omega)
  have eer : errV (if lastN L < n then 0 else 1) = errV er := by rw [her]; rfl
  rw [eer, ← her]
  obtain ⟨ev, hev⟩ : ∃ ev, ev = errV er := ⟨_, rfl⟩
  have HEV := hide hev
  rw [← hev]
  clear hc3 hf3 e2 e3 eer her hev
  go_wp2_with fail
  rw [HEV.out]
  refine (plain_errV er er w3 HER.out.1 HER.out.2 (HE.out.below L3.out)).mono ?_
  rintro e w4 ⟨rfl, hb4⟩
  have F4 := hide (F3.out.later HCB.out hb4)
  have CR4 : Hid (CR w0 cb (k + 1) (ptL n s L) (.slice a2 (ptL n s L).length c2) w4) := hide ⟨C3.out.later hb4, by have := O3.out.later hb4; rw [HLN2.out] at this; exact this, ptL_LK C2.out.lk n s HN.out, L3.out.trans (hb4.mono L3.out.size), C2.out.new⟩
  have de : (er == er) = true := by simp
  rw [de]
  clear hb4
  go_wp2_with fail
  go_ret2
  exact ⟨a2, c2, by rw [← HLN2.out]; rfl, CR4.out, F4.out⟩
set_option maxRecDepth 100000 in
set_option maxHeartbeats 2000000 in
theorem step_at (on kd n : Int) (s : List UInt8) (cb k : Nat) (L : List Ver) (a : Option Addr) (cap : Nat) (w0 w : World) (h : CR w0 cb k L (.slice a L.length cap) w) (hl : k < 5864062014804) (hn : n ≤ 9223372036854775807) (_HE : Hid (ErrType w0)) :
    Calls Tryd.prog 8 #[.pointer (some ⟨cb, 0, none⟩), .slice a L.length cap, .agg #[.int .i64 on, .int .i64 kd, .int .i64 n, .string ⟨s.toArray⟩], .int .i64 1] w (StepTo w0 cb (k + 1) (L) w) := by
  obtain ⟨W1, hW1⟩ : ∃ W1, w.alloc (.cells #[.int .i64 on, .int .i64 kd, .int .i64 n, .string ⟨s.toArray⟩] 29) = W1 := ⟨_, rfl⟩
  have hb1 : Below w.heap.size w W1 := by rw [← hW1]; exact (Below.refl _ _).alloc (Nat.le_refl _) _
  have hk1 : W1.heap[w.heap.size]? = some (.cells #[.int .i64 on, .int .i64 kd, .int .i64 n, .string ⟨s.toArray⟩] 29 (0, 0)) := by rw [← hW1]; exact alloc_newV w _
  have d2 : W1.cell? ⟨w.heap.size, 2, none⟩ = some (.int .i64 n) := by rw [cell_of_row _ _ 2 _ _ _ hk1]; rfl
  have d3 : W1.cell? ⟨w.heap.size, 3, none⟩ = some (.string ⟨s.toArray⟩) := by rw [cell_of_row _ _ 3 _ _ _ hk1]; rfl
  have D2 := hide d2
  have D3 := hide d3
  have HCB := hide h.ch.lt
  have C1 := hide (h.later hb1)
  have F1 : Hid (Fr w W1 cb) := hide ((Fr.refl w cb).later h.ch.lt hb1)
  have HL := hide hl
  have HN := hide hn
  have HLL : Hid (L.length ≤ 5864062014804) := hide (by have := h.lk.len; omega)
  clear h hl hn hb1 hk1
  obtain ⟨ln, hln⟩ : ∃ ln, ln = L.length := ⟨_, rfl⟩
  rw [← hln] at C1 ⊢
  have HLN := hide hln
  clear hln
  go_enter Tryd.func8, Tryd.ntmps8
  go_wp2_with fail
  refine (refAt_any _ L n W1 C1.out.row.rv C1.out.lk.ris (by have := HLL.out; omega)).mono ?_
  rintro e w2 ⟨rfl, hb2⟩
  have C2 := hide (C1.out.later hb2)
  have F2 := hide (F1.out.later HCB.out hb2)
  have e2 : w2.cell? ⟨w.heap.size, 2, none⟩ = some (.int .i64 n) := (hb2.cell (World.block_lt_of_cell? _ _ D2.out)).trans D2.out
  obtain ⟨S, hS⟩ : ∃ S, S = atS n L := ⟨_, rfl⟩
  obtain ⟨T, hT⟩ : ∃ T, T = atB n L := ⟨_, rfl⟩
  have HS := hide hS
  have HT := hide hT
  rw [← hS, ← hT]
  clear hb2 d2 d3 hW1 hS hT
  go_wp2_with fail
  have hq := atq_any n cb cb L w2 C2.out.ch C2.out.lk.ris (by have := HLL.out; omega)
  rw [← HS.out, ← HT.out] at hq
  refine hq.mono ?_
  rintro e w3 ⟨rfl, hb3⟩
  have F4 := hide (F2.out.later HCB.out hb3)
  have C3 := hide (C2.out.later hb3)
  have CR4 : Hid (CR w0 cb (k + 1) L (.slice a L.length cap) w3) := hide ⟨C3.out.ch, by have := C3.out.row; rw [HLN.out] at this; exact this, C3.out.lk.up, C3.out.low, C3.out.new⟩
  clear hq e2
  clear hb3
  go_wp2_with fail
  go_ret2
  exact ⟨a, cap, by rw [← HLN.out]; rfl, CR4.out, F4.out⟩
set_option maxRecDepth 100000 in
set_option maxHeartbeats 2000000 in
theorem step_last (on kd n : Int) (s : List UInt8) (cb k : Nat) (L : List Ver) (a : Option Addr) (cap : Nat) (w0 w : World) (h : CR w0 cb k L (.slice a L.length cap) w) (hl : k < 5864062014804) (hn : n ≤ 9223372036854775807) (_HE : Hid (ErrType w0)) :
    Calls Tryd.prog 8 #[.pointer (some ⟨cb, 0, none⟩), .slice a L.length cap, .agg #[.int .i64 on, .int .i64 kd, .int .i64 n, .string ⟨s.toArray⟩], .int .i64 2] w (StepTo w0 cb (k + 1) (L) w) := by
  obtain ⟨W1, hW1⟩ : ∃ W1, w.alloc (.cells #[.int .i64 on, .int .i64 kd, .int .i64 n, .string ⟨s.toArray⟩] 29) = W1 := ⟨_, rfl⟩
  have hb1 : Below w.heap.size w W1 := by rw [← hW1]; exact (Below.refl _ _).alloc (Nat.le_refl _) _
  have hk1 : W1.heap[w.heap.size]? = some (.cells #[.int .i64 on, .int .i64 kd, .int .i64 n, .string ⟨s.toArray⟩] 29 (0, 0)) := by rw [← hW1]; exact alloc_newV w _
  have d2 : W1.cell? ⟨w.heap.size, 2, none⟩ = some (.int .i64 n) := by rw [cell_of_row _ _ 2 _ _ _ hk1]; rfl
  have d3 : W1.cell? ⟨w.heap.size, 3, none⟩ = some (.string ⟨s.toArray⟩) := by rw [cell_of_row _ _ 3 _ _ _ hk1]; rfl
  have D2 := hide d2
  have D3 := hide d3
  have HCB := hide h.ch.lt
  have C1 := hide (h.later hb1)
  have F1 : Hid (Fr w W1 cb) := hide ((Fr.refl w cb).later h.ch.lt hb1)
  have HL := hide hl
  have HN := hide hn
  have HLL : Hid (L.length ≤ 5864062014804) := hide (by have := h.lk.len; omega)
  clear h hl hn hb1 hk1
  obtain ⟨ln, hln⟩ : ∃ ln, ln = L.length := ⟨_, rfl⟩
  rw [← hln] at C1 ⊢
  have HLN := hide hln
  clear hln
  go_enter Tryd.func8, Tryd.ntmps8
  go_wp2_with fail
  refine (refLast_any _ L W1 C1.out.row.rv C1.out.lk.ris C1.out.lk.max (by have := HLL.out; omega)).mono ?_
  rintro e w2 ⟨rfl, hb2⟩
  have C2 := hide (C1.out.later hb2)
  have F2 := hide (F1.out.later HCB.out hb2)
  have e2 : w2.cell? ⟨w.heap.size, 2, none⟩ = some (.int .i64 n) := (hb2.cell (World.block_lt_of_cell? _ _ D2.out)).trans D2.out
  obtain ⟨⟨N, S⟩, hS⟩ : ∃ S, S = laP L := ⟨_, rfl⟩
  obtain ⟨T, hT⟩ : ∃ T, T = laB L := ⟨_, rfl⟩
  have HS := hide hS
  have HT := hide hT
  rw [← hS, ← hT]
  dsimp only
  clear hb2 d2 d3 hW1 hS hT
  go_wp2_with fail
  have hq := lastq_any cb cb L w2 C2.out.ch C2.out.lk.ris C2.out.lk.max (by have := HLL.out; omega)
  rw [← HS.out, ← HT.out] at hq
  dsimp only at hq
  refine hq.mono ?_
  rintro e w3 ⟨rfl, hb3⟩
  have F4 := hide (F2.out.later HCB.out hb3)
  have C3 := hide (C2.out.later hb3)
  have CR4 : Hid (CR w0 cb (k + 1) L (.slice a L.length cap) w3) := hide ⟨C3.out.ch, by have := C3.out.row; rw [HLN.out] at this; exact this, C3.out.lk.up, C3.out.low, C3.out.new⟩
  clear hq e2
  clear hb3
  go_wp2_with fail
  go_ret2
  exact ⟨a, cap, by rw [← HLN.out]; rfl, CR4.out, F4.out⟩
set_option maxRecDepth 100000 in
set_option maxHeartbeats 2000000 in
theorem step_prune (on kd n : Int) (s : List UInt8) (cb k : Nat) (L : List Ver) (a : Option Addr) (cap : Nat) (w0 w : World) (h : CR w0 cb k L (.slice a L.length cap) w) (hl : k < 5864062014804) (hn : n ≤ 9223372036854775807) (_HE : Hid (ErrType w0)) :
    Calls Tryd.prog 8 #[.pointer (some ⟨cb, 0, none⟩), .slice a L.length cap, .agg #[.int .i64 on, .int .i64 kd, .int .i64 n, .string ⟨s.toArray⟩], .int .i64 3] w (StepTo w0 cb (k + 1) (L.drop (ab n L - 1)) w) := by
  obtain ⟨W1, hW1⟩ : ∃ W1, w.alloc (.cells #[.int .i64 on, .int .i64 kd, .int .i64 n, .string ⟨s.toArray⟩] 29) = W1 := ⟨_, rfl⟩
  have hb1 : Below w.heap.size w W1 := by rw [← hW1]; exact (Below.refl _ _).alloc (Nat.le_refl _) _
  have hk1 : W1.heap[w.heap.size]? = some (.cells #[.int .i64 on, .int .i64 kd, .int .i64 n, .string ⟨s.toArray⟩] 29 (0, 0)) := by rw [← hW1]; exact alloc_newV w _
  have d2 : W1.cell? ⟨w.heap.size, 2, none⟩ = some (.int .i64 n) := by rw [cell_of_row _ _ 2 _ _ _ hk1]; rfl
  have d3 : W1.cell? ⟨w.heap.size, 3, none⟩ = some (.string ⟨s.toArray⟩) := by rw [cell_of_row _ _ 3 _ _ _ hk1]; rfl
  have D2 := hide d2
  have D3 := hide d3
  have HCB := hide h.ch.lt
  have C1 := hide (h.later hb1)
  have F1 : Hid (Fr w W1 cb) := hide ((Fr.refl w cb).later h.ch.lt hb1)
  have HL := hide hl
  have HN := hide hn
  have HLL : Hid (L.length ≤ 5864062014804) := hide (by have := h.lk.len; omega)
  clear h hl hn hb1 hk1
  obtain ⟨ln, hln⟩ : ∃ ln, ln = L.length := ⟨_, rfl⟩
  rw [← hln] at C1 ⊢
  have HLN := hide hln
  clear hln
  go_enter Tryd.func8, Tryd.ntmps8
  go_wp2_with fail
  refine (refPrune_any _ L n w0.heap.size k W1 C1.out.row C1.out.lk (Nat.le_of_lt HL.out) C1.out.low.size).mono ?_
  rintro e w2 ⟨v2, rfl, ho2, hb2, _⟩
  obtain ⟨a2, c2, rfl⟩ := ho2.slc
  have C2 := hide (C1.out.later hb2)
  have O2 := hide ho2
  have F2 := hide (F1.out.later HCB.out hb2)
  have e2 : w2.cell? ⟨w.heap.size, 2, none⟩ = some (.int .i64 n) := (hb2.cell (World.block_lt_of_cell? _ _ D2.out)).trans D2.out
  have e3 : w2.cell? ⟨w.heap.size, 3, none⟩ = some (.string ⟨s.toArray⟩) := (hb2.cell (World.block_lt_of_cell? _ _ D3.out)).trans D3.out
  obtain ⟨K, hK⟩ : ∃ K, K = L.drop (ab n L - 1) := ⟨_, rfl⟩
  obtain ⟨m, hm⟩ : ∃ m, m = ab n L - 1 := ⟨_, rfl⟩
  have HM := hide hm
  have HKK := hide hK
  rw [← hK] at O2 ⊢
  rw [← hm]
  obtain ⟨ln2, hln2⟩ : ∃ ln2, ln2 = K.length := ⟨_, rfl⟩
  rw [← hln2] at O2 ⊢
  have HLN2 := hide hln2
  clear hb2 ho2 d2 d3 hW1 hln2 hm hK
  go_wp2_with fail
  have hq := prune_any n cb cb k L w2 C2.out.ch C2.out.lk (Nat.le_of_lt HL.out)
  rw [← HKK.out, ← HM.out] at hq
  refine hq.mono ?_
  rintro e w3 ⟨rfl, hc3, hf3⟩
  have F3 := hide (F2.out.trans hf3)
  have L3 := hide (C2.out.low.trans ((hf3.below C2.out.ch).mono C2.out.new))
  have CR4 : Hid (CR w0 cb (k + 1) K (.slice a2 K.length c2) w3) := hide ⟨hc3, by have := O2.out.fr hf3 C2.out.ch (by decide) (by decide); rw [HLN2.out] at this; exact this, by rw [HKK.out]; exact (C2.out.lk.drop _).up, L3.out, C2.out.new⟩
  clear hc3 hf3 e2 e3 hq
  go_wp2_with fail
  go_ret2
  rw [← HKK.out]
  exact ⟨a2, c2, by rw [← HLN2.out]; rfl, CR4.out, F3.out⟩
set_option maxRecDepth 100000 in
set_option maxHeartbeats 2000000 in
theorem step_len (on kd n : Int) (s : List UInt8) (cb k : Nat) (L : List Ver) (a : Option Addr) (cap : Nat) (w0 w : World) (h : CR w0 cb k L (.slice a L.length cap) w) (hl : k < 5864062014804) (hn : n ≤ 9223372036854775807) (_HE : Hid (ErrType w0)) :
    Calls Tryd.prog 8 #[.pointer (some ⟨cb, 0, none⟩), .slice a L.length cap, .agg #[.int .i64 on, .int .i64 kd, .int .i64 n, .string ⟨s.toArray⟩], .int .i64 4] w (StepTo w0 cb (k + 1) (L) w) := by
  obtain ⟨W1, hW1⟩ : ∃ W1, w.alloc (.cells #[.int .i64 on, .int .i64 kd, .int .i64 n, .string ⟨s.toArray⟩] 29) = W1 := ⟨_, rfl⟩
  have hb1 : Below w.heap.size w W1 := by rw [← hW1]; exact (Below.refl _ _).alloc (Nat.le_refl _) _
  have hk1 : W1.heap[w.heap.size]? = some (.cells #[.int .i64 on, .int .i64 kd, .int .i64 n, .string ⟨s.toArray⟩] 29 (0, 0)) := by rw [← hW1]; exact alloc_newV w _
  have d2 : W1.cell? ⟨w.heap.size, 2, none⟩ = some (.int .i64 n) := by rw [cell_of_row _ _ 2 _ _ _ hk1]; rfl
  have d3 : W1.cell? ⟨w.heap.size, 3, none⟩ = some (.string ⟨s.toArray⟩) := by rw [cell_of_row _ _ 3 _ _ _ hk1]; rfl
  have D2 := hide d2
  have D3 := hide d3
  have HCB := hide h.ch.lt
  have C1 := hide (h.later hb1)
  have F1 : Hid (Fr w W1 cb) := hide ((Fr.refl w cb).later h.ch.lt hb1)
  have HL := hide hl
  have HN := hide hn
  have HLL : Hid (L.length ≤ 5864062014804) := hide (by have := h.lk.len; omega)
  clear h hl hn hb1 hk1
  obtain ⟨ln, hln⟩ : ∃ ln, ln = L.length := ⟨_, rfl⟩
  rw [← hln] at C1 ⊢
  have HLN := hide hln
  clear hln
  go_enter Tryd.func8, Tryd.ntmps8
  go_wp2_with fail
  refine (len_any cb cb L W1 C1.out.ch).mono ?_
  rintro e w3 ⟨rfl, hb3⟩
  have F4 := hide (F1.out.later HCB.out hb3)
  have C3 := hide (C1.out.later hb3)
  have CR4 : Hid (CR w0 cb (k + 1) L (.slice a L.length cap) w3) := hide ⟨C3.out.ch, by have := C3.out.row; rw [HLN.out] at this; exact this, C3.out.lk.up, C3.out.low, C3.out.new⟩
  rw [← HLN.out]
  clear d2 d3 hW1
  clear hb3
  go_wp2_with fail
  go_ret2
  exact ⟨a, cap, by rw [← HLN.out]; rfl, CR4.out, F4.out⟩
set_option maxRecDepth 100000 in
set_option maxHeartbeats 2000000 in
theorem step_all (on kd n : Int) (s : List UInt8) (cb k : Nat) (L : List Ver) (a : Option Addr) (cap : Nat) (w0 w : World) (h : CR w0 cb k L (.slice a L.length cap) w) (hl : k < 5864062014804) (hn : n ≤ 9223372036854775807) (_HE : Hid (ErrType w0)) :
    Calls Tryd.prog 8 #[.pointer (some ⟨cb, 0, none⟩), .slice a L.length cap, .agg #[.int .i64 on, .int .i64 kd, .int .i64 n, .string ⟨s.toArray⟩], .int .i64 5] w (StepTo w0 cb (k + 1) (L) w) := by
  obtain ⟨W1, hW1⟩ : ∃ W1, w.alloc (.cells #[.int .i64 on, .int .i64 kd, .int .i64 n, .string ⟨s.toArray⟩] 29) = W1 := ⟨_, rfl⟩
  have hb1 : Below w.heap.size w W1 := by rw [← hW1]; exact (Below.refl _ _).alloc (Nat.le_refl _) _
  have hk1 : W1.heap[w.heap.size]? = some (.cells #[.int .i64 on, .int .i64 kd, .int .i64 n, .string ⟨s.toArray⟩] 29 (0, 0)) := by rw [← hW1]; exact alloc_newV w _
  have d2 : W1.cell? ⟨w.heap.size, 2, none⟩ = some (.int .i64 n) := by rw [cell_of_row _ _ 2 _ _ _ hk1]; rfl
  have d3 : W1.cell? ⟨w.heap.size, 3, none⟩ = some (.string ⟨s.toArray⟩) := by rw [cell_of_row _ _ 3 _ _ _ hk1]; rfl
  have D2 := hide d2
  have D3 := hide d3
  have HCB := hide h.ch.lt
  have C1 := hide (h.later hb1)
  have F1 : Hid (Fr w W1 cb) := hide ((Fr.refl w cb).later h.ch.lt hb1)
  have HL := hide hl
  have HN := hide hn
  have HLL : Hid (L.length ≤ 5864062014804) := hide (by have := h.lk.len; omega)
  clear h hl hn hb1 hk1
  obtain ⟨ln, hln⟩ : ∃ ln, ln = L.length := ⟨_, rfl⟩
  rw [← hln] at C1 ⊢
  have HLN := hide hln
  clear hln
  go_enter Tryd.func8, Tryd.ntmps8
  go_wp2_with fail
  refine (allr_any cb cb L (ln : Int) W1 C1.out.ch C1.out.lk.ris C1.out.lk.pos HLL.out (by have := HLN.out; omega)).mono ?_
  rintro e w2 ⟨v2, rfl, ho2, hb2⟩
  have R2 := hide ho2.rv
  obtain ⟨a2, c2, rfl⟩ := ho2.slc
  have C2 := hide (C1.out.later hb2)
  have F2 := hide (F1.out.later HCB.out hb2)
  rw [← HLN.out] at R2 ⊢
  clear hb2 ho2 d2 d3 hW1
  go_wp2_with fail
  refine (same_any _ _ L w2 R2.out C2.out.row.rv (by have := HLL.out; omega)).mono ?_
  rintro e w3 ⟨rfl, hb3⟩
  have F4 := hide (F2.out.later HCB.out hb3)
  have C3 := hide (C2.out.later hb3)
  have CR4 : Hid (CR w0 cb (k + 1) L (.slice a L.length cap) w3) := hide ⟨C3.out.ch, by have := C3.out.row; rw [HLN.out] at this; exact this, C3.out.lk.up, C3.out.low, C3.out.new⟩
  clear hb3
  go_wp2_with fail
  go_ret2
  exact ⟨a, cap, by rw [← HLN.out]; rfl, CR4.out, F4.out⟩
theorem step_any (kind on kd n : Int) (h0 : 0 ≤ kind) (h6 : kind < 6) (s : List UInt8) (cb k : Nat) (L : List Ver) (a : Option Addr) (cap : Nat) (w0 w : World) (h : CR w0 cb k L (.slice a L.length cap) w) (hl : k < 5864062014804) (hn : n ≤ 9223372036854775807) (HE : Hid (ErrType w0)) :
    Calls Tryd.prog 8 #[.pointer (some ⟨cb, 0, none⟩), .slice a L.length cap, .agg #[.int .i64 on, .int .i64 kd, .int .i64 n, .string ⟨s.toArray⟩], .int .i64 kind] w (StepTo w0 cb (k + 1) (stL kind n s L) w) := by
  have hk : kind = 0 ∨ kind = 1 ∨ kind = 2 ∨ kind = 3 ∨ kind = 4 ∨ kind = 5 := by omega
  rcases hk with rfl | rfl | rfl | rfl | rfl | rfl
  · exact step_put on kd n s cb k L a cap w0 w h hl hn HE
  · exact step_at on kd n s cb k L a cap w0 w h hl hn HE
  · exact step_last on kd n s cb k L a cap w0 w h hl hn HE
  · exact step_prune on kd n s cb k L a cap w0 w h hl hn HE
  · exact step_len on kd n s cb k L a cap w0 w h hl hn HE
  · exact step_all on kd n s cb k L a cap w0 w h hl hn HE
end Go.Proofs.YtechjcmolccdjaaDoor
