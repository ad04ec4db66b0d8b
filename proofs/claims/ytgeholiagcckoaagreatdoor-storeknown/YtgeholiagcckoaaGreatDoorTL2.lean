/-
  My own text: layer 11: tell: the document's answers to calls that change the store (printed by mktl2.py).
-/
import Derived.Test.YtgeholiagcckoaaGreatDoorTL1
namespace Go.Proofs.YtgeholiagcckoaaGreatDoor
open Go.RowKit

/-- The rows behind a call that may have set one. -/
def RsT (R2 R : List Rw) (k : Ky) (L : List Ver) (b : Bool) : Prop := if b then ∃ v, R2 = rset R k L v else R2 = R
theorem set3_othT (W : World) (b : Nat) (y0 y1 y2 : Value) (y : Nat) (hy : y ≠ b) : (((W.setCell ⟨b, 0, none⟩ y0).setCell ⟨b, 1, none⟩ y1).setCell ⟨b, 2, none⟩ y2).heap[y]? = W.heap[y]? := by
  rw [Below.heap_setCell _ _ _ y hy, Below.heap_setCell _ _ _ y hy, Below.heap_setCell _ _ _ y hy]
/-- Behind a call the answer is laid into its box. -/
theorem RF.doneT {B : Nat} {w W2 w5 : World} {rb bx : Nat} {sh : Int} {R : List Rw} {D : List (Int × Bool)} {vr vd : Value} {kk : Nat} {H : Nat → Prop} (h5 : RF B w5 rb sh R D vr vd kk (hN W2 w5 H)) (hf : RFr W2 w5 H (hN W2 w5 H)) (ha : Below w.heap.size w W2) (h1 : w.heap.size ≤ bx) (h2 : bx < W2.heap.size) (hH : ∀ x, H x → B ≤ x ∧ x < w.heap.size) (hB : B ≤ w.heap.size) (y0 y1 y2 : Value) :
    RF B (((w5.setCell ⟨bx, 0, none⟩ y0).setCell ⟨bx, 1, none⟩ y1).setCell ⟨bx, 2, none⟩ y2) rb sh R D vr vd kk (hN w (((w5.setCell ⟨bx, 0, none⟩ y0).setCell ⟨bx, 1, none⟩ y1).setCell ⟨bx, 2, none⟩ y2) H) ∧ RFr w (((w5.setCell ⟨bx, 0, none⟩ y0).setCell ⟨bx, 1, none⟩ y1).setCell ⟨bx, 2, none⟩ y2) H (hN w (((w5.setCell ⟨bx, 0, none⟩ y0).setCell ⟨bx, 1, none⟩ y1).setCell ⟨bx, 2, none⟩ y2) H) := by
  have hs : (((w5.setCell ⟨bx, 0, none⟩ y0).setCell ⟨bx, 1, none⟩ y1).setCell ⟨bx, 2, none⟩ y2).heap.size = w5.heap.size := by simp [World.setCell]
  have hb : Below bx w5 (((w5.setCell ⟨bx, 0, none⟩ y0).setCell ⟨bx, 1, none⟩ y1).setCell ⟨bx, 2, none⟩ y2) := (((Below.refl bx w5).setCell (p := ⟨bx, 0, none⟩) (Nat.le_refl _) _).setCell (p := ⟨bx, 1, none⟩) (Nat.le_refl _) _).setCell (p := ⟨bx, 2, none⟩) (Nat.le_refl _) _
  have ho := set3_othT w5 bx y0 y1 y2
  have hz := hf.size
  have hw := ha.size
  generalize (((w5.setCell ⟨bx, 0, none⟩ y0).setCell ⟨bx, 1, none⟩ y1).setCell ⟨bx, 2, none⟩ y2) = w6 at *
  refine ⟨(h5.kept (fun x hx => ho x (fun e => ?_)) (by omega)).wide (fun x hx => ?_) (fun x hx => ?_), ⟨hb.os.trans (hf.os.trans ha.os), hb.tape.trans (hf.tape.trans ha.tape), hb.output.trans (hf.output.trans ha.output), by omega, fun x hx hn => ((ho x (by omega)).trans (hf.block x (by omega) hn)).trans (ha.block x hx), fun x hx => ?_, fun x hx => .inl hx⟩⟩
  · rcases hx with hx | hx
    · have := hH x hx; omega
    · omega
  · rcases hx with hx | hx
    · exact .inl hx
    · exact .inr ⟨by omega, by omega⟩
  · rcases hx with hx | hx
    · have := hH x hx; exact ⟨this.1, by omega⟩
    · exact ⟨by omega, hx.2⟩
  · rcases hx with hx | hx
    · exact .inl hx
    · exact .inr hx.1
set_option maxRecDepth 100000 in
set_option maxHeartbeats 1000000 in
theorem tell_put (on : Int) (k : Ky) (N : Int) (V : List UInt8) (B rb : Nat) (sh : Int) (R : List Rw) (D : List (Int × Bool)) (vr vd : Value) (kk : Nat) (H : Nat → Prop) (w : World) (h : RF B w rb sh R D vr vd kk H) (hl : kk < 3518437208882) (hn : N ≤ 9223372036854775807) :
    Calls Tryz.prog 47 #[.pointer (some ⟨rb, 0, none⟩), .agg #[.int .i64 on, .int .i64 0, .int .i64 k.1, .int .i64 k.2, .int .i64 N, .string ⟨V.toArray⟩]] w fun e w' => e = .returned (.agg #[.string ⟨#[]⟩, .int .i64 (ptE N (rgo R k)), .bool true]) ∧ (∃ R2 vr2, RF B w' rb sh R2 D vr2 vd (kk + 1) (hN w w' H) ∧ RFr w w' H (hN w w' H) ∧ RsT R2 R k (ptL N V (rgo R k)) (decide (lastN (rgo R k) < N))) := by
  obtain ⟨W1, hW1⟩ : ∃ W1, w.alloc (.cells #[.int .i64 on, .int .i64 0, .int .i64 k.1, .int .i64 k.2, .int .i64 N, .string ⟨V.toArray⟩] 47) = W1 := ⟨_, rfl⟩
  have hb1 : Below w.heap.size w W1 := by rw [← hW1]; exact (Below.refl _ _).alloc (Nat.le_refl _) _
  have hk1 : W1.heap[w.heap.size]? = some (.cells #[.int .i64 on, .int .i64 0, .int .i64 k.1, .int .i64 k.2, .int .i64 N, .string ⟨V.toArray⟩] 47 (0, 0)) := by rw [← hW1]; exact alloc_newV w _
  have z1 : w.heap.size < W1.heap.size := (Array.getElem?_eq_some_iff.1 hk1).1
  have hb2 : Below W1.heap.size W1 (W1.alloc (.cells #[.string ⟨#[]⟩, .int .i64 0, .bool false] 84)) := (Below.refl _ _).alloc (Nat.le_refl _) _
  have hr2 := alloc_newV W1 (.cells #[.string ⟨#[]⟩, .int .i64 0, .bool false] 84)
  have hk2 := (hb2.block _ z1).trans hk1
  have d1 : (W1.alloc (.cells #[.string ⟨#[]⟩, .int .i64 0, .bool false] 84)).cell? ⟨w.heap.size, 1, none⟩ = some (.int .i64 0) := by rw [cell_of_row _ _ 1 _ _ _ hk2]; rfl
  have d2 : (W1.alloc (.cells #[.string ⟨#[]⟩, .int .i64 0, .bool false] 84)).cell? ⟨w.heap.size, 2, none⟩ = some (.int .i64 k.1) := by rw [cell_of_row _ _ 2 _ _ _ hk2]; rfl
  have d3 : (W1.alloc (.cells #[.string ⟨#[]⟩, .int .i64 0, .bool false] 84)).cell? ⟨w.heap.size, 3, none⟩ = some (.int .i64 k.2) := by rw [cell_of_row _ _ 3 _ _ _ hk2]; rfl
  have d4 : (W1.alloc (.cells #[.string ⟨#[]⟩, .int .i64 0, .bool false] 84)).cell? ⟨w.heap.size, 4, none⟩ = some (.int .i64 N) := by rw [cell_of_row _ _ 4 _ _ _ hk2]; rfl
  have d5 : (W1.alloc (.cells #[.string ⟨#[]⟩, .int .i64 0, .bool false] 84)).cell? ⟨w.heap.size, 5, none⟩ = some (.string ⟨V.toArray⟩) := by rw [cell_of_row _ _ 5 _ _ _ hk2]; rfl
  have HB2 := hide (hb1.trans (hb2.mono (Nat.le_of_lt z1)))
  have HR2 := hide hr2
  have HP := hide (rSPut_any k N V B rb sh R D vr vd kk H _ (h.later HB2.out) hl hn)
  have HH : Hid (∀ x, H x → B ≤ x ∧ x < w.heap.size) := hide h.lt
  have HBw : Hid (B ≤ w.heap.size) := hide (by have := h.lt rb h.hb; omega)
  have HZ1 := hide (Nat.le_of_lt z1)
  have HZ2 := hide (Array.getElem?_eq_some_iff.1 hr2).1
  clear h hk1 hb1 hb2 hr2 hk2 z1
  generalize ptE N (rgo R k) = S at *
  go_enter Tryz.func47, Tryz.ntmps47
  go_wp2_with fail
  generalize W1.alloc (.cells #[.string ⟨#[]⟩, .int .i64 0, .bool false] 84) = W2 at *
  generalize W1.heap.size = bx at *
  refine HP.out.mono ?_
  rintro e w5 ⟨rfl, R2, vr2, hS3, hF3, hrel⟩
  have R5 := hide ((hF3.block bx HZ2.out (fun hx => by have := HH.out bx hx; have := HZ1.out; omega)).trans HR2.out)
  have S3 := hide (And.intro hS3 hF3)
  have HRL : Hid (RsT R2 R k (ptL N V (rgo R k)) (decide (lastN (rgo R k) < N))) := hide hrel
  clear HP hS3 hF3 hrel d1 d2 d3 d4 d5
  have g0 : w5.cell? ⟨bx, 0, none⟩ = some (.string ⟨#[]⟩) := by rw [cell_of_row _ _ 0 _ _ _ R5.out]; rfl
  have g1 : w5.cell? ⟨bx, 1, none⟩ = some (.int .i64 0) := by rw [cell_of_row _ _ 1 _ _ _ R5.out]; rfl
  have g2 : w5.cell? ⟨bx, 2, none⟩ = some (.bool false) := by rw [cell_of_row _ _ 2 _ _ _ R5.out]; rfl
  have gf : ∀ j, w5.frozen? ⟨bx, j, none⟩ = false := fun j => by unfold World.frozen?; simp [R5.out]
  have gf0 := gf 0
  have gf1 := gf 1
  have gf2 := gf 2
  clear gf
  go_wp2_with fail
  exact bodyPost_ret (results_cell_row rfl _ _ bx 84 _ (0, 0) _ rfl (set3_blkT R5.out _ _ _) Tryz.underlying84 rfl Tryz.sizeSaidT) rfl ⟨rfl, _, _, (RF.doneT S3.out.1 S3.out.2 HB2.out HZ1.out HZ2.out HH.out HBw.out _ _ _).1, (RF.doneT S3.out.1 S3.out.2 HB2.out HZ1.out HZ2.out HH.out HBw.out _ _ _).2, HRL.out⟩
set_option maxRecDepth 100000 in
set_option maxHeartbeats 1000000 in
theorem tell_open (on : Int) (k : Ky) (N : Int) (V : List UInt8) (B rb : Nat) (sh : Int) (R : List Rw) (D : List (Int × Bool)) (vr vd : Value) (kk : Nat) (H : Nat → Prop) (w : World) (h : RF B w rb sh R D vr vd kk H) (hl : kk < 5864062014804) :
    Calls Tryz.prog 47 #[.pointer (some ⟨rb, 0, none⟩), .agg #[.int .i64 on, .int .i64 4, .int .i64 k.1, .int .i64 k.2, .int .i64 N, .string ⟨V.toArray⟩]] w fun e w' => e = .returned (.agg #[.string ⟨#[]⟩, .int .i64 ((D.length : Int) + 1), .bool false]) ∧ (∃ vd2, RF B w' rb sh R (D ++ [(N, false)]) vr vd2 (kk + 1) (hN w w' H) ∧ RFr w w' H (hN w w' H)) := by
  obtain ⟨W1, hW1⟩ : ∃ W1, w.alloc (.cells #[.int .i64 on, .int .i64 4, .int .i64 k.1, .int .i64 k.2, .int .i64 N, .string ⟨V.toArray⟩] 47) = W1 := ⟨_, rfl⟩
  have hb1 : Below w.heap.size w W1 := by rw [← hW1]; exact (Below.refl _ _).alloc (Nat.le_refl _) _
  have hk1 : W1.heap[w.heap.size]? = some (.cells #[.int .i64 on, .int .i64 4, .int .i64 k.1, .int .i64 k.2, .int .i64 N, .string ⟨V.toArray⟩] 47 (0, 0)) := by rw [← hW1]; exact alloc_newV w _
  have z1 : w.heap.size < W1.heap.size := (Array.getElem?_eq_some_iff.1 hk1).1
  have hb2 : Below W1.heap.size W1 (W1.alloc (.cells #[.string ⟨#[]⟩, .int .i64 0, .bool false] 84)) := (Below.refl _ _).alloc (Nat.le_refl _) _
  have hr2 := alloc_newV W1 (.cells #[.string ⟨#[]⟩, .int .i64 0, .bool false] 84)
  have hk2 := (hb2.block _ z1).trans hk1
  have d1 : (W1.alloc (.cells #[.string ⟨#[]⟩, .int .i64 0, .bool false] 84)).cell? ⟨w.heap.size, 1, none⟩ = some (.int .i64 4) := by rw [cell_of_row _ _ 1 _ _ _ hk2]; rfl
  have d4 : (W1.alloc (.cells #[.string ⟨#[]⟩, .int .i64 0, .bool false] 84)).cell? ⟨w.heap.size, 4, none⟩ = some (.int .i64 N) := by rw [cell_of_row _ _ 4 _ _ _ hk2]; rfl
  have HB2 := hide (hb1.trans (hb2.mono (Nat.le_of_lt z1)))
  have HR2 := hide hr2
  have HP := hide (rOpen_any N B rb sh R D vr vd kk H _ (h.later HB2.out) hl)
  have HH : Hid (∀ x, H x → B ≤ x ∧ x < w.heap.size) := hide h.lt
  have HBw : Hid (B ≤ w.heap.size) := hide (by have := h.lt rb h.hb; omega)
  have HZ1 := hide (Nat.le_of_lt z1)
  have HZ2 := hide (Array.getElem?_eq_some_iff.1 hr2).1
  clear h hk1 hb1 hb2 hr2 hk2 z1
  generalize ((D.length : Int) + 1) = S at *
  go_enter Tryz.func47, Tryz.ntmps47
  go_wp2_with fail
  generalize W1.alloc (.cells #[.string ⟨#[]⟩, .int .i64 0, .bool false] 84) = W2 at *
  generalize W1.heap.size = bx at *
  refine HP.out.mono ?_
  rintro e w5 ⟨rfl, vd2, hS3, hF3⟩
  have R5 := hide ((hF3.block bx HZ2.out (fun hx => by have := HH.out bx hx; have := HZ1.out; omega)).trans HR2.out)
  have S3 := hide (And.intro hS3 hF3)
  clear HP hS3 hF3 d1 d4
  have g0 : w5.cell? ⟨bx, 0, none⟩ = some (.string ⟨#[]⟩) := by rw [cell_of_row _ _ 0 _ _ _ R5.out]; rfl
  have g1 : w5.cell? ⟨bx, 1, none⟩ = some (.int .i64 0) := by rw [cell_of_row _ _ 1 _ _ _ R5.out]; rfl
  have g2 : w5.cell? ⟨bx, 2, none⟩ = some (.bool false) := by rw [cell_of_row _ _ 2 _ _ _ R5.out]; rfl
  have gf : ∀ j, w5.frozen? ⟨bx, j, none⟩ = false := fun j => by unfold World.frozen?; simp [R5.out]
  have gf0 := gf 0
  have gf1 := gf 1
  have gf2 := gf 2
  clear gf
  go_wp2_with fail
  exact bodyPost_ret (results_cell_row rfl _ _ bx 84 _ (0, 0) _ rfl (set3_blkT R5.out _ _ _) Tryz.underlying84 rfl Tryz.sizeSaidT) rfl ⟨rfl, _, (RF.doneT S3.out.1 S3.out.2 HB2.out HZ1.out HZ2.out HH.out HBw.out _ _ _).1, (RF.doneT S3.out.1 S3.out.2 HB2.out HZ1.out HZ2.out HH.out HBw.out _ _ _).2⟩
set_option maxRecDepth 100000 in
set_option maxHeartbeats 1000000 in
theorem tell_closeNo (on : Int) (k : Ky) (N : Int) (V : List UInt8) (B rb : Nat) (sh : Int) (R : List Rw) (D : List (Int × Bool)) (vr vd : Value) (kk : Nat) (H : Nat → Prop) (w : World) (h : RF B w rb sh R D vr vd kk H) (hl : kk < 5864062014804) (hc : clB D N = false) (hn0 : -9223372036854775808 ≤ N) :
    Calls Tryz.prog 47 #[.pointer (some ⟨rb, 0, none⟩), .agg #[.int .i64 on, .int .i64 5, .int .i64 k.1, .int .i64 k.2, .int .i64 N, .string ⟨V.toArray⟩]] w fun e w' => e = .returned (.agg #[.string ⟨#[]⟩, .int .i64 0, .bool false]) ∧ Below w.heap.size w w' := by
  obtain ⟨W1, hW1⟩ : ∃ W1, w.alloc (.cells #[.int .i64 on, .int .i64 5, .int .i64 k.1, .int .i64 k.2, .int .i64 N, .string ⟨V.toArray⟩] 47) = W1 := ⟨_, rfl⟩
  have hb1 : Below w.heap.size w W1 := by rw [← hW1]; exact (Below.refl _ _).alloc (Nat.le_refl _) _
  have hk1 : W1.heap[w.heap.size]? = some (.cells #[.int .i64 on, .int .i64 5, .int .i64 k.1, .int .i64 k.2, .int .i64 N, .string ⟨V.toArray⟩] 47 (0, 0)) := by rw [← hW1]; exact alloc_newV w _
  have z1 : w.heap.size < W1.heap.size := (Array.getElem?_eq_some_iff.1 hk1).1
  have hb2 : Below W1.heap.size W1 (W1.alloc (.cells #[.string ⟨#[]⟩, .int .i64 0, .bool false] 84)) := (Below.refl _ _).alloc (Nat.le_refl _) _
  have hr2 := alloc_newV W1 (.cells #[.string ⟨#[]⟩, .int .i64 0, .bool false] 84)
  have hk2 := (hb2.block _ z1).trans hk1
  have d1 : (W1.alloc (.cells #[.string ⟨#[]⟩, .int .i64 0, .bool false] 84)).cell? ⟨w.heap.size, 1, none⟩ = some (.int .i64 5) := by rw [cell_of_row _ _ 1 _ _ _ hk2]; rfl
  have d4 : (W1.alloc (.cells #[.string ⟨#[]⟩, .int .i64 0, .bool false] 84)).cell? ⟨w.heap.size, 4, none⟩ = some (.int .i64 N) := by rw [cell_of_row _ _ 4 _ _ _ hk2]; rfl
  have HB2 := hide (hb1.trans (hb2.mono (Nat.le_of_lt z1)))
  have HR2 := hide hr2
  have HP := hide (rCloseNo_any N B rb sh R D vr vd kk H _ (h.later HB2.out) hl hc hn0)
  have HH : Hid (∀ x, H x → B ≤ x ∧ x < w.heap.size) := hide h.lt
  have HBw : Hid (B ≤ w.heap.size) := hide (by have := h.lt rb h.hb; omega)
  have HZ1 := hide (Nat.le_of_lt z1)
  have HZ2 := hide (Array.getElem?_eq_some_iff.1 hr2).1
  clear h hk1 hb1 hb2 hr2 hk2 z1
  go_enter Tryz.func47, Tryz.ntmps47
  go_wp2_with fail
  generalize W1.alloc (.cells #[.string ⟨#[]⟩, .int .i64 0, .bool false] 84) = W2 at *
  generalize W1.heap.size = bx at *
  refine HP.out.mono ?_
  rintro e w5 ⟨rfl, hb3⟩
  have R5 := hide ((hb3.block bx HZ2.out).trans HR2.out)
  have HB5 := hide (HB2.out.trans (hb3.mono HB2.out.size))
  clear HP hb3 d1 d4
  have g0 : w5.cell? ⟨bx, 0, none⟩ = some (.string ⟨#[]⟩) := by rw [cell_of_row _ _ 0 _ _ _ R5.out]; rfl
  have g1 : w5.cell? ⟨bx, 1, none⟩ = some (.int .i64 0) := by rw [cell_of_row _ _ 1 _ _ _ R5.out]; rfl
  have g2 : w5.cell? ⟨bx, 2, none⟩ = some (.bool false) := by rw [cell_of_row _ _ 2 _ _ _ R5.out]; rfl
  have gf : ∀ j, w5.frozen? ⟨bx, j, none⟩ = false := fun j => by unfold World.frozen?; simp [R5.out]
  have gf0 := gf 0
  have gf1 := gf 1
  have gf2 := gf 2
  clear gf
  go_wp2_with fail
  exact bodyPost_ret (results_cell_row rfl _ _ bx 84 _ (0, 0) _ rfl (set3_blkT R5.out _ _ _) Tryz.underlying84 rfl Tryz.sizeSaidT) rfl ⟨rfl, below3T HB5.out HZ1.out _ _ _⟩
set_option maxRecDepth 100000 in
set_option maxHeartbeats 1000000 in
theorem tell_closeYes (on : Int) (k : Ky) (N : Int) (V : List UInt8) (B rb : Nat) (sh : Int) (R : List Rw) (D : List (Int × Bool)) (vr vd : Value) (kk : Nat) (H : Nat → Prop) (w : World) (h : RF B w rb sh R D vr vd kk H) (hl : kk < 5864062014804) (hc : clB D N = true) :
    Calls Tryz.prog 47 #[.pointer (some ⟨rb, 0, none⟩), .agg #[.int .i64 on, .int .i64 5, .int .i64 k.1, .int .i64 k.2, .int .i64 N, .string ⟨V.toArray⟩]] w fun e w' => e = .returned (.agg #[.string ⟨#[]⟩, .int .i64 0, .bool true]) ∧ (RF B w' rb sh R (clD D N) vr vd (kk + 1) (hN w w' H) ∧ RFr w w' H (hN w w' H)) := by
  obtain ⟨W1, hW1⟩ : ∃ W1, w.alloc (.cells #[.int .i64 on, .int .i64 5, .int .i64 k.1, .int .i64 k.2, .int .i64 N, .string ⟨V.toArray⟩] 47) = W1 := ⟨_, rfl⟩
  have hb1 : Below w.heap.size w W1 := by rw [← hW1]; exact (Below.refl _ _).alloc (Nat.le_refl _) _
  have hk1 : W1.heap[w.heap.size]? = some (.cells #[.int .i64 on, .int .i64 5, .int .i64 k.1, .int .i64 k.2, .int .i64 N, .string ⟨V.toArray⟩] 47 (0, 0)) := by rw [← hW1]; exact alloc_newV w _
  have z1 : w.heap.size < W1.heap.size := (Array.getElem?_eq_some_iff.1 hk1).1
  have hb2 : Below W1.heap.size W1 (W1.alloc (.cells #[.string ⟨#[]⟩, .int .i64 0, .bool false] 84)) := (Below.refl _ _).alloc (Nat.le_refl _) _
  have hr2 := alloc_newV W1 (.cells #[.string ⟨#[]⟩, .int .i64 0, .bool false] 84)
  have hk2 := (hb2.block _ z1).trans hk1
  have d1 : (W1.alloc (.cells #[.string ⟨#[]⟩, .int .i64 0, .bool false] 84)).cell? ⟨w.heap.size, 1, none⟩ = some (.int .i64 5) := by rw [cell_of_row _ _ 1 _ _ _ hk2]; rfl
  have d4 : (W1.alloc (.cells #[.string ⟨#[]⟩, .int .i64 0, .bool false] 84)).cell? ⟨w.heap.size, 4, none⟩ = some (.int .i64 N) := by rw [cell_of_row _ _ 4 _ _ _ hk2]; rfl
  have HB2 := hide (hb1.trans (hb2.mono (Nat.le_of_lt z1)))
  have HR2 := hide hr2
  have HP := hide (rCloseYes_any N B rb sh R D vr vd kk H _ (h.later HB2.out) hl hc)
  have HH : Hid (∀ x, H x → B ≤ x ∧ x < w.heap.size) := hide h.lt
  have HBw : Hid (B ≤ w.heap.size) := hide (by have := h.lt rb h.hb; omega)
  have HZ1 := hide (Nat.le_of_lt z1)
  have HZ2 := hide (Array.getElem?_eq_some_iff.1 hr2).1
  clear h hk1 hb1 hb2 hr2 hk2 z1
  go_enter Tryz.func47, Tryz.ntmps47
  go_wp2_with fail
  generalize W1.alloc (.cells #[.string ⟨#[]⟩, .int .i64 0, .bool false] 84) = W2 at *
  generalize W1.heap.size = bx at *
  refine HP.out.mono ?_
  rintro e w5 ⟨rfl, hS3, hF3⟩
  have R5 := hide ((hF3.block bx HZ2.out (fun hx => by have := HH.out bx hx; have := HZ1.out; omega)).trans HR2.out)
  have S3 := hide (And.intro hS3 hF3)
  clear HP hS3 hF3 d1 d4
  have g0 : w5.cell? ⟨bx, 0, none⟩ = some (.string ⟨#[]⟩) := by rw [cell_of_row _ _ 0 _ _ _ R5.out]; rfl
  have g1 : w5.cell? ⟨bx, 1, none⟩ = some (.int .i64 0) := by rw [cell_of_row _ _ 1 _ _ _ R5.out]; rfl
  have g2 : w5.cell? ⟨bx, 2, none⟩ = some (.bool false) := by rw [cell_of_row _ _ 2 _ _ _ R5.out]; rfl
  have gf : ∀ j, w5.frozen? ⟨bx, j, none⟩ = false := fun j => by unfold World.frozen?; simp [R5.out]
  have gf0 := gf 0
  have gf1 := gf 1
  have gf2 := gf 2
  clear gf
  go_wp2_with fail
  exact bodyPost_ret (results_cell_row rfl _ _ bx 84 _ (0, 0) _ rfl (set3_blkT R5.out _ _ _) Tryz.underlying84 rfl Tryz.sizeSaidT) rfl ⟨rfl, RF.doneT S3.out.1 S3.out.2 HB2.out HZ1.out HZ2.out HH.out HBw.out _ _ _⟩
set_option maxRecDepth 100000 in
set_option maxHeartbeats 1000000 in
theorem tell_prune (on : Int) (k : Ky) (N : Int) (V : List UInt8) (B rb : Nat) (sh : Int) (R : List Rw) (D : List (Int × Bool)) (vr vd : Value) (kk : Nat) (H : Nat → Prop) (w : World) (h : RF B w rb sh R D vr vd kk H) (hl : kk < 3518437208882) :
    Calls Tryz.prog 47 #[.pointer (some ⟨rb, 0, none⟩), .agg #[.int .i64 on, .int .i64 7, .int .i64 k.1, .int .i64 k.2, .int .i64 N, .string ⟨V.toArray⟩]] w fun e w' => e = .returned (.agg #[.string ⟨#[]⟩, .int .i64 ((ab (oldD N D) (rgo R k) - 1 : Nat) : Int), .bool false]) ∧ (∃ R2 vr2, RF B w' rb sh R2 D vr2 vd (kk + 1) (hN w w' H) ∧ RFr w w' H (hN w w' H) ∧ RsT R2 R k ((rgo R k).drop (ab (oldD N D) (rgo R k) - 1)) (decide (0 < ab (oldD N D) (rgo R k) - 1))) := by
  obtain ⟨W1, hW1⟩ : ∃ W1, w.alloc (.cells #[.int .i64 on, .int .i64 7, .int .i64 k.1, .int .i64 k.2, .int .i64 N, .string ⟨V.toArray⟩] 47) = W1 := ⟨_, rfl⟩
  have hb1 : Below w.heap.size w W1 := by rw [← hW1]; exact (Below.refl _ _).alloc (Nat.le_refl _) _
  have hk1 : W1.heap[w.heap.size]? = some (.cells #[.int .i64 on, .int .i64 7, .int .i64 k.1, .int .i64 k.2, .int .i64 N, .string ⟨V.toArray⟩] 47 (0, 0)) := by rw [← hW1]; exact alloc_newV w _
  have z1 : w.heap.size < W1.heap.size := (Array.getElem?_eq_some_iff.1 hk1).1
  have hb2 : Below W1.heap.size W1 (W1.alloc (.cells #[.string ⟨#[]⟩, .int .i64 0, .bool false] 84)) := (Below.refl _ _).alloc (Nat.le_refl _) _
  have hr2 := alloc_newV W1 (.cells #[.string ⟨#[]⟩, .int .i64 0, .bool false] 84)
  have hk2 := (hb2.block _ z1).trans hk1
  have d1 : (W1.alloc (.cells #[.string ⟨#[]⟩, .int .i64 0, .bool false] 84)).cell? ⟨w.heap.size, 1, none⟩ = some (.int .i64 7) := by rw [cell_of_row _ _ 1 _ _ _ hk2]; rfl
  have d2 : (W1.alloc (.cells #[.string ⟨#[]⟩, .int .i64 0, .bool false] 84)).cell? ⟨w.heap.size, 2, none⟩ = some (.int .i64 k.1) := by rw [cell_of_row _ _ 2 _ _ _ hk2]; rfl
  have d3 : (W1.alloc (.cells #[.string ⟨#[]⟩, .int .i64 0, .bool false] 84)).cell? ⟨w.heap.size, 3, none⟩ = some (.int .i64 k.2) := by rw [cell_of_row _ _ 3 _ _ _ hk2]; rfl
  have d4 : (W1.alloc (.cells #[.string ⟨#[]⟩, .int .i64 0, .bool false] 84)).cell? ⟨w.heap.size, 4, none⟩ = some (.int .i64 N) := by rw [cell_of_row _ _ 4 _ _ _ hk2]; rfl
  have HB2 := hide (hb1.trans (hb2.mono (Nat.le_of_lt z1)))
  have HR2 := hide hr2
  have HP := hide (rSPrune_any k N B rb sh R D vr vd kk H _ (h.later HB2.out) hl)
  have HH : Hid (∀ x, H x → B ≤ x ∧ x < w.heap.size) := hide h.lt
  have HBw : Hid (B ≤ w.heap.size) := hide (by have := h.lt rb h.hb; omega)
  have HZ1 := hide (Nat.le_of_lt z1)
  have HZ2 := hide (Array.getElem?_eq_some_iff.1 hr2).1
  clear h hk1 hb1 hb2 hr2 hk2 z1
  generalize ((ab (oldD N D) (rgo R k) - 1 : Nat) : Int) = S at *
  go_enter Tryz.func47, Tryz.ntmps47
  go_wp2_with fail
  generalize W1.alloc (.cells #[.string ⟨#[]⟩, .int .i64 0, .bool false] 84) = W2 at *
  generalize W1.heap.size = bx at *
  refine HP.out.mono ?_
  rintro e w5 ⟨rfl, R2, vr2, hS3, hF3, hrel⟩
  have R5 := hide ((hF3.block bx HZ2.out (fun hx => by have := HH.out bx hx; have := HZ1.out; omega)).trans HR2.out)
  have S3 := hide (And.intro hS3 hF3)
  have HRL : Hid (RsT R2 R k ((rgo R k).drop (ab (oldD N D) (rgo R k) - 1)) (decide (0 < ab (oldD N D) (rgo R k) - 1))) := hide hrel
  clear HP hS3 hF3 hrel d1 d2 d3 d4
  have g0 : w5.cell? ⟨bx, 0, none⟩ = some (.string ⟨#[]⟩) := by rw [cell_of_row _ _ 0 _ _ _ R5.out]; rfl
  have g1 : w5.cell? ⟨bx, 1, none⟩ = some (.int .i64 0) := by rw [cell_of_row _ _ 1 _ _ _ R5.out]; rfl
  have g2 : w5.cell? ⟨bx, 2, none⟩ = some (.bool false) := by rw [cell_of_row _ _ 2 _ _ _ R5.out]; rfl
  have gf : ∀ j, w5.frozen? ⟨bx, j, none⟩ = false := fun j => by unfold World.frozen?; simp [R5.out]
  have gf0 := gf 0
  have gf1 := gf 1
  have gf2 := gf 2
  clear gf
  go_wp2_with fail
  exact bodyPost_ret (results_cell_row rfl _ _ bx 84 _ (0, 0) _ rfl (set3_blkT R5.out _ _ _) Tryz.underlying84 rfl Tryz.sizeSaidT) rfl ⟨rfl, _, _, (RF.doneT S3.out.1 S3.out.2 HB2.out HZ1.out HZ2.out HH.out HBw.out _ _ _).1, (RF.doneT S3.out.1 S3.out.2 HB2.out HZ1.out HZ2.out HH.out HBw.out _ _ _).2, HRL.out⟩
end Go.Proofs.YtgeholiagcckoaaGreatDoor
