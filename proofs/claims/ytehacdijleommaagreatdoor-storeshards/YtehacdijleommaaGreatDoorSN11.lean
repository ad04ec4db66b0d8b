/-
  My own text: one call of a store.
-/
import Derived.Test.YtehacdijleommaaGreatDoorSN10
namespace Go.Proofs.YtehacdijleommaaGreatDoor
open Go.RowKit Go.Extern Go.MapKept Go.ChangeMaps

/-- A call. -/
structure Cl where
  on : Int
  kind : Int
  k : Ky
  N : Int
  V : List UInt8
def clc (d : Cl) : Array Value := #[.int .i64 d.on, .int .i64 d.kind, .int .i64 d.k.1, .int .i64 d.k.2, .int .i64 d.N, .string ⟨d.V.toArray⟩]
def Sx.ask (X : Sx) (d : Cl) : Sx := if d.kind = 0 then X.put d.k d.N d.V else if d.kind = 4 then X.opn d.N else if d.kind = 5 then X.cls d.N else if d.kind = 7 then X.pru d.k d.N else X
theorem SO.wide {B : Nat} {A W w' : World} {sb n : Nat} {X : Sx} {kk : Nat} {F : Nat → Prop} (h : SO B w' sb n X kk (gw F W w')) (hs : A.heap.size ≤ W.heap.size) (hB : B ≤ A.heap.size) : SO B w' sb n X kk (gw F A w') := by
  obtain ⟨m, g, rb, v, h⟩ := h
  exact ⟨m, g, rb, v, h.wide hs hB⟩
theorem SO.then {B : Nat} {A W w' w'' : World} {sb n : Nat} {X : Sx} {kk : Nat} {F : Nat → Prop} (h : SO B w' sb n X kk (gw F W w') ∧ FB W w' F (gw F W w')) (ha : Below A.heap.size A W) (hb : Below w'.heap.size w' w'') (hB : B ≤ A.heap.size) : SO B w'' sb n X kk (gw F A w'') ∧ FB A w'' F (gw F A w'') := by
  have h1 := (h.1.wide (A := A) ha.size hB)
  have h2 := h1.later hb
  have hs := h2.size
  have f1 := (h.2.front ha).trans (FB.of_below hb _)
  have hsz := h.2.size
  have hsb := hb.size
  refine ⟨?_, ⟨f1.os, f1.tape, f1.output, f1.size, f1.block, gw_grow⟩⟩
  obtain ⟨m, g, rb, v, h2⟩ := h2
  exact ⟨m, g, rb, v, h2.more (fun x hx => by
    rcases hx with h3 | h3
    · exact .inl h3
    · exact .inr ⟨h3.1, by omega⟩) (fun x hx => by
    rcases hx with h3 | h3
    · exact h2.fb x (.inl h3)
    · omega)⟩
theorem SO.done {B : Nat} {w W2 w3 w5 w6 : World} {sb n bx : Nat} {X : Sx} {kk : Nat} {F : Nat → Prop} (h : SO B w3 sb n X kk (gw F W2 w3) ∧ FB W2 w3 F (gw F W2 w3)) (ha : Below w.heap.size w W2) (hb : Below w3.heap.size w3 w5) (hc : Below bx w5 w6) (hs : w6.heap.size = w5.heap.size) (ho : ∀ y, y ≠ bx → w6.heap[y]? = w5.heap[y]?)
    (h1 : w.heap.size ≤ bx) (h2 : bx < W2.heap.size) (hF : ∀ x, F x → x < w.heap.size) (hB : B ≤ w.heap.size) : SO B w6 sb n X kk (gw F w w6) ∧ FB w w6 F (gw F w w6) := by
  have a1 := SO.then h (Below.refl W2.heap.size W2) hb (Nat.le_trans hB ha.size)
  have nb : ∀ x, gw F W2 w5 x → x ≠ bx := fun x hx => by
    rcases hx with h3 | h3
    · have := hF x h3; omega
    · omega
  have a2 := a1.1.kept (W' := w6) (fun x hx => ho x (nb x hx)) (by omega)
  obtain ⟨m, g, rb, v, a3⟩ := a2
  refine ⟨⟨m, g, rb, v, a3.more (fun x hx => ?_) (fun x hx => ?_)⟩, ?_⟩
  · rcases hx with h3 | h3
    · exact .inl h3
    · have := ha.size; exact .inr ⟨by omega, by omega⟩
  · rcases hx with h3 | h3
    · exact a3.fb x (.inl h3)
    · omega
  · have f1 := a1.2.front ha
    exact ⟨hc.os.trans f1.os, hc.tape.trans f1.tape, hc.output.trans f1.output, by have := f1.size; omega, fun x hx hf => (ho x (by omega)).trans (f1.block x hx hf), gw_grow⟩
theorem FB.box {W w' : World} {F F' : Nat → Prop} {n bx : Nat} (h : FB W w' F F') (hF : ∀ x, F x → x < n) (h1 : n ≤ bx) (h2 : bx < W.heap.size) : w'.heap[bx]? = W.heap[bx]? := h.block bx h2 (fun hf => by have := hF bx hf; omega)
theorem Tryz.sizeSaid : (Tryz.prog.info? 36).map (·.size) = some 3 := by kernel_rfl
theorem set3_blk {W : World} {b : Nat} {t : TypeId} {x0 x1 x2 : Value} (h : W.heap[b]? = some (.cells #[x0, x1, x2] t (0, 0))) (y0 y1 y2 : Value) : (((W.setCell ⟨b, 0, none⟩ y0).setCell ⟨b, 1, none⟩ y1).setCell ⟨b, 2, none⟩ y2).heap[b]? = some (.cells #[y0, y1, y2] t (0, 0)) := by
  have a0 : (W.setCell ⟨b, 0, none⟩ y0).heap[b]? = some (.cells #[y0, x1, x2] t (0, 0)) := by rw [setCell_eq_setRow W b 0 _ _ _ y0 h]; exact setRow_heap W b _ _ _ _ h
  have a1 : ((W.setCell ⟨b, 0, none⟩ y0).setCell ⟨b, 1, none⟩ y1).heap[b]? = some (.cells #[y0, y1, x2] t (0, 0)) := by rw [setCell_eq_setRow _ b 1 _ _ _ y1 a0]; exact setRow_heap _ b _ _ _ _ a0
  rw [setCell_eq_setRow _ b 2 _ _ _ y2 a1]; exact setRow_heap _ b _ _ _ _ a1
theorem set3_oth (W : World) (b : Nat) (y0 y1 y2 : Value) (y : Nat) (hy : y ≠ b) : (((W.setCell ⟨b, 0, none⟩ y0).setCell ⟨b, 1, none⟩ y1).setCell ⟨b, 2, none⟩ y2).heap[y]? = W.heap[y]? := by
  rw [Below.heap_setCell _ _ _ y hy, Below.heap_setCell _ _ _ y hy, Below.heap_setCell _ _ _ y hy]
theorem SO.done3 {B : Nat} {w W2 w3 w5 : World} {sb n bx : Nat} {X : Sx} {kk : Nat} {F : Nat → Prop} (h : SO B w3 sb n X kk (gw F W2 w3) ∧ FB W2 w3 F (gw F W2 w3)) (ha : Below w.heap.size w W2) (hb : Below w3.heap.size w3 w5) (h1 : w.heap.size ≤ bx) (h2 : bx < W2.heap.size) (hF : ∀ x, F x → x < w.heap.size) (hB : B ≤ w.heap.size) (y0 y1 y2 : Value) :
    SO B (((w5.setCell ⟨bx, 0, none⟩ y0).setCell ⟨bx, 1, none⟩ y1).setCell ⟨bx, 2, none⟩ y2) sb n X kk (gw F w (((w5.setCell ⟨bx, 0, none⟩ y0).setCell ⟨bx, 1, none⟩ y1).setCell ⟨bx, 2, none⟩ y2)) ∧ FB w (((w5.setCell ⟨bx, 0, none⟩ y0).setCell ⟨bx, 1, none⟩ y1).setCell ⟨bx, 2, none⟩ y2) F (gw F w (((w5.setCell ⟨bx, 0, none⟩ y0).setCell ⟨bx, 1, none⟩ y1).setCell ⟨bx, 2, none⟩ y2)) :=
  SO.done h ha hb ((((Below.refl bx w5).setCell (p := ⟨bx, 0, none⟩) (Nat.le_refl _) _).setCell (p := ⟨bx, 1, none⟩) (Nat.le_refl _) _).setCell (p := ⟨bx, 2, none⟩) (Nat.le_refl _) _) (by simp [World.setCell]) (set3_oth w5 bx y0 y1 y2) h1 h2 hF hB
theorem shardsO_any (B sb n kk : Nat) (X : Sx) (F : Nat → Prop) (w : World) (h : SO B w sb n X kk F) :
    Calls Tryz.prog 12 #[.pointer (some ⟨sb, 0, none⟩)] w fun e w' => e = .returned (.int .i64 (n : Int)) ∧ Below w.heap.size w w' := by
  obtain ⟨m, g, rb, v, h⟩ := h
  exact shardsS_any sb n m w h.sv.st
set_option maxRecDepth 100000 in
set_option maxHeartbeats 1000000 in
theorem ask_put (on : Int) (k : Ky) (N : Int) (V : List UInt8) (B sb n kk : Nat) (X : Sx) (F : Nat → Prop) (w : World) (HE : Hid (∀ w', Below B w w' → ErrType w')) (h : SO B w sb n X kk F) (hk : KOK k) (hN : N ≤ 9223372036854775807) (hl : kk ≤ 5864062014803) :
    Calls Tryz.prog 10 #[.pointer (some ⟨sb, 0, none⟩), .agg #[.int .i64 on, .int .i64 0, .int .i64 k.1, .int .i64 k.2, .int .i64 N, .string ⟨V.toArray⟩]] w fun e w' => e = .returned (.agg #[.string ⟨#[]⟩, .int .i64 (peR N (X.K k)), .bool true]) ∧ SO B w' sb n (X.put k N V) (kk + 1) (gw F w w') ∧ FB w w' F (gw F w w') := by
  have hB := h.size
  obtain ⟨W1, hW1⟩ : ∃ W1, w.alloc (.cells #[.int .i64 on, .int .i64 0, .int .i64 k.1, .int .i64 k.2, .int .i64 N, .string ⟨V.toArray⟩] 31) = W1 := ⟨_, rfl⟩
  have hb1 : Below w.heap.size w W1 := by rw [← hW1]; exact (Below.refl _ _).alloc (Nat.le_refl _) _
  have hk1 : W1.heap[w.heap.size]? = some (.cells #[.int .i64 on, .int .i64 0, .int .i64 k.1, .int .i64 k.2, .int .i64 N, .string ⟨V.toArray⟩] 31 (0, 0)) := by rw [← hW1]; exact alloc_newV w _
  have z1 : w.heap.size < W1.heap.size := (Array.getElem?_eq_some_iff.1 hk1).1
  have hb2 : Below W1.heap.size W1 (W1.alloc (.cells #[.string ⟨#[]⟩, .int .i64 0, .bool false] 36)) := (Below.refl _ _).alloc (Nat.le_refl _) _
  have hr2 := alloc_newV W1 (.cells #[.string ⟨#[]⟩, .int .i64 0, .bool false] 36)
  have hk2 := (hb2.block _ z1).trans hk1
  have d1 : (W1.alloc (.cells #[.string ⟨#[]⟩, .int .i64 0, .bool false] 36)).cell? ⟨w.heap.size, 1, none⟩ = some (.int .i64 0) := by rw [cell_of_row _ _ 1 _ _ _ hk2]; rfl
  have d2 : (W1.alloc (.cells #[.string ⟨#[]⟩, .int .i64 0, .bool false] 36)).cell? ⟨w.heap.size, 2, none⟩ = some (.int .i64 k.1) := by rw [cell_of_row _ _ 2 _ _ _ hk2]; rfl
  have d3 : (W1.alloc (.cells #[.string ⟨#[]⟩, .int .i64 0, .bool false] 36)).cell? ⟨w.heap.size, 3, none⟩ = some (.int .i64 k.2) := by rw [cell_of_row _ _ 3 _ _ _ hk2]; rfl
  have d4 : (W1.alloc (.cells #[.string ⟨#[]⟩, .int .i64 0, .bool false] 36)).cell? ⟨w.heap.size, 4, none⟩ = some (.int .i64 N) := by rw [cell_of_row _ _ 4 _ _ _ hk2]; rfl
  have d5 : (W1.alloc (.cells #[.string ⟨#[]⟩, .int .i64 0, .bool false] 36)).cell? ⟨w.heap.size, 5, none⟩ = some (.string ⟨V.toArray⟩) := by rw [cell_of_row _ _ 5 _ _ _ hk2]; rfl
  have HB2 := hide (hb1.trans (hb2.mono (Nat.le_of_lt z1)))
  have HR2 := hide hr2
  have HF := hide (fun x hx => (h.fb x hx).2)
  have HFB := hide (fun x hx => (h.fb x hx).1)
  have HP := hide (putO_any k N V B sb n kk X F _ (h.later HB2.out) hk hN hl)
  have HZ1 := hide (Nat.le_of_lt z1)
  have HZ2 := hide (Array.getElem?_eq_some_iff.1 hr2).1
  clear h hk1 hb1 hb2 hr2 hk2 z1
  have hpe : peR N (X.K k) = 0 ∨ peR N (X.K k) = 1 := by
    unfold peR; split
    · exact .inl rfl
    · exact .inr rfl
  go_enter Tryz.func10, Tryz.ntmps10
  go_wp2_with fail
  generalize W1.alloc (.cells #[.string ⟨#[]⟩, .int .i64 0, .bool false] 36) = W2 at *
  generalize W1.heap.size = bx at *
  refine HP.out.mono ?_
  rintro e w3 ⟨rfl, hS3, hF3⟩
  have S3 := hide (And.intro hS3 hF3)
  have R3 := hide ((hF3.box HF.out HZ1.out HZ2.out).trans HR2.out)
  have HE3 : Hid (ErrType w3) := hide (HE.out w3 ((hF3.front HB2.out).below HFB.out hB))
  clear hS3 hF3 HP d1 d2 d3 d4 d5
  generalize hpn : peR N (X.K k) = pn at *
  have HPN := hide hpn
  clear hpn
  have HL := hide (plain_errV pn pn w3 (by omega) (by omega) HE3.out)
  rw [beq_self_eq_true] at HL
  have HN3 : Hid (Calls Tryz.prog 24 #[errV pn] w3 fun e w' => e = .returned (.int .i64 pn) ∧ w' = w3) := hide (by
    rcases hpe with rfl | rfl
    · rw [errV_zero]; exact num_nil w3
    · rw [errV_pos (by omega)]; exact num_errno 1 w3 (by omega) (by omega))
  generalize errV pn = ev at *
  go_wp2_with fail
  refine HN3.out.mono ?_
  rintro e w4 ⟨rfl, rfl⟩
  go_wp2_with fail
  refine HL.out.mono ?_
  rintro e w5 ⟨rfl, hb5⟩
  have HB5 := hide hb5
  have R5 := hide ((hb5.block bx (Array.getElem?_eq_some_iff.1 R3.out).1).trans R3.out)
  clear hb5
  have g0 : w5.cell? ⟨bx, 0, none⟩ = some (.string ⟨#[]⟩) := by rw [cell_of_row _ _ 0 _ _ _ R5.out]; rfl
  have g1 : w5.cell? ⟨bx, 1, none⟩ = some (.int .i64 0) := by rw [cell_of_row _ _ 1 _ _ _ R5.out]; rfl
  have g2 : w5.cell? ⟨bx, 2, none⟩ = some (.bool false) := by rw [cell_of_row _ _ 2 _ _ _ R5.out]; rfl
  have gf : ∀ j, w5.frozen? ⟨bx, j, none⟩ = false := fun j => by unfold World.frozen?; simp [R5.out]
  have gf0 := gf 0
  have gf1 := gf 1
  have gf2 := gf 2
  clear gf
  go_wp2_with fail
  exact bodyPost_ret (results_cell_row rfl _ _ bx 36 _ (0, 0) _ rfl (set3_blk R5.out _ _ _) Tryz.underlying36 rfl Tryz.sizeSaid) rfl ⟨by rw [HPN.out], SO.done3 S3.out HB2.out HB5.out HZ1.out HZ2.out HF.out hB _ _ _⟩
set_option maxRecDepth 100000 in
set_option maxHeartbeats 1000000 in
theorem ask_at (on : Int) (k : Ky) (N : Int) (V : List UInt8) (B sb n kk : Nat) (X : Sx) (F : Nat → Prop) (w : World) (h : SO B w sb n X kk F) (hk : KOK k) (hl : kk ≤ 5864062014803) :
    Calls Tryz.prog 10 #[.pointer (some ⟨sb, 0, none⟩), .agg #[.int .i64 on, .int .i64 1, .int .i64 k.1, .int .i64 k.2, .int .i64 N, .string ⟨V.toArray⟩]] w fun e w' => e = .returned (.agg #[.string ⟨(atS N (X.K k)).toArray⟩, .int .i64 0, .bool (atB N (X.K k))]) ∧ SO B w' sb n (X) (kk + 1) (gw F w w') ∧ FB w w' F (gw F w w') := by
  have hB := h.size
  obtain ⟨W1, hW1⟩ : ∃ W1, w.alloc (.cells #[.int .i64 on, .int .i64 1, .int .i64 k.1, .int .i64 k.2, .int .i64 N, .string ⟨V.toArray⟩] 31) = W1 := ⟨_, rfl⟩
  have hb1 : Below w.heap.size w W1 := by rw [← hW1]; exact (Below.refl _ _).alloc (Nat.le_refl _) _
  have hk1 : W1.heap[w.heap.size]? = some (.cells #[.int .i64 on, .int .i64 1, .int .i64 k.1, .int .i64 k.2, .int .i64 N, .string ⟨V.toArray⟩] 31 (0, 0)) := by rw [← hW1]; exact alloc_newV w _
  have z1 : w.heap.size < W1.heap.size := (Array.getElem?_eq_some_iff.1 hk1).1
  have hb2 : Below W1.heap.size W1 (W1.alloc (.cells #[.string ⟨#[]⟩, .int .i64 0, .bool false] 36)) := (Below.refl _ _).alloc (Nat.le_refl _) _
  have hr2 := alloc_newV W1 (.cells #[.string ⟨#[]⟩, .int .i64 0, .bool false] 36)
  have hk2 := (hb2.block _ z1).trans hk1
  have d1 : (W1.alloc (.cells #[.string ⟨#[]⟩, .int .i64 0, .bool false] 36)).cell? ⟨w.heap.size, 1, none⟩ = some (.int .i64 1) := by rw [cell_of_row _ _ 1 _ _ _ hk2]; rfl
  have d2 : (W1.alloc (.cells #[.string ⟨#[]⟩, .int .i64 0, .bool false] 36)).cell? ⟨w.heap.size, 2, none⟩ = some (.int .i64 k.1) := by rw [cell_of_row _ _ 2 _ _ _ hk2]; rfl
  have d3 : (W1.alloc (.cells #[.string ⟨#[]⟩, .int .i64 0, .bool false] 36)).cell? ⟨w.heap.size, 3, none⟩ = some (.int .i64 k.2) := by rw [cell_of_row _ _ 3 _ _ _ hk2]; rfl
  have d4 : (W1.alloc (.cells #[.string ⟨#[]⟩, .int .i64 0, .bool false] 36)).cell? ⟨w.heap.size, 4, none⟩ = some (.int .i64 N) := by rw [cell_of_row _ _ 4 _ _ _ hk2]; rfl
  have HB2 := hide (hb1.trans (hb2.mono (Nat.le_of_lt z1)))
  have HR2 := hide hr2
  have HF := hide (fun x hx => (h.fb x hx).2)
  have HP := hide (atO_any k N B sb n kk X F _ (h.later HB2.out) hk hl)
  have HS := hide (h.later HB2.out)
  have HZ1 := hide (Nat.le_of_lt z1)
  have HZ2 := hide (Array.getElem?_eq_some_iff.1 hr2).1
  clear h hk1 hb1 hb2 hr2 hk2 z1
  generalize atS N (X.K k) = S at *
  generalize atB N (X.K k) = T at *
  go_enter Tryz.func10, Tryz.ntmps10
  go_wp2_with fail
  generalize W1.alloc (.cells #[.string ⟨#[]⟩, .int .i64 0, .bool false] 36) = W2 at *
  generalize W1.heap.size = bx at *
  refine HP.out.mono ?_
  rintro e w5 ⟨rfl, hb3⟩
  obtain ⟨hS3, hF3⟩ := HS.out.idle hb3
  have S3 := hide (And.intro hS3 hF3)
  have R5 := hide ((hF3.box HF.out HZ1.out HZ2.out).trans HR2.out)
  have HB5 := hide (Below.refl w5.heap.size w5)
  clear hS3 hF3 HP d1 d2 d3 d4 hb3 HS
  have g0 : w5.cell? ⟨bx, 0, none⟩ = some (.string ⟨#[]⟩) := by rw [cell_of_row _ _ 0 _ _ _ R5.out]; rfl
  have g1 : w5.cell? ⟨bx, 1, none⟩ = some (.int .i64 0) := by rw [cell_of_row _ _ 1 _ _ _ R5.out]; rfl
  have g2 : w5.cell? ⟨bx, 2, none⟩ = some (.bool false) := by rw [cell_of_row _ _ 2 _ _ _ R5.out]; rfl
  have gf : ∀ j, w5.frozen? ⟨bx, j, none⟩ = false := fun j => by unfold World.frozen?; simp [R5.out]
  have gf0 := gf 0
  have gf1 := gf 1
  have gf2 := gf 2
  clear gf
  go_wp2_with fail
  exact bodyPost_ret (results_cell_row rfl _ _ bx 36 _ (0, 0) _ rfl (set3_blk R5.out _ _ _) Tryz.underlying36 rfl Tryz.sizeSaid) rfl ⟨rfl, SO.done3 S3.out HB2.out HB5.out HZ1.out HZ2.out HF.out hB _ _ _⟩
set_option maxRecDepth 100000 in
set_option maxHeartbeats 1000000 in
theorem ask_last (on : Int) (k : Ky) (N : Int) (V : List UInt8) (B sb n kk : Nat) (X : Sx) (F : Nat → Prop) (w : World) (h : SO B w sb n X kk F) (hk : KOK k) (hl : kk ≤ 5864062014803) :
    Calls Tryz.prog 10 #[.pointer (some ⟨sb, 0, none⟩), .agg #[.int .i64 on, .int .i64 2, .int .i64 k.1, .int .i64 k.2, .int .i64 N, .string ⟨V.toArray⟩]] w fun e w' => e = .returned (.agg #[.string ⟨(laP (X.K k)).2.toArray⟩, .int .i64 (laP (X.K k)).1, .bool (laB (X.K k))]) ∧ SO B w' sb n (X) (kk + 1) (gw F w w') ∧ FB w w' F (gw F w w') := by
  have hB := h.size
  obtain ⟨W1, hW1⟩ : ∃ W1, w.alloc (.cells #[.int .i64 on, .int .i64 2, .int .i64 k.1, .int .i64 k.2, .int .i64 N, .string ⟨V.toArray⟩] 31) = W1 := ⟨_, rfl⟩
  have hb1 : Below w.heap.size w W1 := by rw [← hW1]; exact (Below.refl _ _).alloc (Nat.le_refl _) _
  have hk1 : W1.heap[w.heap.size]? = some (.cells #[.int .i64 on, .int .i64 2, .int .i64 k.1, .int .i64 k.2, .int .i64 N, .string ⟨V.toArray⟩] 31 (0, 0)) := by rw [← hW1]; exact alloc_newV w _
  have z1 : w.heap.size < W1.heap.size := (Array.getElem?_eq_some_iff.1 hk1).1
  have hb2 : Below W1.heap.size W1 (W1.alloc (.cells #[.string ⟨#[]⟩, .int .i64 0, .bool false] 36)) := (Below.refl _ _).alloc (Nat.le_refl _) _
  have hr2 := alloc_newV W1 (.cells #[.string ⟨#[]⟩, .int .i64 0, .bool false] 36)
  have hk2 := (hb2.block _ z1).trans hk1
  have d1 : (W1.alloc (.cells #[.string ⟨#[]⟩, .int .i64 0, .bool false] 36)).cell? ⟨w.heap.size, 1, none⟩ = some (.int .i64 2) := by rw [cell_of_row _ _ 1 _ _ _ hk2]; rfl
  have d2 : (W1.alloc (.cells #[.string ⟨#[]⟩, .int .i64 0, .bool false] 36)).cell? ⟨w.heap.size, 2, none⟩ = some (.int .i64 k.1) := by rw [cell_of_row _ _ 2 _ _ _ hk2]; rfl
  have d3 : (W1.alloc (.cells #[.string ⟨#[]⟩, .int .i64 0, .bool false] 36)).cell? ⟨w.heap.size, 3, none⟩ = some (.int .i64 k.2) := by rw [cell_of_row _ _ 3 _ _ _ hk2]; rfl
  have HB2 := hide (hb1.trans (hb2.mono (Nat.le_of_lt z1)))
  have HR2 := hide hr2
  have HF := hide (fun x hx => (h.fb x hx).2)
  have HP := hide (lastO_any k B sb n kk X F _ (h.later HB2.out) hk hl)
  have HS := hide (h.later HB2.out)
  have HZ1 := hide (Nat.le_of_lt z1)
  have HZ2 := hide (Array.getElem?_eq_some_iff.1 hr2).1
  clear h hk1 hb1 hb2 hr2 hk2 z1
  generalize laP (X.K k) = S at *
  generalize laB (X.K k) = T at *
  go_enter Tryz.func10, Tryz.ntmps10
  go_wp2_with fail
  generalize W1.alloc (.cells #[.string ⟨#[]⟩, .int .i64 0, .bool false] 36) = W2 at *
  generalize W1.heap.size = bx at *
  refine HP.out.mono ?_
  rintro e w5 ⟨rfl, hb3⟩
  obtain ⟨hS3, hF3⟩ := HS.out.idle hb3
  have S3 := hide (And.intro hS3 hF3)
  have R5 := hide ((hF3.box HF.out HZ1.out HZ2.out).trans HR2.out)
  have HB5 := hide (Below.refl w5.heap.size w5)
  clear hS3 hF3 HP d1 d2 d3 hb3 HS
  have g0 : w5.cell? ⟨bx, 0, none⟩ = some (.string ⟨#[]⟩) := by rw [cell_of_row _ _ 0 _ _ _ R5.out]; rfl
  have g1 : w5.cell? ⟨bx, 1, none⟩ = some (.int .i64 0) := by rw [cell_of_row _ _ 1 _ _ _ R5.out]; rfl
  have g2 : w5.cell? ⟨bx, 2, none⟩ = some (.bool false) := by rw [cell_of_row _ _ 2 _ _ _ R5.out]; rfl
  have gf : ∀ j, w5.frozen? ⟨bx, j, none⟩ = false := fun j => by unfold World.frozen?; simp [R5.out]
  have gf0 := gf 0
  have gf1 := gf 1
  have gf2 := gf 2
  clear gf
  go_wp2_with fail
  exact bodyPost_ret (results_cell_row rfl _ _ bx 36 _ (0, 0) _ rfl (set3_blk R5.out _ _ _) Tryz.underlying36 rfl Tryz.sizeSaid) rfl ⟨rfl, SO.done3 S3.out HB2.out HB5.out HZ1.out HZ2.out HF.out hB _ _ _⟩
set_option maxRecDepth 100000 in
set_option maxHeartbeats 1000000 in
theorem ask_open (on : Int) (k : Ky) (N : Int) (V : List UInt8) (B sb n kk : Nat) (X : Sx) (F : Nat → Prop) (w : World) (h : SO B w sb n X kk F) (hl : kk ≤ 5864062014803) :
    Calls Tryz.prog 10 #[.pointer (some ⟨sb, 0, none⟩), .agg #[.int .i64 on, .int .i64 4, .int .i64 k.1, .int .i64 k.2, .int .i64 N, .string ⟨V.toArray⟩]] w fun e w' => e = .returned (.agg #[.string ⟨#[]⟩, .int .i64 ((X.bg : Int) + 1), .bool false]) ∧ SO B w' sb n (X.opn N) (kk + 1) (gw F w w') ∧ FB w w' F (gw F w w') := by
  have hB := h.size
  obtain ⟨W1, hW1⟩ : ∃ W1, w.alloc (.cells #[.int .i64 on, .int .i64 4, .int .i64 k.1, .int .i64 k.2, .int .i64 N, .string ⟨V.toArray⟩] 31) = W1 := ⟨_, rfl⟩
  have hb1 : Below w.heap.size w W1 := by rw [← hW1]; exact (Below.refl _ _).alloc (Nat.le_refl _) _
  have hk1 : W1.heap[w.heap.size]? = some (.cells #[.int .i64 on, .int .i64 4, .int .i64 k.1, .int .i64 k.2, .int .i64 N, .string ⟨V.toArray⟩] 31 (0, 0)) := by rw [← hW1]; exact alloc_newV w _
  have z1 : w.heap.size < W1.heap.size := (Array.getElem?_eq_some_iff.1 hk1).1
  have hb2 : Below W1.heap.size W1 (W1.alloc (.cells #[.string ⟨#[]⟩, .int .i64 0, .bool false] 36)) := (Below.refl _ _).alloc (Nat.le_refl _) _
  have hr2 := alloc_newV W1 (.cells #[.string ⟨#[]⟩, .int .i64 0, .bool false] 36)
  have hk2 := (hb2.block _ z1).trans hk1
  have d1 : (W1.alloc (.cells #[.string ⟨#[]⟩, .int .i64 0, .bool false] 36)).cell? ⟨w.heap.size, 1, none⟩ = some (.int .i64 4) := by rw [cell_of_row _ _ 1 _ _ _ hk2]; rfl
  have d4 : (W1.alloc (.cells #[.string ⟨#[]⟩, .int .i64 0, .bool false] 36)).cell? ⟨w.heap.size, 4, none⟩ = some (.int .i64 N) := by rw [cell_of_row _ _ 4 _ _ _ hk2]; rfl
  have HB2 := hide (hb1.trans (hb2.mono (Nat.le_of_lt z1)))
  have HR2 := hide hr2
  have HF := hide (fun x hx => (h.fb x hx).2)
  have HP := hide (openO_any N B sb n kk X F _ (h.later HB2.out) hl)
  have HZ1 := hide (Nat.le_of_lt z1)
  have HZ2 := hide (Array.getElem?_eq_some_iff.1 hr2).1
  clear h hk1 hb1 hb2 hr2 hk2 z1
  generalize ((X.bg : Int) + 1) = S at *
  go_enter Tryz.func10, Tryz.ntmps10
  go_wp2_with fail
  generalize W1.alloc (.cells #[.string ⟨#[]⟩, .int .i64 0, .bool false] 36) = W2 at *
  generalize W1.heap.size = bx at *
  refine HP.out.mono ?_
  rintro e w5 ⟨rfl, hS3, hF3⟩
  have S3 := hide (And.intro hS3 hF3)
  have R5 := hide ((hF3.box HF.out HZ1.out HZ2.out).trans HR2.out)
  have HB5 := hide (Below.refl w5.heap.size w5)
  clear hS3 hF3 HP d1 d4
  have g0 : w5.cell? ⟨bx, 0, none⟩ = some (.string ⟨#[]⟩) := by rw [cell_of_row _ _ 0 _ _ _ R5.out]; rfl
  have g1 : w5.cell? ⟨bx, 1, none⟩ = some (.int .i64 0) := by rw [cell_of_row _ _ 1 _ _ _ R5.out]; rfl
  have g2 : w5.cell? ⟨bx, 2, none⟩ = some (.bool false) := by rw [cell_of_row _ _ 2 _ _ _ R5.out]; rfl
  have gf : ∀ j, w5.frozen? ⟨bx, j, none⟩ = false := fun j => by unfold World.frozen?; simp [R5.out]
  have gf0 := gf 0
  have gf1 := gf 1
  have gf2 := gf 2
  clear gf
  go_wp2_with fail
  exact bodyPost_ret (results_cell_row rfl _ _ bx 36 _ (0, 0) _ rfl (set3_blk R5.out _ _ _) Tryz.underlying36 rfl Tryz.sizeSaid) rfl ⟨rfl, SO.done3 S3.out HB2.out HB5.out HZ1.out HZ2.out HF.out hB _ _ _⟩
set_option maxRecDepth 100000 in
set_option maxHeartbeats 1000000 in
theorem ask_close (on : Int) (k : Ky) (N : Int) (V : List UInt8) (B sb n kk : Nat) (X : Sx) (F : Nat → Prop) (w : World) (h : SO B w sb n X kk F) (hI : IOK N) (hl : kk ≤ 5864062014803) :
    Calls Tryz.prog 10 #[.pointer (some ⟨sb, 0, none⟩), .agg #[.int .i64 on, .int .i64 5, .int .i64 k.1, .int .i64 k.2, .int .i64 N, .string ⟨V.toArray⟩]] w fun e w' => e = .returned (.agg #[.string ⟨#[]⟩, .int .i64 0, .bool (X.R.find? fun p => p.1 == N).isSome]) ∧ SO B w' sb n (X.cls N) (kk + 1) (gw F w w') ∧ FB w w' F (gw F w w') := by
  have hB := h.size
  obtain ⟨W1, hW1⟩ : ∃ W1, w.alloc (.cells #[.int .i64 on, .int .i64 5, .int .i64 k.1, .int .i64 k.2, .int .i64 N, .string ⟨V.toArray⟩] 31) = W1 := ⟨_, rfl⟩
  have hb1 : Below w.heap.size w W1 := by rw [← hW1]; exact (Below.refl _ _).alloc (Nat.le_refl _) _
  have hk1 : W1.heap[w.heap.size]? = some (.cells #[.int .i64 on, .int .i64 5, .int .i64 k.1, .int .i64 k.2, .int .i64 N, .string ⟨V.toArray⟩] 31 (0, 0)) := by rw [← hW1]; exact alloc_newV w _
  have z1 : w.heap.size < W1.heap.size := (Array.getElem?_eq_some_iff.1 hk1).1
  have hb2 : Below W1.heap.size W1 (W1.alloc (.cells #[.string ⟨#[]⟩, .int .i64 0, .bool false] 36)) := (Below.refl _ _).alloc (Nat.le_refl _) _
  have hr2 := alloc_newV W1 (.cells #[.string ⟨#[]⟩, .int .i64 0, .bool false] 36)
  have hk2 := (hb2.block _ z1).trans hk1
  have d1 : (W1.alloc (.cells #[.string ⟨#[]⟩, .int .i64 0, .bool false] 36)).cell? ⟨w.heap.size, 1, none⟩ = some (.int .i64 5) := by rw [cell_of_row _ _ 1 _ _ _ hk2]; rfl
  have d4 : (W1.alloc (.cells #[.string ⟨#[]⟩, .int .i64 0, .bool false] 36)).cell? ⟨w.heap.size, 4, none⟩ = some (.int .i64 N) := by rw [cell_of_row _ _ 4 _ _ _ hk2]; rfl
  have HB2 := hide (hb1.trans (hb2.mono (Nat.le_of_lt z1)))
  have HR2 := hide hr2
  have HF := hide (fun x hx => (h.fb x hx).2)
  have HP := hide (closeO_any N B sb n kk X F _ (h.later HB2.out) hl hI)
  have HZ1 := hide (Nat.le_of_lt z1)
  have HZ2 := hide (Array.getElem?_eq_some_iff.1 hr2).1
  clear h hk1 hb1 hb2 hr2 hk2 z1
  generalize (X.R.find? fun p => p.1 == N).isSome = bb at *
  go_enter Tryz.func10, Tryz.ntmps10
  go_wp2_with fail
  generalize W1.alloc (.cells #[.string ⟨#[]⟩, .int .i64 0, .bool false] 36) = W2 at *
  generalize W1.heap.size = bx at *
  refine HP.out.mono ?_
  rintro e w5 ⟨rfl, hS3, hF3⟩
  have S3 := hide (And.intro hS3 hF3)
  have R5 := hide ((hF3.box HF.out HZ1.out HZ2.out).trans HR2.out)
  have HB5 := hide (Below.refl w5.heap.size w5)
  clear hS3 hF3 HP d1 d4
  have g0 : w5.cell? ⟨bx, 0, none⟩ = some (.string ⟨#[]⟩) := by rw [cell_of_row _ _ 0 _ _ _ R5.out]; rfl
  have g1 : w5.cell? ⟨bx, 1, none⟩ = some (.int .i64 0) := by rw [cell_of_row _ _ 1 _ _ _ R5.out]; rfl
  have g2 : w5.cell? ⟨bx, 2, none⟩ = some (.bool false) := by rw [cell_of_row _ _ 2 _ _ _ R5.out]; rfl
  have gf : ∀ j, w5.frozen? ⟨bx, j, none⟩ = false := fun j => by unfold World.frozen?; simp [R5.out]
  have gf0 := gf 0
  have gf1 := gf 1
  have gf2 := gf 2
  clear gf
  go_wp2_with fail
  exact bodyPost_ret (results_cell_row rfl _ _ bx 36 _ (0, 0) _ rfl (set3_blk R5.out _ _ _) Tryz.underlying36 rfl Tryz.sizeSaid) rfl ⟨rfl, SO.done3 S3.out HB2.out HB5.out HZ1.out HZ2.out HF.out hB _ _ _⟩
set_option maxRecDepth 100000 in
set_option maxHeartbeats 1000000 in
theorem ask_old (on : Int) (k : Ky) (N : Int) (V : List UInt8) (B sb n kk : Nat) (X : Sx) (F : Nat → Prop) (w : World) (h : SO B w sb n X kk F) (hl : kk ≤ 5864062014803) :
    Calls Tryz.prog 10 #[.pointer (some ⟨sb, 0, none⟩), .agg #[.int .i64 on, .int .i64 6, .int .i64 k.1, .int .i64 k.2, .int .i64 N, .string ⟨V.toArray⟩]] w fun e w' => e = .returned (.agg #[.string ⟨#[]⟩, .int .i64 (oldR N X.L), .bool false]) ∧ SO B w' sb n (X) (kk + 1) (gw F w w') ∧ FB w w' F (gw F w w') := by
  have hB := h.size
  obtain ⟨W1, hW1⟩ : ∃ W1, w.alloc (.cells #[.int .i64 on, .int .i64 6, .int .i64 k.1, .int .i64 k.2, .int .i64 N, .string ⟨V.toArray⟩] 31) = W1 := ⟨_, rfl⟩
  have hb1 : Below w.heap.size w W1 := by rw [← hW1]; exact (Below.refl _ _).alloc (Nat.le_refl _) _
  have hk1 : W1.heap[w.heap.size]? = some (.cells #[.int .i64 on, .int .i64 6, .int .i64 k.1, .int .i64 k.2, .int .i64 N, .string ⟨V.toArray⟩] 31 (0, 0)) := by rw [← hW1]; exact alloc_newV w _
  have z1 : w.heap.size < W1.heap.size := (Array.getElem?_eq_some_iff.1 hk1).1
  have hb2 : Below W1.heap.size W1 (W1.alloc (.cells #[.string ⟨#[]⟩, .int .i64 0, .bool false] 36)) := (Below.refl _ _).alloc (Nat.le_refl _) _
  have hr2 := alloc_newV W1 (.cells #[.string ⟨#[]⟩, .int .i64 0, .bool false] 36)
  have hk2 := (hb2.block _ z1).trans hk1
  have d1 : (W1.alloc (.cells #[.string ⟨#[]⟩, .int .i64 0, .bool false] 36)).cell? ⟨w.heap.size, 1, none⟩ = some (.int .i64 6) := by rw [cell_of_row _ _ 1 _ _ _ hk2]; rfl
  have d4 : (W1.alloc (.cells #[.string ⟨#[]⟩, .int .i64 0, .bool false] 36)).cell? ⟨w.heap.size, 4, none⟩ = some (.int .i64 N) := by rw [cell_of_row _ _ 4 _ _ _ hk2]; rfl
  have HB2 := hide (hb1.trans (hb2.mono (Nat.le_of_lt z1)))
  have HR2 := hide hr2
  have HF := hide (fun x hx => (h.fb x hx).2)
  have HP := hide (oldO_any N B sb n kk X F _ (h.later HB2.out) hl)
  have HS := hide (h.later HB2.out)
  have HZ1 := hide (Nat.le_of_lt z1)
  have HZ2 := hide (Array.getElem?_eq_some_iff.1 hr2).1
  clear h hk1 hb1 hb2 hr2 hk2 z1
  generalize oldR N X.L = S at *
  go_enter Tryz.func10, Tryz.ntmps10
  go_wp2_with fail
  generalize W1.alloc (.cells #[.string ⟨#[]⟩, .int .i64 0, .bool false] 36) = W2 at *
  generalize W1.heap.size = bx at *
  refine HP.out.mono ?_
  rintro e w5 ⟨rfl, hb3⟩
  obtain ⟨hS3, hF3⟩ := HS.out.idle hb3
  have S3 := hide (And.intro hS3 hF3)
  have R5 := hide ((hF3.box HF.out HZ1.out HZ2.out).trans HR2.out)
  have HB5 := hide (Below.refl w5.heap.size w5)
  clear hS3 hF3 HP d1 d4 hb3 HS
  have g0 : w5.cell? ⟨bx, 0, none⟩ = some (.string ⟨#[]⟩) := by rw [cell_of_row _ _ 0 _ _ _ R5.out]; rfl
  have g1 : w5.cell? ⟨bx, 1, none⟩ = some (.int .i64 0) := by rw [cell_of_row _ _ 1 _ _ _ R5.out]; rfl
  have g2 : w5.cell? ⟨bx, 2, none⟩ = some (.bool false) := by rw [cell_of_row _ _ 2 _ _ _ R5.out]; rfl
  have gf : ∀ j, w5.frozen? ⟨bx, j, none⟩ = false := fun j => by unfold World.frozen?; simp [R5.out]
  have gf0 := gf 0
  have gf1 := gf 1
  have gf2 := gf 2
  clear gf
  go_wp2_with fail
  exact bodyPost_ret (results_cell_row rfl _ _ bx 36 _ (0, 0) _ rfl (set3_blk R5.out _ _ _) Tryz.underlying36 rfl Tryz.sizeSaid) rfl ⟨rfl, SO.done3 S3.out HB2.out HB5.out HZ1.out HZ2.out HF.out hB _ _ _⟩
set_option maxRecDepth 100000 in
set_option maxHeartbeats 1000000 in
theorem ask_prune (on : Int) (k : Ky) (N : Int) (V : List UInt8) (B sb n kk : Nat) (X : Sx) (F : Nat → Prop) (w : World) (h : SO B w sb n X kk F) (hk : KOK k) (hl : kk ≤ 5864062014803) :
    Calls Tryz.prog 10 #[.pointer (some ⟨sb, 0, none⟩), .agg #[.int .i64 on, .int .i64 7, .int .i64 k.1, .int .i64 k.2, .int .i64 N, .string ⟨V.toArray⟩]] w fun e w' => e = .returned (.agg #[.string ⟨#[]⟩, .int .i64 ((ab (oldR N X.L) (X.K k) - 1 : Nat) : Int), .bool false]) ∧ SO B w' sb n (X.pru k N) (kk + 1) (gw F w w') ∧ FB w w' F (gw F w w') := by
  have hB := h.size
  obtain ⟨W1, hW1⟩ : ∃ W1, w.alloc (.cells #[.int .i64 on, .int .i64 7, .int .i64 k.1, .int .i64 k.2, .int .i64 N, .string ⟨V.toArray⟩] 31) = W1 := ⟨_, rfl⟩
  have hb1 : Below w.heap.size w W1 := by rw [← hW1]; exact (Below.refl _ _).alloc (Nat.le_refl _) _
  have hk1 : W1.heap[w.heap.size]? = some (.cells #[.int .i64 on, .int .i64 7, .int .i64 k.1, .int .i64 k.2, .int .i64 N, .string ⟨V.toArray⟩] 31 (0, 0)) := by rw [← hW1]; exact alloc_newV w _
  have z1 : w.heap.size < W1.heap.size := (Array.getElem?_eq_some_iff.1 hk1).1
  have hb2 : Below W1.heap.size W1 (W1.alloc (.cells #[.string ⟨#[]⟩, .int .i64 0, .bool false] 36)) := (Below.refl _ _).alloc (Nat.le_refl _) _
  have hr2 := alloc_newV W1 (.cells #[.string ⟨#[]⟩, .int .i64 0, .bool false] 36)
  have hk2 := (hb2.block _ z1).trans hk1
  have d1 : (W1.alloc (.cells #[.string ⟨#[]⟩, .int .i64 0, .bool false] 36)).cell? ⟨w.heap.size, 1, none⟩ = some (.int .i64 7) := by rw [cell_of_row _ _ 1 _ _ _ hk2]; rfl
  have d2 : (W1.alloc (.cells #[.string ⟨#[]⟩, .int .i64 0, .bool false] 36)).cell? ⟨w.heap.size, 2, none⟩ = some (.int .i64 k.1) := by rw [cell_of_row _ _ 2 _ _ _ hk2]; rfl
  have d3 : (W1.alloc (.cells #[.string ⟨#[]⟩, .int .i64 0, .bool false] 36)).cell? ⟨w.heap.size, 3, none⟩ = some (.int .i64 k.2) := by rw [cell_of_row _ _ 3 _ _ _ hk2]; rfl
  have d4 : (W1.alloc (.cells #[.string ⟨#[]⟩, .int .i64 0, .bool false] 36)).cell? ⟨w.heap.size, 4, none⟩ = some (.int .i64 N) := by rw [cell_of_row _ _ 4 _ _ _ hk2]; rfl
  have HB2 := hide (hb1.trans (hb2.mono (Nat.le_of_lt z1)))
  have HR2 := hide hr2
  have HF := hide (fun x hx => (h.fb x hx).2)
  have HP := hide (pruneO_any k N B sb n kk X F _ (h.later HB2.out) hk hl)
  have HZ1 := hide (Nat.le_of_lt z1)
  have HZ2 := hide (Array.getElem?_eq_some_iff.1 hr2).1
  clear h hk1 hb1 hb2 hr2 hk2 z1
  generalize ((ab (oldR N X.L) (X.K k) - 1 : Nat) : Int) = S at *
  go_enter Tryz.func10, Tryz.ntmps10
  go_wp2_with fail
  generalize W1.alloc (.cells #[.string ⟨#[]⟩, .int .i64 0, .bool false] 36) = W2 at *
  generalize W1.heap.size = bx at *
  refine HP.out.mono ?_
  rintro e w5 ⟨rfl, hS3, hF3⟩
  have S3 := hide (And.intro hS3 hF3)
  have R5 := hide ((hF3.box HF.out HZ1.out HZ2.out).trans HR2.out)
  have HB5 := hide (Below.refl w5.heap.size w5)
  clear hS3 hF3 HP d1 d2 d3 d4
  have g0 : w5.cell? ⟨bx, 0, none⟩ = some (.string ⟨#[]⟩) := by rw [cell_of_row _ _ 0 _ _ _ R5.out]; rfl
  have g1 : w5.cell? ⟨bx, 1, none⟩ = some (.int .i64 0) := by rw [cell_of_row _ _ 1 _ _ _ R5.out]; rfl
  have g2 : w5.cell? ⟨bx, 2, none⟩ = some (.bool false) := by rw [cell_of_row _ _ 2 _ _ _ R5.out]; rfl
  have gf : ∀ j, w5.frozen? ⟨bx, j, none⟩ = false := fun j => by unfold World.frozen?; simp [R5.out]
  have gf0 := gf 0
  have gf1 := gf 1
  have gf2 := gf 2
  clear gf
  go_wp2_with fail
  exact bodyPost_ret (results_cell_row rfl _ _ bx 36 _ (0, 0) _ rfl (set3_blk R5.out _ _ _) Tryz.underlying36 rfl Tryz.sizeSaid) rfl ⟨rfl, SO.done3 S3.out HB2.out HB5.out HZ1.out HZ2.out HF.out hB _ _ _⟩
set_option maxRecDepth 100000 in
set_option maxHeartbeats 1000000 in
theorem ask_ver (on : Int) (k : Ky) (N : Int) (V : List UInt8) (B sb n kk : Nat) (X : Sx) (F : Nat → Prop) (w : World) (h : SO B w sb n X kk F)  :
    Calls Tryz.prog 10 #[.pointer (some ⟨sb, 0, none⟩), .agg #[.int .i64 on, .int .i64 8, .int .i64 k.1, .int .i64 k.2, .int .i64 N, .string ⟨V.toArray⟩]] w fun e w' => (∃ s x b, e = .returned (.agg #[.string s, .int .i64 x, .bool b])) ∧ SO B w' sb n (X) (kk + 1) (gw F w w') ∧ FB w w' F (gw F w w') := by
  have hB := h.size
  obtain ⟨W1, hW1⟩ : ∃ W1, w.alloc (.cells #[.int .i64 on, .int .i64 8, .int .i64 k.1, .int .i64 k.2, .int .i64 N, .string ⟨V.toArray⟩] 31) = W1 := ⟨_, rfl⟩
  have hb1 : Below w.heap.size w W1 := by rw [← hW1]; exact (Below.refl _ _).alloc (Nat.le_refl _) _
  have hk1 : W1.heap[w.heap.size]? = some (.cells #[.int .i64 on, .int .i64 8, .int .i64 k.1, .int .i64 k.2, .int .i64 N, .string ⟨V.toArray⟩] 31 (0, 0)) := by rw [← hW1]; exact alloc_newV w _
  have z1 : w.heap.size < W1.heap.size := (Array.getElem?_eq_some_iff.1 hk1).1
  have hb2 : Below W1.heap.size W1 (W1.alloc (.cells #[.string ⟨#[]⟩, .int .i64 0, .bool false] 36)) := (Below.refl _ _).alloc (Nat.le_refl _) _
  have hr2 := alloc_newV W1 (.cells #[.string ⟨#[]⟩, .int .i64 0, .bool false] 36)
  have hk2 := (hb2.block _ z1).trans hk1
  have d1 : (W1.alloc (.cells #[.string ⟨#[]⟩, .int .i64 0, .bool false] 36)).cell? ⟨w.heap.size, 1, none⟩ = some (.int .i64 8) := by rw [cell_of_row _ _ 1 _ _ _ hk2]; rfl
  have HB2 := hide (hb1.trans (hb2.mono (Nat.le_of_lt z1)))
  have HR2 := hide hr2
  have HF := hide (fun x hx => (h.fb x hx).2)
  have HP := hide (verO_any B sb n kk X F _ (h.later HB2.out))
  have HS := hide (h.later HB2.out)
  have HZ1 := hide (Nat.le_of_lt z1)
  have HZ2 := hide (Array.getElem?_eq_some_iff.1 hr2).1
  clear h hk1 hb1 hb2 hr2 hk2 z1
  go_enter Tryz.func10, Tryz.ntmps10
  go_wp2_with fail
  generalize W1.alloc (.cells #[.string ⟨#[]⟩, .int .i64 0, .bool false] 36) = W2 at *
  generalize W1.heap.size = bx at *
  refine HP.out.mono ?_
  rintro e w5 ⟨⟨xx, rfl⟩, hb3⟩
  obtain ⟨hS3, hF3⟩ := HS.out.idle hb3
  have S3 := hide (And.intro hS3 hF3)
  have R5 := hide ((hF3.box HF.out HZ1.out HZ2.out).trans HR2.out)
  have HB5 := hide (Below.refl w5.heap.size w5)
  clear hS3 hF3 HP d1 hb3 HS
  have g0 : w5.cell? ⟨bx, 0, none⟩ = some (.string ⟨#[]⟩) := by rw [cell_of_row _ _ 0 _ _ _ R5.out]; rfl
  have g1 : w5.cell? ⟨bx, 1, none⟩ = some (.int .i64 0) := by rw [cell_of_row _ _ 1 _ _ _ R5.out]; rfl
  have g2 : w5.cell? ⟨bx, 2, none⟩ = some (.bool false) := by rw [cell_of_row _ _ 2 _ _ _ R5.out]; rfl
  have gf : ∀ j, w5.frozen? ⟨bx, j, none⟩ = false := fun j => by unfold World.frozen?; simp [R5.out]
  have gf0 := gf 0
  have gf1 := gf 1
  have gf2 := gf 2
  clear gf
  go_wp2_with fail
  exact bodyPost_ret (results_cell_row rfl _ _ bx 36 _ (0, 0) _ rfl (set3_blk R5.out _ _ _) Tryz.underlying36 rfl Tryz.sizeSaid) rfl ⟨⟨_, _, _, rfl⟩, SO.done3 S3.out HB2.out HB5.out HZ1.out HZ2.out HF.out hB _ _ _⟩
set_option maxRecDepth 100000 in
set_option maxHeartbeats 1000000 in
theorem ask_rest (on kind : Int) (k : Ky) (N : Int) (V : List UInt8) (B sb n kk : Nat) (X : Sx) (F : Nat → Prop) (w : World) (h : SO B w sb n X kk F)  (h9 : kind ≠ 0 ∧ kind ≠ 1 ∧ kind ≠ 2 ∧ kind ≠ 4 ∧ kind ≠ 5 ∧ kind ≠ 6 ∧ kind ≠ 7 ∧ kind ≠ 8) :
    Calls Tryz.prog 10 #[.pointer (some ⟨sb, 0, none⟩), .agg #[.int .i64 on, .int .i64 kind, .int .i64 k.1, .int .i64 k.2, .int .i64 N, .string ⟨V.toArray⟩]] w fun e w' => e = .returned (.agg #[.string ⟨#[]⟩, .int .i64 (n : Int), .bool false]) ∧ SO B w' sb n (X) (kk + 1) (gw F w w') ∧ FB w w' F (gw F w w') := by
  have hB := h.size
  obtain ⟨W1, hW1⟩ : ∃ W1, w.alloc (.cells #[.int .i64 on, .int .i64 kind, .int .i64 k.1, .int .i64 k.2, .int .i64 N, .string ⟨V.toArray⟩] 31) = W1 := ⟨_, rfl⟩
  have hb1 : Below w.heap.size w W1 := by rw [← hW1]; exact (Below.refl _ _).alloc (Nat.le_refl _) _
  have hk1 : W1.heap[w.heap.size]? = some (.cells #[.int .i64 on, .int .i64 kind, .int .i64 k.1, .int .i64 k.2, .int .i64 N, .string ⟨V.toArray⟩] 31 (0, 0)) := by rw [← hW1]; exact alloc_newV w _
  have z1 : w.heap.size < W1.heap.size := (Array.getElem?_eq_some_iff.1 hk1).1
  have hb2 : Below W1.heap.size W1 (W1.alloc (.cells #[.string ⟨#[]⟩, .int .i64 0, .bool false] 36)) := (Below.refl _ _).alloc (Nat.le_refl _) _
  have hr2 := alloc_newV W1 (.cells #[.string ⟨#[]⟩, .int .i64 0, .bool false] 36)
  have hk2 := (hb2.block _ z1).trans hk1
  have d1 : (W1.alloc (.cells #[.string ⟨#[]⟩, .int .i64 0, .bool false] 36)).cell? ⟨w.heap.size, 1, none⟩ = some (.int .i64 kind) := by rw [cell_of_row _ _ 1 _ _ _ hk2]; rfl
  have HB2 := hide (hb1.trans (hb2.mono (Nat.le_of_lt z1)))
  have HR2 := hide hr2
  have HF := hide (fun x hx => (h.fb x hx).2)
  have HP := hide (shardsO_any B sb n kk X F _ (h.later HB2.out))
  have HS := hide (h.later HB2.out)
  have HZ1 := hide (Nat.le_of_lt z1)
  have HZ2 := hide (Array.getElem?_eq_some_iff.1 hr2).1
  clear h hk1 hb1 hb2 hr2 hk2 z1
  have q0 : ¬ kind = 0 := by omega
  have p0 : (kind == 0) = false := by simpa using q0
  have q1 : ¬ kind = 1 := by omega
  have p1 : (kind == 1) = false := by simpa using q1
  have q2 : ¬ kind = 2 := by omega
  have p2 : (kind == 2) = false := by simpa using q2
  have q4 : ¬ kind = 4 := by omega
  have p4 : (kind == 4) = false := by simpa using q4
  have q5 : ¬ kind = 5 := by omega
  have p5 : (kind == 5) = false := by simpa using q5
  have q6 : ¬ kind = 6 := by omega
  have p6 : (kind == 6) = false := by simpa using q6
  have q7 : ¬ kind = 7 := by omega
  have p7 : (kind == 7) = false := by simpa using q7
  have q8 : ¬ kind = 8 := by omega
  have p8 : (kind == 8) = false := by simpa using q8
  go_enter Tryz.func10, Tryz.ntmps10
  go_wp2_with fail
  generalize W1.alloc (.cells #[.string ⟨#[]⟩, .int .i64 0, .bool false] 36) = W2 at *
  generalize W1.heap.size = bx at *
  refine HP.out.mono ?_
  rintro e w5 ⟨rfl, hb3⟩
  obtain ⟨hS3, hF3⟩ := HS.out.idle hb3
  have S3 := hide (And.intro hS3 hF3)
  have R5 := hide ((hF3.box HF.out HZ1.out HZ2.out).trans HR2.out)
  have HB5 := hide (Below.refl w5.heap.size w5)
  clear hS3 hF3 HP d1 hb3 HS
  have g0 : w5.cell? ⟨bx, 0, none⟩ = some (.string ⟨#[]⟩) := by rw [cell_of_row _ _ 0 _ _ _ R5.out]; rfl
  have g1 : w5.cell? ⟨bx, 1, none⟩ = some (.int .i64 0) := by rw [cell_of_row _ _ 1 _ _ _ R5.out]; rfl
  have g2 : w5.cell? ⟨bx, 2, none⟩ = some (.bool false) := by rw [cell_of_row _ _ 2 _ _ _ R5.out]; rfl
  have gf : ∀ j, w5.frozen? ⟨bx, j, none⟩ = false := fun j => by unfold World.frozen?; simp [R5.out]
  have gf0 := gf 0
  have gf1 := gf 1
  have gf2 := gf 2
  clear gf
  go_wp2_with fail
  exact bodyPost_ret (results_cell_row rfl _ _ bx 36 _ (0, 0) _ rfl (set3_blk R5.out _ _ _) Tryz.underlying36 rfl Tryz.sizeSaid) rfl ⟨rfl, SO.done3 S3.out HB2.out HB5.out HZ1.out HZ2.out HF.out hB _ _ _⟩
end Go.Proofs.YtehacdijleommaaGreatDoor
