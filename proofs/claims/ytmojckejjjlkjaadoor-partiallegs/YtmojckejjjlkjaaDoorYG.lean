/-
  My own text: the law PartialLegs.
-/
import Derived.Test.YtmojckejjjlkjaaDoorYF
namespace Go.Proofs.YtmojckejjjlkjaaDoor
open Go.RowKit

theorem sp_below {K : Nat} {av : Nat → Option Addr} {n c : Nat → Nat} {w W W' : World} (hs : Sp K av n c W W') (h : Below w.heap.size w W) (ho : ∀ k, k < K → ∀ b, (Value.slice (av k) (n k) (c k)).ownBlock = some b → w.heap.size ≤ b) : Below w.heap.size w W' :=
  ⟨hs.os.trans h.os, hs.tape.trans h.tape, hs.output.trans h.output, Nat.le_trans h.size hs.size, fun b hb => (hs.block b (Nat.lt_of_lt_of_le hb h.size) (fun k hk e => by have := ho k hk b e; omega)).trans (h.block b hb)⟩
/-- Two rows of legs in a new list. -/
theorem lg_two {w W : World} {B2 c1 c2 : Nat} {a1 a2 : Option Addr} {X : List LG.El} (h1 : LG.OM W w.heap.size (.slice a1 X.length c1) X) (h2 : LG.OM W B2 (.slice a2 X.length c2) X) (hlt : ∀ b, (Value.slice a1 X.length c1).ownBlock = some b → b < B2) (hB : w.heap.size ≤ B2) :
    LG.AllM (W.alloc (.cells #[.slice a1 X.length c1, .slice a2 X.length c2] 50)) w.heap.size W.heap.size 2 (fun k => if k = 0 then a1 else a2) (fun _ => X.length) (fun k => if k = 0 then c1 else c2) (fun _ => X) := by
  have N := alloc_new W (.cells #[.slice a1 X.length c1, .slice a2 X.length c2] 50)
  refine ⟨by simp, fun k hk => ?_, fun k hk => ?_, fun k hk => ?_, fun j k b hj hk e1 e2 => ?_⟩
  · match k, hk with
    | 0, _ => exact (pair_cells N rfl).1
    | 1, _ => exact (pair_cells N rfl).2
  · match k, hk with
    | 0, _ => exact World.ownsRow.alloc h1 _
    | 1, _ => exact World.ownsRow.alloc (World.ownsRow.mono h2 hB) _
  · match k, hk with
    | 0, _ => exact fun e => by have := (World.ownsRow.lt h1 _ e).2; omega
    | 1, _ => exact fun e => by have := (World.ownsRow.lt h2 _ e).2; omega
  · match j, hj, k, hk, e1, e2 with
    | 0, _, 0, _, _, _ => rfl
    | 1, _, 1, _, _, _ => rfl
    | 0, _, 1, _, e1, e2 => have h3 := hlt b e1; have := (World.ownsRow.lt h2 b e2).1; omega
    | 1, _, 0, _, e1, e2 => have h3 := hlt b e2; have := (World.ownsRow.lt h2 b e1).1; omega
theorem six_kept {w w1 : World} {a b c d e f : Value} {t : TypeId} (hb : Below (w.alloc (.cells #[a, b, c, d, e, f] t)).heap.size (w.alloc (.cells #[a, b, c, d, e, f] t)) w1) :
    Below w.heap.size w w1 ∧ w1.heap[w.heap.size]? = some (.cells #[a, b, c, d, e, f] t (0, 0)) := by
  have h0 := alloc_new w (.cells #[a, b, c, d, e, f] t)
  have hl := (Array.getElem?_eq_some_iff.1 h0).1
  exact ⟨((Below.refl w.heap.size w).alloc (Nat.le_refl _) _).trans (hb.mono ((Below.refl w.heap.size w).alloc (Nat.le_refl _) _).size), (hb.block w.heap.size hl).trans h0⟩
theorem cells6 {w : World} {o : Obj} {a b c d e f : Value} {t : TypeId} {g : Nat} (h : w.heap[g]? = some o) (ho : o = .cells #[a, b, c, d, e, f] t (0, 0)) : w.cell? ⟨g, 0, none⟩ = some a ∧ w.cell? ⟨g, 1, none⟩ = some b ∧ w.cell? ⟨g, 2, none⟩ = some c ∧ w.cell? ⟨g, 3, none⟩ = some d ∧ w.cell? ⟨g, 4, none⟩ = some e ∧ w.cell? ⟨g, 5, none⟩ = some f := by
  subst ho
  exact ⟨by rw [cell_of_row _ _ 0 _ _ _ h]; rfl, by rw [cell_of_row _ _ 1 _ _ _ h]; rfl, by rw [cell_of_row _ _ 2 _ _ _ h]; rfl, by rw [cell_of_row _ _ 3 _ _ _ h]; rfl, by rw [cell_of_row _ _ 4 _ _ _ h]; rfl, by rw [cell_of_row _ _ 5 _ _ _ h]; rfl⟩
set_option maxRecDepth 100000 in
set_option maxHeartbeats 4000000 in
theorem legs_law (s b x c q m : Int) (w : World) (hE : ErrType w) :
    Calls Tryd.prog 6 #[.agg #[.int .i64 s, .int .i64 b, .int .i64 x, .int .i64 c, .int .i64 q, .int .i64 m]] w fun e w' => e = .returned (.bool true) ∧ Below w.heap.size w w' := by
  have HE := hide hE
  have he := lgE_lo s b x c q m
  have HR := hide (rlegs_any s b x c q m)
  have HL := hide (legs_any s b x c q m)
  have HX := hide (lgL_len s b x c q m)
  have HPL := hide (fun W (h : ErrType W) => plain_errV (lgE s b x c q m) (lgE s b x c q m) W he.1 he.2 h)
  obtain ⟨X, hX⟩ : ∃ X, lgL s b x c q m = X := ⟨_, rfl⟩
  obtain ⟨k, hk⟩ : ∃ k, lgE s b x c q m = k := ⟨_, rfl⟩
  rw [hX] at HR HL HX
  rw [hk] at HR HL HPL
  obtain ⟨ev, hev⟩ : ∃ v, errV k = v := ⟨_, rfl⟩
  rw [hev] at HL HPL
  clear hX hk hev he hE
  obtain ⟨W1, hW1⟩ : ∃ W1, w.alloc (.cells #[.int .i64 s, .int .i64 b, .int .i64 x, .int .i64 c, .int .i64 q, .int .i64 m] 49) = W1 := ⟨_, rfl⟩
  have hn := alloc_new w (.cells #[.int .i64 s, .int .i64 b, .int .i64 x, .int .i64 c, .int .i64 q, .int .i64 m] 49)
  rw [hW1] at hn
  have HN := hide hn
  have HB1 : Hid (Below w.heap.size w W1) := hide (by rw [← hW1]; exact (Below.refl _ _).alloc (Nat.le_refl _) _)
  obtain ⟨y0, y1, y2, y3, y4, y5⟩ := cells6 hn rfl
  clear hn
  go_enter Tryd.func6, Tryd.ntmps6
  go_wp2_with fail
  refine (HR.out W1).mono ?_
  rintro e w2 ⟨vw, rfl, how, hb2⟩
  obtain ⟨wa, wc, hvw⟩ := LG.OM.slice how
  have HOW := hide how
  have HB2 := hide hb2
  obtain ⟨z0, z1, z2, z3, z4, z5⟩ := cells6 (blk_later HN.out hb2) rfl
  clear how hb2 y0 y1 y2 y3 y4 y5 hW1 HR
  subst hvw
  go_wp2_with fail
  refine (HL.out w2).mono ?_
  rintro e w3 ⟨va, rfl, hoa, hb3⟩
  obtain ⟨aa, ac, hva⟩ := LG.OM.slice hoa
  have HOA := hide hoa
  have HB3 := hide hb3
  obtain ⟨y0, y1, y2, y3, y4, y5⟩ := cells6 (blk_later (blk_later HN.out HB2.out) hb3) rfl
  clear hoa hb3 z0 z1 z2 z3 z4 z5
  subst hva
  go_wp2_with fail
  refine (HL.out w3).mono ?_
  rintro e w4 ⟨vb, rfl, hob, hb4⟩
  obtain ⟨ba, bc, hvb⟩ := LG.OM.slice hob
  have HOB := hide hob
  have HB4 := hide hb4
  clear hob hb4 y0 y1 y2 y3 y4 y5 HL
  subst hvb
  have HW4 := hide (((HB1.out.trans (HB2.out.mono HB1.out.size)).trans (HB3.out.mono (Nat.le_trans HB1.out.size HB2.out.size))).trans (HB4.out.mono (Nat.le_trans (Nat.le_trans HB1.out.size HB2.out.size) HB3.out.size)))
  have kk : (k == k) = true := by simp
  have dt : decide (X = X) = true := decide_eq_true rfl
  have HSM := hide (fun (v1 v2 : Value) W (h1 : LG.RM W v1 X) (h2 : LG.RM W v2 X) => LG.sameM_any v1 v2 X X W h1 h2 (Nat.le_trans HX.out (by decide)) (Nat.le_trans HX.out (by decide)))
  rw [dt] at HSM
  clear dt
  go_wp2_with fail
  refine (HPL.out w4 (HE.out.below HW4.out)).mono ?_
  rintro e w5 ⟨rfl, hb5⟩
  have HC5 := hide hb5
  have HW5 := hide (HW4.out.trans (hb5.mono HW4.out.size))
  clear hb5
  go_wp2_with fail
  refine (HPL.out w5 (HE.out.below HW5.out)).mono ?_
  rintro e w6 ⟨rfl, hb6⟩
  have HC6 := hide (HC5.out.trans (hb6.mono HC5.out.size))
  clear hb6 HPL
  go_wp2_with fail
  refine (HSM.out _ _ w6 ((HOA.out.rm.later HB4.out).later HC6.out) (((HOW.out.rm.later HB3.out).later HB4.out).later HC6.out)).mono ?_
  rintro e w7 ⟨rfl, hb7⟩
  have HC7 := hide (HC6.out.trans (hb7.mono HC6.out.size))
  clear hb7
  go_wp2_with fail
  refine (HSM.out _ _ w7 (HOB.out.rm.later HC7.out) (((HOW.out.rm.later HB3.out).later HB4.out).later HC7.out)).mono ?_
  rintro e w8 ⟨rfl, hb8⟩
  have HC8 := hide (HC7.out.trans (hb8.mono HC7.out.size))
  have HW8 := hide (HW4.out.trans (HC8.out.mono HW4.out.size))
  clear hb8 HSM
  have hwz : w.heap.size ≤ w2.heap.size := Nat.le_trans HB1.out.size HB2.out.size
  have hoa8 : LG.OM w8 w.heap.size (.slice aa X.length ac) X := LG.OM.base ((HOA.out.later HB4.out).later HC8.out) (fun g hg => Nat.le_trans hwz (World.ownsRow.lt HOA.out g hg).1)
  have hob8 : LG.OM w8 w3.heap.size (.slice ba X.length bc) X := HOB.out.later HC8.out
  have HT := hide (lg_two hoa8 hob8 (fun g hg => (World.ownsRow.lt HOA.out g hg).2) (Nat.le_trans hwz HB3.out.size))
  have HAP := hide (LG.apartMarks_sp w.heap.size w8.heap.size 2 2 _ _ _ _ _ HT.out (fun _ => Nat.le_trans HX.out (by decide)) (by omega) (Nat.le_refl _) (by have := HW8.out.size; simp; omega))
  have HLO : Hid (∀ j, j < 2 → ∀ g, (Value.slice (if j = 0 then aa else ba) X.length (if j = 0 then ac else bc)).ownBlock = some g → w.heap.size ≤ g) := hide (fun j hj g hg => by
    match j, hj with
    | 0, _ => exact (World.ownsRow.lt hoa8 g hg).1
    | 1, _ => exact Nat.le_trans (Nat.le_trans hwz HB3.out.size) (World.ownsRow.lt hob8 g hg).1)
  clear hoa8 hob8 hwz
  go_wp2_with fail
  refine HAP.out.mono ?_
  rintro e w9 ⟨rfl, hsp⟩
  have HW9 := hide (sp_below hsp (HW8.out.alloc HW8.out.size _) HLO.out)
  clear hsp
  go_wp2_with fail
  refine (works_any _).mono ?_
  rintro e w10 ⟨rfl, hb10⟩
  go_wp2_with fail
  go_ret
  exact ⟨rfl, HW9.out.trans (hb10.mono HW9.out.size)⟩
end Go.Proofs.YtmojckejjjlkjaaDoor
