/-
  My own text: G24, G25 in one.
-/
import Derived.Test.YtdiamlajmcikhaaGreatDoorG23
import Derived.Test.YtdiamlajmcikhaaGreatDoorG8
import Derived.Test.YtdiamlajmcikhaaGreatDoorGIS
import Derived.Test.YtdiamlajmcikhaaGreatDoorGIA
import Derived.Test.YtdiamlajmcikhaaGreatDoorG18
namespace Go.Proofs.YtdiamlajmcikhaaGreatDoor
open Go.RowKit

theorem encE_rng (o : OpX) : 0 ≤ encE o ∧ encE o ≤ 24 := by unfold encE; split <;> omega
theorem encL_len (o : OpX) (hl : o.legs.length ≤ 3518437208800) (hp : o.pairs.length ≤ 8796093022000) : (encL o).length ≤ 17592186044002 := by
  unfold encL
  (repeat' split) <;> first | (simp; done) | (simp only [List.length_cons, rowLG_len]; omega) | (simp only [List.length_cons, rowKY_len]; omega)
/-- What is held while GuardEncode goes. -/
structure ES (w : World) (o : OpX) (X : List Int) (BL g cap BP g2 cap2 B2 : Nat) (lv pv v0 v1 v2 : Value) (W : World) : Prop where
  low : Below w.heap.size w W
  cb : W.heap[w.heap.size]? = some (.cells #[.int .i64 o.code, .int .i64 o.acc, .int .i64 o.ass, .int .i64 o.qty, .int .i64 o.name, .int .i64 o.id, lv, pv] 26 (0, 0))
  lg : LG.LentM W BL g cap o.legs
  ky : KY.LentM W BP g2 cap2 o.pairs
  V0 : LN.OM W w.heap.size v0 X
  V1 : LN.OM W w.heap.size v1 X
  V2 : LN.OM W B2 v2 X
  lt1 : ∀ b, v1.ownBlock = some b → b < B2
  hB : w.heap.size ≤ B2
theorem ES.later {w : World} {o : OpX} {X : List Int} {BL g cap BP g2 cap2 B2 : Nat} {lv pv v0 v1 v2 : Value} {W W' : World} (h : ES w o X BL g cap BP g2 cap2 B2 lv pv v0 v1 v2 W) (hb : Below W.heap.size W W') : ES w o X BL g cap BP g2 cap2 B2 lv pv v0 v1 v2 W' :=
  ⟨h.low.trans (hb.mono h.low.size), blk_later h.cb hb, h.lg.later hb, h.ky.later hb, owns_lat h.V0 hb, owns_lat h.V1 hb, owns_lat h.V2 hb, h.lt1, h.hB⟩
/-- While a lent row is written over. -/
structure WS (V : World) (g B cap n : Nat) (e : TypeId) (size : Nat) (W : World) : Prop where
  own : ∃ xs, W.ownsRow B e size (.slice (some ⟨g, 0, none⟩) n cap) n xs
  os : W.os = V.os
  tape : W.tape = V.tape
  output : W.output = V.output
  size : W.heap.size = V.heap.size
  block : ∀ b, b ≠ g → W.heap[b]? = V.heap[b]?
theorem WS.set {V W : World} {g B cap n : Nat} {e : TypeId} {size : Nat} (h : WS V g B cap n e size W) (k : Nat) (u : Value) : WS V g B cap n e size (W.setCell ⟨g, k, none⟩ u) := by
  obtain ⟨xs, hx⟩ := h.own
  exact ⟨⟨_, (hx.stored k u).1⟩, h.os, h.tape, h.output, by simpa using h.size, fun b hb => (Below.heap_setCell _ _ _ b hb).trans (h.block b hb)⟩
theorem WS.cell {V W : World} {g B cap n : Nat} {e : TypeId} {size : Nat} (h : WS V g B cap n e size W) {k : Nat} (hk : k < n * size) : (∃ u, W.cell? ⟨g, k, none⟩ = some u) ∧ W.frozen? ⟨g, k, none⟩ = false := by
  obtain ⟨xs, hx⟩ := h.own
  have h1 := hx.cellAt k hk
  have h2 := hx.1
  exact ⟨⟨xs[k]'(by omega), h1.trans (List.getElem?_eq_getElem _)⟩, World.ownsRow.frozenAt hx k⟩
theorem ws_below {w V W : World} {g B cap n : Nat} {e : TypeId} {size : Nat} (h : WS V g B cap n e size W) (hV : Below w.heap.size w V) (hg : w.heap.size ≤ g) : Below w.heap.size w W :=
  ⟨h.os.trans hV.os, h.tape.trans hV.tape, h.output.trans hV.output, by rw [h.size]; exact hV.size, fun b hb => (h.block b (by omega)).trans (hV.block b hb)⟩
theorem ws_ln {V W : World} {g B cap n : Nat} {e : TypeId} {size : Nat} (h : WS V g B cap n e size W) (hne : e ≠ 2) {C : Nat} {v : Value} {X : List Int} (ho : LN.OM V C v X) (hV : ∃ xs, V.ownsRow B e size (.slice (some ⟨g, 0, none⟩) n cap) n xs) : LN.OM W C v X := by
  obtain ⟨xs, hx⟩ := hV
  obtain ⟨c2, fz2, h2⟩ := ownsRow_kind hx g rfl
  exact owns_blk ho (fun b hb => h.block b (fun e1 => by
    obtain ⟨c, fz, h1⟩ := ownsRow_kind ho b hb
    rw [e1, h2] at h1
    injection h1 with h1
    injection h1 with _ h1 _
    exact hne h1))
theorem ln_two {w W : World} {B2 c1 c2 : Nat} {a1 a2 : Option Addr} {X : List Int} (h1 : LN.OM W w.heap.size (.slice a1 X.length c1) X) (h2 : LN.OM W B2 (.slice a2 X.length c2) X) (hlt : ∀ b, (Value.slice a1 X.length c1).ownBlock = some b → b < B2) (hB : w.heap.size ≤ B2) :
    LN.AllB (W.alloc (.cells #[.slice a1 X.length c1, .slice a2 X.length c2] 31)) w.heap.size W.heap.size 2 (fun k => if k = 0 then a1 else a2) (fun _ => X.length) (fun k => if k = 0 then c1 else c2) (fun _ => X) := by
  have N := alloc_new W (.cells #[.slice a1 X.length c1, .slice a2 X.length c2] 31)
  refine ⟨by simp, fun k hk => ?_, fun k hk => ?_, fun k hk => ?_, fun j k b hj hk e1 e2 => ?_⟩
  · match k, hk with
    | 0, _ => exact (pair_cells N rfl).1
    | 1, _ => exact (pair_cells N rfl).2
  · match k, hk with
    | 0, _ => exact World.ownsRow.alloc h1 _
    | 1, _ => exact World.ownsRow.alloc (World.ownsRow.mono h2 hB) _
  · match k, hk with
    | 0, _ => exact fun e => by have := (World.ownsRow.lt h1 _ e).2; omega
    | 1, _ => exact fun e => by have := (World.ownsRow.lt h2 _ e).2; omega
  · match j, hj, k, hk, e1, e2 with
    | 0, _, 0, _, _, _ => rfl
    | 1, _, 1, _, _, _ => rfl
    | 0, _, 1, _, e1, e2 => have h3 := hlt b e1; have := (World.ownsRow.lt h2 b e2).1; omega
    | 1, _, 0, _, e1, e2 => have h3 := hlt b e2; have := (World.ownsRow.lt h2 b e1).1; omega
end Go.Proofs.YtdiamlajmcikhaaGreatDoor
namespace Go.Proofs.YtdiamlajmcikhaaGreatDoor
open Go.RowKit

set_option maxRecDepth 100000 in
set_option maxHeartbeats 4000000 in
theorem guardEncode_law (o : OpX) (lv pv : Value) (w : World) (hE : ErrType w) (hL : LG.RM w lv o.legs) (hP : KY.RM w pv o.pairs) (hl : o.legs.length ≤ 3518437208800) (hp : o.pairs.length ≤ 8796093022000) :
    Calls Tryz.prog 14 #[opV o lv pv] w fun e w' => e = .returned (.bool true) ∧ Below w.heap.size w w' := by
  obtain ⟨la, lc, hlv⟩ := LG.rm_lt hL
  subst hlv
  obtain ⟨pa, pc, hpv⟩ := KY.rm_lt hP
  subst hpv
  have HRE := hide (fun (W : World) (hb : Below w.heap.size w W) => rencode_any o _ _ W (hL.later hb) (hP.later hb) hl hp)
  have HPE := hide (fun (W : World) (l1 p1 : Value) (h1 : LG.RM W l1 o.legs) (h2 : KY.RM W p1 o.pairs) => encode_any o l1 p1 W h1 h2 hl hp)
  have HLL := hide (fun (W : World) (hb : Below w.heap.size w W) => LG.lentMarks_any _ o.legs W (hL.later hb) hl)
  have HLP := hide (fun (W : World) (hb : Below w.heap.size w W) => KY.lentMarks_any _ o.pairs W (hP.later hb) hp)
  have HKL := hide (fun (W : World) (B g cap : Nat) (hb : Below w.heap.size w W) (hm : LG.LentM W B g cap o.legs) => LG.keptMarks_any _ o.legs B g cap W (hL.later hb) hm hl)
  have HKP := hide (fun (W : World) (B g cap : Nat) (hb : Below w.heap.size w W) (hm : KY.LentM W B g cap o.pairs) => KY.keptMarks_any _ o.pairs B g cap W (hP.later hb) hm hp)
  have hr := encE_rng o
  have HPL := hide (fun (W : World) (hE : ErrType W) => plain_errV (encE o) (encE o) W hr.1 hr.2 hE)
  rw [beq_self_eq_true] at HPL
  have hxl := encL_len o hl hp
  unfold ReP at HRE
  unfold EcP at HPE
  generalize errV (encE o) = ev at *
  generalize encE o = e0 at *
  generalize encL o = X at *
  have HSL := hide (fun (va vb : Value) (W : World) (h1 : LN.RM W va X) (h2 : LN.RM W vb X) => LN.sameM_any va vb X X W h1 h2 (by omega) (by omega))
  simp only [decide_true] at HSL
  have HE := hide hE
  clear hE hr hL hP
  unfold opV at HRE HPE ⊢
  have B0 := hide ((Below.refl w.heap.size w).alloc (Nat.le_refl _) (.cells #[.int .i64 o.code, .int .i64 o.acc, .int .i64 o.ass, .int .i64 o.qty, .int .i64 o.name, .int .i64 o.id, .slice la o.legs.length lc, .slice pa o.pairs.length pc] 26))
  have U0 := hide (alloc_new w (.cells #[.int .i64 o.code, .int .i64 o.acc, .int .i64 o.ass, .int .i64 o.qty, .int .i64 o.name, .int .i64 o.id, .slice la o.legs.length lc, .slice pa o.pairs.length pc] 26))
  obtain ⟨y0, y1, y2, y3, y4, y5, y6, y7⟩ := eight_cells U0.out rfl
  go_enter Tryz.func14, Tryz.ntmps14
  go_wp2_with fail
  refine (HRE.out _ B0.out).mono ?_
  rintro e w1 ⟨v0, rfl, hV0, hb⟩
  obtain ⟨va0, vc0, rfl⟩ := LN.OM.slice hV0
  have B1 := hide ((B0.out.trans (hb.mono B0.out.size)).alloc (Nat.le_trans B0.out.size hb.size) (.cells #[.int .i64 o.code, .int .i64 o.acc, .int .i64 o.ass, .int .i64 o.qty, .int .i64 o.name, .int .i64 o.id, .slice la o.legs.length lc, .slice pa o.pairs.length pc] 26))
  have U1 := hide (alloc_block (o := (.cells #[.int .i64 o.code, .int .i64 o.acc, .int .i64 o.ass, .int .i64 o.qty, .int .i64 o.name, .int .i64 o.id, .slice la o.legs.length lc, .slice pa o.pairs.length pc] 26)) (blk_later U0.out hb))
  have V1 := hide (alloc_new w1 (.cells #[.int .i64 o.code, .int .i64 o.acc, .int .i64 o.ass, .int .i64 o.qty, .int .i64 o.name, .int .i64 o.id, .slice la o.legs.length lc, .slice pa o.pairs.length pc] 26))
  have hs1 : w.heap.size + 1 ≤ w1.heap.size := by have := hb.size; simp at this; omega
  have U1' := hide (blk_later U0.out hb)
  have HV0 := hide (World.ownsRow.mono hV0 B0.out.size)
  have HV0a := hide (World.ownsRow.alloc HV0.out (.cells #[.int .i64 o.code, .int .i64 o.acc, .int .i64 o.ass, .int .i64 o.qty, .int .i64 o.name, .int .i64 o.id, .slice la o.legs.length lc, .slice pa o.pairs.length pc] 26))
  have LT0 := hide (fun b hb => (World.ownsRow.lt HV0.out b hb).2)
  clear hb hV0 y0 y1 y2 y3 y4 y5 y6 y7 HRE
  obtain ⟨y0, y1, y2, y3, y4, y5, y6, y7⟩ := eight_cells U1'.out rfl
  obtain ⟨u0, u1, u2, u3, u4, u5, u6, u7⟩ := eight_cells U1.out rfl
  go_wp2_with fail
  refine (HLL.out _ B1.out).mono ?_
  rintro e w2 ⟨g, cap, rfl, hLM, hb⟩
  have hBx : w1.heap.size < (w1.alloc (.cells #[.int .i64 o.code, .int .i64 o.acc, .int .i64 o.ass, .int .i64 o.qty, .int .i64 o.name, .int .i64 o.id, .slice la o.legs.length lc, .slice pa o.pairs.length pc] 26)).heap.size := by simp
  have V2 := hide (blk_later V1.out hb)
  have U2 := hide (blk_later U1.out hb)
  have B2 := hide (B1.out.trans (hb.mono B1.out.size))
  have HV0b := hide (owns_lat HV0a.out hb)
  have f2 := no_froz V2.out 6
  obtain ⟨v0, v1, v2, v3, v4, v5, v6, v7⟩ := eight_cells V2.out rfl
  obtain ⟨W2, hW2⟩ : ∃ x, w2.setCell ⟨w1.heap.size, 6, none⟩ (.slice (some ⟨g, 0, none⟩) o.legs.length cap) = x := ⟨_, rfl⟩
  have V3 := hide (set_blk V2.out 6 (.slice (some ⟨g, 0, none⟩) o.legs.length cap) rfl)
  have U3 := hide ((Below.heap_setCell w2 ⟨w1.heap.size, 6, none⟩ (.slice (some ⟨g, 0, none⟩) o.legs.length cap) w.heap.size (by show w.heap.size ≠ w1.heap.size; omega)).trans U2.out)
  have HLM := hide (lgM_set (i := 6) (v := (.slice (some ⟨g, 0, none⟩) o.legs.length cap)) hLM hBx)
  have B3 := hide (B2.out.setCell (p := ⟨w1.heap.size, 6, none⟩) (by show w.heap.size ≤ w1.heap.size; omega) (.slice (some ⟨g, 0, none⟩) o.legs.length cap))
  have HV0c : Hid (LN.OM (w2.setCell ⟨w1.heap.size, 6, none⟩ (.slice (some ⟨g, 0, none⟩) o.legs.length cap)) w.heap.size (.slice va0 X.length vc0) X) := hide (owns_blk HV0b.out (fun b hb => Below.heap_setCell _ _ _ b (by show b ≠ w1.heap.size; have := LT0.out b hb; omega)))
  rw [hW2] at V3 U3 HLM B3 HV0c
  clear hb hLM y0 y1 y2 y3 y4 y5 y6 y7 u0 u1 u2 u3 u4 u5 u6 u7
  obtain ⟨y0, y1, y2, y3, y4, y5, y6, y7⟩ := eight_cells U3.out rfl
  go_wp2_with fail
  refine (HLP.out _ B3.out).mono ?_
  rintro e w3 ⟨g2, cap2, rfl, hPM, hb⟩
  have hBy : w1.heap.size < W2.heap.size := (Array.getElem?_eq_some_iff.1 V3.out).1
  have V4 := hide (blk_later V3.out hb)
  have U4 := hide (blk_later U3.out hb)
  have B4 := hide (B3.out.trans (hb.mono B3.out.size))
  have HV0d := hide (owns_lat HV0c.out hb)
  have f4 := no_froz V4.out 7
  clear v0 v1 v2 v3 v4 v5 v6 v7
  obtain ⟨v0, v1, v2, v3, v4, v5, v6, v7⟩ := eight_cells V4.out rfl
  obtain ⟨W4, hW4⟩ : ∃ x, w3.setCell ⟨w1.heap.size, 7, none⟩ (.slice (some ⟨g2, 0, none⟩) o.pairs.length cap2) = x := ⟨_, rfl⟩
  have V5 := hide (set_blk V4.out 7 (.slice (some ⟨g2, 0, none⟩) o.pairs.length cap2) rfl)
  have U5 := hide ((Below.heap_setCell w3 ⟨w1.heap.size, 7, none⟩ (.slice (some ⟨g2, 0, none⟩) o.pairs.length cap2) w.heap.size (by show w.heap.size ≠ w1.heap.size; omega)).trans U4.out)
  have HLM5 := hide (lgM_set (i := 7) (v := (.slice (some ⟨g2, 0, none⟩) o.pairs.length cap2)) (HLM.out.later hb) hBx)
  have HPM5 := hide (kyM_set (i := 7) (v := (.slice (some ⟨g2, 0, none⟩) o.pairs.length cap2)) hPM hBy)
  have B5 := hide (B4.out.setCell (p := ⟨w1.heap.size, 7, none⟩) (by show w.heap.size ≤ w1.heap.size; omega) (.slice (some ⟨g2, 0, none⟩) o.pairs.length cap2))
  have HV0e : Hid (LN.OM (w3.setCell ⟨w1.heap.size, 7, none⟩ (.slice (some ⟨g2, 0, none⟩) o.pairs.length cap2)) w.heap.size (.slice va0 X.length vc0) X) := hide (owns_blk HV0d.out (fun b hb => Below.heap_setCell _ _ _ b (by show b ≠ w1.heap.size; have := LT0.out b hb; omega)))
  rw [hW4] at V5 U5 HLM5 HPM5 B5 HV0e
  clear hb hPM y0 y1 y2 y3 y4 y5 y6 y7 hW2 f2
  obtain ⟨u0, u1, u2, u3, u4, u5, u6, u7⟩ := eight_cells V5.out rfl
  go_wp2_with fail
  refine (HPE.out _ _ _ HLM5.out.rm HPM5.out.rm).mono ?_
  rintro e w6 ⟨v1', rfl, hV1, hb⟩
  obtain ⟨va1, vc1, rfl⟩ := LN.OM.slice hV1
  have V6 := hide (blk_later V5.out hb)
  have U6 := hide (blk_later U5.out hb)
  have B6 := hide (B5.out.trans (hb.mono B5.out.size))
  have HLM6 := hide (HLM5.out.later hb)
  have HPM6 := hide (HPM5.out.later hb)
  have HV06 := hide (owns_lat HV0e.out hb)
  have HV16 := hide (World.ownsRow.mono hV1 B5.out.size)
  have LT1 := hide (fun b hb => (World.ownsRow.lt HV16.out b hb).2)
  clear hb hV1 hW4 f4 v0 v1 v2 v3 v4 v5 v6 v7 u0 u1 u2 u3 u4 u5 u6 u7
  obtain ⟨u0, u1, u2, u3, u4, u5, u6, u7⟩ := eight_cells V6.out rfl
  go_wp2_with fail
  refine (HPE.out _ _ _ HLM6.out.rm HPM6.out.rm).mono ?_
  rintro e w7 ⟨v2', rfl, hV2, hb⟩
  obtain ⟨va2, vc2, rfl⟩ := LN.OM.slice hV2
  have X7 : Hid (ES w o X (w1.alloc (.cells #[.int .i64 o.code, .int .i64 o.acc, .int .i64 o.ass, .int .i64 o.qty, .int .i64 o.name, .int .i64 o.id, .slice la o.legs.length lc, .slice pa o.pairs.length pc] 26)).heap.size g cap W2.heap.size g2 cap2 w6.heap.size (.slice la o.legs.length lc) (.slice pa o.pairs.length pc) (.slice va0 X.length vc0) (.slice va1 X.length vc1) (.slice va2 X.length vc2) w7) := hide ⟨B6.out.trans (hb.mono B6.out.size), blk_later U6.out hb, HLM6.out.later hb, HPM6.out.later hb, owns_lat HV06.out hb, owns_lat HV16.out hb, hV2, LT1.out, B6.out.size⟩
  have hg1 := hide (show w.heap.size ≤ g by have h1 := HLM6.out.base; have h2 := hBx; omega)
  have hg2 := hide (show w.heap.size ≤ g2 by have h1 := HPM6.out.base; have h2 := hBy; omega)
  clear hb hV2 u0 u1 u2 u3 u4 u5 u6 u7 V6 U6 B6 HLM6 HPM6 HV06 HV16 LT1 HLM5 HPM5 HV0e V5 U5 B5 HV0d V4 U4 B4 HV0c V3 U3 B3 HLM HV0b V2 U2 B2 HV0a HV0 V1 U1 U1' B1 U0 LT0
  go_wp2_with fail
  refine (HPL.out _ (HE.out.below X7.out.low)).mono ?_
  rintro e w8 ⟨rfl, hb⟩
  have X8 := hide (X7.out.later hb)
  clear hb X7
  go_wp2_with fail
  refine (HPL.out _ (HE.out.below X8.out.low)).mono ?_
  rintro e w9 ⟨rfl, hb⟩
  have X9 := hide (X8.out.later hb)
  clear hb X8
  go_wp2_with fail
  refine (HSL.out _ _ _ X9.out.V1.rm X9.out.V0.rm).mono ?_
  rintro e wa ⟨rfl, hb⟩
  have XA := hide (X9.out.later hb)
  clear hb X9
  go_wp2_with fail
  refine (HSL.out _ _ _ XA.out.V2.rm XA.out.V0.rm).mono ?_
  rintro e wb ⟨rfl, hb⟩
  have XB := hide (XA.out.later hb)
  clear hb XA
  obtain ⟨y0, y1, y2, y3, y4, y5, y6, y7⟩ := eight_cells XB.out.cb rfl
  go_wp2_with fail
  refine (HKL.out _ _ _ _ XB.out.low XB.out.lg).mono ?_
  rintro e wc ⟨rfl, hb⟩
  have XC := hide (XB.out.later hb)
  clear hb XB y0 y1 y2 y3 y4 y5 y6 y7
  obtain ⟨y0, y1, y2, y3, y4, y5, y6, y7⟩ := eight_cells XC.out.cb rfl
  go_wp2_with fail
  refine (HKP.out _ _ _ _ XC.out.low XC.out.ky).mono ?_
  rintro e wd ⟨rfl, hb⟩
  have XD := hide (XC.out.later hb)
  clear hb XC y0 y1 y2 y3 y4 y5 y6 y7
  go_wp2_with fail
  obtain ⟨VV, hVV⟩ : ∃ x, x = wd := ⟨_, rfl⟩
  subst hVV
  have HW0 : Hid (WS VV g (w1.alloc (.cells #[.int .i64 o.code, .int .i64 o.acc, .int .i64 o.ass, .int .i64 o.qty, .int .i64 o.name, .int .i64 o.id, .slice la o.legs.length lc, .slice pa o.pairs.length pc] 26)).heap.size cap (o.legs.length + 16) 38 5 VV) := hide ⟨⟨_, XD.out.lg.own⟩, rfl, rfl, rfl, rfl, fun _ _ => rfl⟩
  go_loopw [12] (fun i wr => ∃ j : Nat, j ≤ o.legs.length ∧ i = .int .i64 (j : Int) ∧ Hid (WS VV g (w1.alloc (.cells #[.int .i64 o.code, .int .i64 o.acc, .int .i64 o.ass, .int .i64 o.qty, .int .i64 o.name, .int .i64 o.id, .slice la o.legs.length lc, .slice pa o.pairs.length pc] 26)).heap.size cap (o.legs.length + 16) 38 5 wr)) (fun i _ => o.legs.length - (intOf i).toNat)
  case atStart => exact ⟨0, Nat.zero_le _, rfl, HW0⟩
  case round =>
    clear HW0
    obtain ⟨j, hj, rfl, HWO⟩ := hrel
    have hcl : (o.legs.length : Int) ≤ (cap : Int) := by
      obtain ⟨xs, hx⟩ := HWO.out.own
      rcases hx.2 with ⟨h0, _⟩ | ⟨g9, cap9, cur, hv9, _, _, hn9, _⟩
      · cases h0
      · injection hv9 with _ _ e9; omega
    by_cases hlt : j < o.legs.length
    · obtain ⟨⟨d0, c0⟩, f0⟩ := HWO.out.cell (k := j * 5) (by omega)
      obtain ⟨⟨d1, c1⟩, f1⟩ := HWO.out.cell (k := j * 5 + 1) (by omega)
      obtain ⟨⟨d2, c2⟩, f2⟩ := HWO.out.cell (k := j * 5 + 2) (by omega)
      obtain ⟨⟨d3, c3⟩, f3⟩ := HWO.out.cell (k := j * 5 + 3) (by omega)
      obtain ⟨⟨d4, c4⟩, f4⟩ := HWO.out.cell (k := j * 5 + 4) (by omega)
      have HW2 := hide (((((HWO.out.set (j * 5) (.int .i64 9)).set (j * 5 + 1) (.int .i64 0)).set (j * 5 + 2) (.int .i64 0)).set (j * 5 + 3) (.int .i64 9)).set (j * 5 + 4) (.int .i64 0))
      have hd : decide ((j : Int) < (o.legs.length : Int)) = true := by rw [decide_eq_true_eq]; omega
      clear HWO
      go_wp2_with fail
      go_roundw
      case rel => exact ⟨j + 1, by omega, by go_num, HW2⟩
      case measure => simp [intOf]; omega
    · have hd : decide ((j : Int) < (o.legs.length : Int)) = false := by rw [decide_eq_false_iff_not]; omega
      have L1 := hide (ws_below HWO.out XD.out.low hg1.out)
      have R0 := hide (ws_ln HWO.out (by decide) XD.out.V0 ⟨_, XD.out.lg.own⟩)
      have R1 := hide (ws_ln HWO.out (by decide) XD.out.V1 ⟨_, XD.out.lg.own⟩)
      have R2 := hide (ws_ln HWO.out (by decide) XD.out.V2 ⟨_, XD.out.lg.own⟩)
      have K1 : Hid (∃ xs, wr.ownsRow W2.heap.size 40 2 (.slice (some ⟨g2, 0, none⟩) (o.pairs.length + 16) cap2) (o.pairs.length + 16) xs) := hide ⟨_, owns_blk XD.out.ky.own (fun b hb => HWO.out.block b (fun e1 => by
        obtain ⟨c, fz, h1⟩ := ownsRow_kind XD.out.ky.own b hb
        obtain ⟨c9, fz9, h2⟩ := ownsRow_kind XD.out.lg.own g rfl
        rw [e1, h2] at h1
        injection h1 with h1
        injection h1 with _ h1 _
        exact absurd h1 (by decide)))⟩
      have LTB := hide XD.out.lt1
      have HBB := hide XD.out.hB
      clear HWO XD hcl
      go_wp2_with fail
      obtain ⟨VV2, hVV2⟩ : ∃ x, x = wr := ⟨_, rfl⟩
      subst hVV2
      have HW1 : Hid (WS VV2 g2 W2.heap.size cap2 (o.pairs.length + 16) 40 2 VV2) := hide ⟨K1.out, rfl, rfl, rfl, rfl, fun _ _ => rfl⟩
      go_loopw [13] (fun i wr => ∃ j : Nat, j ≤ o.pairs.length ∧ i = .int .i64 (j : Int) ∧ Hid (WS VV2 g2 W2.heap.size cap2 (o.pairs.length + 16) 40 2 wr)) (fun i _ => o.pairs.length - (intOf i).toNat)
      case atStart => exact ⟨0, Nat.zero_le _, rfl, HW1⟩
      case round =>
        clear HW1
        obtain ⟨j2, hj2, rfl, HWO⟩ := hrel
        have hcl : (o.pairs.length : Int) ≤ (cap2 : Int) := by
          obtain ⟨xs, hx⟩ := HWO.out.own
          rcases hx.2 with ⟨h0, _⟩ | ⟨g9, cap9, cur, hv9, _, _, hn9, _⟩
          · cases h0
          · injection hv9 with _ _ e9; omega
        by_cases hlt2 : j2 < o.pairs.length
        · obtain ⟨⟨d0, c0⟩, f0⟩ := HWO.out.cell (k := j2 * 2) (by omega)
          obtain ⟨⟨d1, c1⟩, f1⟩ := HWO.out.cell (k := j2 * 2 + 1) (by omega)
          have HW2 := hide ((HWO.out.set (j2 * 2) (.int .i64 9)).set (j2 * 2 + 1) (.int .i64 0))
          have hd2 : decide ((j2 : Int) < (o.pairs.length : Int)) = true := by rw [decide_eq_true_eq]; omega
          clear HWO
          go_wp2_with fail
          go_roundw
          case rel => exact ⟨j2 + 1, by omega, by go_num, HW2⟩
          case measure => simp [intOf]; omega
        · have hd2 : decide ((j2 : Int) < (o.pairs.length : Int)) = false := by rw [decide_eq_false_iff_not]; omega
          have L2 := hide (ws_below HWO.out L1.out hg2.out)
          have S0 := hide (ws_ln HWO.out (by decide) R0.out K1.out)
          have S1 := hide (ws_ln HWO.out (by decide) R1.out K1.out)
          have S2 := hide (ws_ln HWO.out (by decide) R2.out K1.out)
          clear HWO R0 R1 R2 L1 K1 hcl
          go_wp2_with fail
          refine (HSL.out _ _ _ S1.out.rm S0.out.rm).mono ?_
          rintro e we ⟨rfl, hb⟩
          have L3 := hide (L2.out.trans (hb.mono L2.out.size))
          have T0 := hide (show LN.OM we w.heap.size (.slice va0 X.length vc0) X from owns_lat S0.out hb)
          have T1 := hide (show LN.OM we w.heap.size (.slice va1 X.length vc1) X from owns_lat S1.out hb)
          have T2 := hide (show LN.OM we w6.heap.size (.slice va2 X.length vc2) X from owns_lat S2.out hb)
          clear hb S0 S1 S2 L2
          go_wp2_with fail
          refine (HSL.out _ _ _ T2.out.rm T0.out.rm).mono ?_
          rintro e wf ⟨rfl, hb⟩
          have L4 := hide (L3.out.trans (hb.mono L3.out.size))
          have Y1 := hide (show LN.OM wf w.heap.size (.slice va1 X.length vc1) X from owns_lat T1.out hb)
          have Y2 := hide (show LN.OM wf w6.heap.size (.slice va2 X.length vc2) X from owns_lat T2.out hb)
          clear hb T0 T1 T2 L3
          have HAL := hide (ln_two Y1.out Y2.out LTB.out HBB.out)
          have HLOW := hide (L4.out.alloc L4.out.size (.cells #[.slice va1 X.length vc1, .slice va2 X.length vc2] 31))
          have HAP := hide (LN.apartLongs_sp w.heap.size wf.heap.size 2 2 _ _ _ _ _ HAL.out (fun _ => by omega) (by omega) (Nat.le_refl _) HLOW.out.size)
          go_wp2_with fail
          refine HAP.out.mono ?_
          rintro e wg ⟨rfl, hsp⟩
          have HFIN := hide (sp_below hsp HLOW.out (fun k hk b e => (World.ownsRow.lt (HAL.out.own k hk) b e).1))
          clear hsp HAP
          go_wp2_with fail
          go_ret
          exact ⟨rfl, HFIN.out⟩
end Go.Proofs.YtdiamlajmcikhaaGreatDoor
