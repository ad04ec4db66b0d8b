/-
  My own text: what lies about each end.
-/
import Derived.Test.YthalmfbcdkihgaaDoorKW1
import Derived.Test.YthalmfbcdkihgaaDoorKW2
import Derived.Test.YthalmfbcdkihgaaDoorWQ7
import Derived.Test.YthalmfbcdkihgaaDoorWZ3
import Derived.Deep.RegionHeld3
namespace Go.Proofs.YthalmfbcdkihgaaDoor
open Go.RowKit Go.Extern

theorem RQ.later {w w1 : World} {v : Value} {ps : List Gt} (h : RQ w v ps) (hb : Below w.heap.size w w1) : RQ w1 v ps := by
  obtain ⟨a, cap, hv, h | ⟨b, off, ha, hlt, hc⟩⟩ := h
  · exact ⟨a, cap, hv, .inl h⟩
  · refine ⟨a, cap, hv, .inr ⟨b, off, ha, Nat.lt_of_lt_of_le hlt hb.size, fun j p hj => ?_⟩⟩
    obtain ⟨c0, c1, c2, c3⟩ := hc j p hj
    exact ⟨(hb.cell hlt).trans c0, (hb.cell hlt).trans c1, (hb.cell hlt).trans c2, (hb.cell hlt).trans c3⟩
def gcells : List Gt → List Value
  | [] => []
  | p :: r => .int .i64 p.on :: .int .i64 p.kd :: .int .u64 p.x :: .int .i64 p.n :: gcells r
theorem gcells_at : ∀ (ps : List Gt) (j : Nat) (p : Gt), ps[j]? = some p → (gcells ps)[j * 4]? = some (.int .i64 p.on) ∧ (gcells ps)[j * 4 + 1]? = some (.int .i64 p.kd) ∧ (gcells ps)[j * 4 + 2]? = some (.int .u64 p.x) ∧ (gcells ps)[j * 4 + 3]? = some (.int .i64 p.n)
  | q :: r, 0, p, h => by
    have e : q = p := Option.some.inj h
    subst e; exact ⟨rfl, rfl, rfl, rfl⟩
  | q :: r, j + 1, p, h => by
    have h2 := gcells_at r j p h
    have e : ∀ i, (gcells (q :: r))[(j + 1) * 4 + i]? = (gcells r)[j * 4 + i]? := fun i => by
      rw [show (j + 1) * 4 + i = (j * 4 + i) + 4 by omega]
      simp [gcells]
    exact ⟨(e 0).trans h2.1, (e 1).trans h2.2.1, (e 2).trans h2.2.2.1, (e 3).trans h2.2.2.2⟩
theorem rq_blk {W : World} {g : Nat} {t : TypeId} (ps : List Gt) (h : Blk W g (gcells ps).toArray t) : RQ W (.slice (some ⟨g, 0, none⟩) ps.length ps.length) ps := by
  refine ⟨_, _, rfl, .inr ⟨g, 0, rfl, h.lt, fun j p hj => ?_⟩⟩
  obtain ⟨h1, h2, h3, h4⟩ := gcells_at ps j p hj
  simp only [Nat.zero_add]
  exact ⟨(h.cell _).trans (by simpa using h1), (h.cell _).trans (by simpa using h2), (h.cell _).trans (by simpa using h3), (h.cell _).trans (by simpa using h4)⟩
def pcells : List Pt → List Value
  | [] => []
  | p :: r => .int .i64 p.on :: .int .i64 p.kd :: .int .u64 p.x :: .string ⟨p.s.toArray⟩ :: pcells r
theorem pcells_at : ∀ (ps : List Pt) (j : Nat) (p : Pt), ps[j]? = some p → (pcells ps)[j * 4]? = some (.int .i64 p.on) ∧ (pcells ps)[j * 4 + 1]? = some (.int .i64 p.kd) ∧ (pcells ps)[j * 4 + 2]? = some (.int .u64 p.x) ∧ (pcells ps)[j * 4 + 3]? = some (.string ⟨p.s.toArray⟩)
  | q :: r, 0, p, h => by
    have e : q = p := Option.some.inj h
    subst e; exact ⟨rfl, rfl, rfl, rfl⟩
  | q :: r, j + 1, p, h => by
    have h2 := pcells_at r j p h
    have e : ∀ i, (pcells (q :: r))[(j + 1) * 4 + i]? = (pcells r)[j * 4 + i]? := fun i => by
      rw [show (j + 1) * 4 + i = (j * 4 + i) + 4 by omega]
      simp [pcells]
    exact ⟨(e 0).trans h2.1, (e 1).trans h2.2.1, (e 2).trans h2.2.2.1, (e 3).trans h2.2.2.2⟩
theorem rp_blk {W : World} {g : Nat} {t : TypeId} (ps : List Pt) (h : Blk W g (pcells ps).toArray t) : RP W (.slice (some ⟨g, 0, none⟩) ps.length ps.length) ps := by
  refine ⟨_, _, rfl, .inr ⟨g, 0, rfl, h.lt, fun j p hj => ?_⟩⟩
  obtain ⟨h1, h2, h3, h4⟩ := pcells_at ps j p hj
  simp only [Nat.zero_add]
  exact ⟨(h.cell _).trans (by simpa using h1), (h.cell _).trans (by simpa using h2), (h.cell _).trans (by simpa using h3), (h.cell _).trans (by simpa using h4)⟩
set_option maxRecDepth 100000 in
set_option maxHeartbeats 2000000 in
theorem edged_any (w : World) (hT : Tab w) (hE : ErrType w) : Calls Tryd.prog 5 #[] w fun e w' => e = .returned (.bool true) ∧ Below w.heap.size w w' := by
  have HSm := hide (some_any w)
  have HFr : Hid (∀ W : World, Below w.heap.size w W → Calls Tryd.prog 27 #[] W fun e w' => e = .returned (.bool true) ∧ Below W.heap.size W w') := hide (fun W hb => framesK_any W (hT.below hb) (hE.below hb))
  have HUn : Hid (∀ (W : World) (v : Value) (l : List UInt8), Below w.heap.size w W → RB W v l → l.length ≤ 200000 → Calls Tryd.prog 26 #[v] W fun e w' => e = .returned (.bool true) ∧ Below W.heap.size W w') := hide (fun W v l hb hv hl => unframes_law v l W hv (hT.below hb) (hE.below hb) (by omega))
  have HRd : Hid (∀ (W : World) (va vb vs : Value) (La Lb : List UInt8) (ps : List Gt), Below w.heap.size w W → RB W va La → RB W vb Lb → RQ W vs ps → La.length ≤ 1000 → Lb.length ≤ 1000 → ps.length ≤ 1000 → (∀ p ∈ ps, p.n ≤ 9223372036854775807) → Calls Tryd.prog 25 #[va, vb, vs] W fun e w' => e = .returned (.bool true) ∧ Below W.heap.size W w') := hide (fun W va vb vs La Lb ps hb h1 h2 h3 h4 h5 h6 h7 => reads_law va vb vs La Lb ps W h1 h2 h3 (hE.below hb) (by omega) (by omega) (by omega) h7)
  have HWr : Hid (∀ (W : World) (vs : Value) (ps : List Pt), RP W vs ps → (∀ p ∈ ps, okP p) → ps.length ≤ 1000 → Calls Tryd.prog 23 #[vs] W fun e w' => e = .returned (.bool true) ∧ Below W.heap.size W w') := hide (fun W vs ps h1 h2 h3 => writes_law vs ps W h1 h2 (by omega))
  clear hT hE
  go_enter Tryd.func5, Tryd.ntmps5
  go_wp2_with fail
  refine HSm.out.mono ?_
  rintro e w1 ⟨v1, l, rfl, ho1, hok, hlen, hb1⟩
  have HB1 := hide hb1
  have HO1 := hide ho1
  have HK := hide hok
  obtain ⟨g, cap, hv, hg1, hg2⟩ := World.ownsRow.form ho1 (by omega)
  rw [hlen] at hv
  subst hv
  have HLn := hide hlen
  clear ho1 hok hb1 hlen HSm
  go_wp2_with fail
  have HC : Hid (∀ k : Nat, k < 31 → ∃ x : Int, (∀ W : World, Below w1.heap.size w1 W → W.cell? ⟨g, k, none⟩ = some (.int .u64 x)) ∧ 0 ≤ x ∧ x < 18446744073709551616) := hide (fun k hk => by
    have ho := HO1.out
    rw [HLn.out] at ho
    obtain ⟨x, hx⟩ : ∃ x, l[k]? = some x := ⟨l[k]'(by rw [HLn.out]; exact hk), List.getElem?_eq_getElem _⟩
    refine ⟨x, fun W hW => (hW.cell (p := ⟨g, k, none⟩) hg2).trans ?_, HK.out x (List.mem_of_getElem? hx)⟩
    rw [World.ownsRow.cellAt ho k (by omega)]
    unfold uv
    rw [List.getElem?_map, hx]; rfl)
  have hs1 := HB1.out.size
  clear HO1 HK HLn
  go_loopw [2] (fun i wr => ∃ k : Nat, k ≤ 31 ∧ i = .int .i64 k ∧ Hid (Below w1.heap.size w1 wr)) (fun i _ => 31 - (intOf i).toNat)
  case atStart => exact ⟨0, by omega, rfl, hide (Below.refl _ _)⟩
  case round =>
    obtain ⟨k, hk, rfl, HB⟩ := hrel
    have HBw := hide (HB1.out.trans (HB.out.mono hs1))
    by_cases hlt : k < 31
    · obtain ⟨x, hX, x0, x1⟩ := HC.out k hlt
      have HX := hide hX
      have hx := hX wr HB.out
      clear hX
      have k0 : (0 : Int) ≤ (k : Int) := by omega
      have k1 : (k : Int) < 31 := by omega
      have dk : decide ((k : Int) < 31) = true := by rw [decide_eq_true_eq]; omega
      go_wp2_with fail
      go_region_held3 (fun W => W.cell? ⟨g, k, none⟩ = some (.int .u64 x)) (go_keep) ((first | fail))
      go_wp2_with fail
      have HRP : Hid (RP (wr.alloc (.cells #[.int .i64 0, .int .i64 0, .int .u64 x, .string ⟨#[]⟩, .int .i64 0, .int .i64 1, .int .u64 x, .string ⟨#[]⟩, .int .i64 0, .int .i64 1, .int .u64 (IntKind.u64.wrap (-x)), .string ⟨#[]⟩, .int .i64 0, .int .i64 9, .int .u64 0, .string ⟨#[]⟩] 54)).drew (.slice (some ⟨wr.heap.size, 0, none⟩) 4 4) [⟨0, 0, x, []⟩, ⟨0, 1, x, []⟩, ⟨0, 1, IntKind.u64.wrap (-x), []⟩, ⟨0, 9, 0, []⟩]) := hide (rp_blk (W := (wr.alloc (.cells #[.int .i64 0, .int .i64 0, .int .u64 x, .string ⟨#[]⟩, .int .i64 0, .int .i64 1, .int .u64 x, .string ⟨#[]⟩, .int .i64 0, .int .i64 1, .int .u64 (IntKind.u64.wrap (-x)), .string ⟨#[]⟩, .int .i64 0, .int .i64 9, .int .u64 0, .string ⟨#[]⟩] 54)).drew) (t := 54) [⟨0, 0, x, []⟩, ⟨0, 1, x, []⟩, ⟨0, 1, IntKind.u64.wrap (-x), []⟩, ⟨0, 9, 0, []⟩] (Blk.new wr #[.int .i64 0, .int .i64 0, .int .u64 x, .string ⟨#[]⟩, .int .i64 0, .int .i64 1, .int .u64 x, .string ⟨#[]⟩, .int .i64 0, .int .i64 1, .int .u64 (IntKind.u64.wrap (-x)), .string ⟨#[]⟩, .int .i64 0, .int .i64 9, .int .u64 0, .string ⟨#[]⟩] 54))
      have hwx : 0 ≤ IntKind.u64.wrap (-x) ∧ IntKind.u64.wrap (-x) < 18446744073709551616 := by rw [IntKind.wrap_u64]; omega
      have HOKp : Hid (∀ p ∈ ([⟨0, 0, x, []⟩, ⟨0, 1, x, []⟩, ⟨0, 1, IntKind.u64.wrap (-x), []⟩, ⟨0, 9, 0, []⟩] : List Pt), okP p) := hide (fun p hp => by
        simp only [List.mem_cons, List.not_mem_nil, or_false] at hp
        rcases hp with rfl | rfl | rfl | rfl
        · exact ⟨x0, x1, by simp⟩
        · exact ⟨x0, x1, by simp⟩
        · exact ⟨hwx.1, hwx.2, by simp⟩
        · exact ⟨by decide, by decide, by simp⟩)
      have HB2 : Hid (Below w1.heap.size w1 (wr.alloc (.cells #[.int .i64 0, .int .i64 0, .int .u64 x, .string ⟨#[]⟩, .int .i64 0, .int .i64 1, .int .u64 x, .string ⟨#[]⟩, .int .i64 0, .int .i64 1, .int .u64 (IntKind.u64.wrap (-x)), .string ⟨#[]⟩, .int .i64 0, .int .i64 9, .int .u64 0, .string ⟨#[]⟩] 54)).drew) := hide ((HB.out.alloc HB.out.size _).drew)
      have HW2 := hide (HWr.out _ _ _ HRP.out HOKp.out (by simp))
      clear HRP hwx HOKp hx
      generalize (wr.alloc (.cells #[.int .i64 0, .int .i64 0, .int .u64 x, .string ⟨#[]⟩, .int .i64 0, .int .i64 1, .int .u64 x, .string ⟨#[]⟩, .int .i64 0, .int .i64 1, .int .u64 (IntKind.u64.wrap (-x)), .string ⟨#[]⟩, .int .i64 0, .int .i64 9, .int .u64 0, .string ⟨#[]⟩] 54)).drew = W2 at HB2 HW2 ⊢
      refine HW2.out.mono ?_
      rintro e W3 ⟨rfl, hb⟩
      have HB3 := hide (HB2.out.trans (hb.mono HB2.out.size))
      have hx := HX.out W3 HB3.out
      have HPu := hide (refPutUint_any x W3.heap.size (.slice none 0 0) [] W3 x0 x1 (Own.nil _ _) (Nat.le_refl _) (by simp))
      have f9 := form_le x
      have f1 := form_len x
      rw [List.nil_append] at HPu
      obtain ⟨F, hF⟩ : ∃ F, Hid (form x = F) := ⟨_, hide rfl⟩
      rw [hF.out] at HPu f9 f1
      have fpos : 0 < F.length := by omega
      clear hb HB2 HW2 hF f1 HB HBw
      go_wp2_with fail
      refine HPu.out.mono ?_
      rintro e W4 ⟨v4, rfl, ho4, hg4⟩
      have hb4 : Below W3.heap.size W3 W4 := hg4.toBelow (Below.refl _ _) (Nat.le_refl _) (fun g h => by cases h)
      have HB4 := hide (HB3.out.trans (hb4.mono HB3.out.size))
      have HO4 := hide ho4
      have hform : ∃ gb cb, v4 = .slice (some ⟨gb, 0, none⟩) F.length cb ∧ F.length ≤ cb := by
        have h := ho4
        unfold Own at h
        obtain ⟨gb, cb, h2, _, _⟩ := World.ownsRow.form h fpos
        obtain ⟨g', ⟨a', c', e', hc', _⟩, _⟩ := ho4.rg
        rw [h2] at e'
        injection e' with _ _ e3
        exact ⟨gb, cb, h2, by rw [e3]; exact hc'⟩
      obtain ⟨gb, cb, rfl, hcb⟩ := hform
      clear ho4 hg4 hb4 HPu HB3 hx
      go_wp2_with fail
      go_loopw [5] (fun i wz => ∃ n : Nat, n ≤ F.length + 1 ∧ i = .int .i64 n ∧ Hid (Below w1.heap.size w1 wz) ∧ Hid (Own wz W3.heap.size (.slice (some ⟨gb, 0, none⟩) F.length cb) F)) (fun i _ => F.length + 1 - (intOf i).toNat)
      case atStart => exact ⟨0, by omega, rfl, HB4, HO4⟩
      case round =>
        obtain ⟨wz, hwz⟩ : ∃ q, q = wr := ⟨_, rfl⟩
        subst hwz
        clear HB4 HO4
        obtain ⟨n, hn, rfl, HB5, HO5⟩ := hrel
        by_cases hln : n ≤ F.length
        · have dn : decide ((n : Int) ≤ (F.length : Int)) = true := by rw [decide_eq_true_eq]; omega
          have hx := HX.out wz HB5.out
          go_wp2_with fail
          go_region_held3 (fun W => W.cell? ⟨g, k, none⟩ = some (.int .u64 x)) (go_keep) ((first | fail))
          have HQ1 : Hid (RQ (wz.alloc (.cells #[.int .i64 0, .int .i64 0, .int .u64 (IntKind.u64.wrap (x - 1)), .int .i64 0, .int .i64 0, .int .i64 3, .int .u64 0, .int .i64 0, .int .i64 0, .int .i64 4, .int .u64 0, .int .i64 0, .int .i64 0, .int .i64 5, .int .u64 0, .int .i64 0, .int .i64 1, .int .i64 0, .int .u64 x, .int .i64 0, .int .i64 1, .int .i64 5, .int .u64 0, .int .i64 0] 59)).drew (.slice (some ⟨wz.heap.size, 0, none⟩) 6 6) [⟨0, 0, IntKind.u64.wrap (x - 1), 0⟩, ⟨0, 3, 0, 0⟩, ⟨0, 4, 0, 0⟩, ⟨0, 5, 0, 0⟩, ⟨1, 0, x, 0⟩, ⟨1, 5, 0, 0⟩]) := hide (rq_blk (W := (wz.alloc (.cells #[.int .i64 0, .int .i64 0, .int .u64 (IntKind.u64.wrap (x - 1)), .int .i64 0, .int .i64 0, .int .i64 3, .int .u64 0, .int .i64 0, .int .i64 0, .int .i64 4, .int .u64 0, .int .i64 0, .int .i64 0, .int .i64 5, .int .u64 0, .int .i64 0, .int .i64 1, .int .i64 0, .int .u64 x, .int .i64 0, .int .i64 1, .int .i64 5, .int .u64 0, .int .i64 0] 59)).drew) (t := 59) [⟨0, 0, IntKind.u64.wrap (x - 1), 0⟩, ⟨0, 3, 0, 0⟩, ⟨0, 4, 0, 0⟩, ⟨0, 5, 0, 0⟩, ⟨1, 0, x, 0⟩, ⟨1, 5, 0, 0⟩] (Blk.new wz #[.int .i64 0, .int .i64 0, .int .u64 (IntKind.u64.wrap (x - 1)), .int .i64 0, .int .i64 0, .int .i64 3, .int .u64 0, .int .i64 0, .int .i64 0, .int .i64 4, .int .u64 0, .int .i64 0, .int .i64 0, .int .i64 5, .int .u64 0, .int .i64 0, .int .i64 1, .int .i64 0, .int .u64 x, .int .i64 0, .int .i64 1, .int .i64 5, .int .u64 0, .int .i64 0] 59))
          have hbl : Below wz.heap.size wz (wz.alloc (.cells #[.int .i64 0, .int .i64 0, .int .u64 (IntKind.u64.wrap (x - 1)), .int .i64 0, .int .i64 0, .int .i64 3, .int .u64 0, .int .i64 0, .int .i64 0, .int .i64 4, .int .u64 0, .int .i64 0, .int .i64 0, .int .i64 5, .int .u64 0, .int .i64 0, .int .i64 1, .int .i64 0, .int .u64 x, .int .i64 0, .int .i64 1, .int .i64 5, .int .u64 0, .int .i64 0] 59)).drew := ((Below.refl _ _).alloc (Nat.le_refl _) _).drew
          have hsl : wz.heap.size < (wz.alloc (.cells #[.int .i64 0, .int .i64 0, .int .u64 (IntKind.u64.wrap (x - 1)), .int .i64 0, .int .i64 0, .int .i64 3, .int .u64 0, .int .i64 0, .int .i64 0, .int .i64 4, .int .u64 0, .int .i64 0, .int .i64 0, .int .i64 5, .int .u64 0, .int .i64 0, .int .i64 1, .int .i64 0, .int .u64 x, .int .i64 0, .int .i64 1, .int .i64 5, .int .u64 0, .int .i64 0] 59)).drew.heap.size := by show wz.heap.size < (wz.alloc _).heap.size; simp
          generalize (wz.alloc (.cells #[.int .i64 0, .int .i64 0, .int .u64 (IntKind.u64.wrap (x - 1)), .int .i64 0, .int .i64 0, .int .i64 3, .int .u64 0, .int .i64 0, .int .i64 0, .int .i64 4, .int .u64 0, .int .i64 0, .int .i64 0, .int .i64 5, .int .u64 0, .int .i64 0, .int .i64 1, .int .i64 0, .int .u64 x, .int .i64 0, .int .i64 1, .int .i64 5, .int .u64 0, .int .i64 0] 59)).drew = Wa at HQ1 hbl hsl ⊢
          have HBa := hide (HB5.out.trans (hbl.mono HB5.out.size))
          have HOa := hide (HO5.out.later hbl)
          have hx := HX.out Wa HBa.out
          have hnb : (n : Int) ≤ (cb : Int) := by omega
          have hgW : g < Wa.heap.size := by have := HBa.out.size; omega
          have hgne : g ≠ Wa.heap.size := by omega
          have hbM : Below Wa.heap.size Wa (Wa.alloc (.cells #[.int .i64 0, .int .i64 1, .int .u64 0, .int .i64 0, .int .i64 0, .int .i64 3, .int .u64 0, .int .i64 0, .int .i64 0, .int .i64 5, .int .u64 0, .int .i64 0, .int .i64 1, .int .i64 0, .int .u64 (IntKind.u64.wrap (x + 1)), .int .i64 0, .int .i64 1, .int .i64 2, .int .u64 0, .int .i64 5, .int .i64 1, .int .i64 4, .int .u64 0, .int .i64 0] 59)) := (Below.refl _ _).alloc (Nat.le_refl _) _
          have hsM : (Wa.alloc (.cells #[.int .i64 0, .int .i64 1, .int .u64 0, .int .i64 0, .int .i64 0, .int .i64 3, .int .u64 0, .int .i64 0, .int .i64 0, .int .i64 5, .int .u64 0, .int .i64 0, .int .i64 1, .int .i64 0, .int .u64 (IntKind.u64.wrap (x + 1)), .int .i64 0, .int .i64 1, .int .i64 2, .int .u64 0, .int .i64 5, .int .i64 1, .int .i64 4, .int .u64 0, .int .i64 0] 59)).heap.size = Wa.heap.size + 1 := by simp
          have hbX : Below (Wa.alloc (.cells #[.int .i64 0, .int .i64 1, .int .u64 0, .int .i64 0, .int .i64 0, .int .i64 3, .int .u64 0, .int .i64 0, .int .i64 0, .int .i64 5, .int .u64 0, .int .i64 0, .int .i64 1, .int .i64 0, .int .u64 (IntKind.u64.wrap (x + 1)), .int .i64 0, .int .i64 1, .int .i64 2, .int .u64 0, .int .i64 5, .int .i64 1, .int .i64 4, .int .u64 0, .int .i64 0] 59)).heap.size (Wa.alloc (.cells #[.int .i64 0, .int .i64 1, .int .u64 0, .int .i64 0, .int .i64 0, .int .i64 3, .int .u64 0, .int .i64 0, .int .i64 0, .int .i64 5, .int .u64 0, .int .i64 0, .int .i64 1, .int .i64 0, .int .u64 (IntKind.u64.wrap (x + 1)), .int .i64 0, .int .i64 1, .int .i64 2, .int .u64 0, .int .i64 5, .int .i64 1, .int .i64 4, .int .u64 0, .int .i64 0] 59)) ((Wa.alloc (.cells #[.int .i64 0, .int .i64 1, .int .u64 0, .int .i64 0, .int .i64 0, .int .i64 3, .int .u64 0, .int .i64 0, .int .i64 0, .int .i64 5, .int .u64 0, .int .i64 0, .int .i64 1, .int .i64 0, .int .u64 (IntKind.u64.wrap (x + 1)), .int .i64 0, .int .i64 1, .int .i64 2, .int .u64 0, .int .i64 5, .int .i64 1, .int .i64 4, .int .u64 0, .int .i64 0] 59)).alloc (.cells #[.int .i64 0, .int .i64 2, .int .u64 0, .int .i64 (wrap64 x), .int .i64 0, .int .i64 4, .int .u64 0, .int .i64 0, .int .i64 1, .int .i64 2, .int .u64 0, .int .i64 (-1), .int .i64 1, .int .i64 4, .int .u64 0, .int .i64 0] 59)) := (Below.refl _ _).alloc (Nat.le_refl _) _
          have HQ2 : Hid (RQ ((Wa.alloc (.cells #[.int .i64 0, .int .i64 1, .int .u64 0, .int .i64 0, .int .i64 0, .int .i64 3, .int .u64 0, .int .i64 0, .int .i64 0, .int .i64 5, .int .u64 0, .int .i64 0, .int .i64 1, .int .i64 0, .int .u64 (IntKind.u64.wrap (x + 1)), .int .i64 0, .int .i64 1, .int .i64 2, .int .u64 0, .int .i64 5, .int .i64 1, .int .i64 4, .int .u64 0, .int .i64 0] 59)).alloc (.cells #[.int .i64 0, .int .i64 2, .int .u64 0, .int .i64 (wrap64 x), .int .i64 0, .int .i64 4, .int .u64 0, .int .i64 0, .int .i64 1, .int .i64 2, .int .u64 0, .int .i64 (-1), .int .i64 1, .int .i64 4, .int .u64 0, .int .i64 0] 59)) (.slice (some ⟨Wa.heap.size, 0, none⟩) 6 6) [⟨0, 1, 0, 0⟩, ⟨0, 3, 0, 0⟩, ⟨0, 5, 0, 0⟩, ⟨1, 0, IntKind.u64.wrap (x + 1), 0⟩, ⟨1, 2, 0, 5⟩, ⟨1, 4, 0, 0⟩]) := hide ((rq_blk (W := Wa.alloc (.cells #[.int .i64 0, .int .i64 1, .int .u64 0, .int .i64 0, .int .i64 0, .int .i64 3, .int .u64 0, .int .i64 0, .int .i64 0, .int .i64 5, .int .u64 0, .int .i64 0, .int .i64 1, .int .i64 0, .int .u64 (IntKind.u64.wrap (x + 1)), .int .i64 0, .int .i64 1, .int .i64 2, .int .u64 0, .int .i64 5, .int .i64 1, .int .i64 4, .int .u64 0, .int .i64 0] 59)) (t := 59) [⟨0, 1, 0, 0⟩, ⟨0, 3, 0, 0⟩, ⟨0, 5, 0, 0⟩, ⟨1, 0, IntKind.u64.wrap (x + 1), 0⟩, ⟨1, 2, 0, 5⟩, ⟨1, 4, 0, 0⟩] (Blk.new Wa #[.int .i64 0, .int .i64 1, .int .u64 0, .int .i64 0, .int .i64 0, .int .i64 3, .int .u64 0, .int .i64 0, .int .i64 0, .int .i64 5, .int .u64 0, .int .i64 0, .int .i64 1, .int .i64 0, .int .u64 (IntKind.u64.wrap (x + 1)), .int .i64 0, .int .i64 1, .int .i64 2, .int .u64 0, .int .i64 5, .int .i64 1, .int .i64 4, .int .u64 0, .int .i64 0] 59)).later hbX)
          have HQ3 : Hid (RQ ((Wa.alloc (.cells #[.int .i64 0, .int .i64 1, .int .u64 0, .int .i64 0, .int .i64 0, .int .i64 3, .int .u64 0, .int .i64 0, .int .i64 0, .int .i64 5, .int .u64 0, .int .i64 0, .int .i64 1, .int .i64 0, .int .u64 (IntKind.u64.wrap (x + 1)), .int .i64 0, .int .i64 1, .int .i64 2, .int .u64 0, .int .i64 5, .int .i64 1, .int .i64 4, .int .u64 0, .int .i64 0] 59)).alloc (.cells #[.int .i64 0, .int .i64 2, .int .u64 0, .int .i64 (wrap64 x), .int .i64 0, .int .i64 4, .int .u64 0, .int .i64 0, .int .i64 1, .int .i64 2, .int .u64 0, .int .i64 (-1), .int .i64 1, .int .i64 4, .int .u64 0, .int .i64 0] 59)) (.slice (some ⟨Wa.heap.size + 1, 0, none⟩) 4 4) [⟨0, 2, 0, wrap64 x⟩, ⟨0, 4, 0, 0⟩, ⟨1, 2, 0, -1⟩, ⟨1, 4, 0, 0⟩]) := hide (by
            have h := rq_blk (W := ((Wa.alloc (.cells #[.int .i64 0, .int .i64 1, .int .u64 0, .int .i64 0, .int .i64 0, .int .i64 3, .int .u64 0, .int .i64 0, .int .i64 0, .int .i64 5, .int .u64 0, .int .i64 0, .int .i64 1, .int .i64 0, .int .u64 (IntKind.u64.wrap (x + 1)), .int .i64 0, .int .i64 1, .int .i64 2, .int .u64 0, .int .i64 5, .int .i64 1, .int .i64 4, .int .u64 0, .int .i64 0] 59)).alloc (.cells #[.int .i64 0, .int .i64 2, .int .u64 0, .int .i64 (wrap64 x), .int .i64 0, .int .i64 4, .int .u64 0, .int .i64 0, .int .i64 1, .int .i64 2, .int .u64 0, .int .i64 (-1), .int .i64 1, .int .i64 4, .int .u64 0, .int .i64 0] 59))) (t := 59) [⟨0, 2, 0, wrap64 x⟩, ⟨0, 4, 0, 0⟩, ⟨1, 2, 0, -1⟩, ⟨1, 4, 0, 0⟩] (Blk.new (Wa.alloc (.cells #[.int .i64 0, .int .i64 1, .int .u64 0, .int .i64 0, .int .i64 0, .int .i64 3, .int .u64 0, .int .i64 0, .int .i64 0, .int .i64 5, .int .u64 0, .int .i64 0, .int .i64 1, .int .i64 0, .int .u64 (IntKind.u64.wrap (x + 1)), .int .i64 0, .int .i64 1, .int .i64 2, .int .u64 0, .int .i64 5, .int .i64 1, .int .i64 4, .int .u64 0, .int .i64 0] 59)) #[.int .i64 0, .int .i64 2, .int .u64 0, .int .i64 (wrap64 x), .int .i64 0, .int .i64 4, .int .u64 0, .int .i64 0, .int .i64 1, .int .i64 2, .int .u64 0, .int .i64 (-1), .int .i64 1, .int .i64 4, .int .u64 0, .int .i64 0] 59)
            rw [hsM] at h
            exact h)
          have hbMX : Below Wa.heap.size Wa ((Wa.alloc (.cells #[.int .i64 0, .int .i64 1, .int .u64 0, .int .i64 0, .int .i64 0, .int .i64 3, .int .u64 0, .int .i64 0, .int .i64 0, .int .i64 5, .int .u64 0, .int .i64 0, .int .i64 1, .int .i64 0, .int .u64 (IntKind.u64.wrap (x + 1)), .int .i64 0, .int .i64 1, .int .i64 2, .int .u64 0, .int .i64 5, .int .i64 1, .int .i64 4, .int .u64 0, .int .i64 0] 59)).alloc (.cells #[.int .i64 0, .int .i64 2, .int .u64 0, .int .i64 (wrap64 x), .int .i64 0, .int .i64 4, .int .u64 0, .int .i64 0, .int .i64 1, .int .i64 2, .int .u64 0, .int .i64 (-1), .int .i64 1, .int .i64 4, .int .u64 0, .int .i64 0] 59)) := hbM.trans (hbX.mono hbM.size)
          have HQ1c := hide ((HQ1.out.later hbM).later hbX)
          have HBc := hide (HBa.out.trans (hbMX.mono HBa.out.size))
          have HOc := hide (HOa.out.later hbMX)
          clear hbl hsl
          go_wp2_with fail
          clear hbM hbX hbMX hsM HQ1 HBa HOa hgW hgne HB5 HO5 hx
          generalize ((Wa.alloc (.cells #[.int .i64 0, .int .i64 1, .int .u64 0, .int .i64 0, .int .i64 0, .int .i64 3, .int .u64 0, .int .i64 0, .int .i64 0, .int .i64 5, .int .u64 0, .int .i64 0, .int .i64 1, .int .i64 0, .int .u64 (IntKind.u64.wrap (x + 1)), .int .i64 0, .int .i64 1, .int .i64 2, .int .u64 0, .int .i64 5, .int .i64 1, .int .i64 4, .int .u64 0, .int .i64 0] 59)).alloc (.cells #[.int .i64 0, .int .i64 2, .int .u64 0, .int .i64 (wrap64 x), .int .i64 0, .int .i64 4, .int .u64 0, .int .i64 0, .int .i64 1, .int .i64 2, .int .u64 0, .int .i64 (-1), .int .i64 1, .int .i64 4, .int .u64 0, .int .i64 0] 59)) = Wc at HQ1c HQ2 HQ3 HBc HOc ⊢
          obtain ⟨b1, hb1⟩ : ∃ b1, wz.heap.size = b1 := ⟨_, rfl⟩
          obtain ⟨b2, hb2⟩ : ∃ b2, Wa.heap.size = b2 := ⟨_, rfl⟩
          obtain ⟨b3, hb3⟩ : ∃ b3, Wa.heap.size + 1 = b3 := ⟨_, rfl⟩
          rw [hb1] at HQ1c ⊢
          rw [hb3] at HQ3 ⊢
          rw [hb2] at HQ2 ⊢
          clear hb1 hb2 hb3
          have HRB : Hid (∀ W : World, Own W W3.heap.size (.slice (some ⟨gb, 0, none⟩) F.length cb) F → RB W (.slice (some ⟨gb, 0, none⟩) n cb) (F.take n)) := hide (fun W h => ⟨gb, rg_take (own_rg h) hln⟩)
          have hwx1 : wrap64 x ≤ 9223372036854775807 := by unfold wrap64; omega
          obtain ⟨p1, hp1⟩ : ∃ p1 : List Gt, Hid (([⟨0, 0, IntKind.u64.wrap (x - 1), 0⟩, ⟨0, 3, 0, 0⟩, ⟨0, 4, 0, 0⟩, ⟨0, 5, 0, 0⟩, ⟨1, 0, x, 0⟩, ⟨1, 5, 0, 0⟩] : List Gt) = p1) := ⟨_, hide rfl⟩
          obtain ⟨p2, hp2⟩ : ∃ p2 : List Gt, Hid (([⟨0, 1, 0, 0⟩, ⟨0, 3, 0, 0⟩, ⟨0, 5, 0, 0⟩, ⟨1, 0, IntKind.u64.wrap (x + 1), 0⟩, ⟨1, 2, 0, 5⟩, ⟨1, 4, 0, 0⟩] : List Gt) = p2) := ⟨_, hide rfl⟩
          obtain ⟨p3, hp3⟩ : ∃ p3 : List Gt, Hid (([⟨0, 2, 0, wrap64 x⟩, ⟨0, 4, 0, 0⟩, ⟨1, 2, 0, -1⟩, ⟨1, 4, 0, 0⟩] : List Gt) = p3) := ⟨_, hide rfl⟩
          have HN1 : Hid (p1.length ≤ 1000 ∧ ∀ p ∈ p1, p.n ≤ 9223372036854775807) := hide (by rw [← hp1.out]; exact ⟨by simp, fun p hp => by simp only [List.mem_cons, List.not_mem_nil, or_false] at hp; rcases hp with rfl | rfl | rfl | rfl | rfl | rfl <;> first | decide | (show (0 : Int) ≤ 9223372036854775807; decide)⟩)
          have HN2 : Hid (p2.length ≤ 1000 ∧ ∀ p ∈ p2, p.n ≤ 9223372036854775807) := hide (by rw [← hp2.out]; exact ⟨by simp, fun p hp => by simp only [List.mem_cons, List.not_mem_nil, or_false] at hp; rcases hp with rfl | rfl | rfl | rfl | rfl | rfl <;> first | decide | (show (0 : Int) ≤ 9223372036854775807; decide)⟩)
          have HN3 : Hid (p3.length ≤ 1000 ∧ ∀ p ∈ p3, p.n ≤ 9223372036854775807) := hide (by rw [← hp3.out]; exact ⟨by simp, fun p hp => by simp only [List.mem_cons, List.not_mem_nil, or_false] at hp; rcases hp with rfl | rfl | rfl | rfl <;> first | exact hwx1 | decide⟩)
          rw [hp1.out] at HQ1c
          rw [hp2.out] at HQ2
          rw [hp3.out] at HQ3
          obtain ⟨St, hSt⟩ : ∃ St : World → Prop, Hid (∀ W, St W ↔ (Below w1.heap.size w1 W ∧ Own W W3.heap.size (.slice (some ⟨gb, 0, none⟩) F.length cb) F ∧ RQ W (.slice (some ⟨b1, 0, none⟩) 6 6) p1 ∧ RQ W (.slice (some ⟨b2, 0, none⟩) 6 6) p2 ∧ RQ W (.slice (some ⟨b3, 0, none⟩) 4 4) p3)) := ⟨_, hide fun _ => Iff.rfl⟩
          have HL : Hid (∀ W W' : World, St W → Below W.heap.size W W' → St W') := hide (fun W W' h hb => by
            obtain ⟨h1, h2, h3, h4, h5⟩ := (hSt.out W).1 h
            exact (hSt.out W').2 ⟨h1.trans (hb.mono h1.size), h2.later hb, h3.later hb, h4.later hb, h5.later hb⟩)
          have hln9 : (F.take n).length ≤ 1000 := by rw [List.length_take]; omega
          have HA1 : Hid (∀ W, St W → Calls Tryd.prog 25 #[.slice (some ⟨gb, 0, none⟩) n cb, .slice (some ⟨gb, 0, none⟩) n cb, .slice (some ⟨b1, 0, none⟩) 6 6] W fun e w' => e = .returned (.bool true) ∧ St w') := hide (fun W h => by
            obtain ⟨h1, h2, h3, h4, h5⟩ := (hSt.out W).1 h
            exact (HRd.out W _ _ _ _ _ p1 (HB1.out.trans (h1.mono hs1)) (HRB.out W h2) (HRB.out W h2) h3 hln9 hln9 HN1.out.1 HN1.out.2).mono fun e w' hh => ⟨hh.1, HL.out W w' h hh.2⟩)
          have HA2 : Hid (∀ W, St W → Calls Tryd.prog 25 #[.slice (some ⟨gb, 0, none⟩) n cb, .slice (some ⟨gb, 0, none⟩) n cb, .slice (some ⟨b2, 0, none⟩) 6 6] W fun e w' => e = .returned (.bool true) ∧ St w') := hide (fun W h => by
            obtain ⟨h1, h2, h3, h4, h5⟩ := (hSt.out W).1 h
            exact (HRd.out W _ _ _ _ _ p2 (HB1.out.trans (h1.mono hs1)) (HRB.out W h2) (HRB.out W h2) h4 hln9 hln9 HN2.out.1 HN2.out.2).mono fun e w' hh => ⟨hh.1, HL.out W w' h hh.2⟩)
          have HA3 : Hid (∀ W, St W → Calls Tryd.prog 25 #[.slice (some ⟨gb, 0, none⟩) n cb, .slice (some ⟨gb, 0, none⟩) n cb, .slice (some ⟨b3, 0, none⟩) 4 4] W fun e w' => e = .returned (.bool true) ∧ St w') := hide (fun W h => by
            obtain ⟨h1, h2, h3, h4, h5⟩ := (hSt.out W).1 h
            exact (HRd.out W _ _ _ _ _ p3 (HB1.out.trans (h1.mono hs1)) (HRB.out W h2) (HRB.out W h2) h5 hln9 hln9 HN3.out.1 HN3.out.2).mono fun e w' hh => ⟨hh.1, HL.out W w' h hh.2⟩)
          have HA4 : Hid (∀ W, St W → Calls Tryd.prog 26 #[.slice (some ⟨gb, 0, none⟩) n cb] W fun e w' => e = .returned (.bool true) ∧ St w') := hide (fun W h => by
            obtain ⟨h1, h2, h3, h4, h5⟩ := (hSt.out W).1 h
            exact (HUn.out W _ _ (HB1.out.trans (h1.mono hs1)) (HRB.out W h2) (by omega)).mono fun e w' hh => ⟨hh.1, HL.out W w' h hh.2⟩)
          have hS0 : St Wc.drew := HL.out Wc _ ((hSt.out Wc).2 ⟨HBc.out, HOc.out, HQ1c.out, HQ2.out, HQ3.out⟩) (Below.refl _ _).drew
          have n0 : (0 : Int) ≤ (n : Int) := by omega
          clear HQ1c HQ2 HQ3 HBc HOc HRB HN1 HN2 HN3 hp1 hp2 hp3 HL hwx1 hln9
          go_region_held3 (fun _ => True) (trivial) ((first
            | (go_at_call_of 25 b1; refine (HA1.out _ ?_).mono ?_; assumption; rintro e w' ⟨rfl, hSn⟩)
            | (go_at_call_of 25 b2; refine (HA2.out _ ?_).mono ?_; assumption; rintro e w' ⟨rfl, hSn⟩)
            | (go_at_call_of 25 b3; refine (HA3.out _ ?_).mono ?_; assumption; rintro e w' ⟨rfl, hSn⟩)
            | (go_at_call 26; refine (HA4.out _ ?_).mono ?_; assumption; rintro e w' ⟨rfl, hSn⟩)))
          clear HA1 HA2 HA3 HA4 hS0
          have hfin := (hSt.out _).1 hSn
          have HBf := hide hfin.1
          have HOf := hide hfin.2.1
          clear hfin hSt
          go_wp2_with fail
          go_roundw
          case rel => exact ⟨n + 1, by omega, by go_num, HBf, HOf⟩
          case measure => simp [intOf]; omega
        · have dn : decide ((n : Int) ≤ (F.length : Int)) = false := by rw [decide_eq_false_iff_not]; omega
          go_wp2_with fail
          go_roundw
          case rel => exact ⟨k + 1, by omega, by go_num, HB5⟩
          case measure => simp [intOf]; omega
    · have hk' : k = 31 := by omega
      subst hk'
      rw [show ((31 : Nat) : Int) = 31 from rfl]
      clear hlt HC HWr HB
      go_wp2_with fail
      go_loopw [9] (fun i wz => ∃ a : Nat, a ≤ 256 ∧ i = .int .i64 a ∧ Hid (Below w.heap.size w wz)) (fun i _ => 256 - (intOf i).toNat)
      case atStart => exact ⟨0, by omega, rfl, HBw⟩
      case round =>
        clear HBw
        obtain ⟨a, ha, rfl, HB2⟩ := hrel
        by_cases hla : a < 256
        · have da : decide ((a : Int) < 256) = true := by rw [decide_eq_true_eq]; omega
          go_wp2_with fail
          go_loopw [10] (fun i wz => ∃ c : Nat, c ≤ 270 ∧ i = .int .i64 c ∧ Hid (Below w.heap.size w wz)) (fun i _ => 270 - (intOf i).toNat)
          case atStart => exact ⟨0, by omega, rfl, HB2⟩
          case round =>
            obtain ⟨wz, hwz⟩ : ∃ q, q = wr := ⟨_, rfl⟩
            subst hwz
            clear HB2
            obtain ⟨c, hc, rfl, HB3⟩ := hrel
            by_cases hlc : c < 256
            · have dc : decide ((c : Int) < 256) = true := by rw [decide_eq_true_eq]; omega
              obtain ⟨ca, hca⟩ : ∃ ca : UInt8, Hid ((a : Int) = (ca.toNat : Int)) := ⟨UInt8.ofNat a, hide (by rw [UInt8.toNat_ofNat', Nat.mod_eq_of_lt (by omega)])⟩
              obtain ⟨cc, hcc⟩ : ∃ cc : UInt8, Hid ((c : Int) = (cc.toNat : Int)) := ⟨UInt8.ofNat c, hide (by rw [UInt8.toNat_ofNat', Nat.mod_eq_of_lt (by omega)])⟩
              have hbA : Below wz.heap.size wz (wz.alloc (.cells #[.int .u8 (a : Int), .int .u8 (c : Int), .int .u8 0, .int .u8 1, .int .u8 2, .int .u8 3, .int .u8 4, .int .u8 5, .int .u8 6, .int .u8 7] 5)) := (Below.refl _ _).alloc (Nat.le_refl _) _
              have hsA : (wz.alloc (.cells #[.int .u8 (a : Int), .int .u8 (c : Int), .int .u8 0, .int .u8 1, .int .u8 2, .int .u8 3, .int .u8 4, .int .u8 5, .int .u8 6, .int .u8 7] 5)).heap.size = wz.heap.size + 1 := by simp
              have hbX : Below (wz.alloc (.cells #[.int .u8 (a : Int), .int .u8 (c : Int), .int .u8 0, .int .u8 1, .int .u8 2, .int .u8 3, .int .u8 4, .int .u8 5, .int .u8 6, .int .u8 7] 5)).heap.size (wz.alloc (.cells #[.int .u8 (a : Int), .int .u8 (c : Int), .int .u8 0, .int .u8 1, .int .u8 2, .int .u8 3, .int .u8 4, .int .u8 5, .int .u8 6, .int .u8 7] 5)) ((wz.alloc (.cells #[.int .u8 (a : Int), .int .u8 (c : Int), .int .u8 0, .int .u8 1, .int .u8 2, .int .u8 3, .int .u8 4, .int .u8 5, .int .u8 6, .int .u8 7] 5)).alloc (.cells #[.int .i64 0, .int .i64 0, .int .u64 18446744073709551615, .int .i64 0, .int .i64 0, .int .i64 3, .int .u64 0, .int .i64 0, .int .i64 0, .int .i64 4, .int .u64 0, .int .i64 0, .int .i64 1, .int .i64 2, .int .u64 0, .int .i64 9, .int .i64 1, .int .i64 4, .int .u64 0, .int .i64 0] 59)) := (Below.refl _ _).alloc (Nat.le_refl _) _
              have HRb : Hid (RB ((wz.alloc (.cells #[.int .u8 (a : Int), .int .u8 (c : Int), .int .u8 0, .int .u8 1, .int .u8 2, .int .u8 3, .int .u8 4, .int .u8 5, .int .u8 6, .int .u8 7] 5)).alloc (.cells #[.int .i64 0, .int .i64 0, .int .u64 18446744073709551615, .int .i64 0, .int .i64 0, .int .i64 3, .int .u64 0, .int .i64 0, .int .i64 0, .int .i64 4, .int .u64 0, .int .i64 0, .int .i64 1, .int .i64 2, .int .u64 0, .int .i64 9, .int .i64 1, .int .i64 4, .int .u64 0, .int .i64 0] 59)) (.slice (some ⟨wz.heap.size, 0, none⟩) 10 10) [ca, cc, 0, 1, 2, 3, 4, 5, 6, 7]) := hide (by
                have hblk := (Blk.new wz #[.int .u8 (a : Int), .int .u8 (c : Int), .int .u8 0, .int .u8 1, .int .u8 2, .int .u8 3, .int .u8 4, .int .u8 5, .int .u8 6, .int .u8 7] 5).later hbX
                refine ⟨wz.heap.size, _, _, rfl, Nat.le_refl _, .inr ⟨0, rfl, hblk.lt, fun j d hj => ?_⟩⟩
                rw [Nat.zero_add]
                match j, hj with
                | 0, hj => cases hj; rw [← hca.out]; exact hblk.cell 0
                | 1, hj => cases hj; rw [← hcc.out]; exact hblk.cell 1
                | 2, hj => cases hj; exact hblk.cell 2
                | 3, hj => cases hj; exact hblk.cell 3
                | 4, hj => cases hj; exact hblk.cell 4
                | 5, hj => cases hj; exact hblk.cell 5
                | 6, hj => cases hj; exact hblk.cell 6
                | 7, hj => cases hj; exact hblk.cell 7
                | 8, hj => cases hj; exact hblk.cell 8
                | 9, hj => cases hj; exact hblk.cell 9)
              have HRq : Hid (RQ ((wz.alloc (.cells #[.int .u8 (a : Int), .int .u8 (c : Int), .int .u8 0, .int .u8 1, .int .u8 2, .int .u8 3, .int .u8 4, .int .u8 5, .int .u8 6, .int .u8 7] 5)).alloc (.cells #[.int .i64 0, .int .i64 0, .int .u64 18446744073709551615, .int .i64 0, .int .i64 0, .int .i64 3, .int .u64 0, .int .i64 0, .int .i64 0, .int .i64 4, .int .u64 0, .int .i64 0, .int .i64 1, .int .i64 2, .int .u64 0, .int .i64 9, .int .i64 1, .int .i64 4, .int .u64 0, .int .i64 0] 59)) (.slice (some ⟨wz.heap.size + 1, 0, none⟩) 5 5) [⟨0, 0, 18446744073709551615, 0⟩, ⟨0, 3, 0, 0⟩, ⟨0, 4, 0, 0⟩, ⟨1, 2, 0, 9⟩, ⟨1, 4, 0, 0⟩]) := hide (by
                have h := rq_blk (W := ((wz.alloc (.cells #[.int .u8 (a : Int), .int .u8 (c : Int), .int .u8 0, .int .u8 1, .int .u8 2, .int .u8 3, .int .u8 4, .int .u8 5, .int .u8 6, .int .u8 7] 5)).alloc (.cells #[.int .i64 0, .int .i64 0, .int .u64 18446744073709551615, .int .i64 0, .int .i64 0, .int .i64 3, .int .u64 0, .int .i64 0, .int .i64 0, .int .i64 4, .int .u64 0, .int .i64 0, .int .i64 1, .int .i64 2, .int .u64 0, .int .i64 9, .int .i64 1, .int .i64 4, .int .u64 0, .int .i64 0] 59))) (t := 59) [⟨0, 0, 18446744073709551615, 0⟩, ⟨0, 3, 0, 0⟩, ⟨0, 4, 0, 0⟩, ⟨1, 2, 0, 9⟩, ⟨1, 4, 0, 0⟩] (Blk.new (wz.alloc (.cells #[.int .u8 (a : Int), .int .u8 (c : Int), .int .u8 0, .int .u8 1, .int .u8 2, .int .u8 3, .int .u8 4, .int .u8 5, .int .u8 6, .int .u8 7] 5)) #[.int .i64 0, .int .i64 0, .int .u64 18446744073709551615, .int .i64 0, .int .i64 0, .int .i64 3, .int .u64 0, .int .i64 0, .int .i64 0, .int .i64 4, .int .u64 0, .int .i64 0, .int .i64 1, .int .i64 2, .int .u64 0, .int .i64 9, .int .i64 1, .int .i64 4, .int .u64 0, .int .i64 0] 59)
                rw [hsA] at h
                exact h)
              have HB4 := hide (HB3.out.trans ((hbA.trans (hbX.mono hbA.size)).mono HB3.out.size))
              have HN5 : Hid (∀ p ∈ ([⟨0, 0, 18446744073709551615, 0⟩, ⟨0, 3, 0, 0⟩, ⟨0, 4, 0, 0⟩, ⟨1, 2, 0, 9⟩, ⟨1, 4, 0, 0⟩] : List Gt), p.n ≤ 9223372036854775807) := hide (fun p hp => by simp only [List.mem_cons, List.not_mem_nil, or_false] at hp; rcases hp with rfl | rfl | rfl | rfl | rfl <;> decide)
              have HRr := hide (HRd.out _ _ _ _ _ _ _ HB4.out HRb.out HRb.out HRq.out (by simp) (by simp) (by simp) HN5.out)
              clear hca hcc hbA hsA hbX HRq HN5 HB3
              go_wp2_with fail
              generalize ((wz.alloc (.cells #[.int .u8 (a : Int), .int .u8 (c : Int), .int .u8 0, .int .u8 1, .int .u8 2, .int .u8 3, .int .u8 4, .int .u8 5, .int .u8 6, .int .u8 7] 5)).alloc (.cells #[.int .i64 0, .int .i64 0, .int .u64 18446744073709551615, .int .i64 0, .int .i64 0, .int .i64 3, .int .u64 0, .int .i64 0, .int .i64 0, .int .i64 4, .int .u64 0, .int .i64 0, .int .i64 1, .int .i64 2, .int .u64 0, .int .i64 9, .int .i64 1, .int .i64 4, .int .u64 0, .int .i64 0] 59)) = Wc at HRb HB4 HRr ⊢
              refine HRr.out.mono ?_
              rintro e Wd ⟨rfl, hb⟩
              have HB5 := hide (HB4.out.trans (hb.mono HB4.out.size))
              have HRu := hide (HUn.out Wd _ _ HB5.out (HRb.out.later hb) (by simp))
              clear hb HB4 HRb HRr
              go_wp2_with fail
              refine HRu.out.mono ?_
              rintro e We ⟨rfl, hb⟩
              have HB6 := hide (HB5.out.trans (hb.mono HB5.out.size))
              clear hb HB5 HRu
              go_wp2_with fail
              go_roundw
              case rel => exact ⟨c + 1 + 13 * (c % 2), by omega, by first | go_num | (congr 1; omega), HB6⟩
              case measure => simp [intOf]; omega
            · have dc : decide ((c : Int) < 256) = false := by rw [decide_eq_false_iff_not]; omega
              go_wp2_with fail
              go_roundw
              case rel => exact ⟨a + 1, by omega, by go_num, HB3⟩
              case measure => simp [intOf]; omega
        · have da : decide ((a : Int) < 256) = false := by rw [decide_eq_false_iff_not]; omega
          have HFf := hide (HFr.out wr HB2.out)
          go_wp2_with fail
          refine HFf.out.mono ?_
          rintro e Wf ⟨rfl, hb⟩
          have HB7 := hide (HB2.out.trans (hb.mono HB2.out.size))
          clear hb HB2 HFf
          go_wp2_with fail
          go_ret
          exact ⟨rfl, HB7.out⟩
end Go.Proofs.YthalmfbcdkihgaaDoor
