/-
  My own text: layer 23: weave (printed by mklk5.py).
-/
import Derived.Test.YtcdhblfefpkjgaaDoorLK4
import Derived.Deep.CutRange
namespace Go.Proofs.YtcdhblfefpkjgaaDoor
open Go.RowKit

theorem cell_of_row (w : World) (b i : Nat) (cs : Array Value) (t : TypeId) (fz : Nat × Nat) (h : w.heap[b]? = some (.cells cs t fz)) : w.cell? ⟨b, i, none⟩ = cs[i]? := by simp [World.cell?, h]
theorem nofz {w : World} {b : Nat} {cs : Array Value} {t : TypeId} (h : w.heap[b]? = some (.cells cs t (0, 0))) (o : Nat) : w.frozen? ⟨b, o, none⟩ = false := by
  simp [World.frozen?, h]
theorem blk_setCell_same {w : World} {b : Nat} {cs : Array Value} {t : TypeId} {fz : Nat × Nat} (h : w.heap[b]? = some (.cells cs t fz)) (o : Nat) (v : Value) : (w.setCell ⟨b, o, none⟩ v).heap[b]? = some (.cells (cs.setIfInBounds o v) t fz) := by
  unfold World.setCell
  simp [Array.getElem?_modify, h]
/-- A cell of another thing is written. -/
theorem WV.other {B0 : Nat} {w0 w : World} {G : Bool → Nat} {n : Nat} {V : Bool → Nat → Value} {X : Bool → Nat → List Nat} (h : WV B0 w0 w G n V X) {b : Nat} {c : Array Value} {t : TypeId} {f : Nat × Nat} (hle : B0 ≤ b) (hb : w.heap[b]? = some (.cells c t f)) (h1 : t ≠ 3) (h2 : t ≠ 41) (o : Nat) (v : Value) : WV B0 w0 (w.setCell ⟨b, o, none⟩ v) G n V X := by
  have hk : ∀ q, q ≠ b → (w.setCell ⟨b, o, none⟩ v).heap[q]? = w.heap[q]? := fun q hq => Below.heap_setCell _ _ _ q hq
  have hlt := (Array.getElem?_eq_some_iff.1 hb).1
  refine ⟨fun s => (h.blk s).of_block (hk _ (fun e => ?_)), h.ne, h.lo, fun s x hx => owns_blk (h.own s x hx) fun q hq => hk q (fun e => ?_), h.ap, gb_below h.low (gb_set w b o v) hle (by omega)⟩
  · obtain ⟨c2, hg, _⟩ := h.blk s
    rw [e, hb] at hg
    injection hg with hg
    injection hg with _ hg
    exact h2 hg
  · obtain ⟨c2, f2, hg⟩ := IN.OM.kind (h.own s x hx) _ hq
    rw [e, hb] at hg
    injection hg with hg
    injection hg with _ hg
    exact h1 hg
/-- The web is made. -/
structure MK3 (w : World) (n : Nat) (wx : World) (sb N K : Nat) : Prop where
  box : wx.heap[sb]? = some (.cells #[.slice (some ⟨N, 0, none⟩) n n, .slice (some ⟨K, 0, none⟩) n n] 67 (0, 0))
  rn : wx.rowIs N 41 n (fun _ => .slice none 0 0)
  rk : wx.rowIs K 41 n (fun _ => .slice none 0 0)
  ne : N ≠ K
  r0 : wx.heap[w.heap.size]? = some (.cells #[.slice none 0 0, .slice none 0 0] 67 (0, 0))
  lo : w.heap.size < sb ∧ w.heap.size ≤ N ∧ w.heap.size ≤ K
  low : Below w.heap.size w wx
theorem row_of_blk {w : World} {P n : Nat} (h : w.heap[P]? = some (.cells (madeCells #[.slice none 0 0] n) 41 (0, 0))) : w.rowIs P 41 n (fun _ => .slice none 0 0) := by
  obtain ⟨c, hb, hs, hc⟩ := World.rowIs_made w (.slice none 0 0) n 41
  rw [alloc_new] at hb
  injection hb with hb
  injection hb with hb
  subst hb
  exact ⟨_, h, hs, hc⟩
theorem three_blk (w1 : World) (o1 o2 o3 : Obj) : ((((w1.alloc o1).alloc o2).alloc o3).drew).heap[w1.heap.size]? = some o1 ∧ ((((w1.alloc o1).alloc o2).alloc o3).drew).heap[w1.heap.size + 1]? = some o2 ∧ ((((w1.alloc o1).alloc o2).alloc o3).drew).heap[w1.heap.size + 1 + 1]? = some o3 ∧ Below w1.heap.size w1 (((w1.alloc o1).alloc o2).alloc o3).drew := by
  have h1 := alloc_new w1 o1
  have h2 := alloc_new (w1.alloc o1) o2
  have h3 := alloc_new ((w1.alloc o1).alloc o2) o3
  have s1 : (w1.alloc o1).heap.size = w1.heap.size + 1 := by simp
  have s2 : ((w1.alloc o1).alloc o2).heap.size = w1.heap.size + 1 + 1 := by simp
  rw [s1] at h2
  rw [s2] at h3
  refine ⟨alloc_block (alloc_block h1), alloc_block h2, h3, (((Below.refl w1.heap.size w1).alloc (Nat.le_refl _) o1).alloc (by omega) o2).alloc (by omega) o3 |>.drew⟩
theorem MK3.of {w w1 W : World} {n sb N K : Nat} (h0 : Below w.heap.size w w1) (hr : w1.heap[w.heap.size]? = some (.cells #[.slice none 0 0, .slice none 0 0] 67 (0, 0))) (hb : Below w1.heap.size w1 W)
    (h1 : W.heap[sb]? = some (.cells #[.slice (some ⟨N, 0, none⟩) n n, .slice (some ⟨K, 0, none⟩) n n] 67 (0, 0)))
    (h2 : W.heap[N]? = some (.cells (madeCells #[.slice none 0 0] n) 41 (0, 0))) (h3 : W.heap[K]? = some (.cells (madeCells #[.slice none 0 0] n) 41 (0, 0)))
    (hne : N ≠ K) (l1 : w1.heap.size ≤ sb) (l2 : w1.heap.size ≤ N) (l3 : w1.heap.size ≤ K) : MK3 w n W sb N K := by
  have hl := (Array.getElem?_eq_some_iff.1 hr).1
  exact ⟨h1, row_of_blk h2, row_of_blk h3, hne, blk_later hr hb, by omega, h0.trans (hb.mono (by omega))⟩
set_option maxRecDepth 100000 in
set_option maxHeartbeats 4000000 in
theorem weave_any (n : Nat) (v : Value) (L : List (Int × Int)) (w : World) (hv : TW.RM w v L) (hl : L.length ≤ 8796093022200) (hn : n ≤ 4096) (hall : ∀ (j : Nat) (p : Int × Int), L[j]? = some p → namB n p = true) :
    Calls Tryd.prog 27 #[.int .i64 (n : Int), v] w fun e w' => ∃ (G : Bool → Nat) (V : Bool → Nat → Value), e = .returned (.agg #[.slice (some ⟨G false, 0, none⟩) n n, .slice (some ⟨G true, 0, none⟩) n n]) ∧ WV w.heap.size w w' G n V (XX (pn L)) := by
  obtain ⟨a, cap, rfl, _, hr⟩ := hv
  have HR := hide hr
  have HL := hide hl
  have HN := hide hn
  have HA := hide hall
  have hmk := run_make_row' (P := Tryd.prog) 29 41 (.slice none 0 0) 24 Tryd.underlying29 Tryd.infoRow rfl .i64 .i64 n (by omega) (by omega)
  clear hr hl hn hall
  go_enter Tryd.func27, Tryd.ntmps27
  go_upto_region 1 with fail
  have HB0 := hide ((Below.refl w.heap.size w).alloc (Nat.le_refl _) (.cells #[.slice none 0 0, .slice none 0 0] 67))
  have HR0 := hide (alloc_new w (.cells #[.slice none 0 0, .slice none 0 0] 67))
  go_upto_region 1 with fail
  go_cut [5] from 8 to 12 (fun o wx => ∃ (sb N K : Nat), o = .pointer (some ⟨sb, 0, none⟩) ∧ Hid (MK3 w n wx sb N K))
  case first =>
    generalize (w.alloc (.cells #[.slice none 0 0, .slice none 0 0] 67)) = w1 at *
    go_region_held3 (fun _ => True) (trivial) (fail)
    all_goals (go_wp2_with fail; go_meet; exact ⟨_, _, _, rfl, hide (MK3.of HB0.out HR0.out (three_blk w1 _ _ _).2.2.2 (by first | exact (three_blk w1 _ _ _).1 | exact (three_blk w1 _ _ _).2.1 | exact (three_blk w1 _ _ _).2.2.1) (by first | exact (three_blk w1 _ _ _).1 | exact (three_blk w1 _ _ _).2.1 | exact (three_blk w1 _ _ _).2.2.1) (by first | exact (three_blk w1 _ _ _).1 | exact (three_blk w1 _ _ _).2.1 | exact (three_blk w1 _ _ _).2.2.1) (by omega) (by omega) (by omega) (by omega))⟩)
  case rest =>
  obtain ⟨sb, N, K, rfl, HM⟩ := hcut
  obtain ⟨G, HG0, HG1⟩ : ∃ G : Bool → Nat, Hid (G false = N) ∧ Hid (G true = K) := ⟨fun s => if s then K else N, hide rfl, hide rfl⟩
  have HV0 : Hid (∃ V, WV w.heap.size w wc G n V (XX [])) := hide ⟨fun _ _ => .slice none 0 0, by
    have h := WV.start HM.out.rn HM.out.rk HM.out.ne HM.out.lo.2.1 HM.out.lo.2.2 HM.out.low
    have e : (fun s : Bool => if s then K else N) = G := by funext s; cases s; exact HG0.out.symm; exact HG1.out.symm
    rw [e] at h
    exact h⟩
  have HS : Hid (wc.heap[sb]? = some (.cells #[.slice (some ⟨G false, 0, none⟩) n n, .slice (some ⟨G true, 0, none⟩) n n] 67 (0, 0))) := hide (by have := HM.out.box; rw [← HG0.out, ← HG1.out] at this; exact this)
  have HLO := hide HM.out.lo.1
  have HRR := hide HM.out.r0
  clear hmk HM HB0 HR0 HG0 HG1
  generalize wc = w1 at *
  go_wp2_with fail
  go_loopw [15] (fun i wr => ∃ j : Nat, j ≤ L.length ∧ i = .int .i64 (j : Int) ∧ Hid (∃ V, WV w.heap.size w wr G n V (XX ((pn L).take j))) ∧ Hid (wr.heap[sb]? = some (.cells #[.slice (some ⟨G false, 0, none⟩) n n, .slice (some ⟨G true, 0, none⟩) n n] 67 (0, 0))) ∧ Hid (wr.heap[w.heap.size]? = some (.cells #[.slice none 0 0, .slice none 0 0] 67 (0, 0)))) (fun i _ => L.length - (intOf i).toNat)
  case atStart => exact ⟨0, Nat.zero_le _, rfl, HV0, HS, HRR⟩
  case round =>
    clear HV0 HS HRR
    obtain ⟨j, hj, rfl, HV0, HS, HRR⟩ := hrel
    by_cases hlt : j < L.length
    · obtain ⟨⟨q0, q1⟩, hp⟩ : ∃ p, L[j]? = some p := ⟨_, List.getElem?_eq_getElem hlt⟩
      obtain ⟨b, off, rfl, hgl, hc⟩ := HR.out.resolve_left (fun h => by rw [h] at hlt; simp at hlt)
      have hnm := namB_iff.1 (HA.out j _ hp)
      dsimp only at hnm
      obtain ⟨x0, rfl⟩ : ∃ x : Nat, q0 = (x : Int) := ⟨q0.toNat, by omega⟩
      obtain ⟨y0, rfl⟩ : ∃ y : Nat, q1 = (y : Int) := ⟨q1.toNat, by omega⟩
      have hx0 : x0 < n := by omega
      have hy0 : y0 < n := by omega
      have i0 : (0 : Int) ≤ (x0 : Int) := by omega
      have i1 : (x0 : Int) < (n : Int) := by omega
      have i2 : (0 : Int) ≤ (y0 : Int) := by omega
      have i3 : (y0 : Int) < (n : Int) := by omega
      obtain ⟨V, HV⟩ : ∃ V, Hid (WV w.heap.size w wr G n V (XX ((pn L).take j))) := by obtain ⟨V, h⟩ := HV0.out; exact ⟨V, hide h⟩
      have hlw := HV.out.low
      have z0 : wr.cell? ⟨b, off + j * 2, none⟩ = some (.int .i64 (x0 : Int)) := (hlw.cell (p := ⟨b, _, none⟩) hgl).trans (hc j _ hp).1
      have z1 : wr.cell? ⟨b, off + j * 2 + 1, none⟩ = some (.int .i64 (y0 : Int)) := (hlw.cell (p := ⟨b, _, none⟩) hgl).trans (hc j _ hp).2
      have z1' : wr.cell? ⟨b, off + (j * 2 + 1), none⟩ = some (.int .i64 (y0 : Int)) := z1
      have hd2 : decide ((j : Int) < (L.length : Int)) = true := by rw [decide_eq_true_eq]; omega
      have k0 : (0 : Int) ≤ (j : Int) := by omega
      have k1 : (j : Int) < (L.length : Int) := by omega
      have wk : wrap64 ((j : Int) + 1) = (j : Int) + 1 := by have := HL.out; unfold wrap64; omega
      obtain ⟨E, HE⟩ : ∃ E, Hid ((pn L).take j = E) := ⟨_, hide rfl⟩
      have HT : Hid ((pn L).take (j + 1) = E ++ [(x0, y0)]) := hide (by rw [pn_take hp, HE.out]; rfl)
      have HEL : Hid (E.length ≤ j) := hide (by rw [← HE.out, List.length_take]; omega)
      rw [HE.out] at HV
      obtain ⟨X, HX⟩ : ∃ X, Hid (XX E = X) := ⟨_, hide rfl⟩
      have HXL : Hid (∀ s x, (X s x).length ≤ j) := hide (fun s x => by rw [← HX.out]; exact Nat.le_trans (XX_len E s x) HEL.out)
      rw [HX.out] at HV
      have N1 := alloc_new wr (.cells #[.int .i64 (x0 : Int), .int .i64 (y0 : Int)] 46)
      have hb2 : Below wr.heap.size wr (wr.alloc (.cells #[.int .i64 (x0 : Int), .int .i64 (y0 : Int)] 46)) := (Below.refl _ _).alloc (Nat.le_refl _) _
      obtain ⟨bx, hbx⟩ : ∃ bx, wr.heap.size = bx := ⟨_, rfl⟩
      obtain ⟨U0, hU⟩ : ∃ U, wr.alloc (.cells #[.int .i64 (x0 : Int), .int .i64 (y0 : Int)] 46) = U := ⟨_, rfl⟩
      rw [hU] at hb2 N1
      have HVU0 := hide (HV.out.later hb2 hlw.size)
      have HSU0 := hide (blk_later HS.out hb2)
      have HBU0 : Hid (U0.heap[bx]? = some (.cells #[.int .i64 (x0 : Int), .int .i64 (y0 : Int)] 46 (0, 0))) := hide (by rw [← hbx]; exact N1)
      have HRU0 := hide (blk_later HRR.out hb2)
      clear hb2 N1 hp hc hnm hlw HV HV0 HS HRR
      go_wp2_with fail
      clear hU hbx z0 z1 z1' hgl
      obtain ⟨D5, hD5⟩ : ∃ xw, World.drew U0 = xw := ⟨_, rfl⟩
      have hbD5 : Below U0.heap.size U0 D5 := by rw [← hD5]; exact (Below.refl _ _).drew
      have HVD5 := hide (HVU0.out.later hbD5 HVU0.out.low.size)
      have HSD5 := hide (blk_later HSU0.out hbD5)
      have HBD5 := hide (blk_later HBU0.out hbD5)
      have HRD5 := hide (blk_later HRU0.out hbD5)
      obtain ⟨ra5, rc5, hv5⟩ := HVU0.out.sl false (x := x0) hx0
      obtain ⟨m5, hm5⟩ : ∃ m, Hid ((X false x0).length = m) := ⟨_, hide rfl⟩
      rw [hm5.out] at hv5
      have CD5 : Hid (D5.cell? ⟨G false, x0, none⟩ = some (.slice ra5 m5 rc5)) := hide (by rw [← hv5]; exact HVD5.out.cell false hx0)
      have HVE5 := hide hv5
      clear hv5
      refine z_begins (S := fun W : World => (W.cell? ⟨sb, 0, none⟩ = some (.slice (some ⟨G false, 0, none⟩) n n) ∧ W.cell? ⟨sb, 1, none⟩ = some (.slice (some ⟨G true, 0, none⟩) n n)) ∧ (W.cell? ⟨bx, 0, none⟩ = some (.int .i64 (x0 : Int)) ∧ W.cell? ⟨bx, 1, none⟩ = some (.int .i64 (y0 : Int))) ∧ W.cell? ⟨G false, x0, none⟩ = some (.slice ra5 m5 rc5)) 15 16 #[false, false, false, false, false, false, false, false, false, false, false, false, false, false, false, false] (by kernel_rfl) (by kernel_rfl) (by kernel_rfl) (by rw [hD5]; exact ⟨pair_cells HSD5.out rfl, pair_cells HBD5.out rfl, CD5.out⟩) (fun hHeld => ?_)
      rw [hD5] at hHeld ⊢
      clear hD5 hbD5
      refine zk (v := ?_) 0 19 #[true, false, false, false, false, false, false, false, false, false, false, false, false, false, false, false] rfl rfl (by kernel_rfl) (by kernel_rfl) (by kernel_rfl) (by kernel_rfl) (fun _ _ _ h => h) (by kernel_rfl) (by rfl) ?hy hHeld ?_
      case hy => rintro W ⟨⟨s1, s2⟩, ⟨s3, s4⟩, s5⟩; first | (go_simp; done) | (go_simp; with_reducible rfl)
      simp only [List.setIfInBounds_toArray, List.set_cons_zero, List.set_cons_succ]
      refine zk (v := ?_) 1 20 #[true, true, false, false, false, false, false, false, false, false, false, false, false, false, false, false] rfl rfl (by kernel_rfl) (by kernel_rfl) (by kernel_rfl) (by kernel_rfl) (fun _ _ _ h => h) (by kernel_rfl) (by rfl) ?hy hHeld ?_
      case hy => rintro W ⟨⟨s1, s2⟩, ⟨s3, s4⟩, s5⟩; first | (go_simp; done) | (go_simp; with_reducible rfl)
      simp only [List.setIfInBounds_toArray, List.set_cons_zero, List.set_cons_succ]
      refine zk (v := ?_) 2 21 #[true, true, true, false, false, false, false, false, false, false, false, false, false, false, false, false] rfl rfl (by kernel_rfl) (by kernel_rfl) (by kernel_rfl) (by kernel_rfl) (fun _ _ _ h => h) (by kernel_rfl) (by rfl) ?hy hHeld ?_
      case hy => rintro W ⟨⟨s1, s2⟩, ⟨s3, s4⟩, s5⟩; first | (go_simp; done) | (go_simp; with_reducible rfl)
      simp only [List.setIfInBounds_toArray, List.set_cons_zero, List.set_cons_succ]
      refine zk (v := ?_) 3 22 #[true, true, true, true, false, false, false, false, false, false, false, false, false, false, false, false] rfl rfl (by kernel_rfl) (by kernel_rfl) (by kernel_rfl) (by kernel_rfl) (fun _ _ _ h => h) (by kernel_rfl) (by rfl) ?hy hHeld ?_
      case hy => rintro W ⟨⟨s1, s2⟩, ⟨s3, s4⟩, s5⟩; first | (go_simp; done) | (go_simp; with_reducible rfl)
      simp only [List.setIfInBounds_toArray, List.set_cons_zero, List.set_cons_succ]
      refine zk (v := ?_) 4 23 #[true, true, true, true, true, false, false, false, false, false, false, false, false, false, false, false] rfl rfl (by kernel_rfl) (by kernel_rfl) (by kernel_rfl) (by kernel_rfl) (fun _ _ _ h => h) (by kernel_rfl) (by rfl) ?hy hHeld ?_
      case hy => rintro W ⟨⟨s1, s2⟩, ⟨s3, s4⟩, s5⟩; first | (go_simp; done) | (go_simp; with_reducible rfl)
      simp only [List.setIfInBounds_toArray, List.set_cons_zero, List.set_cons_succ]
      refine zk (v := ?_) 5 24 #[true, true, true, true, true, true, false, false, false, false, false, false, false, false, false, false] rfl rfl (by kernel_rfl) (by kernel_rfl) (by kernel_rfl) (by kernel_rfl) (fun _ _ _ h => h) (by kernel_rfl) (by rfl) ?hy hHeld ?_
      case hy => rintro W ⟨⟨s1, s2⟩, ⟨s3, s4⟩, s5⟩; first | (go_simp; done) | (go_simp; with_reducible rfl)
      simp only [List.setIfInBounds_toArray, List.set_cons_zero, List.set_cons_succ]
      refine zk (v := ?_) 6 25 #[true, true, true, true, true, true, true, false, false, false, false, false, false, false, false, false] rfl rfl (by kernel_rfl) (by kernel_rfl) (by kernel_rfl) (by kernel_rfl) (fun _ _ _ h => h) (by kernel_rfl) (by rfl) ?hy hHeld ?_
      case hy => rintro W ⟨⟨s1, s2⟩, ⟨s3, s4⟩, s5⟩; first | (go_simp; done) | (go_simp; with_reducible rfl)
      simp only [List.setIfInBounds_toArray, List.set_cons_zero, List.set_cons_succ]
      refine zk (v := ?_) 7 26 #[true, true, true, true, true, true, true, true, false, false, false, false, false, false, false, false] rfl rfl (by kernel_rfl) (by kernel_rfl) (by kernel_rfl) (by kernel_rfl) (fun _ _ _ h => h) (by kernel_rfl) (by rfl) ?hy hHeld ?_
      case hy => rintro W ⟨⟨s1, s2⟩, ⟨s3, s4⟩, s5⟩; first | (go_simp; done) | (go_simp; with_reducible rfl)
      simp only [List.setIfInBounds_toArray, List.set_cons_zero, List.set_cons_succ]
      refine zk (v := ?_) 8 27 #[true, true, true, true, true, true, true, true, true, false, false, false, false, false, false, false] rfl rfl (by kernel_rfl) (by kernel_rfl) (by kernel_rfl) (by kernel_rfl) (fun _ _ _ h => h) (by kernel_rfl) (by rfl) ?hy hHeld ?_
      case hy => rintro W ⟨⟨s1, s2⟩, ⟨s3, s4⟩, s5⟩; first | (go_simp; done) | (go_simp; with_reducible rfl)
      simp only [List.setIfInBounds_toArray, List.set_cons_zero, List.set_cons_succ]
      refine zk (v := ?_) 9 28 #[true, true, true, true, true, true, true, true, true, true, false, false, false, false, false, false] rfl rfl (by kernel_rfl) (by kernel_rfl) (by kernel_rfl) (by kernel_rfl) (fun _ _ _ h => h) (by kernel_rfl) (by rfl) ?hy hHeld ?_
      case hy => rintro W ⟨⟨s1, s2⟩, ⟨s3, s4⟩, s5⟩; first | (go_simp; done) | (go_simp; with_reducible rfl)
      simp only [List.setIfInBounds_toArray, List.set_cons_zero, List.set_cons_succ]
      refine zk (v := ?_) 10 29 #[true, true, true, true, true, true, true, true, true, true, true, false, false, false, false, false] rfl rfl (by kernel_rfl) (by kernel_rfl) (by kernel_rfl) (by kernel_rfl) (fun _ _ _ h => h) (by kernel_rfl) (by rfl) ?hy hHeld ?_
      case hy => rintro W ⟨⟨s1, s2⟩, ⟨s3, s4⟩, s5⟩; first | (go_simp; done) | (go_simp; with_reducible rfl)
      simp only [List.setIfInBounds_toArray, List.set_cons_zero, List.set_cons_succ]
      refine zk (v := ?_) 11 30 #[true, true, true, true, true, true, true, true, true, true, true, true, false, false, false, false] rfl rfl (by kernel_rfl) (by kernel_rfl) (by kernel_rfl) (by kernel_rfl) (fun _ _ _ h => h) (by kernel_rfl) (by rfl) ?hy hHeld ?_
      case hy => rintro W ⟨⟨s1, s2⟩, ⟨s3, s4⟩, s5⟩; first | (go_simp; done) | (go_simp; with_reducible rfl)
      simp only [List.setIfInBounds_toArray, List.set_cons_zero, List.set_cons_succ]
      have hbA5 := (Below.refl D5.heap.size D5).alloc (Nat.le_refl _) (.cells #[.int .i64 (y0 : Int)] 3)
      have HVA5 := hide (HVD5.out.later hbA5 HVD5.out.low.size)
      have HSA5 := hide (blk_later HSD5.out hbA5)
      have HBA5 := hide (blk_later HBD5.out hbA5)
      have HRA5 := hide (blk_later HRD5.out hbA5)
      have CA5 : Hid ((World.alloc D5 (.cells #[.int .i64 (y0 : Int)] 3)).cell? ⟨G false, x0, none⟩ = some (.slice ra5 m5 rc5)) := hide (by rw [← HVE5.out]; exact HVA5.out.cell false hx0)
      have hlt5 : m5 ≤ 8796093022200 := by rw [← hm5.out]; exact (by have := HXL.out false x0; have := HL.out; omega)
      obtain ⟨v5, w5, hrun5, hO5, hg5⟩ := run_append_in _ w.heap.size 41 (V false x0) _ (y0 : Int) D5.heap.size (HVA5.out.own false x0 hx0) (cell_of_row _ _ 0 _ _ _ (alloc_new D5 (.cells #[.int .i64 (y0 : Int)] 3))) (by rw [ni_len, hm5.out]; omega) HVA5.out.low.size
      rw [← show ni (X false x0 ++ [y0]) = ni (X false x0) ++ [((y0 : Nat) : Int)] by rw [ni_app]; rfl] at hO5
      obtain ⟨na5, nc5, hvv5⟩ : ∃ a c, v5 = .slice a (m5 + 1) c := by obtain ⟨a, c, e⟩ := IN.OM.slice hO5; rw [ni_len, List.length_append, hm5.out] at e; exact ⟨a, c, e⟩
      subst hvv5
      rw [HVE5.out] at hrun5
      have HRUN5 := hide hrun5
      obtain ⟨hc5, hf5, ho5⟩ := HVA5.out.side hx0 hg5
      obtain ⟨HPV5, HPO5⟩ := HVA5.out.push HVA5.out.low.size hx0 hO5 hg5
      have HSw5 := hide (ho5 _ _ _ _ HSA5.out (by decide))
      have HBw5 := hide (ho5 _ _ _ _ HBA5.out (by decide))
      have Cw5 := hide ((hc5 false x0).trans CA5.out)
      have hfz5 := hf5 false x0
      have hcx5 := Cw5.out
      obtain ⟨W5, hW5⟩ : ∃ xw, World.setCell w5 ⟨G false, x0, none⟩ (.slice na5 (m5 + 1) nc5) = xw := ⟨_, rfl⟩
      rw [hW5] at HPV5 HPO5
      have HV5 := hide HPV5
      have HRW5 := hide (HPO5 _ _ _ _ HRA5.out (by decide) (by decide))
      have HSW5 := hide (HPO5 _ _ _ _ HSA5.out (by decide) (by decide))
      have HBW5 := hide (HPO5 _ _ _ _ HBA5.out (by decide) (by decide))
      clear HPV5 HPO5 hc5 hf5 ho5 hO5 hg5 hrun5 hlt5 hbA5
      refine z_ready 12 #[true, true, true, true, true, true, true, true, true, true, true, true, true, false, false, false] rfl (by kernel_rfl) (by kernel_rfl) (by rfl) (fun K hK => ?_)
      go_simp
      refine hK.out _ _ (fun _ => ⟨pair_cells HSA5.out rfl, pair_cells HBA5.out rfl, CA5.out⟩) (fun hHeld => ?_)
      clear hK K
      refine z_ready 13 #[true, true, true, true, true, true, true, true, true, true, true, true, true, true, false, false] rfl (by kernel_rfl) (by kernel_rfl) (by rfl) (fun K hK => ?_)
      refine op_append_gen _ _ rfl _ ⟨D5.heap.size, 0, none⟩ 1 1 rfl rfl _ w5 HRUN5.out ?_
      simp only [Act.put, List.setIfInBounds_toArray]
      refine hK.out _ _ (fun _ => ⟨pair_cells HSw5.out rfl, pair_cells HBw5.out rfl, Cw5.out⟩) (fun hHeld => ?_)
      clear hK K
      refine z_ready 14 #[true, true, true, true, true, true, true, true, true, true, true, true, true, true, true, false] rfl (by kernel_rfl) (by kernel_rfl) (by rfl) (fun K hK => ?_)
      go_simp
      refine hK.out _ _ (fun _ => ⟨pair_cells HSw5.out rfl, pair_cells HBw5.out rfl, Cw5.out⟩) (fun hHeld => ?_)
      clear hK K
      refine z_ready 15 #[true, true, true, true, true, true, true, true, true, true, true, true, true, true, true, true] rfl (by kernel_rfl) (by kernel_rfl) (by rfl) (fun K hK => ?_)
      go_simp
      refine hK.out _ _ (fun h => absurd rfl h) (fun _ => ?_)
      clear hK K
      refine z_done (by kernel_rfl) ?_ _
      clear hW5 hfz5 hcx5 HRUN5 HRA5 HRD5 HSw5 HBw5 Cw5 CA5 HSA5 HBA5 HVA5 CD5 HSD5 HBD5 HVD5 HVE5 hm5
      try clear hHeld
      go_wp2_with fail
      obtain ⟨V5, hV5⟩ : ∃ V5, upV V false x0 (.slice na5 (m5 + 1) nc5) = V5 := ⟨_, rfl⟩
      obtain ⟨X5, HX5⟩ : ∃ X5, Hid (upV X false x0 (X false x0 ++ [y0]) = X5) := ⟨_, hide rfl⟩
      rw [hV5, HX5.out] at HV5
      clear hV5
      obtain ⟨D6, hD6⟩ : ∃ xw, World.drew W5 = xw := ⟨_, rfl⟩
      have hbD6 : Below W5.heap.size W5 D6 := by rw [← hD6]; exact (Below.refl _ _).drew
      have HVD6 := hide (HV5.out.later hbD6 HV5.out.low.size)
      have HSD6 := hide (blk_later HSW5.out hbD6)
      have HBD6 := hide (blk_later HBW5.out hbD6)
      have HRD6 := hide (blk_later HRW5.out hbD6)
      obtain ⟨ra6, rc6, hv6⟩ := HV5.out.sl true (x := y0) hy0
      obtain ⟨m6, hm6⟩ : ∃ m, Hid ((X5 true y0).length = m) := ⟨_, hide rfl⟩
      rw [hm6.out] at hv6
      have CD6 : Hid (D6.cell? ⟨G true, y0, none⟩ = some (.slice ra6 m6 rc6)) := hide (by rw [← hv6]; exact HVD6.out.cell true hy0)
      have HVE6 := hide hv6
      clear hv6
      refine z_begins (S := fun W : World => (W.cell? ⟨sb, 0, none⟩ = some (.slice (some ⟨G false, 0, none⟩) n n) ∧ W.cell? ⟨sb, 1, none⟩ = some (.slice (some ⟨G true, 0, none⟩) n n)) ∧ (W.cell? ⟨bx, 0, none⟩ = some (.int .i64 (x0 : Int)) ∧ W.cell? ⟨bx, 1, none⟩ = some (.int .i64 (y0 : Int))) ∧ W.cell? ⟨G true, y0, none⟩ = some (.slice ra6 m6 rc6)) 15 16 #[false, false, false, false, false, false, false, false, false, false, false, false, false, false, false, false] (by kernel_rfl) (by kernel_rfl) (by kernel_rfl) (by rw [hD6]; exact ⟨pair_cells HSD6.out rfl, pair_cells HBD6.out rfl, CD6.out⟩) (fun hHeld => ?_)
      rw [hD6] at hHeld ⊢
      clear hD6 hbD6
      refine zk (v := ?_) 0 34 #[true, false, false, false, false, false, false, false, false, false, false, false, false, false, false, false] rfl rfl (by kernel_rfl) (by kernel_rfl) (by kernel_rfl) (by kernel_rfl) (fun _ _ _ h => h) (by kernel_rfl) (by rfl) ?hy hHeld ?_
      case hy => rintro W ⟨⟨s1, s2⟩, ⟨s3, s4⟩, s5⟩; first | (go_simp; done) | (go_simp; with_reducible rfl)
      simp only [List.setIfInBounds_toArray, List.set_cons_zero, List.set_cons_succ]
      refine zk (v := ?_) 1 35 #[true, true, false, false, false, false, false, false, false, false, false, false, false, false, false, false] rfl rfl (by kernel_rfl) (by kernel_rfl) (by kernel_rfl) (by kernel_rfl) (fun _ _ _ h => h) (by kernel_rfl) (by rfl) ?hy hHeld ?_
      case hy => rintro W ⟨⟨s1, s2⟩, ⟨s3, s4⟩, s5⟩; first | (go_simp; done) | (go_simp; with_reducible rfl)
      simp only [List.setIfInBounds_toArray, List.set_cons_zero, List.set_cons_succ]
      refine zk (v := ?_) 2 36 #[true, true, true, false, false, false, false, false, false, false, false, false, false, false, false, false] rfl rfl (by kernel_rfl) (by kernel_rfl) (by kernel_rfl) (by kernel_rfl) (fun _ _ _ h => h) (by kernel_rfl) (by rfl) ?hy hHeld ?_
      case hy => rintro W ⟨⟨s1, s2⟩, ⟨s3, s4⟩, s5⟩; first | (go_simp; done) | (go_simp; with_reducible rfl)
      simp only [List.setIfInBounds_toArray, List.set_cons_zero, List.set_cons_succ]
      refine zk (v := ?_) 3 37 #[true, true, true, true, false, false, false, false, false, false, false, false, false, false, false, false] rfl rfl (by kernel_rfl) (by kernel_rfl) (by kernel_rfl) (by kernel_rfl) (fun _ _ _ h => h) (by kernel_rfl) (by rfl) ?hy hHeld ?_
      case hy => rintro W ⟨⟨s1, s2⟩, ⟨s3, s4⟩, s5⟩; first | (go_simp; done) | (go_simp; with_reducible rfl)
      simp only [List.setIfInBounds_toArray, List.set_cons_zero, List.set_cons_succ]
      refine zk (v := ?_) 4 38 #[true, true, true, true, true, false, false, false, false, false, false, false, false, false, false, false] rfl rfl (by kernel_rfl) (by kernel_rfl) (by kernel_rfl) (by kernel_rfl) (fun _ _ _ h => h) (by kernel_rfl) (by rfl) ?hy hHeld ?_
      case hy => rintro W ⟨⟨s1, s2⟩, ⟨s3, s4⟩, s5⟩; first | (go_simp; done) | (go_simp; with_reducible rfl)
      simp only [List.setIfInBounds_toArray, List.set_cons_zero, List.set_cons_succ]
      refine zk (v := ?_) 5 39 #[true, true, true, true, true, true, false, false, false, false, false, false, false, false, false, false] rfl rfl (by kernel_rfl) (by kernel_rfl) (by kernel_rfl) (by kernel_rfl) (fun _ _ _ h => h) (by kernel_rfl) (by rfl) ?hy hHeld ?_
      case hy => rintro W ⟨⟨s1, s2⟩, ⟨s3, s4⟩, s5⟩; first | (go_simp; done) | (go_simp; with_reducible rfl)
      simp only [List.setIfInBounds_toArray, List.set_cons_zero, List.set_cons_succ]
      refine zk (v := ?_) 6 40 #[true, true, true, true, true, true, true, false, false, false, false, false, false, false, false, false] rfl rfl (by kernel_rfl) (by kernel_rfl) (by kernel_rfl) (by kernel_rfl) (fun _ _ _ h => h) (by kernel_rfl) (by rfl) ?hy hHeld ?_
      case hy => rintro W ⟨⟨s1, s2⟩, ⟨s3, s4⟩, s5⟩; first | (go_simp; done) | (go_simp; with_reducible rfl)
      simp only [List.setIfInBounds_toArray, List.set_cons_zero, List.set_cons_succ]
      refine zk (v := ?_) 7 41 #[true, true, true, true, true, true, true, true, false, false, false, false, false, false, false, false] rfl rfl (by kernel_rfl) (by kernel_rfl) (by kernel_rfl) (by kernel_rfl) (fun _ _ _ h => h) (by kernel_rfl) (by rfl) ?hy hHeld ?_
      case hy => rintro W ⟨⟨s1, s2⟩, ⟨s3, s4⟩, s5⟩; first | (go_simp; done) | (go_simp; with_reducible rfl)
      simp only [List.setIfInBounds_toArray, List.set_cons_zero, List.set_cons_succ]
      refine zk (v := ?_) 8 42 #[true, true, true, true, true, true, true, true, true, false, false, false, false, false, false, false] rfl rfl (by kernel_rfl) (by kernel_rfl) (by kernel_rfl) (by kernel_rfl) (fun _ _ _ h => h) (by kernel_rfl) (by rfl) ?hy hHeld ?_
      case hy => rintro W ⟨⟨s1, s2⟩, ⟨s3, s4⟩, s5⟩; first | (go_simp; done) | (go_simp; with_reducible rfl)
      simp only [List.setIfInBounds_toArray, List.set_cons_zero, List.set_cons_succ]
      refine zk (v := ?_) 9 43 #[true, true, true, true, true, true, true, true, true, true, false, false, false, false, false, false] rfl rfl (by kernel_rfl) (by kernel_rfl) (by kernel_rfl) (by kernel_rfl) (fun _ _ _ h => h) (by kernel_rfl) (by rfl) ?hy hHeld ?_
      case hy => rintro W ⟨⟨s1, s2⟩, ⟨s3, s4⟩, s5⟩; first | (go_simp; done) | (go_simp; with_reducible rfl)
      simp only [List.setIfInBounds_toArray, List.set_cons_zero, List.set_cons_succ]
      refine zk (v := ?_) 10 44 #[true, true, true, true, true, true, true, true, true, true, true, false, false, false, false, false] rfl rfl (by kernel_rfl) (by kernel_rfl) (by kernel_rfl) (by kernel_rfl) (fun _ _ _ h => h) (by kernel_rfl) (by rfl) ?hy hHeld ?_
      case hy => rintro W ⟨⟨s1, s2⟩, ⟨s3, s4⟩, s5⟩; first | (go_simp; done) | (go_simp; with_reducible rfl)
      simp only [List.setIfInBounds_toArray, List.set_cons_zero, List.set_cons_succ]
      refine zk (v := ?_) 11 45 #[true, true, true, true, true, true, true, true, true, true, true, true, false, false, false, false] rfl rfl (by kernel_rfl) (by kernel_rfl) (by kernel_rfl) (by kernel_rfl) (fun _ _ _ h => h) (by kernel_rfl) (by rfl) ?hy hHeld ?_
      case hy => rintro W ⟨⟨s1, s2⟩, ⟨s3, s4⟩, s5⟩; first | (go_simp; done) | (go_simp; with_reducible rfl)
      simp only [List.setIfInBounds_toArray, List.set_cons_zero, List.set_cons_succ]
      have hbA6 := (Below.refl D6.heap.size D6).alloc (Nat.le_refl _) (.cells #[.int .i64 (x0 : Int)] 3)
      have HVA6 := hide (HVD6.out.later hbA6 HVD6.out.low.size)
      have HSA6 := hide (blk_later HSD6.out hbA6)
      have HBA6 := hide (blk_later HBD6.out hbA6)
      have HRA6 := hide (blk_later HRD6.out hbA6)
      have CA6 : Hid ((World.alloc D6 (.cells #[.int .i64 (x0 : Int)] 3)).cell? ⟨G true, y0, none⟩ = some (.slice ra6 m6 rc6)) := hide (by rw [← HVE6.out]; exact HVA6.out.cell true hy0)
      have hlt6 : m6 ≤ 8796093022200 := by rw [← hm6.out]; exact (by have h := upV_ne X (s := false) (x := x0) (s' := true) (x' := y0) (X false x0 ++ [y0]) (fun q => by cases q); rw [HX5.out] at h; have h2 := HXL.out true y0; rw [h]; have := HL.out; omega)
      obtain ⟨v6, w6, hrun6, hO6, hg6⟩ := run_append_in _ w.heap.size 41 (V5 true y0) _ (x0 : Int) D6.heap.size (HVA6.out.own true y0 hy0) (cell_of_row _ _ 0 _ _ _ (alloc_new D6 (.cells #[.int .i64 (x0 : Int)] 3))) (by rw [ni_len, hm6.out]; omega) HVA6.out.low.size
      rw [← show ni (X5 true y0 ++ [x0]) = ni (X5 true y0) ++ [((x0 : Nat) : Int)] by rw [ni_app]; rfl] at hO6
      obtain ⟨na6, nc6, hvv6⟩ : ∃ a c, v6 = .slice a (m6 + 1) c := by obtain ⟨a, c, e⟩ := IN.OM.slice hO6; rw [ni_len, List.length_append, hm6.out] at e; exact ⟨a, c, e⟩
      subst hvv6
      rw [HVE6.out] at hrun6
      have HRUN6 := hide hrun6
      obtain ⟨hc6, hf6, ho6⟩ := HVA6.out.side hy0 hg6
      obtain ⟨HPV6, HPO6⟩ := HVA6.out.push HVA6.out.low.size hy0 hO6 hg6
      have HSw6 := hide (ho6 _ _ _ _ HSA6.out (by decide))
      have HBw6 := hide (ho6 _ _ _ _ HBA6.out (by decide))
      have Cw6 := hide ((hc6 true y0).trans CA6.out)
      have hfz6 := hf6 true y0
      have hcx6 := Cw6.out
      obtain ⟨W6, hW6⟩ : ∃ xw, World.setCell w6 ⟨G true, y0, none⟩ (.slice na6 (m6 + 1) nc6) = xw := ⟨_, rfl⟩
      rw [hW6] at HPV6 HPO6
      have HV6 := hide HPV6
      have HRW6 := hide (HPO6 _ _ _ _ HRA6.out (by decide) (by decide))
      have HSW6 := hide (HPO6 _ _ _ _ HSA6.out (by decide) (by decide))
      have HBW6 := hide (HPO6 _ _ _ _ HBA6.out (by decide) (by decide))
      clear HPV6 HPO6 hc6 hf6 ho6 hO6 hg6 hrun6 hlt6 hbA6
      refine z_ready 12 #[true, true, true, true, true, true, true, true, true, true, true, true, true, false, false, false] rfl (by kernel_rfl) (by kernel_rfl) (by rfl) (fun K hK => ?_)
      go_simp
      refine hK.out _ _ (fun _ => ⟨pair_cells HSA6.out rfl, pair_cells HBA6.out rfl, CA6.out⟩) (fun hHeld => ?_)
      clear hK K
      refine z_ready 13 #[true, true, true, true, true, true, true, true, true, true, true, true, true, true, false, false] rfl (by kernel_rfl) (by kernel_rfl) (by rfl) (fun K hK => ?_)
      refine op_append_gen _ _ rfl _ ⟨D6.heap.size, 0, none⟩ 1 1 rfl rfl _ w6 HRUN6.out ?_
      simp only [Act.put, List.setIfInBounds_toArray]
      refine hK.out _ _ (fun _ => ⟨pair_cells HSw6.out rfl, pair_cells HBw6.out rfl, Cw6.out⟩) (fun hHeld => ?_)
      clear hK K
      refine z_ready 14 #[true, true, true, true, true, true, true, true, true, true, true, true, true, true, true, false] rfl (by kernel_rfl) (by kernel_rfl) (by rfl) (fun K hK => ?_)
      go_simp
      refine hK.out _ _ (fun _ => ⟨pair_cells HSw6.out rfl, pair_cells HBw6.out rfl, Cw6.out⟩) (fun hHeld => ?_)
      clear hK K
      refine z_ready 15 #[true, true, true, true, true, true, true, true, true, true, true, true, true, true, true, true] rfl (by kernel_rfl) (by kernel_rfl) (by rfl) (fun K hK => ?_)
      go_simp
      refine hK.out _ _ (fun h => absurd rfl h) (fun _ => ?_)
      clear hK K
      refine z_done (by kernel_rfl) ?_ _
      clear hW6 hfz6 hcx6 HRUN6 HRA6 HRD6 HSw6 HBw6 Cw6 CA6 HSA6 HBA6 HVA6 CD6 HSD6 HBD6 HVD6 HVE6 hm6
      try clear hHeld
      have HVF : Hid (∃ V, WV w.heap.size w W6 G n V (XX ((pn L).take (j + 1)))) := hide (by
        have h := HV6.out
        have e := upV_ne X (s := false) (x := x0) (s' := true) (x' := y0) (X false x0 ++ [y0]) (fun q => by cases q)
        rw [← HX5.out, e, ← HX.out, ← XX_snoc, ← HT.out] at h
        exact ⟨_, h⟩)
      clear HV6
      go_wp2_with fail
      go_roundw
      case rel => exact ⟨j + 1, by omega, by go_num, HVF, HSW6, HRW6⟩
      case measure => first | (rw [wk]; simp [intOf]; omega) | (simp [intOf]; omega)
    · have e : j = L.length := by omega
      subst e
      have hd2 : decide ((L.length : Int) < (L.length : Int)) = false := by simp
      obtain ⟨s0, s1⟩ := pair_cells HS.out rfl
      obtain ⟨r0, r1⟩ := pair_cells HRR.out rfl
      have fr : ∀ o, wr.frozen? ⟨w.heap.size, o, none⟩ = false := fun o => nofz HRR.out o
      have f0 := fr 0
      obtain ⟨w2, hw2⟩ : ∃ w2, wr.setCell ⟨w.heap.size, 0, none⟩ (.slice (some ⟨G false, 0, none⟩) n n) = w2 := ⟨_, rfl⟩
      obtain ⟨w3, hw3⟩ : ∃ w3, w2.setCell ⟨w.heap.size, 1, none⟩ (.slice (some ⟨G true, 0, none⟩) n n) = w3 := ⟨_, rfl⟩
      have HW3 : Hid (w3.heap[w.heap.size]? = some (.cells #[.slice (some ⟨G false, 0, none⟩) n n, .slice (some ⟨G true, 0, none⟩) n n] 67 (0, 0)) ∧ w2.heap[w.heap.size]? = some (.cells #[.slice (some ⟨G false, 0, none⟩) n n, .slice none 0 0] 67 (0, 0))) := hide (by
        have h0 := HRR.out
        have h2 := blk_setCell_same h0 0 (.slice (some ⟨G false, 0, none⟩) n n)
        rw [hw2] at h2
        have h3 := blk_setCell_same h2 1 (.slice (some ⟨G true, 0, none⟩) n n)
        rw [hw3] at h3
        exact ⟨h3, h2⟩)
      have f1 := nofz HW3.out.2 1
      obtain ⟨g0, g1⟩ := pair_cells HW3.out.1 rfl
      obtain ⟨_, g2⟩ := pair_cells HW3.out.2 rfl
      have HVF : Hid (∃ V, WV w.heap.size w w3 G n V (XX (pn L))) := hide (by
        obtain ⟨V, h⟩ := HV0.out
        rw [List.take_of_length_le (by rw [pn_len]; exact Nat.le_refl _)] at h
        have hR1 := HRR.out
        have h2 := h.other (Nat.le_refl _) hR1 (by decide) (by decide) 0 (.slice (some ⟨G false, 0, none⟩) n n)
        rw [hw2] at h2
        have h3 := h2.other (Nat.le_refl _) HW3.out.2 (by decide) (by decide) 1 (.slice (some ⟨G true, 0, none⟩) n n)
        rw [hw3] at h3
        exact ⟨V, h3⟩)
      clear HRR HV0 fr
      go_wp2_with fail
      obtain ⟨V, HVV⟩ : ∃ V, Hid (WV w.heap.size w w3 G n V (XX (pn L))) := by obtain ⟨V, h⟩ := HVF.out; exact ⟨V, hide h⟩
      exact bodyPost_ret (v := .agg #[.slice (some ⟨G false, 0, none⟩) n n, .slice (some ⟨G true, 0, none⟩) n n]) (by simp [results, Tryd.results27, go_sem, g0, g1]) rfl ⟨G, V, rfl, HVV.out⟩
end Go.Proofs.YtcdhblfefpkjgaaDoor
