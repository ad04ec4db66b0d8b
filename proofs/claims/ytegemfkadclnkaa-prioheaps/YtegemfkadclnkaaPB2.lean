/-
  My own text: rows of pairs that are made; Sorted.
-/
import Derived.Test.YtegemfkadclnkaaPX2
namespace Go.Proofs.Ytegemfkadclnkaa
open Go.RowKit

theorem made2 (n : Nat) : (madeCells #[.int .i64 0, .int .i64 0] n).toList = List.replicate n (.int .i64 0) := by
  refine List.ext_getElem (by simp [madeCells]) (fun j h1 h2 => ?_)
  simp only [madeCells, Array.toList_map, Array.toList_range, List.getElem_map, List.getElem_range, List.getElem_replicate]
  have h : j % 2 < 2 := Nat.mod_lt _ (by decide)
  show (#[Value.int .i64 0, Value.int .i64 0] : Array Value)[j % 2]! = _
  rcases (show j % 2 = 0 ∨ j % 2 = 1 by omega) with e | e <;> rw [e] <;> rfl
theorem mc_rep : ∀ n : Nat, mc (List.replicate n ((0, 0) : Pr)) = List.replicate (n * 2) (.int .i64 0)
  | 0 => rfl
  | n + 1 => by rw [List.replicate_succ, show (n + 1) * 2 = n * 2 + 1 + 1 by omega, List.replicate_succ, List.replicate_succ, ← mc_rep n]; rfl
theorem OM.made (w : World) (n : Nat) (hn : n ≤ 8796093022208) : OM (w.alloc (.cells (madeCells #[.int .i64 0, .int .i64 0] (n * 2)) 25)) w.heap.size (.slice (some ⟨w.heap.size, 0, none⟩) n n) (List.replicate n (0, 0)) := by
  refine ⟨by rw [mc_len], .inr ⟨w.heap.size, n, _, by rw [List.length_replicate], Nat.le_refl _, alloc_new w _, by rw [List.length_replicate]; exact Nat.le_refl _, by unfold maxLen; omega, by rw [size_madeCells], ?_⟩⟩
  rw [made2, mc_rep, List.length_replicate, List.take_of_length_le (by simp)]
theorem OM.setc {w : World} {B g cap n : Nat} {L : List Pr} (h : OM w B (.slice (some ⟨g, 0, none⟩) n cap) L) (j : Nat) (p : Pr) : OM (w.setCells g (j * 2) [.int .i64 p.1, .int .i64 p.2]) B (.slice (some ⟨g, 0, none⟩) n cap) (L.set j p) := by
  rcases h.2 with ⟨q, _⟩ | ⟨g', cap', cur, q, hb, hh, h1, h2, h3, h4⟩
  · cases q
  · injection q with q1 q2 q3
    injection q1 with q1; injection q1 with q1
    subst q1 q2 q3
    have e1 := setCell_eq_setRow w g (j * 2) _ _ _ (.int .i64 p.1) hh
    have r1 := setRow_heap w g cur (cur.setIfInBounds (j * 2) (.int .i64 p.1)) _ _ hh
    rw [← e1] at r1
    have e2 := setCell_eq_setRow _ g (j * 2 + 1) _ _ _ (.int .i64 p.2) r1
    have r2 := setRow_heap _ g _ ((cur.setIfInBounds (j * 2) (.int .i64 p.1)).setIfInBounds (j * 2 + 1) (.int .i64 p.2)) _ _ r1
    rw [← e2] at r2
    refine ⟨by rw [mc_len], .inr ⟨g, cap, _, by rw [List.length_set], hb, r2, by rw [List.length_set]; exact h1, h2, by simp [h3], ?_⟩⟩
    rw [mc_set, ← h4, List.length_set]
    simp only [Array.toList_setIfInBounds]
    rw [List.take_set, List.take_set]
theorem OM.there {w : World} {B g cap n : Nat} {L : List Pr} (h : OM w B (.slice (some ⟨g, 0, none⟩) n cap) L) {j : Nat} (hj : j < L.length) : w.there g (j * 2) 2 := fun i hi => by
  rcases h.2 with ⟨q, _⟩ | ⟨g', cap', cur, q, hb, hh, h1, h2, h3, h4⟩
  · cases q
  · cases q
    have hlt : j * 2 + i < cur.size := by omega
    exact ⟨by rw [cell_of_row w g _ cur _ (0, 0) hh, Array.getElem?_eq_getElem hlt]; rfl, by unfold World.frozen?; simp [hh]⟩
theorem OM.blk {w : World} {B g cap n : Nat} {L : List Pr} (h : OM w B (.slice (some ⟨g, 0, none⟩) n cap) L) : B ≤ g ∧ ∃ cur, w.heap[g]? = some (.cells cur 25 (0, 0)) := by
  rcases h.2 with ⟨q, _⟩ | ⟨g', cap', cur, q, hb, hh, h1, h2, h3, h4⟩
  · cases q
  · cases q; exact ⟨hb, cur, hh⟩
theorem p2_all (p : Pr) : (#[.int .i64 p.1, .int .i64 p.2] : Array Value).all (·.oneCell') = true := by simp [Value.oneCell']
theorem set_mid {α : Type} (D : List α) (z x : α) (T : List α) : (D ++ z :: T).set D.length x = (D ++ [x]) ++ T := by
  induction D with
  | nil => rfl
  | cons a t ih => show a :: (t ++ z :: T).set t.length x = _; rw [ih]; rfl
/-- Where Sorted is behind t rounds. -/
structure SrS (w wr : World) (k : Pr → Int) (lf : FuncId) (lb lh rg n : Nat) (R : List En) (t : Nat) (D : List Pr) (Rt Et : List En) (vt : Value) : Prop where
  dl : D.length = t
  eq : srt k n R = D ++ srt k (n - t) Rt
  rl : Rt.length = n - t
  pm : Et.Perm Rt
  hp : HeapOk (ltE k) Et
  rs : Rs 0 Rt
  hh : HP wr w.heap.size lh lb lf vt Et 0
  om : OM wr w.heap.size (.slice (some ⟨rg, 0, none⟩) n n) (D ++ List.replicate (n - t) (0, 0))
  bl : Below w.heap.size w wr
  lw : w.heap.size ≤ lh
set_option maxRecDepth 100000 in
set_option maxHeartbeats 8000000 in
theorem sorted_any {lf : FuncId} {k : Pr → Int} (hl : LOk lf k) (B hb lb : Nat) (v : Value) (E R : List En) (N : Nat) (w : World) (h : HP w B hb lb lf v E N) (hk : HeapOk (ltE k) E) (hp : E.Perm R) (hr : Rs 0 R) (hlen : E.length ≤ 5864062014805) :
    Calls Try.prog 18 #[.pointer (some ⟨hb, 0, none⟩)] w fun e w' => ∃ v', e = .returned v' ∧ OM w' w.heap.size v' (srt k R.length R) ∧ Below w.heap.size w w' := by
  have HL := hide hl
  have HK := hide (And.intro hk (And.intro hp (And.intro hr hlen)))
  have HH := hide h
  have HCP := hide (fun W (hb' : Below w.heap.size w W) => copied_any B hb lb lf v E N W (h.later hb') hlen)
  have c1 := h.c1
  have hHeld := hide (show w.drew.cell? ⟨hb, 1, none⟩ = some (.func (Fn.func 23) #[] #[.pointer (some ⟨lb, 0, none⟩)]) from c1)
  clear h hk hp hr hlen hl c1
  go_enter Try.func18, Try.ntmps18
  go_wp2_with fail
  refine s_begins (S := fun W => W.cell? ⟨hb, 1, none⟩ = some (.func (Fn.func 23) #[] #[.pointer (some ⟨lb, 0, none⟩)])) [] 9 #[false, false, false, false, false, false, false, false, false] (by kernel_rfl) (by kernel_rfl) (by kernel_rfl) ?_
  refine sk0 (v := ?_) 0 6 #[true, false, false, false, false, false, false, false, false] rfl rfl (by kernel_rfl) (by kernel_rfl) (by kernel_rfl) (by kernel_rfl) (fun _ _ _ h => h) (by kernel_rfl) (by rfl) ?hy (fun _ => hHeld.out) ?_
  case hy => intro W; first | (go_simp; done) | (go_simp; with_reducible rfl)
  simp only [List.setIfInBounds_toArray, List.set_cons_zero, List.set_cons_succ]
  refine sk0 (v := ?_) 2 8 #[true, false, true, false, false, false, false, false, false] rfl rfl (by kernel_rfl) (by kernel_rfl) (by kernel_rfl) (by kernel_rfl) (fun _ _ _ h => h) (by kernel_rfl) (by rfl) ?hy (fun _ => hHeld.out) ?_
  case hy => intro W; first | (go_simp; done) | (go_simp; with_reducible rfl)
  simp only [List.setIfInBounds_toArray, List.set_cons_zero, List.set_cons_succ]
  refine sk0 (v := ?_) 3 9 #[true, false, true, true, false, false, false, false, false] rfl rfl (by kernel_rfl) (by kernel_rfl) (by kernel_rfl) (by kernel_rfl) (fun _ _ _ h => h) (by kernel_rfl) (by rfl) ?hy (fun _ => hHeld.out) ?_
  case hy => intro W; first | (go_simp; done) | (go_simp; with_reducible rfl)
  simp only [List.setIfInBounds_toArray, List.set_cons_zero, List.set_cons_succ]
  refine sk0 (v := ?_) 4 10 #[true, false, true, true, true, false, false, false, false] rfl rfl (by kernel_rfl) (by kernel_rfl) (by kernel_rfl) (by kernel_rfl) (fun _ _ _ h => h) (by kernel_rfl) (by rfl) ?hy (fun _ => hHeld.out) ?_
  case hy => intro W; first | (go_simp; done) | (go_simp; with_reducible rfl)
  simp only [List.setIfInBounds_toArray, List.set_cons_zero, List.set_cons_succ]
  refine sk1 (v := ?_) 5 11 #[true, false, true, true, true, true, false, false, false] rfl rfl (by kernel_rfl) (by kernel_rfl) (by kernel_rfl) (by kernel_rfl) (by kernel_rfl) (by kernel_rfl) (fun _ _ _ h => h) (by kernel_rfl) (by rfl) ?hy hHeld.out ?_
  case hy => rintro W e1; first | (go_simp; done) | (go_simp; with_reducible rfl)
  simp only [List.setIfInBounds_toArray, List.set_cons_zero, List.set_cons_succ]
  refine s_ready 1 #[true, true, true, true, true, true, false, false, false] rfl (by kernel_rfl) (by kernel_rfl) (by rfl) (fun K hK => ?_)
  go_simp
  refine (HCP.out w.drew drew_below).mono ?_
  rintro e w1 ⟨v1, rfl, ho1, hb1⟩
  have HO1 := hide ho1
  have B1 := hide hb1
  have HS1 := hide ((hb1.cell (World.block_lt_of_cell? _ _ hHeld.out)).trans hHeld.out)
  obtain ⟨a1, cap1, hv1, _⟩ := ho1.slc
  subst hv1
  clear hb1 ho1 HCP
  refine hK.out _ _ (fun _ => HS1.out) ?_
  clear hK K
  refine s_ready 6 #[true, true, true, true, true, true, true, false, false] rfl (by kernel_rfl) (by kernel_rfl) (by rfl) (fun K hK => ?_)
  go_simp
  refine hK.out _ _ (fun _ => HS1.out) ?_
  clear hK K
  obtain ⟨W2, hW2⟩ : ∃ W, Hid (w1.alloc (.cells #[.slice a1 E.length cap1, .func (Fn.func 23) #[] #[.pointer (some ⟨lb, 0, none⟩)], .int .i64 0] 55) = W) := ⟨_, hide rfl⟩
  have b2 : Below w1.heap.size w1 W2 := by rw [← hW2.out]; exact (Below.refl _ _).alloc (Nat.le_refl _) _
  have HS2 := hide ((b2.cell (World.block_lt_of_cell? _ _ HS1.out)).trans HS1.out)
  refine s_ready 7 #[true, true, true, true, true, true, true, true, false] rfl (by kernel_rfl) (by kernel_rfl) (by rfl) (fun K hK => ?_)
  go_simp
  rw [hW2.out]
  refine hK.out _ _ (fun _ => HS2.out) ?_
  clear hK K
  refine s_ready 8 #[true, true, true, true, true, true, true, true, true] rfl (by kernel_rfl) (by kernel_rfl) (by rfl) (fun K hK => ?_)
  go_simp
  refine hK.out _ _ (fun _ => HS2.out) ?_
  clear hK K
  refine s_done (by kernel_rfl) ?_ _
  have HB2 := hide (show Below w.heap.size w W2 from (drew_below (B := w.heap.size) (w := w)).trans (B1.out.trans (b2.mono B1.out.size)))
  have hn2 : W2.heap[w1.heap.size]? = some (.cells #[.slice a1 E.length cap1, .func (Fn.func 23) #[] #[.pointer (some ⟨lb, 0, none⟩)], .int .i64 0] 55 (0, 0)) := by rw [← hW2.out]; exact alloc_new w1 _
  have o2 : OE W2 w.heap.size (.slice a1 E.length cap1) E := owns_lat HO1.out b2
  have les2 : W2.heap[lb]? = _ := (HH.out.later HB2.out).les
  have H2 : Hid (HP W2 w.heap.size w1.heap.size lb lf (.slice a1 E.length cap1) E 0) := hide ⟨hn2, les2, o2⟩
  have hlw : w.heap.size ≤ w1.heap.size := B1.out.size
  obtain ⟨n, hn⟩ : ∃ n, Hid (E.length = n) := ⟨_, hide rfl⟩
  have c2 := H2.out.c0
  rw [hn.out] at c2
  obtain ⟨i0, hi, hz0, hz1, hz2⟩ := info_parts Try.infoMk
  have hmk : (Instr.makeSlice 29 (.int .i64 (n : Int)) (.int .i64 (n : Int))).run Try.prog W2 = .ok (.slice (some ⟨W2.heap.size, 0, none⟩) n n) (W2.alloc (.cells (madeCells #[.int .i64 0, .int .i64 0] (n * 2)) 25)) := by
    have h := run_make (P := Try.prog) W2 29 25 i0 (.agg #[.int .i64 0, .int .i64 0]) Try.underlying29 hi hz0 .i64 .i64 (n : Int) (n : Int) (by omega) (by omega) (by rw [hz2]; have := HK.out.2.2.2; have := hn.out; omega) (by have := HK.out.2.2.2; have := hn.out; omega)
    rw [hz1, Int.toNat_natCast] at h
    exact h
  obtain ⟨W3, hW3⟩ : ∃ W, Hid (W2.alloc (.cells (madeCells #[.int .i64 0, .int .i64 0] (n * 2)) 25) = W) := ⟨_, hide rfl⟩
  have b3 : Below W2.heap.size W2 W3 := by rw [← hW3.out]; exact (Below.refl _ _).alloc (Nat.le_refl _) _
  have o3 : OM W3 W2.heap.size (.slice (some ⟨W2.heap.size, 0, none⟩) n n) (List.replicate n (0, 0)) := by rw [← hW3.out]; exact OM.made W2 n (by have := HK.out.2.2.2; have := hn.out; omega)
  rw [hW3.out] at hmk
  obtain ⟨rg, hrg⟩ : ∃ rg, Hid (W2.heap.size = rg) := ⟨_, hide rfl⟩
  have HRL : Hid (R.length = n) := hide (by rw [← HK.out.2.1.length_eq]; exact hn.out)
  have H0 : Hid (SrS w W3 k lf lb w1.heap.size rg n R 0 [] R E (.slice a1 n cap1)) := hide
    { dl := rfl, eq := by simp, rl := by rw [HRL.out]; rfl, pm := HK.out.2.1, hp := HK.out.1, rs := HK.out.2.2.1, hh := by have := H2.out.later b3; rw [hn.out] at this; exact this, om := by rw [← hrg.out]; exact o3.mono HB2.out.size, bl := HB2.out.trans (b3.mono HB2.out.size), lw := hlw }
  rw [hrg.out] at hmk
  clear hn2 o2 les2 b2 b3 o3 hlw HS1 HS2 hHeld HO1 hi hz0 hz1 hz2 i0 H2
  rw [hn.out]
  go_wp2_with fail
  go_loopw [22] (fun j wr => ∃ (t : Nat) (D : List Pr) (Rt Et : List En) (vt : Value), j = .int .i64 (t : Int) ∧ t ≤ n ∧ Hid (SrS w wr k lf lb w1.heap.size rg n R t D Rt Et vt)) (fun j _ => n - (intOf j).toNat)
  case atStart => exact ⟨0, [], R, E, _, rfl, by omega, H0⟩
  case round =>
    obtain ⟨t, D, Rt, Et, vt, rfl, ht, HR⟩ := hrel
    by_cases htn : t < n
    · have d1 : decide ((t : Int) < (n : Int)) = true := by rw [decide_eq_true_eq]; omega
      have k0 : (0 : Int) ≤ (t : Int) := by omega
      have k1 : (t : Int) < (n : Int) := by omega
      have wt : wrap64 ((t : Int) + 1) = (t : Int) + 1 := wrap_up htn (by have := HK.out.2.2.2; have := hn.out; omega)
      have hel := HR.out.pm.length_eq
      have hrl := HR.out.rl
      obtain ⟨x, hx⟩ : ∃ x, Et[0]? = some x := ⟨_, List.getElem?_eq_getElem (by omega)⟩
      have HX := hide hx
      have HT := hide (takeOut_any HL.out 0 x w.heap.size w1.heap.size lb vt Et 0 wr HR.out.hh HR.out.hp hx (by have := HK.out.2.2.2; have := hn.out; omega) HR.out.bl.size)
      clear hx hel hrl
      go_wp2_with fail
      refine HT.out.mono ?_
      rintro e w2 ⟨rfl, v', E', g1, g2, g3, g4⟩
      obtain ⟨hrb, cur, hrc⟩ := HR.out.om.blk
      have hnp := HR.out.hh.ne_pr hrc
      have hrk := (g4.block rg (blk_lt hrc) hnp.1 hnp.2.2)
      have om2 : OM w2 w.heap.size (.slice (some ⟨rg, 0, none⟩) n n) (D ++ List.replicate (n - t) (0, 0)) := owns_later HR.out.om (fun g hg => by cases hg; exact hrk)
      obtain ⟨m, hm⟩ : ∃ m, n - t = m + 1 := ⟨n - t - 1, by omega⟩
      have om3 := om2.setc t x.1
      have er1 : (D ++ List.replicate (n - t) ((0, 0) : Pr)).set t x.1 = (D ++ [x.1]) ++ List.replicate (n - (t + 1)) (0, 0) := by
        have := HR.out.dl
        subst this
        rw [hm, List.replicate_succ, set_mid, show n - (D.length + 1) = m by omega]
      rw [er1] at om3
      have HTH : Hid (w2.there rg (t * 2) (#[.int .i64 x.1.1, .int .i64 x.1.2] : Array Value).size) := hide (om2.there (by rw [List.length_append, HR.out.dl, List.length_replicate]; omega))
      have hnp3 := g3.ne_pr (hrk.trans hrc)
      have po := perm_out g1 HR.out.pm
      have HN : Hid (SrS w (w2.setCells rg (t * 2) [.int .i64 x.1.1, .int .i64 x.1.2]) k lf lb w1.heap.size rg n R (t + 1) (D ++ [x.1]) (er Rt x) E' v') := hide
        { dl := by rw [List.length_append, HR.out.dl]; rfl
          eq := by rw [HR.out.eq, hm, srt_step HR.out.hp HR.out.pm HR.out.rs HX.out, show n - (t + 1) = m by omega, List.append_assoc]; rfl
          rl := by have := HR.out.rl; have := po.2; omega
          pm := po.1, hp := g2, rs := HR.out.rs.er x
          hh := g3.keep (fun g hg => sc_heap rg _ _ w2 g (fun e => by
            subst e
            rcases hg with q | q | q
            · exact hnp3.1 q
            · exact hnp3.2.1 q
            · exact hnp3.2.2 q.symm))
          om := om3
          bl := by
            have f := HR.out.bl.trans (g4.below (B := w.heap.size) HR.out.bl.size HR.out.lw (fun g hg => (HR.out.hh.row.lt g hg).1))
            exact f.trans (below_gb (sc_grown w2 rg _ _) f.size (fun g hg => by cases hg; exact hrb))
          lw := HR.out.lw }
      clear g1 g2 g3 g4 hrb hrc hnp hrk om2 om3 er1 hnp3 po HT hm m cur
      unfold pv
      go_wp2_with (refine wpList_store_mid0 rfl 25 _ _ rfl rfl rg (t * 2) #[.int .i64 x.1.1, .int .i64 x.1.2] rfl rfl HTH.out Try.sizePr (p2_all _) ?_)
      go_roundw
      case rel => exact ⟨t + 1, _, _, _, _, by first | rfl | (rw [wt]; rfl), htn, HN⟩
      case measure => first | exact meas_lt htn | (rw [wt]; exact meas_lt htn)
    · have d1 : decide ((t : Int) < (n : Int)) = false := by rw [decide_eq_false_iff_not]; omega
      have htt : t = n := by omega
      have HE : Hid (OM wr w.heap.size (.slice (some ⟨rg, 0, none⟩) n n) (srt k n R) ∧ Below w.heap.size w wr) := hide ⟨by
        have h1 := HR.out.om
        have h2 := HR.out.eq
        have e0 : n - t = 0 := by omega
        rw [e0] at h1 h2
        rw [h2]; exact h1, HR.out.bl⟩
      clear htt
      go_wp2_with fail
      go_ret
      exact ⟨_, rfl, by rw [HRL.out]; exact HE.out.1, HE.out.2⟩
end Go.Proofs.Ytegemfkadclnkaa
