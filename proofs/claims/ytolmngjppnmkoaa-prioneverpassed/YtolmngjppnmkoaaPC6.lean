/-
  My own text: rows of steps; Play, by the program.
-/
import Derived.Test.YtolmngjppnmkoaaPC5
namespace Go.Proofs.Ytolmngjppnmkoaa
open Go.RowKit

/-- A row of steps. -/
def R3 (w : World) (v : Value) (L : List Stp) : Prop := ∃ a cap, v = .slice a L.length cap ∧ L.length ≤ cap ∧ (L = [] ∨ ∃ b off, a = some ⟨b, off, none⟩ ∧ b < w.heap.size ∧ ∀ (j : Nat) (p : Stp), L[j]? = some p → w.cell? ⟨b, off + j * 3, none⟩ = some (.int .i64 p.1) ∧ w.cell? ⟨b, off + j * 3 + 1, none⟩ = some (.int .i64 p.2.1) ∧ w.cell? ⟨b, off + j * 3 + 2, none⟩ = some (.int .i64 p.2.2))
theorem R3.later {w w' : World} {v : Value} {L : List Stp} (h : R3 w v L) (hb : Below w.heap.size w w') : R3 w' v L := by
  obtain ⟨a, cap, hv, hcap, h⟩ := h
  refine ⟨a, cap, hv, hcap, ?_⟩
  rcases h with h | ⟨b, off, ha, hlt, hc⟩
  · exact .inl h
  · exact .inr ⟨b, off, ha, Nat.lt_of_lt_of_le hlt hb.size, fun j p hj => ⟨(hb.cell (p := ⟨b, _, none⟩) hlt).trans (hc j p hj).1, (hb.cell (p := ⟨b, _, none⟩) hlt).trans (hc j p hj).2.1, (hb.cell (p := ⟨b, _, none⟩) hlt).trans (hc j p hj).2.2⟩⟩
theorem R3.slc {w : World} {v : Value} {L : List Stp} (h : R3 w v L) : ∃ a cap, v = .slice a L.length cap := ⟨_, _, h.choose_spec.choose_spec.1⟩
theorem Try.sizeS3 : (Try.prog.info? 26).map (·.size) = some 3 := by kernel_rfl
def byF (f : Bool) : FuncId := if f then 53 else 54
theorem byF_ok (f : Bool) : LOk (byF f) (kB f) := by cases f; exact by2_ok; exact by1_ok
set_option maxHeartbeats 1000000 in
theorem byFirst_any (f : Bool) (w : World) : Calls Try.prog 40 #[.bool f] w fun e w' => e = .returned (.func (Fn.func (byF f)) #[] #[]) ∧ w' = w := by
  cases f
  all_goals
    go_enter Try.func40, Try.ntmps40
    go_wp2_with fail
    go_ret
    exact ⟨rfl, rfl⟩
theorem pl_step {k : Pr → Int} {R : List En} {N : Nat} {L : List Stp} {t : Nat} {s : Stp} (h : L[t]? = some s) : pl k R N (L.drop t) = (st1 k R N s).1 :: pl k (st1 k R N s).2.1 (st1 k R N s).2.2 (L.drop (t + 1)) := by
  have hj : t < L.length := (List.getElem?_eq_some_iff.1 h).1
  have he : L.drop t = s :: L.drop (t + 1) := by
    rw [List.drop_eq_getElem_cons hj]; congr 1; exact (List.getElem?_eq_some_iff.1 h).2
  rw [he]; rfl
theorem st1_N (k : Pr → Int) (R : List En) (N : Nat) (s : Stp) : (st1 k R N s).2.2 ≤ N + 1 := by
  unfold st1
  repeat' split
  all_goals simp
/-- Where Play is behind t steps. -/
structure PlS (w wr : World) (k : Pr → Int) (lf : FuncId) (rg n : Nat) (L : List Stp) (t : Nat) (D : List Pr) (R : List En) (N : Nat) (vt : Value) : Prop where
  dl : D.length = t
  eq : pl k [] 0 L = D ++ pl k R N (L.drop t)
  nt : N ≤ t
  hq : HQ wr w.heap.size (w.heap.size + 1) w.heap.size lf k vt R N
  om : OM wr w.heap.size (.slice (some ⟨rg, 0, none⟩) n n) (D ++ List.replicate (n - t) (0, 0))
  bl : Below w.heap.size w wr
set_option maxRecDepth 100000 in
set_option maxHeartbeats 8000000 in
theorem playP_any (f : Bool) (v : Value) (L : List Stp) (w : World) (h : R3 w v L) (hlen : L.length ≤ 5864062014805) :
    Calls Try.prog 9 #[v, .bool f] w fun e w' => ∃ v', e = .returned v' ∧ OM w' w.heap.size v' (pl (kB f) [] 0 L) ∧ Below w.heap.size w w' := by
  have HH := hide h
  have HLE := hide hlen
  have HBY := hide (byFirst_any f w)
  have HNW := hide (newQ (byF f) (kB f) w)
  obtain ⟨a, cap, rfl, _, hc⟩ := h
  obtain ⟨n, hn⟩ : ∃ n, Hid (L.length = n) := ⟨_, hide rfl⟩
  rw [hn.out] at HH ⊢
  have HC := hide hc
  clear hlen hc
  go_enter Try.func9, Try.ntmps9
  go_wp2_with fail
  refine HBY.out.mono ?_
  rintro e w1 ⟨rfl, rfl⟩
  go_wp2_with fail
  refine HNW.out.mono ?_
  rintro e w2 ⟨rfl, h2, hb2⟩
  obtain ⟨i0, hi, hz0, hz1, hz2⟩ := info_parts Try.infoMk
  have hmk : (Instr.makeSlice 23 (.int .i64 (n : Int)) (.int .i64 (n : Int))).run Try.prog w2 = .ok (.slice (some ⟨w2.heap.size, 0, none⟩) n n) (w2.alloc (.cells (madeCells #[.int .i64 0, .int .i64 0] (n * 2)) 33)) := by
    have h := run_make (P := Try.prog) w2 23 33 i0 (.agg #[.int .i64 0, .int .i64 0]) Try.underlying23 hi hz0 .i64 .i64 (n : Int) (n : Int) (by omega) (by omega) (by rw [hz2]; have := HLE.out; have := hn.out; omega) (by have := HLE.out; have := hn.out; omega)
    rw [hz1, Int.toNat_natCast] at h
    exact h
  obtain ⟨W3, hW3⟩ : ∃ W, Hid (w2.alloc (.cells (madeCells #[.int .i64 0, .int .i64 0] (n * 2)) 33) = W) := ⟨_, hide rfl⟩
  have b3 : Below w2.heap.size w2 W3 := by rw [← hW3.out]; exact (Below.refl _ _).alloc (Nat.le_refl _) _
  have o3 : OM W3 w2.heap.size (.slice (some ⟨w2.heap.size, 0, none⟩) n n) (List.replicate n (0, 0)) := by rw [← hW3.out]; exact OM.made w2 n (by have := HLE.out; have := hn.out; omega)
  rw [hW3.out] at hmk
  obtain ⟨rg, hrg⟩ : ∃ rg, Hid (w2.heap.size = rg) := ⟨_, hide rfl⟩
  have H0 : Hid (PlS w1 W3 (kB f) (byF f) rg n L 0 [] [] 0 (.slice none 0 0)) := hide
    { dl := rfl, eq := by simp, nt := Nat.le_refl _, hq := h2.later b3, om := by rw [← hrg.out]; exact o3.mono hb2.size, bl := hb2.trans (b3.mono hb2.size) }
  rw [hrg.out] at hmk
  clear h2 hb2 b3 o3 HBY HNW hi hz0 hz1 hz2 i0
  go_wp2_with fail
  go_loopw [17] (fun j wr => ∃ (t : Nat) (D : List Pr) (R : List En) (N : Nat) (vt : Value), j = .int .i64 (t : Int) ∧ t ≤ n ∧ Hid (PlS w1 wr (kB f) (byF f) rg n L t D R N vt)) (fun j _ => n - (intOf j).toNat)
  case atStart => exact ⟨0, [], [], 0, _, rfl, by omega, H0⟩
  case round =>
    obtain ⟨t, D, R, N, vt, rfl, ht, HR⟩ := hrel
    by_cases htn : t < n
    · have d1 : decide ((t : Int) < (n : Int)) = true := by rw [decide_eq_true_eq]; omega
      have k0 : (0 : Int) ≤ (t : Int) := by omega
      have k1 : (t : Int) < (n : Int) := by omega
      have wt : wrap64 ((t : Int) + 1) = (t : Int) + 1 := wrap_up htn (by have := HLE.out; have := hn.out; omega)
      obtain ⟨s, hs⟩ : ∃ s, L[t]? = some s := ⟨_, List.getElem?_eq_getElem (by rw [hn.out]; exact htn)⟩
      have HS := hide hs
      obtain ⟨b, off, rfl, hbl, hc⟩ := HC.out.resolve_left (fun e => by rw [e] at hs; simp at hs)
      have hcs := hc t s hs
      have s0 := (HR.out.bl.cell (p := ⟨b, _, none⟩) hbl).trans hcs.1
      have s1 := (HR.out.bl.cell (p := ⟨b, _, none⟩) hbl).trans hcs.2.1
      have s2 := (HR.out.bl.cell (p := ⟨b, _, none⟩) hbl).trans hcs.2.2
      have s1' : wr.cell? ⟨b, off + (t * 3 + 1), none⟩ = some (.int .i64 s.2.1) := s1
      have s2' : wr.cell? ⟨b, off + (t * 3 + 2), none⟩ = some (.int .i64 s.2.2) := s2
      obtain ⟨W8, hW8⟩ : ∃ W, Hid (wr.alloc (.cells #[.int .i64 s.1, .int .i64 s.2.1, .int .i64 s.2.2] 26) = W) := ⟨_, hide rfl⟩
      have b8 : Below wr.heap.size wr W8 := by rw [← hW8.out]; exact (Below.refl _ _).alloc (Nat.le_refl _) _
      have HT := hide (play_any (byF_ok f) s (HR.out.hq.later b8) (by have := HR.out.nt; have := HLE.out; have := hn.out; omega))
      have HB8 := hide b8
      have e8 := hW8.out
      clear hs hc hcs hbl b8 hW8
      subst e8
      go_wp2_with (refine wpList_store_row rfl 26 _ _ rfl wr.heap.size #[.int .i64 s.1, .int .i64 s.2.1, .int .i64 s.2.2] rfl rfl _ _ (alloc_new wr _) Try.sizeS3 rfl (by simp [Value.oneCell']) ?_; rw [World.setRow_alloc_new])
      refine HT.out.mono ?_
      rintro e w9 ⟨rfl, v9, h9, f9⟩
      obtain ⟨x, hx⟩ : ∃ x, Hid ((st1 (kB f) R N s).1 = x) := ⟨_, hide rfl⟩
      rw [hx.out]
      obtain ⟨hrb, cur, hrc⟩ := HR.out.om.blk
      have hrc8 := blk_later hrc HB8.out
      have hnp := (HR.out.hq.later HB8.out).ne hrc8 (by decide) (by decide)
      have hrk := f9.block rg (blk_lt hrc8) hnp.1 hnp.2
      have om8 := owns_lat HR.out.om HB8.out
      have om2 : OM w9 w1.heap.size (.slice (some ⟨rg, 0, none⟩) n n) (D ++ List.replicate (n - t) (0, 0)) := owns_later om8 (fun g hg => by cases hg; exact hrk)
      obtain ⟨m, hm⟩ : ∃ m, n - t = m + 1 := ⟨n - t - 1, by omega⟩
      have om3 := om2.setc t x
      have er1 : (D ++ List.replicate (n - t) ((0, 0) : Pr)).set t x = (D ++ [x]) ++ List.replicate (n - (t + 1)) (0, 0) := by
        have := HR.out.dl
        subst this
        rw [hm, List.replicate_succ, set_mid, show n - (D.length + 1) = m by omega]
      rw [er1] at om3
      have HTH : Hid (w9.there rg (t * 2) (#[.int .i64 x.1, .int .i64 x.2] : Array Value).size) := hide (om2.there (by rw [List.length_append, HR.out.dl, List.length_replicate]; omega))
      have hnl : rg ≠ w1.heap.size := fun e => by
        have h1 := hrk.trans hrc8
        rw [e, h9.les] at h1
        injection h1 with h1; injection h1 with _ h1; exact absurd h1 (by decide)
      have hnp3 := h9.ne (hrk.trans hrc8) (by decide) (by decide)
      have HN : Hid (PlS w1 (w9.setCells rg (t * 2) [.int .i64 x.1, .int .i64 x.2]) (kB f) (byF f) rg n L (t + 1) (D ++ [x]) (st1 (kB f) R N s).2.1 (st1 (kB f) R N s).2.2 v9) := hide
        { dl := by rw [List.length_append, HR.out.dl]; rfl
          eq := by rw [HR.out.eq, pl_step HS.out, hx.out, List.append_assoc]; rfl
          nt := by have := st1_N (kB f) R N s; have := HR.out.nt; omega
          hq := h9.keep (by rw [sc_size]; exact Nat.le_refl _) (fun g hg => sc_heap rg _ _ w9 g (fun e => by
            subst e
            rcases hg with q | q | q
            · exact hnp3.1 q
            · exact hnl q
            · exact hnp3.2 q.symm))
          om := om3
          bl := by
            have b := HR.out.bl.trans (HB8.out.mono HR.out.bl.size)
            have c := b.trans ((HR.out.hq.later HB8.out).below f9)
            exact c.trans (below_gb (sc_grown w9 rg _ _) c.size (fun g hg => by cases hg; exact hrb)) }
      clear h9 f9 hrb hrc hrc8 hnp hrk om8 om2 om3 er1 hnp3 hnl HT hm m cur s0 s1 s2 s1' s2'
      obtain ⟨x1, x2⟩ := x
      unfold pv
      dsimp only at HTH HN ⊢
      go_wp2_with (refine wpList_store_mid0 rfl 33 _ _ rfl rfl rg (t * 2) #[.int .i64 x1, .int .i64 x2] rfl rfl HTH.out Try.sizePr (p2_all (x1, x2)) ?_)
      go_roundw
      case rel => exact ⟨t + 1, _, _, _, _, by first | rfl | (rw [wt]; rfl), htn, HN⟩
      case measure => first | exact meas_lt htn | (rw [wt]; exact meas_lt htn)
    · have d1 : decide ((t : Int) < (n : Int)) = false := by rw [decide_eq_false_iff_not]; omega
      have htt : t = n := by omega
      have HE : Hid (OM wr w1.heap.size (.slice (some ⟨rg, 0, none⟩) n n) (pl (kB f) [] 0 L) ∧ Below w1.heap.size w1 wr) := hide ⟨by
        have h1 := HR.out.om
        have h2 := HR.out.eq
        have e0 : n - t = 0 := by omega
        rw [e0] at h1
        rw [htt, List.drop_of_length_le (by rw [hn.out]; exact Nat.le_refl _)] at h2
        rw [h2]; exact h1, HR.out.bl⟩
      clear htt
      go_wp2_with fail
      go_ret
      exact ⟨_, rfl, HE.out.1, HE.out.2⟩
end Go.Proofs.Ytolmngjppnmkoaa
