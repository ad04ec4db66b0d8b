/-
  My own text: the law PrioPlay.
-/
import Derived.Test.YtolmngjppnmkoaaPC7
import Derived.Test.YtolmngjppnmkoaaPX3
import Derived.Test.YtolmngjppnmkoaaPX4
namespace Go.Proofs.Ytolmngjppnmkoaa
open Go.RowKit

/-- Steps as cells. -/
def s3c : List Stp → List Value
  | [] => []
  | e :: t => .int .i64 e.1 :: .int .i64 e.2.1 :: .int .i64 e.2.2 :: s3c t
theorem s3c_len (a : List Stp) : (s3c a).length = a.length * 3 := by
  induction a with
  | nil => rfl
  | cons p t ih => show (s3c t).length + 1 + 1 + 1 = (t.length + 1) * 3; rw [ih]; omega
theorem s3c_at : ∀ {a : List Stp} {j : Nat} {p : Stp}, a[j]? = some p → (s3c a)[j * 3]? = some (.int .i64 p.1) ∧ (s3c a)[j * 3 + 1]? = some (.int .i64 p.2.1) ∧ (s3c a)[j * 3 + 2]? = some (.int .i64 p.2.2)
  | q :: t, 0, p, h => by simp at h; subst h; exact ⟨rfl, rfl, rfl⟩
  | q :: t, j + 1, p, h => by
    have h' : t[j]? = some p := by simpa using h
    have ih := s3c_at h'
    rw [show (j + 1) * 3 = j * 3 + 1 + 1 + 1 by omega, show j * 3 + 1 + 1 + 1 + 1 = j * 3 + 1 + 1 + 1 + 1 by rfl, show j * 3 + 1 + 1 + 1 + 2 = j * 3 + 2 + 1 + 1 + 1 by omega]
    exact ih
theorem s3c_one : ∀ (l : List Stp), ∀ u ∈ s3c l, u.oneCell' = true
  | p :: t, u, h => by
    rcases List.mem_cons.1 h with rfl | h
    · rfl
    · rcases List.mem_cons.1 h with rfl | h
      · rfl
      · rcases List.mem_cons.1 h with rfl | h
        · rfl
        · exact s3c_one t u h
theorem s3c_cells : ∀ {L : List Stp} {j : Nat} {u : Value}, (s3c L)[j]? = some u → ∃ (i : Nat) (p : Stp), L[i]? = some p ∧ ((j = i * 3 ∧ u = .int .i64 p.1) ∨ (j = i * 3 + 1 ∧ u = .int .i64 p.2.1) ∨ (j = i * 3 + 2 ∧ u = .int .i64 p.2.2))
  | p :: t, 0, u, h => by cases h; exact ⟨0, p, rfl, .inl ⟨rfl, rfl⟩⟩
  | p :: t, 1, u, h => by cases h; exact ⟨0, p, rfl, .inr (.inl ⟨rfl, rfl⟩)⟩
  | p :: t, 2, u, h => by cases h; exact ⟨0, p, rfl, .inr (.inr ⟨rfl, rfl⟩)⟩
  | p :: t, j + 3, u, h => by
    obtain ⟨i, q, h1, h2⟩ := s3c_cells (L := t) (j := j) (u := u) h
    refine ⟨i + 1, q, h1, ?_⟩
    rcases h2 with ⟨h2, h3⟩ | ⟨h2, h3⟩ | ⟨h2, h3⟩
    · exact .inl ⟨by omega, h3⟩
    · exact .inr (.inl ⟨by omega, h3⟩)
    · exact .inr (.inr ⟨by omega, h3⟩)
abbrev O3 (w : World) (B : Nat) (v : Value) (L : List Stp) : Prop := w.ownsRow B 26 3 v L.length (s3c L)
theorem O3.r3 {w : World} {B : Nat} {v : Value} {L : List Stp} (h : O3 w B v L) : R3 w v L := by
  have h' := h
  rcases h.2 with ⟨rfl, h0⟩ | ⟨g, cap, cur, rfl, hb, hh, hn, h3⟩
  · exact ⟨none, 0, by rw [h0], by omega, .inl (List.eq_nil_of_length_eq_zero h0)⟩
  · refine ⟨_, cap, rfl, hn, .inr ⟨g, 0, rfl, blk_lt hh, fun j p hj => ?_⟩⟩
    have hjl := (List.getElem?_eq_some_iff.1 hj).1
    obtain ⟨e0, e1, e2⟩ := s3c_at hj
    rw [Nat.zero_add]
    exact ⟨(World.ownsRow.cellAt h' (j * 3) (by omega)).trans e0, (World.ownsRow.cellAt h' (j * 3 + 1) (by omega)).trans e1, (World.ownsRow.cellAt h' (j * 3 + 2) (by omega)).trans e2⟩
theorem Try.infoS3 : (Try.prog.info? 26).map (fun i => (i.zero, i.size, i.bytes)) = some (some (.agg #[.int .i64 0, .int .i64 0, .int .i64 0]), 3, 24) := by kernel_rfl
/-- append(empty, steps..). -/
theorem run_copy3 (w : World) (g : Nat) (ty : TypeId) (hg : w.heap[g]? = some (.cells #[] 26 (0, 0))) (v : Value) (L : List Stp) (h : R3 w v L) (hn : L.length ≤ 5864062014805) (B : Nat) (hBg : B ≤ g) (hB : B ≤ w.heap.size) :
    ∃ v' w', (Builtin.append_ #[22, 22] ty #[.slice (some ⟨g, 0, none⟩) 0 0, v]).run Try.prog w = .ok v' w' ∧ O3 w' B v' L ∧ Below B w w' := by
  obtain ⟨i0, hi, hz0, hz1, hz2⟩ := info_parts Try.infoS3
  have hown : w.ownsRow B 26 3 (.slice (some ⟨g, 0, none⟩) 0 0) 0 [] := ⟨rfl, .inr ⟨g, 0, #[], rfl, hBg, hg, Nat.le_refl _, by unfold maxLen; omega, rfl, rfl⟩⟩
  obtain ⟨a, cap, rfl, hcap, hc⟩ := h
  cases a with
  | none =>
    obtain rfl : L = [] := hc.resolve_right (fun ⟨b, off, h, _⟩ => by cases h)
    refine ⟨.slice (some ⟨g, 0, none⟩) 0 0, w, ?_, hown, Below.refl _ _⟩
    simp [Builtin.append_, run_underlying Try.underlying22, sizeOf, typeInfo, hi, Builtin.lenOf, Builtin.firstCells, storeCells]
  | some ad =>
    have hnews : ∀ j u, (s3c L)[j]? = some u → w.cell? (ad.add j) = some u := fun j u hj => by
      obtain ⟨i, p, h1, h2⟩ := s3c_cells hj
      have hne : ¬ L = [] := fun e => by rw [e] at h1; simp at h1
      obtain ⟨b, off, ha, _, hcc⟩ := hc.resolve_left hne
      cases ha
      have q := hcc i p h1
      rw [Addr.add_lit]
      rcases h2 with ⟨rfl, rfl⟩ | ⟨rfl, rfl⟩ | ⟨rfl, rfl⟩
      · exact q.1
      · rw [← Nat.add_assoc]; exact q.2.1
      · rw [← Nat.add_assoc]; exact q.2.2
    obtain ⟨v', w', hrun, r1, r2, r3⟩ := run_append_own2 (P := Try.prog) w B 22 ty 26 i0 _ 3 24 Try.underlying22 hi hz0 hz1 hz2 rfl (by decide) (.slice (some ⟨g, 0, none⟩) 0 0) 0 [] hown ad L.length cap (s3c L) (s3c_len L) hnews (s3c_one L) (by unfold maxLen; omega) (by omega) hB
    refine ⟨v', w', hrun, ?_, below_gb r2 hB (fun q hq => by cases hq; exact hBg)⟩
    rw [Nat.zero_add, List.nil_append] at r1; exact r1
theorem eqS3 (p : Stp) (w : World) : (Op.equalIn 10000 26 (.agg #[.int .i64 p.1, .int .i64 p.2.1, .int .i64 p.2.2]) (.agg #[.int .i64 p.1, .int .i64 p.2.1, .int .i64 p.2.2])).run Try.prog w = .ok true w := by
  obtain ⟨i0, hi, _⟩ := Option.map_eq_some_iff.1 (show (Try.prog.info? 3).map (·.size) = some 1 by kernel_rfl)
  have h := run_equalIn_array (P := Try.prog) w 9999 #[.int .i64 p.1, .int .i64 p.2.1, .int .i64 p.2.2] #[.int .i64 p.1, .int .i64 p.2.1, .int .i64 p.2.2] Try.underlying26 hi
  rw [Try.cellsI] at h
  refine h.trans ?_
  have u8 := Try.underlying3
  have p0 : ∀ (W : World) (x y z : Int), (part 3 #[.int .i64 x, .int .i64 y, .int .i64 z] 0).run Try.prog W = .ok (.int .i64 x) W := fun W x y z => by simp [part, isAgg, underlying, u8, Result.andThen]
  have p1 : ∀ (W : World) (x y z : Int), (part 3 #[.int .i64 x, .int .i64 y, .int .i64 z] 1).run Try.prog W = .ok (.int .i64 y) W := fun W x y z => by simp [part, isAgg, underlying, u8, Result.andThen]
  have p2 : ∀ (W : World) (x y z : Int), (part 3 #[.int .i64 x, .int .i64 y, .int .i64 z] 2).run Try.prog W = .ok (.int .i64 z) W := fun W x y z => by simp [part, isAgg, underlying, u8, Result.andThen]
  have e : ∀ (x : Int) (W : World), (Op.equalIn 9999 3 (.int .i64 x) (.int .i64 x)).run Try.prog W = .ok true W := fun x W => by rw [show (9999 : Nat) = 9998 + 1 from rfl, run_equalIn_int W 9998 _ _ _ _ _ u8]; simp
  simp only [List.range, List.range.loop, Op.eqItems, Sem.run_bind, Nat.mul_one, p0, e, Result.andThen_ok]
  simp [p1, p2, e]
theorem run_neq_s3 (p : Stp) (w : World) : (binOp .neq 26 (.agg #[.int .i64 p.1, .int .i64 p.2.1, .int .i64 p.2.2]) (.agg #[.int .i64 p.1, .int .i64 p.2.1, .int .i64 p.2.2])).run Try.prog w = .ok (.bool false) w := by
  simp only [binOp]
  simp [Op.equal, Op.maxDepth, eqS3]
theorem two_all {W : World} {B n ca cb : Nat} {aa ab : Option Addr} {M : List Pr} (ha : OM W B (.slice aa n ca) M) (hb : OM W B (.slice ab n cb) M) (hd : ∀ x, (Value.slice aa n ca).ownBlock = some x → (Value.slice ab n cb).ownBlock = some x → False) :
    AllM (W.alloc (.cells #[.slice aa n ca, .slice ab n cb] 23)) B W.heap.size 2 (fun k => if k = 0 then aa else ab) (fun _ => n) (fun k => if k = 0 then ca else cb) (fun _ => M) := by
  have hN := alloc_new W (.cells #[.slice aa n ca, .slice ab n cb] 23)
  obtain ⟨c0, c1⟩ := pair_cells hN rfl
  have hlt : W.heap.size < (W.alloc (.cells #[.slice aa n ca, .slice ab n cb] 23)).heap.size := by simp
  refine ⟨hlt, fun k hk => ?_, fun k hk => ?_, fun k hk => ?_, fun j k g hj hk h1 h2 => ?_⟩
  · match k, hk with
    | 0, _ => exact c0
    | 1, _ => exact c1
  · match k, hk with
    | 0, _ => exact World.ownsRow.alloc ha _
    | 1, _ => exact World.ownsRow.alloc hb _
  · match k, hk with
    | 0, _ => exact fun e => by have := (World.ownsRow.lt ha _ e).2; omega
    | 1, _ => exact fun e => by have := (World.ownsRow.lt hb _ e).2; omega
  · match j, k, hj, hk with
    | 0, 0, _, _ => rfl
    | 1, 1, _, _ => rfl
    | 0, 1, _, _ => exact (hd g h1 h2).elim
    | 1, 0, _, _ => exact (hd g h2 h1).elim
theorem pl_len (k : Pr → Int) : ∀ (L : List Stp) (R : List En) (N : Nat), (pl k R N L).length = L.length
  | [], _, _ => rfl
  | s :: t, R, N => by show (pl k _ _ t).length + 1 = t.length + 1; rw [pl_len k t]
theorem OM.lat {w w' : World} {B : Nat} {v : Value} {L : List Pr} (h : OM w B v L) (hb : Below w.heap.size w w') : OM w' B v L := owns_lat h hb
set_option maxRecDepth 100000 in
set_option maxHeartbeats 8000000 in
theorem prioPlay_law (f : Bool) (v : Value) (L : List Stp) (w : World) (h : R3 w v L) (hlen : L.length ≤ 5864062014800) :
    Calls Try.prog 3 #[v, .bool f] w fun e w' => e = .returned (.bool true) ∧ Below w.heap.size w w' := by
  have HH := hide h
  have HLE := hide hlen
  obtain ⟨W1, hW1⟩ : ∃ W, Hid (w.alloc (.cells #[] 26) = W) := ⟨_, hide rfl⟩
  have b1 : Below w.heap.size w W1 := by rw [← hW1.out]; exact (Below.refl _ _).alloc (Nat.le_refl _) _
  have n1 : W1.heap[w.heap.size]? = some (.cells #[] 26 (0, 0)) := by rw [← hW1.out]; exact alloc_new w _
  obtain ⟨vi, W2, hrun, o2, b2⟩ := run_copy3 W1 w.heap.size 22 n1 v L (h.later b1) (by omega) w.heap.size (Nat.le_refl _) b1.size
  have HRUN := hide hrun
  have HO2 := hide o2
  have HB2 := hide (b1.trans b2)
  obtain ⟨a, cap, rfl⟩ := h.slc
  obtain ⟨ai, capi, hvi⟩ := o2.r3.slc
  subst hvi
  have HR := hide (rplay_any f _ L W2 (HH.out.later (b1.trans b2)) (by omega))
  obtain ⟨P, hP⟩ : ∃ P, Hid (pl (kB f) [] 0 L = P) := ⟨_, hide rfl⟩
  have HPL : Hid (P.length = L.length) := hide (by rw [← hP.out]; exact pl_len _ _ _ _)
  rw [hP.out] at HR
  obtain ⟨n, hn⟩ : ∃ n, Hid (L.length = n) := ⟨_, hide rfl⟩
  rw [hn.out] at HR HRUN HH HO2 HPL ⊢
  have e1 := hW1.out
  clear h hlen b1 n1 hrun o2 b2 hW1
  subst e1
  go_enter Try.func3, Try.ntmps3
  go_wp2_with (at_builtin; refine Lib.wpList_append_run _ rfl _ _ _ _ rfl _ _ rfl rfl _ _ HRUN.out ?_)
  refine HR.out.mono ?_
  rintro e w3 ⟨vw, rfl, o3, b3⟩
  have HB3 := hide (HB2.out.trans (b3.mono HB2.out.size))
  have HI3 := hide (HO2.out.r3.later b3)
  have S3 := hide HB3.out.size
  have O3W := hide o3
  have HP1 := hide (playP_any f _ L w3 (HO2.out.r3.later b3) (by have := HLE.out; omega))
  rw [hP.out] at HP1
  clear o3 b3 HR HRUN
  go_wp2_with fail
  refine HP1.out.mono ?_
  rintro e w4 ⟨v1, rfl, o4, b4⟩
  have HB4 := hide (HB3.out.trans (b4.mono HB3.out.size))
  have HI4 := hide (HI3.out.later b4)
  have OW4 := hide (OM.lat O3W.out b4)
  have O14 := hide o4
  have S34 := hide b4.size
  have HP2 := hide (playP_any f _ L w4 (HI3.out.later b4) (by have := HLE.out; omega))
  rw [hP.out] at HP2
  clear o4 b4 HP1 HB3 HI3 O3W
  go_wp2_with fail
  refine HP2.out.mono ?_
  rintro e w5 ⟨v2, rfl, o5, b5⟩
  have HB5 := hide (HB4.out.trans (b5.mono HB4.out.size))
  have HI5 := hide (HI4.out.later b5)
  have OW5 := hide (OM.lat OW4.out b5)
  have O15 := hide (OM.lat O14.out b5)
  have O25 := hide o5
  have HAP : Hid (∀ x, v1.ownBlock = some x → v2.ownBlock = some x → False) := hide (fun x h1 h2 => by
    have q1 := (O14.out.lt x h1).2
    have q2 := (o5.lt x h2).1
    omega)
  have HSZ : Hid (w.heap.size ≤ w3.heap.size ∧ w.heap.size ≤ w4.heap.size) := hide ⟨S3.out, HB4.out.size⟩
  clear o5 b5 HP2 HI4 OW4 O14 HB4
  obtain ⟨a1, c1, hv1⟩ := rm_lt O15.out.rm
  obtain ⟨a2, c2, hv2⟩ := rm_lt O25.out.rm
  obtain ⟨aw, cw, hvw⟩ := rm_lt OW5.out.rm
  rw [HPL.out] at hv1 hv2 hvw
  subst hv1
  subst hv2
  subst hvw
  have HPN : Hid (P.length ≤ 4611686018427387904) := hide (by have := HPL.out; have := HLE.out; have := hn.out; omega)
  have HS1 := hide (sameM_any _ _ P P w5 O15.out.rm OW5.out.rm HPN.out HPN.out)
  rw [decide_eq_true (rfl : P = P)] at HS1
  go_wp2_with fail
  refine HS1.out.mono ?_
  rintro e w6 ⟨rfl, b6⟩
  have HS2 := hide (sameM_any _ _ P P w6 (O25.out.rm.later b6) (OW5.out.rm.later b6) HPN.out HPN.out)
  rw [decide_eq_true (rfl : P = P)] at HS2
  have HB6 := hide b6
  clear b6 HS1
  go_wp2_with fail
  refine HS2.out.mono ?_
  rintro e w7 ⟨rfl, b7⟩
  have HB7 := hide (HB6.out.trans (b7.mono HB6.out.size))
  have HI7 := hide ((HI5.out.later HB6.out).later b7)
  have HBW := hide (HB5.out.trans (HB7.out.mono HB5.out.size))
  have HV7 := hide (HH.out.later HBW.out)
  clear b7 HS2 HB6
  go_wp2_with fail
  go_loopw [9] (fun i wr => ∃ t : Nat, i = .int .i64 (t : Int) ∧ t ≤ n ∧ Hid (Below w7.heap.size w7 wr)) (fun i _ => n - (intOf i).toNat)
  case atStart => exact ⟨0, rfl, by omega, hide (Below.refl _ _)⟩
  case round =>
    obtain ⟨t, rfl, ht, HR⟩ := hrel
    by_cases htn : t < n
    · have d1 : decide ((t : Int) < (n : Int)) = true := by rw [decide_eq_true_eq]; omega
      have k0 : (0 : Int) ≤ (t : Int) := by omega
      have k1 : (t : Int) < (n : Int) := by omega
      have wt : wrap64 ((t : Int) + 1) = (t : Int) + 1 := wrap_up htn (by have := HLE.out; have := hn.out; omega)
      obtain ⟨s, hs⟩ : ∃ s, L[t]? = some s := ⟨_, List.getElem?_eq_getElem (by rw [hn.out]; exact htn)⟩
      obtain ⟨_, _, ev, _, hcv⟩ := HV7.out.later HR.out
      obtain ⟨_, _, ei, _, hci⟩ := HI7.out.later HR.out
      injection ev with ev
      injection ei with ei
      obtain ⟨bv, ov, ha, _, hv⟩ := hcv.resolve_left (fun e => by rw [e] at hs; simp at hs)
      obtain ⟨bi, oi, hb, _, hi⟩ := hci.resolve_left (fun e => by rw [e] at hs; simp at hs)
      rw [ha] at ev
      rw [hb] at ei
      subst ev
      subst ei
      obtain ⟨x0, x1, x2⟩ := hv t s hs
      obtain ⟨y0, y1, y2⟩ := hi t s hs
      have x1' : wr.cell? ⟨bv, ov + (t * 3 + 1), none⟩ = some (.int .i64 s.2.1) := x1
      have x2' : wr.cell? ⟨bv, ov + (t * 3 + 2), none⟩ = some (.int .i64 s.2.2) := x2
      have y1' : wr.cell? ⟨bi, oi + (t * 3 + 1), none⟩ = some (.int .i64 s.2.1) := y1
      have y2' : wr.cell? ⟨bi, oi + (t * 3 + 2), none⟩ = some (.int .i64 s.2.2) := y2
      have hneq := run_neq_s3 s
      clear hs hv hi hcv hci
      go_wp2_with fail
      go_quiet (fail)
      have HW2 := hide (below_dq HR.out nq)
      clear x0 x1 x2 y0 y1 y2 x1' x2' y1' y2' hneq
      go_wp2_with fail
      go_roundw
      case rel => exact ⟨t + 1, by first | rfl | (rw [wt]; rfl), htn, HW2⟩
      case measure => first | exact meas_lt htn | (rw [wt]; exact meas_lt htn)
    · have d1 : decide ((t : Int) < (n : Int)) = false := by rw [decide_eq_false_iff_not]; omega
      have hbw := HB7.out.trans (HR.out.mono HB7.out.size)
      have hb8 := HB5.out.trans (hbw.mono HB5.out.size)
      have oa : OM wr w.heap.size (.slice a1 n c1) P := (OM.lat O15.out hbw).mono HSZ.out.1
      have ob : OM wr w.heap.size (.slice a2 n c2) P := (OM.lat O25.out hbw).mono HSZ.out.2
      have HAPT := hide (apartMarks_sp w.heap.size wr.heap.size 2 2 _ _ _ _ _ (two_all oa ob HAP.out) (fun _ => by have := HLE.out; have := hn.out; omega) (by omega) (by omega) (by have := hb8.size; simp; omega))
      have HB8 := hide hb8
      have OA := hide oa
      have OB := hide ob
      clear hbw hb8 oa ob
      go_wp2_with fail
      refine HAPT.out.mono ?_
      rintro e w9 ⟨rfl, hsp⟩
      have HE : Hid (Below w.heap.size w w9) := hide (by
        have b9 := HB8.out.alloc HB8.out.size (.cells #[.slice a1 n c1, .slice a2 n c2] 23)
        refine ⟨hsp.os.trans b9.os, hsp.tape.trans b9.tape, hsp.output.trans b9.output, Nat.le_trans b9.size hsp.size, fun g hg => (hsp.block g (Nat.lt_of_lt_of_le hg b9.size) (fun k hk e => ?_)).trans (b9.block g hg)⟩
        match k, hk with
        | 0, _ => have := (World.ownsRow.lt OA.out g e).1; omega
        | 1, _ => have := (World.ownsRow.lt OB.out g e).1; omega)
      clear hsp HAPT
      go_wp2_with fail
      go_ret
      exact ⟨rfl, HE.out⟩
end Go.Proofs.Ytolmngjppnmkoaa
