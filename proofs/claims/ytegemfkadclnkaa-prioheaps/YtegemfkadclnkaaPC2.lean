/-
  My own text: the document's row: one is taken out.
-/
import Derived.Test.YtegemfkadclnkaaPC1
namespace Go.Proofs.Ytegemfkadclnkaa
open Go.RowKit

/-- One pair more. -/
theorem run_append_pr (w : World) (B : Nat) (ty : TypeId) (v : Value) (L : List Pr) (hO : OM w B v L) (b : Nat) (p : Pr) (hb : w.heap[b]? = some (.cells #[.int .i64 p.1, .int .i64 p.2] 25 (0, 0))) (hn : L.length + 1 ≤ 8796093022208) (hB : B ≤ w.heap.size) :
    ∃ v' w', (Builtin.append_ #[29, 29] ty #[v, .slice (some ⟨b, 0, none⟩) 1 1]).run Try.prog w = .ok v' w' ∧ OM w' B v' (L ++ [p]) ∧ w.grownBy w' v.ownBlock ∧ (∀ g, v'.ownBlock = some g → v.ownBlock = some g ∨ w.heap.size ≤ g) := by
  obtain ⟨i0, hi, hz0, hz1, hz2⟩ := info_parts Try.infoMk
  obtain ⟨v', w', hrun, r1, r2, r3⟩ := run_append_own2 (P := Try.prog) w B 29 ty 25 i0 _ 2 16 Try.underlying29 hi hz0 hz1 hz2 rfl (by decide) v L.length (mc L) hO ⟨b, 0, none⟩ 1 1 (mc [p]) rfl (fun j u hj => by
    rw [Addr.add_lit, cell_of_row _ _ _ _ _ _ hb]
    match j, hj with
    | 0, hj => exact hj
    | 1, hj => exact hj) (mc_one [p]) (by unfold maxLen; omega) (by omega) hB
  refine ⟨v', w', hrun, ?_, r2, r3⟩
  unfold OM
  rw [List.length_append, mc_app]; exact r1
theorem wp_append_pr {ops : Array Oper} {rest : List Oper} {o : Oper} {a : Act} {Q : Exit → Act → World → Prop} (w : World) (B : Nat) (hgd : o.guard = none) (s x : Operand)
    (ho : o.op = .call { callee := .builtin .append, args := #[s, x], argTypes := #[29, 29] }) (v : Value) (L : List Pr) (hs : a.eval s = v) (hO : OM w B v L) (b : Nat) (p : Pr) (hx : a.eval x = .slice (some ⟨b, 0, none⟩) 1 1) (hb : w.heap[b]? = some (.cells #[.int .i64 p.1, .int .i64 p.2] 25 (0, 0))) (hn : L.length + 1 ≤ 8796093022208) (hB : B ≤ w.heap.size)
    (h : ∀ v' w', OM w' B v' (L ++ [p]) → w.grownBy w' v.ownBlock → (∀ g, v'.ownBlock = some g → v.ownBlock = some g ∨ w.heap.size ≤ g) → wpList Try.prog ops Q rest (a.put o.dst v') w') : wpList Try.prog ops Q (o :: rest) a w := by
  obtain ⟨v', w', hrun, r1, r2, r3⟩ := run_append_pr w B o.type v L hO b p hb hn hB
  refine wpList_plain hgd fun K hK => ?_
  unfold Oper.wp
  simp [execOp, ho, resolve, invoke, builtin, hs, hx, hrun, Result.andThen]
  exact hK _ _ (h v' w' r1 r2 r3)
theorem erase_at {α : Type} [DecidableEq α] : ∀ {R : List (α × Nat)} {n m : Nat} {y : α × Nat}, Rs n R → R[m]? = some y → er R y = R.eraseIdx m
  | e :: t, n, 0, y, _, hy => by
    have h1 : e = y := by simpa using hy
    subst h1
    unfold er; rw [List.erase_cons_head]; rfl
  | e :: t, n, m + 1, y, h, hy => by
    have hy' : t[m]? = some y := by simpa using hy
    have hne : e ≠ y := fun q => by
      have := Rs.ge h.2 y (List.mem_of_getElem? hy')
      rw [q] at this; omega
    have ih := erase_at h.2 hy'
    unfold er at ih ⊢
    rw [List.erase_cons_tail (by simpa using hne), ih]; rfl
theorem fs_erase (R : List En) (m : Nat) : fs (R.eraseIdx m) = (fs R).eraseIdx m := by
  unfold fs
  induction R generalizing m with
  | nil => simp
  | cons e t ih =>
    cases m with
    | zero => rfl
    | succ m => simp only [List.eraseIdx_cons_succ, List.map_cons, ih]
/-- What is kept of the first t. -/
def kp (L : List Pr) (m t : Nat) : List Pr := (L.take t).eraseIdx m
theorem kp_at {L : List Pr} {m : Nat} {x : Pr} (h : L[m]? = some x) : kp L m (m + 1) = kp L m m := by
  have hl := (List.getElem?_eq_some_iff.1 h).1
  have e1 : (L.take m).length = m := by rw [List.length_take]; omega
  unfold kp
  rw [List.take_add_one, h, Option.toList_some, List.eraseIdx_append_of_length_le (by omega), e1, Nat.sub_self, show ([x] : List Pr).eraseIdx 0 = [] from rfl, List.append_nil, List.eraseIdx_of_length_le (by omega)]
theorem kp_ne {L : List Pr} {m t : Nat} {x : Pr} (h : L[t]? = some x) (hne : t ≠ m) : kp L m (t + 1) = kp L m t ++ [x] := by
  have hl := (List.getElem?_eq_some_iff.1 h).1
  unfold kp
  rw [List.take_add_one, h, Option.toList_some]
  by_cases hm : m < t
  · rw [List.eraseIdx_append_of_lt_length (by simp; omega)]
  · rw [List.eraseIdx_of_length_le (by simp; omega), List.eraseIdx_of_length_le (by simp; omega)]
theorem kp_len (L : List Pr) (m t : Nat) : (kp L m t).length ≤ L.length := by
  unfold kp
  have := List.length_eraseIdx_le (L.take t) m
  simp at this ⊢
  omega
theorem RQ.setv {w : World} {B rb : Nat} {f : Bool} {v v' : Value} {R R' : List En} (h : RQ w B rb f v R) (ho : OM w B v' (fs R')) : RQ (w.setCell ⟨rb, 1, none⟩ v') B rb f v' R' := by
  have e1 := setCell_eq_setRow w rb 1 _ _ _ v' h.hdr
  refine ⟨by rw [e1]; exact setRow_heap w rb _ _ _ _ h.hdr, owns_later ho (fun g hg => Below.heap_setCell _ _ _ g (fun e => om_ne ho h.hdr (by decide) (by rw [show rb = g from e.symm]; exact hg.symm))), by rw [(setCell_rest w _ v').2.2.2]; exact h.bw, h.bh⟩
theorem RQ.keep {w w' : World} {B rb : Nat} {f : Bool} {v : Value} {R : List En} (h : RQ w B rb f v R) (hs : w.heap.size ≤ w'.heap.size) (hk : ∀ g, g = rb ∨ v.ownBlock = some g → w'.heap[g]? = w.heap[g]?) : RQ w' B rb f v R :=
  ⟨(hk _ (.inl rfl)).trans h.hdr, owns_later h.row (fun g hg => hk g (.inr hg)), Nat.le_trans h.bw hs, h.bh⟩
theorem RQ.below {w w' : World} {B rb : Nat} {f : Bool} {v v' : Value} {R : List En} (h : RQ w B rb f v R) (hf : Fq w w' rb v v') : Below B w w' := hf.below h.bw h.bh (fun g hg => (h.row.lt g hg).1)
/-- Behind the store of a result's box that is new. -/
theorem RQ.box {w W : World} {B rb bx : Nat} {f : Bool} {v v' : Value} {R : List En} {cs : Array Value} (h : RQ W B rb f v' R) (hf : Fq w W rb v v') (hr : w.heap.size ≤ bx) (hn : bx ≠ rb ∧ some bx ≠ v'.ownBlock) : RQ (W.setRow bx cs) B rb f v' R ∧ Fq w (W.setRow bx cs) rb v v' := by
  have hs : (W.setRow bx cs).heap.size = W.heap.size := by simp [World.setRow]
  refine ⟨h.keep (by omega) (fun g hg => setRow_other _ _ _ _ (fun e => ?_)), ⟨hf.os, hf.tape, hf.output, by rw [hs]; exact hf.size, fun g hg h1 h2 => (setRow_other _ _ _ _ (by omega)).trans (hf.block g hg h1 h2), hf.own⟩⟩
  subst e
  rcases hg with q | q
  · exact hn.1 q
  · exact hn.2 q.symm
set_option maxRecDepth 100000 in
set_option maxHeartbeats 1000000 in
theorem take_no (F : Int) (hF : F < 0) (rb : Nat) (w : World) :
    Calls Try.prog 25 #[.pointer (some ⟨rb, 0, none⟩), .int .i64 F] w fun e w' => e = .returned (.tuple #[pv (0, 0), .bool false]) ∧ Below w.heap.size w w' := by
  have d1 : decide (F < 0) = true := decide_eq_true hF
  have RD := hide (alloc_new w zPr)
  have B2 := hide ((Below.refl w.heap.size w).alloc (Nat.le_refl _) zPr)
  clear hF
  go_enter Try.func25, Try.ntmps25
  go_wp2_with (refine wpList_store_row rfl 25 _ _ rfl w.heap.size #[.int .i64 0, .int .i64 0] rfl rfl _ _ RD.out Try.sizePr rfl (by simp [Value.oneCell']) ?_)
  refine bodyPost_ret (v := .tuple #[pv (0, 0), .bool false]) ?_ rfl ⟨rfl, belowRow B2.out (Nat.le_refl _)⟩
  rw [results_cell_tmp rfl]
  simp only [asAddr]
  have hld := run_loadVar_row (P := Try.prog) ((w.alloc zPr).setRow w.heap.size #[.int .i64 0, .int .i64 0]) w.heap.size 25 25 #[.int .i64 0, .int .i64 0] (0, 0) _ (setRow_heap _ _ _ _ _ _ RD.out) Try.underlying25 rfl Try.sizePr
  simp [Result.andThen, hld, pv]
/-- What Take has behind t rounds. -/
structure TkS (w wr : World) (B rb : Nat) (f : Bool) (v : Value) (R : List En) (m t : Nat) (x : Pr) (r : Value) : Prop where
  bl : Below w.heap.size w wr
  bx : wr.heap[w.heap.size]? = some zPr
  by_ : wr.heap[w.heap.size + 1]? = some (.cells #[.int .i64 x.1, .int .i64 x.2] 25 (0, 0))
  rest : OM wr (w.heap.size + 2) r (kp (fs R) m t)
set_option maxRecDepth 100000 in
set_option maxHeartbeats 8000000 in
theorem take_yes (m : Nat) (x : En) (f : Bool) (B rb : Nat) (v : Value) (R : List En) (w : World) (h : RQ w B rb f v R) (hr : Rs 0 R) (hx : R[m]? = some x) (hlen : R.length ≤ 8796093022207) :
    Calls Try.prog 25 #[.pointer (some ⟨rb, 0, none⟩), .int .i64 (m : Int)] w fun e w' => e = .returned (.tuple #[pv x.1, .bool true]) ∧ ∃ v', RQ w' B rb f v' (er R x) ∧ Fq w w' rb v v' := by
  have hm := (List.getElem?_eq_some_iff.1 hx).1
  have HRS := hide hr
  have HLE := hide hlen
  have HH := hide h
  have HX := hide hx
  obtain ⟨g, cap, cur, hv, _, _, _⟩ : ∃ g cap cur, v = .slice (some ⟨g, 0, none⟩) (fs R).length cap ∧ B ≤ g ∧ w.heap[g]? = some (.cells cur 25 (0, 0)) ∧ True := by
    rcases h.row.2 with ⟨_, e⟩ | ⟨g, cap, cur, e, h1, h2, _⟩
    · rw [fs_len] at e; omega
    · exact ⟨g, cap, cur, e, h1, h2, trivial⟩
  rw [fs_len] at hv
  subst hv
  obtain ⟨W1, hW1⟩ : ∃ W, Hid (w.alloc zPr = W) := ⟨_, hide rfl⟩
  have b1 : Below w.heap.size w W1 := by rw [← hW1.out]; exact (Below.refl _ _).alloc (Nat.le_refl _) _
  have s1 : W1.heap.size = w.heap.size + 1 := by rw [← hW1.out]; simp
  have r1 : W1.heap[w.heap.size]? = some zPr := by rw [← hW1.out]; exact alloc_new w _
  obtain ⟨W2, hW2⟩ : ∃ W, Hid (W1.alloc (.cells #[.int .i64 x.1.1, .int .i64 x.1.2] 25) = W) := ⟨_, hide rfl⟩
  have b2 : Below W1.heap.size W1 W2 := by rw [← hW2.out]; exact (Below.refl _ _).alloc (Nat.le_refl _) _
  have s2 : W2.heap.size = w.heap.size + 2 := by rw [← hW2.out]; simp [s1]
  have r2 : W2.heap[w.heap.size + 1]? = some (.cells #[.int .i64 x.1.1, .int .i64 x.1.2] 25 (0, 0)) := by rw [← s1, ← hW2.out]; exact alloc_new W1 _
  have b12 := b1.trans (b2.mono b1.size)
  have H0 : Hid (TkS w W2 B rb f (.slice (some ⟨g, 0, none⟩) R.length cap) R m 0 x.1 (.slice none 0 0)) := hide ⟨b12, blk_later r1 b2, r2, by
    have : kp (fs R) m 0 = [] := by unfold kp; simp
    rw [this]; exact World.ownsRow_nil _ _ _ 2⟩
  have h1 := HH.out.later b1
  have c1 := h1.c1
  obtain ⟨_, x0, x1⟩ := h1.row.cellsP (fs_at hx)
  have d0 : decide ((m : Int) < 0) = false := by rw [decide_eq_false_iff_not]; omega
  obtain ⟨n, hn⟩ : ∃ n, Hid (R.length = n) := ⟨_, hide rfl⟩
  rw [hn.out] at c1 HH H0 ⊢
  have k0 : (0 : Int) ≤ (m : Int) := by omega
  have k1 : (m : Int) < (n : Int) := by have := hn.out; omega
  rw [← hW1.out] at c1 x0 x1
  have HS1 := hide s1
  clear h hr hx hlen hm b1 s1 r1 b2 s2 r2 b12 h1
  go_enter Try.func25, Try.ntmps25
  go_wp2_with (refine wpList_store_row rfl 25 _ _ rfl (w.heap.size + 1) #[.int .i64 x.1.1, .int .i64 x.1.2] rfl rfl _ _ (by rw [show w.heap.size + 1 = (w.alloc zPr).heap.size by simp]; exact alloc_new (w.alloc zPr) _) Try.sizePr rfl (by simp [Value.oneCell']) ?_)
  go_loopw [7, 8] (fun r i wr => ∃ t : Nat, i = .int .i64 (t : Int) ∧ t ≤ n ∧ Hid (TkS w wr B rb f (.slice (some ⟨g, 0, none⟩) n cap) R m t x.1 r)) (fun _ i _ => n - (intOf i).toNat)
  case atStart =>
    refine ⟨0, rfl, by omega, ?_⟩
    rw [← hW2.out, ← hW1.out] at H0
    exact H0
  case round =>
    obtain ⟨t, rfl, ht, HR⟩ := hrel
    have hw := HH.out.later HR.out.bl
    have c1 := hw.c1
    by_cases htn : t < n
    · have d1 : decide ((t : Int) < (n : Int)) = true := by rw [decide_eq_true_eq]; omega
      have j0 : (0 : Int) ≤ (t : Int) := by omega
      have j1 : (t : Int) < (n : Int) := by omega
      have wt : wrap64 ((t : Int) + 1) = (t : Int) + 1 := wrap_up htn (by have := HLE.out; have := hn.out; omega)
      obtain ⟨y, hy⟩ : ∃ y, R[t]? = some y := ⟨_, List.getElem?_eq_getElem (by rw [hn.out]; exact htn)⟩
      have HY := hide (fs_at hy)
      by_cases htm : t = m
      · have d2 : ((t : Int) != (m : Int)) = false := by rw [bne_eq_false_iff_eq]; omega
        have d2' : (t : Int) = (m : Int) := by omega
        have HN : Hid (TkS w wr B rb f (.slice (some ⟨g, 0, none⟩) n cap) R m (t + 1) x.1 _) := hide ⟨HR.out.bl, HR.out.bx, HR.out.by_, by
          have e := kp_at (L := fs R) (m := m) (x := y.1) (by rw [← htm]; exact HY.out)
          rw [htm, e, ← htm, htm]; have := HR.out.rest; rw [htm] at this; exact this⟩
        have HTM := hide htm
        clear hw hy htm d2'
        go_wp2_with fail
        go_roundw
        case rel => exact ⟨t + 1, by first | rfl | (rw [wt]; rfl), htn, HN⟩
        case measure => first | exact meas_lt htn | (rw [wt]; exact meas_lt htn)
      · have d2 : ((t : Int) != (m : Int)) = true := by rw [bne_iff_ne]; omega
        have d2' : ¬ (t : Int) = (m : Int) := by omega
        obtain ⟨_, y0, y1⟩ := hw.row.cellsP HY.out
        obtain ⟨W3, hW3⟩ : ∃ W, Hid (wr.alloc (.cells #[.int .i64 y.1.1, .int .i64 y.1.2] 25) = W) := ⟨_, hide rfl⟩
        have b3 : Below wr.heap.size wr W3 := by rw [← hW3.out]; exact (Below.refl _ _).alloc (Nat.le_refl _) _
        have n3 : W3.heap[wr.heap.size]? = some (.cells #[.int .i64 y.1.1, .int .i64 y.1.2] 25 (0, 0)) := by rw [← hW3.out]; exact alloc_new wr _
        have HO3 := hide (owns_lat HR.out.rest b3)
        have HN3 := hide n3
        have HB3 := hide b3
        have HLK : Hid ((kp (fs R) m t).length + 1 ≤ 8796093022208) := hide (by have := kp_len (fs R) m t; rw [fs_len] at this; have := HLE.out; omega)
        have HZ3 : Hid (w.heap.size + 2 ≤ W3.heap.size) := hide (by have := blk_lt HR.out.by_; have := b3.size; omega)
        have HNE := hide (kp_ne (L := fs R) (m := m) HY.out htm)
        obtain ⟨ra, rc, hrs⟩ := rm_lt HR.out.rest.rm
        subst hrs
        clear hw hy b3 n3
        go_wp2_with (at_builtin; rw [hW3.out]; refine wp_append_pr W3 (w.heap.size + 2) rfl _ _ rfl _ _ rfl HO3.out wr.heap.size y.1 rfl HN3.out HLK.out HZ3.out ?_)
        intro v' w4 r1 r2 r3
        have HN : Hid (TkS w w4 B rb f (.slice (some ⟨g, 0, none⟩) n cap) R m (t + 1) x.1 v') := hide
          { bl := by
              have b := HR.out.bl.trans (HB3.out.mono HR.out.bl.size)
              exact b.trans (below_gb r2 b.size (fun q hq => by have := (HO3.out.lt q hq).1; omega))
            bx := (r2.block _ (blk_lt (blk_later HR.out.bx HB3.out)) (fun e => by have := (HO3.out.lt _ e.symm).1; omega)).trans (blk_later HR.out.bx HB3.out)
            by_ := (r2.block _ (blk_lt (blk_later HR.out.by_ HB3.out)) (fun e => by have := (HO3.out.lt _ e.symm).1; omega)).trans (blk_later HR.out.by_ HB3.out)
            rest := by rw [HNE.out]; exact r1 }
        obtain ⟨ra', rc', hrs'⟩ := rm_lt r1.rm
        clear r1 r2 r3 y0 y1 c1
        go_wp2_with fail
        go_roundw
        case rel => exact ⟨t + 1, by first | rfl | (rw [wt]; rfl), htn, HN⟩
        case measure => first | exact meas_lt htn | (rw [wt]; exact meas_lt htn)
    · have htt : t = n := by omega
      have d1 : decide ((t : Int) < (n : Int)) = false := by rw [decide_eq_false_iff_not]; omega
      have hkp : kp (fs R) m t = fs (er R x) := by
        rw [erase_at HRS.out HX.out, fs_erase]
        unfold kp
        rw [List.take_of_length_le (by rw [fs_len, hn.out]; omega)]
      have hwr := HR.out.rest
      rw [hkp] at hwr
      obtain ⟨ra, rc, hrs⟩ := rm_lt hwr.rm
      have hBr : B ≤ w.heap.size := HH.out.bw
      have HD := hide (hw.setv (hwr.mono (by omega)))
      have hrl := blk_lt HH.out.hdr
      have HF : Hid (Fq w (wr.setCell ⟨rb, 1, none⟩ u7) rb (.slice (some ⟨g, 0, none⟩) n cap) u7) := hide (Fq.put HR.out.bl (fun q hq => .inr (by have := (hwr.lt q hq).1; omega)))
      have RD : Hid ((wr.setCell ⟨rb, 1, none⟩ u7).heap[w.heap.size]? = some zPr) := hide ((Below.heap_setCell _ _ _ _ (by show w.heap.size ≠ rb; omega)).trans HR.out.bx)
      have TD : Hid ((wr.setCell ⟨rb, 1, none⟩ u7).heap[w.heap.size + 1]? = _) := hide ((Below.heap_setCell _ _ _ _ (by show w.heap.size + 1 ≠ rb; omega)).trans HR.out.by_)
      have hno : some w.heap.size ≠ u7.ownBlock := fun e => by have := (hwr.lt _ e.symm).1; omega
      have HE := hide (HD.out.box (cs := #[.int .i64 x.1.1, .int .i64 x.1.2]) HF.out (Nat.le_refl _) ⟨by omega, hno⟩)
      obtain ⟨t0, t1⟩ := cells2 TD.out
      have f1 : wr.frozen? ⟨rb, 1, none⟩ = false := by unfold World.frozen?; simp [hw.hdr]
      have HTT := hide htt
      subst hrs
      clear hw hwr hkp htt hno hrl HF TD HD hBr
      go_wp2_with (refine wpList_store_row rfl 25 _ _ rfl w.heap.size #[.int .i64 x.1.1, .int .i64 x.1.2] rfl rfl _ _ RD.out Try.sizePr rfl (by simp [Value.oneCell']) ?_)
      refine bodyPost_ret (v := .tuple #[pv x.1, .bool true]) ?_ rfl ⟨rfl, _, HE.out.1, HE.out.2⟩
      rw [results_cell_tmp rfl]
      simp only [asAddr]
      have hld := run_loadVar_row (P := Try.prog) _ w.heap.size 25 25 #[.int .i64 x.1.1, .int .i64 x.1.2] (0, 0) _ (setRow_heap _ _ _ #[.int .i64 x.1.1, .int .i64 x.1.2] _ _ RD.out) Try.underlying25 rfl Try.sizePr
      simp [Result.andThen, hld, pv]
end Go.Proofs.Ytegemfkadclnkaa
