/-
  My own text: the document's way to turn a position (printed by mkbr2.py).
-/
import Derived.Test.YtmebomifakmkbaaDoorBR1
import Derived.Test.YtmebomifakmkbaaDoorB7
namespace Go.Proofs.YtmebomifakmkbaaDoor
open Go.RowKit

/-- The parameter's box, the result's, and the one in which the position is made. -/
structure Ws (w : World) (av : Int) (v : Value) (a2 : Int) (vo : Value) (M : List Mk) (W : World) : Prop where
  low : Below w.heap.size w W
  par : W.heap[w.heap.size]? = some (.cells #[.int .i64 av, v] 24 (0, 0))
  res : W.heap[w.heap.size + 1]? = some (.cells #[.int .i64 0, .slice Option.none 0 0] 24 (0, 0))
  out : W.heap[w.heap.size + 1 + 1]? = some (.cells #[.int .i64 a2, vo] 24 (0, 0))
  own : OM W w.heap.size vo M
theorem Ws.later {w W W' : World} {av a2 : Int} {v vo : Value} {M : List Mk} (h : Ws w av v a2 vo M W) (hb : Below W.heap.size W W') : Ws w av v a2 vo M W' := ⟨h.low.trans (hb.mono h.low.size), blk_later h.par hb, blk_later h.res hb, blk_later h.out hb, owns_later h.own hb⟩
theorem own_ne {W : World} {B k n b : Nat} {e t : TypeId} {v : Value} {xs : List Value} {c : Array Value} {fz : Nat × Nat} (h : W.ownsRow B e k v n xs) (hb : W.heap[b]? = some (.cells c t fz)) (ht : t ≠ e) : v.ownBlock ≠ some b := by
  intro q
  rcases h.2 with ⟨rfl, _⟩ | ⟨g, cap, cur, rfl, _, hg, _⟩
  · cases q
  · cases q
    rw [hb] at hg
    injection hg with hg
    injection hg with _ hg _
    exact ht hg
theorem Ws.facts {w W : World} {av a2 : Int} {v vo : Value} {M : List Mk} (h : Ws w av v a2 vo M W) : (W.cell? ⟨w.heap.size, 0, none⟩ = some (.int .i64 av) ∧ W.cell? ⟨w.heap.size, 1, none⟩ = some v) ∧ (W.cell? ⟨w.heap.size + 1 + 1, 0, none⟩ = some (.int .i64 a2) ∧ W.cell? ⟨w.heap.size + 1 + 1, 1, none⟩ = some vo) ∧ W.frozen? ⟨w.heap.size + 1 + 1, 1, none⟩ = false := by
  have hr := h.out
  exact ⟨pair_cells h.par rfl, pair_cells h.out rfl, by unfold World.frozen?; simp [hr]⟩
theorem set1 {w : World} {g : Nat} {x y b : Value} {t : TypeId} (h : w.heap[g]? = some (.cells #[x, y] t (0, 0))) : (w.setCell ⟨g, 1, none⟩ b).heap[g]? = some (.cells #[x, b] t (0, 0)) := by
  have e1 := setCell_eq_setRow w g 1 _ t (0, 0) b h
  rw [e1]
  exact setRow_heap w g _ ((#[x, y] : Array Value).setIfInBounds 1 b) t (0, 0) h
/-- One mark more. -/
theorem Ws.push {w W : World} {av a2 : Int} {v vo : Value} {M : List Mk} (h : Ws w av v a2 vo M W) (x y : Int) (ty : TypeId) (hM : M.length ≤ 1000) :
    ∃ a c W3, (Builtin.append_ #[22, 22] ty #[vo, .slice (some ⟨W.heap.size, 0, none⟩) 1 1]).run Tryd.prog (W.alloc (.cells #[.int .i64 x, .int .i64 y] 36)) = .ok (.slice a (M.length + 1) c) W3 ∧
      (W3.heap[w.heap.size + 1 + 1]? = some (.cells #[.int .i64 a2, vo] 24 (0, 0))) ∧ Ws w av v a2 (.slice a (M.length + 1) c) (M ++ [(x, y)]) (W3.setCell ⟨w.heap.size + 1 + 1, 1, none⟩ (.slice a (M.length + 1) c)) ∧
      (∀ (b : Nat) (o : Obj), b < W.heap.size → vo.ownBlock ≠ some b → b ≠ w.heap.size + 1 + 1 → W.heap[b]? = some o → (W3.setCell ⟨w.heap.size + 1 + 1, 1, none⟩ (.slice a (M.length + 1) c)).heap[b]? = some o) := by
  have bA : Below W.heap.size W (W.alloc (.cells #[.int .i64 x, .int .i64 y] 36)) := (Below.refl _ _).alloc (Nat.le_refl _) _
  have hA := h.later bA
  have hx : RM (W.alloc (.cells #[.int .i64 x, .int .i64 y] 36)) (.slice (some ⟨W.heap.size, 0, none⟩) 1 1) [(x, y)] := by
    refine ⟨_, _, rfl, Nat.le_refl _, .inr ⟨W.heap.size, 0, rfl, by simp, fun j p hj => ?_⟩⟩
    obtain ⟨rfl, rfl⟩ : j = 0 ∧ p = (x, y) := by
      match j, hj with
      | 0, hj => exact ⟨rfl, (Option.some.inj hj).symm⟩
    exact pair_cells (alloc_new W _) rfl
  obtain ⟨v', W3, hrun, hO, hg⟩ := run_append_rm _ w.heap.size ty vo M hA.own _ _ hx (by simp; omega) hA.low.size
  obtain ⟨a, c, rfl⟩ := rm_lt (OM.rm hO)
  rw [show (M ++ [(x, y)]).length = M.length + 1 by simp] at hrun hO
  have keep : ∀ (b : Nat) (o : Obj), vo.ownBlock ≠ some b → (W.alloc (.cells #[.int .i64 x, .int .i64 y] 36)).heap[b]? = some o → W3.heap[b]? = some o := fun b o hb ho => (hg.block b (blk_lt ho) (fun e => hb e.symm)).trans ho
  have k0 := keep _ _ (own_ne hA.own hA.par (by decide)) hA.par
  have k1 := keep _ _ (own_ne hA.own hA.res (by decide)) hA.res
  have k2 := keep _ _ (own_ne hA.own hA.out (by decide)) hA.out
  have hB3 : Below w.heap.size w W3 := grown_om hA.low (Nat.le_refl _) hA.own hg
  refine ⟨a, c, W3, hrun, k2, ?_, ?_⟩
  · refine ⟨hB3.setCell (p := ⟨w.heap.size + 1 + 1, 1, none⟩) (by simp; omega) _, ?_, ?_, set1 k2, own_blk (w := W3) hO (fun g' cc hc => ?_)⟩
    · rw [Below.heap_setCell _ _ _ _ (by simp; omega)]; exact k0
    · rw [Below.heap_setCell _ _ _ _ (by simp)]; exact k1
    · refine Below.heap_setCell _ _ _ g' (fun e => ?_)
      rw [show g' = w.heap.size + 1 + 1 from e, k2] at hc
      injection hc with hc
      injection hc with _ hc _
      exact absurd hc (by decide)
  · intro b o hb hv hne ho
    rw [Below.heap_setCell _ _ _ b hne]
    exact keep b o hv (blk_later ho bA)
theorem wth_step {L : List Mk} {k : Nat} {p : Mk} {n q : Int} {put : Bool} (h : L[k]? = some p) : wth n q put (L.drop k) = (if !put && decide (n ≤ p.1) then [(n, q)] else []) ++ (if p.1 = n then [] else [p]) ++ wth n q (put || decide (n ≤ p.1)) (L.drop (k + 1)) := by
  have hj : k < L.length := (List.getElem?_eq_some_iff.1 h).1
  have he : L.drop k = p :: L.drop (k + 1) := by
    rw [List.drop_eq_getElem_cons hj]; congr 1; exact (List.getElem?_eq_some_iff.1 h).2
  rw [he]; rfl
set_option maxRecDepth 100000 in
set_option maxHeartbeats 8000000 in
theorem with_any (av a2 : Int) (v : Value) (L : List Mk) (n q : Int) (w : World) (h : RM w v L) (hr : Ri 0 L) (h8 : L.length ≤ 8) (hq : 0 ≤ q) :
    Calls Tryd.prog 63 #[.agg #[.int .i64 av, v], .int .i64 a2, .int .i64 n, .int .i64 q] w fun e w' => ∃ v', e = .returned (.agg #[.int .i64 a2, v']) ∧ OM w' w.heap.size v' (setM n q L) ∧ Below w.heap.size w w' := by
  rw [← wth_eq (n := n) hq hr]
  obtain ⟨va, cap, rfl, _, hc⟩ := h
  have HC := hide hc
  have H8 := hide h8
  have hqz : (q == 0) = decide (q = 0) := by rw [Bool.eq_iff_iff]; simp
  obtain ⟨p0, HP0⟩ : ∃ p0 : Bool, Hid (decide (q = 0) = p0) := ⟨_, hide rfl⟩
  rw [HP0.out] at hqz ⊢
  obtain ⟨R, HR⟩ : ∃ R, Hid (wth n q p0 L = R) := ⟨_, hide rfl⟩
  rw [HR.out]
  have W0 : Hid (Ws w av (.slice va L.length cap) a2 (.slice Option.none 0 0) [] (((w.alloc (.cells #[.int .i64 av, .slice va L.length cap] 24)).alloc (.cells #[.int .i64 0, .slice Option.none 0 0] 24)).alloc (.cells #[.int .i64 a2, .slice Option.none 0 0] 24))) := hide (by
    have b0 := Bx2.new w av (.slice va L.length cap)
    have z0 : ((w.alloc (.cells #[.int .i64 av, .slice va L.length cap] 24)).alloc (.cells #[.int .i64 0, .slice Option.none 0 0] 24)).heap.size = w.heap.size + 1 + 1 := by simp
    generalize ((w.alloc (.cells #[.int .i64 av, .slice va L.length cap] 24)).alloc (.cells #[.int .i64 0, .slice Option.none 0 0] 24)) = Z at *
    have a1 := alloc_new Z (.cells #[.int .i64 a2, .slice Option.none 0 0] 24)
    rw [z0] at a1
    exact ⟨b0.low.alloc b0.low.size _, alloc_block b0.par, alloc_block b0.res, a1, World.ownsRow_nil _ _ _ 2⟩)
  clear hc h8 hq
  go_enter Tryd.func63, Tryd.ntmps63
  go_wp2_with fail
  generalize (((w.alloc (.cells #[.int .i64 av, .slice va L.length cap] 24)).alloc (.cells #[.int .i64 0, .slice Option.none 0 0] 24)).alloc (.cells #[.int .i64 a2, .slice Option.none 0 0] 24)) = w2 at *
  go_loopw [10, 11] (fun pt i wr => ∃ (k : Nat) (put : Bool) (M : List Mk) (vo : Value), k ≤ L.length ∧ i = .int .i64 (k : Int) ∧ pt = .bool put ∧ Hid (M ++ wth n q put (L.drop k) = R ∧ M.length ≤ 2 * k) ∧ Hid (Ws w av (.slice va L.length cap) a2 vo M wr)) (fun _ i _ => L.length - (intOf i).toNat)
  case atStart => exact ⟨0, p0, [], _, Nat.zero_le _, rfl, by first | rfl | rw [hqz], hide ⟨by rw [List.drop_zero, List.nil_append]; exact HR.out, Nat.zero_le _⟩, W0⟩
  case round =>
    clear W0
    obtain ⟨k, put, M, vo, hk, rfl, rfl, HM, HW⟩ := hrel
    obtain ⟨⟨x0, x1⟩, ⟨y0, y1⟩, f1⟩ := HW.out.facts
    have hl8 := H8.out
    by_cases hlt : k < L.length
    · obtain ⟨⟨N, Q⟩, hp⟩ : ∃ p, L[k]? = some p := ⟨_, List.getElem?_eq_getElem hlt⟩
      obtain ⟨b, off, ha, hbl, hc⟩ := HC.out.resolve_left (fun h => by rw [h] at hlt; simp at hlt)
      have c0 : wr.cell? ⟨b, off + k * 2, none⟩ = some (.int .i64 N) := (HW.out.low.cell (p := ⟨b, _, none⟩) hbl).trans (hc k _ hp).1
      have c1 : wr.cell? ⟨b, off + k * 2 + 1, none⟩ = some (.int .i64 Q) := (HW.out.low.cell (p := ⟨b, _, none⟩) hbl).trans (hc k _ hp).2
      have c1' : wr.cell? ⟨b, off + (k * 2 + 1), none⟩ = some (.int .i64 Q) := c1
      subst ha
      have hd1 : decide ((k : Int) < (L.length : Int)) = true := by rw [decide_eq_true_eq]; omega
      have k0 : (0 : Int) ≤ (k : Int) := by omega
      have k1 : (k : Int) < (L.length : Int) := by omega
      have wk : wrap64 ((k : Int) + 1) = (k : Int) + 1 := by unfold wrap64; omega
      have HST := hide (wth_step (n := n) (q := q) (put := put) hp)
      dsimp only at HST
      obtain ⟨a4, c4, hv4⟩ := rm_lt HW.out.own.rm
      subst hv4
      obtain ⟨W1, hW1⟩ : ∃ W1, wr.alloc (.cells #[.int .i64 N, .int .i64 Q] 36) = W1 := ⟨_, rfl⟩
      have bA : Below wr.heap.size wr W1 := by rw [← hW1]; exact (Below.refl _ _).alloc (Nat.le_refl _) _
      have HW1 := hide (HW.out.later bA)
      have CB : Hid (W1.heap[wr.heap.size]? = some (.cells #[.int .i64 N, .int .i64 Q] 36 (0, 0))) := hide (by rw [← hW1]; exact alloc_new wr _)
      have HNE : Hid ((Value.slice a4 M.length c4).ownBlock ≠ some wr.heap.size) := hide (fun e => by
        have := (HW.out.own.lt _ e).2
        omega)
      have HLT0 : Hid (wr.heap.size < W1.heap.size ∧ wr.heap.size ≠ w.heap.size + 1 + 1) := hide ⟨blk_lt CB.out, fun e => by have := blk_lt HW.out.out; omega⟩
      obtain ⟨d0, d1⟩ := pair_cells CB.out rfl
      obtain ⟨⟨x0', x1'⟩, ⟨y0', y1'⟩, f1'⟩ := HW1.out.facts
      have HML : Hid (M.length ≤ 16) := hide (by have := HM.out.2; omega)
      clear hc hp bA
      cases put with
      | true =>
        by_cases heq : N = n
        · have HMX : Hid (M ++ wth n q true (L.drop (k + 1)) = R ∧ (M).length ≤ 2 * (k + 1)) := hide ⟨by
            rw [← HM.out.1, HST.out, if_neg (by simp), if_pos heq, Bool.true_or]
            simp, by have := HM.out.2; simp; omega⟩
          have de : (N != n) = false := by rw [bne_eq_false_iff_eq]; exact heq
          clear heq
          go_wp2_with fail
          go_roundw
          case rel => exact ⟨k + 1, true, _, _, by omega, by go_num, rfl, HMX, HW1⟩
          case measure => first | (rw [wk]; simp [intOf]; omega) | (simp [intOf]; omega)
        · obtain ⟨a6, c6, U6, hr6, hk6, hs6, hkeep6⟩ := HW1.out.push N Q 22 (by have := HML.out; omega)
          have HR6 := hide hr6
          have HW6 := hide hs6
          obtain ⟨zz0, zz1⟩ := pair_cells hk6 rfl
          have g6 : U6.frozen? ⟨w.heap.size + 1 + 1, 1, none⟩ = false := by unfold World.frozen?; simp [hk6]
          clear hr6 hs6 hkeep6 hk6
          have HMX : Hid (M ++ [(N, Q)] ++ wth n q true (L.drop (k + 1)) = R ∧ (M ++ [(N, Q)]).length ≤ 2 * (k + 1)) := hide ⟨by
            rw [← HM.out.1, HST.out, if_neg (by simp), if_neg heq, Bool.true_or]
            simp, by have := HM.out.2; simp; omega⟩
          have de : (N != n) = true := by rw [bne_iff_ne]; exact heq
          clear heq
          go_wp2_with (at_builtin; refine Lib.wpList_append_run _ rfl _ _ _ _ rfl _ _ rfl rfl _ _ HR6.out ?_)
          go_roundw
          case rel => exact ⟨k + 1, true, _, _, by omega, by go_num, rfl, HMX, HW6⟩
          case measure => first | (rw [wk]; simp [intOf]; omega) | (simp [intOf]; omega)
      | false =>
        by_cases hge : n ≤ N
        · by_cases heq : N = n
          · obtain ⟨a5, c5, U5, hr5, hk5, hs5, hkeep5⟩ := HW1.out.push n q 22 (by have := HML.out; omega)
            have CB5 := hide (hkeep5 wr.heap.size _ HLT0.out.1 HNE.out HLT0.out.2 CB.out)
            obtain ⟨M5, hM5⟩ : ∃ M5, M ++ [(n, q)] = M5 := ⟨_, rfl⟩
            rw [hM5] at hs5
            have HM5 := hide hM5
            clear hM5
            have HR5 := hide hr5
            have HW5 := hide hs5
            obtain ⟨z0, z1⟩ := pair_cells hk5 rfl
            have g1 : U5.frozen? ⟨w.heap.size + 1 + 1, 1, none⟩ = false := by unfold World.frozen?; simp [hk5]
            obtain ⟨d0', d1'⟩ := pair_cells CB5.out rfl
            obtain ⟨⟨x0'', x1''⟩, ⟨y0'', y1''⟩, f1''⟩ := HW5.out.facts
            clear hr5 hs5 hkeep5 hk5
            have HMX : Hid (M5 ++ wth n q true (L.drop (k + 1)) = R ∧ (M5).length ≤ 2 * (k + 1)) := hide ⟨by
              rw [← HM5.out]
              rw [← HM.out.1, HST.out, if_pos (by simpa using hge), if_pos heq, Bool.false_or, decide_eq_true hge]
              simp, by have := HM.out.2; rw [← HM5.out]; simp; omega⟩
            have dg : decide (n ≤ N) = true := decide_eq_true hge
            have de : (N != n) = false := by rw [bne_eq_false_iff_eq]; exact heq
            clear heq hge
            go_wp2_with (at_builtin; refine Lib.wpList_append_run _ rfl _ _ _ _ rfl _ _ rfl rfl _ _ HR5.out ?_)
            go_roundw
            case rel => exact ⟨k + 1, true, _, _, by omega, by go_num, rfl, HMX, HW5⟩
            case measure => first | (rw [wk]; simp [intOf]; omega) | (simp [intOf]; omega)
          · obtain ⟨a5, c5, U5, hr5, hk5, hs5, hkeep5⟩ := HW1.out.push n q 22 (by have := HML.out; omega)
            have CB5 := hide (hkeep5 wr.heap.size _ HLT0.out.1 HNE.out HLT0.out.2 CB.out)
            obtain ⟨M5, hM5⟩ : ∃ M5, M ++ [(n, q)] = M5 := ⟨_, rfl⟩
            rw [hM5] at hs5
            have HM5 := hide hM5
            clear hM5
            have HR5 := hide hr5
            have HW5 := hide hs5
            obtain ⟨z0, z1⟩ := pair_cells hk5 rfl
            have g1 : U5.frozen? ⟨w.heap.size + 1 + 1, 1, none⟩ = false := by unfold World.frozen?; simp [hk5]
            obtain ⟨d0', d1'⟩ := pair_cells CB5.out rfl
            obtain ⟨⟨x0'', x1''⟩, ⟨y0'', y1''⟩, f1''⟩ := HW5.out.facts
            clear hr5 hs5 hkeep5 hk5
            obtain ⟨a6, c6, U6, hr6, hk6, hs6, hkeep6⟩ := HW5.out.push N Q 22 (by have := HML.out; rw [← HM5.out]; simp; omega)
            rw [show (U5.setCell ⟨w.heap.size + 1 + 1, 1, none⟩ (.slice a5 (M.length + 1) c5)).heap.size = U5.heap.size by simp] at hr6
            have HR6 := hide hr6
            have HW6 := hide hs6
            obtain ⟨zz0, zz1⟩ := pair_cells hk6 rfl
            have g6 : U6.frozen? ⟨w.heap.size + 1 + 1, 1, none⟩ = false := by unfold World.frozen?; simp [hk6]
            clear hr6 hs6 hkeep6 hk6
            have HMX : Hid (M5 ++ [(N, Q)] ++ wth n q true (L.drop (k + 1)) = R ∧ (M5 ++ [(N, Q)]).length ≤ 2 * (k + 1)) := hide ⟨by
              rw [← HM5.out]
              rw [← HM.out.1, HST.out, if_pos (by simpa using hge), if_neg heq, Bool.false_or, decide_eq_true hge]
              simp, by have := HM.out.2; rw [← HM5.out]; simp; omega⟩
            have dg : decide (n ≤ N) = true := decide_eq_true hge
            have de : (N != n) = true := by rw [bne_iff_ne]; exact heq
            clear heq hge
            go_wp2_with (at_builtin; first | (refine Lib.wpList_append_run _ rfl _ _ _ _ rfl _ _ rfl rfl _ _ HR5.out ?_; clear HR5) | (refine Lib.wpList_append_run _ rfl _ _ _ _ rfl _ _ rfl rfl _ _ HR6.out ?_; clear HR6))
            go_roundw
            case rel => exact ⟨k + 1, true, _, _, by omega, by go_num, rfl, HMX, HW6⟩
            case measure => first | (rw [wk]; simp [intOf]; omega) | (simp [intOf]; omega)
        · by_cases heq : N = n
          · exact absurd (by omega : n ≤ N) hge
          · obtain ⟨a6, c6, U6, hr6, hk6, hs6, hkeep6⟩ := HW1.out.push N Q 22 (by have := HML.out; omega)
            have HR6 := hide hr6
            have HW6 := hide hs6
            obtain ⟨zz0, zz1⟩ := pair_cells hk6 rfl
            have g6 : U6.frozen? ⟨w.heap.size + 1 + 1, 1, none⟩ = false := by unfold World.frozen?; simp [hk6]
            clear hr6 hs6 hkeep6 hk6
            have HMX : Hid (M ++ [(N, Q)] ++ wth n q false (L.drop (k + 1)) = R ∧ (M ++ [(N, Q)]).length ≤ 2 * (k + 1)) := hide ⟨by
              rw [← HM.out.1, HST.out, if_neg (by simpa using hge), if_neg heq, Bool.false_or, decide_eq_false hge]
              simp, by have := HM.out.2; simp; omega⟩
            have dg : decide (n ≤ N) = false := decide_eq_false hge
            have de : (N != n) = true := by rw [bne_iff_ne]; exact heq
            clear heq hge
            go_wp2_with (at_builtin; refine Lib.wpList_append_run _ rfl _ _ _ _ rfl _ _ rfl rfl _ _ HR6.out ?_)
            go_roundw
            case rel => exact ⟨k + 1, false, _, _, by omega, by go_num, rfl, HMX, HW6⟩
            case measure => first | (rw [wk]; simp [intOf]; omega) | (simp [intOf]; omega)
    · have e : k = L.length := by omega
      subst e
      have HE := HM.out.1
      rw [List.drop_length] at HE
      obtain ⟨a4, c4, hv4⟩ := rm_lt HW.out.own.rm
      subst hv4
      have HML : Hid (M.length ≤ 16) := hide (by have := HM.out.2; omega)
      cases put with
      | true =>
        have HRE : Hid (M = R) := hide (by rw [← HE]; simp [wth])
        obtain ⟨⟨xx0, xx1⟩, ⟨yy0, yy1⟩, ff1⟩ := HW.out.facts
        obtain ⟨r0, r1⟩ := pair_cells HW.out.res rfl
        have hres := HW.out.res
        have fr0 : wr.frozen? ⟨w.heap.size + 1, 0, none⟩ = false := by unfold World.frozen?; simp [hres]
        have fr1 : wr.frozen? ⟨w.heap.size + 1, 1, none⟩ = false := by unfold World.frozen?; simp [hres]
        clear hres HE
        go_wp2_with fail
        obtain ⟨e1, e2, e3⟩ := turn_end (a2 := a2) HW.out.res HW.out.own HW.out.low (Nat.le_succ _)
        generalize ((wr.setCell ⟨w.heap.size + 1, 0, none⟩ (.int .i64 a2)).setCell ⟨w.heap.size + 1, 1, none⟩ (.slice a4 M.length c4)) = X at *
        obtain ⟨dd0, dd1⟩ := pair_cells e1 rfl
        exact bodyPost_ret (v := .agg #[.int .i64 a2, .slice a4 M.length c4]) (by simp [results, Tryd.results63, go_sem, dd0, dd1]) rfl ⟨_, rfl, by rw [← HRE.out]; exact e2, e3⟩
      | false =>
        obtain ⟨a5, c5, U5, hr5, hk5, hs5, hkeep5⟩ := HW.out.push n q 22 (by have := HML.out; omega)
        have HR5 := hide hr5
        have HW5 := hide hs5
        obtain ⟨z0, z1⟩ := pair_cells hk5 rfl
        have g1 : U5.frozen? ⟨w.heap.size + 1 + 1, 1, none⟩ = false := by unfold World.frozen?; simp [hk5]
        clear hr5 hs5 hkeep5 hk5
        have HRE : Hid (M ++ [(n, q)] = R) := hide HE
        obtain ⟨⟨xx0, xx1⟩, ⟨yy0, yy1⟩, ff1⟩ := HW5.out.facts
        obtain ⟨r0, r1⟩ := pair_cells HW5.out.res rfl
        have hres := HW5.out.res
        have fr0 : (U5.setCell ⟨w.heap.size + 1 + 1, 1, none⟩ (.slice a5 (M.length + 1) c5)).frozen? ⟨w.heap.size + 1, 0, none⟩ = false := by unfold World.frozen?; simp [hres]
        have fr1 : (U5.setCell ⟨w.heap.size + 1 + 1, 1, none⟩ (.slice a5 (M.length + 1) c5)).frozen? ⟨w.heap.size + 1, 1, none⟩ = false := by unfold World.frozen?; simp [hres]
        clear hres HE
        go_wp2_with (at_builtin; refine Lib.wpList_append_run _ rfl _ _ _ _ rfl _ _ rfl rfl _ _ HR5.out ?_)
        obtain ⟨e1, e2, e3⟩ := turn_end (a2 := a2) HW5.out.res HW5.out.own HW5.out.low (Nat.le_succ _)
        generalize (((U5.setCell ⟨w.heap.size + 1 + 1, 1, none⟩ (.slice a5 (M.length + 1) c5)).setCell ⟨w.heap.size + 1, 0, none⟩ (.int .i64 a2)).setCell ⟨w.heap.size + 1, 1, none⟩ (.slice a5 (M.length + 1) c5)) = X at *
        obtain ⟨dd0, dd1⟩ := pair_cells e1 rfl
        exact bodyPost_ret (v := .agg #[.int .i64 a2, .slice a5 (M.length + 1) c5]) (by simp [results, Tryd.results63, go_sem, dd0, dd1]) rfl ⟨_, rfl, by rw [← HRE.out]; exact e2, e3⟩
end Go.Proofs.YtmebomifakmkbaaDoor
