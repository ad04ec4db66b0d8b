/-
  My own text: Play, by the document (printed by mkpc7.py).
-/
import Derived.Test.YtolmngjppnmkoaaPC3
import Derived.Test.YtolmngjppnmkoaaPC6
namespace Go.Proofs.Ytolmngjppnmkoaa
open Go.RowKit

/-- What is known of a row behind N pushes. -/
structure Okr (R : List En) (N : Nat) : Prop where
  rs : Rs 0 R
  lt : ∀ e ∈ R, e.2 < N
  len : R.length ≤ N
theorem er_len {α : Type} [DecidableEq α] (R : List (α × Nat)) (e : α × Nat) : (er R e).length ≤ R.length := List.length_erase_le
theorem Okr.nx {R : List En} {N : Nat} (h : Okr R N) (m : Option En) : Okr (nx R m) N := by
  cases m with
  | none => exact h
  | some e => exact ⟨h.rs.er e, fun x hx => h.lt x (er_sub hx), Nat.le_trans (er_len R e) h.len⟩
theorem Okr.push {R : List En} {N : Nat} (h : Okr R N) (x : Pr) : Okr (R ++ [(x, N)]) (N + 1) :=
  ⟨h.rs.snoc (Nat.zero_le _) h.lt, fun e he => by
    rcases List.mem_append.1 he with q | q
    · have := h.lt e q; omega
    · simp at q; subst q; simp, by rw [List.length_append]; have := h.len; simp; omega⟩
theorem Okr.st1 {R : List En} {N : Nat} (h : Okr R N) (k : Pr → Int) (s : Stp) : Okr (st1 k R N s).2.1 (st1 k R N s).2.2 := by
  unfold Go.Proofs.Ytolmngjppnmkoaa.st1
  repeat' split
  · exact h.nx _
  · exact h.push _
  · exact h
  · exact h.nx _
  · exact h
  · exact h
/-- Where the document's Play is behind t steps. -/
structure RlS (w wr : World) (f : Bool) (rb : Nat) (L : List Stp) (t : Nat) (D : List Pr) (R : List En) (N : Nat) (vt vo : Value) : Prop where
  dl : D.length = t
  eq : pl (kB f) [] 0 L = D ++ pl (kB f) R N (L.drop t)
  nt : N ≤ t
  ok : Okr R N
  rq : RQ wr w.heap.size rb f vt R
  om : OM wr w.heap.size vo D
  ap : ∀ g, vo.ownBlock = some g → vt.ownBlock ≠ some g
  bl : Below w.heap.size w wr
theorem RlS.kept {w wr W : World} {f : Bool} {rb : Nat} {L : List Stp} {t : Nat} {D : List Pr} {R : List En} {N : Nat} {vt vo v5 : Value} (h : RlS w wr f rb L t D R N vt vo) (hf : Fq wr W rb vt v5) : OM W w.heap.size vo D :=
  owns_later h.om (fun g hg => hf.block g (h.om.lt g hg).2 (fun e => om_ne h.om h.rq.hdr (by decide) (by rw [← e]; exact hg.symm)) (fun e => h.ap g hg e.symm))
theorem RlS.end_ {w wr W5 w7 : World} {f : Bool} {rb : Nat} {L : List Stp} {t : Nat} {D : List Pr} {R R' : List En} {N N' : Nat} {vt vo v5 v' : Value} {s : Stp} {o : Obj} (h : RlS w wr f rb L t D R N vt vo) (hs : L[t]? = some s) (hR : (st1 (kB f) R N s).2.1 = R') (hN : (st1 (kB f) R N s).2.2 = N') {p : Pr} (hp : (st1 (kB f) R N s).1 = p)
    (hq : RQ W5 w.heap.size rb f v5 R') (hf : Fq wr W5 rb vt v5) (r1 : OM w7 w.heap.size v' (D ++ [p])) (r2 : (W5.alloc o).grownBy w7 vo.ownBlock) (r3 : ∀ g, v'.ownBlock = some g → vo.ownBlock = some g ∨ (W5.alloc o).heap.size ≤ g) : RlS w w7 f rb L (t + 1) (D ++ [p]) R' N' v5 v' := by
  have b6 : Below W5.heap.size W5 (W5.alloc o) := (Below.refl _ _).alloc (Nat.le_refl _) _
  have hq6 := hq.later b6
  have b5 := h.bl.trans (h.rq.below hf)
  have hvo : ∀ g, vo.ownBlock = some g → v5.ownBlock ≠ some g := fun g hg e => by
    rcases hf.own g e with q | q
    · exact h.ap g hg q
    · have := (h.om.lt g hg).2; omega
  refine ⟨by rw [List.length_append, h.dl]; rfl, by rw [h.eq, pl_step hs, hR, hN, hp, List.append_assoc]; rfl, by have := st1_N (kB f) R N s; have := h.nt; omega, ?_, ?_, r1, ?_, ?_⟩
  · have := h.ok.st1 (kB f) s; rw [hR, hN] at this; exact this
  · refine hq6.keep r2.size (fun g hg => r2.block g ?_ ?_)
    · rcases hg with rfl | q
      · exact blk_lt hq6.hdr
      · exact (hq6.row.lt g q).2
    · intro e
      rcases hg with rfl | q
      · exact om_ne h.om h.rq.hdr (by decide) e
      · exact hvo g e.symm q
  · intro g hg
    rcases r3 g hg with q | q
    · exact hvo g q
    · intro e; have := (hq6.row.lt g e).2; omega
  · have c := b5.trans (b6.mono b5.size)
    exact c.trans (below_gb r2 c.size (fun g hg => (h.om.lt g hg).1))
theorem RlS.num {w wr : World} {f : Bool} {rb : Nat} {L : List Stp} {t : Nat} {D : List Pr} {R : List En} {N : Nat} {vt vo : Value} (h : RlS w wr f rb L t D R N vt vo) : rb < wr.heap.size ∧ (∀ g, vt.ownBlock = some g → g < wr.heap.size) := ⟨blk_lt h.rq.hdr, fun g hg => (h.rq.row.lt g hg).2⟩
abbrev zS3 (a b c : Int) : Obj := .cells #[.int .i64 a, .int .i64 b, .int .i64 c] 26
abbrev zP (a b : Int) : Obj := .cells #[.int .i64 a, .int .i64 b] 33
set_option maxRecDepth 100000 in
set_option maxHeartbeats 16000000 in
theorem rplay_any (f : Bool) (v : Value) (L : List Stp) (w : World) (h : R3 w v L) (hlen : L.length ≤ 5864062014805) :
    Calls Try.prog 8 #[v, .bool f] w fun e w' => ∃ v', e = .returned v' ∧ OM w' w.heap.size v' (pl (kB f) [] 0 L) ∧ Below w.heap.size w w' := by
  have HLE := hide hlen
  obtain ⟨a, cap, rfl, _, hc⟩ := h
  obtain ⟨n, hn⟩ : ∃ n, Hid (L.length = n) := ⟨_, hide rfl⟩
  rw [hn.out]
  have HC := hide hc
  obtain ⟨W1, hW1⟩ : ∃ W, Hid (w.alloc (.cells #[.bool f, .slice none 0 0] 38) = W) := ⟨_, hide rfl⟩
  have b1 : Below w.heap.size w W1 := by rw [← hW1.out]; exact (Below.refl _ _).alloc (Nat.le_refl _) _
  have n1 : W1.heap[w.heap.size]? = some (.cells #[.bool f, .slice none 0 0] 38 (0, 0)) := by rw [← hW1.out]; exact alloc_new w _
  have H0 : Hid (RlS w W1 f w.heap.size L 0 [] [] 0 (.slice none 0 0) (.slice none 0 0)) := hide
    { dl := rfl, eq := by simp, nt := Nat.le_refl _, ok := ⟨trivial, fun _ he => by simp at he, by simp⟩, rq := ⟨n1, World.ownsRow_nil _ _ _ 2, b1.size, Nat.le_refl _⟩, om := World.ownsRow_nil _ _ _ 2, ap := (fun g hg => by cases hg), bl := b1 }
  have e1 := hW1.out
  clear hlen hc b1 n1 hW1
  subst e1
  go_enter Try.func8, Try.ntmps8
  go_wp2_with fail
  go_loopw [6, 7] (fun o j wr => ∃ (t : Nat) (D : List Pr) (R : List En) (N : Nat) (vt : Value), j = .int .i64 (t : Int) ∧ t ≤ n ∧ Hid (RlS w wr f w.heap.size L t D R N vt o)) (fun _ j _ => n - (intOf j).toNat)
  case atStart => exact ⟨0, [], [], 0, _, rfl, by omega, H0⟩
  case round =>
    obtain ⟨t, D, R, N, vt, rfl, ht, HR⟩ := hrel
    by_cases htn : t < n
    · have d1 : decide ((t : Int) < (n : Int)) = true := by rw [decide_eq_true_eq]; omega
      have k0 : (0 : Int) ≤ (t : Int) := by omega
      have k1 : (t : Int) < (n : Int) := by omega
      have wt : wrap64 ((t : Int) + 1) = (t : Int) + 1 := wrap_up htn (by have := HLE.out; have := hn.out; omega)
      obtain ⟨⟨s1, s2, s3⟩, hs⟩ : ∃ s, L[t]? = some s := ⟨_, List.getElem?_eq_getElem (by rw [hn.out]; exact htn)⟩
      have HS := hide hs
      obtain ⟨b, off, rfl, hbl, hc⟩ := HC.out.resolve_left (fun e => by rw [e] at hs; simp at hs)
      have hcs := hc t _ hs
      have q0 := (HR.out.bl.cell (p := ⟨b, _, none⟩) hbl).trans hcs.1
      have q1 := (HR.out.bl.cell (p := ⟨b, _, none⟩) hbl).trans hcs.2.1
      have q2 := (HR.out.bl.cell (p := ⟨b, _, none⟩) hbl).trans hcs.2.2
      have q1' : wr.cell? ⟨b, off + (t * 3 + 1), none⟩ = some (.int .i64 s2) := q1
      have q2' : wr.cell? ⟨b, off + (t * 3 + 2), none⟩ = some (.int .i64 s3) := q2
      have hdl := HR.out.dl
      have HDL : Hid (D.length + 1 ≤ 8796093022208) := hide (by have := HLE.out; have := hn.out; omega)
      have hRl : R.length ≤ 5864062014805 := by have := HR.out.ok.len; have := HR.out.nt; have := HLE.out; have := hn.out; omega
      have HRL := hide hRl
      obtain ⟨oa, oc, ho⟩ := rm_lt HR.out.om.rm
      obtain ⟨dn, hdn⟩ : ∃ dn, Hid (D.length = dn) := ⟨_, hide rfl⟩
      rw [hdn.out] at ho
      subst ho
      clear hs hc hcs hbl hdl hRl
      by_cases hk0 : s1 = 0
      · subst hk0
        obtain ⟨W2, hW2⟩ : ∃ W, Hid (((wr.alloc (zS3 0 s2 s3)).alloc (zP (-1) (-1))) = W) := ⟨_, hide rfl⟩
        have hz : (wr.alloc (zS3 0 s2 s3)).heap.size = wr.heap.size + 1 := by simp
        have b2 : Below wr.heap.size wr W2 := by rw [← hW2.out]; exact ((Below.refl _ _).alloc (Nat.le_refl _) _).alloc (by simp) _
        have z2 : W2.heap.size = wr.heap.size + 2 := by rw [← hW2.out]; simp
        have y2 : W2.heap[wr.heap.size]? = some (zS3 0 s2 s3) := by rw [← hW2.out]; exact (Below.heap_alloc _ _ _ (by simp)).trans (alloc_new wr _)
        have x2 : W2.heap[wr.heap.size + 1]? = some (zP (-1) (-1)) := by rw [← hW2.out, ← hz]; exact alloc_new _ _
        have u0 : W2.cell? ⟨wr.heap.size, 0, none⟩ = some (.int .i64 0) := by rw [cell_of_row _ _ 0 _ _ _ y2]; rfl
        have u1 : W2.cell? ⟨wr.heap.size, 1, none⟩ = some (.int .i64 s2) := by rw [cell_of_row _ _ 1 _ _ _ y2]; rfl
        have u2 : W2.cell? ⟨wr.heap.size, 2, none⟩ = some (.int .i64 s3) := by rw [cell_of_row _ _ 2 _ _ _ y2]; rfl
        have hq2 := HR.out.rq.later b2
        have f2 : Fq wr W2 w.heap.size vt vt := Fq.of_below b2
        have NN := hide HR.out.num
        obtain ⟨R5, HSR⟩ : ∃ R5, Hid ((st1 (kB f) R N (0, s2, s3)).2.1 = R5) := ⟨_, hide rfl⟩
        obtain ⟨N5, HSN⟩ : ∃ N5, Hid ((st1 (kB f) R N (0, s2, s3)).2.2 = N5) := ⟨_, hide rfl⟩
        obtain ⟨p1, p2, HSP⟩ : ∃ p1 p2, Hid ((st1 (kB f) R N (0, s2, s3)).1 = (p1, p2)) := ⟨_, _, hide rfl⟩
        obtain ⟨M, hM⟩ : ∃ M, Hid (mn (kB f) (fun _ => true) R = M) := ⟨_, hide rfl⟩
        have hR5 : nx R M = R5 := by rw [← HSR.out, ← hM.out]; rfl
        have hP5 : sa M = (p1, p2) := by rw [← HSP.out, ← hM.out]; rfl
        have HCL := hide (rpopQ hq2 HR.out.ok.rs (by have := HRL.out; omega))
        rw [hM.out] at HCL
        obtain ⟨m1, m2, hmm⟩ : ∃ m1 m2, Hid (ans M = (m1, m2)) := ⟨_, _, hide rfl⟩
        rw [hmm.out] at HCL
        unfold pv at HCL
        dsimp only at HCL
        have HZ := hide z2
        have X2 := hide x2
        have F2 := hide f2
        have HQ2 := hide hq2
        have e2 := hW2.out
        clear hW2 hz b2 z2 y2 x2 f2 hq2
        subst e2
        go_wp2_with (first | (refine wpList_store_row rfl 26 _ _ rfl wr.heap.size #[.int .i64 0, .int .i64 s2, .int .i64 s3] rfl rfl _ _ (alloc_new wr _) Try.sizeS3 rfl (by simp [Value.oneCell']) ?_; rw [World.setRow_alloc_new]) | (refine wpList_store_row rfl 33 _ _ rfl (wr.heap.size + 1) #[.int .i64 (-1), .int .i64 (-1)] rfl rfl _ _ (by rw [show wr.heap.size + 1 = (wr.alloc (zS3 0 s2 s3)).heap.size by simp]; exact alloc_new _ _) Try.sizePr rfl (by simp [Value.oneCell']) ?_))
        refine HCL.out.mono ?_
        rintro e w3 ⟨rfl, v3, h3, f3⟩
        rw [hR5] at h3
        have hab : wr.heap.size + 1 ≠ w.heap.size ∧ some (wr.heap.size + 1) ≠ vt.ownBlock := ⟨by have := NN.out.1; omega, fun e => by have := NN.out.2 _ e.symm; omega⟩
        have hab3 : wr.heap.size + 1 ≠ w.heap.size ∧ some (wr.heap.size + 1) ≠ v3.ownBlock := ⟨hab.1, fun e => by
          rcases f3.own _ e.symm with q | q
          · exact hab.2 q.symm
          · have := HZ.out; omega⟩
        have AB3 := (f3.block _ (blk_lt X2.out) hab.1 hab.2).trans X2.out
        have b4 : Below w3.heap.size w3 (w3.alloc (zP m1 m2)) := (Below.refl _ _).alloc (Nat.le_refl _) _
        have Q4 := hide (h3.later b4)
        have F4 := hide ((F2.out.trans f3).trans (Fq.of_below b4))
        have AB4 := hide (blk_later AB3 b4)
        have XB4 := hide (alloc_new w3 (zP m1 m2))
        have HAB3 := hide hab3
        clear h3 f3 hab hab3 AB3 b4 HCL
        cases M with
        | none =>
          have hpe : p1 = -1 ∧ p2 = -1 := by
            have := hP5
            simp only [sa, Prod.mk.injEq] at this
            exact ⟨this.1.symm, this.2.symm⟩
          obtain ⟨rfl, rfl⟩ := hpe
          have HQ5 := hide Q4.out
          have F5 := hide F4.out
          have AB := hide AB4.out
          obtain ⟨W6, hW6⟩ : ∃ W, Hid ((w3.alloc (zP m1 m2)).alloc (zP (-1) (-1)) = W) := ⟨_, hide rfl⟩
          have b6 : Below (w3.alloc (zP m1 m2)).heap.size (w3.alloc (zP m1 m2)) W6 := by rw [← hW6.out]; exact (Below.refl _ _).alloc (Nat.le_refl _) _
          have HO6 := hide (owns_lat (HR.out.kept F5.out) b6)
          have HN6 : Hid (W6.heap[(w3.alloc (zP m1 m2)).heap.size]? = some (zP (-1) (-1))) := hide (by rw [← hW6.out]; exact alloc_new _ _)
          have HB6 : Hid (w.heap.size ≤ W6.heap.size) := hide (Nat.le_trans HQ5.out.bw b6.size)
          obtain ⟨a0, a1⟩ := cells2 AB.out
          have e6 := hW6.out
          clear b6 hW6
          subst e6
          have hz6 : (w3.alloc (zP m1 m2)).heap.size = w3.heap.size + 1 := by simp
          rw [hz6] at HN6
          clear hz6
          go_wp2_with (first | (at_builtin; refine wp_append_pr ((w3.alloc (zP m1 m2)).alloc (zP (-1) (-1))) w.heap.size rfl _ _ rfl _ D rfl HO6.out (w3.heap.size + 1) ((-1), (-1)) rfl HN6.out HDL.out HB6.out ?_) | (refine wpList_store_row rfl 33 _ _ rfl w3.heap.size #[.int .i64 m1, .int .i64 m2] rfl rfl _ _ (alloc_new w3 _) Try.sizePr rfl (by simp [Value.oneCell']) ?_; rw [World.setRow_alloc_new]))
          intro v' w7 r1 r2 r3
          have HN : Hid (RlS w w7 f w.heap.size L (t + 1) (D ++ [(-1, -1)]) _ _ _ v') := hide (HR.out.end_ HS.out HSR.out HSN.out HSP.out HQ5.out F5.out r1 r2 (fun g hg => (r3 g hg).elim .inl (fun q => .inr (by first | exact q | (simp; omega) | (simp [World.setRow]; omega)))))
          clear r1 r2 r3
          go_wp2_with fail
          go_roundw
          case rel => exact ⟨t + 1, _, _, _, _, by first | rfl | (rw [wt]; rfl), htn, HN⟩
          case measure => first | exact meas_lt htn | (rw [wt]; exact meas_lt htn)
        | some em =>
          have hpe : p1 = m1 ∧ p2 = m2 := by
            have h1 := hP5
            have h2 := hmm.out
            simp only [sa, ans] at h1 h2
            rw [h1] at h2
            simp only [Prod.mk.injEq] at h2
            exact h2
          obtain ⟨rfl, rfl⟩ := hpe
          have QF := Q4.out.box (cs := #[.int .i64 p1, .int .i64 p2]) F4.out (by omega) HAB3.out
          have HQ5 := hide QF.1
          have F5 := hide QF.2
          have AB : Hid (((w3.alloc (zP p1 p2)).setRow (wr.heap.size + 1) #[.int .i64 p1, .int .i64 p2]).heap[wr.heap.size + 1]? = _) := hide (setRow_heap _ _ _ _ _ _ AB4.out)
          clear QF
          obtain ⟨W6, hW6⟩ : ∃ W, Hid (((w3.alloc (zP p1 p2)).setRow (wr.heap.size + 1) #[.int .i64 p1, .int .i64 p2]).alloc (zP p1 p2) = W) := ⟨_, hide rfl⟩
          have b6 : Below ((w3.alloc (zP p1 p2)).setRow (wr.heap.size + 1) #[.int .i64 p1, .int .i64 p2]).heap.size ((w3.alloc (zP p1 p2)).setRow (wr.heap.size + 1) #[.int .i64 p1, .int .i64 p2]) W6 := by rw [← hW6.out]; exact (Below.refl _ _).alloc (Nat.le_refl _) _
          have HO6 := hide (owns_lat (HR.out.kept F5.out) b6)
          have HN6 : Hid (W6.heap[((w3.alloc (zP p1 p2)).setRow (wr.heap.size + 1) #[.int .i64 p1, .int .i64 p2]).heap.size]? = some (zP p1 p2)) := hide (by rw [← hW6.out]; exact alloc_new _ _)
          have HB6 : Hid (w.heap.size ≤ W6.heap.size) := hide (Nat.le_trans HQ5.out.bw b6.size)
          obtain ⟨a0, a1⟩ := cells2 AB.out
          have e6 := hW6.out
          clear b6 hW6
          subst e6
          have hz6 : ((w3.alloc (zP p1 p2)).setRow (wr.heap.size + 1) #[.int .i64 p1, .int .i64 p2]).heap.size = w3.heap.size + 1 := by simp [World.setRow]
          rw [hz6] at HN6
          clear hz6
          go_wp2_with (first | (at_builtin; refine wp_append_pr (((w3.alloc (zP p1 p2)).setRow (wr.heap.size + 1) #[.int .i64 p1, .int .i64 p2]).alloc (zP p1 p2)) w.heap.size rfl _ _ rfl _ D rfl HO6.out (w3.heap.size + 1) (p1, p2) rfl HN6.out HDL.out HB6.out ?_) | (refine wpList_store_row rfl 33 _ _ rfl w3.heap.size #[.int .i64 p1, .int .i64 p2] rfl rfl _ _ (alloc_new w3 _) Try.sizePr rfl (by simp [Value.oneCell']) ?_; rw [World.setRow_alloc_new]) | (refine wpList_store_row rfl 33 _ _ rfl (wr.heap.size + 1) #[.int .i64 p1, .int .i64 p2] rfl rfl _ _ AB4.out Try.sizePr rfl (by simp [Value.oneCell']) ?_))
          intro v' w7 r1 r2 r3
          have HN : Hid (RlS w w7 f w.heap.size L (t + 1) (D ++ [(p1, p2)]) _ _ _ v') := hide (HR.out.end_ HS.out HSR.out HSN.out HSP.out HQ5.out F5.out r1 r2 (fun g hg => (r3 g hg).elim .inl (fun q => .inr (by first | exact q | (simp; omega) | (simp [World.setRow]; omega)))))
          clear r1 r2 r3
          go_wp2_with fail
          go_roundw
          case rel => exact ⟨t + 1, _, _, _, _, by first | rfl | (rw [wt]; rfl), htn, HN⟩
          case measure => first | exact meas_lt htn | (rw [wt]; exact meas_lt htn)
      by_cases hk2 : s1 = 2
      · subst hk2
        obtain ⟨W2, hW2⟩ : ∃ W, Hid (((wr.alloc (zS3 2 s2 s3)).alloc (zP (-1) (-1))) = W) := ⟨_, hide rfl⟩
        have hz : (wr.alloc (zS3 2 s2 s3)).heap.size = wr.heap.size + 1 := by simp
        have b2 : Below wr.heap.size wr W2 := by rw [← hW2.out]; exact ((Below.refl _ _).alloc (Nat.le_refl _) _).alloc (by simp) _
        have z2 : W2.heap.size = wr.heap.size + 2 := by rw [← hW2.out]; simp
        have y2 : W2.heap[wr.heap.size]? = some (zS3 2 s2 s3) := by rw [← hW2.out]; exact (Below.heap_alloc _ _ _ (by simp)).trans (alloc_new wr _)
        have x2 : W2.heap[wr.heap.size + 1]? = some (zP (-1) (-1)) := by rw [← hW2.out, ← hz]; exact alloc_new _ _
        have u0 : W2.cell? ⟨wr.heap.size, 0, none⟩ = some (.int .i64 2) := by rw [cell_of_row _ _ 0 _ _ _ y2]; rfl
        have u1 : W2.cell? ⟨wr.heap.size, 1, none⟩ = some (.int .i64 s2) := by rw [cell_of_row _ _ 1 _ _ _ y2]; rfl
        have u2 : W2.cell? ⟨wr.heap.size, 2, none⟩ = some (.int .i64 s3) := by rw [cell_of_row _ _ 2 _ _ _ y2]; rfl
        have hq2 := HR.out.rq.later b2
        have f2 : Fq wr W2 w.heap.size vt vt := Fq.of_below b2
        have NN := hide HR.out.num
        obtain ⟨R5, HSR⟩ : ∃ R5, Hid ((st1 (kB f) R N (2, s2, s3)).2.1 = R5) := ⟨_, hide rfl⟩
        obtain ⟨N5, HSN⟩ : ∃ N5, Hid ((st1 (kB f) R N (2, s2, s3)).2.2 = N5) := ⟨_, hide rfl⟩
        obtain ⟨p1, p2, HSP⟩ : ∃ p1 p2, Hid ((st1 (kB f) R N (2, s2, s3)).1 = (p1, p2)) := ⟨_, _, hide rfl⟩
        obtain ⟨M, hM⟩ : ∃ M, Hid (mn (kB f) (fun _ => true) R = M) := ⟨_, hide rfl⟩
        have hR5 : R = R5 := by rw [← HSR.out]; rfl
        have hP5 : sa M = (p1, p2) := by rw [← HSP.out, ← hM.out]; rfl
        have HCL := hide (rpeekQ hq2 HR.out.ok.rs (by have := HRL.out; omega))
        rw [hM.out] at HCL
        obtain ⟨m1, m2, hmm⟩ : ∃ m1 m2, Hid (ans M = (m1, m2)) := ⟨_, _, hide rfl⟩
        rw [hmm.out] at HCL
        unfold pv at HCL
        dsimp only at HCL
        have HZ := hide z2
        have X2 := hide x2
        have F2 := hide f2
        have HQ2 := hide hq2
        have e2 := hW2.out
        clear hW2 hz b2 z2 y2 x2 f2 hq2
        subst e2
        go_wp2_with (first | (refine wpList_store_row rfl 26 _ _ rfl wr.heap.size #[.int .i64 2, .int .i64 s2, .int .i64 s3] rfl rfl _ _ (alloc_new wr _) Try.sizeS3 rfl (by simp [Value.oneCell']) ?_; rw [World.setRow_alloc_new]) | (refine wpList_store_row rfl 33 _ _ rfl (wr.heap.size + 1) #[.int .i64 (-1), .int .i64 (-1)] rfl rfl _ _ (by rw [show wr.heap.size + 1 = (wr.alloc (zS3 2 s2 s3)).heap.size by simp]; exact alloc_new _ _) Try.sizePr rfl (by simp [Value.oneCell']) ?_))
        refine HCL.out.mono ?_
        rintro e w3 ⟨rfl, hb3⟩
        have h3 := HQ2.out.later hb3
        rw [hR5] at h3
        have f3 := Fq.of_below (hb := w.heap.size) (v := vt) hb3
        have hab : wr.heap.size + 1 ≠ w.heap.size ∧ some (wr.heap.size + 1) ≠ vt.ownBlock := ⟨by have := NN.out.1; omega, fun e => by have := NN.out.2 _ e.symm; omega⟩
        have hab3 : wr.heap.size + 1 ≠ w.heap.size ∧ some (wr.heap.size + 1) ≠ vt.ownBlock := ⟨hab.1, fun e => by
          rcases f3.own _ e.symm with q | q
          · exact hab.2 q.symm
          · have := HZ.out; omega⟩
        have AB3 := (f3.block _ (blk_lt X2.out) hab.1 hab.2).trans X2.out
        have b4 : Below w3.heap.size w3 (w3.alloc (zP m1 m2)) := (Below.refl _ _).alloc (Nat.le_refl _) _
        have Q4 := hide (h3.later b4)
        have F4 := hide ((F2.out.trans f3).trans (Fq.of_below b4))
        have AB4 := hide (blk_later AB3 b4)
        have XB4 := hide (alloc_new w3 (zP m1 m2))
        have HAB3 := hide hab3
        clear h3 f3 hab hab3 AB3 b4 HCL hb3
        cases M with
        | none =>
          have hpe : p1 = -1 ∧ p2 = -1 := by
            have := hP5
            simp only [sa, Prod.mk.injEq] at this
            exact ⟨this.1.symm, this.2.symm⟩
          obtain ⟨rfl, rfl⟩ := hpe
          have HQ5 := hide Q4.out
          have F5 := hide F4.out
          have AB := hide AB4.out
          obtain ⟨W6, hW6⟩ : ∃ W, Hid ((w3.alloc (zP m1 m2)).alloc (zP (-1) (-1)) = W) := ⟨_, hide rfl⟩
          have b6 : Below (w3.alloc (zP m1 m2)).heap.size (w3.alloc (zP m1 m2)) W6 := by rw [← hW6.out]; exact (Below.refl _ _).alloc (Nat.le_refl _) _
          have HO6 := hide (owns_lat (HR.out.kept F5.out) b6)
          have HN6 : Hid (W6.heap[(w3.alloc (zP m1 m2)).heap.size]? = some (zP (-1) (-1))) := hide (by rw [← hW6.out]; exact alloc_new _ _)
          have HB6 : Hid (w.heap.size ≤ W6.heap.size) := hide (Nat.le_trans HQ5.out.bw b6.size)
          obtain ⟨a0, a1⟩ := cells2 AB.out
          have e6 := hW6.out
          clear b6 hW6
          subst e6
          have hz6 : (w3.alloc (zP m1 m2)).heap.size = w3.heap.size + 1 := by simp
          rw [hz6] at HN6
          clear hz6
          go_wp2_with (first | (at_builtin; refine wp_append_pr ((w3.alloc (zP m1 m2)).alloc (zP (-1) (-1))) w.heap.size rfl _ _ rfl _ D rfl HO6.out (w3.heap.size + 1) ((-1), (-1)) rfl HN6.out HDL.out HB6.out ?_) | (refine wpList_store_row rfl 33 _ _ rfl w3.heap.size #[.int .i64 m1, .int .i64 m2] rfl rfl _ _ (alloc_new w3 _) Try.sizePr rfl (by simp [Value.oneCell']) ?_; rw [World.setRow_alloc_new]))
          intro v' w7 r1 r2 r3
          have HN : Hid (RlS w w7 f w.heap.size L (t + 1) (D ++ [(-1, -1)]) _ _ _ v') := hide (HR.out.end_ HS.out HSR.out HSN.out HSP.out HQ5.out F5.out r1 r2 (fun g hg => (r3 g hg).elim .inl (fun q => .inr (by first | exact q | (simp; omega) | (simp [World.setRow]; omega)))))
          clear r1 r2 r3
          go_wp2_with fail
          go_roundw
          case rel => exact ⟨t + 1, _, _, _, _, by first | rfl | (rw [wt]; rfl), htn, HN⟩
          case measure => first | exact meas_lt htn | (rw [wt]; exact meas_lt htn)
        | some em =>
          have hpe : p1 = m1 ∧ p2 = m2 := by
            have h1 := hP5
            have h2 := hmm.out
            simp only [sa, ans] at h1 h2
            rw [h1] at h2
            simp only [Prod.mk.injEq] at h2
            exact h2
          obtain ⟨rfl, rfl⟩ := hpe
          have QF := Q4.out.box (cs := #[.int .i64 p1, .int .i64 p2]) F4.out (by omega) HAB3.out
          have HQ5 := hide QF.1
          have F5 := hide QF.2
          have AB : Hid (((w3.alloc (zP p1 p2)).setRow (wr.heap.size + 1) #[.int .i64 p1, .int .i64 p2]).heap[wr.heap.size + 1]? = _) := hide (setRow_heap _ _ _ _ _ _ AB4.out)
          clear QF
          obtain ⟨W6, hW6⟩ : ∃ W, Hid (((w3.alloc (zP p1 p2)).setRow (wr.heap.size + 1) #[.int .i64 p1, .int .i64 p2]).alloc (zP p1 p2) = W) := ⟨_, hide rfl⟩
          have b6 : Below ((w3.alloc (zP p1 p2)).setRow (wr.heap.size + 1) #[.int .i64 p1, .int .i64 p2]).heap.size ((w3.alloc (zP p1 p2)).setRow (wr.heap.size + 1) #[.int .i64 p1, .int .i64 p2]) W6 := by rw [← hW6.out]; exact (Below.refl _ _).alloc (Nat.le_refl _) _
          have HO6 := hide (owns_lat (HR.out.kept F5.out) b6)
          have HN6 : Hid (W6.heap[((w3.alloc (zP p1 p2)).setRow (wr.heap.size + 1) #[.int .i64 p1, .int .i64 p2]).heap.size]? = some (zP p1 p2)) := hide (by rw [← hW6.out]; exact alloc_new _ _)
          have HB6 : Hid (w.heap.size ≤ W6.heap.size) := hide (Nat.le_trans HQ5.out.bw b6.size)
          obtain ⟨a0, a1⟩ := cells2 AB.out
          have e6 := hW6.out
          clear b6 hW6
          subst e6
          have hz6 : ((w3.alloc (zP p1 p2)).setRow (wr.heap.size + 1) #[.int .i64 p1, .int .i64 p2]).heap.size = w3.heap.size + 1 := by simp [World.setRow]
          rw [hz6] at HN6
          clear hz6
          go_wp2_with (first | (at_builtin; refine wp_append_pr (((w3.alloc (zP p1 p2)).setRow (wr.heap.size + 1) #[.int .i64 p1, .int .i64 p2]).alloc (zP p1 p2)) w.heap.size rfl _ _ rfl _ D rfl HO6.out (w3.heap.size + 1) (p1, p2) rfl HN6.out HDL.out HB6.out ?_) | (refine wpList_store_row rfl 33 _ _ rfl w3.heap.size #[.int .i64 p1, .int .i64 p2] rfl rfl _ _ (alloc_new w3 _) Try.sizePr rfl (by simp [Value.oneCell']) ?_; rw [World.setRow_alloc_new]) | (refine wpList_store_row rfl 33 _ _ rfl (wr.heap.size + 1) #[.int .i64 p1, .int .i64 p2] rfl rfl _ _ AB4.out Try.sizePr rfl (by simp [Value.oneCell']) ?_))
          intro v' w7 r1 r2 r3
          have HN : Hid (RlS w w7 f w.heap.size L (t + 1) (D ++ [(p1, p2)]) _ _ _ v') := hide (HR.out.end_ HS.out HSR.out HSN.out HSP.out HQ5.out F5.out r1 r2 (fun g hg => (r3 g hg).elim .inl (fun q => .inr (by first | exact q | (simp; omega) | (simp [World.setRow]; omega)))))
          clear r1 r2 r3
          go_wp2_with fail
          go_roundw
          case rel => exact ⟨t + 1, _, _, _, _, by first | rfl | (rw [wt]; rfl), htn, HN⟩
          case measure => first | exact meas_lt htn | (rw [wt]; exact meas_lt htn)
      by_cases hk3 : s1 = 3
      · subst hk3
        obtain ⟨W2, hW2⟩ : ∃ W, Hid (((wr.alloc (zS3 3 s2 s3)).alloc (zP (-1) (-1))) = W) := ⟨_, hide rfl⟩
        have hz : (wr.alloc (zS3 3 s2 s3)).heap.size = wr.heap.size + 1 := by simp
        have b2 : Below wr.heap.size wr W2 := by rw [← hW2.out]; exact ((Below.refl _ _).alloc (Nat.le_refl _) _).alloc (by simp) _
        have z2 : W2.heap.size = wr.heap.size + 2 := by rw [← hW2.out]; simp
        have y2 : W2.heap[wr.heap.size]? = some (zS3 3 s2 s3) := by rw [← hW2.out]; exact (Below.heap_alloc _ _ _ (by simp)).trans (alloc_new wr _)
        have x2 : W2.heap[wr.heap.size + 1]? = some (zP (-1) (-1)) := by rw [← hW2.out, ← hz]; exact alloc_new _ _
        have u0 : W2.cell? ⟨wr.heap.size, 0, none⟩ = some (.int .i64 3) := by rw [cell_of_row _ _ 0 _ _ _ y2]; rfl
        have u1 : W2.cell? ⟨wr.heap.size, 1, none⟩ = some (.int .i64 s2) := by rw [cell_of_row _ _ 1 _ _ _ y2]; rfl
        have u2 : W2.cell? ⟨wr.heap.size, 2, none⟩ = some (.int .i64 s3) := by rw [cell_of_row _ _ 2 _ _ _ y2]; rfl
        have hq2 := HR.out.rq.later b2
        have f2 : Fq wr W2 w.heap.size vt vt := Fq.of_below b2
        have NN := hide HR.out.num
        obtain ⟨R5, HSR⟩ : ∃ R5, Hid ((st1 (kB f) R N (3, s2, s3)).2.1 = R5) := ⟨_, hide rfl⟩
        obtain ⟨N5, HSN⟩ : ∃ N5, Hid ((st1 (kB f) R N (3, s2, s3)).2.2 = N5) := ⟨_, hide rfl⟩
        obtain ⟨p1, p2, HSP⟩ : ∃ p1 p2, Hid ((st1 (kB f) R N (3, s2, s3)).1 = (p1, p2)) := ⟨_, _, hide rfl⟩
        obtain ⟨M, hM⟩ : ∃ M, Hid (mn (kB f) (fun x => x.2 == s2) R = M) := ⟨_, hide rfl⟩
        have hR5 : nx R M = R5 := by rw [← HSR.out, ← hM.out]; rfl
        have hP5 : sa M = (p1, p2) := by rw [← HSP.out, ← hM.out]; rfl
        have HCL := hide (rremQ s2 hq2 HR.out.ok.rs (by have := HRL.out; omega))
        rw [hM.out] at HCL
        obtain ⟨m1, m2, hmm⟩ : ∃ m1 m2, Hid (ans M = (m1, m2)) := ⟨_, _, hide rfl⟩
        rw [hmm.out] at HCL
        unfold pv at HCL
        dsimp only at HCL
        have HZ := hide z2
        have X2 := hide x2
        have F2 := hide f2
        have HQ2 := hide hq2
        have e2 := hW2.out
        clear hW2 hz b2 z2 y2 x2 f2 hq2
        subst e2
        go_wp2_with (first | (refine wpList_store_row rfl 26 _ _ rfl wr.heap.size #[.int .i64 3, .int .i64 s2, .int .i64 s3] rfl rfl _ _ (alloc_new wr _) Try.sizeS3 rfl (by simp [Value.oneCell']) ?_; rw [World.setRow_alloc_new]) | (refine wpList_store_row rfl 33 _ _ rfl (wr.heap.size + 1) #[.int .i64 (-1), .int .i64 (-1)] rfl rfl _ _ (by rw [show wr.heap.size + 1 = (wr.alloc (zS3 3 s2 s3)).heap.size by simp]; exact alloc_new _ _) Try.sizePr rfl (by simp [Value.oneCell']) ?_))
        refine HCL.out.mono ?_
        rintro e w3 ⟨rfl, v3, h3, f3⟩
        rw [hR5] at h3
        have hab : wr.heap.size + 1 ≠ w.heap.size ∧ some (wr.heap.size + 1) ≠ vt.ownBlock := ⟨by have := NN.out.1; omega, fun e => by have := NN.out.2 _ e.symm; omega⟩
        have hab3 : wr.heap.size + 1 ≠ w.heap.size ∧ some (wr.heap.size + 1) ≠ v3.ownBlock := ⟨hab.1, fun e => by
          rcases f3.own _ e.symm with q | q
          · exact hab.2 q.symm
          · have := HZ.out; omega⟩
        have AB3 := (f3.block _ (blk_lt X2.out) hab.1 hab.2).trans X2.out
        have b4 : Below w3.heap.size w3 (w3.alloc (zP m1 m2)) := (Below.refl _ _).alloc (Nat.le_refl _) _
        have Q4 := hide (h3.later b4)
        have F4 := hide ((F2.out.trans f3).trans (Fq.of_below b4))
        have AB4 := hide (blk_later AB3 b4)
        have XB4 := hide (alloc_new w3 (zP m1 m2))
        have HAB3 := hide hab3
        clear h3 f3 hab hab3 AB3 b4 HCL
        cases M with
        | none =>
          have hpe : p1 = -1 ∧ p2 = -1 := by
            have := hP5
            simp only [sa, Prod.mk.injEq] at this
            exact ⟨this.1.symm, this.2.symm⟩
          obtain ⟨rfl, rfl⟩ := hpe
          have HQ5 := hide Q4.out
          have F5 := hide F4.out
          have AB := hide AB4.out
          obtain ⟨W6, hW6⟩ : ∃ W, Hid ((w3.alloc (zP m1 m2)).alloc (zP (-1) (-1)) = W) := ⟨_, hide rfl⟩
          have b6 : Below (w3.alloc (zP m1 m2)).heap.size (w3.alloc (zP m1 m2)) W6 := by rw [← hW6.out]; exact (Below.refl _ _).alloc (Nat.le_refl _) _
          have HO6 := hide (owns_lat (HR.out.kept F5.out) b6)
          have HN6 : Hid (W6.heap[(w3.alloc (zP m1 m2)).heap.size]? = some (zP (-1) (-1))) := hide (by rw [← hW6.out]; exact alloc_new _ _)
          have HB6 : Hid (w.heap.size ≤ W6.heap.size) := hide (Nat.le_trans HQ5.out.bw b6.size)
          obtain ⟨a0, a1⟩ := cells2 AB.out
          have e6 := hW6.out
          clear b6 hW6
          subst e6
          have hz6 : (w3.alloc (zP m1 m2)).heap.size = w3.heap.size + 1 := by simp
          rw [hz6] at HN6
          clear hz6
          go_wp2_with (first | (at_builtin; refine wp_append_pr ((w3.alloc (zP m1 m2)).alloc (zP (-1) (-1))) w.heap.size rfl _ _ rfl _ D rfl HO6.out (w3.heap.size + 1) ((-1), (-1)) rfl HN6.out HDL.out HB6.out ?_) | (refine wpList_store_row rfl 33 _ _ rfl w3.heap.size #[.int .i64 m1, .int .i64 m2] rfl rfl _ _ (alloc_new w3 _) Try.sizePr rfl (by simp [Value.oneCell']) ?_; rw [World.setRow_alloc_new]))
          intro v' w7 r1 r2 r3
          have HN : Hid (RlS w w7 f w.heap.size L (t + 1) (D ++ [(-1, -1)]) _ _ _ v') := hide (HR.out.end_ HS.out HSR.out HSN.out HSP.out HQ5.out F5.out r1 r2 (fun g hg => (r3 g hg).elim .inl (fun q => .inr (by first | exact q | (simp; omega) | (simp [World.setRow]; omega)))))
          clear r1 r2 r3
          go_wp2_with fail
          go_roundw
          case rel => exact ⟨t + 1, _, _, _, _, by first | rfl | (rw [wt]; rfl), htn, HN⟩
          case measure => first | exact meas_lt htn | (rw [wt]; exact meas_lt htn)
        | some em =>
          have hpe : p1 = m1 ∧ p2 = m2 := by
            have h1 := hP5
            have h2 := hmm.out
            simp only [sa, ans] at h1 h2
            rw [h1] at h2
            simp only [Prod.mk.injEq] at h2
            exact h2
          obtain ⟨rfl, rfl⟩ := hpe
          have QF := Q4.out.box (cs := #[.int .i64 p1, .int .i64 p2]) F4.out (by omega) HAB3.out
          have HQ5 := hide QF.1
          have F5 := hide QF.2
          have AB : Hid (((w3.alloc (zP p1 p2)).setRow (wr.heap.size + 1) #[.int .i64 p1, .int .i64 p2]).heap[wr.heap.size + 1]? = _) := hide (setRow_heap _ _ _ _ _ _ AB4.out)
          clear QF
          obtain ⟨W6, hW6⟩ : ∃ W, Hid (((w3.alloc (zP p1 p2)).setRow (wr.heap.size + 1) #[.int .i64 p1, .int .i64 p2]).alloc (zP p1 p2) = W) := ⟨_, hide rfl⟩
          have b6 : Below ((w3.alloc (zP p1 p2)).setRow (wr.heap.size + 1) #[.int .i64 p1, .int .i64 p2]).heap.size ((w3.alloc (zP p1 p2)).setRow (wr.heap.size + 1) #[.int .i64 p1, .int .i64 p2]) W6 := by rw [← hW6.out]; exact (Below.refl _ _).alloc (Nat.le_refl _) _
          have HO6 := hide (owns_lat (HR.out.kept F5.out) b6)
          have HN6 : Hid (W6.heap[((w3.alloc (zP p1 p2)).setRow (wr.heap.size + 1) #[.int .i64 p1, .int .i64 p2]).heap.size]? = some (zP p1 p2)) := hide (by rw [← hW6.out]; exact alloc_new _ _)
          have HB6 : Hid (w.heap.size ≤ W6.heap.size) := hide (Nat.le_trans HQ5.out.bw b6.size)
          obtain ⟨a0, a1⟩ := cells2 AB.out
          have e6 := hW6.out
          clear b6 hW6
          subst e6
          have hz6 : ((w3.alloc (zP p1 p2)).setRow (wr.heap.size + 1) #[.int .i64 p1, .int .i64 p2]).heap.size = w3.heap.size + 1 := by simp [World.setRow]
          rw [hz6] at HN6
          clear hz6
          go_wp2_with (first | (at_builtin; refine wp_append_pr (((w3.alloc (zP p1 p2)).setRow (wr.heap.size + 1) #[.int .i64 p1, .int .i64 p2]).alloc (zP p1 p2)) w.heap.size rfl _ _ rfl _ D rfl HO6.out (w3.heap.size + 1) (p1, p2) rfl HN6.out HDL.out HB6.out ?_) | (refine wpList_store_row rfl 33 _ _ rfl w3.heap.size #[.int .i64 p1, .int .i64 p2] rfl rfl _ _ (alloc_new w3 _) Try.sizePr rfl (by simp [Value.oneCell']) ?_; rw [World.setRow_alloc_new]) | (refine wpList_store_row rfl 33 _ _ rfl (wr.heap.size + 1) #[.int .i64 p1, .int .i64 p2] rfl rfl _ _ AB4.out Try.sizePr rfl (by simp [Value.oneCell']) ?_))
          intro v' w7 r1 r2 r3
          have HN : Hid (RlS w w7 f w.heap.size L (t + 1) (D ++ [(p1, p2)]) _ _ _ v') := hide (HR.out.end_ HS.out HSR.out HSN.out HSP.out HQ5.out F5.out r1 r2 (fun g hg => (r3 g hg).elim .inl (fun q => .inr (by first | exact q | (simp; omega) | (simp [World.setRow]; omega)))))
          clear r1 r2 r3
          go_wp2_with fail
          go_roundw
          case rel => exact ⟨t + 1, _, _, _, _, by first | rfl | (rw [wt]; rfl), htn, HN⟩
          case measure => first | exact meas_lt htn | (rw [wt]; exact meas_lt htn)
      by_cases hk1 : s1 = 1
      · subst hk1
        obtain ⟨W2, hW2⟩ : ∃ W, Hid (((wr.alloc (zS3 1 s2 s3)).alloc (zP (-1) (-1))) = W) := ⟨_, hide rfl⟩
        have hz : (wr.alloc (zS3 1 s2 s3)).heap.size = wr.heap.size + 1 := by simp
        have b2 : Below wr.heap.size wr W2 := by rw [← hW2.out]; exact ((Below.refl _ _).alloc (Nat.le_refl _) _).alloc (by simp) _
        have z2 : W2.heap.size = wr.heap.size + 2 := by rw [← hW2.out]; simp
        have y2 : W2.heap[wr.heap.size]? = some (zS3 1 s2 s3) := by rw [← hW2.out]; exact (Below.heap_alloc _ _ _ (by simp)).trans (alloc_new wr _)
        have x2 : W2.heap[wr.heap.size + 1]? = some (zP (-1) (-1)) := by rw [← hW2.out, ← hz]; exact alloc_new _ _
        have u0 : W2.cell? ⟨wr.heap.size, 0, none⟩ = some (.int .i64 1) := by rw [cell_of_row _ _ 0 _ _ _ y2]; rfl
        have u1 : W2.cell? ⟨wr.heap.size, 1, none⟩ = some (.int .i64 s2) := by rw [cell_of_row _ _ 1 _ _ _ y2]; rfl
        have u2 : W2.cell? ⟨wr.heap.size, 2, none⟩ = some (.int .i64 s3) := by rw [cell_of_row _ _ 2 _ _ _ y2]; rfl
        have hq2 := HR.out.rq.later b2
        have f2 : Fq wr W2 w.heap.size vt vt := Fq.of_below b2
        have NN := hide HR.out.num
        obtain ⟨W3, hW3⟩ : ∃ W, Hid (W2.setRow (wr.heap.size + 1) #[.int .i64 s2, .int .i64 s3] = W) := ⟨_, hide rfl⟩
        have hab : wr.heap.size + 1 ≠ w.heap.size ∧ some (wr.heap.size + 1) ≠ vt.ownBlock := ⟨by have := NN.out.1; omega, fun e => by have := NN.out.2 _ e.symm; omega⟩
        have QF := hq2.box (cs := #[.int .i64 s2, .int .i64 s3]) f2 (by omega) hab
        rw [hW3.out] at QF
        have ab3 : W3.heap[wr.heap.size + 1]? = some (zP s2 s3) := by rw [← hW3.out]; exact setRow_heap _ _ _ _ _ _ x2
        have HCL := hide (rpushQ (s2, s3) N QF.1 (by have := HRL.out; omega))
        unfold pv at HCL
        dsimp only at HCL
        have Q3 := hide QF.1
        have F3 := hide QF.2
        have AB3 := hide ab3
        have X2 := hide x2
        have HAB := hide hab
        obtain ⟨v0, v1⟩ := cells2 ab3
        have HSR : Hid ((st1 (kB f) R N (1, s2, s3)).2.1 = R ++ [((s2, s3), N)]) := hide rfl
        have HSN : Hid ((st1 (kB f) R N (1, s2, s3)).2.2 = N + 1) := hide rfl
        have HSP : Hid ((st1 (kB f) R N (1, s2, s3)).1 = (s2, s3)) := hide rfl
        have e3 := hW3.out
        clear hW3
        subst e3
        have e2 := hW2.out
        clear hW2 hz b2 z2 y2 x2 f2 hq2 QF ab3 hab
        subst e2
        go_wp2_with (first | (refine wpList_store_row rfl 26 _ _ rfl wr.heap.size #[.int .i64 1, .int .i64 s2, .int .i64 s3] rfl rfl _ _ (alloc_new wr _) Try.sizeS3 rfl (by simp [Value.oneCell']) ?_; rw [World.setRow_alloc_new]) | (refine wpList_store_row rfl 33 _ _ rfl (wr.heap.size + 1) #[.int .i64 (-1), .int .i64 (-1)] rfl rfl _ _ (by rw [show wr.heap.size + 1 = (wr.alloc (zS3 1 s2 s3)).heap.size by simp]; exact alloc_new _ _) Try.sizePr rfl (by simp [Value.oneCell']) ?_) | (refine wpList_store_row rfl 33 _ _ rfl (wr.heap.size + 1) #[.int .i64 s2, .int .i64 s3] rfl rfl _ _ X2.out Try.sizePr rfl (by simp [Value.oneCell']) ?_))
        refine HCL.out.mono ?_
        rintro e w3 ⟨⟨uu, rfl⟩, v3, h3, f3⟩
        have HQ5 := hide h3
        have F5 := hide (F3.out.trans f3)
        have AB := hide ((f3.block _ (blk_lt AB3.out) HAB.out.1 HAB.out.2).trans AB3.out)
        clear h3 f3 HCL
        obtain ⟨W6, hW6⟩ : ∃ W, Hid (w3.alloc (zP s2 s3) = W) := ⟨_, hide rfl⟩
        have b6 : Below w3.heap.size w3 W6 := by rw [← hW6.out]; exact (Below.refl _ _).alloc (Nat.le_refl _) _
        have HO6 := hide (owns_lat (HR.out.kept F5.out) b6)
        have HN6 : Hid (W6.heap[w3.heap.size]? = some (zP s2 s3)) := hide (by rw [← hW6.out]; exact alloc_new _ _)
        have HB6 : Hid (w.heap.size ≤ W6.heap.size) := hide (Nat.le_trans HQ5.out.bw b6.size)
        obtain ⟨a0, a1⟩ := cells2 AB.out
        have e6 := hW6.out
        clear b6 hW6
        subst e6
        go_wp2_with (at_builtin; refine wp_append_pr (w3.alloc (zP s2 s3)) w.heap.size rfl _ _ rfl _ D rfl HO6.out w3.heap.size (s2, s3) rfl HN6.out HDL.out HB6.out ?_)
        intro v' w7 r1 r2 r3
        have HN : Hid (RlS w w7 f w.heap.size L (t + 1) (D ++ [(s2, s3)]) _ _ _ v') := hide (HR.out.end_ HS.out HSR.out HSN.out HSP.out HQ5.out F5.out r1 r2 (fun g hg => (r3 g hg).elim .inl (fun q => .inr (by first | exact q | (simp; omega) | (simp [World.setRow]; omega)))))
        clear r1 r2 r3
        go_wp2_with fail
        go_roundw
        case rel => exact ⟨t + 1, _, _, _, _, by first | rfl | (rw [wt]; rfl), htn, HN⟩
        case measure => first | exact meas_lt htn | (rw [wt]; exact meas_lt htn)
      by_cases hk4 : s1 = 4
      · subst hk4
        obtain ⟨W2, hW2⟩ : ∃ W, Hid (((wr.alloc (zS3 4 s2 s3)).alloc (zP (-1) (-1))) = W) := ⟨_, hide rfl⟩
        have hz : (wr.alloc (zS3 4 s2 s3)).heap.size = wr.heap.size + 1 := by simp
        have b2 : Below wr.heap.size wr W2 := by rw [← hW2.out]; exact ((Below.refl _ _).alloc (Nat.le_refl _) _).alloc (by simp) _
        have z2 : W2.heap.size = wr.heap.size + 2 := by rw [← hW2.out]; simp
        have y2 : W2.heap[wr.heap.size]? = some (zS3 4 s2 s3) := by rw [← hW2.out]; exact (Below.heap_alloc _ _ _ (by simp)).trans (alloc_new wr _)
        have x2 : W2.heap[wr.heap.size + 1]? = some (zP (-1) (-1)) := by rw [← hW2.out, ← hz]; exact alloc_new _ _
        have u0 : W2.cell? ⟨wr.heap.size, 0, none⟩ = some (.int .i64 4) := by rw [cell_of_row _ _ 0 _ _ _ y2]; rfl
        have u1 : W2.cell? ⟨wr.heap.size, 1, none⟩ = some (.int .i64 s2) := by rw [cell_of_row _ _ 1 _ _ _ y2]; rfl
        have u2 : W2.cell? ⟨wr.heap.size, 2, none⟩ = some (.int .i64 s3) := by rw [cell_of_row _ _ 2 _ _ _ y2]; rfl
        have hq2 := HR.out.rq.later b2
        have f2 : Fq wr W2 w.heap.size vt vt := Fq.of_below b2
        have NN := hide HR.out.num
        have hab : wr.heap.size + 1 ≠ w.heap.size ∧ some (wr.heap.size + 1) ≠ vt.ownBlock := ⟨by have := NN.out.1; omega, fun e => by have := NN.out.2 _ e.symm; omega⟩
        obtain ⟨va, vc, hvt⟩ := rm_lt hq2.row.rm
        rw [fs_len] at hvt
        have c2 := hq2.c1
        obtain ⟨rn, hrn⟩ : ∃ rn : Nat, Hid (R.length = rn) := ⟨_, hide rfl⟩
        rw [hrn.out] at hvt
        have QF := hq2.box (cs := #[.int .i64 (rn : Int), .int .i64 0]) f2 (by omega) hab
        have HQ5 := hide QF.1
        have F5 := hide QF.2
        have AB : Hid ((W2.setRow (wr.heap.size + 1) #[.int .i64 (rn : Int), .int .i64 0]).heap[wr.heap.size + 1]? = _) := hide (setRow_heap _ _ _ _ _ _ x2)
        have X2 := hide x2
        have HSR : Hid ((st1 (kB f) R N (4, s2, s3)).2.1 = R) := hide rfl
        have HSN : Hid ((st1 (kB f) R N (4, s2, s3)).2.2 = N) := hide rfl
        have HSP : Hid ((st1 (kB f) R N (4, s2, s3)).1 = ((rn : Int), 0)) := hide (by rw [← hrn.out]; rfl)
        obtain ⟨W6, hW6⟩ : ∃ W, Hid ((W2.setRow (wr.heap.size + 1) #[.int .i64 (rn : Int), .int .i64 0]).alloc (zP (rn : Int) 0) = W) := ⟨_, hide rfl⟩
        have b6 : Below (W2.setRow (wr.heap.size + 1) #[.int .i64 (rn : Int), .int .i64 0]).heap.size (W2.setRow (wr.heap.size + 1) #[.int .i64 (rn : Int), .int .i64 0]) W6 := by rw [← hW6.out]; exact (Below.refl _ _).alloc (Nat.le_refl _) _
        have HO6 := hide (owns_lat (HR.out.kept F5.out) b6)
        have HN6 : Hid (W6.heap[(W2.setRow (wr.heap.size + 1) #[.int .i64 (rn : Int), .int .i64 0]).heap.size]? = some (zP (rn : Int) 0)) := hide (by rw [← hW6.out]; exact alloc_new _ _)
        have HB6 : Hid (w.heap.size ≤ W6.heap.size) := hide (Nat.le_trans HQ5.out.bw b6.size)
        obtain ⟨a0, a1⟩ := cells2 AB.out
        have e6 := hW6.out
        clear b6 hW6
        subst e6
        have hz6 : (W2.setRow (wr.heap.size + 1) #[.int .i64 (rn : Int), .int .i64 0]).heap.size = wr.heap.size + 1 + 1 := by simp [World.setRow, z2]
        rw [hz6] at HN6
        subst hvt
        have e2 := hW2.out
        clear hW2 hz b2 z2 y2 x2 f2 hq2 QF hab hz6
        subst e2
        go_wp2_with (first | (at_builtin; refine wp_append_pr ((((wr.alloc (zS3 4 s2 s3)).alloc (zP (-1) (-1))).setRow (wr.heap.size + 1) #[.int .i64 (rn : Int), .int .i64 0]).alloc (zP (rn : Int) 0)) w.heap.size rfl _ _ rfl _ D rfl HO6.out (wr.heap.size + 1 + 1) ((rn : Int), 0) rfl HN6.out HDL.out HB6.out ?_) | (refine wpList_store_row rfl 26 _ _ rfl wr.heap.size #[.int .i64 4, .int .i64 s2, .int .i64 s3] rfl rfl _ _ (alloc_new wr _) Try.sizeS3 rfl (by simp [Value.oneCell']) ?_; rw [World.setRow_alloc_new]) | (refine wpList_store_row rfl 33 _ _ rfl (wr.heap.size + 1) #[.int .i64 (-1), .int .i64 (-1)] rfl rfl _ _ (by rw [show wr.heap.size + 1 = (wr.alloc (zS3 4 s2 s3)).heap.size by simp]; exact alloc_new _ _) Try.sizePr rfl (by simp [Value.oneCell']) ?_) | (refine wpList_store_row rfl 33 _ _ rfl (wr.heap.size + 1) #[.int .i64 (rn : Int), .int .i64 0] rfl rfl _ _ X2.out Try.sizePr rfl (by simp [Value.oneCell']) ?_))
        intro v' w7 r1 r2 r3
        have HN : Hid (RlS w w7 f w.heap.size L (t + 1) (D ++ [((rn : Int), 0)]) _ _ _ v') := hide (HR.out.end_ HS.out HSR.out HSN.out HSP.out HQ5.out F5.out r1 r2 (fun g hg => (r3 g hg).elim .inl (fun q => .inr (by first | exact q | (simp; omega) | (simp [World.setRow]; omega)))))
        clear r1 r2 r3
        go_wp2_with fail
        go_roundw
        case rel => exact ⟨t + 1, _, _, _, _, by first | rfl | (rw [wt]; rfl), htn, HN⟩
        case measure => first | exact meas_lt htn | (rw [wt]; exact meas_lt htn)
      obtain ⟨W2, hW2⟩ : ∃ W, Hid (((wr.alloc (zS3 s1 s2 s3)).alloc (zP (-1) (-1))) = W) := ⟨_, hide rfl⟩
      have hz : (wr.alloc (zS3 s1 s2 s3)).heap.size = wr.heap.size + 1 := by simp
      have b2 : Below wr.heap.size wr W2 := by rw [← hW2.out]; exact ((Below.refl _ _).alloc (Nat.le_refl _) _).alloc (by simp) _
      have z2 : W2.heap.size = wr.heap.size + 2 := by rw [← hW2.out]; simp
      have y2 : W2.heap[wr.heap.size]? = some (zS3 s1 s2 s3) := by rw [← hW2.out]; exact (Below.heap_alloc _ _ _ (by simp)).trans (alloc_new wr _)
      have x2 : W2.heap[wr.heap.size + 1]? = some (zP (-1) (-1)) := by rw [← hW2.out, ← hz]; exact alloc_new _ _
      have u0 : W2.cell? ⟨wr.heap.size, 0, none⟩ = some (.int .i64 s1) := by rw [cell_of_row _ _ 0 _ _ _ y2]; rfl
      have u1 : W2.cell? ⟨wr.heap.size, 1, none⟩ = some (.int .i64 s2) := by rw [cell_of_row _ _ 1 _ _ _ y2]; rfl
      have u2 : W2.cell? ⟨wr.heap.size, 2, none⟩ = some (.int .i64 s3) := by rw [cell_of_row _ _ 2 _ _ _ y2]; rfl
      have hq2 := HR.out.rq.later b2
      have f2 : Fq wr W2 w.heap.size vt vt := Fq.of_below b2
      have NN := hide HR.out.num
      have HQ5 := hide hq2
      have F5 := hide f2
      have AB := hide x2
      have st : st1 (kB f) R N (s1, s2, s3) = ((-1, -1), R, N) := by unfold st1; simp [hk0, hk1, hk2, hk3, hk4]
      have HSR : Hid ((st1 (kB f) R N (s1, s2, s3)).2.1 = R) := hide (by rw [st])
      have HSN : Hid ((st1 (kB f) R N (s1, s2, s3)).2.2 = N) := hide (by rw [st])
      have HSP : Hid ((st1 (kB f) R N (s1, s2, s3)).1 = (-1, -1)) := hide (by rw [st])
      have a0' : (s1 == 0) = false := by simpa using hk0
      have a1' : (s1 == 1) = false := by simpa using hk1
      have a2' : (s1 == 2) = false := by simpa using hk2
      have a3' : (s1 == 3) = false := by simpa using hk3
      have a4' : (s1 == 4) = false := by simpa using hk4
      obtain ⟨W6, hW6⟩ : ∃ W, Hid (W2.alloc (zP (-1) (-1)) = W) := ⟨_, hide rfl⟩
      have b6 : Below W2.heap.size W2 W6 := by rw [← hW6.out]; exact (Below.refl _ _).alloc (Nat.le_refl _) _
      have HO6 := hide (owns_lat (HR.out.kept F5.out) b6)
      have HN6 : Hid (W6.heap[W2.heap.size]? = some (zP (-1) (-1))) := hide (by rw [← hW6.out]; exact alloc_new _ _)
      have HB6 : Hid (w.heap.size ≤ W6.heap.size) := hide (Nat.le_trans HQ5.out.bw b6.size)
      obtain ⟨a0, a1⟩ := cells2 AB.out
      have e6 := hW6.out
      clear b6 hW6
      subst e6
      rw [z2] at HN6
      have e2 := hW2.out
      clear hW2 hz b2 z2 y2 x2 f2 hq2 st
      subst e2
      go_wp2_with (first | (at_builtin; refine wp_append_pr (((wr.alloc (zS3 s1 s2 s3)).alloc (zP (-1) (-1))).alloc (zP (-1) (-1))) w.heap.size rfl _ _ rfl _ D rfl HO6.out (wr.heap.size + 2) (-1, -1) rfl HN6.out HDL.out HB6.out ?_) | (refine wpList_store_row rfl 26 _ _ rfl wr.heap.size #[.int .i64 s1, .int .i64 s2, .int .i64 s3] rfl rfl _ _ (alloc_new wr _) Try.sizeS3 rfl (by simp [Value.oneCell']) ?_; rw [World.setRow_alloc_new]) | (refine wpList_store_row rfl 33 _ _ rfl (wr.heap.size + 1) #[.int .i64 (-1), .int .i64 (-1)] rfl rfl _ _ (by rw [show wr.heap.size + 1 = (wr.alloc (zS3 s1 s2 s3)).heap.size by simp]; exact alloc_new _ _) Try.sizePr rfl (by simp [Value.oneCell']) ?_))
      intro v' w7 r1 r2 r3
      have HN : Hid (RlS w w7 f w.heap.size L (t + 1) (D ++ [(-1, -1)]) _ _ _ v') := hide (HR.out.end_ HS.out HSR.out HSN.out HSP.out HQ5.out F5.out r1 r2 (fun g hg => (r3 g hg).elim .inl (fun q => .inr (by first | exact q | (simp; omega) | (simp [World.setRow]; omega)))))
      clear r1 r2 r3
      go_wp2_with fail
      go_roundw
      case rel => exact ⟨t + 1, _, _, _, _, by first | rfl | (rw [wt]; rfl), htn, HN⟩
      case measure => first | exact meas_lt htn | (rw [wt]; exact meas_lt htn)
    · have d1 : decide ((t : Int) < (n : Int)) = false := by rw [decide_eq_false_iff_not]; omega
      have htt : t = n := by omega
      have HE : Hid (OM wr w.heap.size u6 (pl (kB f) [] 0 L) ∧ Below w.heap.size w wr) := hide ⟨by
        have h1 := HR.out.om
        have h2 := HR.out.eq
        rw [htt, List.drop_of_length_le (by rw [hn.out]; exact Nat.le_refl _)] at h2
        have h3 : pl (kB f) R N ([] : List Stp) = [] := rfl
        rw [h3, List.append_nil] at h2
        rw [h2]; exact h1, HR.out.bl⟩
      clear htt
      go_wp2_with fail
      go_ret
      exact ⟨_, rfl, HE.out.1, HE.out.2⟩
end Go.Proofs.Ytolmngjppnmkoaa
