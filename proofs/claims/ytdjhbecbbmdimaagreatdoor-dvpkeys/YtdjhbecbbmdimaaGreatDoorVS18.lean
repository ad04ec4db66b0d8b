/-
  My own text: VS17, VS18 in one.
-/
import Derived.Test.YtdjhbecbbmdimaaGreatDoorVS16
import Derived.Test.YtdjhbecbbmdimaaGreatDoorVW1
namespace Go.Proofs.YtdjhbecbbmdimaaGreatDoor
open Go.RowKit

set_option maxRecDepth 100000 in
set_option maxHeartbeats 1000000 in
theorem cloneK_any (v : Value) (L : List Ky) (w : World) (h : KY.RM w v L) (hl : L.length ≤ 8796093022000) :
    Calls Tryz.prog 20 #[v] w fun e w' => ∃ v', e = .returned v' ∧ KY.OM w' w.heap.size v' L ∧ Below w.heap.size w w' := by
  have qT : ∀ (w : World) (a : Option Addr) (n c n' c' : Nat), (binOp .eql 23 (.slice a n c) (.slice none n' c')).run Tryz.prog w = .ok (.bool a.isNone) w := fun w a n c n' c' => Lib.run_eql_slice_nil w _ _ a n c n' c' Tryz.underlying23
  obtain ⟨a, cap, hv⟩ := KY.rm_lt h
  subst hv
  cases a with
  | none =>
    have hL : L = [] := by
      obtain ⟨a, cap', hv, _, h2⟩ := h
      injection hv with e1 e2 e3
      subst e1
      exact h2.resolve_right (fun ⟨b, off, h, _⟩ => by cases h)
    subst hL
    have HR : Hid (KY.OM w w.heap.size (.slice none 0 0) []) := hide (KY.OM.nil w _)
    clear h
    go_enter Tryz.func20, Tryz.ntmps20
    go_wp2_with fail
    go_ret
    exact ⟨_, rfl, HR.out, Below.refl _ _⟩
  | some ad =>
    have b1 := (Below.refl w.heap.size w).alloc (Nat.le_refl _) (.cells #[] 39)
    have hE : KY.OM (w.alloc (.cells #[] 39)) w.heap.size (.slice (some ⟨w.heap.size, 0, none⟩) 0 0) [] := empty_own w _ _
    obtain ⟨v2, w2, hrun, hO, hg⟩ := KY.run_append_rm (w.alloc (.cells #[] 39)) w.heap.size 23 _ [] hE _ L (h.later b1) (by simp; omega) (by simp)
    rw [List.nil_append] at hO
    have HB := hide (b1.grown hg (by simp) (fun g e => (World.ownsRow.lt hE g e).1))
    have HR := hide hO
    obtain ⟨a2, c2, hv2⟩ := KY.rm_lt HR.out.rm
    subst hv2
    have HRN := hide hrun
    clear h b1 hE hrun hO hg
    go_enter Tryz.func20, Tryz.ntmps20
    go_wp2_with (at_builtin; refine Lib.wpList_append_run _ rfl _ _ _ _ rfl _ _ rfl rfl _ _ HRN.out ?_)
    go_ret
    exact ⟨_, rfl, HR.out, HB.out⟩
set_option maxRecDepth 100000 in
theorem widest_any (w : World) : Calls Tryz.prog 36 #[] w fun r w' => r = .returned (.agg #[.int .i64 65536, .int .i64 65536, .int .i64 0, .int .i64 0, .int .i64 0]) ∧ Below w.heap.size w w' := by
  have B0 := hide ((Below.refl w.heap.size w).alloc (Nat.le_refl _) (.cells #[.int .i64 65536, .int .i64 65536, .int .i64 0, .int .i64 0, .int .i64 0] 77))
  go_enter Tryz.func36, Tryz.ntmps36
  go_wp2_with fail
  exact bodyPost_ret (v := .agg #[.int .i64 65536, .int .i64 65536, .int .i64 0, .int .i64 0, .int .i64 0]) (by simp [results, Tryz.results36, go_sem]) rfl ⟨rfl, B0.out⟩
set_option maxRecDepth 100000 in
set_option maxHeartbeats 2000000 in
theorem keys_any (cd ac as_ qt nm id : Int) (lv pv : Value) (L : List LG.El) (P : List Ky) (w : World) (hL : LG.RM w lv L) (hP : KY.RM w pv P) (hl : L.length ≤ 3518437208800) (hp : P.length ≤ 8796093022000) :
    Calls Tryz.prog 6 #[.agg #[.int .i64 cd, .int .i64 ac, .int .i64 as_, .int .i64 qt, .int .i64 nm, .int .i64 id, lv, pv]] w fun r w' => ∃ v', r = .returned v' ∧ KY.OM w' w.heap.size v' (kyO cd ac as_ id L P) ∧ Below w.heap.size w w' := by
  obtain ⟨la, lc, hlv⟩ := LG.rm_lt hL
  subst hlv
  obtain ⟨pa, pc, hpv⟩ := KY.rm_lt hP
  subst hpv
  have B0 := hide ((Below.refl w.heap.size w).alloc (Nat.le_refl _) (.cells #[.int .i64 cd, .int .i64 ac, .int .i64 as_, .int .i64 qt, .int .i64 nm, .int .i64 id, .slice la L.length lc, .slice pa P.length pc] 25))
  obtain ⟨y0, y1, y2, y3, y4, y5, y6, y7⟩ := eight_cells (alloc_new w (.cells #[.int .i64 cd, .int .i64 ac, .int .i64 as_, .int .i64 qt, .int .i64 nm, .int .i64 id, .slice la L.length lc, .slice pa P.length pc] 25)) rfl
  have HPK := hide (positionKey_any cd ac as_ qt nm id la L.length lc pa P.length pc (w.alloc (.cells #[.int .i64 cd, .int .i64 ac, .int .i64 as_, .int .i64 qt, .int .i64 nm, .int .i64 id, .slice la L.length lc, .slice pa P.length pc] 25)))
  have HLK := hide (legKeys_any id _ L _ (hL.later B0.out) hl)
  have HRK := hide (recordKey_any id (w.alloc (.cells #[.int .i64 cd, .int .i64 ac, .int .i64 as_, .int .i64 qt, .int .i64 nm, .int .i64 id, .slice la L.length lc, .slice pa P.length pc] 25)))
  have HCK := hide (cloneK_any _ P _ (hP.later B0.out) hp)
  have HPL := hide hp
  clear hL hP hl hp
  by_cases g1 : cd = 1 ∨ cd = 2 ∨ cd = 3 ∨ cd = 4
  · have HO : Hid (kyO cd ac as_ id L P = [(ac, as_)]) := hide (if_pos g1)
    rcases g1 with g | g | g | g
    · subst g
      go_enter Tryz.func6, Tryz.ntmps6
      go_wp2_with fail
      refine HPK.out.mono ?_
      rintro r w1 ⟨rfl, hb1⟩
      have HB := hide ((B0.out.trans (hb1.mono B0.out.size)).alloc (Nat.le_trans B0.out.size hb1.size) (.cells #[.int .i64 ac, .int .i64 as_] 39))
      have HK := hide (om_key w w1 ac as_ (Nat.le_trans B0.out.size hb1.size))
      clear hb1 HPK y0 y1 y2 y3 y4 y5 y6 y7
      go_wp2_with fail
      go_ret
      exact ⟨_, rfl, by rw [HO.out]; exact HK.out, HB.out⟩
    · subst g
      go_enter Tryz.func6, Tryz.ntmps6
      go_wp2_with fail
      refine HPK.out.mono ?_
      rintro r w1 ⟨rfl, hb1⟩
      have HB := hide ((B0.out.trans (hb1.mono B0.out.size)).alloc (Nat.le_trans B0.out.size hb1.size) (.cells #[.int .i64 ac, .int .i64 as_] 39))
      have HK := hide (om_key w w1 ac as_ (Nat.le_trans B0.out.size hb1.size))
      clear hb1 HPK y0 y1 y2 y3 y4 y5 y6 y7
      go_wp2_with fail
      go_ret
      exact ⟨_, rfl, by rw [HO.out]; exact HK.out, HB.out⟩
    · subst g
      go_enter Tryz.func6, Tryz.ntmps6
      go_wp2_with fail
      refine HPK.out.mono ?_
      rintro r w1 ⟨rfl, hb1⟩
      have HB := hide ((B0.out.trans (hb1.mono B0.out.size)).alloc (Nat.le_trans B0.out.size hb1.size) (.cells #[.int .i64 ac, .int .i64 as_] 39))
      have HK := hide (om_key w w1 ac as_ (Nat.le_trans B0.out.size hb1.size))
      clear hb1 HPK y0 y1 y2 y3 y4 y5 y6 y7
      go_wp2_with fail
      go_ret
      exact ⟨_, rfl, by rw [HO.out]; exact HK.out, HB.out⟩
    · subst g
      go_enter Tryz.func6, Tryz.ntmps6
      go_wp2_with fail
      refine HPK.out.mono ?_
      rintro r w1 ⟨rfl, hb1⟩
      have HB := hide ((B0.out.trans (hb1.mono B0.out.size)).alloc (Nat.le_trans B0.out.size hb1.size) (.cells #[.int .i64 ac, .int .i64 as_] 39))
      have HK := hide (om_key w w1 ac as_ (Nat.le_trans B0.out.size hb1.size))
      clear hb1 HPK y0 y1 y2 y3 y4 y5 y6 y7
      go_wp2_with fail
      go_ret
      exact ⟨_, rfl, by rw [HO.out]; exact HK.out, HB.out⟩
  · have q1 : ¬ cd = 1 := fun h => g1 (.inl h)
    have q2 : ¬ cd = 2 := fun h => g1 (.inr (.inl h))
    have q3 : ¬ cd = 3 := fun h => g1 (.inr (.inr (.inl h)))
    have q4 : ¬ cd = 4 := fun h => g1 (.inr (.inr (.inr h)))
    by_cases g5 : cd = 5
    · have HO : Hid (kyO cd ac as_ id L P = lkK id L) := hide ((if_neg g1).trans (if_pos g5))
      subst g5
      clear g1 q1 q2 q3 q4
      go_enter Tryz.func6, Tryz.ntmps6
      go_wp2_with fail
      refine HLK.out.mono ?_
      rintro r w1 ⟨v', rfl, hO, hb1⟩
      have HB := hide (B0.out.trans (hb1.mono B0.out.size))
      have HK := hide (hO.base (D := w.heap.size) (fun g hg => Nat.le_trans B0.out.size (World.ownsRow.lt hO g hg).1))
      obtain ⟨va, vc, hv⟩ := KY.OM.slice hO
      subst hv
      clear hb1 hO HLK y0 y1 y2 y3 y4 y5 y6 y7
      go_wp2_with fail
      go_ret
      exact ⟨_, rfl, by rw [HO.out]; exact HK.out, HB.out⟩
    · by_cases g6 : cd = 6 ∨ cd = 7
      · have HO : Hid (kyO cd ac as_ id L P = [(-1, id)]) := hide ((if_neg g1).trans ((if_neg g5).trans (if_pos g6)))
        clear g1
        rcases g6 with g | g
        · subst g
          clear q1 q2 q3 q4 g5
          go_enter Tryz.func6, Tryz.ntmps6
          go_wp2_with fail
          refine HRK.out.mono ?_
          rintro r w1 ⟨rfl, hb1⟩
          have HB := hide ((B0.out.trans (hb1.mono B0.out.size)).alloc (Nat.le_trans B0.out.size hb1.size) (.cells #[.int .i64 (-1), .int .i64 id] 39))
          have HK := hide (om_key w w1 (-1) id (Nat.le_trans B0.out.size hb1.size))
          clear hb1 HRK y0 y1 y2 y3 y4 y5 y6 y7
          go_wp2_with fail
          go_ret
          exact ⟨_, rfl, by rw [HO.out]; exact HK.out, HB.out⟩
        · subst g
          clear q1 q2 q3 q4 g5
          go_enter Tryz.func6, Tryz.ntmps6
          go_wp2_with fail
          refine HRK.out.mono ?_
          rintro r w1 ⟨rfl, hb1⟩
          have HB := hide ((B0.out.trans (hb1.mono B0.out.size)).alloc (Nat.le_trans B0.out.size hb1.size) (.cells #[.int .i64 (-1), .int .i64 id] 39))
          have HK := hide (om_key w w1 (-1) id (Nat.le_trans B0.out.size hb1.size))
          clear hb1 HRK y0 y1 y2 y3 y4 y5 y6 y7
          go_wp2_with fail
          go_ret
          exact ⟨_, rfl, by rw [HO.out]; exact HK.out, HB.out⟩
      · have q6 : ¬ cd = 6 := fun h => g6 (.inl h)
        have q7 : ¬ cd = 7 := fun h => g6 (.inr h)
        by_cases g8 : cd = 8
        · have HO : Hid (kyO cd ac as_ id L P = ks P) := hide ((if_neg g1).trans ((if_neg g5).trans ((if_neg g6).trans (if_pos g8))))
          subst g8
          clear g1 q1 q2 q3 q4 g5 g6 q6 q7
          go_enter Tryz.func6, Tryz.ntmps6
          go_wp2_with fail
          refine HCK.out.mono ?_
          rintro r w1 ⟨v1, rfl, hO1, hb1⟩
          have B1 := B0.out.trans (hb1.mono B0.out.size)
          have hO2 := hO1.base (D := w.heap.size) (fun g hg => Nat.le_trans B0.out.size (World.ownsRow.lt hO1 g hg).1)
          have HB1 := hide B1
          have HO1 := hide hO2
          have HRS := hide (rising_any v1 w.heap.size P w1 hO2 (by have := HPL.out; omega))
          obtain ⟨va, vc, hv⟩ := KY.OM.slice hO1
          subst hv
          clear hb1 hO1 hO2 B1 HCK y0 y1 y2 y3 y4 y5 y6 y7
          go_wp2_with fail
          refine HRS.out.mono ?_
          rintro r w2 ⟨v', rfl, hO, hg⟩
          have HB := hide (HB1.out.grown hg HB1.out.size (fun b hb => (World.ownsRow.lt HO1.out b hb).1))
          have HK := hide hO
          obtain ⟨va, vc, hv⟩ := KY.OM.slice hO
          subst hv
          clear hg hO HRS
          go_wp2_with fail
          go_ret
          exact ⟨_, rfl, by rw [HO.out]; exact HK.out, HB.out⟩
        · have HO : Hid (kyO cd ac as_ id L P = []) := hide ((if_neg g1).trans ((if_neg g5).trans ((if_neg g6).trans (if_neg g8))))
          clear g1 g6
          go_enter Tryz.func6, Tryz.ntmps6
          go_wp2_with fail
          go_ret
          exact ⟨_, rfl, by rw [HO.out]; exact KY.OM.nil _ _, B0.out⟩
end Go.Proofs.YtdjhbecbbmdimaaGreatDoor
namespace Go.Proofs.YtdjhbecbbmdimaaGreatDoor
open Go.RowKit

theorem RP.mem {P Q : Ky → Pos} {K : List Ky} (h : RP P K) (hq : ∀ k ∈ K, Q k = P k) : RP Q K := fun k hk => by rw [hq k hk]; exact h k hk
theorem psX_upd {S : Ky → CX} {k : Ky} {c : CX} {K : List Ky} (h : RP (psX S) K) (hc : BL.Rt c.av c.ml) : RP (psX (updX S k c)) K := fun x hx => by
  unfold psX updX
  by_cases e : x = k
  · rw [if_pos e]; exact hc
  · rw [if_neg e]; exact h x hx
theorem psX_posX (S : Ky → CX) (P : Ky → Pos) : psX (posX S P) = P := rfl
theorem tuO_ok {cd qt nm av a : Int} {ml M : List BL.Mk} (h1 : av ≤ BL.top) (h : tuO cd qt nm av ml = .ok a M) : BL.Rt a M := by
  unfold tuO at h
  split at h
  · exact (BL.credit_ok h1 (toO_ok h)).2.2.1
  · split at h
    · exact (BL.debit_ok h1 (toO_ok h)).2.2.1
    · split at h
      · exact (BL.mark_ok h1 (toO_ok h)).2.2.1
      · exact (BL.unmark_ok h1 (toO_ok h)).2.2.1
/-- What is done leaves right positions; what refuses it tells a number. -/
theorem doO_rt {S S' : Ky → CX} {K : List Ky} {cd ac as_ qt nm id st : Int} {L : List LG.El} {room : Bool} (hR : RP (psX S) K) (hkr : cd = 5 ∨ cd = 6 ∨ cd = 7 → rK id ∈ K) (hL : cd = 5 → ∀ l ∈ L, srcK l ∈ K ∧ tgtK l ∈ K) (hkp : ¬ (cd = 5 ∨ cd = 6 ∨ cd = 7) → (ac, as_) ∈ K) (h : doO S cd ac as_ qt nm id L room = .ok st S') : RP (psX S') K := by
  unfold doO at h
  by_cases g5 : cd = 5
  · rw [if_pos g5] at h
    unfold sbO at h
    split at h
    · have hm := mvs_er hR (hL g5)
      cases hc : mvs (psX S) L with
      | ok P =>
        rw [hc] at h
        injection h with h1 h2
        subst h2
        have hp := hm.1 P hc
        exact psX_upd (S := posX S P) hp (hp _ (hkr (.inl g5)))
      | no t x =>
        rw [hc] at h
        simp only at h
        split at h
        · cases h
        · split at h
          · injection h with h1 h2
            subst h2
            exact psX_upd hR (hR _ (hkr (.inl g5)))
          · cases h
    · cases h
  · rw [if_neg g5] at h
    by_cases g6 : cd = 6
    · rw [if_pos g6] at h
      unfold cnO at h
      split at h
      · cases h
      · split at h
        · injection h with h1 h2
          subst h2
          exact psX_upd hR (hR _ (hkr (.inr (.inl g6))))
        · cases h
    · rw [if_neg g6] at h
      by_cases g7 : cd = 7
      · rw [if_pos g7] at h
        unfold stO at h
        split at h
        · cases h
        · injection h with h1 h2
          subst h2
          exact hR
      · rw [if_neg g7] at h
        have hk := hkp (fun k => k.elim g5 (fun k => k.elim g6 g7))
        have hr := hR _ hk
        cases hc : tuO cd qt nm (S (ac, as_)).av (S (ac, as_)).ml with
        | ok a M =>
          rw [hc] at h
          injection h with h1 h2
          subst h2
          exact psX_upd hR (tuO_ok (BL.Rt.top hr) hc)
        | no t x => rw [hc] at h; cases h
/-- A number, alone or wrapped. -/
def NoX (t : TypeId) (x : Value) : Prop := NoE t x ∨ NoR t x
theorem dno_er {k : Int} {t : TypeId} {x : Value} (h : dno k = .no t x) (h1 : 1 ≤ k) (h2 : k ≤ 24) : NoX t x := by
  injection h with a b
  exact .inl ⟨a.symm, k, h1, h2, b.symm⟩
theorem doO_er {S : Ky → CX} {K : List Ky} {cd ac as_ qt nm id : Int} {L : List LG.El} {room : Bool} {t : TypeId} {x : Value} (hR : RP (psX S) K) (hL : cd = 5 → ∀ l ∈ L, srcK l ∈ K ∧ tgtK l ∈ K) (hkp : ¬ (cd = 5 ∨ cd = 6 ∨ cd = 7) → (ac, as_) ∈ K) (h : doO S cd ac as_ qt nm id L room = .no t x) : NoX t x := by
  unfold doO at h
  by_cases g5 : cd = 5
  · rw [if_pos g5] at h
    unfold sbO at h
    split at h
    · have hm := mvs_er hR (hL g5)
      cases hc : mvs (psX S) L with
      | ok P => rw [hc] at h; cases h
      | no u y =>
        rw [hc] at h
        simp only at h
        split at h
        · injection h with h1 h2
          subst h1 h2
          exact .inr (hm.2 u y hc)
        · split at h
          · cases h
          · exact dno_er h (by decide) (by decide)
    · exact dno_er h (by decide) (by decide)
  · rw [if_neg g5] at h
    by_cases g6 : cd = 6
    · rw [if_pos g6] at h
      unfold cnO at h
      split at h
      · exact dno_er h (by decide) (by decide)
      · split at h
        · cases h
        · exact dno_er h (by decide) (by decide)
    · rw [if_neg g6] at h
      by_cases g7 : cd = 7
      · rw [if_pos g7] at h
        unfold stO at h
        split at h
        · exact dno_er h (by decide) (by decide)
        · cases h
      · rw [if_neg g7] at h
        have hk := hkp (fun k => k.elim g5 (fun k => k.elim g6 g7))
        cases hc : tuO cd qt nm (S (ac, as_)).av (S (ac, as_)).ml with
        | ok a M => rw [hc] at h; cases h
        | no u y =>
          rw [hc] at h
          injection h with h1 h2
          subst h1 h2
          exact .inr (tuO_er (hR _ hk) hc)
theorem RD.sx {X : Type} {I : VI X} {x : X} {K : List Ky} {D : List En} {F : Nat → Prop} {N : Nat} (h : RD I x K D F N) : SX D (I.bk x) := fun e he => (h.is e he).2
theorem RD.rt {X : Type} {I : VI X} {x : X} {K : List Ky} {D : List En} {F : Nat → Prop} {N : Nat} (h : RD I x K D F N) (hr : RP (psX (I.bk x)) K) : RtE D := fun e he => by
  have hk : e.k ∈ K := by rw [← h.keys]; exact List.mem_map_of_mem he
  have h1 := hr _ hk
  unfold psX at h1
  rw [← (h.is e he).2] at h1
  exact h1
/-- The legs of a record that is laid are those of before, or the operation's. -/
theorem doO_ll {S : Ky → CX} {cd ac as_ qt nm id : Int} {L : List LG.El} {room : Bool} {st : Int} {S' : Ky → CX} (h : doO S cd ac as_ qt nm id L room = .ok st S') (k : Ky) : (S' k).ll = (S k).ll ∨ (S' k).ll = L := by
  have hu : ∀ (T : Ky → CX) (q : Ky) (c : CX), ((T k).ll = (S k).ll ∨ (T k).ll = L) → (c.ll = (S q).ll ∨ c.ll = L) → (updX T q c k).ll = (S k).ll ∨ (updX T q c k).ll = L := fun T q c h1 h2 => by
    unfold updX
    by_cases e : k = q
    · rw [if_pos e, e]; exact h2
    · rw [if_neg e]; exact h1
  unfold doO at h
  split at h
  · unfold sbO at h
    split at h
    · split at h
      · injection h with h1 h2
        rw [← h2]
        exact hu _ _ _ (.inl rfl) (.inr rfl)
      · split at h
        · cases h
        · split at h
          · injection h with h1 h2
            rw [← h2]
            exact hu _ _ _ (.inl rfl) (.inr rfl)
          · cases h
    · cases h
  · split at h
    · unfold cnO at h
      split at h
      · cases h
      · split at h
        · injection h with h1 h2
          rw [← h2]
          exact hu _ _ _ (.inl rfl) (.inl rfl)
        · cases h
    · split at h
      · unfold stO at h
        split at h
        · cases h
        · injection h with h1 h2
          rw [← h2]
          exact .inl rfl
      · split at h
        · injection h with h1 h2
          rw [← h2]
          exact hu _ _ _ (.inl rfl) (.inl rfl)
        · cases h
/-- The keys of what is done are rising and hold all that is asked. -/
theorem ky_inc (cd ac as_ id : Int) (L : List LG.El) (P : List Ky) : Inc (kyO cd ac as_ id L P) := by
  unfold kyO
  split
  · exact inc_one _
  · split
    · exact ks_inc _
    · split
      · exact inc_one _
      · split
        · exact ks_inc _
        · exact inc_nil
theorem ky_rec {cd ac as_ id : Int} {L : List LG.El} {P : List Ky} (h : cd = 5 ∨ cd = 6 ∨ cd = 7) : rK id ∈ kyO cd ac as_ id L P := by
  unfold kyO
  rw [if_neg (by omega)]
  rcases h with h | h | h
  · rw [if_pos h]
    exact (ks_mem _ _).2 List.mem_cons_self
  · rw [if_neg (by omega), if_pos (.inl h)]; exact List.mem_singleton.2 rfl
  · rw [if_neg (by omega), if_pos (.inr h)]; exact List.mem_singleton.2 rfl
theorem ky_leg {cd ac as_ id : Int} {L : List LG.El} {P : List Ky} (h : cd = 5) {l : LG.El} (hl : l ∈ L) : srcK l ∈ kyO cd ac as_ id L P ∧ tgtK l ∈ kyO cd ac as_ id L P := by
  unfold kyO
  rw [if_neg (by omega), if_pos h]
  have h1 : srcK l ∈ lgK L ∧ tgtK l ∈ lgK L := by
    unfold lgK
    exact ⟨List.mem_flatMap.2 ⟨l, hl, List.mem_cons_self⟩, List.mem_flatMap.2 ⟨l, hl, List.mem_cons_of_mem _ List.mem_cons_self⟩⟩
  exact ⟨(ks_mem _ _).2 (List.mem_cons_of_mem _ h1.1), (ks_mem _ _).2 (List.mem_cons_of_mem _ h1.2)⟩
theorem ky_pos {cd ac as_ id : Int} {L : List LG.El} {P : List Ky} (h : cd = 1 ∨ cd = 2 ∨ cd = 3 ∨ cd = 4) : (ac, as_) ∈ kyO cd ac as_ id L P := by
  unfold kyO
  rw [if_pos h]
  exact List.mem_singleton.2 rfl
theorem ky_len {cd ac as_ id : Int} {L : List LG.El} {P : List Ky} (h : 1 ≤ cd) (h8 : cd < 8) (hl : L.length ≤ 400000) : 0 < (kyO cd ac as_ id L P).length ∧ (kyO cd ac as_ id L P).length ≤ 1000000 := by
  refine ⟨?_, ?_⟩
  · by_cases g : cd = 1 ∨ cd = 2 ∨ cd = 3 ∨ cd = 4
    · exact List.length_pos_of_mem (ky_pos g)
    · exact List.length_pos_of_mem (ky_rec (cd := cd) (ac := ac) (as_ := as_) (id := id) (L := L) (P := P) (by omega))
  · unfold kyO
    split
    · show 1 ≤ 1000000; decide
    · split
      · have := ks_len ((-1, id) :: lgK L)
        unfold lkK
        rw [List.length_cons, lgK_len] at this
        omega
      · split
        · show 1 ≤ 1000000; decide
        · rw [if_neg (by omega)]; show 0 ≤ 1000000; decide
/-- No list of a done sheet lies in F. -/
theorem nf_done {F : Nat → Prop} {N : Nat} {E E' : List En} (h : ∀ e ∈ E, NFe F e) (hk : KW E E') (hn : NB N E E') (hF : ∀ b, F b → b < N) : ∀ e ∈ E', NFe F e := fun e he b hb hf => by
  obtain ⟨j, hj⟩ := List.mem_iff_getElem?.1 he
  have hl : j < E.length := by have := (List.getElem?_eq_some_iff.1 hj).1; rw [hk.1] at this; exact this
  have ha : E[j]? = some E[j] := List.getElem?_eq_getElem hl
  have hw := (hk.2 j _ e ha hj).2
  have hm := List.mem_of_getElem? ha
  have hnow : ∀ b, e.now.mv.ownBlock = some b ∨ e.now.lv.ownBlock = some b → ¬ F b := fun b hb hf => by
    rcases hn e he b hb with ⟨a, hA, hab⟩ | h2
    · exact h a hA b (hab.elim (fun k => .inr (.inr (.inl k))) (fun k => .inr (.inr (.inr k)))) hf
    · have := hF b hf; omega
  rcases hb with k | k | k | k
  · exact h _ hm b (.inl (by rw [← hw]; exact k)) hf
  · exact h _ hm b (.inr (.inl (by rw [← hw]; exact k))) hf
  · exact hnow b (.inl k) hf
  · exact hnow b (.inr k) hf
end Go.Proofs.YtdjhbecbbmdimaaGreatDoor
