/-
  My own text: the law CustodyParts.
-/
import Derived.Test.YtmojckejjjlkjabYD
import Derived.Test.YtmojckejjjlkjabYArg
import Derived.Test.YtmojckejjjlkjabUPick
namespace Go.Proofs.Ytmojckejjjlkjab
open Go.RowKit

/-- A number from 0 to n - 1. -/
def wi (k n : Int) : Int := if k < 0 then (-(k + 1)) % n else k % n
theorem wi_bnd {k n : Int} (h : 0 < n) : 0 ≤ wi k n ∧ wi k n < n := by
  unfold wi
  split
  · exact ⟨Int.emod_nonneg _ (by omega), Int.emod_lt_of_pos _ h⟩
  · exact ⟨Int.emod_nonneg _ (by omega), Int.emod_lt_of_pos _ h⟩
set_option maxHeartbeats 1000000 in
theorem within_any (k n : Int) (w : World) (hk : I6 k) (h0 : 0 < n) (h1 : n ≤ 9223372036854775807) :
    Calls Try.prog 11 #[.int .i64 k, .int .i64 n] w fun e w' => e = .returned (.int .i64 (wi k n)) ∧ w' = w := by
  have hz : (n == 0) = false := by simp; omega
  have hn : ¬ n = 0 := by omega
  by_cases hneg : k < 0
  · have d1 : decide (k < 0) = true := decide_eq_true hneg
    have w1 : wrap64 (k + 1) = k + 1 := by have := hk.1; unfold wrap64; omega
    obtain ⟨u, hu⟩ : ∃ u, k + 1 = u := ⟨_, rfl⟩
    have w2 : wrap64 (-u) = -u := by have := hk.1; unfold wrap64; omega
    have e1 : (-u).tmod n = wi k n := by rw [Int.tmod_eq_emod_of_nonneg (by omega)]; unfold wi; rw [if_pos hneg, hu]
    have w3 : wrap64 (k + 1) = u := by rw [w1, hu]
    clear w1 hu hk h0 h1 hneg
    go_enter Try.func11, Try.ntmps11
    go_wp2_with fail
    go_ret
    exact ⟨rfl, rfl⟩
  · have d1 : decide (k < 0) = false := decide_eq_false hneg
    have e1 : k.tmod n = wi k n := by rw [Int.tmod_eq_emod_of_nonneg (by omega)]; unfold wi; rw [if_neg hneg]
    clear hk h0 h1 hneg
    go_enter Try.func11, Try.ntmps11
    go_wp2_with fail
    go_ret
    exact ⟨rfl, rfl⟩
theorem ifNeqNil (W : World) : (binOp .neq 24 .nilIface .nilIface).run Try.prog W = .ok (.bool false) W := by kernel_rfl
theorem wi_nums {a b c d : Int} : 0 < 1 + wi a 1099511627776 ∧ 1 + wi a 1099511627776 ≤ 1099511627776 ∧ 0 ≤ wi b 1125899906842624 ∧ wi b 1125899906842624 < 1125899906842624 ∧
    0 < 1 + wi c (1 + wi a 1099511627776) ∧ 1 + wi c (1 + wi a 1099511627776) ≤ 1099511627776 ∧ 0 ≤ wi d (1 + wi a 1099511627776 + 1) ∧ wi d (1 + wi a 1099511627776 + 1) ≤ 1099511627776 := by
  have h1 := wi_bnd (k := a) (n := 1099511627776) (by decide)
  have h2 := wi_bnd (k := b) (n := 1125899906842624) (by decide)
  have h3 := wi_bnd (k := c) (n := 1 + wi a 1099511627776) (by omega)
  have h4 := wi_bnd (k := d) (n := 1 + wi a 1099511627776 + 1) (by omega)
  omega
/-- What has been paid. -/
def Od.pd (o : Od) : Int := sh o.A o.D o.Q
theorem D_tk (o : Od) (h c : Int) : (o.tk h c).D = o.D + o.q h c := by
  by_cases e : o.q h c = 0
  · rw [Od.tk_zero e, e]; omega
  · rw [Od.tk_pos e]
theorem same_tk (o : Od) (h c : Int) : (o.tk h c).Q = o.Q ∧ (o.tk h c).A = o.A ∧ (o.tk h c).L = o.L ∧ (o.tk h c).K = o.K := by
  by_cases e : o.q h c = 0
  · rw [Od.tk_zero e]; exact ⟨rfl, rfl, rfl, rfl⟩
  · rw [Od.tk_pos e]; exact ⟨rfl, rfl, rfl, rfl⟩
theorem pd_tk (o : Od) (h c : Int) : (o.tk h c).pd = o.pd + o.m h c := by
  have e := D_tk o h c
  obtain ⟨e1, e2, _, _⟩ := same_tk o h c
  unfold Od.pd Od.m mon
  rw [e, e1, e2]; omega
theorem nn_tk {o : Od} (ok : o.Ok) {h c : Int} (h0 : 0 ≤ h) (c0 : 0 ≤ c) : o.q h c ≤ h ∧ o.m h c ≤ c := by
  have F := q_facts ok h c
  by_cases e : o.q h c = 0
  · rw [F.2.2.2.2.2.1 e, e]; exact ⟨h0, c0⟩
  · exact F.2.2.2.2.1 (by omega)
/-- With enough of both all that is left is taken. -/
theorem all_tk {o : Od} (ok : o.Ok) {h c : Int} (h0 : o.Q ≤ h) (c0 : o.A ≤ c) : o.q h c = o.Q - o.D := by
  have b := sh_bnd ok.A0 ok.D0 ok.DQ ok.Q0
  have Q0 := ok.Q0
  have A0 := ok.A0
  have D0 := ok.D0
  have DQ := ok.DQ
  have hp : pay o.Q o.A o.D c = o.Q - o.D := by unfold pay; rw [if_pos (by omega)]
  unfold Od.q tkQ gr
  rw [if_neg (by omega), hp, if_pos (by omega)]
theorem meas_up {n k : Nat} (h : k < n) : n - (intOf (Value.int .i64 ((k : Int) + 1))).toNat < n - (intOf (Value.int .i64 (k : Int))).toNat := by simp [intOf]; omega
theorem w_dif {l a b t p u v Q : Int} (hu : l - a = u) (hv : l - b = v) (hst : b = a + p) (_ha : 0 ≤ a) (hb0 : 0 ≤ b) (hb : b ≤ t) (hQ : l = t) (_hQ0 : l = Q) (hQ1 : Q ≤ 9223372036854775807) : wrap64 (u - p) = v := by
  unfold wrap64; omega
theorem pick_len (k : Nat) (w : World) (h : k ≤ 100) : Calls Try.prog 14 #[.int .i64 (k : Int), .int .i64 1073741824] w fun e w' => e = .returned (.int .i64 (k : Int)) ∧ w' = w := by
  have e1 : ((k : Int)).tmod 1073741824 = (k : Int) := by rw [Int.tmod_eq_emod_of_nonneg (by omega)]; exact Int.emod_eq_of_lt (by omega) (by omega)
  have d1 : decide ((k : Int) < 0) = false := decide_eq_false (by omega)
  clear h
  go_enter Try.func14, Try.ntmps14
  go_wp2_with fail
  go_ret
  exact ⟨rfl, rfl⟩
theorem pos_ne {q : Int} (h : 0 ≤ q) (n : ¬ q = 0) : 0 < q := by omega
theorem q_up {Q Q1 : Int} (h0 : 0 < Q) (h : Q ≤ 1099511627776) (e : Q + 1 = Q1) : 0 < Q1 ∧ Q1 ≤ 9223372036854775807 := by omega
theorem m_up {M M1 : Int} (h0 : 0 ≤ M) (h : M < 1125899906842624) (e : M + 1 = M1) : 0 < M1 ∧ M1 ≤ 9223372036854775807 ∧ wrap64 (M + 1) = M1 := by refine ⟨by omega, by omega, ?_⟩; unfold wrap64; omega
theorem wk_small {k : Nat} (h : k < 40) : wrap64 ((k : Int) + 1) = (k : Int) + 1 := by unfold wrap64; omega
theorem tail_num {o : Od} (ok : o.Ok) {Q M L hh c : Int} (oQ : o.Q = Q) (oA : o.A = M) (oL : o.L = L) (h0 : 0 ≤ hh) (c0 : 0 ≤ c) :
    wrap64 (o.D + o.q hh c) = (o.tk hh c).D ∧ wrap64 (o.pd + o.m hh c) = (o.tk hh c).pd ∧ wrap64 (Q - (o.tk hh c).D) = (o.tk hh c).lq ∧ wrap64 (M - (o.tk hh c).pd) = (o.tk hh c).lm ∧
    0 ≤ o.q hh c ∧ 0 ≤ o.m hh c ∧ o.q hh c ≤ hh ∧ o.m hh c ≤ c ∧ (0 < o.q hh c → ¬ o.q hh c % L = 0 → (o.tk hh c).D = Q) ∧ 0 < L := by
  subst oQ oA oL
  obtain ⟨F1, F2, F3, F4, F5, F6, F7⟩ := q_facts ok hh c
  obtain ⟨nn1, nn2⟩ := nn_tk ok h0 c0
  have eD := D_tk o hh c
  have eP := pd_tk o hh c
  have ok2 := Od.tk_ok ok hh c
  obtain ⟨s1', s2', _, _⟩ := same_tk o hh c
  have b2 := sh_bnd ok2.A0 ok2.D0 ok2.DQ ok2.Q0
  have b1 := sh_bnd ok.A0 ok.D0 ok.DQ ok.Q0
  have e1 : (o.tk hh c).lq = (o.tk hh c).Q - (o.tk hh c).D := rfl
  have e2 : (o.tk hh c).lm = (o.tk hh c).A - (o.tk hh c).pd := rfl
  have e3 : sh (o.tk hh c).A (o.tk hh c).D (o.tk hh c).Q = (o.tk hh c).pd := rfl
  have e4 : sh o.A o.D o.Q = o.pd := rfl
  rw [e3] at b2
  rw [e4] at b1
  have q1 := ok.Q1
  have a1 := ok.A1
  have d0 := ok2.D0
  have dq := ok2.DQ
  have l0 := ok.L0
  have c1 := ok.D0
  have c2 := ok.DQ
  rw [s1'] at e1 dq
  rw [s2'] at e2 b2
  have hlast : 0 < o.q hh c → ¬ o.q hh c % o.L = 0 → (o.tk hh c).D = o.Q := fun x1 x2 => by
    by_cases x : o.q hh c = o.Q - o.D
    · rw [eD, x]; omega
    · exact absurd (F7 x1 x).1 x2
  clear F7 F6 F5 ok ok2
  refine ⟨?_, ?_, ?_, ?_, F1, F3, nn1, nn2, hlast, l0⟩
  · rw [← eD]; clear hlast; unfold wrap64; omega
  · rw [← eP]; clear hlast; unfold wrap64; omega
  · rw [e1]; clear hlast; unfold wrap64; omega
  · rw [e2]; clear hlast; unfold wrap64; omega
theorem hh_le {hh Q1 Q : Int} (h : hh < Q1) (e : Q + 1 = Q1) (q : Q ≤ 1099511627776) : hh ≤ 9223372036854775807 := by omega
theorem below_of {w W W' : World} {g : Nat} {pv : Value} (hf : FS (OF g pv) W W') (hb : Below w.heap.size w W) (hg : w.heap.size ≤ g) (hp : ∀ x, pv.ownBlock = some x → w.heap.size ≤ x) : Below w.heap.size w W' :=
  ⟨hf.os.trans hb.os, hf.tape.trans hb.tape, hf.output.trans hb.output, Nat.le_trans hb.size hf.size, fun y hy => (hf.block y (Nat.lt_of_lt_of_le hy hb.size) (fun q => by
    rcases q with q | q
    · omega
    · have := hp y q; omega)).trans (hb.block y hy)⟩
set_option maxRecDepth 100000 in
set_option maxHeartbeats 8000000 in
theorem parts_law (a b c d : Int) (hv cv : Value) (H C : List Int) (w : World) (ha : I6 a) (hb : I6 b) (hc : I6 c) (hd : I6 d) (hH : LN.RM w hv H) (hC : LN.RM w cv C) (hHk : ∀ p ∈ H, I6 p) (hCk : ∀ p ∈ C, I6 p) (hHl : H.length ≤ 17592186044000) (hCl : C.length ≤ 17592186044000) :
    Calls Try.prog 5 #[.int .i64 a, .int .i64 b, .int .i64 c, .int .i64 d, hv, cv] w fun e w' => e = .returned (.bool true) ∧ Below w.heap.size w w' := by
  obtain ⟨gh, ah, ch, rfl, _, hH⟩ := hH
  obtain ⟨gc, ac, cc, rfl, _, hC⟩ := hC
  have HH := hide hH
  have HC := hide hC
  have HHK := hide hHk
  have HCK := hide hCk
  have HLL := hide (And.intro hHl hCl)
  obtain ⟨n1, n2, n3, n4, n5, n6, n7, n8⟩ := wi_nums (a := a) (b := b) (c := c) (d := d)
  have I1 := hide (fun W => within_any a 1099511627776 W ha (by decide) (by decide))
  have I2 := hide (fun W => within_any b 1125899906842624 W hb (by decide) (by decide))
  have I3 := hide (fun W => within_any c (1 + wi a 1099511627776) W hc n1 (by omega))
  have I4 := hide (fun W => within_any d (1 + wi a 1099511627776 + 1) W hd (by omega) (by omega))
  obtain ⟨q0, hq0⟩ : ∃ x, wi a 1099511627776 = x := ⟨_, rfl⟩
  rw [hq0] at n1 n2 n5 n6 n7 n8 I1 I3 I4
  obtain ⟨Q, hQ⟩ : ∃ x, 1 + q0 = x := ⟨_, rfl⟩
  rw [hQ] at n1 n2 n5 n6 n7 n8 I3 I4
  obtain ⟨Q1, hQ1⟩ : ∃ x, Q + 1 = x := ⟨_, rfl⟩
  rw [hQ1] at n7 n8 I4
  obtain ⟨M, hM⟩ : ∃ x, wi b 1125899906842624 = x := ⟨_, rfl⟩
  rw [hM] at n3 n4 I2
  obtain ⟨l0, hl0⟩ : ∃ x, wi c Q = x := ⟨_, rfl⟩
  rw [hl0] at n5 n6 I3
  obtain ⟨L, hL⟩ : ∃ x, 1 + l0 = x := ⟨_, rfl⟩
  rw [hL] at n5 n6
  obtain ⟨T, hT⟩ : ∃ x, wi d Q1 = x := ⟨_, rfl⟩
  rw [hT] at n7 n8 I4
  have wr1 : wrap64 (1 + q0) = Q := by unfold wrap64; omega
  have wr2 : wrap64 (Q + 1) = Q1 := by unfold wrap64; omega
  have wr3 : wrap64 (1 + l0) = L := by unfold wrap64; omega
  have hbad : ¬ badO Q M L T := by unfold badO; omega
  have HN := hide (fun W => new_ok Q M L T W hbad)
  have HOK := hide (Od.fresh_ok hbad (by omega) (by omega) (by omega) (by omega))
  have HNN := hide (And.intro n1 (And.intro n2 (And.intro n3 (And.intro n4 hQ1))))
  have ne := ifNeqNil
  clear hH hC hHk hCk hHl hCl n1 n2 n3 n4 n5 n6 n7 n8 ha hb hc hd hq0 hQ hQ1 hM hl0 hL hT hbad
  go_enter Try.func5, Try.ntmps5
  go_wp2_with fail
  refine (I1.out w).mono ?_
  rintro e w1 ⟨rfl, h1⟩
  subst h1
  clear I1
  go_wp2_with fail
  refine (I2.out _).mono ?_
  rintro e w2 ⟨rfl, h1⟩
  subst h1
  clear I2
  go_wp2_with fail
  refine (I3.out _).mono ?_
  rintro e w3 ⟨rfl, h1⟩
  subst h1
  clear I3
  go_wp2_with fail
  refine (I4.out _).mono ?_
  rintro e w4 ⟨rfl, h1⟩
  subst h1
  clear I4
  go_wp2_with fail
  refine (HN.out _).mono ?_
  rintro e w5 ⟨g, rfl, hg, ho, hb5⟩
  rw [errV_zero]
  have HG := hide hg
  have HO5 := hide ho
  have HB5 := hide hb5
  clear hg ho hb5 HN
  go_wp2_with fail
  have HO0 : Hid ((Od.mk Q M L T 0 []).Ok ∧ (Od.mk Q M L T 0 []).In ∧ (Od.mk Q M L T 0 []).P.length ≤ 0 ∧ (Od.mk Q M L T 0 []).Q = Q ∧ (Od.mk Q M L T 0 []).A = M ∧ (Od.mk Q M L T 0 []).L = L ∧ (Od.mk Q M L T 0 []).K = T) := hide ⟨HOK.out, Od.In.new Q M L T, Nat.le_refl _, rfl, rfl, rfl, rfl⟩
  have ep : (Od.mk Q M L T 0 []).pd = 0 := by show sh M 0 Q = 0; rw [sh_zero]
  go_loopw [19, 20, 21] (fun gv yv iv wr => ∃ (k : Nat) (o : Od) (pv : Value), (k ≤ H.length ∧ k ≤ 40) ∧ iv = .int .i64 (k : Int) ∧ gv = .int .i64 o.D ∧ yv = .int .i64 o.pd ∧ Hid (OB wr g o pv) ∧ Hid (Below w4.heap.size w4 wr) ∧ Hid (∀ x, pv.ownBlock = some x → w4.heap.size ≤ x) ∧ Hid (o.Ok ∧ o.In ∧ o.P.length ≤ k ∧ o.Q = Q ∧ o.A = M ∧ o.L = L ∧ o.K = T)) (fun _ _ iv _ => 40 - (intOf iv).toNat)
  case atStart => exact ⟨0, ⟨Q, M, L, T, 0, []⟩, _, ⟨Nat.zero_le _, Nat.zero_le _⟩, rfl, rfl, by rw [ep], HO5, HB5, hide (fun x hx => by cases hx), HO0⟩
  case round =>
    obtain ⟨k, o, pv, hk, rfl, rfl, rfl, HOB, HBW, HPV, HO⟩ := hrel
    by_cases hlt : k < H.length ∧ k < 40
    · obtain ⟨hlt1, hlt2⟩ := hlt
      obtain ⟨ok, oin, opl, oQ, oA, oL, oK⟩ := HO.out
      obtain ⟨hk1, hhk⟩ : ∃ p, H[k]? = some p := ⟨_, List.getElem?_eq_getElem hlt1⟩
      obtain ⟨offh, hae, hbl, hcc⟩ := HH.out.resolve_left (fun h => by rw [h] at hlt1; simp at hlt1)
      subst hae
      have yh : wr.cell? ⟨gh, offh + k, none⟩ = some (.int .i64 hk1) := (HBW.out.cell (p := ⟨gh, _, none⟩) hbl).trans (hcc k _ hhk)
      have hw := wi_bnd (k := hk1) (n := Q1) (q_up HNN.out.1 HNN.out.2.1 HNN.out.2.2.2.2).1
      have HIH := hide (fun W => within_any hk1 Q1 W (HHK.out _ (List.mem_of_getElem? hhk)) (q_up HNN.out.1 HNN.out.2.1 HNN.out.2.2.2.2).1 (q_up HNN.out.1 HNN.out.2.1 HNN.out.2.2.2.2).2)
      obtain ⟨hh, hhh⟩ : ∃ x, wi hk1 Q1 = x := ⟨_, rfl⟩
      rw [hhh] at hw HIH
      have HHB := hide hw
      have d1 : decide ((k : Int) < (H.length : Int)) = true := decide_eq_true (Int.ofNat_lt.2 hlt1)
      have d5 : decide (k < H.length) = true := decide_eq_true hlt1
      have d2 : decide ((k : Int) < 40) = true := decide_eq_true (Int.ofNat_lt.2 hlt2)
      have d3 : decide (k < 40) = true := decide_eq_true hlt2
      have k0 : (0 : Int) ≤ (k : Int) := Int.natCast_nonneg k
      have k1 : (k : Int) < (H.length : Int) := Int.ofNat_lt.2 hlt1
      have wk : wrap64 ((k : Int) + 1) = (k : Int) + 1 := wk_small hlt2
      have HKn : Hid (k + 1 ≤ H.length ∧ k + 1 ≤ 40) := hide ⟨hlt1, hlt2⟩
      have HOBx := HOB
      have HBx := HBW
      by_cases c1 : k < C.length
      · obtain ⟨ck1, hck⟩ : ∃ p, C[k]? = some p := ⟨_, List.getElem?_eq_getElem c1⟩
        obtain ⟨offc, hce, hbc, hdd⟩ := HC.out.resolve_left (fun h => by rw [h] at c1; simp at c1)
        subst hce
        have yc : wr.cell? ⟨gc, offc + k, none⟩ = some (.int .i64 ck1) := (HBW.out.cell (p := ⟨gc, _, none⟩) hbc).trans (hdd k _ hck)
        obtain ⟨M1, hM1⟩ : ∃ x, M + 1 = x := ⟨_, rfl⟩
        have MU := m_up HNN.out.2.2.1 HNN.out.2.2.2.1 hM1
        have wM : wrap64 (M + 1) = M1 := MU.2.2
        have hv := wi_bnd (k := ck1) (n := M1) MU.1
        have HIC := hide (fun W => within_any ck1 M1 W (HCK.out _ (List.mem_of_getElem? hck)) MU.1 MU.2.1)
        obtain ⟨mny, hmny⟩ : ∃ x, wi ck1 M1 = x := ⟨_, rfl⟩
        rw [hmny] at hv HIC
        have HMN := hide hv.1
        have d10 : decide ((k : Int) < (C.length : Int)) = true := decide_eq_true (Int.ofNat_lt.2 c1)
        have d11 : decide (k < C.length) = true := decide_eq_true c1
        have k2 : (k : Int) < (C.length : Int) := Int.ofNat_lt.2 c1
        clear hhk hbl hcc hw hhh hlt1 hlt2 hk hck hbc hdd hM1 MU hv hmny c1
        go_wp2_with fail
        refine (HIC.out _).mono ?_
        rintro e w10 ⟨rfl, h10⟩
        subst h10
        clear HIC
        go_wp2_with fail
        refine (HIH.out _).mono ?_
        rintro e w11 ⟨rfl, h11⟩
        subst h11
        clear HIH
        have HTK := hide (fun W (hob : OB W g o pv) => take_any g o pv hh mny W hob ok (hh_le HHB.out.2 HNN.out.2.2.2.2 HNN.out.2.1) (Nat.le_trans (Nat.succ_le_succ opl) (Nat.le_trans HKn.out.2 (by decide))))
        obtain ⟨wD, wP, wl, wl2, F1, F3, nn1, nn2, hF7, L0⟩ := tail_num ok oQ oA oL (hh := hh) (c := mny) HHB.out.1 HMN.out
        have ok2 := Od.tk_ok ok hh mny
        obtain ⟨s1', s2', s3', s4'⟩ := same_tk o hh mny
        have HO2 := hide (And.intro ok2 (And.intro (oin.tk ok hh mny) (And.intro (Nat.le_trans (tk_len o hh mny) (Nat.succ_le_succ opl)) (And.intro (s1'.trans oQ) (And.intro (s2'.trans oA) (And.intro (s3'.trans oL) (s4'.trans oK)))))))
        clear s1' s2' s3' s4'
        obtain ⟨q, hq⟩ : ∃ x, o.q hh mny = x := ⟨_, rfl⟩
        obtain ⟨m, hm⟩ : ∃ x, o.m hh mny = x := ⟨_, rfl⟩
        rw [hq] at HTK wD F1 nn1 hF7
        rw [hm] at HTK wP F3 nn2
        obtain ⟨o2, ho2⟩ : ∃ x, o.tk hh mny = x := ⟨_, rfl⟩
        rw [ho2] at HTK wD wP wl wl2 hF7 HO2 ok2
        have HLFT := hide (fun W p2 (hob : OB W g o2 p2) => left_any g o2 p2 W hob ok2)
        clear hq hm ho2 ok2
        obtain ⟨gt, hgt⟩ : ∃ x, o.D = x := ⟨_, rfl⟩
        obtain ⟨pa, hpa⟩ : ∃ x, o.pd = x := ⟨_, rfl⟩
        obtain ⟨D2, hD2⟩ : ∃ x, o2.D = x := ⟨_, rfl⟩
        obtain ⟨P2, hP2e⟩ : ∃ x, o2.pd = x := ⟨_, rfl⟩
        obtain ⟨lq2, hl1⟩ : ∃ x, o2.lq = x := ⟨_, rfl⟩
        obtain ⟨lm2, hl2⟩ : ∃ x, o2.lm = x := ⟨_, rfl⟩
        rw [hgt, hD2] at wD
        rw [hpa, hP2e] at wP
        rw [hD2, hl1] at wl
        rw [hP2e, hl2] at wl2
        rw [hD2] at hF7
        rw [hl1, hl2] at HLFT
        rw [hgt, hpa]
        have n1 : (lq2 != lq2) = false := by simp
        have n2 : (lm2 != lm2) = false := by simp
        have d6 : decide (q < 0) = false := decide_eq_false (Int.not_lt.2 F1)
        have d7 : decide (m < 0) = false := decide_eq_false (Int.not_lt.2 F3)
        have d8 : decide (hh < q) = false := decide_eq_false (Int.not_lt.2 nn1)
        have d9 : decide (mny < m) = false := decide_eq_false (Int.not_lt.2 nn2)
        have ln : ¬ L = 0 := fun x => by rw [x] at L0; exact absurd L0 (by decide)
        have lz : (L == 0) = false := beq_eq_false_iff_ne.2 ln
        have HF := hide (And.intro F1 hF7)
        have HE2 := hide (And.intro hD2 hP2e)
        clear hgt hpa hD2 hP2e hl1 hl2 hF7 F1 F3 nn1 nn2 L0 ok oin opl oQ oA oL oK HO
        go_wp2_with fail
        refine (HTK.out _ HOBx.out).mono ?_
        rintro e w12 ⟨rfl, p2, hob, hfs, hli⟩
        have HB12 : Hid (Below w4.heap.size w4 w12) := hide (below_of hfs HBx.out HG.out HPV.out)
        have HO12 := hide hob
        have HP12 : Hid (∀ x, p2.ownBlock = some x → w4.heap.size ≤ x) := hide (fun x hx => (hli x hx).elim (HPV.out x) (fun y => Nat.le_trans HBx.out.size y))
        have HLF := hide (HLFT.out _ _ hob)
        clear hob hfs hli HTK HLFT
        by_cases q0 : q = 0
        · have g1 : decide (0 < q) = false := decide_eq_false (by rw [q0]; decide)
          clear q0 HF
          go_wp2_with fail
          refine HLF.out.mono ?_
          rintro e w13 ⟨rfl, hb13⟩
          have HB13 := hide (HB12.out.trans (hb13.mono HB12.out.size))
          have HO13 := hide (HO12.out.later hb13)
          clear hb13 HLF
          go_wp2_with fail
          go_roundw
          case rel => exact ⟨k + 1, o2, p2, ⟨HKn.out.1, HKn.out.2⟩, by rw [wk]; rfl, by rw [HE2.out.1], by rw [HE2.out.2], HO13, HB13, HP12, HO2⟩
          case measure => rw [wk]; exact meas_up HKn.out.2
        · have g1 : decide (0 < q) = true := decide_eq_true (pos_ne HF.out.1 q0)
          obtain ⟨r, hr⟩ : ∃ r, q.tmod L = r := ⟨_, rfl⟩
          by_cases r0 : r = 0
          · have g2 : (r != 0) = false := by rw [r0]; rfl
            clear q0 r0 HF
            go_wp2_with fail
            refine HLF.out.mono ?_
            rintro e w13 ⟨rfl, hb13⟩
            have HB13 := hide (HB12.out.trans (hb13.mono HB12.out.size))
            have HO13 := hide (HO12.out.later hb13)
            clear hb13 HLF
            go_wp2_with fail
            go_roundw
            case rel => exact ⟨k + 1, o2, p2, ⟨HKn.out.1, HKn.out.2⟩, by rw [wk]; rfl, by rw [HE2.out.1], by rw [HE2.out.2], HO13, HB13, HP12, HO2⟩
            case measure => rw [wk]; exact meas_up HKn.out.2
          · have g2 : (r != 0) = true := by simpa using r0
            have e5 : D2 = Q := HF.out.2 (pos_ne HF.out.1 q0) (fun x => r0 (by rw [← hr, Int.tmod_eq_emod_of_nonneg HF.out.1]; exact x))
            have g3 : (D2 != Q) = false := by rw [e5]; simp
            clear q0 r0 e5 HF
            go_wp2_with fail
            refine HLF.out.mono ?_
            rintro e w13 ⟨rfl, hb13⟩
            have HB13 := hide (HB12.out.trans (hb13.mono HB12.out.size))
            have HO13 := hide (HO12.out.later hb13)
            clear hb13 HLF
            go_wp2_with fail
            go_roundw
            case rel => exact ⟨k + 1, o2, p2, ⟨HKn.out.1, HKn.out.2⟩, by rw [wk]; rfl, by rw [HE2.out.1], by rw [HE2.out.2], HO13, HB13, HP12, HO2⟩
            case measure => rw [wk]; exact meas_up HKn.out.2
      · have d10 : decide ((k : Int) < (C.length : Int)) = false := decide_eq_false (fun x => c1 (Int.ofNat_lt.1 x))
        have d11 : decide (k < C.length) = false := decide_eq_false c1
        clear hhk hbl hcc hw hhh hlt1 hlt2 hk c1
        go_wp2_with fail
        refine (HIH.out _).mono ?_
        rintro e w11 ⟨rfl, h11⟩
        subst h11
        clear HIH
        have HTK := hide (fun W (hob : OB W g o pv) => take_any g o pv hh 1152921504606846976 W hob ok (hh_le HHB.out.2 HNN.out.2.2.2.2 HNN.out.2.1) (Nat.le_trans (Nat.succ_le_succ opl) (Nat.le_trans HKn.out.2 (by decide))))
        obtain ⟨wD, wP, wl, wl2, F1, F3, nn1, nn2, hF7, L0⟩ := tail_num ok oQ oA oL (hh := hh) (c := 1152921504606846976) HHB.out.1 (by decide)
        have ok2 := Od.tk_ok ok hh 1152921504606846976
        obtain ⟨s1', s2', s3', s4'⟩ := same_tk o hh 1152921504606846976
        have HO2 := hide (And.intro ok2 (And.intro (oin.tk ok hh 1152921504606846976) (And.intro (Nat.le_trans (tk_len o hh 1152921504606846976) (Nat.succ_le_succ opl)) (And.intro (s1'.trans oQ) (And.intro (s2'.trans oA) (And.intro (s3'.trans oL) (s4'.trans oK)))))))
        clear s1' s2' s3' s4'
        obtain ⟨q, hq⟩ : ∃ x, o.q hh 1152921504606846976 = x := ⟨_, rfl⟩
        obtain ⟨m, hm⟩ : ∃ x, o.m hh 1152921504606846976 = x := ⟨_, rfl⟩
        rw [hq] at HTK wD F1 nn1 hF7
        rw [hm] at HTK wP F3 nn2
        obtain ⟨o2, ho2⟩ : ∃ x, o.tk hh 1152921504606846976 = x := ⟨_, rfl⟩
        rw [ho2] at HTK wD wP wl wl2 hF7 HO2 ok2
        have HLFT := hide (fun W p2 (hob : OB W g o2 p2) => left_any g o2 p2 W hob ok2)
        clear hq hm ho2 ok2
        obtain ⟨gt, hgt⟩ : ∃ x, o.D = x := ⟨_, rfl⟩
        obtain ⟨pa, hpa⟩ : ∃ x, o.pd = x := ⟨_, rfl⟩
        obtain ⟨D2, hD2⟩ : ∃ x, o2.D = x := ⟨_, rfl⟩
        obtain ⟨P2, hP2e⟩ : ∃ x, o2.pd = x := ⟨_, rfl⟩
        obtain ⟨lq2, hl1⟩ : ∃ x, o2.lq = x := ⟨_, rfl⟩
        obtain ⟨lm2, hl2⟩ : ∃ x, o2.lm = x := ⟨_, rfl⟩
        rw [hgt, hD2] at wD
        rw [hpa, hP2e] at wP
        rw [hD2, hl1] at wl
        rw [hP2e, hl2] at wl2
        rw [hD2] at hF7
        rw [hl1, hl2] at HLFT
        rw [hgt, hpa]
        have n1 : (lq2 != lq2) = false := by simp
        have n2 : (lm2 != lm2) = false := by simp
        have d6 : decide (q < 0) = false := decide_eq_false (Int.not_lt.2 F1)
        have d7 : decide (m < 0) = false := decide_eq_false (Int.not_lt.2 F3)
        have d8 : decide (hh < q) = false := decide_eq_false (Int.not_lt.2 nn1)
        have d9 : decide (1152921504606846976 < m) = false := decide_eq_false (Int.not_lt.2 nn2)
        have ln : ¬ L = 0 := fun x => by rw [x] at L0; exact absurd L0 (by decide)
        have lz : (L == 0) = false := beq_eq_false_iff_ne.2 ln
        have HF := hide (And.intro F1 hF7)
        have HE2 := hide (And.intro hD2 hP2e)
        clear hgt hpa hD2 hP2e hl1 hl2 hF7 F1 F3 nn1 nn2 L0 ok oin opl oQ oA oL oK HO
        go_wp2_with fail
        refine (HTK.out _ HOBx.out).mono ?_
        rintro e w12 ⟨rfl, p2, hob, hfs, hli⟩
        have HB12 : Hid (Below w4.heap.size w4 w12) := hide (below_of hfs HBx.out HG.out HPV.out)
        have HO12 := hide hob
        have HP12 : Hid (∀ x, p2.ownBlock = some x → w4.heap.size ≤ x) := hide (fun x hx => (hli x hx).elim (HPV.out x) (fun y => Nat.le_trans HBx.out.size y))
        have HLF := hide (HLFT.out _ _ hob)
        clear hob hfs hli HTK HLFT
        by_cases q0 : q = 0
        · have g1 : decide (0 < q) = false := decide_eq_false (by rw [q0]; decide)
          clear q0 HF
          go_wp2_with fail
          refine HLF.out.mono ?_
          rintro e w13 ⟨rfl, hb13⟩
          have HB13 := hide (HB12.out.trans (hb13.mono HB12.out.size))
          have HO13 := hide (HO12.out.later hb13)
          clear hb13 HLF
          go_wp2_with fail
          go_roundw
          case rel => exact ⟨k + 1, o2, p2, ⟨HKn.out.1, HKn.out.2⟩, by rw [wk]; rfl, by rw [HE2.out.1], by rw [HE2.out.2], HO13, HB13, HP12, HO2⟩
          case measure => rw [wk]; exact meas_up HKn.out.2
        · have g1 : decide (0 < q) = true := decide_eq_true (pos_ne HF.out.1 q0)
          obtain ⟨r, hr⟩ : ∃ r, q.tmod L = r := ⟨_, rfl⟩
          by_cases r0 : r = 0
          · have g2 : (r != 0) = false := by rw [r0]; rfl
            clear q0 r0 HF
            go_wp2_with fail
            refine HLF.out.mono ?_
            rintro e w13 ⟨rfl, hb13⟩
            have HB13 := hide (HB12.out.trans (hb13.mono HB12.out.size))
            have HO13 := hide (HO12.out.later hb13)
            clear hb13 HLF
            go_wp2_with fail
            go_roundw
            case rel => exact ⟨k + 1, o2, p2, ⟨HKn.out.1, HKn.out.2⟩, by rw [wk]; rfl, by rw [HE2.out.1], by rw [HE2.out.2], HO13, HB13, HP12, HO2⟩
            case measure => rw [wk]; exact meas_up HKn.out.2
          · have g2 : (r != 0) = true := by simpa using r0
            have e5 : D2 = Q := HF.out.2 (pos_ne HF.out.1 q0) (fun x => r0 (by rw [← hr, Int.tmod_eq_emod_of_nonneg HF.out.1]; exact x))
            have g3 : (D2 != Q) = false := by rw [e5]; simp
            clear q0 r0 e5 HF
            go_wp2_with fail
            refine HLF.out.mono ?_
            rintro e w13 ⟨rfl, hb13⟩
            have HB13 := hide (HB12.out.trans (hb13.mono HB12.out.size))
            have HO13 := hide (HO12.out.later hb13)
            clear hb13 HLF
            go_wp2_with fail
            go_roundw
            case rel => exact ⟨k + 1, o2, p2, ⟨HKn.out.1, HKn.out.2⟩, by rw [wk]; rfl, by rw [HE2.out.1], by rw [HE2.out.2], HO13, HB13, HP12, HO2⟩
            case measure => rw [wk]; exact meas_up HKn.out.2
    · obtain ⟨ok, oin, opl, oQ, oA, oL, oK⟩ := HO.out
      have HTK := hide (take_any g o pv Q 1152921504606846976 wr HOB.out ok (by have := HNN.out; omega) (by omega))
      have hq := all_tk ok (h := Q) (c := 1152921504606846976) (by omega) (by have := HNN.out; omega)
      have hqf := q_facts ok Q 1152921504606846976
      have eD := D_tk o Q 1152921504606846976
      have eP := pd_tk o Q 1152921504606846976
      have ok2 := Od.tk_ok ok Q 1152921504606846976
      have in2 := oin.tk ok Q 1152921504606846976
      have l2 := tk_len o Q 1152921504606846976
      obtain ⟨s1', s2', _, _⟩ := same_tk o Q 1152921504606846976
      have Dq : (o.tk Q 1152921504606846976).D = Q := by rw [eD, hq, ← oQ]; omega
      have Pq : (o.tk Q 1152921504606846976).pd = M := by unfold Od.pd; rw [Dq, s1', s2', oQ, oA]; exact sh_full (by have := ok.Q0; omega)
      have i1 : s1 (o.tk Q 1152921504606846976).P = Q := by rw [in2.e1, Dq]
      have i2 : s2 (o.tk Q 1152921504606846976).P = M := by rw [in2.e2]; exact Pq
      have HS2 := hide (fun j => s_take (o.tk Q 1152921504606846976).P j in2.p)
      have HSP := hide (And.intro i1 i2)
      have hDb : 0 ≤ o.D ∧ o.D ≤ Q := ⟨ok.D0, by rw [← oQ]; exact ok.DQ⟩
      have hPb := sh_bnd ok.A0 ok.D0 ok.DQ ok.Q0
      have hP0 : 0 ≤ o.pd ∧ o.pd ≤ M := by rw [← oA]; exact hPb
      have hL2 : (o.tk Q 1152921504606846976).P.length ≤ 41 := by omega
      rw [Dq] at eD
      rw [Pq] at eP
      obtain ⟨q, hq'⟩ : ∃ x, o.q Q 1152921504606846976 = x := ⟨_, rfl⟩
      obtain ⟨m, hm'⟩ : ∃ x, o.m Q 1152921504606846976 = x := ⟨_, rfl⟩
      rw [hq'] at eD HTK hqf
      rw [hm'] at eP HTK hqf
      obtain ⟨o3, ho3⟩ : ∃ x, o.tk Q 1152921504606846976 = x := ⟨_, rfl⟩
      rw [ho3] at HTK HS2 HSP hL2
      obtain ⟨gt, hgt⟩ : ∃ x, o.D = x := ⟨_, rfl⟩
      obtain ⟨pa, hpa⟩ : ∃ x, o.pd = x := ⟨_, rfl⟩
      rw [hgt] at eD hDb
      rw [hpa] at eP hP0
      rw [hgt, hpa]
      have wq : wrap64 (gt + q) = Q := by have := HNN.out; unfold wrap64; omega
      have wm : wrap64 (pa + m) = M := by have := HNN.out; unfold wrap64; omega
      have n1 : (Q != Q) = false := by simp
      have n2 : (M != M) = false := by simp
      have hz : gt = Q → q = 0 ∧ m = 0 ∧ pa = M := fun e => by
        have q00 : q = 0 := by omega
        have := hqf.2.2.2.2.2.1 q00
        exact ⟨q00, this, by omega⟩
      have HZ := hide hz
      have HGT := hide hDb
      have HL2 := hide hL2
      clear ok oin opl oQ oA oL oK HO hq hqf eD eP ok2 in2 l2 s1' s2' Dq Pq i1 i2 hDb hPb hP0 hL2 hq' hm' ho3 hgt hpa hz
      have HE : Hid (Below w4.heap.size w4 wr) := HBW
      clear HO0 ep
      by_cases e1 : k < H.length
      · have d1 : decide ((k : Int) < (H.length : Int)) = true := by rw [decide_eq_true_eq]; omega
        have d5 : decide (k < H.length) = true := decide_eq_true e1
        have d2 : decide ((k : Int) < 40) = false := by rw [decide_eq_false_iff_not]; omega
        have d3 : decide (k < 40) = false := by rw [decide_eq_false_iff_not]; omega
        have d4 : ¬ k < 40 := by omega
        clear e1 hlt hk
        by_cases e2 : gt < Q
        · have g1 : decide (gt < Q) = true := decide_eq_true e2
          have g2 : (gt == Q) = false := by rw [beq_eq_false_iff_ne]; omega
          clear e2
          go_wp2_with fail
          refine HTK.out.mono ?_
          rintro e w7 ⟨rfl, p3, hob, hfs, hli⟩
          have HB7 : Hid (Below w4.heap.size w4 w7) := hide (below_of hfs HE.out HG.out HPV.out)
          have HPC := hide (parts_any g o3 p3 w7 hob (Nat.le_trans HL2.out (by decide)))
          clear hob hfs hli HTK
          go_wp2_with fail
          refine HPC.out.mono ?_
          rintro e w8 ⟨⟨v', rfl, hop⟩, hb8⟩
          have HB8 := hide (HB7.out.trans (hb8.mono HB7.out.size))
          obtain ⟨pa8, pc8, hpv⟩ := TL.OM.slice hop
          have HRM := hide (TL.OM.rm hop)
          clear hb8 hop HPC HB7
          subst hpv
          go_wp2_with fail
          go_loopw [13, 14, 31] (fun qv mv iv wr => ∃ j : Nat, j ≤ o3.P.length ∧ iv = .int .i64 (j : Int) ∧ qv = .int .i64 (Q - s1 (o3.P.take j)) ∧ mv = .int .i64 (M - s2 (o3.P.take j)) ∧ Hid (Below w8.heap.size w8 wr)) (fun _ _ iv _ => o3.P.length - (intOf iv).toNat)
          case atStart => exact ⟨0, Nat.zero_le _, rfl, by rw [List.take_zero]; show _ = Value.int .i64 (Q - 0); rw [Int.sub_zero], by rw [List.take_zero]; show _ = Value.int .i64 (M - 0); rw [Int.sub_zero], hide (Below.refl _ _)⟩
          case round =>
            obtain ⟨j, hj, rfl, rfl, rfl, HB⟩ := hrel
            by_cases hlt : j < o3.P.length
            · obtain ⟨p, hp⟩ : ∃ p, o3.P[j]? = some p := ⟨_, List.getElem?_eq_getElem hlt⟩
              obtain ⟨a9, c9, hv9, _, hcc⟩ := HRM.out
              cases hv9
              obtain ⟨bs, off, rfl, hbl, hcc⟩ := hcc.resolve_left (fun h => by rw [h] at hlt; simp at hlt)
              have hst := s_step hp
              have t1 := HS2.out j
              have t2 := HS2.out (j + 1)
              have y0 : wr.cell? ⟨bs, off + j * 2, none⟩ = some (.int .i64 p.1) := (HB.out.cell (p := ⟨bs, _, none⟩) hbl).trans (hcc j p hp).1
              have y1 : wr.cell? ⟨bs, off + j * 2 + 1, none⟩ = some (.int .i64 p.2) := (HB.out.cell (p := ⟨bs, _, none⟩) hbl).trans (hcc j p hp).2
              obtain ⟨px, py⟩ := p
              dsimp only at y0 y1 hst
              obtain ⟨u1, hu1⟩ : ∃ x, Q - s1 (o3.P.take j) = x := ⟨_, rfl⟩
              obtain ⟨u2, hu2⟩ : ∃ x, M - s2 (o3.P.take j) = x := ⟨_, rfl⟩
              obtain ⟨v1, hv1⟩ : ∃ x, Q - s1 (o3.P.take (j + 1)) = x := ⟨_, rfl⟩
              obtain ⟨v2, hv2⟩ : ∃ x, M - s2 (o3.P.take (j + 1)) = x := ⟨_, rfl⟩
              have wz1 : wrap64 (u1 - px) = v1 := w_dif hu1 hv1 hst.1 t1.1 t2.1 t2.2.1 HSP.out.1.symm rfl (Int.le_trans HNN.out.2.1 (by decide))
              have wz2 : wrap64 (u2 - py) = v2 := w_dif hu2 hv2 hst.2 t1.2.2.1 t2.2.2.1 t2.2.2.2 HSP.out.2.symm rfl (Int.le_trans (Int.le_of_lt HNN.out.2.2.2.1) (by decide))
              have hd1 : decide ((j : Int) < (o3.P.length : Int)) = true := by rw [decide_eq_true_eq]; omega
              have hd2 : decide (j < o3.P.length) = true := decide_eq_true hlt
              have k0 : (0 : Int) ≤ (j : Int) := by omega
              have k1 : (j : Int) < (o3.P.length : Int) := by omega
              have wk : wrap64 ((j : Int) + 1) = (j : Int) + 1 := by have := HL2.out; unfold wrap64; omega
              have HKn := hide (And.intro hlt hj)
              have HV := hide (And.intro hv1 hv2)
              rw [hu1, hu2]
              clear hp hst t1 t2 hu1 hu2 hv1 hv2 hlt hj hcc hbl
              go_wp2_with fail
              go_roundw
              case rel => exact ⟨j + 1, HKn.out.1, by rw [wk]; rfl, by rw [HV.out.1, wz1], by rw [HV.out.2, wz2], HB⟩
              case measure => rw [wk]; exact meas_up HKn.out.1
            · have e : j = o3.P.length := by omega
              subst e
              rw [List.take_length, HSP.out.1, HSP.out.2, show Q - Q = 0 by omega, show M - M = 0 by omega]
              have hpos : 0 < o3.P.length := by
                rcases Nat.eq_zero_or_pos o3.P.length with h0 | h0
                · have h1 := HSP.out.1
                  rw [List.eq_nil_of_length_eq_zero h0] at h1
                  have := HNN.out.1
                  have h2 : (0 : Int) = Q := h1
                  omega
                · exact h0
              have HPI := hide (fun W => pick_len o3.P.length W (Nat.le_trans HL2.out (by decide)))
              have f1 : decide ((0 : Int) < (o3.P.length : Int)) = true := by rw [decide_eq_true_eq]; omega
              have f2 : ((o3.P.length : Int) == (o3.P.length : Int)) = true := by simp
              have f3 : decide (0 < o3.P.length) = true := decide_eq_true hpos
              clear hlt hj
              go_wp2_with fail
              refine (HPI.out _).mono ?_
              rintro e w9 ⟨rfl, h9⟩
              subst h9
              go_wp2_with fail
              go_ret
              exact ⟨rfl, HB8.out.trans (HB.out.mono HB8.out.size)⟩
        · have e3 : gt = Q := by have := HGT.out; omega
          obtain ⟨e4, e5, e6⟩ := HZ.out e3
          subst e4 e5 e6
          have g1 : decide (gt < Q) = false := decide_eq_false e2
          have g2 : (gt == Q) = true := by rw [e3]; simp
          clear e2 e3
          go_wp2_with fail
          refine HTK.out.mono ?_
          rintro e w7 ⟨rfl, p3, hob, hfs, hli⟩
          have HB7 : Hid (Below w4.heap.size w4 w7) := hide (below_of hfs HE.out HG.out HPV.out)
          have HPC := hide (parts_any g o3 p3 w7 hob (Nat.le_trans HL2.out (by decide)))
          clear hob hfs hli HTK
          go_wp2_with fail
          refine HPC.out.mono ?_
          rintro e w8 ⟨⟨v', rfl, hop⟩, hb8⟩
          have HB8 := hide (HB7.out.trans (hb8.mono HB7.out.size))
          obtain ⟨pa8, pc8, hpv⟩ := TL.OM.slice hop
          have HRM := hide (TL.OM.rm hop)
          clear hb8 hop HPC HB7
          subst hpv
          go_wp2_with fail
          go_loopw [13, 14, 31] (fun qv mv iv wr => ∃ j : Nat, j ≤ o3.P.length ∧ iv = .int .i64 (j : Int) ∧ qv = .int .i64 (Q - s1 (o3.P.take j)) ∧ mv = .int .i64 (pa - s2 (o3.P.take j)) ∧ Hid (Below w8.heap.size w8 wr)) (fun _ _ iv _ => o3.P.length - (intOf iv).toNat)
          case atStart => exact ⟨0, Nat.zero_le _, rfl, by rw [List.take_zero]; show _ = Value.int .i64 (Q - 0); rw [Int.sub_zero], by rw [List.take_zero]; show _ = Value.int .i64 (pa - 0); rw [Int.sub_zero], hide (Below.refl _ _)⟩
          case round =>
            obtain ⟨j, hj, rfl, rfl, rfl, HB⟩ := hrel
            by_cases hlt : j < o3.P.length
            · obtain ⟨p, hp⟩ : ∃ p, o3.P[j]? = some p := ⟨_, List.getElem?_eq_getElem hlt⟩
              obtain ⟨a9, c9, hv9, _, hcc⟩ := HRM.out
              cases hv9
              obtain ⟨bs, off, rfl, hbl, hcc⟩ := hcc.resolve_left (fun h => by rw [h] at hlt; simp at hlt)
              have hst := s_step hp
              have t1 := HS2.out j
              have t2 := HS2.out (j + 1)
              have y0 : wr.cell? ⟨bs, off + j * 2, none⟩ = some (.int .i64 p.1) := (HB.out.cell (p := ⟨bs, _, none⟩) hbl).trans (hcc j p hp).1
              have y1 : wr.cell? ⟨bs, off + j * 2 + 1, none⟩ = some (.int .i64 p.2) := (HB.out.cell (p := ⟨bs, _, none⟩) hbl).trans (hcc j p hp).2
              obtain ⟨px, py⟩ := p
              dsimp only at y0 y1 hst
              obtain ⟨u1, hu1⟩ : ∃ x, Q - s1 (o3.P.take j) = x := ⟨_, rfl⟩
              obtain ⟨u2, hu2⟩ : ∃ x, pa - s2 (o3.P.take j) = x := ⟨_, rfl⟩
              obtain ⟨v1, hv1⟩ : ∃ x, Q - s1 (o3.P.take (j + 1)) = x := ⟨_, rfl⟩
              obtain ⟨v2, hv2⟩ : ∃ x, pa - s2 (o3.P.take (j + 1)) = x := ⟨_, rfl⟩
              have wz1 : wrap64 (u1 - px) = v1 := w_dif hu1 hv1 hst.1 t1.1 t2.1 t2.2.1 HSP.out.1.symm rfl (Int.le_trans HNN.out.2.1 (by decide))
              have wz2 : wrap64 (u2 - py) = v2 := w_dif hu2 hv2 hst.2 t1.2.2.1 t2.2.2.1 t2.2.2.2 HSP.out.2.symm rfl (Int.le_trans (Int.le_of_lt HNN.out.2.2.2.1) (by decide))
              have hd1 : decide ((j : Int) < (o3.P.length : Int)) = true := by rw [decide_eq_true_eq]; omega
              have hd2 : decide (j < o3.P.length) = true := decide_eq_true hlt
              have k0 : (0 : Int) ≤ (j : Int) := by omega
              have k1 : (j : Int) < (o3.P.length : Int) := by omega
              have wk : wrap64 ((j : Int) + 1) = (j : Int) + 1 := by have := HL2.out; unfold wrap64; omega
              have HKn := hide (And.intro hlt hj)
              have HV := hide (And.intro hv1 hv2)
              rw [hu1, hu2]
              clear hp hst t1 t2 hu1 hu2 hv1 hv2 hlt hj hcc hbl
              go_wp2_with fail
              go_roundw
              case rel => exact ⟨j + 1, HKn.out.1, by rw [wk]; rfl, by rw [HV.out.1, wz1], by rw [HV.out.2, wz2], HB⟩
              case measure => rw [wk]; exact meas_up HKn.out.1
            · have e : j = o3.P.length := by omega
              subst e
              rw [List.take_length, HSP.out.1, HSP.out.2, show Q - Q = 0 by omega, show pa - pa = 0 by omega]
              have hpos : 0 < o3.P.length := by
                rcases Nat.eq_zero_or_pos o3.P.length with h0 | h0
                · have h1 := HSP.out.1
                  rw [List.eq_nil_of_length_eq_zero h0] at h1
                  have := HNN.out.1
                  have h2 : (0 : Int) = Q := h1
                  omega
                · exact h0
              have HPI := hide (fun W => pick_len o3.P.length W (Nat.le_trans HL2.out (by decide)))
              have f1 : decide ((0 : Int) < (o3.P.length : Int)) = true := by rw [decide_eq_true_eq]; omega
              have f2 : ((o3.P.length : Int) == (o3.P.length : Int)) = true := by simp
              have f3 : decide (0 < o3.P.length) = true := decide_eq_true hpos
              clear hlt hj
              go_wp2_with fail
              refine (HPI.out _).mono ?_
              rintro e w9 ⟨rfl, h9⟩
              subst h9
              go_wp2_with fail
              go_ret
              exact ⟨rfl, HB8.out.trans (HB.out.mono HB8.out.size)⟩
      · have d1 : decide ((k : Int) < (H.length : Int)) = false := by rw [decide_eq_false_iff_not]; omega
        have d5 : decide (k < H.length) = false := decide_eq_false e1
        clear e1 hlt hk
        by_cases e2 : gt < Q
        · have g1 : decide (gt < Q) = true := decide_eq_true e2
          have g2 : (gt == Q) = false := by rw [beq_eq_false_iff_ne]; omega
          clear e2
          go_wp2_with fail
          refine HTK.out.mono ?_
          rintro e w7 ⟨rfl, p3, hob, hfs, hli⟩
          have HB7 : Hid (Below w4.heap.size w4 w7) := hide (below_of hfs HE.out HG.out HPV.out)
          have HPC := hide (parts_any g o3 p3 w7 hob (Nat.le_trans HL2.out (by decide)))
          clear hob hfs hli HTK
          go_wp2_with fail
          refine HPC.out.mono ?_
          rintro e w8 ⟨⟨v', rfl, hop⟩, hb8⟩
          have HB8 := hide (HB7.out.trans (hb8.mono HB7.out.size))
          obtain ⟨pa8, pc8, hpv⟩ := TL.OM.slice hop
          have HRM := hide (TL.OM.rm hop)
          clear hb8 hop HPC HB7
          subst hpv
          go_wp2_with fail
          go_loopw [13, 14, 31] (fun qv mv iv wr => ∃ j : Nat, j ≤ o3.P.length ∧ iv = .int .i64 (j : Int) ∧ qv = .int .i64 (Q - s1 (o3.P.take j)) ∧ mv = .int .i64 (M - s2 (o3.P.take j)) ∧ Hid (Below w8.heap.size w8 wr)) (fun _ _ iv _ => o3.P.length - (intOf iv).toNat)
          case atStart => exact ⟨0, Nat.zero_le _, rfl, by rw [List.take_zero]; show _ = Value.int .i64 (Q - 0); rw [Int.sub_zero], by rw [List.take_zero]; show _ = Value.int .i64 (M - 0); rw [Int.sub_zero], hide (Below.refl _ _)⟩
          case round =>
            obtain ⟨j, hj, rfl, rfl, rfl, HB⟩ := hrel
            by_cases hlt : j < o3.P.length
            · obtain ⟨p, hp⟩ : ∃ p, o3.P[j]? = some p := ⟨_, List.getElem?_eq_getElem hlt⟩
              obtain ⟨a9, c9, hv9, _, hcc⟩ := HRM.out
              cases hv9
              obtain ⟨bs, off, rfl, hbl, hcc⟩ := hcc.resolve_left (fun h => by rw [h] at hlt; simp at hlt)
              have hst := s_step hp
              have t1 := HS2.out j
              have t2 := HS2.out (j + 1)
              have y0 : wr.cell? ⟨bs, off + j * 2, none⟩ = some (.int .i64 p.1) := (HB.out.cell (p := ⟨bs, _, none⟩) hbl).trans (hcc j p hp).1
              have y1 : wr.cell? ⟨bs, off + j * 2 + 1, none⟩ = some (.int .i64 p.2) := (HB.out.cell (p := ⟨bs, _, none⟩) hbl).trans (hcc j p hp).2
              obtain ⟨px, py⟩ := p
              dsimp only at y0 y1 hst
              obtain ⟨u1, hu1⟩ : ∃ x, Q - s1 (o3.P.take j) = x := ⟨_, rfl⟩
              obtain ⟨u2, hu2⟩ : ∃ x, M - s2 (o3.P.take j) = x := ⟨_, rfl⟩
              obtain ⟨v1, hv1⟩ : ∃ x, Q - s1 (o3.P.take (j + 1)) = x := ⟨_, rfl⟩
              obtain ⟨v2, hv2⟩ : ∃ x, M - s2 (o3.P.take (j + 1)) = x := ⟨_, rfl⟩
              have wz1 : wrap64 (u1 - px) = v1 := w_dif hu1 hv1 hst.1 t1.1 t2.1 t2.2.1 HSP.out.1.symm rfl (Int.le_trans HNN.out.2.1 (by decide))
              have wz2 : wrap64 (u2 - py) = v2 := w_dif hu2 hv2 hst.2 t1.2.2.1 t2.2.2.1 t2.2.2.2 HSP.out.2.symm rfl (Int.le_trans (Int.le_of_lt HNN.out.2.2.2.1) (by decide))
              have hd1 : decide ((j : Int) < (o3.P.length : Int)) = true := by rw [decide_eq_true_eq]; omega
              have hd2 : decide (j < o3.P.length) = true := decide_eq_true hlt
              have k0 : (0 : Int) ≤ (j : Int) := by omega
              have k1 : (j : Int) < (o3.P.length : Int) := by omega
              have wk : wrap64 ((j : Int) + 1) = (j : Int) + 1 := by have := HL2.out; unfold wrap64; omega
              have HKn := hide (And.intro hlt hj)
              have HV := hide (And.intro hv1 hv2)
              rw [hu1, hu2]
              clear hp hst t1 t2 hu1 hu2 hv1 hv2 hlt hj hcc hbl
              go_wp2_with fail
              go_roundw
              case rel => exact ⟨j + 1, HKn.out.1, by rw [wk]; rfl, by rw [HV.out.1, wz1], by rw [HV.out.2, wz2], HB⟩
              case measure => rw [wk]; exact meas_up HKn.out.1
            · have e : j = o3.P.length := by omega
              subst e
              rw [List.take_length, HSP.out.1, HSP.out.2, show Q - Q = 0 by omega, show M - M = 0 by omega]
              have hpos : 0 < o3.P.length := by
                rcases Nat.eq_zero_or_pos o3.P.length with h0 | h0
                · have h1 := HSP.out.1
                  rw [List.eq_nil_of_length_eq_zero h0] at h1
                  have := HNN.out.1
                  have h2 : (0 : Int) = Q := h1
                  omega
                · exact h0
              have HPI := hide (fun W => pick_len o3.P.length W (Nat.le_trans HL2.out (by decide)))
              have f1 : decide ((0 : Int) < (o3.P.length : Int)) = true := by rw [decide_eq_true_eq]; omega
              have f2 : ((o3.P.length : Int) == (o3.P.length : Int)) = true := by simp
              have f3 : decide (0 < o3.P.length) = true := decide_eq_true hpos
              clear hlt hj
              go_wp2_with fail
              refine (HPI.out _).mono ?_
              rintro e w9 ⟨rfl, h9⟩
              subst h9
              go_wp2_with fail
              go_ret
              exact ⟨rfl, HB8.out.trans (HB.out.mono HB8.out.size)⟩
        · have e3 : gt = Q := by have := HGT.out; omega
          obtain ⟨e4, e5, e6⟩ := HZ.out e3
          subst e4 e5 e6
          have g1 : decide (gt < Q) = false := decide_eq_false e2
          have g2 : (gt == Q) = true := by rw [e3]; simp
          clear e2 e3
          go_wp2_with fail
          refine HTK.out.mono ?_
          rintro e w7 ⟨rfl, p3, hob, hfs, hli⟩
          have HB7 : Hid (Below w4.heap.size w4 w7) := hide (below_of hfs HE.out HG.out HPV.out)
          have HPC := hide (parts_any g o3 p3 w7 hob (Nat.le_trans HL2.out (by decide)))
          clear hob hfs hli HTK
          go_wp2_with fail
          refine HPC.out.mono ?_
          rintro e w8 ⟨⟨v', rfl, hop⟩, hb8⟩
          have HB8 := hide (HB7.out.trans (hb8.mono HB7.out.size))
          obtain ⟨pa8, pc8, hpv⟩ := TL.OM.slice hop
          have HRM := hide (TL.OM.rm hop)
          clear hb8 hop HPC HB7
          subst hpv
          go_wp2_with fail
          go_loopw [13, 14, 31] (fun qv mv iv wr => ∃ j : Nat, j ≤ o3.P.length ∧ iv = .int .i64 (j : Int) ∧ qv = .int .i64 (Q - s1 (o3.P.take j)) ∧ mv = .int .i64 (pa - s2 (o3.P.take j)) ∧ Hid (Below w8.heap.size w8 wr)) (fun _ _ iv _ => o3.P.length - (intOf iv).toNat)
          case atStart => exact ⟨0, Nat.zero_le _, rfl, by rw [List.take_zero]; show _ = Value.int .i64 (Q - 0); rw [Int.sub_zero], by rw [List.take_zero]; show _ = Value.int .i64 (pa - 0); rw [Int.sub_zero], hide (Below.refl _ _)⟩
          case round =>
            obtain ⟨j, hj, rfl, rfl, rfl, HB⟩ := hrel
            by_cases hlt : j < o3.P.length
            · obtain ⟨p, hp⟩ : ∃ p, o3.P[j]? = some p := ⟨_, List.getElem?_eq_getElem hlt⟩
              obtain ⟨a9, c9, hv9, _, hcc⟩ := HRM.out
              cases hv9
              obtain ⟨bs, off, rfl, hbl, hcc⟩ := hcc.resolve_left (fun h => by rw [h] at hlt; simp at hlt)
              have hst := s_step hp
              have t1 := HS2.out j
              have t2 := HS2.out (j + 1)
              have y0 : wr.cell? ⟨bs, off + j * 2, none⟩ = some (.int .i64 p.1) := (HB.out.cell (p := ⟨bs, _, none⟩) hbl).trans (hcc j p hp).1
              have y1 : wr.cell? ⟨bs, off + j * 2 + 1, none⟩ = some (.int .i64 p.2) := (HB.out.cell (p := ⟨bs, _, none⟩) hbl).trans (hcc j p hp).2
              obtain ⟨px, py⟩ := p
              dsimp only at y0 y1 hst
              obtain ⟨u1, hu1⟩ : ∃ x, Q - s1 (o3.P.take j) = x := ⟨_, rfl⟩
              obtain ⟨u2, hu2⟩ : ∃ x, pa - s2 (o3.P.take j) = x := ⟨_, rfl⟩
              obtain ⟨v1, hv1⟩ : ∃ x, Q - s1 (o3.P.take (j + 1)) = x := ⟨_, rfl⟩
              obtain ⟨v2, hv2⟩ : ∃ x, pa - s2 (o3.P.take (j + 1)) = x := ⟨_, rfl⟩
              have wz1 : wrap64 (u1 - px) = v1 := w_dif hu1 hv1 hst.1 t1.1 t2.1 t2.2.1 HSP.out.1.symm rfl (Int.le_trans HNN.out.2.1 (by decide))
              have wz2 : wrap64 (u2 - py) = v2 := w_dif hu2 hv2 hst.2 t1.2.2.1 t2.2.2.1 t2.2.2.2 HSP.out.2.symm rfl (Int.le_trans (Int.le_of_lt HNN.out.2.2.2.1) (by decide))
              have hd1 : decide ((j : Int) < (o3.P.length : Int)) = true := by rw [decide_eq_true_eq]; omega
              have hd2 : decide (j < o3.P.length) = true := decide_eq_true hlt
              have k0 : (0 : Int) ≤ (j : Int) := by omega
              have k1 : (j : Int) < (o3.P.length : Int) := by omega
              have wk : wrap64 ((j : Int) + 1) = (j : Int) + 1 := by have := HL2.out; unfold wrap64; omega
              have HKn := hide (And.intro hlt hj)
              have HV := hide (And.intro hv1 hv2)
              rw [hu1, hu2]
              clear hp hst t1 t2 hu1 hu2 hv1 hv2 hlt hj hcc hbl
              go_wp2_with fail
              go_roundw
              case rel => exact ⟨j + 1, HKn.out.1, by rw [wk]; rfl, by rw [HV.out.1, wz1], by rw [HV.out.2, wz2], HB⟩
              case measure => rw [wk]; exact meas_up HKn.out.1
            · have e : j = o3.P.length := by omega
              subst e
              rw [List.take_length, HSP.out.1, HSP.out.2, show Q - Q = 0 by omega, show pa - pa = 0 by omega]
              have hpos : 0 < o3.P.length := by
                rcases Nat.eq_zero_or_pos o3.P.length with h0 | h0
                · have h1 := HSP.out.1
                  rw [List.eq_nil_of_length_eq_zero h0] at h1
                  have := HNN.out.1
                  have h2 : (0 : Int) = Q := h1
                  omega
                · exact h0
              have HPI := hide (fun W => pick_len o3.P.length W (Nat.le_trans HL2.out (by decide)))
              have f1 : decide ((0 : Int) < (o3.P.length : Int)) = true := by rw [decide_eq_true_eq]; omega
              have f2 : ((o3.P.length : Int) == (o3.P.length : Int)) = true := by simp
              have f3 : decide (0 < o3.P.length) = true := decide_eq_true hpos
              clear hlt hj
              go_wp2_with fail
              refine (HPI.out _).mono ?_
              rintro e w9 ⟨rfl, h9⟩
              subst h9
              go_wp2_with fail
              go_ret
              exact ⟨rfl, HB8.out.trans (HB.out.mono HB8.out.size)⟩
end Go.Proofs.Ytmojckejjjlkjab
