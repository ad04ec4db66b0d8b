/-
  My own text: the document's own answers: a sum behind bytes, a frame taken.
-/
import Derived.Test.YthalmfbcdkihgaaDoorWR1
import Derived.Test.YthalmfbcdkihgaaDoorWM2
import Derived.Test.YthalmfbcdkihgaaDoorWReg
namespace Go.Proofs.YthalmfbcdkihgaaDoor
open Go.RowKit Go.Extern

set_option maxRecDepth 100000 in
set_option maxHeartbeats 1000000 in
theorem copyBytes_any (v : Value) (l : List UInt8) (w : World) (hv : RB w v l) (hl : l.length ≤ 140737488355300) :
    Calls Tryd.prog 55 #[v] w fun e w' => ∃ v', e = .returned v' ∧ Own w' w.heap.size v' l ∧ Below w.heap.size w w' := by
  obtain ⟨b, a, cap, rfl, hcap, hr⟩ := hv
  obtain ⟨i0, hi, hz0, hz1, hz2⟩ := info_parts Tryd.infoB
  go_enter Tryd.func55, Tryd.ntmps55
  go_wp2
  go_loopw [3, 4] (fun o i wr => ∃ k : Nat, k ≤ l.length ∧ i = .int .i64 k ∧ wr.ownsRow w.heap.size 5 1 o k (bv (l.take k)) ∧ Below w.heap.size w wr) (fun _ i _ => l.length - (intOf i).toNat)
  case atStart => exact ⟨0, Nat.zero_le _, rfl, World.ownsRow_nil w w.heap.size 5 1, Below.refl _ _⟩
  case round =>
    obtain ⟨k, hk, rfl, hown, hB⟩ := hrel
    by_cases hlt : k < l.length
    · obtain ⟨x, hx⟩ := some_at hlt
      rcases hr with h0 | ⟨off, rfl, hbl, hc⟩
      · rw [h0] at hlt; simp at hlt
      have hcell := (hB.cell (p := ⟨b, off + k, none⟩) hbl).trans (hc k x hx)
      have HT : Hid (bv (l.take (k + 1)) = bv (l.take k) ++ [.int .u8 (x.toNat : Int)]) := hide (by rw [List.take_add_one, hx]; exact bv_snoc _ _)
      clear hc hx
      go_wp2_with (first
        | (at_builtin; refine wpList_append_own _ rfl _ _ 29 rfl w.heap.size 5 i0 (.int .u8 0) 1 1 Tryd.underlying29 hi hz0 hz1 hz2 rfl (by decide) _ _ _ rfl (hown.alloc _) ⟨_, 0, none⟩ 1 1 [.int .u8 (x.toNat : Int)] rfl rfl ?c1 ?c2 ?c3 ?c4 ?c5 ?_)
        | go_in)
      case c1 =>
        intro j u hj
        match j, hj with
        | 0, hj => simp at hj; subst hj; simp [Addr.add]
      case c2 => intro u hu; simp at hu; subst hu; rfl
      case c3 => unfold maxLen; omega
      case c4 => omega
      case c5 => have := hB.size; simp; omega
      intro v' w1 hown' hgrow _
      have hB1 : Below w.heap.size w w1 := (hB.alloc hB.size _).grown hgrow (by have := hB.size; simp; omega) (fun k hk => (hown.lt k hk).1)
      clear hown hgrow
      go_wp2
      go_roundw
      case rel => exact ⟨k + 1, by omega, by go_num, by rw [HT.out]; exact hown', hB1⟩
      case measure => simp [intOf]; omega
    · have hk' : k = l.length := by omega
      subst hk'
      rw [List.take_length] at hown
      go_wp2
      go_ret
      exact ⟨_, rfl, hown, hB⟩


/-- Bytes of any kind behind an own row. -/
theorem wp_append_rb {w : World} {ops : Array Oper} {rest : List Oper} {o : Oper} {a : Act} {Q : Exit → Act → World → Prop} (hgd : o.guard = none) (s x : Operand)
    (ho : o.op = .call { callee := .builtin .append, args := #[s, x], argTypes := #[29, 29] }) (B : Nat) (v vx : Value) (l r : List UInt8) (hs : a.eval s = v) (hx : a.eval x = vx)
    (hown : Own w B v l) (hrb : RB w vx r) (hB : B ≤ w.heap.size) (hsz : l.length + r.length ≤ 140737488355328)
    (h : ∀ v' w', Own w' B v' (l ++ r) → Grew w v w' v' → wpList Tryd.prog ops Q rest (a.put o.dst v') w') : wpList Tryd.prog ops Q (o :: rest) a w := by
  obtain ⟨i0, hi, hz0, hz1, hz2⟩ := info_parts Tryd.infoB
  obtain ⟨g, ad, cap, rfl, _, hr⟩ := hrb
  cases ad with
  | none =>
    have hr0 : r = [] := by
      rcases hr with h | ⟨off, h, _⟩
      · exact h
      · cases h
    subst hr0
    refine wpList_append_own_none' hgd s x 29 ho B 5 i0 1 Tryd.underlying29 hi v _ _ hs hown cap hx (h v w (by rw [List.append_nil]; exact hown) (Grew.refl _ _))
  | some ad =>
    refine wpList_append_own_at _ hgd s x 29 ho B 5 i0 (.int .u8 0) 1 1 Tryd.underlying29 hi hz0 hz1 hz2 rfl (by decide) v _ _ hs hown ad r.length cap (bv r) hx (by rw [bv_len]; omega) ?_ (bv_one r) (by unfold maxLen; omega) (by omega) hB ?_
    · intro j u hj
      rcases hr with h | ⟨off, h, hlt, hc⟩
      · rw [h] at hj; simp [bv] at hj
      · cases h
        have hjl : j < r.length := by have := (List.getElem?_eq_some_iff.1 hj).1; rwa [bv_len] at this
        obtain ⟨c, hc2⟩ := some_at hjl
        rw [bv_at hc2] at hj
        cases hj
        have e1 : (⟨g, off, none⟩ : Addr).add j = ⟨g, off + j, none⟩ := by simp [Addr.add]
        rw [e1]
        exact hc j c hc2
    · intro v' w' h1 h2 _ h4
      exact h v' w' (by unfold Own; rw [bv_app, List.length_append]; exact h1) (grew_at h2 h4)
theorem bv_be4 (c : Int) : bv (be 4 c) = [.int .u8 (c / 16777216 % 256), .int .u8 (c / 65536 % 256), .int .u8 (c / 256 % 256), .int .u8 (c % 256)] := by
  simp [be, bv, byteAt_nat]
theorem own_be4 {w : World} {B : Nat} {v : Value} {m : List UInt8} {c : Int} (h : w.ownsRow B 5 1 v (m.length + 4) (bv m ++ [.int .u8 (c / 16777216 % 256), .int .u8 (c / 65536 % 256), .int .u8 (c / 256 % 256), .int .u8 (c % 256)])) : Own w B v (m ++ be 4 c) := by
  unfold Own
  rw [bv_app, bv_be4, List.length_append, be_len]
  exact h
set_option maxRecDepth 100000 in
set_option maxHeartbeats 1000000 in
theorem putSum_any (c : Int) (B : Nat) (v : Value) (l : List UInt8) (w : World) (h0 : 0 ≤ c) (h1 : c < 4294967296) (ho : Own w B v l) (hB : B ≤ w.heap.size) (hl : l.length ≤ 140737488355300) :
    Calls Tryd.prog 73 #[v, .int .u32 c] w fun e w' => ∃ v', e = .returned v' ∧ Own w' B v' (l ++ be 4 c) ∧ Grew w v w' v' := by
  obtain ⟨i0, hi, hz0, hz1, hz2⟩ := info_parts Tryd.infoB
  obtain ⟨a0, c0, rfl⟩ := ho.slice
  go_enter Tryd.func73, Tryd.ntmps73
  go_wp2_with (first
    | (at_builtin; refine wpList_append_lies _ rfl _ _ 29 rfl B 5 i0 (.int .u8 0) 1 1 Tryd.underlying29 hi hz0 hz1 hz2 rfl (by decide) _ _ _ rfl (ho.alloc _) ⟨_, 0, none⟩ 4 4 [.int .u8 (c / 16777216 % 256), .int .u8 (c / 65536 % 256), .int .u8 (c / 256 % 256), .int .u8 (c % 256)] rfl rfl ?c1 ?c2 (by decide) ?c3 ?c4 ?c5 _ rfl ?_)
    | fail)
  case c1 =>
    intro j u hj
    match j, hj with
    | 0, hj => simp at hj; subst hj; simp [Addr.add]; omega
    | 1, hj => simp at hj; subst hj; simp [Addr.add]
    | 2, hj => simp at hj; subst hj; simp [Addr.add]
    | 3, hj => simp at hj; subst hj; simp [Addr.add]
  case c2 =>
    intro u hu
    simp only [List.mem_cons, List.not_mem_nil, or_false] at hu
    rcases hu with rfl | rfl | rfl | rfl <;> rfl
  case c3 => unfold maxLen; omega
  case c4 => omega
  case c5 => simp; omega
  intro g cap w1 hown' hgrow hat hlt'
  have HO1 := hide (own_be4 hown')
  have HG1 := hide (grew_lies (n := l.length + 4) (cap := cap) hgrow hat)
  clear hown' hgrow hat
  go_wp2_with fail
  go_ret
  exact ⟨_, rfl, HO1.out, HG1.out⟩

/-! ### what is taken, case by case -/
theorem unE_of2 {l m : List UInt8} {x e : Int} (h2 : un2 l = (x, m, e)) (he : e ≠ 0) : unE l = e := by
  have h3 : un3 l = ([], m, e) := by unfold un3 rdT; rw [h2]; exact if_pos he
  have h4 : un4 l = ([], m, e) := by unfold un4 rdT; rw [h3]; exact if_pos he
  unfold unE; rw [h4]; exact if_pos he
theorem unA {l : List UInt8} (h : (beg l).2.2 ≠ 0) : unE l = (beg l).2.2 := by
  have h1 : un1 l = (0, l, (beg l).2.2) := rdU_bad h
  exact unE_of2 (by unfold un2; rw [h1]; exact rdU_err h) h
theorem unB {l : List UInt8} (h : (beg l).2.2 = 0) (h2 : 65536 < (beg l).1) : unE l = 5 := by
  have h1 : un1 l = (0, l, 5) := rdU_many h h2
  exact unE_of2 (by unfold un2; rw [h1]; exact rdU_err (by show (5 : Int) ≠ 0; decide)) (by show (5 : Int) ≠ 0; decide)
theorem unC {l : List UInt8} (h : (beg l).2.2 = 0) (h2 : ¬ 65536 < (beg l).1) (h3 : (beg (l.drop (beg l).2.1)).2.2 ≠ 0) : unE l = (beg (l.drop (beg l).2.1)).2.2 := by
  have h1 : un1 l = ((beg l).1, l.drop (beg l).2.1, 0) := rdU_ok h h2
  exact unE_of2 (by unfold un2; rw [h1]; exact rdU_bad h3) h3
/-- Both numbers stand. -/
theorem unD {l : List UInt8} {S : Int} {n : Nat} {Y : Int} {k : Nat} (h : beg l = (S, n, 0)) (h2 : ¬ 65536 < S) (h3 : beg (l.drop n) = (Y, k, 0)) :
    un1 l = (S, l.drop n, 0) ∧ un2 l = (Y, l.drop (n + k), 0) := by
  have h1 : un1 l = (S, l.drop n, 0) := by
    have := rdU_ok (most := 65536) (l := l) (by rw [h]) (by rw [h]; exact h2)
    rw [h] at this; exact this
  refine ⟨h1, ?_⟩
  unfold un2
  rw [h1]
  have hy := (beg_rng (l.drop n)).2.1
  have := rdU_ok (most := 18446744073709551615) (l := l.drop n) (by rw [h3]) (by omega)
  rw [h3, List.drop_drop] at this
  exact this
theorem unD_short {l : List UInt8} {S : Int} {n : Nat} {Y : Int} {k : Nat} (h : beg l = (S, n, 0)) (h2 : ¬ 65536 < S) (h3 : beg (l.drop n) = (Y, k, 0)) (hs : (l.length : Int) < ((n + k : Nat) : Int) + 4 + S) (hn : n + k ≤ l.length) : unE l = 2 := by
  obtain ⟨q1, q2⟩ := unD h h2 h3
  have hd : (l.drop (n + k)).length = l.length - (n + k) := List.length_drop
  by_cases h4 : ((l.drop (n + k)).length : Int) < 4
  · have e3 : un3 l = ([], l.drop (n + k), 2) := by unfold un3 rdT; rw [q2]; dsimp only; rw [if_neg (by simp), if_pos h4]
    have e4 : un4 l = ([], l.drop (n + k), 2) := by unfold un4 rdT; rw [e3]; exact if_pos (by show (2 : Int) ≠ 0; decide)
    unfold unE; rw [e4]; exact if_pos (by show (2 : Int) ≠ 0; decide)
  · have e3 : un3 l = ((l.drop (n + k)).take 4, (l.drop (n + k)).drop 4, 0) := by unfold un3 rdT; rw [q2]; dsimp only; rw [if_neg (by simp), if_neg h4]; rfl
    have hd2 : ((l.drop (n + k)).drop 4).length = l.length - (n + k) - 4 := by rw [List.length_drop, hd]
    have e4 : un4 l = ([], (l.drop (n + k)).drop 4, 2) := by unfold un4 rdT; rw [e3, q1]; dsimp only; rw [if_neg (by simp), if_pos (by omega)]
    unfold unE; rw [e4]; exact if_pos (by show (2 : Int) ≠ 0; decide)
theorem unD_full {l : List UInt8} {s : Nat} {n : Nat} {Y : Int} {k : Nat} (h : beg l = ((s : Int), n, 0)) (h2 : ¬ 65536 < (s : Int)) (h3 : beg (l.drop n) = (Y, k, 0)) (hs : n + k + 4 + s ≤ l.length) :
    (un2 l).1 = Y ∧ un4 l = ((l.drop (n + k + 4)).take s, l.drop (n + k + 4 + s), 0) ∧ unE l = if bval ((l.drop (n + k)).take 4) = ((fsum Y ((l.drop (n + k + 4)).take s)).toNat : Int) then 0 else 7 := by
  obtain ⟨q1, q2⟩ := unD h h2 h3
  have hd : (l.drop (n + k)).length = l.length - (n + k) := List.length_drop
  have e3 : un3 l = ((l.drop (n + k)).take 4, l.drop (n + k + 4), 0) := by
    rw [show l.drop (n + k + 4) = (l.drop (n + k)).drop 4 from List.drop_drop.symm]
    unfold un3 rdT; rw [q2]; dsimp only; rw [if_neg (by simp), if_neg (by omega)]; rfl
  have hd2 : (l.drop (n + k + 4)).length = l.length - (n + k + 4) := List.length_drop
  have e4 : un4 l = ((l.drop (n + k + 4)).take s, l.drop (n + k + 4 + s), 0) := by
    unfold un4 rdT; rw [e3, q1]; dsimp only; rw [if_neg (by simp), if_neg (by omega), Int.toNat_natCast, List.drop_drop]
  refine ⟨by rw [q2], e4, ?_⟩
  unfold unE
  rw [e4, e3, q2]
  exact if_neg (by simp)
theorem rg_sub {w : World} {g off cap n m : Nat} {l : List UInt8} (h : RG w g (.slice (some ⟨g, off, none⟩) l.length cap) l) (hn : n ≤ m) (hm : m ≤ l.length) : RG w g (.slice (some ⟨g, off + n, none⟩) (m - n) (cap - n)) ((l.drop n).take (m - n)) := by
  have h1 := rg_drop (n := n) h (by omega)
  rw [show l.length - n = (l.drop n).length from List.length_drop.symm] at h1
  exact rg_take h1 (by rw [List.length_drop]; omega)

theorem ret_uf {a b c d e f : Int} {u v : Value} (h : a = b) (hu : u = v) (h2 : c = d) (h3 : e = f) : Ending.returned (.tuple #[.int .u64 a, u, .int .i64 c, .int .i64 e]) = .returned (.tuple #[.int .u64 b, v, .int .i64 d, .int .i64 f]) := by rw [h, hu, h2, h3]
set_option maxRecDepth 100000 in
set_option maxHeartbeats 4000000 in
theorem refUnframe_any (v : Value) (l : List UInt8) (w : World) (hv : RB w v l) (hl : l.length ≤ 140737488355000) :
    Calls Tryd.prog 53 #[v] w fun e w' => (∃ u, e = .returned (.tuple #[.int .u64 (if unE l = 0 then (un2 l).1 else 0), u, .int .i64 (if unE l = 0 then (l.length : Int) - ((un4 l).2.1.length : Int) else 0), .int .i64 (unE l)]) ∧ Own w' w.heap.size u (if unE l = 0 then (un4 l).1 else [])) ∧ Below w.heap.size w w' := by
  obtain ⟨g, hg⟩ := hv
  have HU1 := hide (refUint_any g v l w hg (by omega))
  obtain ⟨p0, p1, p2, p3⟩ := beg_rng l
  by_cases h1 : (beg l).2.2 = 0
  · obtain ⟨n1, nl, n9⟩ := p3 h1
    obtain ⟨s, hs⟩ := Int.eq_ofNat_of_zero_le p0
    obtain ⟨n, hn⟩ : ∃ n, Hid ((beg l).2.1 = n) := ⟨_, hide rfl⟩
    have HBG : Hid (beg l = ((s : Int), n, 0)) := hide (by rw [← hs, ← hn.out, ← h1])
    rw [HBG.out] at HU1
    dsimp only at HU1
    have HBB : Hid (65536 < (beg l).1 → unE l = 5) := hide fun h => unB h1 h
    have HCC : Hid (¬ 65536 < (beg l).1 → (beg (l.drop (beg l).2.1)).2.2 ≠ 0 → unE l = (beg (l.drop (beg l).2.1)).2.2) := hide fun h h' => unC h1 h h'
    rw [hs, hn.out] at HCC
    rw [hs] at HBB
    rw [hn.out] at n1 nl n9
    obtain ⟨a, cap, rfl, hcap, hr⟩ := hg
    have hex : ∃ off, a = some ⟨g, off, none⟩ := by
      rcases hr with h | ⟨off, h, _⟩
      · rw [h] at nl; simp at nl; omega
      · exact ⟨off, h⟩
    obtain ⟨off, rfl⟩ := hex
    have HG : Hid (RG w g (.slice (some ⟨g, off, none⟩) l.length cap) l) := hide ⟨_, _, rfl, hcap, hr⟩
    clear hr p0 p1 p2 p3 h1 hs hn
    by_cases hbig : 65536 < (s : Int)
    · rw [HBB.out hbig]
      simp only [show ¬ ((5 : Int) = 0) by decide, if_false]
      have dbig : decide (65536 < (s : Int)) = true := by rw [decide_eq_true_eq]; exact hbig
      clear HBB HCC HBG HG
      go_enter Tryd.func53, Tryd.ntmps53
      go_wp2_with fail
      refine HU1.out.mono ?_
      rintro e w1 ⟨rfl, hw⟩
      obtain rfl := hw.symm
      go_wp2_with fail
      exact bodyPost_ret (v := .tuple #[.int .u64 0, .slice none 0 0, .int .i64 0, .int .i64 5]) (by simp [results, Tryd.results53, go_sem]) rfl ⟨⟨_, rfl, Own.nil _ _⟩, Below.refl _ _⟩
    · have dbig : decide (65536 < (s : Int)) = false := by rw [decide_eq_false_iff_not]; exact hbig
      obtain ⟨q0, q1, q2, q3⟩ := beg_rng (l.drop n)
      by_cases hcn : cap = n
      · subst hcn
        have HU2 := hide (refUint_any g _ (l.drop cap) w (rg_drop_all (off := off) HG.out hcap) (by rw [List.length_drop]; omega))
        have hdn : l.drop cap = [] := List.drop_eq_nil_of_le hcap
        have hB0 : beg (l.drop cap) = (0, 0, 2) := by rw [hdn]; rfl
        rw [hB0] at HU2 HCC
        rw [HCC.out hbig (by show (2 : Int) ≠ 0; decide)]
        dsimp only at HU2 ⊢
        simp only [show ¬ ((2 : Int) = 0) by decide, if_false]
        clear HBB HCC HBG HG hB0 hdn q0 q1 q2 q3 hbig
        go_enter Tryd.func53, Tryd.ntmps53
        go_wp2_with fail
        refine HU1.out.mono ?_
        rintro e w1 ⟨rfl, hw⟩
        obtain rfl := hw.symm
        go_wp2_with fail
        refine HU2.out.mono ?_
        rintro e w1 ⟨rfl, hw⟩
        obtain rfl := hw.symm
        go_wp2_with fail
        exact bodyPost_ret (v := .tuple #[.int .u64 0, .slice none 0 0, .int .i64 0, .int .i64 2]) (by simp [results, Tryd.results53, go_sem]) rfl ⟨⟨_, rfl, Own.nil _ _⟩, Below.refl _ _⟩
      · have HU2 := hide (refUint_any g _ (l.drop n) w (rg_drop (n := n) HG.out nl) (by rw [List.length_drop]; omega))
        by_cases h2 : (beg (l.drop n)).2.2 = 0
        · obtain ⟨k1, kl, k9⟩ := q3 h2
          obtain ⟨Y, hY⟩ : ∃ Y, Hid ((beg (l.drop n)).1 = Y) := ⟨_, hide rfl⟩
          obtain ⟨k, hk⟩ : ∃ k, Hid ((beg (l.drop n)).2.1 = k) := ⟨_, hide rfl⟩
          have HB2 : Hid (beg (l.drop n) = (Y, k, 0)) := hide (by rw [← hY.out, ← hk.out, ← h2])
          have HFM := hide (beg_form h2)
          rw [HB2.out] at HU2 HFM
          rw [hk.out] at k1 kl k9
          rw [hY.out] at q0 q1
          dsimp only at HU2 HFM
          rw [List.length_drop] at kl
          obtain ⟨m, hm⟩ : ∃ m : Nat, (n : Int) + (k : Int) = (m : Int) := ⟨n + k, by omega⟩
          have HM : Hid (m = n + k) := hide (by omega)
          obtain ⟨m4, hm4⟩ : ∃ m4 : Nat, (m : Int) + 4 = (m4 : Int) := ⟨m + 4, by omega⟩
          obtain ⟨m5, hm5⟩ : ∃ m5 : Nat, (m4 : Int) + (s : Int) = (m5 : Int) := ⟨m4 + s, by omega⟩
          by_cases hsh : (l.length : Int) < (m5 : Int)
          · rw [unD_short HBG.out hbig HB2.out (by have := HM.out; omega) (by omega)]
            simp only [show ¬ ((2 : Int) = 0) by decide, if_false]
            clear HBB HCC HG HFM HBG HB2 q2 q3 h2
            by_cases hs1 : (l.length : Int) < (m4 : Int)
            · have d1 : decide ((l.length : Int) < (m4 : Int)) = true := by rw [decide_eq_true_eq]; exact hs1
              go_enter Tryd.func53, Tryd.ntmps53
              go_wp2_with fail
              refine HU1.out.mono ?_
              rintro e w1 ⟨rfl, hw⟩
              obtain rfl := hw.symm
              go_wp2_with fail
              refine HU2.out.mono ?_
              rintro e w1 ⟨rfl, hw⟩
              obtain rfl := hw.symm
              go_wp2_with fail
              exact bodyPost_ret (v := .tuple #[.int .u64 0, .slice none 0 0, .int .i64 0, .int .i64 2]) (by simp [results, Tryd.results53, go_sem]) rfl ⟨⟨_, rfl, Own.nil _ _⟩, Below.refl _ _⟩
            · have d1 : decide ((l.length : Int) < (m4 : Int)) = false := by rw [decide_eq_false_iff_not]; exact hs1
              have d2 : decide ((l.length : Int) < (m5 : Int)) = true := by rw [decide_eq_true_eq]; exact hsh
              go_enter Tryd.func53, Tryd.ntmps53
              go_wp2_with fail
              refine HU1.out.mono ?_
              rintro e w1 ⟨rfl, hw⟩
              obtain rfl := hw.symm
              go_wp2_with fail
              refine HU2.out.mono ?_
              rintro e w1 ⟨rfl, hw⟩
              obtain rfl := hw.symm
              go_wp2_with fail
              exact bodyPost_ret (v := .tuple #[.int .u64 0, .slice none 0 0, .int .i64 0, .int .i64 2]) (by simp [results, Tryd.results53, go_sem]) rfl ⟨⟨_, rfl, Own.nil _ _⟩, Below.refl _ _⟩
          · have d1 : decide ((l.length : Int) < (m4 : Int)) = false := by rw [decide_eq_false_iff_not]; omega
            have d2 : decide ((l.length : Int) < (m5 : Int)) = false := by rw [decide_eq_false_iff_not]; exact hsh
            obtain ⟨r2, r4, rE⟩ := unD_full HBG.out hbig HB2.out (by have := HM.out; omega)
            have HR2 := hide r2
            have HR4 := hide r4
            have HRE := hide rE
            clear r2 r4 rE
            have hmn : n ≤ m := by omega
            have hml : m4 ≤ l.length := by omega
            have hml5 : m5 ≤ l.length := by omega
            have HCP1 := hide (copyBytes_any _ ((l.drop n).take (m - n)) w ⟨g, rg_sub HG.out hmn (by omega)⟩ (by rw [List.length_take, List.length_drop]; omega))
            rw [show (l.drop n).take (m - n) = form Y by rw [HFM.out]; congr 1; have := HM.out; omega] at HCP1
            have HPAY : Hid ((l.drop m4).take (m5 - m4) = (l.drop (n + k + 4)).take s) := hide (by
              have := HM.out
              rw [show m5 - m4 = s by omega, show m4 = n + k + 4 by omega])
            have HSUM : Hid ((l.drop m).take (m4 - m) = (l.drop (n + k)).take 4) := hide (by
              have := HM.out
              rw [show m4 - m = 4 by omega, show m = n + k by omega])
            rw [HR2.out, HR4.out, HRE.out]
            dsimp only
            have HLEN : Hid ((l.length : Int) - ((l.drop (n + k + 4 + s)).length : Int) = (m5 : Int)) := hide (by rw [List.length_drop]; have := HM.out; omega)
            rw [HLEN.out]
            have HRS := hide (rg_sub HG.out (show m ≤ m4 by omega) hml)
            rw [HSUM.out] at HRS
            have hsm4 : ((l.drop (n + k)).take 4).length = 4 := by rw [List.length_take, List.length_drop]; have := HM.out; omega
            have hpay : ((l.drop (n + k + 4)).take s).length = s := by rw [List.length_take, List.length_drop]; have := HM.out; omega
            have hfy := form_le Y
            have HSRC1 : Hid (cap ≠ m4 → ∀ W, Below w.heap.size w W → RB W (.slice (some ⟨g, off + m4, none⟩) (m5 - m4) (cap - m4)) ((l.drop (n + k + 4)).take s)) := hide fun _ W hb => by
              have h := rg_sub HG.out (show m4 ≤ m5 by omega) hml5
              rw [HPAY.out] at h
              exact ⟨g, h.later hb⟩
            have HSRC2 : Hid (cap = m4 → ∀ W, Below w.heap.size w W → RB W (.slice (some ⟨g, off, none⟩) 0 0) ((l.drop (n + k + 4)).take s)) := hide fun h9 W hb => by
              have h0 : (l.drop (n + k + 4)).take s = l.drop m4 := by
                rw [← HPAY.out, List.drop_eq_nil_of_le (by omega)]; simp
              rw [h0]
              exact ⟨g, (rg_drop_all (off := off) HG.out (by omega)).later hb⟩
            have hms : m5 - m4 = s := by omega
            have HMS := hide hms
            clear hms
            obtain ⟨pay, hP⟩ : ∃ pay, Hid ((l.drop (n + k + 4)).take s = pay) := ⟨_, hide rfl⟩
            obtain ⟨sm, hS⟩ : ∃ sm, Hid ((l.drop (n + k)).take 4 = sm) := ⟨_, hide rfl⟩
            rw [hP.out] at HSRC1 HSRC2 hpay ⊢
            rw [hS.out] at HRS hsm4 ⊢
            clear HPAY HSUM HFM HBG HB2 HCC HBB HRE HR4 HR2 hP hS HM q2 q3 h2
            have hpb : pay.length ≤ 65536 := by omega
            have HS4 := hide hsm4
            clear hpay hsm4
            by_cases hq : bval sm = ((fsum Y pay).toNat : Int)
            · rw [if_pos hq]
              simp only [if_true]
              by_cases hc4 : cap = m4
              · have hm54 : m5 = m4 := by omega
                have HSRC := hide (HSRC2.out hc4)
                clear HSRC1 HSRC2
                subst hm54
                subst hc4
                go_enter Tryd.func53, Tryd.ntmps53
                go_wp2_with fail
                refine HU1.out.mono ?_
                rintro e w1 ⟨rfl, hw⟩
                obtain rfl := hw.symm
                go_wp2_with fail
                refine HU2.out.mono ?_
                rintro e w1 ⟨rfl, hw⟩
                obtain rfl := hw.symm
                go_wp2_with fail
                refine HCP1.out.mono ?_
                rintro e w1 ⟨v1, rfl, ho1, hb1⟩
                have HO1 := hide ho1
                have HB1 := hide hb1
                have HCP2 := hide (copyBytes_any _ pay w1 (HSRC.out w1 hb1) (by omega))
                obtain ⟨a1, c1, rfl⟩ := ho1.slice
                have HW1 : Hid (w.heap.size ≤ w1.heap.size) := hide hb1.size
                clear ho1 hb1 HCP1 HSRC
                go_wp2_with fail
                refine HCP2.out.mono ?_
                rintro e w2 ⟨v2, rfl, ho2, hb2⟩
                have HB2 := hide (HB1.out.trans (hb2.mono HB1.out.size))
                have HO2 := hide ho2
                have HO12 := hide (HO1.out.later hb2)
                obtain ⟨a2, c2, rfl⟩ := ho2.slice
                clear ho2 hb2 HCP2
                go_wp2_with (first
                  | (at_builtin; refine wp_append_rb rfl _ _ rfl w.heap.size _ _ (form Y) pay rfl rfl HO12.out HO2.out.rb ?c1 ?c2 ?_)
                  | fail)
                case c1 => exact HB2.out.size
                case c2 => omega
                intro v3 w3 ho3 hg3
                have HB3 := hide (hg3.toBelow HB2.out HB2.out.size (fun q hq => HO12.out.at q hq))
                have HO23 : Hid (Own w3 w1.heap.size (.slice a2 pay.length c2) pay) := hide (World.ownsRow.kept HO2.out hg3.grown (by
                  cases a2 with
                  | none => exact .inl rfl
                  | some q2 =>
                    right
                    cases a1 with
                    | none => intro h; cases h
                    | some q =>
                      intro h
                      have e1 := (World.ownsRow.lt HO2.out q2.block rfl).1
                      have e2 := (World.ownsRow.lt HO1.out q.block rfl).2
                      have e3 : q2.block = q.block := Option.some.inj h
                      omega))
                obtain ⟨inn, hI⟩ : ∃ inn, Hid (form Y ++ pay = inn) := ⟨_, hide rfl⟩
                have hil : (form Y ++ pay).length ≤ 65600 := by rw [List.length_append]; omega
                have hfs : sumB (form Y ++ pay) = fsum Y pay := rfl
                rw [hI.out] at ho3 hil hfs
                have HFS := hide hfs
                clear hfs
                obtain ⟨g3, hg3', _⟩ := ho3.rg
                obtain ⟨a3, c3, rfl⟩ := ho3.slice
                have s1 := bv_lt (fsum Y pay)
                have s0 : (0 : Int) ≤ ((fsum Y pay).toNat : Int) := by omega
                obtain ⟨C, hC⟩ : ∃ C : Int, Hid (((fsum Y pay).toNat : Int) = C) := ⟨_, hide rfl⟩
                rw [hC.out] at s1 s0 hq
                have HPS := hide (fun W : World => putSum_any C W.heap.size (.slice none 0 0) [] W s0 s1 (Own.nil _ _) (Nat.le_refl _) (by simp))
                have hbe : ([] ++ be 4 C = sm) ↔ bval sm = C := by
                  rw [List.nil_append]
                  constructor
                  · intro h
                    rw [← h, bval_be]
                    omega
                  · intro h
                    have := be_bval sm
                    rw [HS4.out, h] at this
                    exact this
                have HSB := hide (fun (W : World) (v4 : Value) (h4 : Own W w3.heap.size v4 ([] ++ be 4 C)) (hb : Below w.heap.size w W) => sameBytes_any v4 _ ([] ++ be 4 C) sm W h4.rb ⟨g, HRS.out.later hb⟩ (by simp [be_len]))
                have HSM3 : Hid (∀ W : World, Below w3.heap.size w3 W → Calls Tryd.prog 74 #[.slice a3 inn.length c3] W fun e w' => e = .returned (.int .u32 C) ∧ w' = W) := hide (fun W hb => by
                  have h := refSum_any g3 _ inn W (hg3'.later hb) (by omega)
                  rw [HFS.out, hC.out] at h
                  exact h)
                clear ho3 hg3 hg3' HO2 HO12 HO1 HB1 HB2
                go_wp2_with fail
                simp only [decide_eq_true (hbe.2 hq)] at HSB
                clear hbe hq
                have wm4 : IntKind.i64.wrap (cap : Int) = (cap : Int) := by rw [IntKind.wrap_i64]; omega
                have hcm : ¬ cap = m := by omega
                have hm44 : m ≤ cap := by omega
                have hm4c : (cap : Int) ≤ (cap : Int) := by omega
                refine begins_held (S := fun _ => True) 10 #[false, false, false, false, false, false, false, false, false, false] (by kernel_rfl) (by kernel_rfl) (by kernel_rfl) trivial (fun hHeld => ?_)
                refine tk (v := ?_) 0 72 #[true, false, false, false, false, false, false, false, false, false] rfl rfl (by kernel_rfl) (by kernel_rfl) (by kernel_rfl) (fun _ _ _ h => h) (by kernel_rfl) (by rfl) ?hy hHeld ?_
                case hy => intro W _; first | (go_simp; done) | (go_simp; with_reducible rfl)
                simp only [List.setIfInBounds_toArray, List.set_cons_zero, List.set_cons_succ]
                refine tk (v := ?_) 3 75 #[true, false, false, true, false, false, false, false, false, false] rfl rfl (by kernel_rfl) (by kernel_rfl) (by kernel_rfl) (fun _ _ _ h => h) (by kernel_rfl) (by rfl) ?hy hHeld ?_
                case hy => intro W _; first | (go_simp; done) | (go_simp; with_reducible rfl)
                simp only [List.setIfInBounds_toArray, List.set_cons_zero, List.set_cons_succ]
                refine tk (v := ?_) 4 76 #[true, false, false, true, true, false, false, false, false, false] rfl rfl (by kernel_rfl) (by kernel_rfl) (by kernel_rfl) (fun _ _ _ h => h) (by kernel_rfl) (by rfl) ?hy hHeld ?_
                case hy => intro W _; first | (go_simp; done) | (go_simp; with_reducible rfl)
                simp only [List.setIfInBounds_toArray, List.set_cons_zero, List.set_cons_succ]
                refine tk (v := ?_) 5 77 #[true, false, false, true, true, true, false, false, false, false] rfl rfl (by kernel_rfl) (by kernel_rfl) (by kernel_rfl) (fun _ _ _ h => h) (by kernel_rfl) (by rfl) ?hy hHeld ?_
                case hy => intro W _; first | (go_simp; done) | (go_simp; with_reducible rfl)
                simp only [List.setIfInBounds_toArray, List.set_cons_zero, List.set_cons_succ]
                refine tk (v := ?_) 6 78 #[true, false, false, true, true, true, true, false, false, false] rfl rfl (by kernel_rfl) (by kernel_rfl) (by kernel_rfl) (fun _ _ _ h => h) (by kernel_rfl) (by rfl) ?hy hHeld ?_
                case hy => intro W _; first | (go_simp; done) | (go_simp; with_reducible rfl)
                simp only [List.setIfInBounds_toArray, List.set_cons_zero, List.set_cons_succ]
                refine tk (v := ?_) 7 79 #[true, false, false, true, true, true, true, true, false, false] rfl rfl (by kernel_rfl) (by kernel_rfl) (by kernel_rfl) (fun _ _ _ h => h) (by kernel_rfl) (by rfl) ?hy hHeld ?_
                case hy => intro W _; first | (go_simp; done) | (go_simp; with_reducible rfl)
                simp only [List.setIfInBounds_toArray, List.set_cons_zero, List.set_cons_succ]
                refine one_ready 1 #[true, true, false, true, true, true, true, true, false, false] rfl (by kernel_rfl) (by kernel_rfl) (by rfl) (fun K hK => ?_)
                go_simp
                refine (HSM3.out _ (Below.refl _ _).drew).mono ?_
                rintro e w' ⟨rfl, hw⟩
                obtain rfl := hw.symm
                go_wp2_with fail
                refine hK.out _ _ trivial (fun hHeld => ?_)
                clear hK K
                refine one_ready 2 #[true, true, true, true, true, true, true, true, false, false] rfl (by kernel_rfl) (by kernel_rfl) (by rfl) (fun K hK => ?_)
                go_simp
                refine (HPS.out _).mono ?_
                rintro e w4 ⟨v4, rfl, ho4, hg4⟩
                have hb4 : Below w3.heap.size w3 w4 := hg4.toBelow (Below.refl _ _).drew (Nat.le_refl _) (fun q hq => by cases hq)
                have HB4 := hide (HB3.out.trans (hb4.mono HB3.out.size))
                have HO24 := hide (HO23.out.later hb4)
                have HSB4 := hide (HSB.out w4 v4 ho4 HB4.out)
                obtain ⟨a4, c4, hv4⟩ := ho4.slice
                have hv5 : v4 = .slice a4 4 c4 := by rw [hv4, List.nil_append, be_len]
                subst hv5
                clear ho4 hg4 hb4 hv4
                go_wp2_with fail
                refine hK.out _ _ trivial (fun hHeld => ?_)
                clear hK K
                refine one_ready 8 #[true, true, true, true, true, true, true, true, true, false] rfl (by kernel_rfl) (by kernel_rfl) (by rfl) (fun K hK => ?_)
                go_simp
                refine HSB4.out.mono ?_
                rintro e w5 ⟨rfl, hb5⟩
                have HB5 := hide (HB4.out.trans (hb5.mono HB4.out.size))
                have HO25 := hide (HO24.out.later hb5)
                clear hb5
                go_wp2_with fail
                refine hK.out _ _ trivial (fun hHeld => ?_)
                clear hK K
                refine tk (v := ?_) 9 81 #[true, true, true, true, true, true, true, true, true, true] rfl rfl (by kernel_rfl) (by kernel_rfl) (by kernel_rfl) (fun _ _ _ h => h) (by kernel_rfl) (by rfl) ?hy hHeld ?_
                case hy => intro W _; first | (go_simp; done) | (go_simp; with_reducible rfl)
                simp only [List.setIfInBounds_toArray, List.set_cons_zero, List.set_cons_succ]
                refine wpAnyH_done (by kernel_rfl) ?_ _
                go_wp2_with fail
                exact bodyPost_ret (v := .tuple #[.int .u64 Y, .slice a2 pay.length c2, .int .i64 (cap : Int), .int .i64 0]) (by simp [results, Tryd.results53, go_sem]) rfl ⟨⟨_, rfl, HO25.out.base fun q hq => Nat.le_trans HW1.out (HO25.out.at q hq)⟩, HB5.out⟩
              · have HSRC := hide (HSRC1.out hc4)
                clear HSRC1 HSRC2
                go_enter Tryd.func53, Tryd.ntmps53
                go_wp2_with fail
                refine HU1.out.mono ?_
                rintro e w1 ⟨rfl, hw⟩
                obtain rfl := hw.symm
                go_wp2_with fail
                refine HU2.out.mono ?_
                rintro e w1 ⟨rfl, hw⟩
                obtain rfl := hw.symm
                go_wp2_with fail
                refine HCP1.out.mono ?_
                rintro e w1 ⟨v1, rfl, ho1, hb1⟩
                have HO1 := hide ho1
                have HB1 := hide hb1
                have HCP2 := hide (copyBytes_any _ pay w1 (HSRC.out w1 hb1) (by omega))
                obtain ⟨a1, c1, rfl⟩ := ho1.slice
                have HW1 : Hid (w.heap.size ≤ w1.heap.size) := hide hb1.size
                clear ho1 hb1 HCP1 HSRC
                go_wp2_with fail
                refine HCP2.out.mono ?_
                rintro e w2 ⟨v2, rfl, ho2, hb2⟩
                have HB2 := hide (HB1.out.trans (hb2.mono HB1.out.size))
                have HO2 := hide ho2
                have HO12 := hide (HO1.out.later hb2)
                obtain ⟨a2, c2, rfl⟩ := ho2.slice
                clear ho2 hb2 HCP2
                go_wp2_with (first
                  | (at_builtin; refine wp_append_rb rfl _ _ rfl w.heap.size _ _ (form Y) pay rfl rfl HO12.out HO2.out.rb ?c1 ?c2 ?_)
                  | fail)
                case c1 => exact HB2.out.size
                case c2 => omega
                intro v3 w3 ho3 hg3
                have HB3 := hide (hg3.toBelow HB2.out HB2.out.size (fun q hq => HO12.out.at q hq))
                have HO23 : Hid (Own w3 w1.heap.size (.slice a2 pay.length c2) pay) := hide (World.ownsRow.kept HO2.out hg3.grown (by
                  cases a2 with
                  | none => exact .inl rfl
                  | some q2 =>
                    right
                    cases a1 with
                    | none => intro h; cases h
                    | some q =>
                      intro h
                      have e1 := (World.ownsRow.lt HO2.out q2.block rfl).1
                      have e2 := (World.ownsRow.lt HO1.out q.block rfl).2
                      have e3 : q2.block = q.block := Option.some.inj h
                      omega))
                obtain ⟨inn, hI⟩ : ∃ inn, Hid (form Y ++ pay = inn) := ⟨_, hide rfl⟩
                have hil : (form Y ++ pay).length ≤ 65600 := by rw [List.length_append]; omega
                have hfs : sumB (form Y ++ pay) = fsum Y pay := rfl
                rw [hI.out] at ho3 hil hfs
                have HFS := hide hfs
                clear hfs
                obtain ⟨g3, hg3', _⟩ := ho3.rg
                obtain ⟨a3, c3, rfl⟩ := ho3.slice
                have s1 := bv_lt (fsum Y pay)
                have s0 : (0 : Int) ≤ ((fsum Y pay).toNat : Int) := by omega
                obtain ⟨C, hC⟩ : ∃ C : Int, Hid (((fsum Y pay).toNat : Int) = C) := ⟨_, hide rfl⟩
                rw [hC.out] at s1 s0 hq
                have HPS := hide (fun W : World => putSum_any C W.heap.size (.slice none 0 0) [] W s0 s1 (Own.nil _ _) (Nat.le_refl _) (by simp))
                have hbe : ([] ++ be 4 C = sm) ↔ bval sm = C := by
                  rw [List.nil_append]
                  constructor
                  · intro h
                    rw [← h, bval_be]
                    omega
                  · intro h
                    have := be_bval sm
                    rw [HS4.out, h] at this
                    exact this
                have HSB := hide (fun (W : World) (v4 : Value) (h4 : Own W w3.heap.size v4 ([] ++ be 4 C)) (hb : Below w.heap.size w W) => sameBytes_any v4 _ ([] ++ be 4 C) sm W h4.rb ⟨g, HRS.out.later hb⟩ (by simp [be_len]))
                have HSM3 : Hid (∀ W : World, Below w3.heap.size w3 W → Calls Tryd.prog 74 #[.slice a3 inn.length c3] W fun e w' => e = .returned (.int .u32 C) ∧ w' = W) := hide (fun W hb => by
                  have h := refSum_any g3 _ inn W (hg3'.later hb) (by omega)
                  rw [HFS.out, hC.out] at h
                  exact h)
                clear ho3 hg3 hg3' HO2 HO12 HO1 HB1 HB2
                go_wp2_with fail
                simp only [decide_eq_true (hbe.2 hq)] at HSB
                clear hbe hq
                have wm4 : IntKind.i64.wrap (m4 : Int) = (m4 : Int) := by rw [IntKind.wrap_i64]; omega
                have hcm : ¬ cap = m := by omega
                have hm44 : m ≤ m4 := by omega
                have hm4c : (m4 : Int) ≤ (cap : Int) := by omega
                refine begins_held (S := fun _ => True) 10 #[false, false, false, false, false, false, false, false, false, false] (by kernel_rfl) (by kernel_rfl) (by kernel_rfl) trivial (fun hHeld => ?_)
                refine tk (v := ?_) 0 72 #[true, false, false, false, false, false, false, false, false, false] rfl rfl (by kernel_rfl) (by kernel_rfl) (by kernel_rfl) (fun _ _ _ h => h) (by kernel_rfl) (by rfl) ?hy hHeld ?_
                case hy => intro W _; first | (go_simp; done) | (go_simp; with_reducible rfl)
                simp only [List.setIfInBounds_toArray, List.set_cons_zero, List.set_cons_succ]
                refine tk (v := ?_) 3 75 #[true, false, false, true, false, false, false, false, false, false] rfl rfl (by kernel_rfl) (by kernel_rfl) (by kernel_rfl) (fun _ _ _ h => h) (by kernel_rfl) (by rfl) ?hy hHeld ?_
                case hy => intro W _; first | (go_simp; done) | (go_simp; with_reducible rfl)
                simp only [List.setIfInBounds_toArray, List.set_cons_zero, List.set_cons_succ]
                refine tk (v := ?_) 4 76 #[true, false, false, true, true, false, false, false, false, false] rfl rfl (by kernel_rfl) (by kernel_rfl) (by kernel_rfl) (fun _ _ _ h => h) (by kernel_rfl) (by rfl) ?hy hHeld ?_
                case hy => intro W _; first | (go_simp; done) | (go_simp; with_reducible rfl)
                simp only [List.setIfInBounds_toArray, List.set_cons_zero, List.set_cons_succ]
                refine tk (v := ?_) 5 77 #[true, false, false, true, true, true, false, false, false, false] rfl rfl (by kernel_rfl) (by kernel_rfl) (by kernel_rfl) (fun _ _ _ h => h) (by kernel_rfl) (by rfl) ?hy hHeld ?_
                case hy => intro W _; first | (go_simp; done) | (go_simp; with_reducible rfl)
                simp only [List.setIfInBounds_toArray, List.set_cons_zero, List.set_cons_succ]
                refine tk (v := ?_) 6 78 #[true, false, false, true, true, true, true, false, false, false] rfl rfl (by kernel_rfl) (by kernel_rfl) (by kernel_rfl) (fun _ _ _ h => h) (by kernel_rfl) (by rfl) ?hy hHeld ?_
                case hy => intro W _; first | (go_simp; done) | (go_simp; with_reducible rfl)
                simp only [List.setIfInBounds_toArray, List.set_cons_zero, List.set_cons_succ]
                refine tk (v := ?_) 7 79 #[true, false, false, true, true, true, true, true, false, false] rfl rfl (by kernel_rfl) (by kernel_rfl) (by kernel_rfl) (fun _ _ _ h => h) (by kernel_rfl) (by rfl) ?hy hHeld ?_
                case hy => intro W _; first | (go_simp; done) | (go_simp; with_reducible rfl)
                simp only [List.setIfInBounds_toArray, List.set_cons_zero, List.set_cons_succ]
                refine one_ready 1 #[true, true, false, true, true, true, true, true, false, false] rfl (by kernel_rfl) (by kernel_rfl) (by rfl) (fun K hK => ?_)
                go_simp
                refine (HSM3.out _ (Below.refl _ _).drew).mono ?_
                rintro e w' ⟨rfl, hw⟩
                obtain rfl := hw.symm
                go_wp2_with fail
                refine hK.out _ _ trivial (fun hHeld => ?_)
                clear hK K
                refine one_ready 2 #[true, true, true, true, true, true, true, true, false, false] rfl (by kernel_rfl) (by kernel_rfl) (by rfl) (fun K hK => ?_)
                go_simp
                refine (HPS.out _).mono ?_
                rintro e w4 ⟨v4, rfl, ho4, hg4⟩
                have hb4 : Below w3.heap.size w3 w4 := hg4.toBelow (Below.refl _ _).drew (Nat.le_refl _) (fun q hq => by cases hq)
                have HB4 := hide (HB3.out.trans (hb4.mono HB3.out.size))
                have HO24 := hide (HO23.out.later hb4)
                have HSB4 := hide (HSB.out w4 v4 ho4 HB4.out)
                obtain ⟨a4, c4, hv4⟩ := ho4.slice
                have hv5 : v4 = .slice a4 4 c4 := by rw [hv4, List.nil_append, be_len]
                subst hv5
                clear ho4 hg4 hb4 hv4
                go_wp2_with fail
                refine hK.out _ _ trivial (fun hHeld => ?_)
                clear hK K
                refine one_ready 8 #[true, true, true, true, true, true, true, true, true, false] rfl (by kernel_rfl) (by kernel_rfl) (by rfl) (fun K hK => ?_)
                go_simp
                refine HSB4.out.mono ?_
                rintro e w5 ⟨rfl, hb5⟩
                have HB5 := hide (HB4.out.trans (hb5.mono HB4.out.size))
                have HO25 := hide (HO24.out.later hb5)
                clear hb5
                go_wp2_with fail
                refine hK.out _ _ trivial (fun hHeld => ?_)
                clear hK K
                refine tk (v := ?_) 9 81 #[true, true, true, true, true, true, true, true, true, true] rfl rfl (by kernel_rfl) (by kernel_rfl) (by kernel_rfl) (fun _ _ _ h => h) (by kernel_rfl) (by rfl) ?hy hHeld ?_
                case hy => intro W _; first | (go_simp; done) | (go_simp; with_reducible rfl)
                simp only [List.setIfInBounds_toArray, List.set_cons_zero, List.set_cons_succ]
                refine wpAnyH_done (by kernel_rfl) ?_ _
                go_wp2_with fail
                exact bodyPost_ret (v := .tuple #[.int .u64 Y, .slice a2 pay.length c2, .int .i64 (m5 : Int), .int .i64 0]) (by simp [results, Tryd.results53, go_sem]) rfl ⟨⟨_, rfl, HO25.out.base fun q hq => Nat.le_trans HW1.out (HO25.out.at q hq)⟩, HB5.out⟩
            · rw [if_neg hq]
              simp only [show ¬ ((7 : Int) = 0) by decide, if_false]
              by_cases hc4 : cap = m4
              · have hm54 : m5 = m4 := by omega
                have HSRC := hide (HSRC2.out hc4)
                clear HSRC1 HSRC2
                subst hm54
                subst hc4
                go_enter Tryd.func53, Tryd.ntmps53
                go_wp2_with fail
                refine HU1.out.mono ?_
                rintro e w1 ⟨rfl, hw⟩
                obtain rfl := hw.symm
                go_wp2_with fail
                refine HU2.out.mono ?_
                rintro e w1 ⟨rfl, hw⟩
                obtain rfl := hw.symm
                go_wp2_with fail
                refine HCP1.out.mono ?_
                rintro e w1 ⟨v1, rfl, ho1, hb1⟩
                have HO1 := hide ho1
                have HB1 := hide hb1
                have HCP2 := hide (copyBytes_any _ pay w1 (HSRC.out w1 hb1) (by omega))
                obtain ⟨a1, c1, rfl⟩ := ho1.slice
                clear ho1 hb1 HCP1 HSRC
                go_wp2_with fail
                refine HCP2.out.mono ?_
                rintro e w2 ⟨v2, rfl, ho2, hb2⟩
                have HB2 := hide (HB1.out.trans (hb2.mono HB1.out.size))
                have HO2 := hide ho2
                have HO12 := hide (HO1.out.later hb2)
                obtain ⟨a2, c2, rfl⟩ := ho2.slice
                clear ho2 hb2 HCP2
                go_wp2_with (first
                  | (at_builtin; refine wp_append_rb rfl _ _ rfl w.heap.size _ _ (form Y) pay rfl rfl HO12.out HO2.out.rb ?c1 ?c2 ?_)
                  | fail)
                case c1 => exact HB2.out.size
                case c2 => omega
                intro v3 w3 ho3 hg3
                have HB3 := hide (hg3.toBelow HB2.out HB2.out.size (fun q hq => HO12.out.at q hq))
                have HO23 : Hid (Own w3 w1.heap.size (.slice a2 pay.length c2) pay) := hide (World.ownsRow.kept HO2.out hg3.grown (by
                  cases a2 with
                  | none => exact .inl rfl
                  | some q2 =>
                    right
                    cases a1 with
                    | none => intro h; cases h
                    | some q =>
                      intro h
                      have e1 := (World.ownsRow.lt HO2.out q2.block rfl).1
                      have e2 := (World.ownsRow.lt HO1.out q.block rfl).2
                      have e3 : q2.block = q.block := Option.some.inj h
                      omega))
                obtain ⟨inn, hI⟩ : ∃ inn, Hid (form Y ++ pay = inn) := ⟨_, hide rfl⟩
                have hil : (form Y ++ pay).length ≤ 65600 := by rw [List.length_append]; omega
                have hfs : sumB (form Y ++ pay) = fsum Y pay := rfl
                rw [hI.out] at ho3 hil hfs
                have HFS := hide hfs
                clear hfs
                obtain ⟨g3, hg3', _⟩ := ho3.rg
                obtain ⟨a3, c3, rfl⟩ := ho3.slice
                have s1 := bv_lt (fsum Y pay)
                have s0 : (0 : Int) ≤ ((fsum Y pay).toNat : Int) := by omega
                obtain ⟨C, hC⟩ : ∃ C : Int, Hid (((fsum Y pay).toNat : Int) = C) := ⟨_, hide rfl⟩
                rw [hC.out] at s1 s0 hq
                have HPS := hide (fun W : World => putSum_any C W.heap.size (.slice none 0 0) [] W s0 s1 (Own.nil _ _) (Nat.le_refl _) (by simp))
                have hbe : ([] ++ be 4 C = sm) ↔ bval sm = C := by
                  rw [List.nil_append]
                  constructor
                  · intro h
                    rw [← h, bval_be]
                    omega
                  · intro h
                    have := be_bval sm
                    rw [HS4.out, h] at this
                    exact this
                have HSB := hide (fun (W : World) (v4 : Value) (h4 : Own W w3.heap.size v4 ([] ++ be 4 C)) (hb : Below w.heap.size w W) => sameBytes_any v4 _ ([] ++ be 4 C) sm W h4.rb ⟨g, HRS.out.later hb⟩ (by simp [be_len]))
                have HSM3 : Hid (∀ W : World, Below w3.heap.size w3 W → Calls Tryd.prog 74 #[.slice a3 inn.length c3] W fun e w' => e = .returned (.int .u32 C) ∧ w' = W) := hide (fun W hb => by
                  have h := refSum_any g3 _ inn W (hg3'.later hb) (by omega)
                  rw [HFS.out, hC.out] at h
                  exact h)
                clear ho3 hg3 hg3' HO2 HO12 HO1 HB1 HB2
                go_wp2_with fail
                simp only [decide_eq_false (fun h => hq (hbe.1 h))] at HSB
                clear hbe hq
                have wm4 : IntKind.i64.wrap (cap : Int) = (cap : Int) := by rw [IntKind.wrap_i64]; omega
                have hcm : ¬ cap = m := by omega
                have hm44 : m ≤ cap := by omega
                have hm4c : (cap : Int) ≤ (cap : Int) := by omega
                refine begins_held (S := fun _ => True) 10 #[false, false, false, false, false, false, false, false, false, false] (by kernel_rfl) (by kernel_rfl) (by kernel_rfl) trivial (fun hHeld => ?_)
                refine tk (v := ?_) 0 72 #[true, false, false, false, false, false, false, false, false, false] rfl rfl (by kernel_rfl) (by kernel_rfl) (by kernel_rfl) (fun _ _ _ h => h) (by kernel_rfl) (by rfl) ?hy hHeld ?_
                case hy => intro W _; first | (go_simp; done) | (go_simp; with_reducible rfl)
                simp only [List.setIfInBounds_toArray, List.set_cons_zero, List.set_cons_succ]
                refine tk (v := ?_) 3 75 #[true, false, false, true, false, false, false, false, false, false] rfl rfl (by kernel_rfl) (by kernel_rfl) (by kernel_rfl) (fun _ _ _ h => h) (by kernel_rfl) (by rfl) ?hy hHeld ?_
                case hy => intro W _; first | (go_simp; done) | (go_simp; with_reducible rfl)
                simp only [List.setIfInBounds_toArray, List.set_cons_zero, List.set_cons_succ]
                refine tk (v := ?_) 4 76 #[true, false, false, true, true, false, false, false, false, false] rfl rfl (by kernel_rfl) (by kernel_rfl) (by kernel_rfl) (fun _ _ _ h => h) (by kernel_rfl) (by rfl) ?hy hHeld ?_
                case hy => intro W _; first | (go_simp; done) | (go_simp; with_reducible rfl)
                simp only [List.setIfInBounds_toArray, List.set_cons_zero, List.set_cons_succ]
                refine tk (v := ?_) 5 77 #[true, false, false, true, true, true, false, false, false, false] rfl rfl (by kernel_rfl) (by kernel_rfl) (by kernel_rfl) (fun _ _ _ h => h) (by kernel_rfl) (by rfl) ?hy hHeld ?_
                case hy => intro W _; first | (go_simp; done) | (go_simp; with_reducible rfl)
                simp only [List.setIfInBounds_toArray, List.set_cons_zero, List.set_cons_succ]
                refine tk (v := ?_) 6 78 #[true, false, false, true, true, true, true, false, false, false] rfl rfl (by kernel_rfl) (by kernel_rfl) (by kernel_rfl) (fun _ _ _ h => h) (by kernel_rfl) (by rfl) ?hy hHeld ?_
                case hy => intro W _; first | (go_simp; done) | (go_simp; with_reducible rfl)
                simp only [List.setIfInBounds_toArray, List.set_cons_zero, List.set_cons_succ]
                refine tk (v := ?_) 7 79 #[true, false, false, true, true, true, true, true, false, false] rfl rfl (by kernel_rfl) (by kernel_rfl) (by kernel_rfl) (fun _ _ _ h => h) (by kernel_rfl) (by rfl) ?hy hHeld ?_
                case hy => intro W _; first | (go_simp; done) | (go_simp; with_reducible rfl)
                simp only [List.setIfInBounds_toArray, List.set_cons_zero, List.set_cons_succ]
                refine one_ready 1 #[true, true, false, true, true, true, true, true, false, false] rfl (by kernel_rfl) (by kernel_rfl) (by rfl) (fun K hK => ?_)
                go_simp
                refine (HSM3.out _ (Below.refl _ _).drew).mono ?_
                rintro e w' ⟨rfl, hw⟩
                obtain rfl := hw.symm
                go_wp2_with fail
                refine hK.out _ _ trivial (fun hHeld => ?_)
                clear hK K
                refine one_ready 2 #[true, true, true, true, true, true, true, true, false, false] rfl (by kernel_rfl) (by kernel_rfl) (by rfl) (fun K hK => ?_)
                go_simp
                refine (HPS.out _).mono ?_
                rintro e w4 ⟨v4, rfl, ho4, hg4⟩
                have hb4 : Below w3.heap.size w3 w4 := hg4.toBelow (Below.refl _ _).drew (Nat.le_refl _) (fun q hq => by cases hq)
                have HB4 := hide (HB3.out.trans (hb4.mono HB3.out.size))
                have HO24 := hide (HO23.out.later hb4)
                have HSB4 := hide (HSB.out w4 v4 ho4 HB4.out)
                obtain ⟨a4, c4, hv4⟩ := ho4.slice
                have hv5 : v4 = .slice a4 4 c4 := by rw [hv4, List.nil_append, be_len]
                subst hv5
                clear ho4 hg4 hb4 hv4
                go_wp2_with fail
                refine hK.out _ _ trivial (fun hHeld => ?_)
                clear hK K
                refine one_ready 8 #[true, true, true, true, true, true, true, true, true, false] rfl (by kernel_rfl) (by kernel_rfl) (by rfl) (fun K hK => ?_)
                go_simp
                refine HSB4.out.mono ?_
                rintro e w5 ⟨rfl, hb5⟩
                have HB5 := hide (HB4.out.trans (hb5.mono HB4.out.size))
                have HO25 := hide (HO24.out.later hb5)
                clear hb5
                go_wp2_with fail
                refine hK.out _ _ trivial (fun hHeld => ?_)
                clear hK K
                refine tk (v := ?_) 9 81 #[true, true, true, true, true, true, true, true, true, true] rfl rfl (by kernel_rfl) (by kernel_rfl) (by kernel_rfl) (fun _ _ _ h => h) (by kernel_rfl) (by rfl) ?hy hHeld ?_
                case hy => intro W _; first | (go_simp; done) | (go_simp; with_reducible rfl)
                simp only [List.setIfInBounds_toArray, List.set_cons_zero, List.set_cons_succ]
                refine wpAnyH_done (by kernel_rfl) ?_ _
                go_wp2_with fail
                exact bodyPost_ret (v := .tuple #[.int .u64 0, .slice none 0 0, .int .i64 0, .int .i64 7]) (by simp [results, Tryd.results53, go_sem]) rfl ⟨⟨_, rfl, Own.nil _ _⟩, HB5.out⟩
              · have HSRC := hide (HSRC1.out hc4)
                clear HSRC1 HSRC2
                go_enter Tryd.func53, Tryd.ntmps53
                go_wp2_with fail
                refine HU1.out.mono ?_
                rintro e w1 ⟨rfl, hw⟩
                obtain rfl := hw.symm
                go_wp2_with fail
                refine HU2.out.mono ?_
                rintro e w1 ⟨rfl, hw⟩
                obtain rfl := hw.symm
                go_wp2_with fail
                refine HCP1.out.mono ?_
                rintro e w1 ⟨v1, rfl, ho1, hb1⟩
                have HO1 := hide ho1
                have HB1 := hide hb1
                have HCP2 := hide (copyBytes_any _ pay w1 (HSRC.out w1 hb1) (by omega))
                obtain ⟨a1, c1, rfl⟩ := ho1.slice
                clear ho1 hb1 HCP1 HSRC
                go_wp2_with fail
                refine HCP2.out.mono ?_
                rintro e w2 ⟨v2, rfl, ho2, hb2⟩
                have HB2 := hide (HB1.out.trans (hb2.mono HB1.out.size))
                have HO2 := hide ho2
                have HO12 := hide (HO1.out.later hb2)
                obtain ⟨a2, c2, rfl⟩ := ho2.slice
                clear ho2 hb2 HCP2
                go_wp2_with (first
                  | (at_builtin; refine wp_append_rb rfl _ _ rfl w.heap.size _ _ (form Y) pay rfl rfl HO12.out HO2.out.rb ?c1 ?c2 ?_)
                  | fail)
                case c1 => exact HB2.out.size
                case c2 => omega
                intro v3 w3 ho3 hg3
                have HB3 := hide (hg3.toBelow HB2.out HB2.out.size (fun q hq => HO12.out.at q hq))
                have HO23 : Hid (Own w3 w1.heap.size (.slice a2 pay.length c2) pay) := hide (World.ownsRow.kept HO2.out hg3.grown (by
                  cases a2 with
                  | none => exact .inl rfl
                  | some q2 =>
                    right
                    cases a1 with
                    | none => intro h; cases h
                    | some q =>
                      intro h
                      have e1 := (World.ownsRow.lt HO2.out q2.block rfl).1
                      have e2 := (World.ownsRow.lt HO1.out q.block rfl).2
                      have e3 : q2.block = q.block := Option.some.inj h
                      omega))
                obtain ⟨inn, hI⟩ : ∃ inn, Hid (form Y ++ pay = inn) := ⟨_, hide rfl⟩
                have hil : (form Y ++ pay).length ≤ 65600 := by rw [List.length_append]; omega
                have hfs : sumB (form Y ++ pay) = fsum Y pay := rfl
                rw [hI.out] at ho3 hil hfs
                have HFS := hide hfs
                clear hfs
                obtain ⟨g3, hg3', _⟩ := ho3.rg
                obtain ⟨a3, c3, rfl⟩ := ho3.slice
                have s1 := bv_lt (fsum Y pay)
                have s0 : (0 : Int) ≤ ((fsum Y pay).toNat : Int) := by omega
                obtain ⟨C, hC⟩ : ∃ C : Int, Hid (((fsum Y pay).toNat : Int) = C) := ⟨_, hide rfl⟩
                rw [hC.out] at s1 s0 hq
                have HPS := hide (fun W : World => putSum_any C W.heap.size (.slice none 0 0) [] W s0 s1 (Own.nil _ _) (Nat.le_refl _) (by simp))
                have hbe : ([] ++ be 4 C = sm) ↔ bval sm = C := by
                  rw [List.nil_append]
                  constructor
                  · intro h
                    rw [← h, bval_be]
                    omega
                  · intro h
                    have := be_bval sm
                    rw [HS4.out, h] at this
                    exact this
                have HSB := hide (fun (W : World) (v4 : Value) (h4 : Own W w3.heap.size v4 ([] ++ be 4 C)) (hb : Below w.heap.size w W) => sameBytes_any v4 _ ([] ++ be 4 C) sm W h4.rb ⟨g, HRS.out.later hb⟩ (by simp [be_len]))
                have HSM3 : Hid (∀ W : World, Below w3.heap.size w3 W → Calls Tryd.prog 74 #[.slice a3 inn.length c3] W fun e w' => e = .returned (.int .u32 C) ∧ w' = W) := hide (fun W hb => by
                  have h := refSum_any g3 _ inn W (hg3'.later hb) (by omega)
                  rw [HFS.out, hC.out] at h
                  exact h)
                clear ho3 hg3 hg3' HO2 HO12 HO1 HB1 HB2
                go_wp2_with fail
                simp only [decide_eq_false (fun h => hq (hbe.1 h))] at HSB
                clear hbe hq
                have wm4 : IntKind.i64.wrap (m4 : Int) = (m4 : Int) := by rw [IntKind.wrap_i64]; omega
                have hcm : ¬ cap = m := by omega
                have hm44 : m ≤ m4 := by omega
                have hm4c : (m4 : Int) ≤ (cap : Int) := by omega
                refine begins_held (S := fun _ => True) 10 #[false, false, false, false, false, false, false, false, false, false] (by kernel_rfl) (by kernel_rfl) (by kernel_rfl) trivial (fun hHeld => ?_)
                refine tk (v := ?_) 0 72 #[true, false, false, false, false, false, false, false, false, false] rfl rfl (by kernel_rfl) (by kernel_rfl) (by kernel_rfl) (fun _ _ _ h => h) (by kernel_rfl) (by rfl) ?hy hHeld ?_
                case hy => intro W _; first | (go_simp; done) | (go_simp; with_reducible rfl)
                simp only [List.setIfInBounds_toArray, List.set_cons_zero, List.set_cons_succ]
                refine tk (v := ?_) 3 75 #[true, false, false, true, false, false, false, false, false, false] rfl rfl (by kernel_rfl) (by kernel_rfl) (by kernel_rfl) (fun _ _ _ h => h) (by kernel_rfl) (by rfl) ?hy hHeld ?_
                case hy => intro W _; first | (go_simp; done) | (go_simp; with_reducible rfl)
                simp only [List.setIfInBounds_toArray, List.set_cons_zero, List.set_cons_succ]
                refine tk (v := ?_) 4 76 #[true, false, false, true, true, false, false, false, false, false] rfl rfl (by kernel_rfl) (by kernel_rfl) (by kernel_rfl) (fun _ _ _ h => h) (by kernel_rfl) (by rfl) ?hy hHeld ?_
                case hy => intro W _; first | (go_simp; done) | (go_simp; with_reducible rfl)
                simp only [List.setIfInBounds_toArray, List.set_cons_zero, List.set_cons_succ]
                refine tk (v := ?_) 5 77 #[true, false, false, true, true, true, false, false, false, false] rfl rfl (by kernel_rfl) (by kernel_rfl) (by kernel_rfl) (fun _ _ _ h => h) (by kernel_rfl) (by rfl) ?hy hHeld ?_
                case hy => intro W _; first | (go_simp; done) | (go_simp; with_reducible rfl)
                simp only [List.setIfInBounds_toArray, List.set_cons_zero, List.set_cons_succ]
                refine tk (v := ?_) 6 78 #[true, false, false, true, true, true, true, false, false, false] rfl rfl (by kernel_rfl) (by kernel_rfl) (by kernel_rfl) (fun _ _ _ h => h) (by kernel_rfl) (by rfl) ?hy hHeld ?_
                case hy => intro W _; first | (go_simp; done) | (go_simp; with_reducible rfl)
                simp only [List.setIfInBounds_toArray, List.set_cons_zero, List.set_cons_succ]
                refine tk (v := ?_) 7 79 #[true, false, false, true, true, true, true, true, false, false] rfl rfl (by kernel_rfl) (by kernel_rfl) (by kernel_rfl) (fun _ _ _ h => h) (by kernel_rfl) (by rfl) ?hy hHeld ?_
                case hy => intro W _; first | (go_simp; done) | (go_simp; with_reducible rfl)
                simp only [List.setIfInBounds_toArray, List.set_cons_zero, List.set_cons_succ]
                refine one_ready 1 #[true, true, false, true, true, true, true, true, false, false] rfl (by kernel_rfl) (by kernel_rfl) (by rfl) (fun K hK => ?_)
                go_simp
                refine (HSM3.out _ (Below.refl _ _).drew).mono ?_
                rintro e w' ⟨rfl, hw⟩
                obtain rfl := hw.symm
                go_wp2_with fail
                refine hK.out _ _ trivial (fun hHeld => ?_)
                clear hK K
                refine one_ready 2 #[true, true, true, true, true, true, true, true, false, false] rfl (by kernel_rfl) (by kernel_rfl) (by rfl) (fun K hK => ?_)
                go_simp
                refine (HPS.out _).mono ?_
                rintro e w4 ⟨v4, rfl, ho4, hg4⟩
                have hb4 : Below w3.heap.size w3 w4 := hg4.toBelow (Below.refl _ _).drew (Nat.le_refl _) (fun q hq => by cases hq)
                have HB4 := hide (HB3.out.trans (hb4.mono HB3.out.size))
                have HO24 := hide (HO23.out.later hb4)
                have HSB4 := hide (HSB.out w4 v4 ho4 HB4.out)
                obtain ⟨a4, c4, hv4⟩ := ho4.slice
                have hv5 : v4 = .slice a4 4 c4 := by rw [hv4, List.nil_append, be_len]
                subst hv5
                clear ho4 hg4 hb4 hv4
                go_wp2_with fail
                refine hK.out _ _ trivial (fun hHeld => ?_)
                clear hK K
                refine one_ready 8 #[true, true, true, true, true, true, true, true, true, false] rfl (by kernel_rfl) (by kernel_rfl) (by rfl) (fun K hK => ?_)
                go_simp
                refine HSB4.out.mono ?_
                rintro e w5 ⟨rfl, hb5⟩
                have HB5 := hide (HB4.out.trans (hb5.mono HB4.out.size))
                have HO25 := hide (HO24.out.later hb5)
                clear hb5
                go_wp2_with fail
                refine hK.out _ _ trivial (fun hHeld => ?_)
                clear hK K
                refine tk (v := ?_) 9 81 #[true, true, true, true, true, true, true, true, true, true] rfl rfl (by kernel_rfl) (by kernel_rfl) (by kernel_rfl) (fun _ _ _ h => h) (by kernel_rfl) (by rfl) ?hy hHeld ?_
                case hy => intro W _; first | (go_simp; done) | (go_simp; with_reducible rfl)
                simp only [List.setIfInBounds_toArray, List.set_cons_zero, List.set_cons_succ]
                refine wpAnyH_done (by kernel_rfl) ?_ _
                go_wp2_with fail
                exact bodyPost_ret (v := .tuple #[.int .u64 0, .slice none 0 0, .int .i64 0, .int .i64 7]) (by simp [results, Tryd.results53, go_sem]) rfl ⟨⟨_, rfl, Own.nil _ _⟩, HB5.out⟩
        · rw [HCC.out hbig h2]
          obtain ⟨E, hE⟩ : ∃ E, Hid ((beg (l.drop n)).2.2 = E) := ⟨_, hide rfl⟩
          rw [hE.out] at HU2 h2 ⊢
          have hEq : (E != 0) = true := by simpa using h2
          simp only [h2, if_false]
          clear HBB HCC HBG HG q0 q1 q2 q3 hbig h2
          go_enter Tryd.func53, Tryd.ntmps53
          go_wp2_with fail
          refine HU1.out.mono ?_
          rintro e w1 ⟨rfl, hw⟩
          obtain rfl := hw.symm
          go_wp2_with fail
          refine HU2.out.mono ?_
          rintro e w1 ⟨rfl, hw⟩
          obtain rfl := hw.symm
          go_wp2_with fail
          exact bodyPost_ret (v := .tuple #[.int .u64 0, .slice none 0 0, .int .i64 0, .int .i64 E]) (by simp [results, Tryd.results53, go_sem]) rfl ⟨⟨_, rfl, Own.nil _ _⟩, Below.refl _ _⟩
  · rw [unA h1]
    obtain ⟨E, hE⟩ : ∃ E, Hid ((beg l).2.2 = E) := ⟨_, hide rfl⟩
    rw [hE.out] at HU1 h1 ⊢
    have hEq : (E != 0) = true := by simpa using h1
    simp only [h1, if_false]
    clear h1 p0 p1 p2 p3
    obtain ⟨a, cap, rfl, _, _⟩ := hg
    go_enter Tryd.func53, Tryd.ntmps53
    go_wp2_with fail
    refine HU1.out.mono ?_
    rintro e w1 ⟨rfl, hw⟩
    obtain rfl := hw.symm
    go_wp2_with fail
    exact bodyPost_ret (v := .tuple #[.int .u64 0, .slice none 0 0, .int .i64 0, .int .i64 E]) (by simp [results, Tryd.results53, go_sem]) rfl ⟨⟨_, rfl, Own.nil _ _⟩, Below.refl _ _⟩
end Go.Proofs.YthalmfbcdkihgaaDoor
