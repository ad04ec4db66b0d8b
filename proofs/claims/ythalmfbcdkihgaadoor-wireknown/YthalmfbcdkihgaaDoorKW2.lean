/-
  My own text: payloads about the most.
-/
import Derived.Test.YthalmfbcdkihgaaDoorWFra
namespace Go.Proofs.YthalmfbcdkihgaaDoor
open Go.RowKit Go.Extern

theorem own_prefix {w : World} {B g n cap : Nat} {l r : List UInt8} (hn : l.length = n) (h : w.ownsRow B 5 1 (.slice (some ⟨g, 0, none⟩) (n + r.length) cap) (n + r.length) (bv l ++ bv r)) : Own w B (.slice (some ⟨g, 0, none⟩) n cap) l := by
  unfold Own
  rw [hn]
  refine ⟨by rw [bv_len, hn]; omega, ?_⟩
  rcases h.2 with ⟨h1, _⟩ | ⟨g', cap', cur, hv, hb, hh, h2, h3, h4, h5⟩
  · cases h1
  · injection hv with e1 e2 e3
    injection e1 with e4
    injection e4 with e5
    subst e5
    refine .inr ⟨g, cap', cur, by rw [e3], hb, hh, by omega, h3, h4, ?_⟩
    have := congrArg (List.take n) h5
    rw [List.take_take, List.take_left' (by rw [bv_len, hn])] at this
    rw [← this]
    congr 1
    omega
/-- Bytes behind an own row, which stays. -/
theorem wp_append_both {w : World} {o : Oper} {a : Act} {K : Act → World → Prop} {Q : Exit → Act → World → Prop} (s x : Operand) (ho : o.op = .call { callee := .builtin .append, args := #[s, x], argTypes := #[29, 29] }) (B : Nat) (v : Value) (l r : List UInt8) (b : Nat)
    (hs : a.eval s = v) (hx : a.eval x = .slice (some ⟨b, 0, none⟩) r.length r.length) (hown : Own w B v l) (hl : l ≠ []) (hc : ∀ j c, r[j]? = some c → w.cell? ⟨b, j, none⟩ = some (.int .u8 (c.toNat : Int))) (hB : B ≤ w.heap.size) (hsz : l.length + r.length ≤ 1000000)
    (h : ∀ v' w', Own w' B v' (l ++ r) → Own w' B v l → w.grownBy w' v.ownBlock → K (a.put o.dst v') w') : o.wp Tryd.prog a w K Q := by
  obtain ⟨i0, hi, hz0, hz1, hz2⟩ := info_parts Tryd.infoB
  have hpos : 0 < l.length := List.length_pos_iff.2 hl
  have hown2 := hown
  unfold Own at hown2
  obtain ⟨g, cap, hv, hg1, hg2⟩ := World.ownsRow.form hown2 hpos
  rw [hv] at hown2
  have hlen : (l ++ r).length = l.length + r.length := List.length_append
  have hnews : ∀ j u, (bv r)[j]? = some u → w.cell? ((⟨b, 0, none⟩ : Addr).add j) = some u := by
    intro j u hj
    have hjl : j < r.length := by have := (List.getElem?_eq_some_iff.1 hj).1; rwa [bv_len] at this
    obtain ⟨c, hc2⟩ := some_at hjl
    rw [bv_at hc2] at hj
    cases hj
    have e1 : (⟨b, 0, none⟩ : Addr).add j = ⟨b, j, none⟩ := by unfold Addr.add; split <;> simp_all
    rw [e1]; exact hc j c hc2
  by_cases hroom : l.length + r.length ≤ cap
  · refine wp_append_own_spare w s x 29 ho B 5 i0 1 Tryd.underlying29 hi hz1 g l.length cap (bv l) (hs.trans hv) hown2 ⟨b, 0, none⟩ r.length r.length (bv r) hx (by rw [bv_len]; omega) hnews (bv_one r) hroom (fun w' hO hg => ?_)
    refine h _ w' (by unfold Own; rw [hlen, bv_app]; exact hO) (by rw [hv]; exact own_prefix rfl hO) (by rw [hv]; exact hg)
  · obtain ⟨v', w', hr, hO, hg⟩ := run_append_arg_grows (P := Tryd.prog) w 29 o.type 5 i0 (.int .u8 0) 1 1 Tryd.underlying29 hi hz0 hz1 hz2 rfl (by decide) ⟨g, 0, none⟩ l.length cap (bv l) (by rw [bv_len]; omega) (World.ownsRow.cells hown (by rw [hv]; rfl)) ⟨b, 0, none⟩ r.length r.length (bv r) (by rw [bv_len]; omega) hnews (by omega) (by unfold maxLen; omega) (by omega)
    have hO' : Own w' w.heap.size v' (l ++ r) := by unfold Own; rw [hlen, bv_app]; exact hO
    have hgw : w.grownBy w' v.ownBlock := ⟨hg.os, hg.tape, hg.output, hg.size, fun k hk _ => hg.block k hk (fun e => by cases e)⟩
    have hK := h v' w' (hO'.base fun g hg' => Nat.le_trans hB (World.ownsRow.lt hO' g hg').1) (World.ownsRow.kept hown hg (.inr (by rw [hv]; intro e; cases e))) hgw
    have hs' := hs.trans hv
    unfold Oper.wp execOp
    simp only [ho, resolve, invoke, builtin, Sem.run_bind, Sem.run_pure, Result.andThen_ok, List.map_toArray, List.map_cons, List.map_nil, hs', hx, hr]
    exact hK
theorem own_of_low {w1 w2 w3 : World} {B m : Nat} {v : Value} {l : List UInt8} (h1 : Own w1 B v l) (h2 : Own w2 B v l) (hb : Below m w2 w3) (hm : w1.heap.size = m := by rfl) : Own w3 B v l := by
  refine ⟨h2.1, ?_⟩
  rcases h2.2 with hn | ⟨g, cap, cur, hv, hg, hh, h3⟩
  · exact .inl hn
  · refine .inr ⟨g, cap, cur, hv, hg, ?_, h3⟩
    have := (World.ownsRow.lt h1 g (by rw [hv]; rfl)).2
    exact (hb.block g (by omega)).trans hh
def slen : Value → Nat
  | .slice _ n _ => n
  | _ => 0
theorem grown_below {a w w' : World} {B : Nat} {v : Value} {l : List UInt8} (hb : Below B a w) (hB : B ≤ w.heap.size) (h : Own w B v l) (hg : w.grownBy w' v.ownBlock) : Below B a w' := hb.grown hg hB (fun g e => h.at g e)

set_option maxRecDepth 100000 in
set_option maxHeartbeats 2000000 in
theorem framesK_any (w : World) (hT : Tab w) (hE : ErrType w) : Calls Tryd.prog 27 #[] w fun e w' => e = .returned (.bool true) ∧ Below w.heap.size w w' := by
  obtain ⟨i0, hi, hz0, hz1, hz2⟩ := info_parts Tryd.infoB
  have HU : Hid (∀ (W : World) (v : Value) (l : List UInt8), Below w.heap.size w W → RB W v l → l.length ≤ 200000 → Calls Tryd.prog 26 #[v] W fun e w' => e = .returned (.bool true) ∧ Below W.heap.size W w') := hide (fun W v l hb hv hl => unframes_law v l W hv (hT.below hb) (hE.below hb) (by omega))
  have HF : Hid (∀ (W : World) (x : Int) (v : Value) (l : List UInt8), Below w.heap.size w W → RB W v l → l.length ≤ 200000 → 0 ≤ x → x < 18446744073709551616 → Calls Tryd.prog 56 #[.int .u64 x, v] W fun e w' => e = .returned (.bool true) ∧ Below W.heap.size W w') := hide (fun W x v l hb hv hl h0 h1 => frames_law x v l W h0 h1 hv (hT.below hb) (hE.below hb) (by omega))
  clear hT hE
  go_enter Tryd.func27, Tryd.ntmps27
  go_wp2_with fail
  go_loopw [1] (fun v wr => ∃ l : List UInt8, l.length ≤ 65536 ∧ Hid (Own wr w.heap.size v l) ∧ Hid (Below w.heap.size w wr)) (fun v _ => 65536 - slen v)
  case atStart => exact ⟨[], by simp, hide (Own.nil _ _), hide (Below.refl _ _)⟩
  case round =>
    obtain ⟨l, hl, HO, HB⟩ := hrel
    obtain ⟨a1, c1, rfl⟩ := HO.out.slice
    have hbs := HB.out.size
    by_cases hlt : l.length < 65536
    · have dl : decide ((l.length : Int) < 65536) = true := by rw [decide_eq_true_eq]; omega
      obtain ⟨c, hc⟩ : ∃ c : UInt8, Hid ((l.length : Int) % 256 = (c.toNat : Int)) := ⟨UInt8.ofNat (l.length % 256), hide (by rw [UInt8.toNat_ofNat', Nat.mod_eq_of_lt (by omega)]; omega)⟩
      go_wp2_with (first
        | (at_builtin; refine wpList_append_own _ rfl _ _ 29 rfl w.heap.size 5 i0 (.int .u8 0) 1 1 Tryd.underlying29 hi hz0 hz1 hz2 rfl (by decide) _ _ _ rfl (HO.out.alloc _) ⟨_, 0, none⟩ 1 1 [.int .u8 ((l.length : Int) % 256)] rfl rfl ?c1 ?c2 ?c3 ?c4 ?c5 ?_)
        | go_in)
      case c1 =>
        intro j u hj
        match j, hj with
        | 0, hj => simp at hj; subst hj; simp [Addr.add]
      case c2 => intro u hu; simp at hu; subst hu; rfl
      case c3 => unfold maxLen; omega
      case c4 => omega
      case c5 => simp; omega
      intro v' w1 hown' hgrow _
      have HO1 : Hid (Own w1 w.heap.size v' (l ++ [c])) := hide (own_snoc hown' hc.out)
      have HB1 : Hid (Below w.heap.size w w1) := hide ((HB.out.alloc HB.out.size _).grown hgrow (by simp; omega) (fun k hk => (World.ownsRow.lt HO.out k hk).1))
      obtain ⟨a2, c2, hv2⟩ := HO1.out.slice
      clear hown' hgrow HO HB
      go_wp2_with fail
      go_roundw
      case rel => exact ⟨l ++ [c], by rw [List.length_append]; simp; omega, HO1, HB1⟩
      case measure => rw [hv2]; simp [slen]; omega
    · have HL65 : Hid (l.length = 65536) := hide (by omega)
      have hl1 : l.length ≤ 65536 := hl
      have dl : decide ((l.length : Int) < 65536) = false := by rw [decide_eq_false_iff_not]; omega
      have HFr := hide (refFrame_one 5 _ l wr (by decide) (by decide) HO.out.rb)
      have hfe : frE l = 0 := by unfold frE; rw [if_pos hl]
      have hfl : (frP 5 l).length ≤ 65600 := (fr_facts 5 l).2.2
      have hfp : ∃ m, (frP 5 l).length = m + 1 := ⟨(frP 5 l).length - 1, by
        have h1 : frP 5 l = frameL 5 l := by unfold frP; rw [if_pos hl]
        have h2 := head_len 5 l
        rw [h1]
        unfold frameL
        rw [List.length_append]
        omega⟩
      rw [hfe] at HFr
      obtain ⟨Wh, hWh⟩ : ∃ Wh, Hid (frP 5 l = Wh) := ⟨_, hide rfl⟩
      rw [hWh.out] at HFr hfl hfp
      obtain ⟨m, hm⟩ := hfp
      have HM := hide hm
      have hm6 : m ≤ 65600 := by omega
      have HCp := hide (fun (W : World) (v : Value) (h : RB W v l) => copyBytes_any v l W h (by omega))
      clear hfe hlt hm hWh
      go_wp2_with fail
      refine HFr.out.mono ?_
      rintro e w1 ⟨⟨u, rfl, ho1⟩, hb1⟩
      have HB1 := hide (HB.out.trans (hb1.mono HB.out.size))
      have HP1 := hide (HO.out.later hb1)
      have HW1 := hide (ho1.base (B' := w.heap.size) (fun g hg => Nat.le_trans hbs (World.ownsRow.lt ho1 g hg).1))
      have hform : ∃ g1 cw, u = .slice (some ⟨g1, 0, none⟩) (m + 1) cw ∧ m + 1 ≤ cw := by
        have h := ho1
        unfold Own at h
        obtain ⟨g1, cw, h2, _, _⟩ := World.ownsRow.form h (by rw [HM.out]; omega)
        obtain ⟨g', ⟨a', c', e', hc', _⟩, _⟩ := ho1.rg
        rw [h2] at e'
        injection e' with _ _ e3
        rw [HM.out] at h2 hc'
        exact ⟨g1, cw, h2, by rw [e3]; exact hc'⟩
      obtain ⟨g1, cw, rfl, hcw⟩ := hform
      have HC1 := hide (HCp.out w1 _ HP1.out.rb)
      clear ho1 hb1 HFr HO HB
      go_wp2_with fail
      refine HC1.out.mono ?_
      rintro e w2 ⟨v2, rfl, ho2, hb2⟩
      have HB2 := hide (HB1.out.trans (hb2.mono HB1.out.size))
      have HP2 := hide (HP1.out.later hb2)
      have HW2 := hide (HW1.out.later hb2)
      have hs1 := HB1.out.size
      have HN2 := hide (ho2.base (B' := w1.heap.size) (fun g hg => (World.ownsRow.lt ho2 g hg).1))
      have hb2s := hb2.size
      obtain ⟨a2, c2, rfl⟩ := ho2.slice
      clear ho2 hb2 HC1 HCp
      go_wp2_with (first
        | (at_builtin; refine wpList_append_own _ rfl _ _ 29 rfl w1.heap.size 5 i0 (.int .u8 0) 1 1 Tryd.underlying29 hi hz0 hz1 hz2 rfl (by decide) _ _ _ rfl (HN2.out.alloc _) ⟨_, 0, none⟩ 1 1 [.int .u8 1] rfl rfl ?e1 ?e2 ?e3 ?e4 ?e5 ?_)
        | go_in)
      case e1 =>
        intro j u hj
        match j, hj with
        | 0, hj => simp at hj; subst hj; simp [Addr.add]
      case e2 => intro u hu; simp at hu; subst hu; rfl
      case e3 => unfold maxLen; omega
      case e4 => omega
      case e5 => simp; omega
      intro v3 w3 hown3 hg3 _
      have hb3 : Below w1.heap.size w2 w3 := ((Below.refl w1.heap.size w2).alloc hb2s _).grown hg3 (by simp; omega) (fun k hk => (World.ownsRow.lt HN2.out k hk).1)
      have HB3 := hide (HB2.out.trans (hb3.mono hs1))
      have HP3 : Hid (Own w3 w.heap.size (.slice a1 l.length c1) l) := hide (own_of_low HP1.out HP2.out hb3)
      have HW3 : Hid (Own w3 w.heap.size (.slice (some ⟨g1, 0, none⟩) (m + 1) cw) Wh) := hide (own_of_low HW1.out HW2.out hb3)
      have HL3 : Hid (Own w3 w1.heap.size v3 (l ++ [1])) := hide (own_snoc hown3 rfl)
      obtain ⟨a3, c3, hv3⟩ := HL3.out.slice
      have hll : (l ++ [(1 : UInt8)]).length ≤ 200000 := by rw [List.length_append]; simp; omega
      obtain ⟨L, hL⟩ : ∃ L, Hid (l ++ [(1 : UInt8)] = L) := ⟨_, hide rfl⟩
      rw [hL.out] at HL3 hll hv3
      subst hv3
      have hwl : Wh.length ≤ 200000 := by rw [HM.out]; omega
      have hlp : l.length ≤ 200000 := by omega
      clear hown3 hg3 hb3 HN2 HP1 HP2 HW1 HW2 HB1 HB2 hL
      go_wp2_with fail
      refine (HF.out _ 5 _ l HB3.out HP3.out.rb hlp (by decide) (by decide)).mono ?_
      rintro e w4 ⟨rfl, hb⟩
      have HB4 := hide (HB3.out.trans (hb.mono HB3.out.size))
      have HP4 := hide (HP3.out.later hb)
      have HW4 := hide (HW3.out.later hb)
      have HL4 := hide (HL3.out.later hb)
      clear hb HB3 HP3 HW3 HL3
      go_wp2_with fail
      refine (HF.out _ 5 _ L HB4.out HL4.out.rb hll (by decide) (by decide)).mono ?_
      rintro e w5 ⟨rfl, hb⟩
      have HB5 := hide (HB4.out.trans (hb.mono HB4.out.size))
      have HP5 := hide (HP4.out.later hb)
      have HW5 := hide (HW4.out.later hb)
      have HL5 := hide (HL4.out.later hb)
      clear hb HB4 HP4 HW4 HL4
      go_wp2_with fail
      refine (HU.out _ _ Wh HB5.out HW5.out.rb hwl).mono ?_
      rintro e w6 ⟨rfl, hb⟩
      have HB6 := hide (HB5.out.trans (hb.mono HB5.out.size))
      have HP6 := hide (HP5.out.later hb)
      have HW6 := hide (HW5.out.later hb)
      have HL6 := hide (HL5.out.later hb)
      clear hb HB5 HP5 HW5 HL5
      have HTk : Hid (RB w6 (.slice (some ⟨g1, 0, none⟩) m cw) (Wh.take m)) := hide (by
        have h1 := own_rg HW6.out
        have h2 : RG w6 g1 (.slice (some ⟨g1, 0, none⟩) Wh.length cw) Wh := by rw [HM.out]; exact h1
        exact ⟨g1, rg_take h2 (by rw [HM.out]; omega)⟩)
      have hmc : (m : Int) ≤ (cw : Int) := by omega
      go_wp2_with fail
      refine (HU.out _ _ (Wh.take m) HB6.out HTk.out (by rw [List.length_take]; omega)).mono ?_
      rintro e w7 ⟨rfl, hb⟩
      have HB7 := hide (HB6.out.trans (hb.mono HB6.out.size))
      clear hb HB6 HP6 HW6 HTk
      go_wp2_with fail
      clear dl hl1 hfl hm6 hcw hs1 hb2s hll hwl hlp hmc HL65 HM
      go_loopw [5] (fun i wr => ∃ k : Nat, k ≤ 4 ∧ i = .int .u64 (65535 + (k : Int)) ∧ Hid (Below w.heap.size w wr)) (fun i _ => (65539 - intOf i).toNat)
      case atStart => exact ⟨0, by omega, rfl, HB7⟩
      case round =>
        clear HB7
        obtain ⟨k, hk, rfl, HB⟩ := hrel
        obtain ⟨x, hx⟩ : ∃ x : Int, 65535 + (k : Int) = x := ⟨_, rfl⟩
        have x0 : 65535 ≤ x := by omega
        have x1 : x ≤ 65539 := by omega
        have HX : Hid (65535 + ((k + 1 : Nat) : Int) = x + 1) := hide (by omega)
        rw [hx]
        by_cases hlt : k < 4
        · have dk : decide (x < 65539) = true := by rw [decide_eq_true_eq]; omega
          have x2 : x < 65539 := by omega
          have HPu := hide (refPutUint_any x wr.heap.size (.slice none 0 0) [] wr (by omega) (by omega) (Own.nil _ _) (Nat.le_refl _) (by simp))
          have f9 := form_le x
          have f1 : (form x) ≠ [] := by intro e; have h := form_len x; rw [e, List.length_nil] at h; omega
          have hbs := HB.out.size
          rw [List.nil_append] at HPu
          obtain ⟨F, hF⟩ : ∃ F, Hid (form x = F) := ⟨_, hide rfl⟩
          rw [hF.out] at HPu f9 f1
          have HF1 := hide f1
          clear hx hF f1
          go_wp2_with fail
          refine HPu.out.mono ?_
          rintro e W1 ⟨v1, rfl, ho1, hg1⟩
          have hb1 : Below wr.heap.size wr W1 := hg1.toBelow (Below.refl _ _) (Nat.le_refl _) (fun g h => by cases h)
          have HB1 := hide (HB.out.trans (hb1.mono HB.out.size))
          have HO1 := hide ho1
          have hb1s := hb1.size
          obtain ⟨a1, c1, rfl⟩ := ho1.slice
          clear ho1 hg1 hb1 HPu HB
          go_wp2_with fail
          refine (HU.out _ _ F HB1.out HO1.out.rb (by omega)).mono ?_
          rintro e W2 ⟨rfl, hb⟩
          have HB2 := hide (HB1.out.trans (hb.mono HB1.out.size))
          have HO2 := hide (HO1.out.later hb)
          have hb2s := hb.size
          clear hb HB1 HO1
          go_wp2_with (at_builtin; refine BigFrame.wpList_want (by rfl) ?_; intro K hK; refine wp_append_both _ _ rfl wr.heap.size _ F [255] _ rfl rfl (World.ownsRow.alloc HO2.out _) HF1.out ?c1 ?c2 ?c3 (fun v3 W3 ho3 ho3b hg3 => hK _ _ ?_))
          case c1 =>
            intro j c hj
            match j, hj with
            | 0, hj => simp at hj; subst hj; simp
          case c2 => simp; omega
          case c3 => simp; omega
          have HB3 := hide ((HB2.out.alloc HB2.out.size _).grown hg3 (by simp; omega) (fun g e => Nat.le_trans hbs (World.ownsRow.lt HO2.out g e).1))
          have HO3 := hide ho3
          have HO3b := hide ho3b
          have hg3s := hg3.size
          have hws : wr.heap.size ≤ W3.heap.size := by simp at hg3s; omega
          have hl3 : (F ++ [(255 : UInt8)]).length ≤ 200000 := by rw [List.length_append]; simp; omega
          obtain ⟨a3, c3, hv3⟩ := ho3.slice
          obtain ⟨G, hG⟩ : ∃ G, Hid (F ++ [(255 : UInt8)] = G) := ⟨_, hide rfl⟩
          rw [hG.out] at HO3 hl3 hv3
          subst hv3
          clear ho3 ho3b hg3 hg3s HB2 HO2 hG hK K
          go_wp2_with fail
          refine (HU.out _ _ G HB3.out HO3.out.rb hl3).mono ?_
          rintro e W4 ⟨rfl, hb⟩
          have HB4 := hide (HB3.out.trans (hb.mono HB3.out.size))
          have HO4 := hide (HO3b.out.later hb)
          have hb4s := hb.size
          clear hb HB3 HO3 HO3b
          go_wp2_with (at_builtin; refine BigFrame.wpList_want (by rfl) ?_; intro K hK; refine wp_append_both _ _ rfl wr.heap.size _ F [1, 2, 3, 4, 5, 6] _ rfl rfl (World.ownsRow.alloc HO4.out _) HF1.out ?d1 ?d2 ?d3 (fun v5 W5 ho5 ho5b hg5 => hK _ _ ?_))
          case d1 =>
            intro j c hj
            match j, hj with
            | 0, hj => simp at hj; subst hj; simp
            | 1, hj => simp at hj; subst hj; simp
            | 2, hj => simp at hj; subst hj; simp
            | 3, hj => simp at hj; subst hj; simp
            | 4, hj => simp at hj; subst hj; simp
            | 5, hj => simp at hj; subst hj; simp
          case d2 => simp; omega
          case d3 => simp; omega
          have HB5 := hide ((HB4.out.alloc HB4.out.size _).grown hg5 (by simp; omega) (fun g e => Nat.le_trans hbs (World.ownsRow.lt HO4.out g e).1))
          have HO5 := hide ho5
          have hl5 : (F ++ [(1 : UInt8), 2, 3, 4, 5, 6]).length ≤ 200000 := by rw [List.length_append]; simp; omega
          obtain ⟨a5, c5, hv5⟩ := ho5.slice
          obtain ⟨G5, hG5⟩ : ∃ G5, Hid (F ++ [(1 : UInt8), 2, 3, 4, 5, 6] = G5) := ⟨_, hide rfl⟩
          rw [hG5.out] at HO5 hl5 hv5
          subst hv5
          clear ho5 ho5b hg5 HB4 HO4 hG5 hK K
          go_wp2_with fail
          refine (HU.out _ _ G5 HB5.out HO5.out.rb hl5).mono ?_
          rintro e W6 ⟨rfl, hb⟩
          have HB6 := hide (HB5.out.trans (hb.mono HB5.out.size))
          clear hb HB5 HO5
          go_wp2_with fail
          go_roundw
          case rel => exact ⟨k + 1, by omega, by rw [HX.out], HB6⟩
          case measure => simp [intOf]; omega
        · have dk : decide (x < 65539) = false := by rw [decide_eq_false_iff_not]; omega
          have hN : ∀ W : World, RB W (.slice none 0 0) [] := fun W => ⟨0, none, 0, rfl, Nat.le_refl _, .inl rfl⟩
          have HN := hide hN
          clear hx hN
          go_wp2_with fail
          refine (HF.out _ 18446744073709551615 _ [] HB.out (HN.out _) (by simp) (by decide) (by decide)).mono ?_
          rintro e W1 ⟨rfl, hb⟩
          have HB1 := hide (HB.out.trans (hb.mono HB.out.size))
          clear hb HB
          go_wp2_with fail
          refine (HF.out _ 0 _ [] HB1.out (HN.out _) (by simp) (by decide) (by decide)).mono ?_
          rintro e W2 ⟨rfl, hb⟩
          have HB2 := hide (HB1.out.trans (hb.mono HB1.out.size))
          have hbs2 := HB2.out.size
          clear hb HB1
          go_wp2_with fail
          refine (HF.out _ 248 _ [0] (HB2.out.alloc HB2.out.size _) ⟨W2.heap.size, _, _, rfl, Nat.le_refl _, .inr ⟨0, rfl, by simp, fun j c hj => ?_⟩⟩ (by simp) (by decide) (by decide)).mono ?_
          · match j, hj with
            | 0, hj => simp at hj; subst hj; simp
          rintro e W3 ⟨rfl, hb⟩
          have HB3 := hide ((HB2.out.alloc HB2.out.size _).trans (hb.mono (by simp; omega)))
          clear hb HB2
          go_wp2_with fail
          go_ret
          exact ⟨rfl, HB3.out⟩
end Go.Proofs.YthalmfbcdkihgaaDoor
