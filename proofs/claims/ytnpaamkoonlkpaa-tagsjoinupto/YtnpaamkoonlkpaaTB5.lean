/-
  My own text: a message out of any items.
-/
import Derived.Test.YtnpaamkoonlkpaaTB4
import Derived.Test.YtnpaamkoonlkpaaTB3
namespace Go.Proofs.Ytnpaamkoonlkpaa
open Go.RowKit

theorem Ix.putText {w : World} {g : Nat} {i : Itm} {v : Value} (h : Ix w g i v) (t : List UInt8) : Ix (w.setCell ⟨g, 2, none⟩ (.string ⟨t.toArray⟩)) g { i with text := t } v := by
  unfold Ix at h ⊢
  simp only [World.setCell, Array.getElem?_modify, if_true]
  rw [h]; rfl
theorem Ix.putQual {w : World} {g : Nat} {i : Itm} {v : Value} (h : Ix w g i v) (t : List UInt8) : Ix (w.setCell ⟨g, 1, none⟩ (.string ⟨t.toArray⟩)) g { i with qual := t } v := by
  unfold Ix at h ⊢
  simp only [World.setCell, Array.getElem?_modify, if_true]
  rw [h]; rfl
theorem Ix.free1 {w : World} {g : Nat} {i : Itm} {v : Value} (h : Ix w g i v) : w.frozen? ⟨g, 1, none⟩ = false := frozen_of_row _ _ _ _ _ h
theorem Ix.free2 {w : World} {g : Nat} {i : Itm} {v : Value} (h : Ix w g i v) : w.frozen? ⟨g, 2, none⟩ = false := frozen_of_row _ _ _ _ _ h
theorem wrap_small (x : Int) (h0 : 0 ≤ x) (h1 : x ≤ 1152921504606846976) : wrap64 x = x := by unfold wrap64; omega
theorem num_of (a b : Nat) (ha : a ≤ 1099511627776) (hb : b ≤ 1099511627776) : ∃ N : Nat, wrap64 ((a : Int) + wrap64 (7 * (b : Int))) = (N : Int) ∧ Hid (N ≤ 8796093022208) := by
  refine ⟨a + 7 * b, ?_, ?_⟩
  · rw [wrap_small (7 * (b : Int)) (by omega) (by omega), wrap_small _ (by omega) (by omega)]; omega
  · show _ ≤ _; omega
theorem alloc3_newt (w : World) (a b c : Obj) : (((w.alloc a).alloc b).alloc c).heap[w.heap.size + 2]? = some c := by
  have h := alloc_new ((w.alloc a).alloc b) c
  have hs : ((w.alloc a).alloc b).heap.size = w.heap.size + 2 := by simp
  rw [hs] at h; exact h
theorem alloc4_newt (w : World) (a b c d : Obj) : ((((w.alloc a).alloc b).alloc c).alloc d).heap[w.heap.size + 3]? = some d := by
  have h := alloc_new (((w.alloc a).alloc b).alloc c) d
  have hs : (((w.alloc a).alloc b).alloc c).heap.size = w.heap.size + 3 := by simp
  rw [hs] at h; exact h
theorem cap_of (r : Int) (h0 : 0 ≤ r) (h9 : r ≤ 25) : ∃ x : UInt8, 65 + r = (x.toNat : Int) ∧ Hid (isCp x = true) := by
  refine ⟨UInt8.ofNat (65 + r.toNat), ?_, ?_⟩
  · rw [UInt8.toNat_ofNat']; omega
  · show _ = _
    unfold isCp
    rw [UInt8.toNat_ofNat']
    rw [decide_eq_true (by omega), decide_eq_true (by omega)]; rfl
theorem dig_of (r : Int) (h0 : 0 ≤ r) (h9 : r ≤ 9) : ∃ x : UInt8, 48 + r = (x.toNat : Int) ∧ Hid (isDg x = true) := by
  refine ⟨UInt8.ofNat (48 + r.toNat), ?_, ?_⟩
  · rw [UInt8.toNat_ofNat']; omega
  · show _ = _
    unfold isDg
    rw [UInt8.toNat_ofNat']
    rw [decide_eq_true (by omega), decide_eq_true (by omega)]; rfl
theorem IW.noneCap {w : World} {B n cap : Nat} {a : Option Addr} {l : List Tr} {V : List Value} (h : IW w B (.slice a n cap) l V) : a = none → cap = 0 := fun e => by
  subst e
  rcases h.row.2 with ⟨hv, _⟩ | ⟨g, cap', cur, hv, _⟩
  · cases hv; rfl
  · cases hv
/-- What a message out of items is. -/
def Tid (p n d : Nat) (w w' : World) (e : Ending) : Prop := ∃ a cap m n', e = .returned (.slice a (m : List Tr).length cap) ∧ (a = none → cap = 0) ∧ PT w' (fun x => w.heap.size ≤ x ∧ x < w'.heap.size) (.slice a m.length cap) m ∧ errL m d = 0 ∧ n' ≤ n ∧ Bk w' p #[.int .i64 (n' : Int)] 3 ∧ (txtL m).length ≤ 240 * (n - n') ∧ m.length + n' ≤ n ∧ Mv p p w w'
set_option maxRecDepth 100000 in
set_option maxHeartbeats 40000000 in
theorem tidy_any (w0 : World) (p : Nat) (hp0 : w0.heap.size ≤ p) : ∀ (D d : Nat) (l : List Tr) (v : Value) (n : Nat) (w : World), wts l ≤ D → D ≤ 1099511627776 → n ≤ 300 → d ≤ 8 → RT w0 v l → Below w0.heap.size w0 w → Bk w p #[.int .i64 (n : Int)] 3 →
    Calls Try.prog 13 #[v, .int .i64 (d : Int), .pointer (some ⟨p, 0, none⟩)] w fun e w' => Tid p n d w w' e := by
  intro D
  induction D using Nat.strongRecOn with
  | ind D ih =>
    intro d l v n w hD hD2 hn hd hv hw hl
    have IH := hide ih
    have HW0 := hide hw
    have HN := hide hn
    have HDD := hide hd
    have HP := hide hl.lt
    obtain ⟨a, cap, rfl, hr⟩ := hv
    have HR := hide hr
    have HWL : Hid (wts l ≤ D ∧ D ≤ 1099511627776) := hide ⟨hD, hD2⟩
    have S0 : Hid (TS w p w (.slice none 0 0) [] [] n n d) := hide ⟨IW.nil _ _, hl, Mv.refl _ _ _, rfl, by simp [txtL], by simp⟩
    have hll : l.length ≤ 1099511627776 := by have := wts_len l; omega
    clear hr ih hD hD2 hw hl
    go_enter Try.func13, Try.ntmps13
    go_wp2_with fail
    go_loopw [7, 8] (fun o i wr => ∃ (k n1 : Nat) (m : List Tr) (V : List Value), k ≤ l.length ∧ i = .int .i64 (k : Int) ∧ Hid (TS w p wr o m V n n1 d)) (fun _ i _ => l.length - (intOf i).toNat)
    case atStart => exact ⟨0, n, [], [], Nat.zero_le _, rfl, S0⟩
    case round =>
      obtain ⟨k, n1, m, V, hk, rfl, HS⟩ := hrel
      have hn1 : n1 ≤ 300 := by have := HS.out.cnt; omega
      have hc0 := HS.out.left.cell 0
      have hz0 := HS.out.left.free 0
      simp only [List.getElem?_toArray, List.getElem?_cons_zero] at hc0
      by_cases hlt : k < l.length
      · have hltI : decide ((k : Int) < (l.length : Int)) = true := decide_eq_true (by omega)
        rcases Nat.eq_zero_or_pos n1 with hn0 | hn0
        · subst hn0
          obtain ⟨qa, qc, hvv⟩ : ∃ qa qc, u7 = .slice qa m.length qc := by obtain ⟨a, c, h, _⟩ := HS.out.iw.done; exact ⟨a, c, h⟩
          have HPT := hide HS.out.iw.done
          subst hvv
          go_wp2_with fail
          go_ret
          exact ⟨qa, qc, m, 0, rfl, HS.out.iw.noneCap, HPT.out, HS.out.err, by omega, HS.out.left, HS.out.len, HS.out.cnt, HS.out.mv⟩
        · obtain ⟨n2, rfl⟩ : ∃ n2, n1 = n2 + 1 := ⟨n1 - 1, by omega⟩
          have hpI : decide (0 < (n2 : Int) + 1) = true := decide_eq_true (by omega)
          obtain ⟨t, ht⟩ : ∃ t, l[k]? = some t := ⟨_, List.getElem?_eq_getElem hlt⟩
          have HWE := hide (wt_eq t)
          have HWA := hide (wts_at ht)
          have HTIO := hide (iok_of HWA.out (by have := HWL.out; omega))
          have M1 : Hid (Mv p p wr (wr.setCell ⟨p, 0, none⟩ (.int .i64 (n2 : Int)))) := hide ((Mv.refl p p wr).set (.inl rfl) _)
          have K1 : Hid (Bk (wr.setCell ⟨p, 0, none⟩ (.int .i64 (n2 : Int))) p #[.int .i64 (n2 : Int)] 3) := hide HS.out.left.set1
          have S1 := hide (HS.out.moved HP.out M1.out K1.out (Nat.le_succ _))
          have BW : Hid (Below w0.heap.size w0 (wr.setCell ⟨p, 0, none⟩ (.int .i64 (n2 : Int)))) := hide (Mv.below HW0.out S1.out.mv HW0.out.size hp0 hp0)
          obtain ⟨bb, off, kv, ha, hbl, c0, c1, c2, c3, c4, hkv⟩ := RT_at HR.out ht
          have c0 := (BW.out.cell (p := ⟨bb, _, none⟩) hbl).trans c0
          have c1 := (BW.out.cell (p := ⟨bb, _, none⟩) hbl).trans c1
          have c2 := (BW.out.cell (p := ⟨bb, _, none⟩) hbl).trans c2
          have c3 := (BW.out.cell (p := ⟨bb, _, none⟩) hbl).trans c3
          have c4 := (BW.out.cell (p := ⟨bb, _, none⟩) hbl).trans c4
          subst ha
          obtain ⟨ka, kcap, rfl, hkr⟩ := hkv
          have HKV : Hid (RT w0 (.slice ka t.kids.length kcap) t.kids) := hide ⟨ka, kcap, rfl, hkr⟩
          have HWZ0 : Hid ((wr.setCell ⟨p, 0, none⟩ (.int .i64 (n2 : Int))).heap.size = wr.heap.size) := hide (by simp [World.setCell])
          obtain ⟨W1, hW1⟩ : ∃ W1, wr.setCell ⟨p, 0, none⟩ (.int .i64 (n2 : Int)) = W1 := ⟨_, rfl⟩
          rw [hW1] at S1 BW c0 c1 c2 c3 c4 HWZ0
          have HWZ := hide HWZ0.out
          clear HWZ0 M1 K1
          clear hkr ht
          cases hb1 : t.itm.name.isEmpty with
          | true =>
            have q1 := str_eq_t hb1
            obtain ⟨N, hN, HNN⟩ : ∃ N : Nat, wrap64 ((t.itm.tag.length : Int) + wrap64 (7 * (t.itm.text.length : Int))) = (N : Int) ∧ Hid (N ≤ 8796093022208) := num_of t.itm.tag.length t.itm.text.length (by have := HWE.out; have := HWA.out; have := HWL.out; omega) (by have := HWE.out; have := HWA.out; have := HWL.out; omega)
            obtain ⟨M, hM⟩ : ∃ M : Nat, wrap64 ((N : Int) / 10) = (M : Int) := ⟨N / 10, by rw [wrap_small _ (by omega) (by have := HNN.out; omega)]; omega⟩
            obtain ⟨x, hxv, HXD⟩ : ∃ x : UInt8, 48 + (N : Int) % 10 = (x.toNat : Int) ∧ Hid (isDg x = true) := dig_of _ (by omega) (by omega)
            obtain ⟨y, hyv, HYD⟩ : ∃ y : UInt8, 48 + (M : Int) % 10 = (y.toNat : Int) ∧ Hid (isDg y = true) := dig_of _ (by omega) (by omega)
            obtain ⟨tg, HTGE⟩ : ∃ tg : List UInt8, Hid (tg = [x, y]) := ⟨_, hide rfl⟩
            have hcv2 : (convert 43 9 (.slice (some ⟨W1.heap.size + 1, 0, none⟩) 2 2)).run Try.prog ((W1.alloc (.cells #[.string ⟨t.itm.tag.toArray⟩, .string ⟨t.itm.qual.toArray⟩, .string ⟨t.itm.text.toArray⟩, .string ⟨t.itm.name.toArray⟩, .slice ka t.kids.length kcap] 34)).alloc (.cells #[.int .u8 (x.toNat : Int), .int .u8 (y.toNat : Int)] 5)) = .ok (.string ⟨tg.toArray⟩) ((W1.alloc (.cells #[.string ⟨t.itm.tag.toArray⟩, .string ⟨t.itm.qual.toArray⟩, .string ⟨t.itm.text.toArray⟩, .string ⟨t.itm.name.toArray⟩, .slice ka t.kids.length kcap] 34)).alloc (.cells #[.int .u8 (x.toNat : Int), .int .u8 (y.toNat : Int)] 5)) := by
              rw [HTGE.out]
              exact run_convert_bytes_back (P := Try.prog) ((W1.alloc (.cells #[.string ⟨t.itm.tag.toArray⟩, .string ⟨t.itm.qual.toArray⟩, .string ⟨t.itm.text.toArray⟩, .string ⟨t.itm.name.toArray⟩, .slice ka t.kids.length kcap] 34)).alloc (.cells #[.int .u8 (x.toNat : Int), .int .u8 (y.toNat : Int)] 5)) 43 9 5 ⟨W1.heap.size + 1, 0, none⟩ 2 [x, y] Try.underlying43 Try.underlying5 Try.underlying9 (fun j hj => by
                match j, hj with
                | 0, _ => simp [Addr.add]
                | 1, _ => simp [Addr.add])
            by_cases h3 : N % 3 = 0
            · have h3I : decide (0 < (N : Int) % 3) = false := decide_eq_false (by omega)
              have HTG : Hid (tagB tg = true) := by rw [HTGE.out]; exact hide (tag_of HXD.out HYD.out)
              have e16 : (tg == [49, 54, 82]) = false := by rw [HTGE.out]; exact beq_eq_false_iff_ne.2 (fun e => by simp at e)
              have e17 : (tg == [49, 54, 83]) = false := by rw [HTGE.out]; exact beq_eq_false_iff_ne.2 (fun e => by simp at e)
              clear h3
              have BY : Hid (Below W1.heap.size W1 (((W1.alloc (.cells #[.string ⟨t.itm.tag.toArray⟩, .string ⟨t.itm.qual.toArray⟩, .string ⟨t.itm.text.toArray⟩, .string ⟨t.itm.name.toArray⟩, .slice ka t.kids.length kcap] 34)).alloc (.cells #[.int .u8 (x.toNat : Int), .int .u8 (y.toNat : Int)] 5)).alloc (.cells #[.string ⟨tg.toArray⟩, .string ⟨#[]⟩, .string ⟨#[]⟩, .string ⟨#[]⟩, .slice none 0 0] 34))) := hide ((((((Below.refl W1.heap.size W1).alloc (Nat.le_refl _) _)).alloc (by simp) _)).alloc (by simp; omega) (.cells #[.string ⟨tg.toArray⟩, .string ⟨#[]⟩, .string ⟨#[]⟩, .string ⟨#[]⟩, .slice none 0 0] 34))
              have YY : Hid (Ix (((W1.alloc (.cells #[.string ⟨t.itm.tag.toArray⟩, .string ⟨t.itm.qual.toArray⟩, .string ⟨t.itm.text.toArray⟩, .string ⟨t.itm.name.toArray⟩, .slice ka t.kids.length kcap] 34)).alloc (.cells #[.int .u8 (x.toNat : Int), .int .u8 (y.toNat : Int)] 5)).alloc (.cells #[.string ⟨tg.toArray⟩, .string ⟨#[]⟩, .string ⟨#[]⟩, .string ⟨#[]⟩, .slice none 0 0] 34)) (W1.heap.size + 2) ⟨tg, [], [], []⟩ (.slice none 0 0)) := hide (alloc3_newt W1 _ _ _)
              have XY : Hid (Ix (((W1.alloc (.cells #[.string ⟨t.itm.tag.toArray⟩, .string ⟨t.itm.qual.toArray⟩, .string ⟨t.itm.text.toArray⟩, .string ⟨t.itm.name.toArray⟩, .slice ka t.kids.length kcap] 34)).alloc (.cells #[.int .u8 (x.toNat : Int), .int .u8 (y.toNat : Int)] 5)).alloc (.cells #[.string ⟨tg.toArray⟩, .string ⟨#[]⟩, .string ⟨#[]⟩, .string ⟨#[]⟩, .slice none 0 0] 34)) W1.heap.size t.itm (.slice ka t.kids.length kcap)) := hide (alloc_block (alloc_block (alloc_new W1 _)))
              cases hqe : t.itm.qual.isEmpty with
              | true =>
                have qq := str_eq_t hqe
                have qq1 : (t.itm.qual == []) = true := beq_iff_eq.2 (List.isEmpty_iff.1 hqe)
                have qq0 := bytes_nil_t hqe
                have HTX := hide (text_any t.itm.text false (((W1.alloc (.cells #[.string ⟨t.itm.tag.toArray⟩, .string ⟨t.itm.qual.toArray⟩, .string ⟨t.itm.text.toArray⟩, .string ⟨t.itm.name.toArray⟩, .slice ka t.kids.length kcap] 34)).alloc (.cells #[.int .u8 (x.toNat : Int), .int .u8 (y.toNat : Int)] 5)).alloc (.cells #[.string ⟨tg.toArray⟩, .string ⟨#[]⟩, .string ⟨#[]⟩, .string ⟨#[]⟩, .slice none 0 0] 34)) HTIO.out.text)
                clear hqe
                go_wp2_with fail
                refine HTX.out.mono ?_
                rintro e w6 ⟨⟨x', rfl, hx1, hx2, hx30, hx4⟩, hb6⟩
                have hx3 : ([] : List UInt8) = [] → hdB x' = false := fun _ => hx30 (by first | exact rfl | trivial)
                have Y6 := hide (YY.out.later hb6)
                have B6 := hide (BY.out.trans (hb6.mono BY.out.size))
                clear hb6 hx30 HTX qq qq1 qq0
                have Y7 : Hid (Ix (w6.setCell ⟨W1.heap.size + 2, 2, none⟩ (.string ⟨x'.toArray⟩)) (W1.heap.size + 2) ⟨tg, [], x', []⟩ (.slice none 0 0)) := hide (Y6.out.putText x')
                have B7 := hide (B6.out.setCell (p := ⟨W1.heap.size + 2, 2, none⟩) (by simp) (.string ⟨x'.toArray⟩))
                have HG : Hid (errI (.mk ⟨tg, [], x', []⟩ []) d = 0) := hide (field_good HTG.out (Or.inl rfl) hx1 hx2 hx3)
                have HGL : Hid ((txtI (.mk ⟨tg, [], x', []⟩ [])).length ≤ 240) := hide (field_len HTG.out (Or.inl rfl) hx4)
                have zf := Y6.out.free2
                have zt := Y6.out.text trivial
                have hYl : W1.heap.size + 2 < w6.heap.size := Y6.out.lt
                obtain ⟨w7, hW7⟩ : ∃ w7, w6.setCell ⟨W1.heap.size + 2, 2, none⟩ (.string ⟨x'.toArray⟩) = w7 := ⟨_, rfl⟩
                rw [hW7] at Y7 B7
                have S7 := hide (S1.out.later B7.out)
                have HSZ : Hid (wr.heap.size ≤ w7.heap.size) := by show _ ≤ _; have := B7.out.size; have := HWZ.out; omega
                clear hx1 hx2 hx3 hx4
                go_wp2_with (first
                  | (refine wpList_load_row rfl 34 (.tmp 12) rfl (W1.heap.size + 2) rfl _ (iC ⟨tg, [], x', []⟩ (.slice none 0 0)) _ _ Y7.out Try.underlying34 rfl Try.sizeItm ?_; unfold iC)
                  | (at_builtin; refine wp_append_itm rfl _ _ rfl w.heap.size _ m.length _ rfl (S7.out.iw.row.alloc _) _ 1 1 [.string ⟨tg.toArray⟩, .string ⟨#[]⟩, .string ⟨x'.toArray⟩, .string ⟨#[]⟩, .slice none 0 0] rfl rfl (by decide) ?c1 ?c2 ?c3 ?c4 ?_))
                case c1 =>
                  intro j u hj
                  match j, hj with
                  | 0, hj => simp at hj; subst hj; simp [Addr.add]
                  | 1, hj => simp at hj; subst hj; simp [Addr.add]
                  | 2, hj => simp at hj; subst hj; simp [Addr.add]
                  | 3, hj => simp at hj; subst hj; simp [Addr.add]
                  | 4, hj => simp at hj; subst hj; simp [Addr.add]
                case c2 => intro u hu; simp at hu; (repeat' (first | (rcases hu with rfl | hu) | subst hu)) <;> rfl
                case c3 => have := S7.out.mv.size; simp; omega
                case c4 => have := S7.out.cnt; omega
                intro v' w8 hown' hgrow hfresh
                have BB := hide ((Below.refl w7.heap.size w7).alloc (Nat.le_refl _) (.cells #[.string ⟨tg.toArray⟩, .string ⟨#[]⟩, .string ⟨x'.toArray⟩, .string ⟨#[]⟩, .slice none 0 0] 34))
                have S8 := hide ((S7.out.later BB.out).snoc (a := .mk ⟨tg, [], x', []⟩ []) (u := .slice none 0 0) (lo := w7.heap.size) HP.out hown' hgrow (fun x hx => (hfresh x hx).imp id (fun h => by simpa using h)) (by have := HS.out.mv.size; have := HSZ.out; omega) (fun x hx => by have := (own_ltq HS.out.iw.row x hx).2; have := HSZ.out; omega) ⟨none, 0, rfl, .inl rfl⟩ HG.out (by have h1 := HS.out.len; have h2 := HGL.out; have h3 := HS.out.cnt; omega) (by have := HS.out.cnt; omega))
                clear hown' hgrow hfresh BB
                go_wp2_with fail
                go_roundw
                case rel => exact ⟨k + 1, n2, _, _, by omega, by go_num, S8⟩
                case measure => simp [intOf]; omega
              | false =>
                have qq := str_eq_f hqe
                have qq1 : (t.itm.qual == []) = false := beq_eq_false_iff_ne.2 (fun e => by rw [e] at hqe; cases hqe)
                have qq0 := bytes_nil_f hqe
                have HGQ : Hid (Calls Try.prog 9 #[.string ⟨t.itm.qual.toArray⟩, .int .i64 4, .int .i64 4] (((W1.alloc (.cells #[.string ⟨t.itm.tag.toArray⟩, .string ⟨t.itm.qual.toArray⟩, .string ⟨t.itm.text.toArray⟩, .string ⟨t.itm.name.toArray⟩, .slice ka t.kids.length kcap] 34)).alloc (.cells #[.int .u8 (x.toNat : Int), .int .u8 (y.toNat : Int)] 5)).alloc (.cells #[.string ⟨tg.toArray⟩, .string ⟨#[]⟩, .string ⟨#[]⟩, .string ⟨#[]⟩, .slice none 0 0] 34)) fun e w' => (∃ o : List UInt8, e = .returned (.string ⟨o.toArray⟩) ∧ o.all sg = true ∧ 4 ≤ o.length ∧ o.length ≤ 4) ∧ Below (((W1.alloc (.cells #[.string ⟨t.itm.tag.toArray⟩, .string ⟨t.itm.qual.toArray⟩, .string ⟨t.itm.text.toArray⟩, .string ⟨t.itm.name.toArray⟩, .slice ka t.kids.length kcap] 34)).alloc (.cells #[.int .u8 (x.toNat : Int), .int .u8 (y.toNat : Int)] 5)).alloc (.cells #[.string ⟨tg.toArray⟩, .string ⟨#[]⟩, .string ⟨#[]⟩, .string ⟨#[]⟩, .slice none 0 0] 34)).heap.size (((W1.alloc (.cells #[.string ⟨t.itm.tag.toArray⟩, .string ⟨t.itm.qual.toArray⟩, .string ⟨t.itm.text.toArray⟩, .string ⟨t.itm.name.toArray⟩, .slice ka t.kids.length kcap] 34)).alloc (.cells #[.int .u8 (x.toNat : Int), .int .u8 (y.toNat : Int)] 5)).alloc (.cells #[.string ⟨tg.toArray⟩, .string ⟨#[]⟩, .string ⟨#[]⟩, .string ⟨#[]⟩, .slice none 0 0] 34)) w') := hide (great_any t.itm.qual 4 4 (((W1.alloc (.cells #[.string ⟨t.itm.tag.toArray⟩, .string ⟨t.itm.qual.toArray⟩, .string ⟨t.itm.text.toArray⟩, .string ⟨t.itm.name.toArray⟩, .slice ka t.kids.length kcap] 34)).alloc (.cells #[.int .u8 (x.toNat : Int), .int .u8 (y.toNat : Int)] 5)).alloc (.cells #[.string ⟨tg.toArray⟩, .string ⟨#[]⟩, .string ⟨#[]⟩, .string ⟨#[]⟩, .slice none 0 0] 34)) HTIO.out.qual (by omega) (by omega))
                clear hqe
                go_wp2_with fail
                refine HGQ.out.mono ?_
                rintro e w5 ⟨⟨qo, rfl, hq1, hq2, hq3⟩, hb5⟩
                have HQ : Hid (qo = [] ∨ qualB qo = true) := hide (.inr (by unfold qualB; rw [hq1, decide_eq_true (show qo.length = 4 by omega)]; rfl))
                have hqe2 : qo.isEmpty = false := by cases qo with
                  | nil => simp at hq2
                  | cons _ _ => rfl
                have qq2 := str_eq_f hqe2
                have qq3 : (qo == []) = false := beq_eq_false_iff_ne.2 (fun e => by rw [e] at hqe2; cases hqe2)
                have qq4 := bytes_nil_f hqe2
                have HQN : Hid (qo ≠ []) := hide (fun e => by rw [e] at hqe2; cases hqe2)
                have Y5 := hide (YY.out.later hb5)
                have B5 := hide (BY.out.trans (hb5.mono BY.out.size))
                have X5 := hide (XY.out.later hb5)
                have Y5b : Hid (Ix (w5.setCell ⟨W1.heap.size + 2, 1, none⟩ (.string ⟨qo.toArray⟩)) (W1.heap.size + 2) ⟨tg, qo, [], []⟩ (.slice none 0 0)) := hide (Y5.out.putQual qo)
                have B5b := hide (B5.out.setCell (p := ⟨W1.heap.size + 2, 1, none⟩) (by simp) (.string ⟨qo.toArray⟩))
                have X5b : Hid (Ix (w5.setCell ⟨W1.heap.size + 2, 1, none⟩ (.string ⟨qo.toArray⟩)) W1.heap.size t.itm (.slice ka t.kids.length kcap)) := hide ((Below.heap_setCell _ _ _ W1.heap.size (by show W1.heap.size ≠ W1.heap.size + 2; omega)).trans X5.out)
                have z1 := Y5.out.free1
                have z2 := Y5.out.qual trivial
                have hYl5 : W1.heap.size + 2 < w5.heap.size := Y5.out.lt
                obtain ⟨w5b, hW5⟩ : ∃ w5b, w5.setCell ⟨W1.heap.size + 2, 1, none⟩ (.string ⟨qo.toArray⟩) = w5b := ⟨_, rfl⟩
                rw [hW5] at Y5b B5b X5b
                have HTX := hide (text_any t.itm.text true w5b HTIO.out.text)
                have z3 := X5b.out.text trivial
                have z4 := Y5b.out.qual trivial
                clear hb5 hq1 hq2 hq3 hqe2 HGQ qq qq1 qq0 Y5 X5 B5
                go_wp2_with fail
                refine HTX.out.mono ?_
                rintro e w6 ⟨⟨x', rfl, hx1, hx2, hx30, hx4⟩, hb6⟩
                have hx3 : qo = [] → hdB x' = false := fun e => absurd e HQN.out
                have Y6 := hide (Y5b.out.later hb6)
                have B6 := hide (B5b.out.trans (hb6.mono B5b.out.size))
                clear hb6 hx30 HTX qq2 qq3 qq4 z1 z2 z3 z4 hW5
                have Y7 : Hid (Ix (w6.setCell ⟨W1.heap.size + 2, 2, none⟩ (.string ⟨x'.toArray⟩)) (W1.heap.size + 2) ⟨tg, qo, x', []⟩ (.slice none 0 0)) := hide (Y6.out.putText x')
                have B7 := hide (B6.out.setCell (p := ⟨W1.heap.size + 2, 2, none⟩) (by simp) (.string ⟨x'.toArray⟩))
                have HG : Hid (errI (.mk ⟨tg, qo, x', []⟩ []) d = 0) := hide (field_good HTG.out HQ.out hx1 hx2 hx3)
                have HGL : Hid ((txtI (.mk ⟨tg, qo, x', []⟩ [])).length ≤ 240) := hide (field_len HTG.out HQ.out hx4)
                have zf := Y6.out.free2
                have zt := Y6.out.text trivial
                have hYl : W1.heap.size + 2 < w6.heap.size := Y6.out.lt
                obtain ⟨w7, hW7⟩ : ∃ w7, w6.setCell ⟨W1.heap.size + 2, 2, none⟩ (.string ⟨x'.toArray⟩) = w7 := ⟨_, rfl⟩
                rw [hW7] at Y7 B7
                have S7 := hide (S1.out.later B7.out)
                have HSZ : Hid (wr.heap.size ≤ w7.heap.size) := by show _ ≤ _; have := B7.out.size; have := HWZ.out; omega
                clear hx1 hx2 hx3 hx4
                go_wp2_with (first
                  | (refine wpList_load_row rfl 34 (.tmp 12) rfl (W1.heap.size + 2) rfl _ (iC ⟨tg, qo, x', []⟩ (.slice none 0 0)) _ _ Y7.out Try.underlying34 rfl Try.sizeItm ?_; unfold iC)
                  | (at_builtin; refine wp_append_itm rfl _ _ rfl w.heap.size _ m.length _ rfl (S7.out.iw.row.alloc _) _ 1 1 [.string ⟨tg.toArray⟩, .string ⟨qo.toArray⟩, .string ⟨x'.toArray⟩, .string ⟨#[]⟩, .slice none 0 0] rfl rfl (by decide) ?c1 ?c2 ?c3 ?c4 ?_))
                case c1 =>
                  intro j u hj
                  match j, hj with
                  | 0, hj => simp at hj; subst hj; simp [Addr.add]
                  | 1, hj => simp at hj; subst hj; simp [Addr.add]
                  | 2, hj => simp at hj; subst hj; simp [Addr.add]
                  | 3, hj => simp at hj; subst hj; simp [Addr.add]
                  | 4, hj => simp at hj; subst hj; simp [Addr.add]
                case c2 => intro u hu; simp at hu; (repeat' (first | (rcases hu with rfl | hu) | subst hu)) <;> rfl
                case c3 => have := S7.out.mv.size; simp; omega
                case c4 => have := S7.out.cnt; omega
                intro v' w8 hown' hgrow hfresh
                have BB := hide ((Below.refl w7.heap.size w7).alloc (Nat.le_refl _) (.cells #[.string ⟨tg.toArray⟩, .string ⟨qo.toArray⟩, .string ⟨x'.toArray⟩, .string ⟨#[]⟩, .slice none 0 0] 34))
                have S8 := hide ((S7.out.later BB.out).snoc (a := .mk ⟨tg, qo, x', []⟩ []) (u := .slice none 0 0) (lo := w7.heap.size) HP.out hown' hgrow (fun x hx => (hfresh x hx).imp id (fun h => by simpa using h)) (by have := HS.out.mv.size; have := HSZ.out; omega) (fun x hx => by have := (own_ltq HS.out.iw.row x hx).2; have := HSZ.out; omega) ⟨none, 0, rfl, .inl rfl⟩ HG.out (by have h1 := HS.out.len; have h2 := HGL.out; have h3 := HS.out.cnt; omega) (by have := HS.out.cnt; omega))
                clear hown' hgrow hfresh BB
                go_wp2_with fail
                go_roundw
                case rel => exact ⟨k + 1, n2, _, _, by omega, by go_num, S8⟩
                case measure => simp [intOf]; omega
            · have h3I : decide (0 < (N : Int) % 3) = true := decide_eq_true (by omega)
              obtain ⟨z, hzv, HZC⟩ : ∃ z : UInt8, 65 + (N : Int) % 26 = (z.toNat : Int) ∧ Hid (isCp z = true) := cap_of _ (by omega) (by omega)
              have hcv3 : (convert 43 9 (.slice (some ⟨W1.heap.size + 2, 0, none⟩) 1 1)).run Try.prog (((W1.alloc (.cells #[.string ⟨t.itm.tag.toArray⟩, .string ⟨t.itm.qual.toArray⟩, .string ⟨t.itm.text.toArray⟩, .string ⟨t.itm.name.toArray⟩, .slice ka t.kids.length kcap] 34)).alloc (.cells #[.int .u8 (x.toNat : Int), .int .u8 (y.toNat : Int)] 5)).alloc (.cells #[.int .u8 (z.toNat : Int)] 5)) = .ok (.string ⟨#[z]⟩) (((W1.alloc (.cells #[.string ⟨t.itm.tag.toArray⟩, .string ⟨t.itm.qual.toArray⟩, .string ⟨t.itm.text.toArray⟩, .string ⟨t.itm.name.toArray⟩, .slice ka t.kids.length kcap] 34)).alloc (.cells #[.int .u8 (x.toNat : Int), .int .u8 (y.toNat : Int)] 5)).alloc (.cells #[.int .u8 (z.toNat : Int)] 5)) :=
                run_convert_bytes_back (P := Try.prog) (((W1.alloc (.cells #[.string ⟨t.itm.tag.toArray⟩, .string ⟨t.itm.qual.toArray⟩, .string ⟨t.itm.text.toArray⟩, .string ⟨t.itm.name.toArray⟩, .slice ka t.kids.length kcap] 34)).alloc (.cells #[.int .u8 (x.toNat : Int), .int .u8 (y.toNat : Int)] 5)).alloc (.cells #[.int .u8 (z.toNat : Int)] 5)) 43 9 5 ⟨W1.heap.size + 2, 0, none⟩ 1 [z] Try.underlying43 Try.underlying5 Try.underlying9 (fun j hj => by
                  match j, hj with
                  | 0, _ =>
                    show World.cell? _ ⟨W1.heap.size + 2, 0, none⟩ = _
                    rw [cell_of_row _ _ 0 _ _ _ (alloc3_newt W1 _ _ _)]; rfl)
              have hcv4 : (convert 43 9 (.slice (some ⟨W1.heap.size + 1 + 1, 0, none⟩) 1 1)).run Try.prog (((W1.alloc (.cells #[.string ⟨t.itm.tag.toArray⟩, .string ⟨t.itm.qual.toArray⟩, .string ⟨t.itm.text.toArray⟩, .string ⟨t.itm.name.toArray⟩, .slice ka t.kids.length kcap] 34)).alloc (.cells #[.int .u8 (x.toNat : Int), .int .u8 (y.toNat : Int)] 5)).alloc (.cells #[.int .u8 (z.toNat : Int)] 5)) = .ok (.string ⟨#[z]⟩) (((W1.alloc (.cells #[.string ⟨t.itm.tag.toArray⟩, .string ⟨t.itm.qual.toArray⟩, .string ⟨t.itm.text.toArray⟩, .string ⟨t.itm.name.toArray⟩, .slice ka t.kids.length kcap] 34)).alloc (.cells #[.int .u8 (x.toNat : Int), .int .u8 (y.toNat : Int)] 5)).alloc (.cells #[.int .u8 (z.toNat : Int)] 5)) := hcv3
              obtain ⟨tk, happ, HTK⟩ : ∃ tk : List UInt8, (⟨tg.toArray⟩ : ByteArray) ++ ⟨#[z]⟩ = ⟨tk.toArray⟩ ∧ Hid (tk = [x, y, z]) := ⟨tg ++ [z], by apply ByteArray.ext; simp, hide (by rw [HTGE.out]; rfl)⟩
              have htk3 : tg.length = 2 := by rw [HTGE.out]; rfl
              clear h3
              by_cases hr : tk = r16
              · have e16 : (tk == [49, 54, 82]) = true := beq_iff_eq.2 hr
                have HTG : Hid (tagB [49, 54, 84] = true) := hide tag_t
                clear hr
                have BY : Hid (Below W1.heap.size W1 ((((W1.alloc (.cells #[.string ⟨t.itm.tag.toArray⟩, .string ⟨t.itm.qual.toArray⟩, .string ⟨t.itm.text.toArray⟩, .string ⟨t.itm.name.toArray⟩, .slice ka t.kids.length kcap] 34)).alloc (.cells #[.int .u8 (x.toNat : Int), .int .u8 (y.toNat : Int)] 5)).alloc (.cells #[.int .u8 (z.toNat : Int)] 5)).alloc (.cells #[.string ⟨([49, 54, 84] : List UInt8).toArray⟩, .string ⟨#[]⟩, .string ⟨#[]⟩, .string ⟨#[]⟩, .slice none 0 0] 34))) := hide (((((((Below.refl W1.heap.size W1).alloc (Nat.le_refl _) _)).alloc (by simp) _).alloc (by simp; omega) _)).alloc (by simp; omega) (.cells #[.string ⟨([49, 54, 84] : List UInt8).toArray⟩, .string ⟨#[]⟩, .string ⟨#[]⟩, .string ⟨#[]⟩, .slice none 0 0] 34))
                have YY : Hid (Ix ((((W1.alloc (.cells #[.string ⟨t.itm.tag.toArray⟩, .string ⟨t.itm.qual.toArray⟩, .string ⟨t.itm.text.toArray⟩, .string ⟨t.itm.name.toArray⟩, .slice ka t.kids.length kcap] 34)).alloc (.cells #[.int .u8 (x.toNat : Int), .int .u8 (y.toNat : Int)] 5)).alloc (.cells #[.int .u8 (z.toNat : Int)] 5)).alloc (.cells #[.string ⟨([49, 54, 84] : List UInt8).toArray⟩, .string ⟨#[]⟩, .string ⟨#[]⟩, .string ⟨#[]⟩, .slice none 0 0] 34)) (W1.heap.size + 3) ⟨([49, 54, 84] : List UInt8), [], [], []⟩ (.slice none 0 0)) := hide (alloc4_newt W1 _ _ _ _)
                have XY : Hid (Ix ((((W1.alloc (.cells #[.string ⟨t.itm.tag.toArray⟩, .string ⟨t.itm.qual.toArray⟩, .string ⟨t.itm.text.toArray⟩, .string ⟨t.itm.name.toArray⟩, .slice ka t.kids.length kcap] 34)).alloc (.cells #[.int .u8 (x.toNat : Int), .int .u8 (y.toNat : Int)] 5)).alloc (.cells #[.int .u8 (z.toNat : Int)] 5)).alloc (.cells #[.string ⟨([49, 54, 84] : List UInt8).toArray⟩, .string ⟨#[]⟩, .string ⟨#[]⟩, .string ⟨#[]⟩, .slice none 0 0] 34)) W1.heap.size t.itm (.slice ka t.kids.length kcap)) := hide (alloc_block (alloc_block (alloc_block (alloc_new W1 _))))
                cases hqe : t.itm.qual.isEmpty with
                | true =>
                  have qq := str_eq_t hqe
                  have qq1 : (t.itm.qual == []) = true := beq_iff_eq.2 (List.isEmpty_iff.1 hqe)
                  have qq0 := bytes_nil_t hqe
                  have HTX := hide (text_any t.itm.text false ((((W1.alloc (.cells #[.string ⟨t.itm.tag.toArray⟩, .string ⟨t.itm.qual.toArray⟩, .string ⟨t.itm.text.toArray⟩, .string ⟨t.itm.name.toArray⟩, .slice ka t.kids.length kcap] 34)).alloc (.cells #[.int .u8 (x.toNat : Int), .int .u8 (y.toNat : Int)] 5)).alloc (.cells #[.int .u8 (z.toNat : Int)] 5)).alloc (.cells #[.string ⟨([49, 54, 84] : List UInt8).toArray⟩, .string ⟨#[]⟩, .string ⟨#[]⟩, .string ⟨#[]⟩, .slice none 0 0] 34)) HTIO.out.text)
                  clear hqe
                  go_wp2_with fail
                  refine HTX.out.mono ?_
                  rintro e w6 ⟨⟨x', rfl, hx1, hx2, hx30, hx4⟩, hb6⟩
                  have hx3 : ([] : List UInt8) = [] → hdB x' = false := fun _ => hx30 (by first | exact rfl | trivial)
                  have Y6 := hide (YY.out.later hb6)
                  have B6 := hide (BY.out.trans (hb6.mono BY.out.size))
                  clear hb6 hx30 HTX qq qq1 qq0
                  have Y7 : Hid (Ix (w6.setCell ⟨W1.heap.size + 3, 2, none⟩ (.string ⟨x'.toArray⟩)) (W1.heap.size + 3) ⟨([49, 54, 84] : List UInt8), [], x', []⟩ (.slice none 0 0)) := hide (Y6.out.putText x')
                  have B7 := hide (B6.out.setCell (p := ⟨W1.heap.size + 3, 2, none⟩) (by simp) (.string ⟨x'.toArray⟩))
                  have HG : Hid (errI (.mk ⟨([49, 54, 84] : List UInt8), [], x', []⟩ []) d = 0) := hide (field_good HTG.out (Or.inl rfl) hx1 hx2 hx3)
                  have HGL : Hid ((txtI (.mk ⟨([49, 54, 84] : List UInt8), [], x', []⟩ [])).length ≤ 240) := hide (field_len HTG.out (Or.inl rfl) hx4)
                  have zf := Y6.out.free2
                  have zt := Y6.out.text trivial
                  have hYl : W1.heap.size + 3 < w6.heap.size := Y6.out.lt
                  obtain ⟨w7, hW7⟩ : ∃ w7, w6.setCell ⟨W1.heap.size + 3, 2, none⟩ (.string ⟨x'.toArray⟩) = w7 := ⟨_, rfl⟩
                  rw [hW7] at Y7 B7
                  have S7 := hide (S1.out.later B7.out)
                  have HSZ : Hid (wr.heap.size ≤ w7.heap.size) := by show _ ≤ _; have := B7.out.size; have := HWZ.out; omega
                  clear hx1 hx2 hx3 hx4
                  go_wp2_with (first
                    | (refine wpList_load_row rfl 34 (.tmp 12) rfl (W1.heap.size + 3) rfl _ (iC ⟨([49, 54, 84] : List UInt8), [], x', []⟩ (.slice none 0 0)) _ _ Y7.out Try.underlying34 rfl Try.sizeItm ?_; unfold iC)
                    | (at_builtin; refine wp_append_itm rfl _ _ rfl w.heap.size _ m.length _ rfl (S7.out.iw.row.alloc _) _ 1 1 [.string ⟨([49, 54, 84] : List UInt8).toArray⟩, .string ⟨#[]⟩, .string ⟨x'.toArray⟩, .string ⟨#[]⟩, .slice none 0 0] rfl rfl (by decide) ?c1 ?c2 ?c3 ?c4 ?_))
                  case c1 =>
                    intro j u hj
                    match j, hj with
                    | 0, hj => simp at hj; subst hj; simp [Addr.add]
                    | 1, hj => simp at hj; subst hj; simp [Addr.add]
                    | 2, hj => simp at hj; subst hj; simp [Addr.add]
                    | 3, hj => simp at hj; subst hj; simp [Addr.add]
                    | 4, hj => simp at hj; subst hj; simp [Addr.add]
                  case c2 => intro u hu; simp at hu; (repeat' (first | (rcases hu with rfl | hu) | subst hu)) <;> rfl
                  case c3 => have := S7.out.mv.size; simp; omega
                  case c4 => have := S7.out.cnt; omega
                  intro v' w8 hown' hgrow hfresh
                  have BB := hide ((Below.refl w7.heap.size w7).alloc (Nat.le_refl _) (.cells #[.string ⟨([49, 54, 84] : List UInt8).toArray⟩, .string ⟨#[]⟩, .string ⟨x'.toArray⟩, .string ⟨#[]⟩, .slice none 0 0] 34))
                  have S8 := hide ((S7.out.later BB.out).snoc (a := .mk ⟨([49, 54, 84] : List UInt8), [], x', []⟩ []) (u := .slice none 0 0) (lo := w7.heap.size) HP.out hown' hgrow (fun x hx => (hfresh x hx).imp id (fun h => by simpa using h)) (by have := HS.out.mv.size; have := HSZ.out; omega) (fun x hx => by have := (own_ltq HS.out.iw.row x hx).2; have := HSZ.out; omega) ⟨none, 0, rfl, .inl rfl⟩ HG.out (by have h1 := HS.out.len; have h2 := HGL.out; have h3 := HS.out.cnt; omega) (by have := HS.out.cnt; omega))
                  clear hown' hgrow hfresh BB
                  go_wp2_with fail
                  go_roundw
                  case rel => exact ⟨k + 1, n2, _, _, by omega, by go_num, S8⟩
                  case measure => simp [intOf]; omega
                | false =>
                  have qq := str_eq_f hqe
                  have qq1 : (t.itm.qual == []) = false := beq_eq_false_iff_ne.2 (fun e => by rw [e] at hqe; cases hqe)
                  have qq0 := bytes_nil_f hqe
                  have HGQ : Hid (Calls Try.prog 9 #[.string ⟨t.itm.qual.toArray⟩, .int .i64 4, .int .i64 4] ((((W1.alloc (.cells #[.string ⟨t.itm.tag.toArray⟩, .string ⟨t.itm.qual.toArray⟩, .string ⟨t.itm.text.toArray⟩, .string ⟨t.itm.name.toArray⟩, .slice ka t.kids.length kcap] 34)).alloc (.cells #[.int .u8 (x.toNat : Int), .int .u8 (y.toNat : Int)] 5)).alloc (.cells #[.int .u8 (z.toNat : Int)] 5)).alloc (.cells #[.string ⟨([49, 54, 84] : List UInt8).toArray⟩, .string ⟨#[]⟩, .string ⟨#[]⟩, .string ⟨#[]⟩, .slice none 0 0] 34)) fun e w' => (∃ o : List UInt8, e = .returned (.string ⟨o.toArray⟩) ∧ o.all sg = true ∧ 4 ≤ o.length ∧ o.length ≤ 4) ∧ Below ((((W1.alloc (.cells #[.string ⟨t.itm.tag.toArray⟩, .string ⟨t.itm.qual.toArray⟩, .string ⟨t.itm.text.toArray⟩, .string ⟨t.itm.name.toArray⟩, .slice ka t.kids.length kcap] 34)).alloc (.cells #[.int .u8 (x.toNat : Int), .int .u8 (y.toNat : Int)] 5)).alloc (.cells #[.int .u8 (z.toNat : Int)] 5)).alloc (.cells #[.string ⟨([49, 54, 84] : List UInt8).toArray⟩, .string ⟨#[]⟩, .string ⟨#[]⟩, .string ⟨#[]⟩, .slice none 0 0] 34)).heap.size ((((W1.alloc (.cells #[.string ⟨t.itm.tag.toArray⟩, .string ⟨t.itm.qual.toArray⟩, .string ⟨t.itm.text.toArray⟩, .string ⟨t.itm.name.toArray⟩, .slice ka t.kids.length kcap] 34)).alloc (.cells #[.int .u8 (x.toNat : Int), .int .u8 (y.toNat : Int)] 5)).alloc (.cells #[.int .u8 (z.toNat : Int)] 5)).alloc (.cells #[.string ⟨([49, 54, 84] : List UInt8).toArray⟩, .string ⟨#[]⟩, .string ⟨#[]⟩, .string ⟨#[]⟩, .slice none 0 0] 34)) w') := hide (great_any t.itm.qual 4 4 ((((W1.alloc (.cells #[.string ⟨t.itm.tag.toArray⟩, .string ⟨t.itm.qual.toArray⟩, .string ⟨t.itm.text.toArray⟩, .string ⟨t.itm.name.toArray⟩, .slice ka t.kids.length kcap] 34)).alloc (.cells #[.int .u8 (x.toNat : Int), .int .u8 (y.toNat : Int)] 5)).alloc (.cells #[.int .u8 (z.toNat : Int)] 5)).alloc (.cells #[.string ⟨([49, 54, 84] : List UInt8).toArray⟩, .string ⟨#[]⟩, .string ⟨#[]⟩, .string ⟨#[]⟩, .slice none 0 0] 34)) HTIO.out.qual (by omega) (by omega))
                  clear hqe
                  go_wp2_with fail
                  refine HGQ.out.mono ?_
                  rintro e w5 ⟨⟨qo, rfl, hq1, hq2, hq3⟩, hb5⟩
                  have HQ : Hid (qo = [] ∨ qualB qo = true) := hide (.inr (by unfold qualB; rw [hq1, decide_eq_true (show qo.length = 4 by omega)]; rfl))
                  have hqe2 : qo.isEmpty = false := by cases qo with
                    | nil => simp at hq2
                    | cons _ _ => rfl
                  have qq2 := str_eq_f hqe2
                  have qq3 : (qo == []) = false := beq_eq_false_iff_ne.2 (fun e => by rw [e] at hqe2; cases hqe2)
                  have qq4 := bytes_nil_f hqe2
                  have HQN : Hid (qo ≠ []) := hide (fun e => by rw [e] at hqe2; cases hqe2)
                  have Y5 := hide (YY.out.later hb5)
                  have B5 := hide (BY.out.trans (hb5.mono BY.out.size))
                  have X5 := hide (XY.out.later hb5)
                  have Y5b : Hid (Ix (w5.setCell ⟨W1.heap.size + 3, 1, none⟩ (.string ⟨qo.toArray⟩)) (W1.heap.size + 3) ⟨([49, 54, 84] : List UInt8), qo, [], []⟩ (.slice none 0 0)) := hide (Y5.out.putQual qo)
                  have B5b := hide (B5.out.setCell (p := ⟨W1.heap.size + 3, 1, none⟩) (by simp) (.string ⟨qo.toArray⟩))
                  have X5b : Hid (Ix (w5.setCell ⟨W1.heap.size + 3, 1, none⟩ (.string ⟨qo.toArray⟩)) W1.heap.size t.itm (.slice ka t.kids.length kcap)) := hide ((Below.heap_setCell _ _ _ W1.heap.size (by show W1.heap.size ≠ W1.heap.size + 3; omega)).trans X5.out)
                  have z1 := Y5.out.free1
                  have z2 := Y5.out.qual trivial
                  have hYl5 : W1.heap.size + 3 < w5.heap.size := Y5.out.lt
                  obtain ⟨w5b, hW5⟩ : ∃ w5b, w5.setCell ⟨W1.heap.size + 3, 1, none⟩ (.string ⟨qo.toArray⟩) = w5b := ⟨_, rfl⟩
                  rw [hW5] at Y5b B5b X5b
                  have HTX := hide (text_any t.itm.text true w5b HTIO.out.text)
                  have z3 := X5b.out.text trivial
                  have z4 := Y5b.out.qual trivial
                  clear hb5 hq1 hq2 hq3 hqe2 HGQ qq qq1 qq0 Y5 X5 B5
                  go_wp2_with fail
                  refine HTX.out.mono ?_
                  rintro e w6 ⟨⟨x', rfl, hx1, hx2, hx30, hx4⟩, hb6⟩
                  have hx3 : qo = [] → hdB x' = false := fun e => absurd e HQN.out
                  have Y6 := hide (Y5b.out.later hb6)
                  have B6 := hide (B5b.out.trans (hb6.mono B5b.out.size))
                  clear hb6 hx30 HTX qq2 qq3 qq4 z1 z2 z3 z4 hW5
                  have Y7 : Hid (Ix (w6.setCell ⟨W1.heap.size + 3, 2, none⟩ (.string ⟨x'.toArray⟩)) (W1.heap.size + 3) ⟨([49, 54, 84] : List UInt8), qo, x', []⟩ (.slice none 0 0)) := hide (Y6.out.putText x')
                  have B7 := hide (B6.out.setCell (p := ⟨W1.heap.size + 3, 2, none⟩) (by simp) (.string ⟨x'.toArray⟩))
                  have HG : Hid (errI (.mk ⟨([49, 54, 84] : List UInt8), qo, x', []⟩ []) d = 0) := hide (field_good HTG.out HQ.out hx1 hx2 hx3)
                  have HGL : Hid ((txtI (.mk ⟨([49, 54, 84] : List UInt8), qo, x', []⟩ [])).length ≤ 240) := hide (field_len HTG.out HQ.out hx4)
                  have zf := Y6.out.free2
                  have zt := Y6.out.text trivial
                  have hYl : W1.heap.size + 3 < w6.heap.size := Y6.out.lt
                  obtain ⟨w7, hW7⟩ : ∃ w7, w6.setCell ⟨W1.heap.size + 3, 2, none⟩ (.string ⟨x'.toArray⟩) = w7 := ⟨_, rfl⟩
                  rw [hW7] at Y7 B7
                  have S7 := hide (S1.out.later B7.out)
                  have HSZ : Hid (wr.heap.size ≤ w7.heap.size) := by show _ ≤ _; have := B7.out.size; have := HWZ.out; omega
                  clear hx1 hx2 hx3 hx4
                  go_wp2_with (first
                    | (refine wpList_load_row rfl 34 (.tmp 12) rfl (W1.heap.size + 3) rfl _ (iC ⟨([49, 54, 84] : List UInt8), qo, x', []⟩ (.slice none 0 0)) _ _ Y7.out Try.underlying34 rfl Try.sizeItm ?_; unfold iC)
                    | (at_builtin; refine wp_append_itm rfl _ _ rfl w.heap.size _ m.length _ rfl (S7.out.iw.row.alloc _) _ 1 1 [.string ⟨([49, 54, 84] : List UInt8).toArray⟩, .string ⟨qo.toArray⟩, .string ⟨x'.toArray⟩, .string ⟨#[]⟩, .slice none 0 0] rfl rfl (by decide) ?c1 ?c2 ?c3 ?c4 ?_))
                  case c1 =>
                    intro j u hj
                    match j, hj with
                    | 0, hj => simp at hj; subst hj; simp [Addr.add]
                    | 1, hj => simp at hj; subst hj; simp [Addr.add]
                    | 2, hj => simp at hj; subst hj; simp [Addr.add]
                    | 3, hj => simp at hj; subst hj; simp [Addr.add]
                    | 4, hj => simp at hj; subst hj; simp [Addr.add]
                  case c2 => intro u hu; simp at hu; (repeat' (first | (rcases hu with rfl | hu) | subst hu)) <;> rfl
                  case c3 => have := S7.out.mv.size; simp; omega
                  case c4 => have := S7.out.cnt; omega
                  intro v' w8 hown' hgrow hfresh
                  have BB := hide ((Below.refl w7.heap.size w7).alloc (Nat.le_refl _) (.cells #[.string ⟨([49, 54, 84] : List UInt8).toArray⟩, .string ⟨qo.toArray⟩, .string ⟨x'.toArray⟩, .string ⟨#[]⟩, .slice none 0 0] 34))
                  have S8 := hide ((S7.out.later BB.out).snoc (a := .mk ⟨([49, 54, 84] : List UInt8), qo, x', []⟩ []) (u := .slice none 0 0) (lo := w7.heap.size) HP.out hown' hgrow (fun x hx => (hfresh x hx).imp id (fun h => by simpa using h)) (by have := HS.out.mv.size; have := HSZ.out; omega) (fun x hx => by have := (own_ltq HS.out.iw.row x hx).2; have := HSZ.out; omega) ⟨none, 0, rfl, .inl rfl⟩ HG.out (by have h1 := HS.out.len; have h2 := HGL.out; have h3 := HS.out.cnt; omega) (by have := HS.out.cnt; omega))
                  clear hown' hgrow hfresh BB
                  go_wp2_with fail
                  go_roundw
                  case rel => exact ⟨k + 1, n2, _, _, by omega, by go_num, S8⟩
                  case measure => simp [intOf]; omega
              · have e16 : (tk == [49, 54, 82]) = false := beq_eq_false_iff_ne.2 hr
                by_cases hs : tk = s16
                · have e17 : (tk == [49, 54, 83]) = true := beq_iff_eq.2 hs
                  have HTG : Hid (tagB [49, 54, 84] = true) := hide tag_t
                  clear hr hs
                  have BY : Hid (Below W1.heap.size W1 ((((W1.alloc (.cells #[.string ⟨t.itm.tag.toArray⟩, .string ⟨t.itm.qual.toArray⟩, .string ⟨t.itm.text.toArray⟩, .string ⟨t.itm.name.toArray⟩, .slice ka t.kids.length kcap] 34)).alloc (.cells #[.int .u8 (x.toNat : Int), .int .u8 (y.toNat : Int)] 5)).alloc (.cells #[.int .u8 (z.toNat : Int)] 5)).alloc (.cells #[.string ⟨([49, 54, 84] : List UInt8).toArray⟩, .string ⟨#[]⟩, .string ⟨#[]⟩, .string ⟨#[]⟩, .slice none 0 0] 34))) := hide (((((((Below.refl W1.heap.size W1).alloc (Nat.le_refl _) _)).alloc (by simp) _).alloc (by simp; omega) _)).alloc (by simp; omega) (.cells #[.string ⟨([49, 54, 84] : List UInt8).toArray⟩, .string ⟨#[]⟩, .string ⟨#[]⟩, .string ⟨#[]⟩, .slice none 0 0] 34))
                  have YY : Hid (Ix ((((W1.alloc (.cells #[.string ⟨t.itm.tag.toArray⟩, .string ⟨t.itm.qual.toArray⟩, .string ⟨t.itm.text.toArray⟩, .string ⟨t.itm.name.toArray⟩, .slice ka t.kids.length kcap] 34)).alloc (.cells #[.int .u8 (x.toNat : Int), .int .u8 (y.toNat : Int)] 5)).alloc (.cells #[.int .u8 (z.toNat : Int)] 5)).alloc (.cells #[.string ⟨([49, 54, 84] : List UInt8).toArray⟩, .string ⟨#[]⟩, .string ⟨#[]⟩, .string ⟨#[]⟩, .slice none 0 0] 34)) (W1.heap.size + 3) ⟨([49, 54, 84] : List UInt8), [], [], []⟩ (.slice none 0 0)) := hide (alloc4_newt W1 _ _ _ _)
                  have XY : Hid (Ix ((((W1.alloc (.cells #[.string ⟨t.itm.tag.toArray⟩, .string ⟨t.itm.qual.toArray⟩, .string ⟨t.itm.text.toArray⟩, .string ⟨t.itm.name.toArray⟩, .slice ka t.kids.length kcap] 34)).alloc (.cells #[.int .u8 (x.toNat : Int), .int .u8 (y.toNat : Int)] 5)).alloc (.cells #[.int .u8 (z.toNat : Int)] 5)).alloc (.cells #[.string ⟨([49, 54, 84] : List UInt8).toArray⟩, .string ⟨#[]⟩, .string ⟨#[]⟩, .string ⟨#[]⟩, .slice none 0 0] 34)) W1.heap.size t.itm (.slice ka t.kids.length kcap)) := hide (alloc_block (alloc_block (alloc_block (alloc_new W1 _))))
                  cases hqe : t.itm.qual.isEmpty with
                  | true =>
                    have qq := str_eq_t hqe
                    have qq1 : (t.itm.qual == []) = true := beq_iff_eq.2 (List.isEmpty_iff.1 hqe)
                    have qq0 := bytes_nil_t hqe
                    have HTX := hide (text_any t.itm.text false ((((W1.alloc (.cells #[.string ⟨t.itm.tag.toArray⟩, .string ⟨t.itm.qual.toArray⟩, .string ⟨t.itm.text.toArray⟩, .string ⟨t.itm.name.toArray⟩, .slice ka t.kids.length kcap] 34)).alloc (.cells #[.int .u8 (x.toNat : Int), .int .u8 (y.toNat : Int)] 5)).alloc (.cells #[.int .u8 (z.toNat : Int)] 5)).alloc (.cells #[.string ⟨([49, 54, 84] : List UInt8).toArray⟩, .string ⟨#[]⟩, .string ⟨#[]⟩, .string ⟨#[]⟩, .slice none 0 0] 34)) HTIO.out.text)
                    clear hqe
                    go_wp2_with fail
                    refine HTX.out.mono ?_
                    rintro e w6 ⟨⟨x', rfl, hx1, hx2, hx30, hx4⟩, hb6⟩
                    have hx3 : ([] : List UInt8) = [] → hdB x' = false := fun _ => hx30 (by first | exact rfl | trivial)
                    have Y6 := hide (YY.out.later hb6)
                    have B6 := hide (BY.out.trans (hb6.mono BY.out.size))
                    clear hb6 hx30 HTX qq qq1 qq0
                    have Y7 : Hid (Ix (w6.setCell ⟨W1.heap.size + 3, 2, none⟩ (.string ⟨x'.toArray⟩)) (W1.heap.size + 3) ⟨([49, 54, 84] : List UInt8), [], x', []⟩ (.slice none 0 0)) := hide (Y6.out.putText x')
                    have B7 := hide (B6.out.setCell (p := ⟨W1.heap.size + 3, 2, none⟩) (by simp) (.string ⟨x'.toArray⟩))
                    have HG : Hid (errI (.mk ⟨([49, 54, 84] : List UInt8), [], x', []⟩ []) d = 0) := hide (field_good HTG.out (Or.inl rfl) hx1 hx2 hx3)
                    have HGL : Hid ((txtI (.mk ⟨([49, 54, 84] : List UInt8), [], x', []⟩ [])).length ≤ 240) := hide (field_len HTG.out (Or.inl rfl) hx4)
                    have zf := Y6.out.free2
                    have zt := Y6.out.text trivial
                    have hYl : W1.heap.size + 3 < w6.heap.size := Y6.out.lt
                    obtain ⟨w7, hW7⟩ : ∃ w7, w6.setCell ⟨W1.heap.size + 3, 2, none⟩ (.string ⟨x'.toArray⟩) = w7 := ⟨_, rfl⟩
                    rw [hW7] at Y7 B7
                    have S7 := hide (S1.out.later B7.out)
                    have HSZ : Hid (wr.heap.size ≤ w7.heap.size) := by show _ ≤ _; have := B7.out.size; have := HWZ.out; omega
                    clear hx1 hx2 hx3 hx4
                    go_wp2_with (first
                      | (refine wpList_load_row rfl 34 (.tmp 12) rfl (W1.heap.size + 3) rfl _ (iC ⟨([49, 54, 84] : List UInt8), [], x', []⟩ (.slice none 0 0)) _ _ Y7.out Try.underlying34 rfl Try.sizeItm ?_; unfold iC)
                      | (at_builtin; refine wp_append_itm rfl _ _ rfl w.heap.size _ m.length _ rfl (S7.out.iw.row.alloc _) _ 1 1 [.string ⟨([49, 54, 84] : List UInt8).toArray⟩, .string ⟨#[]⟩, .string ⟨x'.toArray⟩, .string ⟨#[]⟩, .slice none 0 0] rfl rfl (by decide) ?c1 ?c2 ?c3 ?c4 ?_))
                    case c1 =>
                      intro j u hj
                      match j, hj with
                      | 0, hj => simp at hj; subst hj; simp [Addr.add]
                      | 1, hj => simp at hj; subst hj; simp [Addr.add]
                      | 2, hj => simp at hj; subst hj; simp [Addr.add]
                      | 3, hj => simp at hj; subst hj; simp [Addr.add]
                      | 4, hj => simp at hj; subst hj; simp [Addr.add]
                    case c2 => intro u hu; simp at hu; (repeat' (first | (rcases hu with rfl | hu) | subst hu)) <;> rfl
                    case c3 => have := S7.out.mv.size; simp; omega
                    case c4 => have := S7.out.cnt; omega
                    intro v' w8 hown' hgrow hfresh
                    have BB := hide ((Below.refl w7.heap.size w7).alloc (Nat.le_refl _) (.cells #[.string ⟨([49, 54, 84] : List UInt8).toArray⟩, .string ⟨#[]⟩, .string ⟨x'.toArray⟩, .string ⟨#[]⟩, .slice none 0 0] 34))
                    have S8 := hide ((S7.out.later BB.out).snoc (a := .mk ⟨([49, 54, 84] : List UInt8), [], x', []⟩ []) (u := .slice none 0 0) (lo := w7.heap.size) HP.out hown' hgrow (fun x hx => (hfresh x hx).imp id (fun h => by simpa using h)) (by have := HS.out.mv.size; have := HSZ.out; omega) (fun x hx => by have := (own_ltq HS.out.iw.row x hx).2; have := HSZ.out; omega) ⟨none, 0, rfl, .inl rfl⟩ HG.out (by have h1 := HS.out.len; have h2 := HGL.out; have h3 := HS.out.cnt; omega) (by have := HS.out.cnt; omega))
                    clear hown' hgrow hfresh BB
                    go_wp2_with fail
                    go_roundw
                    case rel => exact ⟨k + 1, n2, _, _, by omega, by go_num, S8⟩
                    case measure => simp [intOf]; omega
                  | false =>
                    have qq := str_eq_f hqe
                    have qq1 : (t.itm.qual == []) = false := beq_eq_false_iff_ne.2 (fun e => by rw [e] at hqe; cases hqe)
                    have qq0 := bytes_nil_f hqe
                    have HGQ : Hid (Calls Try.prog 9 #[.string ⟨t.itm.qual.toArray⟩, .int .i64 4, .int .i64 4] ((((W1.alloc (.cells #[.string ⟨t.itm.tag.toArray⟩, .string ⟨t.itm.qual.toArray⟩, .string ⟨t.itm.text.toArray⟩, .string ⟨t.itm.name.toArray⟩, .slice ka t.kids.length kcap] 34)).alloc (.cells #[.int .u8 (x.toNat : Int), .int .u8 (y.toNat : Int)] 5)).alloc (.cells #[.int .u8 (z.toNat : Int)] 5)).alloc (.cells #[.string ⟨([49, 54, 84] : List UInt8).toArray⟩, .string ⟨#[]⟩, .string ⟨#[]⟩, .string ⟨#[]⟩, .slice none 0 0] 34)) fun e w' => (∃ o : List UInt8, e = .returned (.string ⟨o.toArray⟩) ∧ o.all sg = true ∧ 4 ≤ o.length ∧ o.length ≤ 4) ∧ Below ((((W1.alloc (.cells #[.string ⟨t.itm.tag.toArray⟩, .string ⟨t.itm.qual.toArray⟩, .string ⟨t.itm.text.toArray⟩, .string ⟨t.itm.name.toArray⟩, .slice ka t.kids.length kcap] 34)).alloc (.cells #[.int .u8 (x.toNat : Int), .int .u8 (y.toNat : Int)] 5)).alloc (.cells #[.int .u8 (z.toNat : Int)] 5)).alloc (.cells #[.string ⟨([49, 54, 84] : List UInt8).toArray⟩, .string ⟨#[]⟩, .string ⟨#[]⟩, .string ⟨#[]⟩, .slice none 0 0] 34)).heap.size ((((W1.alloc (.cells #[.string ⟨t.itm.tag.toArray⟩, .string ⟨t.itm.qual.toArray⟩, .string ⟨t.itm.text.toArray⟩, .string ⟨t.itm.name.toArray⟩, .slice ka t.kids.length kcap] 34)).alloc (.cells #[.int .u8 (x.toNat : Int), .int .u8 (y.toNat : Int)] 5)).alloc (.cells #[.int .u8 (z.toNat : Int)] 5)).alloc (.cells #[.string ⟨([49, 54, 84] : List UInt8).toArray⟩, .string ⟨#[]⟩, .string ⟨#[]⟩, .string ⟨#[]⟩, .slice none 0 0] 34)) w') := hide (great_any t.itm.qual 4 4 ((((W1.alloc (.cells #[.string ⟨t.itm.tag.toArray⟩, .string ⟨t.itm.qual.toArray⟩, .string ⟨t.itm.text.toArray⟩, .string ⟨t.itm.name.toArray⟩, .slice ka t.kids.length kcap] 34)).alloc (.cells #[.int .u8 (x.toNat : Int), .int .u8 (y.toNat : Int)] 5)).alloc (.cells #[.int .u8 (z.toNat : Int)] 5)).alloc (.cells #[.string ⟨([49, 54, 84] : List UInt8).toArray⟩, .string ⟨#[]⟩, .string ⟨#[]⟩, .string ⟨#[]⟩, .slice none 0 0] 34)) HTIO.out.qual (by omega) (by omega))
                    clear hqe
                    go_wp2_with fail
                    refine HGQ.out.mono ?_
                    rintro e w5 ⟨⟨qo, rfl, hq1, hq2, hq3⟩, hb5⟩
                    have HQ : Hid (qo = [] ∨ qualB qo = true) := hide (.inr (by unfold qualB; rw [hq1, decide_eq_true (show qo.length = 4 by omega)]; rfl))
                    have hqe2 : qo.isEmpty = false := by cases qo with
                      | nil => simp at hq2
                      | cons _ _ => rfl
                    have qq2 := str_eq_f hqe2
                    have qq3 : (qo == []) = false := beq_eq_false_iff_ne.2 (fun e => by rw [e] at hqe2; cases hqe2)
                    have qq4 := bytes_nil_f hqe2
                    have HQN : Hid (qo ≠ []) := hide (fun e => by rw [e] at hqe2; cases hqe2)
                    have Y5 := hide (YY.out.later hb5)
                    have B5 := hide (BY.out.trans (hb5.mono BY.out.size))
                    have X5 := hide (XY.out.later hb5)
                    have Y5b : Hid (Ix (w5.setCell ⟨W1.heap.size + 3, 1, none⟩ (.string ⟨qo.toArray⟩)) (W1.heap.size + 3) ⟨([49, 54, 84] : List UInt8), qo, [], []⟩ (.slice none 0 0)) := hide (Y5.out.putQual qo)
                    have B5b := hide (B5.out.setCell (p := ⟨W1.heap.size + 3, 1, none⟩) (by simp) (.string ⟨qo.toArray⟩))
                    have X5b : Hid (Ix (w5.setCell ⟨W1.heap.size + 3, 1, none⟩ (.string ⟨qo.toArray⟩)) W1.heap.size t.itm (.slice ka t.kids.length kcap)) := hide ((Below.heap_setCell _ _ _ W1.heap.size (by show W1.heap.size ≠ W1.heap.size + 3; omega)).trans X5.out)
                    have z1 := Y5.out.free1
                    have z2 := Y5.out.qual trivial
                    have hYl5 : W1.heap.size + 3 < w5.heap.size := Y5.out.lt
                    obtain ⟨w5b, hW5⟩ : ∃ w5b, w5.setCell ⟨W1.heap.size + 3, 1, none⟩ (.string ⟨qo.toArray⟩) = w5b := ⟨_, rfl⟩
                    rw [hW5] at Y5b B5b X5b
                    have HTX := hide (text_any t.itm.text true w5b HTIO.out.text)
                    have z3 := X5b.out.text trivial
                    have z4 := Y5b.out.qual trivial
                    clear hb5 hq1 hq2 hq3 hqe2 HGQ qq qq1 qq0 Y5 X5 B5
                    go_wp2_with fail
                    refine HTX.out.mono ?_
                    rintro e w6 ⟨⟨x', rfl, hx1, hx2, hx30, hx4⟩, hb6⟩
                    have hx3 : qo = [] → hdB x' = false := fun e => absurd e HQN.out
                    have Y6 := hide (Y5b.out.later hb6)
                    have B6 := hide (B5b.out.trans (hb6.mono B5b.out.size))
                    clear hb6 hx30 HTX qq2 qq3 qq4 z1 z2 z3 z4 hW5
                    have Y7 : Hid (Ix (w6.setCell ⟨W1.heap.size + 3, 2, none⟩ (.string ⟨x'.toArray⟩)) (W1.heap.size + 3) ⟨([49, 54, 84] : List UInt8), qo, x', []⟩ (.slice none 0 0)) := hide (Y6.out.putText x')
                    have B7 := hide (B6.out.setCell (p := ⟨W1.heap.size + 3, 2, none⟩) (by simp) (.string ⟨x'.toArray⟩))
                    have HG : Hid (errI (.mk ⟨([49, 54, 84] : List UInt8), qo, x', []⟩ []) d = 0) := hide (field_good HTG.out HQ.out hx1 hx2 hx3)
                    have HGL : Hid ((txtI (.mk ⟨([49, 54, 84] : List UInt8), qo, x', []⟩ [])).length ≤ 240) := hide (field_len HTG.out HQ.out hx4)
                    have zf := Y6.out.free2
                    have zt := Y6.out.text trivial
                    have hYl : W1.heap.size + 3 < w6.heap.size := Y6.out.lt
                    obtain ⟨w7, hW7⟩ : ∃ w7, w6.setCell ⟨W1.heap.size + 3, 2, none⟩ (.string ⟨x'.toArray⟩) = w7 := ⟨_, rfl⟩
                    rw [hW7] at Y7 B7
                    have S7 := hide (S1.out.later B7.out)
                    have HSZ : Hid (wr.heap.size ≤ w7.heap.size) := by show _ ≤ _; have := B7.out.size; have := HWZ.out; omega
                    clear hx1 hx2 hx3 hx4
                    go_wp2_with (first
                      | (refine wpList_load_row rfl 34 (.tmp 12) rfl (W1.heap.size + 3) rfl _ (iC ⟨([49, 54, 84] : List UInt8), qo, x', []⟩ (.slice none 0 0)) _ _ Y7.out Try.underlying34 rfl Try.sizeItm ?_; unfold iC)
                      | (at_builtin; refine wp_append_itm rfl _ _ rfl w.heap.size _ m.length _ rfl (S7.out.iw.row.alloc _) _ 1 1 [.string ⟨([49, 54, 84] : List UInt8).toArray⟩, .string ⟨qo.toArray⟩, .string ⟨x'.toArray⟩, .string ⟨#[]⟩, .slice none 0 0] rfl rfl (by decide) ?c1 ?c2 ?c3 ?c4 ?_))
                    case c1 =>
                      intro j u hj
                      match j, hj with
                      | 0, hj => simp at hj; subst hj; simp [Addr.add]
                      | 1, hj => simp at hj; subst hj; simp [Addr.add]
                      | 2, hj => simp at hj; subst hj; simp [Addr.add]
                      | 3, hj => simp at hj; subst hj; simp [Addr.add]
                      | 4, hj => simp at hj; subst hj; simp [Addr.add]
                    case c2 => intro u hu; simp at hu; (repeat' (first | (rcases hu with rfl | hu) | subst hu)) <;> rfl
                    case c3 => have := S7.out.mv.size; simp; omega
                    case c4 => have := S7.out.cnt; omega
                    intro v' w8 hown' hgrow hfresh
                    have BB := hide ((Below.refl w7.heap.size w7).alloc (Nat.le_refl _) (.cells #[.string ⟨([49, 54, 84] : List UInt8).toArray⟩, .string ⟨qo.toArray⟩, .string ⟨x'.toArray⟩, .string ⟨#[]⟩, .slice none 0 0] 34))
                    have S8 := hide ((S7.out.later BB.out).snoc (a := .mk ⟨([49, 54, 84] : List UInt8), qo, x', []⟩ []) (u := .slice none 0 0) (lo := w7.heap.size) HP.out hown' hgrow (fun x hx => (hfresh x hx).imp id (fun h => by simpa using h)) (by have := HS.out.mv.size; have := HSZ.out; omega) (fun x hx => by have := (own_ltq HS.out.iw.row x hx).2; have := HSZ.out; omega) ⟨none, 0, rfl, .inl rfl⟩ HG.out (by have h1 := HS.out.len; have h2 := HGL.out; have h3 := HS.out.cnt; omega) (by have := HS.out.cnt; omega))
                    clear hown' hgrow hfresh BB
                    go_wp2_with fail
                    go_roundw
                    case rel => exact ⟨k + 1, n2, _, _, by omega, by go_num, S8⟩
                    case measure => simp [intOf]; omega
                · have e17 : (tk == [49, 54, 83]) = false := beq_eq_false_iff_ne.2 hs
                  have HTG : Hid (tagB tk = true) := by
                    show _ = _
                    rw [HTK.out] at hr hs ⊢
                    exact tag_of3 HXD.out HYD.out HZC.out hr hs
                  clear hr hs
                  have BY : Hid (Below W1.heap.size W1 ((((W1.alloc (.cells #[.string ⟨t.itm.tag.toArray⟩, .string ⟨t.itm.qual.toArray⟩, .string ⟨t.itm.text.toArray⟩, .string ⟨t.itm.name.toArray⟩, .slice ka t.kids.length kcap] 34)).alloc (.cells #[.int .u8 (x.toNat : Int), .int .u8 (y.toNat : Int)] 5)).alloc (.cells #[.int .u8 (z.toNat : Int)] 5)).alloc (.cells #[.string ⟨tk.toArray⟩, .string ⟨#[]⟩, .string ⟨#[]⟩, .string ⟨#[]⟩, .slice none 0 0] 34))) := hide (((((((Below.refl W1.heap.size W1).alloc (Nat.le_refl _) _)).alloc (by simp) _).alloc (by simp; omega) _)).alloc (by simp; omega) (.cells #[.string ⟨tk.toArray⟩, .string ⟨#[]⟩, .string ⟨#[]⟩, .string ⟨#[]⟩, .slice none 0 0] 34))
                  have YY : Hid (Ix ((((W1.alloc (.cells #[.string ⟨t.itm.tag.toArray⟩, .string ⟨t.itm.qual.toArray⟩, .string ⟨t.itm.text.toArray⟩, .string ⟨t.itm.name.toArray⟩, .slice ka t.kids.length kcap] 34)).alloc (.cells #[.int .u8 (x.toNat : Int), .int .u8 (y.toNat : Int)] 5)).alloc (.cells #[.int .u8 (z.toNat : Int)] 5)).alloc (.cells #[.string ⟨tk.toArray⟩, .string ⟨#[]⟩, .string ⟨#[]⟩, .string ⟨#[]⟩, .slice none 0 0] 34)) (W1.heap.size + 3) ⟨tk, [], [], []⟩ (.slice none 0 0)) := hide (alloc4_newt W1 _ _ _ _)
                  have XY : Hid (Ix ((((W1.alloc (.cells #[.string ⟨t.itm.tag.toArray⟩, .string ⟨t.itm.qual.toArray⟩, .string ⟨t.itm.text.toArray⟩, .string ⟨t.itm.name.toArray⟩, .slice ka t.kids.length kcap] 34)).alloc (.cells #[.int .u8 (x.toNat : Int), .int .u8 (y.toNat : Int)] 5)).alloc (.cells #[.int .u8 (z.toNat : Int)] 5)).alloc (.cells #[.string ⟨tk.toArray⟩, .string ⟨#[]⟩, .string ⟨#[]⟩, .string ⟨#[]⟩, .slice none 0 0] 34)) W1.heap.size t.itm (.slice ka t.kids.length kcap)) := hide (alloc_block (alloc_block (alloc_block (alloc_new W1 _))))
                  cases hqe : t.itm.qual.isEmpty with
                  | true =>
                    have qq := str_eq_t hqe
                    have qq1 : (t.itm.qual == []) = true := beq_iff_eq.2 (List.isEmpty_iff.1 hqe)
                    have qq0 := bytes_nil_t hqe
                    have HTX := hide (text_any t.itm.text false ((((W1.alloc (.cells #[.string ⟨t.itm.tag.toArray⟩, .string ⟨t.itm.qual.toArray⟩, .string ⟨t.itm.text.toArray⟩, .string ⟨t.itm.name.toArray⟩, .slice ka t.kids.length kcap] 34)).alloc (.cells #[.int .u8 (x.toNat : Int), .int .u8 (y.toNat : Int)] 5)).alloc (.cells #[.int .u8 (z.toNat : Int)] 5)).alloc (.cells #[.string ⟨tk.toArray⟩, .string ⟨#[]⟩, .string ⟨#[]⟩, .string ⟨#[]⟩, .slice none 0 0] 34)) HTIO.out.text)
                    clear hqe
                    go_wp2_with fail
                    refine HTX.out.mono ?_
                    rintro e w6 ⟨⟨x', rfl, hx1, hx2, hx30, hx4⟩, hb6⟩
                    have hx3 : ([] : List UInt8) = [] → hdB x' = false := fun _ => hx30 (by first | exact rfl | trivial)
                    have Y6 := hide (YY.out.later hb6)
                    have B6 := hide (BY.out.trans (hb6.mono BY.out.size))
                    clear hb6 hx30 HTX qq qq1 qq0
                    have Y7 : Hid (Ix (w6.setCell ⟨W1.heap.size + 3, 2, none⟩ (.string ⟨x'.toArray⟩)) (W1.heap.size + 3) ⟨tk, [], x', []⟩ (.slice none 0 0)) := hide (Y6.out.putText x')
                    have B7 := hide (B6.out.setCell (p := ⟨W1.heap.size + 3, 2, none⟩) (by simp) (.string ⟨x'.toArray⟩))
                    have HG : Hid (errI (.mk ⟨tk, [], x', []⟩ []) d = 0) := hide (field_good HTG.out (Or.inl rfl) hx1 hx2 hx3)
                    have HGL : Hid ((txtI (.mk ⟨tk, [], x', []⟩ [])).length ≤ 240) := hide (field_len HTG.out (Or.inl rfl) hx4)
                    have zf := Y6.out.free2
                    have zt := Y6.out.text trivial
                    have hYl : W1.heap.size + 3 < w6.heap.size := Y6.out.lt
                    obtain ⟨w7, hW7⟩ : ∃ w7, w6.setCell ⟨W1.heap.size + 3, 2, none⟩ (.string ⟨x'.toArray⟩) = w7 := ⟨_, rfl⟩
                    rw [hW7] at Y7 B7
                    have S7 := hide (S1.out.later B7.out)
                    have HSZ : Hid (wr.heap.size ≤ w7.heap.size) := by show _ ≤ _; have := B7.out.size; have := HWZ.out; omega
                    clear hx1 hx2 hx3 hx4
                    go_wp2_with (first
                      | (refine wpList_load_row rfl 34 (.tmp 12) rfl (W1.heap.size + 3) rfl _ (iC ⟨tk, [], x', []⟩ (.slice none 0 0)) _ _ Y7.out Try.underlying34 rfl Try.sizeItm ?_; unfold iC)
                      | (at_builtin; refine wp_append_itm rfl _ _ rfl w.heap.size _ m.length _ rfl (S7.out.iw.row.alloc _) _ 1 1 [.string ⟨tk.toArray⟩, .string ⟨#[]⟩, .string ⟨x'.toArray⟩, .string ⟨#[]⟩, .slice none 0 0] rfl rfl (by decide) ?c1 ?c2 ?c3 ?c4 ?_))
                    case c1 =>
                      intro j u hj
                      match j, hj with
                      | 0, hj => simp at hj; subst hj; simp [Addr.add]
                      | 1, hj => simp at hj; subst hj; simp [Addr.add]
                      | 2, hj => simp at hj; subst hj; simp [Addr.add]
                      | 3, hj => simp at hj; subst hj; simp [Addr.add]
                      | 4, hj => simp at hj; subst hj; simp [Addr.add]
                    case c2 => intro u hu; simp at hu; (repeat' (first | (rcases hu with rfl | hu) | subst hu)) <;> rfl
                    case c3 => have := S7.out.mv.size; simp; omega
                    case c4 => have := S7.out.cnt; omega
                    intro v' w8 hown' hgrow hfresh
                    have BB := hide ((Below.refl w7.heap.size w7).alloc (Nat.le_refl _) (.cells #[.string ⟨tk.toArray⟩, .string ⟨#[]⟩, .string ⟨x'.toArray⟩, .string ⟨#[]⟩, .slice none 0 0] 34))
                    have S8 := hide ((S7.out.later BB.out).snoc (a := .mk ⟨tk, [], x', []⟩ []) (u := .slice none 0 0) (lo := w7.heap.size) HP.out hown' hgrow (fun x hx => (hfresh x hx).imp id (fun h => by simpa using h)) (by have := HS.out.mv.size; have := HSZ.out; omega) (fun x hx => by have := (own_ltq HS.out.iw.row x hx).2; have := HSZ.out; omega) ⟨none, 0, rfl, .inl rfl⟩ HG.out (by have h1 := HS.out.len; have h2 := HGL.out; have h3 := HS.out.cnt; omega) (by have := HS.out.cnt; omega))
                    clear hown' hgrow hfresh BB
                    go_wp2_with fail
                    go_roundw
                    case rel => exact ⟨k + 1, n2, _, _, by omega, by go_num, S8⟩
                    case measure => simp [intOf]; omega
                  | false =>
                    have qq := str_eq_f hqe
                    have qq1 : (t.itm.qual == []) = false := beq_eq_false_iff_ne.2 (fun e => by rw [e] at hqe; cases hqe)
                    have qq0 := bytes_nil_f hqe
                    have HGQ : Hid (Calls Try.prog 9 #[.string ⟨t.itm.qual.toArray⟩, .int .i64 4, .int .i64 4] ((((W1.alloc (.cells #[.string ⟨t.itm.tag.toArray⟩, .string ⟨t.itm.qual.toArray⟩, .string ⟨t.itm.text.toArray⟩, .string ⟨t.itm.name.toArray⟩, .slice ka t.kids.length kcap] 34)).alloc (.cells #[.int .u8 (x.toNat : Int), .int .u8 (y.toNat : Int)] 5)).alloc (.cells #[.int .u8 (z.toNat : Int)] 5)).alloc (.cells #[.string ⟨tk.toArray⟩, .string ⟨#[]⟩, .string ⟨#[]⟩, .string ⟨#[]⟩, .slice none 0 0] 34)) fun e w' => (∃ o : List UInt8, e = .returned (.string ⟨o.toArray⟩) ∧ o.all sg = true ∧ 4 ≤ o.length ∧ o.length ≤ 4) ∧ Below ((((W1.alloc (.cells #[.string ⟨t.itm.tag.toArray⟩, .string ⟨t.itm.qual.toArray⟩, .string ⟨t.itm.text.toArray⟩, .string ⟨t.itm.name.toArray⟩, .slice ka t.kids.length kcap] 34)).alloc (.cells #[.int .u8 (x.toNat : Int), .int .u8 (y.toNat : Int)] 5)).alloc (.cells #[.int .u8 (z.toNat : Int)] 5)).alloc (.cells #[.string ⟨tk.toArray⟩, .string ⟨#[]⟩, .string ⟨#[]⟩, .string ⟨#[]⟩, .slice none 0 0] 34)).heap.size ((((W1.alloc (.cells #[.string ⟨t.itm.tag.toArray⟩, .string ⟨t.itm.qual.toArray⟩, .string ⟨t.itm.text.toArray⟩, .string ⟨t.itm.name.toArray⟩, .slice ka t.kids.length kcap] 34)).alloc (.cells #[.int .u8 (x.toNat : Int), .int .u8 (y.toNat : Int)] 5)).alloc (.cells #[.int .u8 (z.toNat : Int)] 5)).alloc (.cells #[.string ⟨tk.toArray⟩, .string ⟨#[]⟩, .string ⟨#[]⟩, .string ⟨#[]⟩, .slice none 0 0] 34)) w') := hide (great_any t.itm.qual 4 4 ((((W1.alloc (.cells #[.string ⟨t.itm.tag.toArray⟩, .string ⟨t.itm.qual.toArray⟩, .string ⟨t.itm.text.toArray⟩, .string ⟨t.itm.name.toArray⟩, .slice ka t.kids.length kcap] 34)).alloc (.cells #[.int .u8 (x.toNat : Int), .int .u8 (y.toNat : Int)] 5)).alloc (.cells #[.int .u8 (z.toNat : Int)] 5)).alloc (.cells #[.string ⟨tk.toArray⟩, .string ⟨#[]⟩, .string ⟨#[]⟩, .string ⟨#[]⟩, .slice none 0 0] 34)) HTIO.out.qual (by omega) (by omega))
                    clear hqe
                    go_wp2_with fail
                    refine HGQ.out.mono ?_
                    rintro e w5 ⟨⟨qo, rfl, hq1, hq2, hq3⟩, hb5⟩
                    have HQ : Hid (qo = [] ∨ qualB qo = true) := hide (.inr (by unfold qualB; rw [hq1, decide_eq_true (show qo.length = 4 by omega)]; rfl))
                    have hqe2 : qo.isEmpty = false := by cases qo with
                      | nil => simp at hq2
                      | cons _ _ => rfl
                    have qq2 := str_eq_f hqe2
                    have qq3 : (qo == []) = false := beq_eq_false_iff_ne.2 (fun e => by rw [e] at hqe2; cases hqe2)
                    have qq4 := bytes_nil_f hqe2
                    have HQN : Hid (qo ≠ []) := hide (fun e => by rw [e] at hqe2; cases hqe2)
                    have Y5 := hide (YY.out.later hb5)
                    have B5 := hide (BY.out.trans (hb5.mono BY.out.size))
                    have X5 := hide (XY.out.later hb5)
                    have Y5b : Hid (Ix (w5.setCell ⟨W1.heap.size + 3, 1, none⟩ (.string ⟨qo.toArray⟩)) (W1.heap.size + 3) ⟨tk, qo, [], []⟩ (.slice none 0 0)) := hide (Y5.out.putQual qo)
                    have B5b := hide (B5.out.setCell (p := ⟨W1.heap.size + 3, 1, none⟩) (by simp) (.string ⟨qo.toArray⟩))
                    have X5b : Hid (Ix (w5.setCell ⟨W1.heap.size + 3, 1, none⟩ (.string ⟨qo.toArray⟩)) W1.heap.size t.itm (.slice ka t.kids.length kcap)) := hide ((Below.heap_setCell _ _ _ W1.heap.size (by show W1.heap.size ≠ W1.heap.size + 3; omega)).trans X5.out)
                    have z1 := Y5.out.free1
                    have z2 := Y5.out.qual trivial
                    have hYl5 : W1.heap.size + 3 < w5.heap.size := Y5.out.lt
                    obtain ⟨w5b, hW5⟩ : ∃ w5b, w5.setCell ⟨W1.heap.size + 3, 1, none⟩ (.string ⟨qo.toArray⟩) = w5b := ⟨_, rfl⟩
                    rw [hW5] at Y5b B5b X5b
                    have HTX := hide (text_any t.itm.text true w5b HTIO.out.text)
                    have z3 := X5b.out.text trivial
                    have z4 := Y5b.out.qual trivial
                    clear hb5 hq1 hq2 hq3 hqe2 HGQ qq qq1 qq0 Y5 X5 B5
                    go_wp2_with fail
                    refine HTX.out.mono ?_
                    rintro e w6 ⟨⟨x', rfl, hx1, hx2, hx30, hx4⟩, hb6⟩
                    have hx3 : qo = [] → hdB x' = false := fun e => absurd e HQN.out
                    have Y6 := hide (Y5b.out.later hb6)
                    have B6 := hide (B5b.out.trans (hb6.mono B5b.out.size))
                    clear hb6 hx30 HTX qq2 qq3 qq4 z1 z2 z3 z4 hW5
                    have Y7 : Hid (Ix (w6.setCell ⟨W1.heap.size + 3, 2, none⟩ (.string ⟨x'.toArray⟩)) (W1.heap.size + 3) ⟨tk, qo, x', []⟩ (.slice none 0 0)) := hide (Y6.out.putText x')
                    have B7 := hide (B6.out.setCell (p := ⟨W1.heap.size + 3, 2, none⟩) (by simp) (.string ⟨x'.toArray⟩))
                    have HG : Hid (errI (.mk ⟨tk, qo, x', []⟩ []) d = 0) := hide (field_good HTG.out HQ.out hx1 hx2 hx3)
                    have HGL : Hid ((txtI (.mk ⟨tk, qo, x', []⟩ [])).length ≤ 240) := hide (field_len HTG.out HQ.out hx4)
                    have zf := Y6.out.free2
                    have zt := Y6.out.text trivial
                    have hYl : W1.heap.size + 3 < w6.heap.size := Y6.out.lt
                    obtain ⟨w7, hW7⟩ : ∃ w7, w6.setCell ⟨W1.heap.size + 3, 2, none⟩ (.string ⟨x'.toArray⟩) = w7 := ⟨_, rfl⟩
                    rw [hW7] at Y7 B7
                    have S7 := hide (S1.out.later B7.out)
                    have HSZ : Hid (wr.heap.size ≤ w7.heap.size) := by show _ ≤ _; have := B7.out.size; have := HWZ.out; omega
                    clear hx1 hx2 hx3 hx4
                    go_wp2_with (first
                      | (refine wpList_load_row rfl 34 (.tmp 12) rfl (W1.heap.size + 3) rfl _ (iC ⟨tk, qo, x', []⟩ (.slice none 0 0)) _ _ Y7.out Try.underlying34 rfl Try.sizeItm ?_; unfold iC)
                      | (at_builtin; refine wp_append_itm rfl _ _ rfl w.heap.size _ m.length _ rfl (S7.out.iw.row.alloc _) _ 1 1 [.string ⟨tk.toArray⟩, .string ⟨qo.toArray⟩, .string ⟨x'.toArray⟩, .string ⟨#[]⟩, .slice none 0 0] rfl rfl (by decide) ?c1 ?c2 ?c3 ?c4 ?_))
                    case c1 =>
                      intro j u hj
                      match j, hj with
                      | 0, hj => simp at hj; subst hj; simp [Addr.add]
                      | 1, hj => simp at hj; subst hj; simp [Addr.add]
                      | 2, hj => simp at hj; subst hj; simp [Addr.add]
                      | 3, hj => simp at hj; subst hj; simp [Addr.add]
                      | 4, hj => simp at hj; subst hj; simp [Addr.add]
                    case c2 => intro u hu; simp at hu; (repeat' (first | (rcases hu with rfl | hu) | subst hu)) <;> rfl
                    case c3 => have := S7.out.mv.size; simp; omega
                    case c4 => have := S7.out.cnt; omega
                    intro v' w8 hown' hgrow hfresh
                    have BB := hide ((Below.refl w7.heap.size w7).alloc (Nat.le_refl _) (.cells #[.string ⟨tk.toArray⟩, .string ⟨qo.toArray⟩, .string ⟨x'.toArray⟩, .string ⟨#[]⟩, .slice none 0 0] 34))
                    have S8 := hide ((S7.out.later BB.out).snoc (a := .mk ⟨tk, qo, x', []⟩ []) (u := .slice none 0 0) (lo := w7.heap.size) HP.out hown' hgrow (fun x hx => (hfresh x hx).imp id (fun h => by simpa using h)) (by have := HS.out.mv.size; have := HSZ.out; omega) (fun x hx => by have := (own_ltq HS.out.iw.row x hx).2; have := HSZ.out; omega) ⟨none, 0, rfl, .inl rfl⟩ HG.out (by have h1 := HS.out.len; have h2 := HGL.out; have h3 := HS.out.cnt; omega) (by have := HS.out.cnt; omega))
                    clear hown' hgrow hfresh BB
                    go_wp2_with fail
                    go_roundw
                    case rel => exact ⟨k + 1, n2, _, _, by omega, by go_num, S8⟩
                    case measure => simp [intOf]; omega
          | false =>
            have q1 := str_eq_f hb1
            cases hb2 : t.itm.tag.isEmpty with
            | false =>
              have q2 := str_eq_f hb2
              obtain ⟨N, hN, HNN⟩ : ∃ N : Nat, wrap64 ((t.itm.tag.length : Int) + wrap64 (7 * (t.itm.text.length : Int))) = (N : Int) ∧ Hid (N ≤ 8796093022208) := num_of t.itm.tag.length t.itm.text.length (by have := HWE.out; have := HWA.out; have := HWL.out; omega) (by have := HWE.out; have := HWA.out; have := HWL.out; omega)
              obtain ⟨M, hM⟩ : ∃ M : Nat, wrap64 ((N : Int) / 10) = (M : Int) := ⟨N / 10, by rw [wrap_small _ (by omega) (by have := HNN.out; omega)]; omega⟩
              obtain ⟨x, hxv, HXD⟩ : ∃ x : UInt8, 48 + (N : Int) % 10 = (x.toNat : Int) ∧ Hid (isDg x = true) := dig_of _ (by omega) (by omega)
              obtain ⟨y, hyv, HYD⟩ : ∃ y : UInt8, 48 + (M : Int) % 10 = (y.toNat : Int) ∧ Hid (isDg y = true) := dig_of _ (by omega) (by omega)
              obtain ⟨tg, HTGE⟩ : ∃ tg : List UInt8, Hid (tg = [x, y]) := ⟨_, hide rfl⟩
              have hcv2 : (convert 43 9 (.slice (some ⟨W1.heap.size + 1, 0, none⟩) 2 2)).run Try.prog ((W1.alloc (.cells #[.string ⟨t.itm.tag.toArray⟩, .string ⟨t.itm.qual.toArray⟩, .string ⟨t.itm.text.toArray⟩, .string ⟨t.itm.name.toArray⟩, .slice ka t.kids.length kcap] 34)).alloc (.cells #[.int .u8 (x.toNat : Int), .int .u8 (y.toNat : Int)] 5)) = .ok (.string ⟨tg.toArray⟩) ((W1.alloc (.cells #[.string ⟨t.itm.tag.toArray⟩, .string ⟨t.itm.qual.toArray⟩, .string ⟨t.itm.text.toArray⟩, .string ⟨t.itm.name.toArray⟩, .slice ka t.kids.length kcap] 34)).alloc (.cells #[.int .u8 (x.toNat : Int), .int .u8 (y.toNat : Int)] 5)) := by
                rw [HTGE.out]
                exact run_convert_bytes_back (P := Try.prog) ((W1.alloc (.cells #[.string ⟨t.itm.tag.toArray⟩, .string ⟨t.itm.qual.toArray⟩, .string ⟨t.itm.text.toArray⟩, .string ⟨t.itm.name.toArray⟩, .slice ka t.kids.length kcap] 34)).alloc (.cells #[.int .u8 (x.toNat : Int), .int .u8 (y.toNat : Int)] 5)) 43 9 5 ⟨W1.heap.size + 1, 0, none⟩ 2 [x, y] Try.underlying43 Try.underlying5 Try.underlying9 (fun j hj => by
                  match j, hj with
                  | 0, _ => simp [Addr.add]
                  | 1, _ => simp [Addr.add])
              by_cases h3 : N % 3 = 0
              · have h3I : decide (0 < (N : Int) % 3) = false := decide_eq_false (by omega)
                have HTG : Hid (tagB tg = true) := by rw [HTGE.out]; exact hide (tag_of HXD.out HYD.out)
                have e16 : (tg == [49, 54, 82]) = false := by rw [HTGE.out]; exact beq_eq_false_iff_ne.2 (fun e => by simp at e)
                have e17 : (tg == [49, 54, 83]) = false := by rw [HTGE.out]; exact beq_eq_false_iff_ne.2 (fun e => by simp at e)
                clear h3
                have BY : Hid (Below W1.heap.size W1 (((W1.alloc (.cells #[.string ⟨t.itm.tag.toArray⟩, .string ⟨t.itm.qual.toArray⟩, .string ⟨t.itm.text.toArray⟩, .string ⟨t.itm.name.toArray⟩, .slice ka t.kids.length kcap] 34)).alloc (.cells #[.int .u8 (x.toNat : Int), .int .u8 (y.toNat : Int)] 5)).alloc (.cells #[.string ⟨tg.toArray⟩, .string ⟨#[]⟩, .string ⟨#[]⟩, .string ⟨#[]⟩, .slice none 0 0] 34))) := hide ((((((Below.refl W1.heap.size W1).alloc (Nat.le_refl _) _)).alloc (by simp) _)).alloc (by simp; omega) (.cells #[.string ⟨tg.toArray⟩, .string ⟨#[]⟩, .string ⟨#[]⟩, .string ⟨#[]⟩, .slice none 0 0] 34))
                have YY : Hid (Ix (((W1.alloc (.cells #[.string ⟨t.itm.tag.toArray⟩, .string ⟨t.itm.qual.toArray⟩, .string ⟨t.itm.text.toArray⟩, .string ⟨t.itm.name.toArray⟩, .slice ka t.kids.length kcap] 34)).alloc (.cells #[.int .u8 (x.toNat : Int), .int .u8 (y.toNat : Int)] 5)).alloc (.cells #[.string ⟨tg.toArray⟩, .string ⟨#[]⟩, .string ⟨#[]⟩, .string ⟨#[]⟩, .slice none 0 0] 34)) (W1.heap.size + 2) ⟨tg, [], [], []⟩ (.slice none 0 0)) := hide (alloc3_newt W1 _ _ _)
                have XY : Hid (Ix (((W1.alloc (.cells #[.string ⟨t.itm.tag.toArray⟩, .string ⟨t.itm.qual.toArray⟩, .string ⟨t.itm.text.toArray⟩, .string ⟨t.itm.name.toArray⟩, .slice ka t.kids.length kcap] 34)).alloc (.cells #[.int .u8 (x.toNat : Int), .int .u8 (y.toNat : Int)] 5)).alloc (.cells #[.string ⟨tg.toArray⟩, .string ⟨#[]⟩, .string ⟨#[]⟩, .string ⟨#[]⟩, .slice none 0 0] 34)) W1.heap.size t.itm (.slice ka t.kids.length kcap)) := hide (alloc_block (alloc_block (alloc_new W1 _)))
                cases hqe : t.itm.qual.isEmpty with
                | true =>
                  have qq := str_eq_t hqe
                  have qq1 : (t.itm.qual == []) = true := beq_iff_eq.2 (List.isEmpty_iff.1 hqe)
                  have qq0 := bytes_nil_t hqe
                  have HTX := hide (text_any t.itm.text false (((W1.alloc (.cells #[.string ⟨t.itm.tag.toArray⟩, .string ⟨t.itm.qual.toArray⟩, .string ⟨t.itm.text.toArray⟩, .string ⟨t.itm.name.toArray⟩, .slice ka t.kids.length kcap] 34)).alloc (.cells #[.int .u8 (x.toNat : Int), .int .u8 (y.toNat : Int)] 5)).alloc (.cells #[.string ⟨tg.toArray⟩, .string ⟨#[]⟩, .string ⟨#[]⟩, .string ⟨#[]⟩, .slice none 0 0] 34)) HTIO.out.text)
                  clear hqe
                  go_wp2_with fail
                  refine HTX.out.mono ?_
                  rintro e w6 ⟨⟨x', rfl, hx1, hx2, hx30, hx4⟩, hb6⟩
                  have hx3 : ([] : List UInt8) = [] → hdB x' = false := fun _ => hx30 (by first | exact rfl | trivial)
                  have Y6 := hide (YY.out.later hb6)
                  have B6 := hide (BY.out.trans (hb6.mono BY.out.size))
                  clear hb6 hx30 HTX qq qq1 qq0
                  have Y7 : Hid (Ix (w6.setCell ⟨W1.heap.size + 2, 2, none⟩ (.string ⟨x'.toArray⟩)) (W1.heap.size + 2) ⟨tg, [], x', []⟩ (.slice none 0 0)) := hide (Y6.out.putText x')
                  have B7 := hide (B6.out.setCell (p := ⟨W1.heap.size + 2, 2, none⟩) (by simp) (.string ⟨x'.toArray⟩))
                  have HG : Hid (errI (.mk ⟨tg, [], x', []⟩ []) d = 0) := hide (field_good HTG.out (Or.inl rfl) hx1 hx2 hx3)
                  have HGL : Hid ((txtI (.mk ⟨tg, [], x', []⟩ [])).length ≤ 240) := hide (field_len HTG.out (Or.inl rfl) hx4)
                  have zf := Y6.out.free2
                  have zt := Y6.out.text trivial
                  have hYl : W1.heap.size + 2 < w6.heap.size := Y6.out.lt
                  obtain ⟨w7, hW7⟩ : ∃ w7, w6.setCell ⟨W1.heap.size + 2, 2, none⟩ (.string ⟨x'.toArray⟩) = w7 := ⟨_, rfl⟩
                  rw [hW7] at Y7 B7
                  have S7 := hide (S1.out.later B7.out)
                  have HSZ : Hid (wr.heap.size ≤ w7.heap.size) := by show _ ≤ _; have := B7.out.size; have := HWZ.out; omega
                  clear hx1 hx2 hx3 hx4
                  go_wp2_with (first
                    | (refine wpList_load_row rfl 34 (.tmp 12) rfl (W1.heap.size + 2) rfl _ (iC ⟨tg, [], x', []⟩ (.slice none 0 0)) _ _ Y7.out Try.underlying34 rfl Try.sizeItm ?_; unfold iC)
                    | (at_builtin; refine wp_append_itm rfl _ _ rfl w.heap.size _ m.length _ rfl (S7.out.iw.row.alloc _) _ 1 1 [.string ⟨tg.toArray⟩, .string ⟨#[]⟩, .string ⟨x'.toArray⟩, .string ⟨#[]⟩, .slice none 0 0] rfl rfl (by decide) ?c1 ?c2 ?c3 ?c4 ?_))
                  case c1 =>
                    intro j u hj
                    match j, hj with
                    | 0, hj => simp at hj; subst hj; simp [Addr.add]
                    | 1, hj => simp at hj; subst hj; simp [Addr.add]
                    | 2, hj => simp at hj; subst hj; simp [Addr.add]
                    | 3, hj => simp at hj; subst hj; simp [Addr.add]
                    | 4, hj => simp at hj; subst hj; simp [Addr.add]
                  case c2 => intro u hu; simp at hu; (repeat' (first | (rcases hu with rfl | hu) | subst hu)) <;> rfl
                  case c3 => have := S7.out.mv.size; simp; omega
                  case c4 => have := S7.out.cnt; omega
                  intro v' w8 hown' hgrow hfresh
                  have BB := hide ((Below.refl w7.heap.size w7).alloc (Nat.le_refl _) (.cells #[.string ⟨tg.toArray⟩, .string ⟨#[]⟩, .string ⟨x'.toArray⟩, .string ⟨#[]⟩, .slice none 0 0] 34))
                  have S8 := hide ((S7.out.later BB.out).snoc (a := .mk ⟨tg, [], x', []⟩ []) (u := .slice none 0 0) (lo := w7.heap.size) HP.out hown' hgrow (fun x hx => (hfresh x hx).imp id (fun h => by simpa using h)) (by have := HS.out.mv.size; have := HSZ.out; omega) (fun x hx => by have := (own_ltq HS.out.iw.row x hx).2; have := HSZ.out; omega) ⟨none, 0, rfl, .inl rfl⟩ HG.out (by have h1 := HS.out.len; have h2 := HGL.out; have h3 := HS.out.cnt; omega) (by have := HS.out.cnt; omega))
                  clear hown' hgrow hfresh BB
                  go_wp2_with fail
                  go_roundw
                  case rel => exact ⟨k + 1, n2, _, _, by omega, by go_num, S8⟩
                  case measure => simp [intOf]; omega
                | false =>
                  have qq := str_eq_f hqe
                  have qq1 : (t.itm.qual == []) = false := beq_eq_false_iff_ne.2 (fun e => by rw [e] at hqe; cases hqe)
                  have qq0 := bytes_nil_f hqe
                  have HGQ : Hid (Calls Try.prog 9 #[.string ⟨t.itm.qual.toArray⟩, .int .i64 4, .int .i64 4] (((W1.alloc (.cells #[.string ⟨t.itm.tag.toArray⟩, .string ⟨t.itm.qual.toArray⟩, .string ⟨t.itm.text.toArray⟩, .string ⟨t.itm.name.toArray⟩, .slice ka t.kids.length kcap] 34)).alloc (.cells #[.int .u8 (x.toNat : Int), .int .u8 (y.toNat : Int)] 5)).alloc (.cells #[.string ⟨tg.toArray⟩, .string ⟨#[]⟩, .string ⟨#[]⟩, .string ⟨#[]⟩, .slice none 0 0] 34)) fun e w' => (∃ o : List UInt8, e = .returned (.string ⟨o.toArray⟩) ∧ o.all sg = true ∧ 4 ≤ o.length ∧ o.length ≤ 4) ∧ Below (((W1.alloc (.cells #[.string ⟨t.itm.tag.toArray⟩, .string ⟨t.itm.qual.toArray⟩, .string ⟨t.itm.text.toArray⟩, .string ⟨t.itm.name.toArray⟩, .slice ka t.kids.length kcap] 34)).alloc (.cells #[.int .u8 (x.toNat : Int), .int .u8 (y.toNat : Int)] 5)).alloc (.cells #[.string ⟨tg.toArray⟩, .string ⟨#[]⟩, .string ⟨#[]⟩, .string ⟨#[]⟩, .slice none 0 0] 34)).heap.size (((W1.alloc (.cells #[.string ⟨t.itm.tag.toArray⟩, .string ⟨t.itm.qual.toArray⟩, .string ⟨t.itm.text.toArray⟩, .string ⟨t.itm.name.toArray⟩, .slice ka t.kids.length kcap] 34)).alloc (.cells #[.int .u8 (x.toNat : Int), .int .u8 (y.toNat : Int)] 5)).alloc (.cells #[.string ⟨tg.toArray⟩, .string ⟨#[]⟩, .string ⟨#[]⟩, .string ⟨#[]⟩, .slice none 0 0] 34)) w') := hide (great_any t.itm.qual 4 4 (((W1.alloc (.cells #[.string ⟨t.itm.tag.toArray⟩, .string ⟨t.itm.qual.toArray⟩, .string ⟨t.itm.text.toArray⟩, .string ⟨t.itm.name.toArray⟩, .slice ka t.kids.length kcap] 34)).alloc (.cells #[.int .u8 (x.toNat : Int), .int .u8 (y.toNat : Int)] 5)).alloc (.cells #[.string ⟨tg.toArray⟩, .string ⟨#[]⟩, .string ⟨#[]⟩, .string ⟨#[]⟩, .slice none 0 0] 34)) HTIO.out.qual (by omega) (by omega))
                  clear hqe
                  go_wp2_with fail
                  refine HGQ.out.mono ?_
                  rintro e w5 ⟨⟨qo, rfl, hq1, hq2, hq3⟩, hb5⟩
                  have HQ : Hid (qo = [] ∨ qualB qo = true) := hide (.inr (by unfold qualB; rw [hq1, decide_eq_true (show qo.length = 4 by omega)]; rfl))
                  have hqe2 : qo.isEmpty = false := by cases qo with
                    | nil => simp at hq2
                    | cons _ _ => rfl
                  have qq2 := str_eq_f hqe2
                  have qq3 : (qo == []) = false := beq_eq_false_iff_ne.2 (fun e => by rw [e] at hqe2; cases hqe2)
                  have qq4 := bytes_nil_f hqe2
                  have HQN : Hid (qo ≠ []) := hide (fun e => by rw [e] at hqe2; cases hqe2)
                  have Y5 := hide (YY.out.later hb5)
                  have B5 := hide (BY.out.trans (hb5.mono BY.out.size))
                  have X5 := hide (XY.out.later hb5)
                  have Y5b : Hid (Ix (w5.setCell ⟨W1.heap.size + 2, 1, none⟩ (.string ⟨qo.toArray⟩)) (W1.heap.size + 2) ⟨tg, qo, [], []⟩ (.slice none 0 0)) := hide (Y5.out.putQual qo)
                  have B5b := hide (B5.out.setCell (p := ⟨W1.heap.size + 2, 1, none⟩) (by simp) (.string ⟨qo.toArray⟩))
                  have X5b : Hid (Ix (w5.setCell ⟨W1.heap.size + 2, 1, none⟩ (.string ⟨qo.toArray⟩)) W1.heap.size t.itm (.slice ka t.kids.length kcap)) := hide ((Below.heap_setCell _ _ _ W1.heap.size (by show W1.heap.size ≠ W1.heap.size + 2; omega)).trans X5.out)
                  have z1 := Y5.out.free1
                  have z2 := Y5.out.qual trivial
                  have hYl5 : W1.heap.size + 2 < w5.heap.size := Y5.out.lt
                  obtain ⟨w5b, hW5⟩ : ∃ w5b, w5.setCell ⟨W1.heap.size + 2, 1, none⟩ (.string ⟨qo.toArray⟩) = w5b := ⟨_, rfl⟩
                  rw [hW5] at Y5b B5b X5b
                  have HTX := hide (text_any t.itm.text true w5b HTIO.out.text)
                  have z3 := X5b.out.text trivial
                  have z4 := Y5b.out.qual trivial
                  clear hb5 hq1 hq2 hq3 hqe2 HGQ qq qq1 qq0 Y5 X5 B5
                  go_wp2_with fail
                  refine HTX.out.mono ?_
                  rintro e w6 ⟨⟨x', rfl, hx1, hx2, hx30, hx4⟩, hb6⟩
                  have hx3 : qo = [] → hdB x' = false := fun e => absurd e HQN.out
                  have Y6 := hide (Y5b.out.later hb6)
                  have B6 := hide (B5b.out.trans (hb6.mono B5b.out.size))
                  clear hb6 hx30 HTX qq2 qq3 qq4 z1 z2 z3 z4 hW5
                  have Y7 : Hid (Ix (w6.setCell ⟨W1.heap.size + 2, 2, none⟩ (.string ⟨x'.toArray⟩)) (W1.heap.size + 2) ⟨tg, qo, x', []⟩ (.slice none 0 0)) := hide (Y6.out.putText x')
                  have B7 := hide (B6.out.setCell (p := ⟨W1.heap.size + 2, 2, none⟩) (by simp) (.string ⟨x'.toArray⟩))
                  have HG : Hid (errI (.mk ⟨tg, qo, x', []⟩ []) d = 0) := hide (field_good HTG.out HQ.out hx1 hx2 hx3)
                  have HGL : Hid ((txtI (.mk ⟨tg, qo, x', []⟩ [])).length ≤ 240) := hide (field_len HTG.out HQ.out hx4)
                  have zf := Y6.out.free2
                  have zt := Y6.out.text trivial
                  have hYl : W1.heap.size + 2 < w6.heap.size := Y6.out.lt
                  obtain ⟨w7, hW7⟩ : ∃ w7, w6.setCell ⟨W1.heap.size + 2, 2, none⟩ (.string ⟨x'.toArray⟩) = w7 := ⟨_, rfl⟩
                  rw [hW7] at Y7 B7
                  have S7 := hide (S1.out.later B7.out)
                  have HSZ : Hid (wr.heap.size ≤ w7.heap.size) := by show _ ≤ _; have := B7.out.size; have := HWZ.out; omega
                  clear hx1 hx2 hx3 hx4
                  go_wp2_with (first
                    | (refine wpList_load_row rfl 34 (.tmp 12) rfl (W1.heap.size + 2) rfl _ (iC ⟨tg, qo, x', []⟩ (.slice none 0 0)) _ _ Y7.out Try.underlying34 rfl Try.sizeItm ?_; unfold iC)
                    | (at_builtin; refine wp_append_itm rfl _ _ rfl w.heap.size _ m.length _ rfl (S7.out.iw.row.alloc _) _ 1 1 [.string ⟨tg.toArray⟩, .string ⟨qo.toArray⟩, .string ⟨x'.toArray⟩, .string ⟨#[]⟩, .slice none 0 0] rfl rfl (by decide) ?c1 ?c2 ?c3 ?c4 ?_))
                  case c1 =>
                    intro j u hj
                    match j, hj with
                    | 0, hj => simp at hj; subst hj; simp [Addr.add]
                    | 1, hj => simp at hj; subst hj; simp [Addr.add]
                    | 2, hj => simp at hj; subst hj; simp [Addr.add]
                    | 3, hj => simp at hj; subst hj; simp [Addr.add]
                    | 4, hj => simp at hj; subst hj; simp [Addr.add]
                  case c2 => intro u hu; simp at hu; (repeat' (first | (rcases hu with rfl | hu) | subst hu)) <;> rfl
                  case c3 => have := S7.out.mv.size; simp; omega
                  case c4 => have := S7.out.cnt; omega
                  intro v' w8 hown' hgrow hfresh
                  have BB := hide ((Below.refl w7.heap.size w7).alloc (Nat.le_refl _) (.cells #[.string ⟨tg.toArray⟩, .string ⟨qo.toArray⟩, .string ⟨x'.toArray⟩, .string ⟨#[]⟩, .slice none 0 0] 34))
                  have S8 := hide ((S7.out.later BB.out).snoc (a := .mk ⟨tg, qo, x', []⟩ []) (u := .slice none 0 0) (lo := w7.heap.size) HP.out hown' hgrow (fun x hx => (hfresh x hx).imp id (fun h => by simpa using h)) (by have := HS.out.mv.size; have := HSZ.out; omega) (fun x hx => by have := (own_ltq HS.out.iw.row x hx).2; have := HSZ.out; omega) ⟨none, 0, rfl, .inl rfl⟩ HG.out (by have h1 := HS.out.len; have h2 := HGL.out; have h3 := HS.out.cnt; omega) (by have := HS.out.cnt; omega))
                  clear hown' hgrow hfresh BB
                  go_wp2_with fail
                  go_roundw
                  case rel => exact ⟨k + 1, n2, _, _, by omega, by go_num, S8⟩
                  case measure => simp [intOf]; omega
              · have h3I : decide (0 < (N : Int) % 3) = true := decide_eq_true (by omega)
                obtain ⟨z, hzv, HZC⟩ : ∃ z : UInt8, 65 + (N : Int) % 26 = (z.toNat : Int) ∧ Hid (isCp z = true) := cap_of _ (by omega) (by omega)
                have hcv3 : (convert 43 9 (.slice (some ⟨W1.heap.size + 2, 0, none⟩) 1 1)).run Try.prog (((W1.alloc (.cells #[.string ⟨t.itm.tag.toArray⟩, .string ⟨t.itm.qual.toArray⟩, .string ⟨t.itm.text.toArray⟩, .string ⟨t.itm.name.toArray⟩, .slice ka t.kids.length kcap] 34)).alloc (.cells #[.int .u8 (x.toNat : Int), .int .u8 (y.toNat : Int)] 5)).alloc (.cells #[.int .u8 (z.toNat : Int)] 5)) = .ok (.string ⟨#[z]⟩) (((W1.alloc (.cells #[.string ⟨t.itm.tag.toArray⟩, .string ⟨t.itm.qual.toArray⟩, .string ⟨t.itm.text.toArray⟩, .string ⟨t.itm.name.toArray⟩, .slice ka t.kids.length kcap] 34)).alloc (.cells #[.int .u8 (x.toNat : Int), .int .u8 (y.toNat : Int)] 5)).alloc (.cells #[.int .u8 (z.toNat : Int)] 5)) :=
                  run_convert_bytes_back (P := Try.prog) (((W1.alloc (.cells #[.string ⟨t.itm.tag.toArray⟩, .string ⟨t.itm.qual.toArray⟩, .string ⟨t.itm.text.toArray⟩, .string ⟨t.itm.name.toArray⟩, .slice ka t.kids.length kcap] 34)).alloc (.cells #[.int .u8 (x.toNat : Int), .int .u8 (y.toNat : Int)] 5)).alloc (.cells #[.int .u8 (z.toNat : Int)] 5)) 43 9 5 ⟨W1.heap.size + 2, 0, none⟩ 1 [z] Try.underlying43 Try.underlying5 Try.underlying9 (fun j hj => by
                    match j, hj with
                    | 0, _ =>
                      show World.cell? _ ⟨W1.heap.size + 2, 0, none⟩ = _
                      rw [cell_of_row _ _ 0 _ _ _ (alloc3_newt W1 _ _ _)]; rfl)
                have hcv4 : (convert 43 9 (.slice (some ⟨W1.heap.size + 1 + 1, 0, none⟩) 1 1)).run Try.prog (((W1.alloc (.cells #[.string ⟨t.itm.tag.toArray⟩, .string ⟨t.itm.qual.toArray⟩, .string ⟨t.itm.text.toArray⟩, .string ⟨t.itm.name.toArray⟩, .slice ka t.kids.length kcap] 34)).alloc (.cells #[.int .u8 (x.toNat : Int), .int .u8 (y.toNat : Int)] 5)).alloc (.cells #[.int .u8 (z.toNat : Int)] 5)) = .ok (.string ⟨#[z]⟩) (((W1.alloc (.cells #[.string ⟨t.itm.tag.toArray⟩, .string ⟨t.itm.qual.toArray⟩, .string ⟨t.itm.text.toArray⟩, .string ⟨t.itm.name.toArray⟩, .slice ka t.kids.length kcap] 34)).alloc (.cells #[.int .u8 (x.toNat : Int), .int .u8 (y.toNat : Int)] 5)).alloc (.cells #[.int .u8 (z.toNat : Int)] 5)) := hcv3
                obtain ⟨tk, happ, HTK⟩ : ∃ tk : List UInt8, (⟨tg.toArray⟩ : ByteArray) ++ ⟨#[z]⟩ = ⟨tk.toArray⟩ ∧ Hid (tk = [x, y, z]) := ⟨tg ++ [z], by apply ByteArray.ext; simp, hide (by rw [HTGE.out]; rfl)⟩
                have htk3 : tg.length = 2 := by rw [HTGE.out]; rfl
                clear h3
                by_cases hr : tk = r16
                · have e16 : (tk == [49, 54, 82]) = true := beq_iff_eq.2 hr
                  have HTG : Hid (tagB [49, 54, 84] = true) := hide tag_t
                  clear hr
                  have BY : Hid (Below W1.heap.size W1 ((((W1.alloc (.cells #[.string ⟨t.itm.tag.toArray⟩, .string ⟨t.itm.qual.toArray⟩, .string ⟨t.itm.text.toArray⟩, .string ⟨t.itm.name.toArray⟩, .slice ka t.kids.length kcap] 34)).alloc (.cells #[.int .u8 (x.toNat : Int), .int .u8 (y.toNat : Int)] 5)).alloc (.cells #[.int .u8 (z.toNat : Int)] 5)).alloc (.cells #[.string ⟨([49, 54, 84] : List UInt8).toArray⟩, .string ⟨#[]⟩, .string ⟨#[]⟩, .string ⟨#[]⟩, .slice none 0 0] 34))) := hide (((((((Below.refl W1.heap.size W1).alloc (Nat.le_refl _) _)).alloc (by simp) _).alloc (by simp; omega) _)).alloc (by simp; omega) (.cells #[.string ⟨([49, 54, 84] : List UInt8).toArray⟩, .string ⟨#[]⟩, .string ⟨#[]⟩, .string ⟨#[]⟩, .slice none 0 0] 34))
                  have YY : Hid (Ix ((((W1.alloc (.cells #[.string ⟨t.itm.tag.toArray⟩, .string ⟨t.itm.qual.toArray⟩, .string ⟨t.itm.text.toArray⟩, .string ⟨t.itm.name.toArray⟩, .slice ka t.kids.length kcap] 34)).alloc (.cells #[.int .u8 (x.toNat : Int), .int .u8 (y.toNat : Int)] 5)).alloc (.cells #[.int .u8 (z.toNat : Int)] 5)).alloc (.cells #[.string ⟨([49, 54, 84] : List UInt8).toArray⟩, .string ⟨#[]⟩, .string ⟨#[]⟩, .string ⟨#[]⟩, .slice none 0 0] 34)) (W1.heap.size + 3) ⟨([49, 54, 84] : List UInt8), [], [], []⟩ (.slice none 0 0)) := hide (alloc4_newt W1 _ _ _ _)
                  have XY : Hid (Ix ((((W1.alloc (.cells #[.string ⟨t.itm.tag.toArray⟩, .string ⟨t.itm.qual.toArray⟩, .string ⟨t.itm.text.toArray⟩, .string ⟨t.itm.name.toArray⟩, .slice ka t.kids.length kcap] 34)).alloc (.cells #[.int .u8 (x.toNat : Int), .int .u8 (y.toNat : Int)] 5)).alloc (.cells #[.int .u8 (z.toNat : Int)] 5)).alloc (.cells #[.string ⟨([49, 54, 84] : List UInt8).toArray⟩, .string ⟨#[]⟩, .string ⟨#[]⟩, .string ⟨#[]⟩, .slice none 0 0] 34)) W1.heap.size t.itm (.slice ka t.kids.length kcap)) := hide (alloc_block (alloc_block (alloc_block (alloc_new W1 _))))
                  cases hqe : t.itm.qual.isEmpty with
                  | true =>
                    have qq := str_eq_t hqe
                    have qq1 : (t.itm.qual == []) = true := beq_iff_eq.2 (List.isEmpty_iff.1 hqe)
                    have qq0 := bytes_nil_t hqe
                    have HTX := hide (text_any t.itm.text false ((((W1.alloc (.cells #[.string ⟨t.itm.tag.toArray⟩, .string ⟨t.itm.qual.toArray⟩, .string ⟨t.itm.text.toArray⟩, .string ⟨t.itm.name.toArray⟩, .slice ka t.kids.length kcap] 34)).alloc (.cells #[.int .u8 (x.toNat : Int), .int .u8 (y.toNat : Int)] 5)).alloc (.cells #[.int .u8 (z.toNat : Int)] 5)).alloc (.cells #[.string ⟨([49, 54, 84] : List UInt8).toArray⟩, .string ⟨#[]⟩, .string ⟨#[]⟩, .string ⟨#[]⟩, .slice none 0 0] 34)) HTIO.out.text)
                    clear hqe
                    go_wp2_with fail
                    refine HTX.out.mono ?_
                    rintro e w6 ⟨⟨x', rfl, hx1, hx2, hx30, hx4⟩, hb6⟩
                    have hx3 : ([] : List UInt8) = [] → hdB x' = false := fun _ => hx30 (by first | exact rfl | trivial)
                    have Y6 := hide (YY.out.later hb6)
                    have B6 := hide (BY.out.trans (hb6.mono BY.out.size))
                    clear hb6 hx30 HTX qq qq1 qq0
                    have Y7 : Hid (Ix (w6.setCell ⟨W1.heap.size + 3, 2, none⟩ (.string ⟨x'.toArray⟩)) (W1.heap.size + 3) ⟨([49, 54, 84] : List UInt8), [], x', []⟩ (.slice none 0 0)) := hide (Y6.out.putText x')
                    have B7 := hide (B6.out.setCell (p := ⟨W1.heap.size + 3, 2, none⟩) (by simp) (.string ⟨x'.toArray⟩))
                    have HG : Hid (errI (.mk ⟨([49, 54, 84] : List UInt8), [], x', []⟩ []) d = 0) := hide (field_good HTG.out (Or.inl rfl) hx1 hx2 hx3)
                    have HGL : Hid ((txtI (.mk ⟨([49, 54, 84] : List UInt8), [], x', []⟩ [])).length ≤ 240) := hide (field_len HTG.out (Or.inl rfl) hx4)
                    have zf := Y6.out.free2
                    have zt := Y6.out.text trivial
                    have hYl : W1.heap.size + 3 < w6.heap.size := Y6.out.lt
                    obtain ⟨w7, hW7⟩ : ∃ w7, w6.setCell ⟨W1.heap.size + 3, 2, none⟩ (.string ⟨x'.toArray⟩) = w7 := ⟨_, rfl⟩
                    rw [hW7] at Y7 B7
                    have S7 := hide (S1.out.later B7.out)
                    have HSZ : Hid (wr.heap.size ≤ w7.heap.size) := by show _ ≤ _; have := B7.out.size; have := HWZ.out; omega
                    clear hx1 hx2 hx3 hx4
                    go_wp2_with (first
                      | (refine wpList_load_row rfl 34 (.tmp 12) rfl (W1.heap.size + 3) rfl _ (iC ⟨([49, 54, 84] : List UInt8), [], x', []⟩ (.slice none 0 0)) _ _ Y7.out Try.underlying34 rfl Try.sizeItm ?_; unfold iC)
                      | (at_builtin; refine wp_append_itm rfl _ _ rfl w.heap.size _ m.length _ rfl (S7.out.iw.row.alloc _) _ 1 1 [.string ⟨([49, 54, 84] : List UInt8).toArray⟩, .string ⟨#[]⟩, .string ⟨x'.toArray⟩, .string ⟨#[]⟩, .slice none 0 0] rfl rfl (by decide) ?c1 ?c2 ?c3 ?c4 ?_))
                    case c1 =>
                      intro j u hj
                      match j, hj with
                      | 0, hj => simp at hj; subst hj; simp [Addr.add]
                      | 1, hj => simp at hj; subst hj; simp [Addr.add]
                      | 2, hj => simp at hj; subst hj; simp [Addr.add]
                      | 3, hj => simp at hj; subst hj; simp [Addr.add]
                      | 4, hj => simp at hj; subst hj; simp [Addr.add]
                    case c2 => intro u hu; simp at hu; (repeat' (first | (rcases hu with rfl | hu) | subst hu)) <;> rfl
                    case c3 => have := S7.out.mv.size; simp; omega
                    case c4 => have := S7.out.cnt; omega
                    intro v' w8 hown' hgrow hfresh
                    have BB := hide ((Below.refl w7.heap.size w7).alloc (Nat.le_refl _) (.cells #[.string ⟨([49, 54, 84] : List UInt8).toArray⟩, .string ⟨#[]⟩, .string ⟨x'.toArray⟩, .string ⟨#[]⟩, .slice none 0 0] 34))
                    have S8 := hide ((S7.out.later BB.out).snoc (a := .mk ⟨([49, 54, 84] : List UInt8), [], x', []⟩ []) (u := .slice none 0 0) (lo := w7.heap.size) HP.out hown' hgrow (fun x hx => (hfresh x hx).imp id (fun h => by simpa using h)) (by have := HS.out.mv.size; have := HSZ.out; omega) (fun x hx => by have := (own_ltq HS.out.iw.row x hx).2; have := HSZ.out; omega) ⟨none, 0, rfl, .inl rfl⟩ HG.out (by have h1 := HS.out.len; have h2 := HGL.out; have h3 := HS.out.cnt; omega) (by have := HS.out.cnt; omega))
                    clear hown' hgrow hfresh BB
                    go_wp2_with fail
                    go_roundw
                    case rel => exact ⟨k + 1, n2, _, _, by omega, by go_num, S8⟩
                    case measure => simp [intOf]; omega
                  | false =>
                    have qq := str_eq_f hqe
                    have qq1 : (t.itm.qual == []) = false := beq_eq_false_iff_ne.2 (fun e => by rw [e] at hqe; cases hqe)
                    have qq0 := bytes_nil_f hqe
                    have HGQ : Hid (Calls Try.prog 9 #[.string ⟨t.itm.qual.toArray⟩, .int .i64 4, .int .i64 4] ((((W1.alloc (.cells #[.string ⟨t.itm.tag.toArray⟩, .string ⟨t.itm.qual.toArray⟩, .string ⟨t.itm.text.toArray⟩, .string ⟨t.itm.name.toArray⟩, .slice ka t.kids.length kcap] 34)).alloc (.cells #[.int .u8 (x.toNat : Int), .int .u8 (y.toNat : Int)] 5)).alloc (.cells #[.int .u8 (z.toNat : Int)] 5)).alloc (.cells #[.string ⟨([49, 54, 84] : List UInt8).toArray⟩, .string ⟨#[]⟩, .string ⟨#[]⟩, .string ⟨#[]⟩, .slice none 0 0] 34)) fun e w' => (∃ o : List UInt8, e = .returned (.string ⟨o.toArray⟩) ∧ o.all sg = true ∧ 4 ≤ o.length ∧ o.length ≤ 4) ∧ Below ((((W1.alloc (.cells #[.string ⟨t.itm.tag.toArray⟩, .string ⟨t.itm.qual.toArray⟩, .string ⟨t.itm.text.toArray⟩, .string ⟨t.itm.name.toArray⟩, .slice ka t.kids.length kcap] 34)).alloc (.cells #[.int .u8 (x.toNat : Int), .int .u8 (y.toNat : Int)] 5)).alloc (.cells #[.int .u8 (z.toNat : Int)] 5)).alloc (.cells #[.string ⟨([49, 54, 84] : List UInt8).toArray⟩, .string ⟨#[]⟩, .string ⟨#[]⟩, .string ⟨#[]⟩, .slice none 0 0] 34)).heap.size ((((W1.alloc (.cells #[.string ⟨t.itm.tag.toArray⟩, .string ⟨t.itm.qual.toArray⟩, .string ⟨t.itm.text.toArray⟩, .string ⟨t.itm.name.toArray⟩, .slice ka t.kids.length kcap] 34)).alloc (.cells #[.int .u8 (x.toNat : Int), .int .u8 (y.toNat : Int)] 5)).alloc (.cells #[.int .u8 (z.toNat : Int)] 5)).alloc (.cells #[.string ⟨([49, 54, 84] : List UInt8).toArray⟩, .string ⟨#[]⟩, .string ⟨#[]⟩, .string ⟨#[]⟩, .slice none 0 0] 34)) w') := hide (great_any t.itm.qual 4 4 ((((W1.alloc (.cells #[.string ⟨t.itm.tag.toArray⟩, .string ⟨t.itm.qual.toArray⟩, .string ⟨t.itm.text.toArray⟩, .string ⟨t.itm.name.toArray⟩, .slice ka t.kids.length kcap] 34)).alloc (.cells #[.int .u8 (x.toNat : Int), .int .u8 (y.toNat : Int)] 5)).alloc (.cells #[.int .u8 (z.toNat : Int)] 5)).alloc (.cells #[.string ⟨([49, 54, 84] : List UInt8).toArray⟩, .string ⟨#[]⟩, .string ⟨#[]⟩, .string ⟨#[]⟩, .slice none 0 0] 34)) HTIO.out.qual (by omega) (by omega))
                    clear hqe
                    go_wp2_with fail
                    refine HGQ.out.mono ?_
                    rintro e w5 ⟨⟨qo, rfl, hq1, hq2, hq3⟩, hb5⟩
                    have HQ : Hid (qo = [] ∨ qualB qo = true) := hide (.inr (by unfold qualB; rw [hq1, decide_eq_true (show qo.length = 4 by omega)]; rfl))
                    have hqe2 : qo.isEmpty = false := by cases qo with
                      | nil => simp at hq2
                      | cons _ _ => rfl
                    have qq2 := str_eq_f hqe2
                    have qq3 : (qo == []) = false := beq_eq_false_iff_ne.2 (fun e => by rw [e] at hqe2; cases hqe2)
                    have qq4 := bytes_nil_f hqe2
                    have HQN : Hid (qo ≠ []) := hide (fun e => by rw [e] at hqe2; cases hqe2)
                    have Y5 := hide (YY.out.later hb5)
                    have B5 := hide (BY.out.trans (hb5.mono BY.out.size))
                    have X5 := hide (XY.out.later hb5)
                    have Y5b : Hid (Ix (w5.setCell ⟨W1.heap.size + 3, 1, none⟩ (.string ⟨qo.toArray⟩)) (W1.heap.size + 3) ⟨([49, 54, 84] : List UInt8), qo, [], []⟩ (.slice none 0 0)) := hide (Y5.out.putQual qo)
                    have B5b := hide (B5.out.setCell (p := ⟨W1.heap.size + 3, 1, none⟩) (by simp) (.string ⟨qo.toArray⟩))
                    have X5b : Hid (Ix (w5.setCell ⟨W1.heap.size + 3, 1, none⟩ (.string ⟨qo.toArray⟩)) W1.heap.size t.itm (.slice ka t.kids.length kcap)) := hide ((Below.heap_setCell _ _ _ W1.heap.size (by show W1.heap.size ≠ W1.heap.size + 3; omega)).trans X5.out)
                    have z1 := Y5.out.free1
                    have z2 := Y5.out.qual trivial
                    have hYl5 : W1.heap.size + 3 < w5.heap.size := Y5.out.lt
                    obtain ⟨w5b, hW5⟩ : ∃ w5b, w5.setCell ⟨W1.heap.size + 3, 1, none⟩ (.string ⟨qo.toArray⟩) = w5b := ⟨_, rfl⟩
                    rw [hW5] at Y5b B5b X5b
                    have HTX := hide (text_any t.itm.text true w5b HTIO.out.text)
                    have z3 := X5b.out.text trivial
                    have z4 := Y5b.out.qual trivial
                    clear hb5 hq1 hq2 hq3 hqe2 HGQ qq qq1 qq0 Y5 X5 B5
                    go_wp2_with fail
                    refine HTX.out.mono ?_
                    rintro e w6 ⟨⟨x', rfl, hx1, hx2, hx30, hx4⟩, hb6⟩
                    have hx3 : qo = [] → hdB x' = false := fun e => absurd e HQN.out
                    have Y6 := hide (Y5b.out.later hb6)
                    have B6 := hide (B5b.out.trans (hb6.mono B5b.out.size))
                    clear hb6 hx30 HTX qq2 qq3 qq4 z1 z2 z3 z4 hW5
                    have Y7 : Hid (Ix (w6.setCell ⟨W1.heap.size + 3, 2, none⟩ (.string ⟨x'.toArray⟩)) (W1.heap.size + 3) ⟨([49, 54, 84] : List UInt8), qo, x', []⟩ (.slice none 0 0)) := hide (Y6.out.putText x')
                    have B7 := hide (B6.out.setCell (p := ⟨W1.heap.size + 3, 2, none⟩) (by simp) (.string ⟨x'.toArray⟩))
                    have HG : Hid (errI (.mk ⟨([49, 54, 84] : List UInt8), qo, x', []⟩ []) d = 0) := hide (field_good HTG.out HQ.out hx1 hx2 hx3)
                    have HGL : Hid ((txtI (.mk ⟨([49, 54, 84] : List UInt8), qo, x', []⟩ [])).length ≤ 240) := hide (field_len HTG.out HQ.out hx4)
                    have zf := Y6.out.free2
                    have zt := Y6.out.text trivial
                    have hYl : W1.heap.size + 3 < w6.heap.size := Y6.out.lt
                    obtain ⟨w7, hW7⟩ : ∃ w7, w6.setCell ⟨W1.heap.size + 3, 2, none⟩ (.string ⟨x'.toArray⟩) = w7 := ⟨_, rfl⟩
                    rw [hW7] at Y7 B7
                    have S7 := hide (S1.out.later B7.out)
                    have HSZ : Hid (wr.heap.size ≤ w7.heap.size) := by show _ ≤ _; have := B7.out.size; have := HWZ.out; omega
                    clear hx1 hx2 hx3 hx4
                    go_wp2_with (first
                      | (refine wpList_load_row rfl 34 (.tmp 12) rfl (W1.heap.size + 3) rfl _ (iC ⟨([49, 54, 84] : List UInt8), qo, x', []⟩ (.slice none 0 0)) _ _ Y7.out Try.underlying34 rfl Try.sizeItm ?_; unfold iC)
                      | (at_builtin; refine wp_append_itm rfl _ _ rfl w.heap.size _ m.length _ rfl (S7.out.iw.row.alloc _) _ 1 1 [.string ⟨([49, 54, 84] : List UInt8).toArray⟩, .string ⟨qo.toArray⟩, .string ⟨x'.toArray⟩, .string ⟨#[]⟩, .slice none 0 0] rfl rfl (by decide) ?c1 ?c2 ?c3 ?c4 ?_))
                    case c1 =>
                      intro j u hj
                      match j, hj with
                      | 0, hj => simp at hj; subst hj; simp [Addr.add]
                      | 1, hj => simp at hj; subst hj; simp [Addr.add]
                      | 2, hj => simp at hj; subst hj; simp [Addr.add]
                      | 3, hj => simp at hj; subst hj; simp [Addr.add]
                      | 4, hj => simp at hj; subst hj; simp [Addr.add]
                    case c2 => intro u hu; simp at hu; (repeat' (first | (rcases hu with rfl | hu) | subst hu)) <;> rfl
                    case c3 => have := S7.out.mv.size; simp; omega
                    case c4 => have := S7.out.cnt; omega
                    intro v' w8 hown' hgrow hfresh
                    have BB := hide ((Below.refl w7.heap.size w7).alloc (Nat.le_refl _) (.cells #[.string ⟨([49, 54, 84] : List UInt8).toArray⟩, .string ⟨qo.toArray⟩, .string ⟨x'.toArray⟩, .string ⟨#[]⟩, .slice none 0 0] 34))
                    have S8 := hide ((S7.out.later BB.out).snoc (a := .mk ⟨([49, 54, 84] : List UInt8), qo, x', []⟩ []) (u := .slice none 0 0) (lo := w7.heap.size) HP.out hown' hgrow (fun x hx => (hfresh x hx).imp id (fun h => by simpa using h)) (by have := HS.out.mv.size; have := HSZ.out; omega) (fun x hx => by have := (own_ltq HS.out.iw.row x hx).2; have := HSZ.out; omega) ⟨none, 0, rfl, .inl rfl⟩ HG.out (by have h1 := HS.out.len; have h2 := HGL.out; have h3 := HS.out.cnt; omega) (by have := HS.out.cnt; omega))
                    clear hown' hgrow hfresh BB
                    go_wp2_with fail
                    go_roundw
                    case rel => exact ⟨k + 1, n2, _, _, by omega, by go_num, S8⟩
                    case measure => simp [intOf]; omega
                · have e16 : (tk == [49, 54, 82]) = false := beq_eq_false_iff_ne.2 hr
                  by_cases hs : tk = s16
                  · have e17 : (tk == [49, 54, 83]) = true := beq_iff_eq.2 hs
                    have HTG : Hid (tagB [49, 54, 84] = true) := hide tag_t
                    clear hr hs
                    have BY : Hid (Below W1.heap.size W1 ((((W1.alloc (.cells #[.string ⟨t.itm.tag.toArray⟩, .string ⟨t.itm.qual.toArray⟩, .string ⟨t.itm.text.toArray⟩, .string ⟨t.itm.name.toArray⟩, .slice ka t.kids.length kcap] 34)).alloc (.cells #[.int .u8 (x.toNat : Int), .int .u8 (y.toNat : Int)] 5)).alloc (.cells #[.int .u8 (z.toNat : Int)] 5)).alloc (.cells #[.string ⟨([49, 54, 84] : List UInt8).toArray⟩, .string ⟨#[]⟩, .string ⟨#[]⟩, .string ⟨#[]⟩, .slice none 0 0] 34))) := hide (((((((Below.refl W1.heap.size W1).alloc (Nat.le_refl _) _)).alloc (by simp) _).alloc (by simp; omega) _)).alloc (by simp; omega) (.cells #[.string ⟨([49, 54, 84] : List UInt8).toArray⟩, .string ⟨#[]⟩, .string ⟨#[]⟩, .string ⟨#[]⟩, .slice none 0 0] 34))
                    have YY : Hid (Ix ((((W1.alloc (.cells #[.string ⟨t.itm.tag.toArray⟩, .string ⟨t.itm.qual.toArray⟩, .string ⟨t.itm.text.toArray⟩, .string ⟨t.itm.name.toArray⟩, .slice ka t.kids.length kcap] 34)).alloc (.cells #[.int .u8 (x.toNat : Int), .int .u8 (y.toNat : Int)] 5)).alloc (.cells #[.int .u8 (z.toNat : Int)] 5)).alloc (.cells #[.string ⟨([49, 54, 84] : List UInt8).toArray⟩, .string ⟨#[]⟩, .string ⟨#[]⟩, .string ⟨#[]⟩, .slice none 0 0] 34)) (W1.heap.size + 3) ⟨([49, 54, 84] : List UInt8), [], [], []⟩ (.slice none 0 0)) := hide (alloc4_newt W1 _ _ _ _)
                    have XY : Hid (Ix ((((W1.alloc (.cells #[.string ⟨t.itm.tag.toArray⟩, .string ⟨t.itm.qual.toArray⟩, .string ⟨t.itm.text.toArray⟩, .string ⟨t.itm.name.toArray⟩, .slice ka t.kids.length kcap] 34)).alloc (.cells #[.int .u8 (x.toNat : Int), .int .u8 (y.toNat : Int)] 5)).alloc (.cells #[.int .u8 (z.toNat : Int)] 5)).alloc (.cells #[.string ⟨([49, 54, 84] : List UInt8).toArray⟩, .string ⟨#[]⟩, .string ⟨#[]⟩, .string ⟨#[]⟩, .slice none 0 0] 34)) W1.heap.size t.itm (.slice ka t.kids.length kcap)) := hide (alloc_block (alloc_block (alloc_block (alloc_new W1 _))))
                    cases hqe : t.itm.qual.isEmpty with
                    | true =>
                      have qq := str_eq_t hqe
                      have qq1 : (t.itm.qual == []) = true := beq_iff_eq.2 (List.isEmpty_iff.1 hqe)
                      have qq0 := bytes_nil_t hqe
                      have HTX := hide (text_any t.itm.text false ((((W1.alloc (.cells #[.string ⟨t.itm.tag.toArray⟩, .string ⟨t.itm.qual.toArray⟩, .string ⟨t.itm.text.toArray⟩, .string ⟨t.itm.name.toArray⟩, .slice ka t.kids.length kcap] 34)).alloc (.cells #[.int .u8 (x.toNat : Int), .int .u8 (y.toNat : Int)] 5)).alloc (.cells #[.int .u8 (z.toNat : Int)] 5)).alloc (.cells #[.string ⟨([49, 54, 84] : List UInt8).toArray⟩, .string ⟨#[]⟩, .string ⟨#[]⟩, .string ⟨#[]⟩, .slice none 0 0] 34)) HTIO.out.text)
                      clear hqe
                      go_wp2_with fail
                      refine HTX.out.mono ?_
                      rintro e w6 ⟨⟨x', rfl, hx1, hx2, hx30, hx4⟩, hb6⟩
                      have hx3 : ([] : List UInt8) = [] → hdB x' = false := fun _ => hx30 (by first | exact rfl | trivial)
                      have Y6 := hide (YY.out.later hb6)
                      have B6 := hide (BY.out.trans (hb6.mono BY.out.size))
                      clear hb6 hx30 HTX qq qq1 qq0
                      have Y7 : Hid (Ix (w6.setCell ⟨W1.heap.size + 3, 2, none⟩ (.string ⟨x'.toArray⟩)) (W1.heap.size + 3) ⟨([49, 54, 84] : List UInt8), [], x', []⟩ (.slice none 0 0)) := hide (Y6.out.putText x')
                      have B7 := hide (B6.out.setCell (p := ⟨W1.heap.size + 3, 2, none⟩) (by simp) (.string ⟨x'.toArray⟩))
                      have HG : Hid (errI (.mk ⟨([49, 54, 84] : List UInt8), [], x', []⟩ []) d = 0) := hide (field_good HTG.out (Or.inl rfl) hx1 hx2 hx3)
                      have HGL : Hid ((txtI (.mk ⟨([49, 54, 84] : List UInt8), [], x', []⟩ [])).length ≤ 240) := hide (field_len HTG.out (Or.inl rfl) hx4)
                      have zf := Y6.out.free2
                      have zt := Y6.out.text trivial
                      have hYl : W1.heap.size + 3 < w6.heap.size := Y6.out.lt
                      obtain ⟨w7, hW7⟩ : ∃ w7, w6.setCell ⟨W1.heap.size + 3, 2, none⟩ (.string ⟨x'.toArray⟩) = w7 := ⟨_, rfl⟩
                      rw [hW7] at Y7 B7
                      have S7 := hide (S1.out.later B7.out)
                      have HSZ : Hid (wr.heap.size ≤ w7.heap.size) := by show _ ≤ _; have := B7.out.size; have := HWZ.out; omega
                      clear hx1 hx2 hx3 hx4
                      go_wp2_with (first
                        | (refine wpList_load_row rfl 34 (.tmp 12) rfl (W1.heap.size + 3) rfl _ (iC ⟨([49, 54, 84] : List UInt8), [], x', []⟩ (.slice none 0 0)) _ _ Y7.out Try.underlying34 rfl Try.sizeItm ?_; unfold iC)
                        | (at_builtin; refine wp_append_itm rfl _ _ rfl w.heap.size _ m.length _ rfl (S7.out.iw.row.alloc _) _ 1 1 [.string ⟨([49, 54, 84] : List UInt8).toArray⟩, .string ⟨#[]⟩, .string ⟨x'.toArray⟩, .string ⟨#[]⟩, .slice none 0 0] rfl rfl (by decide) ?c1 ?c2 ?c3 ?c4 ?_))
                      case c1 =>
                        intro j u hj
                        match j, hj with
                        | 0, hj => simp at hj; subst hj; simp [Addr.add]
                        | 1, hj => simp at hj; subst hj; simp [Addr.add]
                        | 2, hj => simp at hj; subst hj; simp [Addr.add]
                        | 3, hj => simp at hj; subst hj; simp [Addr.add]
                        | 4, hj => simp at hj; subst hj; simp [Addr.add]
                      case c2 => intro u hu; simp at hu; (repeat' (first | (rcases hu with rfl | hu) | subst hu)) <;> rfl
                      case c3 => have := S7.out.mv.size; simp; omega
                      case c4 => have := S7.out.cnt; omega
                      intro v' w8 hown' hgrow hfresh
                      have BB := hide ((Below.refl w7.heap.size w7).alloc (Nat.le_refl _) (.cells #[.string ⟨([49, 54, 84] : List UInt8).toArray⟩, .string ⟨#[]⟩, .string ⟨x'.toArray⟩, .string ⟨#[]⟩, .slice none 0 0] 34))
                      have S8 := hide ((S7.out.later BB.out).snoc (a := .mk ⟨([49, 54, 84] : List UInt8), [], x', []⟩ []) (u := .slice none 0 0) (lo := w7.heap.size) HP.out hown' hgrow (fun x hx => (hfresh x hx).imp id (fun h => by simpa using h)) (by have := HS.out.mv.size; have := HSZ.out; omega) (fun x hx => by have := (own_ltq HS.out.iw.row x hx).2; have := HSZ.out; omega) ⟨none, 0, rfl, .inl rfl⟩ HG.out (by have h1 := HS.out.len; have h2 := HGL.out; have h3 := HS.out.cnt; omega) (by have := HS.out.cnt; omega))
                      clear hown' hgrow hfresh BB
                      go_wp2_with fail
                      go_roundw
                      case rel => exact ⟨k + 1, n2, _, _, by omega, by go_num, S8⟩
                      case measure => simp [intOf]; omega
                    | false =>
                      have qq := str_eq_f hqe
                      have qq1 : (t.itm.qual == []) = false := beq_eq_false_iff_ne.2 (fun e => by rw [e] at hqe; cases hqe)
                      have qq0 := bytes_nil_f hqe
                      have HGQ : Hid (Calls Try.prog 9 #[.string ⟨t.itm.qual.toArray⟩, .int .i64 4, .int .i64 4] ((((W1.alloc (.cells #[.string ⟨t.itm.tag.toArray⟩, .string ⟨t.itm.qual.toArray⟩, .string ⟨t.itm.text.toArray⟩, .string ⟨t.itm.name.toArray⟩, .slice ka t.kids.length kcap] 34)).alloc (.cells #[.int .u8 (x.toNat : Int), .int .u8 (y.toNat : Int)] 5)).alloc (.cells #[.int .u8 (z.toNat : Int)] 5)).alloc (.cells #[.string ⟨([49, 54, 84] : List UInt8).toArray⟩, .string ⟨#[]⟩, .string ⟨#[]⟩, .string ⟨#[]⟩, .slice none 0 0] 34)) fun e w' => (∃ o : List UInt8, e = .returned (.string ⟨o.toArray⟩) ∧ o.all sg = true ∧ 4 ≤ o.length ∧ o.length ≤ 4) ∧ Below ((((W1.alloc (.cells #[.string ⟨t.itm.tag.toArray⟩, .string ⟨t.itm.qual.toArray⟩, .string ⟨t.itm.text.toArray⟩, .string ⟨t.itm.name.toArray⟩, .slice ka t.kids.length kcap] 34)).alloc (.cells #[.int .u8 (x.toNat : Int), .int .u8 (y.toNat : Int)] 5)).alloc (.cells #[.int .u8 (z.toNat : Int)] 5)).alloc (.cells #[.string ⟨([49, 54, 84] : List UInt8).toArray⟩, .string ⟨#[]⟩, .string ⟨#[]⟩, .string ⟨#[]⟩, .slice none 0 0] 34)).heap.size ((((W1.alloc (.cells #[.string ⟨t.itm.tag.toArray⟩, .string ⟨t.itm.qual.toArray⟩, .string ⟨t.itm.text.toArray⟩, .string ⟨t.itm.name.toArray⟩, .slice ka t.kids.length kcap] 34)).alloc (.cells #[.int .u8 (x.toNat : Int), .int .u8 (y.toNat : Int)] 5)).alloc (.cells #[.int .u8 (z.toNat : Int)] 5)).alloc (.cells #[.string ⟨([49, 54, 84] : List UInt8).toArray⟩, .string ⟨#[]⟩, .string ⟨#[]⟩, .string ⟨#[]⟩, .slice none 0 0] 34)) w') := hide (great_any t.itm.qual 4 4 ((((W1.alloc (.cells #[.string ⟨t.itm.tag.toArray⟩, .string ⟨t.itm.qual.toArray⟩, .string ⟨t.itm.text.toArray⟩, .string ⟨t.itm.name.toArray⟩, .slice ka t.kids.length kcap] 34)).alloc (.cells #[.int .u8 (x.toNat : Int), .int .u8 (y.toNat : Int)] 5)).alloc (.cells #[.int .u8 (z.toNat : Int)] 5)).alloc (.cells #[.string ⟨([49, 54, 84] : List UInt8).toArray⟩, .string ⟨#[]⟩, .string ⟨#[]⟩, .string ⟨#[]⟩, .slice none 0 0] 34)) HTIO.out.qual (by omega) (by omega))
                      clear hqe
                      go_wp2_with fail
                      refine HGQ.out.mono ?_
                      rintro e w5 ⟨⟨qo, rfl, hq1, hq2, hq3⟩, hb5⟩
                      have HQ : Hid (qo = [] ∨ qualB qo = true) := hide (.inr (by unfold qualB; rw [hq1, decide_eq_true (show qo.length = 4 by omega)]; rfl))
                      have hqe2 : qo.isEmpty = false := by cases qo with
                        | nil => simp at hq2
                        | cons _ _ => rfl
                      have qq2 := str_eq_f hqe2
                      have qq3 : (qo == []) = false := beq_eq_false_iff_ne.2 (fun e => by rw [e] at hqe2; cases hqe2)
                      have qq4 := bytes_nil_f hqe2
                      have HQN : Hid (qo ≠ []) := hide (fun e => by rw [e] at hqe2; cases hqe2)
                      have Y5 := hide (YY.out.later hb5)
                      have B5 := hide (BY.out.trans (hb5.mono BY.out.size))
                      have X5 := hide (XY.out.later hb5)
                      have Y5b : Hid (Ix (w5.setCell ⟨W1.heap.size + 3, 1, none⟩ (.string ⟨qo.toArray⟩)) (W1.heap.size + 3) ⟨([49, 54, 84] : List UInt8), qo, [], []⟩ (.slice none 0 0)) := hide (Y5.out.putQual qo)
                      have B5b := hide (B5.out.setCell (p := ⟨W1.heap.size + 3, 1, none⟩) (by simp) (.string ⟨qo.toArray⟩))
                      have X5b : Hid (Ix (w5.setCell ⟨W1.heap.size + 3, 1, none⟩ (.string ⟨qo.toArray⟩)) W1.heap.size t.itm (.slice ka t.kids.length kcap)) := hide ((Below.heap_setCell _ _ _ W1.heap.size (by show W1.heap.size ≠ W1.heap.size + 3; omega)).trans X5.out)
                      have z1 := Y5.out.free1
                      have z2 := Y5.out.qual trivial
                      have hYl5 : W1.heap.size + 3 < w5.heap.size := Y5.out.lt
                      obtain ⟨w5b, hW5⟩ : ∃ w5b, w5.setCell ⟨W1.heap.size + 3, 1, none⟩ (.string ⟨qo.toArray⟩) = w5b := ⟨_, rfl⟩
                      rw [hW5] at Y5b B5b X5b
                      have HTX := hide (text_any t.itm.text true w5b HTIO.out.text)
                      have z3 := X5b.out.text trivial
                      have z4 := Y5b.out.qual trivial
                      clear hb5 hq1 hq2 hq3 hqe2 HGQ qq qq1 qq0 Y5 X5 B5
                      go_wp2_with fail
                      refine HTX.out.mono ?_
                      rintro e w6 ⟨⟨x', rfl, hx1, hx2, hx30, hx4⟩, hb6⟩
                      have hx3 : qo = [] → hdB x' = false := fun e => absurd e HQN.out
                      have Y6 := hide (Y5b.out.later hb6)
                      have B6 := hide (B5b.out.trans (hb6.mono B5b.out.size))
                      clear hb6 hx30 HTX qq2 qq3 qq4 z1 z2 z3 z4 hW5
                      have Y7 : Hid (Ix (w6.setCell ⟨W1.heap.size + 3, 2, none⟩ (.string ⟨x'.toArray⟩)) (W1.heap.size + 3) ⟨([49, 54, 84] : List UInt8), qo, x', []⟩ (.slice none 0 0)) := hide (Y6.out.putText x')
                      have B7 := hide (B6.out.setCell (p := ⟨W1.heap.size + 3, 2, none⟩) (by simp) (.string ⟨x'.toArray⟩))
                      have HG : Hid (errI (.mk ⟨([49, 54, 84] : List UInt8), qo, x', []⟩ []) d = 0) := hide (field_good HTG.out HQ.out hx1 hx2 hx3)
                      have HGL : Hid ((txtI (.mk ⟨([49, 54, 84] : List UInt8), qo, x', []⟩ [])).length ≤ 240) := hide (field_len HTG.out HQ.out hx4)
                      have zf := Y6.out.free2
                      have zt := Y6.out.text trivial
                      have hYl : W1.heap.size + 3 < w6.heap.size := Y6.out.lt
                      obtain ⟨w7, hW7⟩ : ∃ w7, w6.setCell ⟨W1.heap.size + 3, 2, none⟩ (.string ⟨x'.toArray⟩) = w7 := ⟨_, rfl⟩
                      rw [hW7] at Y7 B7
                      have S7 := hide (S1.out.later B7.out)
                      have HSZ : Hid (wr.heap.size ≤ w7.heap.size) := by show _ ≤ _; have := B7.out.size; have := HWZ.out; omega
                      clear hx1 hx2 hx3 hx4
                      go_wp2_with (first
                        | (refine wpList_load_row rfl 34 (.tmp 12) rfl (W1.heap.size + 3) rfl _ (iC ⟨([49, 54, 84] : List UInt8), qo, x', []⟩ (.slice none 0 0)) _ _ Y7.out Try.underlying34 rfl Try.sizeItm ?_; unfold iC)
                        | (at_builtin; refine wp_append_itm rfl _ _ rfl w.heap.size _ m.length _ rfl (S7.out.iw.row.alloc _) _ 1 1 [.string ⟨([49, 54, 84] : List UInt8).toArray⟩, .string ⟨qo.toArray⟩, .string ⟨x'.toArray⟩, .string ⟨#[]⟩, .slice none 0 0] rfl rfl (by decide) ?c1 ?c2 ?c3 ?c4 ?_))
                      case c1 =>
                        intro j u hj
                        match j, hj with
                        | 0, hj => simp at hj; subst hj; simp [Addr.add]
                        | 1, hj => simp at hj; subst hj; simp [Addr.add]
                        | 2, hj => simp at hj; subst hj; simp [Addr.add]
                        | 3, hj => simp at hj; subst hj; simp [Addr.add]
                        | 4, hj => simp at hj; subst hj; simp [Addr.add]
                      case c2 => intro u hu; simp at hu; (repeat' (first | (rcases hu with rfl | hu) | subst hu)) <;> rfl
                      case c3 => have := S7.out.mv.size; simp; omega
                      case c4 => have := S7.out.cnt; omega
                      intro v' w8 hown' hgrow hfresh
                      have BB := hide ((Below.refl w7.heap.size w7).alloc (Nat.le_refl _) (.cells #[.string ⟨([49, 54, 84] : List UInt8).toArray⟩, .string ⟨qo.toArray⟩, .string ⟨x'.toArray⟩, .string ⟨#[]⟩, .slice none 0 0] 34))
                      have S8 := hide ((S7.out.later BB.out).snoc (a := .mk ⟨([49, 54, 84] : List UInt8), qo, x', []⟩ []) (u := .slice none 0 0) (lo := w7.heap.size) HP.out hown' hgrow (fun x hx => (hfresh x hx).imp id (fun h => by simpa using h)) (by have := HS.out.mv.size; have := HSZ.out; omega) (fun x hx => by have := (own_ltq HS.out.iw.row x hx).2; have := HSZ.out; omega) ⟨none, 0, rfl, .inl rfl⟩ HG.out (by have h1 := HS.out.len; have h2 := HGL.out; have h3 := HS.out.cnt; omega) (by have := HS.out.cnt; omega))
                      clear hown' hgrow hfresh BB
                      go_wp2_with fail
                      go_roundw
                      case rel => exact ⟨k + 1, n2, _, _, by omega, by go_num, S8⟩
                      case measure => simp [intOf]; omega
                  · have e17 : (tk == [49, 54, 83]) = false := beq_eq_false_iff_ne.2 hs
                    have HTG : Hid (tagB tk = true) := by
                      show _ = _
                      rw [HTK.out] at hr hs ⊢
                      exact tag_of3 HXD.out HYD.out HZC.out hr hs
                    clear hr hs
                    have BY : Hid (Below W1.heap.size W1 ((((W1.alloc (.cells #[.string ⟨t.itm.tag.toArray⟩, .string ⟨t.itm.qual.toArray⟩, .string ⟨t.itm.text.toArray⟩, .string ⟨t.itm.name.toArray⟩, .slice ka t.kids.length kcap] 34)).alloc (.cells #[.int .u8 (x.toNat : Int), .int .u8 (y.toNat : Int)] 5)).alloc (.cells #[.int .u8 (z.toNat : Int)] 5)).alloc (.cells #[.string ⟨tk.toArray⟩, .string ⟨#[]⟩, .string ⟨#[]⟩, .string ⟨#[]⟩, .slice none 0 0] 34))) := hide (((((((Below.refl W1.heap.size W1).alloc (Nat.le_refl _) _)).alloc (by simp) _).alloc (by simp; omega) _)).alloc (by simp; omega) (.cells #[.string ⟨tk.toArray⟩, .string ⟨#[]⟩, .string ⟨#[]⟩, .string ⟨#[]⟩, .slice none 0 0] 34))
                    have YY : Hid (Ix ((((W1.alloc (.cells #[.string ⟨t.itm.tag.toArray⟩, .string ⟨t.itm.qual.toArray⟩, .string ⟨t.itm.text.toArray⟩, .string ⟨t.itm.name.toArray⟩, .slice ka t.kids.length kcap] 34)).alloc (.cells #[.int .u8 (x.toNat : Int), .int .u8 (y.toNat : Int)] 5)).alloc (.cells #[.int .u8 (z.toNat : Int)] 5)).alloc (.cells #[.string ⟨tk.toArray⟩, .string ⟨#[]⟩, .string ⟨#[]⟩, .string ⟨#[]⟩, .slice none 0 0] 34)) (W1.heap.size + 3) ⟨tk, [], [], []⟩ (.slice none 0 0)) := hide (alloc4_newt W1 _ _ _ _)
                    have XY : Hid (Ix ((((W1.alloc (.cells #[.string ⟨t.itm.tag.toArray⟩, .string ⟨t.itm.qual.toArray⟩, .string ⟨t.itm.text.toArray⟩, .string ⟨t.itm.name.toArray⟩, .slice ka t.kids.length kcap] 34)).alloc (.cells #[.int .u8 (x.toNat : Int), .int .u8 (y.toNat : Int)] 5)).alloc (.cells #[.int .u8 (z.toNat : Int)] 5)).alloc (.cells #[.string ⟨tk.toArray⟩, .string ⟨#[]⟩, .string ⟨#[]⟩, .string ⟨#[]⟩, .slice none 0 0] 34)) W1.heap.size t.itm (.slice ka t.kids.length kcap)) := hide (alloc_block (alloc_block (alloc_block (alloc_new W1 _))))
                    cases hqe : t.itm.qual.isEmpty with
                    | true =>
                      have qq := str_eq_t hqe
                      have qq1 : (t.itm.qual == []) = true := beq_iff_eq.2 (List.isEmpty_iff.1 hqe)
                      have qq0 := bytes_nil_t hqe
                      have HTX := hide (text_any t.itm.text false ((((W1.alloc (.cells #[.string ⟨t.itm.tag.toArray⟩, .string ⟨t.itm.qual.toArray⟩, .string ⟨t.itm.text.toArray⟩, .string ⟨t.itm.name.toArray⟩, .slice ka t.kids.length kcap] 34)).alloc (.cells #[.int .u8 (x.toNat : Int), .int .u8 (y.toNat : Int)] 5)).alloc (.cells #[.int .u8 (z.toNat : Int)] 5)).alloc (.cells #[.string ⟨tk.toArray⟩, .string ⟨#[]⟩, .string ⟨#[]⟩, .string ⟨#[]⟩, .slice none 0 0] 34)) HTIO.out.text)
                      clear hqe
                      go_wp2_with fail
                      refine HTX.out.mono ?_
                      rintro e w6 ⟨⟨x', rfl, hx1, hx2, hx30, hx4⟩, hb6⟩
                      have hx3 : ([] : List UInt8) = [] → hdB x' = false := fun _ => hx30 (by first | exact rfl | trivial)
                      have Y6 := hide (YY.out.later hb6)
                      have B6 := hide (BY.out.trans (hb6.mono BY.out.size))
                      clear hb6 hx30 HTX qq qq1 qq0
                      have Y7 : Hid (Ix (w6.setCell ⟨W1.heap.size + 3, 2, none⟩ (.string ⟨x'.toArray⟩)) (W1.heap.size + 3) ⟨tk, [], x', []⟩ (.slice none 0 0)) := hide (Y6.out.putText x')
                      have B7 := hide (B6.out.setCell (p := ⟨W1.heap.size + 3, 2, none⟩) (by simp) (.string ⟨x'.toArray⟩))
                      have HG : Hid (errI (.mk ⟨tk, [], x', []⟩ []) d = 0) := hide (field_good HTG.out (Or.inl rfl) hx1 hx2 hx3)
                      have HGL : Hid ((txtI (.mk ⟨tk, [], x', []⟩ [])).length ≤ 240) := hide (field_len HTG.out (Or.inl rfl) hx4)
                      have zf := Y6.out.free2
                      have zt := Y6.out.text trivial
                      have hYl : W1.heap.size + 3 < w6.heap.size := Y6.out.lt
                      obtain ⟨w7, hW7⟩ : ∃ w7, w6.setCell ⟨W1.heap.size + 3, 2, none⟩ (.string ⟨x'.toArray⟩) = w7 := ⟨_, rfl⟩
                      rw [hW7] at Y7 B7
                      have S7 := hide (S1.out.later B7.out)
                      have HSZ : Hid (wr.heap.size ≤ w7.heap.size) := by show _ ≤ _; have := B7.out.size; have := HWZ.out; omega
                      clear hx1 hx2 hx3 hx4
                      go_wp2_with (first
                        | (refine wpList_load_row rfl 34 (.tmp 12) rfl (W1.heap.size + 3) rfl _ (iC ⟨tk, [], x', []⟩ (.slice none 0 0)) _ _ Y7.out Try.underlying34 rfl Try.sizeItm ?_; unfold iC)
                        | (at_builtin; refine wp_append_itm rfl _ _ rfl w.heap.size _ m.length _ rfl (S7.out.iw.row.alloc _) _ 1 1 [.string ⟨tk.toArray⟩, .string ⟨#[]⟩, .string ⟨x'.toArray⟩, .string ⟨#[]⟩, .slice none 0 0] rfl rfl (by decide) ?c1 ?c2 ?c3 ?c4 ?_))
                      case c1 =>
                        intro j u hj
                        match j, hj with
                        | 0, hj => simp at hj; subst hj; simp [Addr.add]
                        | 1, hj => simp at hj; subst hj; simp [Addr.add]
                        | 2, hj => simp at hj; subst hj; simp [Addr.add]
                        | 3, hj => simp at hj; subst hj; simp [Addr.add]
                        | 4, hj => simp at hj; subst hj; simp [Addr.add]
                      case c2 => intro u hu; simp at hu; (repeat' (first | (rcases hu with rfl | hu) | subst hu)) <;> rfl
                      case c3 => have := S7.out.mv.size; simp; omega
                      case c4 => have := S7.out.cnt; omega
                      intro v' w8 hown' hgrow hfresh
                      have BB := hide ((Below.refl w7.heap.size w7).alloc (Nat.le_refl _) (.cells #[.string ⟨tk.toArray⟩, .string ⟨#[]⟩, .string ⟨x'.toArray⟩, .string ⟨#[]⟩, .slice none 0 0] 34))
                      have S8 := hide ((S7.out.later BB.out).snoc (a := .mk ⟨tk, [], x', []⟩ []) (u := .slice none 0 0) (lo := w7.heap.size) HP.out hown' hgrow (fun x hx => (hfresh x hx).imp id (fun h => by simpa using h)) (by have := HS.out.mv.size; have := HSZ.out; omega) (fun x hx => by have := (own_ltq HS.out.iw.row x hx).2; have := HSZ.out; omega) ⟨none, 0, rfl, .inl rfl⟩ HG.out (by have h1 := HS.out.len; have h2 := HGL.out; have h3 := HS.out.cnt; omega) (by have := HS.out.cnt; omega))
                      clear hown' hgrow hfresh BB
                      go_wp2_with fail
                      go_roundw
                      case rel => exact ⟨k + 1, n2, _, _, by omega, by go_num, S8⟩
                      case measure => simp [intOf]; omega
                    | false =>
                      have qq := str_eq_f hqe
                      have qq1 : (t.itm.qual == []) = false := beq_eq_false_iff_ne.2 (fun e => by rw [e] at hqe; cases hqe)
                      have qq0 := bytes_nil_f hqe
                      have HGQ : Hid (Calls Try.prog 9 #[.string ⟨t.itm.qual.toArray⟩, .int .i64 4, .int .i64 4] ((((W1.alloc (.cells #[.string ⟨t.itm.tag.toArray⟩, .string ⟨t.itm.qual.toArray⟩, .string ⟨t.itm.text.toArray⟩, .string ⟨t.itm.name.toArray⟩, .slice ka t.kids.length kcap] 34)).alloc (.cells #[.int .u8 (x.toNat : Int), .int .u8 (y.toNat : Int)] 5)).alloc (.cells #[.int .u8 (z.toNat : Int)] 5)).alloc (.cells #[.string ⟨tk.toArray⟩, .string ⟨#[]⟩, .string ⟨#[]⟩, .string ⟨#[]⟩, .slice none 0 0] 34)) fun e w' => (∃ o : List UInt8, e = .returned (.string ⟨o.toArray⟩) ∧ o.all sg = true ∧ 4 ≤ o.length ∧ o.length ≤ 4) ∧ Below ((((W1.alloc (.cells #[.string ⟨t.itm.tag.toArray⟩, .string ⟨t.itm.qual.toArray⟩, .string ⟨t.itm.text.toArray⟩, .string ⟨t.itm.name.toArray⟩, .slice ka t.kids.length kcap] 34)).alloc (.cells #[.int .u8 (x.toNat : Int), .int .u8 (y.toNat : Int)] 5)).alloc (.cells #[.int .u8 (z.toNat : Int)] 5)).alloc (.cells #[.string ⟨tk.toArray⟩, .string ⟨#[]⟩, .string ⟨#[]⟩, .string ⟨#[]⟩, .slice none 0 0] 34)).heap.size ((((W1.alloc (.cells #[.string ⟨t.itm.tag.toArray⟩, .string ⟨t.itm.qual.toArray⟩, .string ⟨t.itm.text.toArray⟩, .string ⟨t.itm.name.toArray⟩, .slice ka t.kids.length kcap] 34)).alloc (.cells #[.int .u8 (x.toNat : Int), .int .u8 (y.toNat : Int)] 5)).alloc (.cells #[.int .u8 (z.toNat : Int)] 5)).alloc (.cells #[.string ⟨tk.toArray⟩, .string ⟨#[]⟩, .string ⟨#[]⟩, .string ⟨#[]⟩, .slice none 0 0] 34)) w') := hide (great_any t.itm.qual 4 4 ((((W1.alloc (.cells #[.string ⟨t.itm.tag.toArray⟩, .string ⟨t.itm.qual.toArray⟩, .string ⟨t.itm.text.toArray⟩, .string ⟨t.itm.name.toArray⟩, .slice ka t.kids.length kcap] 34)).alloc (.cells #[.int .u8 (x.toNat : Int), .int .u8 (y.toNat : Int)] 5)).alloc (.cells #[.int .u8 (z.toNat : Int)] 5)).alloc (.cells #[.string ⟨tk.toArray⟩, .string ⟨#[]⟩, .string ⟨#[]⟩, .string ⟨#[]⟩, .slice none 0 0] 34)) HTIO.out.qual (by omega) (by omega))
                      clear hqe
                      go_wp2_with fail
                      refine HGQ.out.mono ?_
                      rintro e w5 ⟨⟨qo, rfl, hq1, hq2, hq3⟩, hb5⟩
                      have HQ : Hid (qo = [] ∨ qualB qo = true) := hide (.inr (by unfold qualB; rw [hq1, decide_eq_true (show qo.length = 4 by omega)]; rfl))
                      have hqe2 : qo.isEmpty = false := by cases qo with
                        | nil => simp at hq2
                        | cons _ _ => rfl
                      have qq2 := str_eq_f hqe2
                      have qq3 : (qo == []) = false := beq_eq_false_iff_ne.2 (fun e => by rw [e] at hqe2; cases hqe2)
                      have qq4 := bytes_nil_f hqe2
                      have HQN : Hid (qo ≠ []) := hide (fun e => by rw [e] at hqe2; cases hqe2)
                      have Y5 := hide (YY.out.later hb5)
                      have B5 := hide (BY.out.trans (hb5.mono BY.out.size))
                      have X5 := hide (XY.out.later hb5)
                      have Y5b : Hid (Ix (w5.setCell ⟨W1.heap.size + 3, 1, none⟩ (.string ⟨qo.toArray⟩)) (W1.heap.size + 3) ⟨tk, qo, [], []⟩ (.slice none 0 0)) := hide (Y5.out.putQual qo)
                      have B5b := hide (B5.out.setCell (p := ⟨W1.heap.size + 3, 1, none⟩) (by simp) (.string ⟨qo.toArray⟩))
                      have X5b : Hid (Ix (w5.setCell ⟨W1.heap.size + 3, 1, none⟩ (.string ⟨qo.toArray⟩)) W1.heap.size t.itm (.slice ka t.kids.length kcap)) := hide ((Below.heap_setCell _ _ _ W1.heap.size (by show W1.heap.size ≠ W1.heap.size + 3; omega)).trans X5.out)
                      have z1 := Y5.out.free1
                      have z2 := Y5.out.qual trivial
                      have hYl5 : W1.heap.size + 3 < w5.heap.size := Y5.out.lt
                      obtain ⟨w5b, hW5⟩ : ∃ w5b, w5.setCell ⟨W1.heap.size + 3, 1, none⟩ (.string ⟨qo.toArray⟩) = w5b := ⟨_, rfl⟩
                      rw [hW5] at Y5b B5b X5b
                      have HTX := hide (text_any t.itm.text true w5b HTIO.out.text)
                      have z3 := X5b.out.text trivial
                      have z4 := Y5b.out.qual trivial
                      clear hb5 hq1 hq2 hq3 hqe2 HGQ qq qq1 qq0 Y5 X5 B5
                      go_wp2_with fail
                      refine HTX.out.mono ?_
                      rintro e w6 ⟨⟨x', rfl, hx1, hx2, hx30, hx4⟩, hb6⟩
                      have hx3 : qo = [] → hdB x' = false := fun e => absurd e HQN.out
                      have Y6 := hide (Y5b.out.later hb6)
                      have B6 := hide (B5b.out.trans (hb6.mono B5b.out.size))
                      clear hb6 hx30 HTX qq2 qq3 qq4 z1 z2 z3 z4 hW5
                      have Y7 : Hid (Ix (w6.setCell ⟨W1.heap.size + 3, 2, none⟩ (.string ⟨x'.toArray⟩)) (W1.heap.size + 3) ⟨tk, qo, x', []⟩ (.slice none 0 0)) := hide (Y6.out.putText x')
                      have B7 := hide (B6.out.setCell (p := ⟨W1.heap.size + 3, 2, none⟩) (by simp) (.string ⟨x'.toArray⟩))
                      have HG : Hid (errI (.mk ⟨tk, qo, x', []⟩ []) d = 0) := hide (field_good HTG.out HQ.out hx1 hx2 hx3)
                      have HGL : Hid ((txtI (.mk ⟨tk, qo, x', []⟩ [])).length ≤ 240) := hide (field_len HTG.out HQ.out hx4)
                      have zf := Y6.out.free2
                      have zt := Y6.out.text trivial
                      have hYl : W1.heap.size + 3 < w6.heap.size := Y6.out.lt
                      obtain ⟨w7, hW7⟩ : ∃ w7, w6.setCell ⟨W1.heap.size + 3, 2, none⟩ (.string ⟨x'.toArray⟩) = w7 := ⟨_, rfl⟩
                      rw [hW7] at Y7 B7
                      have S7 := hide (S1.out.later B7.out)
                      have HSZ : Hid (wr.heap.size ≤ w7.heap.size) := by show _ ≤ _; have := B7.out.size; have := HWZ.out; omega
                      clear hx1 hx2 hx3 hx4
                      go_wp2_with (first
                        | (refine wpList_load_row rfl 34 (.tmp 12) rfl (W1.heap.size + 3) rfl _ (iC ⟨tk, qo, x', []⟩ (.slice none 0 0)) _ _ Y7.out Try.underlying34 rfl Try.sizeItm ?_; unfold iC)
                        | (at_builtin; refine wp_append_itm rfl _ _ rfl w.heap.size _ m.length _ rfl (S7.out.iw.row.alloc _) _ 1 1 [.string ⟨tk.toArray⟩, .string ⟨qo.toArray⟩, .string ⟨x'.toArray⟩, .string ⟨#[]⟩, .slice none 0 0] rfl rfl (by decide) ?c1 ?c2 ?c3 ?c4 ?_))
                      case c1 =>
                        intro j u hj
                        match j, hj with
                        | 0, hj => simp at hj; subst hj; simp [Addr.add]
                        | 1, hj => simp at hj; subst hj; simp [Addr.add]
                        | 2, hj => simp at hj; subst hj; simp [Addr.add]
                        | 3, hj => simp at hj; subst hj; simp [Addr.add]
                        | 4, hj => simp at hj; subst hj; simp [Addr.add]
                      case c2 => intro u hu; simp at hu; (repeat' (first | (rcases hu with rfl | hu) | subst hu)) <;> rfl
                      case c3 => have := S7.out.mv.size; simp; omega
                      case c4 => have := S7.out.cnt; omega
                      intro v' w8 hown' hgrow hfresh
                      have BB := hide ((Below.refl w7.heap.size w7).alloc (Nat.le_refl _) (.cells #[.string ⟨tk.toArray⟩, .string ⟨qo.toArray⟩, .string ⟨x'.toArray⟩, .string ⟨#[]⟩, .slice none 0 0] 34))
                      have S8 := hide ((S7.out.later BB.out).snoc (a := .mk ⟨tk, qo, x', []⟩ []) (u := .slice none 0 0) (lo := w7.heap.size) HP.out hown' hgrow (fun x hx => (hfresh x hx).imp id (fun h => by simpa using h)) (by have := HS.out.mv.size; have := HSZ.out; omega) (fun x hx => by have := (own_ltq HS.out.iw.row x hx).2; have := HSZ.out; omega) ⟨none, 0, rfl, .inl rfl⟩ HG.out (by have h1 := HS.out.len; have h2 := HGL.out; have h3 := HS.out.cnt; omega) (by have := HS.out.cnt; omega))
                      clear hown' hgrow hfresh BB
                      go_wp2_with fail
                      go_roundw
                      case rel => exact ⟨k + 1, n2, _, _, by omega, by go_num, S8⟩
                      case measure => simp [intOf]; omega
            | true =>
              have q2 := str_eq_t hb2
              by_cases hd8 : d < 8
              · have hd8I : decide ((d : Int) < 8) = true := decide_eq_true (by omega)
                have XX : Hid (Ix (W1.alloc (.cells #[.string ⟨t.itm.tag.toArray⟩, .string ⟨t.itm.qual.toArray⟩, .string ⟨t.itm.text.toArray⟩, .string ⟨t.itm.name.toArray⟩, .slice ka t.kids.length kcap] 34)) W1.heap.size t.itm (.slice ka t.kids.length kcap)) := hide (alloc_new W1 _)
                have BX := hide (((Below.refl W1.heap.size W1).alloc (Nat.le_refl _) (.cells #[.string ⟨t.itm.tag.toArray⟩, .string ⟨t.itm.qual.toArray⟩, .string ⟨t.itm.text.toArray⟩, .string ⟨t.itm.name.toArray⟩, .slice ka t.kids.length kcap] 34)).drew)
                have HGN : Hid (Calls Try.prog 9 #[.string ⟨t.itm.name.toArray⟩, .int .i64 1, .int .i64 16] (W1.alloc (.cells #[.string ⟨t.itm.tag.toArray⟩, .string ⟨t.itm.qual.toArray⟩, .string ⟨t.itm.text.toArray⟩, .string ⟨t.itm.name.toArray⟩, .slice ka t.kids.length kcap] 34)).drew fun e w' => (∃ o : List UInt8, e = .returned (.string ⟨o.toArray⟩) ∧ o.all sg = true ∧ 1 ≤ o.length ∧ o.length ≤ 16) ∧ Below (W1.alloc (.cells #[.string ⟨t.itm.tag.toArray⟩, .string ⟨t.itm.qual.toArray⟩, .string ⟨t.itm.text.toArray⟩, .string ⟨t.itm.name.toArray⟩, .slice ka t.kids.length kcap] 34)).drew.heap.size (W1.alloc (.cells #[.string ⟨t.itm.tag.toArray⟩, .string ⟨t.itm.qual.toArray⟩, .string ⟨t.itm.text.toArray⟩, .string ⟨t.itm.name.toArray⟩, .slice ka t.kids.length kcap] 34)).drew w') := hide (great_any t.itm.name 1 16 (W1.alloc (.cells #[.string ⟨t.itm.tag.toArray⟩, .string ⟨t.itm.qual.toArray⟩, .string ⟨t.itm.text.toArray⟩, .string ⟨t.itm.name.toArray⟩, .slice ka t.kids.length kcap] 34)).drew HTIO.out.name (by omega) (by omega))
                have HIH := hide (fun (W : World) (hW : Below w0.heap.size w0 W) (hB : Bk W p #[.int .i64 (n2 : Int)] 3) => IH.out (wts t.kids) (by have := HWE.out; have := HWA.out; have := HWL.out; omega) (d + 1) t.kids (.slice ka t.kids.length kcap) n2 W (Nat.le_refl _) (by have := HWE.out; have := HWA.out; have := HWL.out; omega) (by omega) (by omega) HKV.out hW hB)
                have hcast : (((d + 1 : Nat)) : Int) = IntKind.i64.wrap ((d : Int) + 1) := by rw [IntKind.wrap_i64]; omega
                rw [hcast] at HIH
                clear hcast
                have hd9 : (d : Int) + 1 ≤ 9 := by omega

                go_wp2_with fail
                refine begins_held (S := fun W => W.cell? ⟨W1.heap.size, 3, none⟩ = some (.string ⟨t.itm.name.toArray⟩) ∧ W.cell? ⟨W1.heap.size, 4, none⟩ = some (.slice ka t.kids.length kcap)) 14 #[false, false, false, false, false, false, false, false, false, false, false, false, false, false] (by kernel_rfl) (by kernel_rfl) (by kernel_rfl) ?hS0 (fun hHeld => ?_)
                case hS0 => exact ⟨XX.out.name trivial, XX.out.items trivial⟩
                refine tk (v := ?_) 0 47 #[true, false, false, false, false, false, false, false, false, false, false, false, false, false] rfl rfl (by kernel_rfl) (by kernel_rfl) (by kernel_rfl) (fun _ _ _ h => h) (by kernel_rfl) (by rfl) ?hy hHeld ?_
                case hy => rintro W ⟨hS3, hS4⟩; first | (go_simp; done) | (go_simp; with_reducible rfl)
                simp only [List.setIfInBounds_toArray, List.set_cons_zero, List.set_cons_succ]
                refine tk (v := ?_) 1 48 #[true, true, false, false, false, false, false, false, false, false, false, false, false, false] rfl rfl (by kernel_rfl) (by kernel_rfl) (by kernel_rfl) (fun _ _ _ h => h) (by kernel_rfl) (by rfl) ?hy hHeld ?_
                case hy => rintro W ⟨hS3, hS4⟩; first | (go_simp; done) | (go_simp; with_reducible rfl)
                simp only [List.setIfInBounds_toArray, List.set_cons_zero, List.set_cons_succ]
                refine tk (v := ?_) 2 49 #[true, true, true, false, false, false, false, false, false, false, false, false, false, false] rfl rfl (by kernel_rfl) (by kernel_rfl) (by kernel_rfl) (fun _ _ _ h => h) (by kernel_rfl) (by rfl) ?hy hHeld ?_
                case hy => rintro W ⟨hS3, hS4⟩; first | (go_simp; done) | (go_simp; with_reducible rfl)
                simp only [List.setIfInBounds_toArray, List.set_cons_zero, List.set_cons_succ]
                refine tk (v := ?_) 4 51 #[true, true, true, false, true, false, false, false, false, false, false, false, false, false] rfl rfl (by kernel_rfl) (by kernel_rfl) (by kernel_rfl) (fun _ _ _ h => h) (by kernel_rfl) (by rfl) ?hy hHeld ?_
                case hy => rintro W ⟨hS3, hS4⟩; first | (go_simp; done) | (go_simp; with_reducible rfl)
                simp only [List.setIfInBounds_toArray, List.set_cons_zero, List.set_cons_succ]
                refine tk (v := ?_) 5 52 #[true, true, true, false, true, true, false, false, false, false, false, false, false, false] rfl rfl (by kernel_rfl) (by kernel_rfl) (by kernel_rfl) (fun _ _ _ h => h) (by kernel_rfl) (by rfl) ?hy hHeld ?_
                case hy => rintro W ⟨hS3, hS4⟩; first | (go_simp; done) | (go_simp; with_reducible rfl)
                simp only [List.setIfInBounds_toArray, List.set_cons_zero, List.set_cons_succ]
                refine tk (v := ?_) 6 53 #[true, true, true, false, true, true, true, false, false, false, false, false, false, false] rfl rfl (by kernel_rfl) (by kernel_rfl) (by kernel_rfl) (fun _ _ _ h => h) (by kernel_rfl) (by rfl) ?hy hHeld ?_
                case hy => rintro W ⟨hS3, hS4⟩; first | (go_simp; done) | (go_simp; with_reducible rfl)
                simp only [List.setIfInBounds_toArray, List.set_cons_zero, List.set_cons_succ]
                refine tk (v := ?_) 7 54 #[true, true, true, false, true, true, true, true, false, false, false, false, false, false] rfl rfl (by kernel_rfl) (by kernel_rfl) (by kernel_rfl) (fun _ _ _ h => h) (by kernel_rfl) (by rfl) ?hy hHeld ?_
                case hy => rintro W ⟨hS3, hS4⟩; first | (go_simp; done) | (go_simp; with_reducible rfl)
                simp only [List.setIfInBounds_toArray, List.set_cons_zero, List.set_cons_succ]
                refine tk (v := ?_) 8 55 #[true, true, true, false, true, true, true, true, true, false, false, false, false, false] rfl rfl (by kernel_rfl) (by kernel_rfl) (by kernel_rfl) (fun _ _ _ h => h) (by kernel_rfl) (by rfl) ?hy hHeld ?_
                case hy => rintro W ⟨hS3, hS4⟩; first | (go_simp; done) | (go_simp; with_reducible rfl)
                simp only [List.setIfInBounds_toArray, List.set_cons_zero, List.set_cons_succ]
                refine one_ready 3 #[true, true, true, true, true, true, true, true, true, false, false, false, false, false] rfl (by kernel_rfl) (by kernel_rfl) (by rfl) (fun K hK => ?_)
                go_simp
                refine HGN.out.mono ?_
                rintro e w4 ⟨⟨o, rfl, ho1, ho2, ho3⟩, hb4⟩
                have B4 := hide (BX.out.trans (hb4.mono BX.out.size))
                have X4 : Hid (Ix w4 W1.heap.size t.itm (.slice ka t.kids.length kcap)) := hide ((hb4.block W1.heap.size (Ix.lt XX.out)).trans XX.out)
                have S4 := hide (S1.out.later B4.out)
                have HNB : Hid (nameB o = true) := hide (by unfold nameB; rw [ho1, decide_eq_true ho2, decide_eq_true ho3]; rfl)
                have HOL : Hid (o.length ≤ 16) := hide ho3
                clear hb4 ho1 ho2 ho3 HGN
                go_wp2_with fail
                refine hK.out _ _ ⟨X4.out.name trivial, X4.out.items trivial⟩ (fun hHeld => ?_)
                clear hK K
                refine one_ready 9 #[true, true, true, true, true, true, true, true, true, true, false, false, false, false] rfl (by kernel_rfl) (by kernel_rfl) (by rfl) (fun K hK => ?_)
                go_simp
                refine (HIH.out w4 (Mv.below HW0.out S4.out.mv HW0.out.size hp0 hp0) S4.out.left).mono ?_
                rintro e w5 ⟨qa, qc, mk, n3, rfl, _, hpt, herr, hle, hbk, hlen, hcnt, hmv⟩
                have HPK := hide hpt
                have HEK := hide herr
                have HLE := hide hle
                have HLK := hide hlen
                have X5 : Hid (Ix w5 W1.heap.size t.itm (.slice ka t.kids.length kcap)) := hide ((hmv.block W1.heap.size (Ix.lt X4.out) (by have := HS.out.mv.size; have := HP.out; have := HWZ.out; omega) (by have := HS.out.mv.size; have := HP.out; have := HWZ.out; omega)).trans X4.out)
                have S5 := hide (S4.out.moved HP.out hmv hbk hle)
                have HSZ4 : Hid (wr.heap.size ≤ w4.heap.size) := by show _ ≤ _; have := B4.out.size; have := HWZ.out; omega
                have HSZ5 : Hid (w4.heap.size ≤ w5.heap.size) := hide hmv.size
                clear hpt herr hle hbk hlen hcnt hmv HIH
                go_wp2_with fail
                refine hK.out _ _ ⟨X5.out.name trivial, X5.out.items trivial⟩ (fun hHeld => ?_)
                clear hK K
                refine tk (v := ?_) 10 57 #[true, true, true, true, true, true, true, true, true, true, true, false, false, false] rfl rfl (by kernel_rfl) (by kernel_rfl) (by kernel_rfl) (fun _ _ _ h => h) (by kernel_rfl) (by rfl) ?hy hHeld ?_
                case hy => rintro W ⟨hS3, hS4⟩; first | (go_simp; done) | (go_simp; with_reducible rfl)
                simp only [List.setIfInBounds_toArray, List.set_cons_zero, List.set_cons_succ]
                refine one_ready 11 #[true, true, true, true, true, true, true, true, true, true, true, true, false, false] rfl (by kernel_rfl) (by kernel_rfl) (by rfl) (fun K hK => ?_)
                go_simp
                have BA6 := hide ((Below.refl w5.heap.size w5).alloc (Nat.le_refl _) (.cells #[.string ⟨#[]⟩, .string ⟨#[]⟩, .string ⟨#[]⟩, .string ⟨o.toArray⟩, .slice qa mk.length qc] 34))
                have X6 := hide (X5.out.later BA6.out)
                have S6 := hide (S5.out.later BA6.out)
                refine hK.out _ _ ⟨X6.out.name trivial, X6.out.items trivial⟩ (fun hHeld => ?_)
                clear hK K
                obtain ⟨v', w7, hrun, hown', hgrow, hfresh⟩ := run_append_itm (w5.alloc (.cells #[.string ⟨#[]⟩, .string ⟨#[]⟩, .string ⟨#[]⟩, .string ⟨o.toArray⟩, .slice qa mk.length qc] 34)) 22 w.heap.size u7 m.length (ic m V) S6.out.iw.row w5.heap.size 1 1 [.string ⟨#[]⟩, .string ⟨#[]⟩, .string ⟨#[]⟩, .string ⟨o.toArray⟩, .slice qa mk.length qc] rfl (by decide) (fun j u hj => by
                  match j, hj with
                  | 0, hj => simp at hj; subst hj; simp [Addr.add]
                  | 1, hj => simp at hj; subst hj; simp [Addr.add]
                  | 2, hj => simp at hj; subst hj; simp [Addr.add]
                  | 3, hj => simp at hj; subst hj; simp [Addr.add]
                  | 4, hj => simp at hj; subst hj; simp [Addr.add]) (by intro u hu; simp at hu; (repeat' (first | (rcases hu with rfl | hu) | subst hu)) <;> rfl) (by have := S6.out.mv.size; simpa using this) (by have := S6.out.cnt; omega)
                have HGRW := hide hgrow
                have HFRS := hide hfresh
                have HOWN := hide hown'
                have X7 : Hid (Ix w7 W1.heap.size t.itm (.slice ka t.kids.length kcap)) := hide ((hgrow.block W1.heap.size (Ix.lt X6.out) (fun e => by have := (own_ltq HS.out.iw.row _ e.symm).2; have := HWZ.out; omega)).trans X6.out)
                clear hown' hgrow hfresh
                refine one_ready 12 #[true, true, true, true, true, true, true, true, true, true, true, true, true, false] rfl (by kernel_rfl) (by kernel_rfl) (by rfl) (fun K hK => ?_)
                refine op_append_itm _ _ rfl u7 _ 1 1 rfl rfl v' w7 hrun ?_
                (try simp only [Act.put, List.setIfInBounds_toArray])
                refine hK.out _ _ ⟨X7.out.name trivial, X7.out.items trivial⟩ (fun hHeld => ?_)
                clear hK K hrun
                have HEB : Hid (errI (.mk ⟨[], [], [], o⟩ mk) d = 0) := hide (err_block hd8 HNB.out (by have := HEK.out; rw [show (((d + 1 : Nat)) : Int) = (d : Int) + 1 by omega] at this; exact this))
                have HTL : Hid ((txtI (.mk ⟨[], [], [], o⟩ mk)).length = 12 + 2 * o.length + (txtL mk).length) := hide (by rw [txtI_eq]; simp [Tr.itm, Tr.kids, bO, bC]; omega)
                have S8 := hide (S6.out.snoc (a := .mk ⟨[], [], [], o⟩ mk) (u := .slice qa mk.length qc) (lo := w4.heap.size) HP.out HOWN.out HGRW.out HFRS.out (by have := HS.out.mv.size; have := HSZ4.out; omega) (fun x hx => by have := (own_ltq HS.out.iw.row x hx).2; have := HSZ4.out; omega) (PT_kept (fun g hg hg2 => BA6.out.block g hg2) BA6.out.size (fun g hg hg2 => ⟨hg.1, Nat.lt_of_lt_of_le hg2 BA6.out.size⟩) _ _ _ (Nat.le_refl _) HPK.out) HEB.out (by have h1 := HS.out.len; have h2 := HTL.out; have h3 := HOL.out; have h4 := HLK.out; have h5 := HS.out.cnt; have h6 := HLE.out; omega) (by have := HS.out.cnt; have := HLE.out; omega))
                refine tk (v := ?_) 13 7 #[true, true, true, true, true, true, true, true, true, true, true, true, true, true] rfl rfl (by kernel_rfl) (by kernel_rfl) (by kernel_rfl) (fun _ _ _ h => h) (by kernel_rfl) (by rfl) ?hy hHeld ?_
                case hy => rintro W ⟨hS3, hS4⟩; first | (go_simp; done) | (go_simp; with_reducible rfl)
                simp only [List.setIfInBounds_toArray, List.set_cons_zero, List.set_cons_succ]
                refine wpAnyH_done (by kernel_rfl) ?_ _
                go_wp2_with fail
                go_roundw
                case rel => exact ⟨k + 1, n3, _, _, by omega, by go_num, S8⟩
                case measure => simp [intOf]; omega
              · have hd8I : decide ((d : Int) < 8) = false := decide_eq_false (by omega)
                obtain ⟨N, hN, HNN⟩ : ∃ N : Nat, wrap64 ((t.itm.tag.length : Int) + wrap64 (7 * (t.itm.text.length : Int))) = (N : Int) ∧ Hid (N ≤ 8796093022208) := num_of t.itm.tag.length t.itm.text.length (by have := HWE.out; have := HWA.out; have := HWL.out; omega) (by have := HWE.out; have := HWA.out; have := HWL.out; omega)
                obtain ⟨M, hM⟩ : ∃ M : Nat, wrap64 ((N : Int) / 10) = (M : Int) := ⟨N / 10, by rw [wrap_small _ (by omega) (by have := HNN.out; omega)]; omega⟩
                obtain ⟨x, hxv, HXD⟩ : ∃ x : UInt8, 48 + (N : Int) % 10 = (x.toNat : Int) ∧ Hid (isDg x = true) := dig_of _ (by omega) (by omega)
                obtain ⟨y, hyv, HYD⟩ : ∃ y : UInt8, 48 + (M : Int) % 10 = (y.toNat : Int) ∧ Hid (isDg y = true) := dig_of _ (by omega) (by omega)
                obtain ⟨tg, HTGE⟩ : ∃ tg : List UInt8, Hid (tg = [x, y]) := ⟨_, hide rfl⟩
                have hcv2 : (convert 43 9 (.slice (some ⟨W1.heap.size + 1, 0, none⟩) 2 2)).run Try.prog ((W1.alloc (.cells #[.string ⟨t.itm.tag.toArray⟩, .string ⟨t.itm.qual.toArray⟩, .string ⟨t.itm.text.toArray⟩, .string ⟨t.itm.name.toArray⟩, .slice ka t.kids.length kcap] 34)).alloc (.cells #[.int .u8 (x.toNat : Int), .int .u8 (y.toNat : Int)] 5)) = .ok (.string ⟨tg.toArray⟩) ((W1.alloc (.cells #[.string ⟨t.itm.tag.toArray⟩, .string ⟨t.itm.qual.toArray⟩, .string ⟨t.itm.text.toArray⟩, .string ⟨t.itm.name.toArray⟩, .slice ka t.kids.length kcap] 34)).alloc (.cells #[.int .u8 (x.toNat : Int), .int .u8 (y.toNat : Int)] 5)) := by
                  rw [HTGE.out]
                  exact run_convert_bytes_back (P := Try.prog) ((W1.alloc (.cells #[.string ⟨t.itm.tag.toArray⟩, .string ⟨t.itm.qual.toArray⟩, .string ⟨t.itm.text.toArray⟩, .string ⟨t.itm.name.toArray⟩, .slice ka t.kids.length kcap] 34)).alloc (.cells #[.int .u8 (x.toNat : Int), .int .u8 (y.toNat : Int)] 5)) 43 9 5 ⟨W1.heap.size + 1, 0, none⟩ 2 [x, y] Try.underlying43 Try.underlying5 Try.underlying9 (fun j hj => by
                    match j, hj with
                    | 0, _ => simp [Addr.add]
                    | 1, _ => simp [Addr.add])
                by_cases h3 : N % 3 = 0
                · have h3I : decide (0 < (N : Int) % 3) = false := decide_eq_false (by omega)
                  have HTG : Hid (tagB tg = true) := by rw [HTGE.out]; exact hide (tag_of HXD.out HYD.out)
                  have e16 : (tg == [49, 54, 82]) = false := by rw [HTGE.out]; exact beq_eq_false_iff_ne.2 (fun e => by simp at e)
                  have e17 : (tg == [49, 54, 83]) = false := by rw [HTGE.out]; exact beq_eq_false_iff_ne.2 (fun e => by simp at e)
                  clear h3
                  have BY : Hid (Below W1.heap.size W1 (((W1.alloc (.cells #[.string ⟨t.itm.tag.toArray⟩, .string ⟨t.itm.qual.toArray⟩, .string ⟨t.itm.text.toArray⟩, .string ⟨t.itm.name.toArray⟩, .slice ka t.kids.length kcap] 34)).alloc (.cells #[.int .u8 (x.toNat : Int), .int .u8 (y.toNat : Int)] 5)).alloc (.cells #[.string ⟨tg.toArray⟩, .string ⟨#[]⟩, .string ⟨#[]⟩, .string ⟨#[]⟩, .slice none 0 0] 34))) := hide ((((((Below.refl W1.heap.size W1).alloc (Nat.le_refl _) _)).alloc (by simp) _)).alloc (by simp; omega) (.cells #[.string ⟨tg.toArray⟩, .string ⟨#[]⟩, .string ⟨#[]⟩, .string ⟨#[]⟩, .slice none 0 0] 34))
                  have YY : Hid (Ix (((W1.alloc (.cells #[.string ⟨t.itm.tag.toArray⟩, .string ⟨t.itm.qual.toArray⟩, .string ⟨t.itm.text.toArray⟩, .string ⟨t.itm.name.toArray⟩, .slice ka t.kids.length kcap] 34)).alloc (.cells #[.int .u8 (x.toNat : Int), .int .u8 (y.toNat : Int)] 5)).alloc (.cells #[.string ⟨tg.toArray⟩, .string ⟨#[]⟩, .string ⟨#[]⟩, .string ⟨#[]⟩, .slice none 0 0] 34)) (W1.heap.size + 2) ⟨tg, [], [], []⟩ (.slice none 0 0)) := hide (alloc3_newt W1 _ _ _)
                  have XY : Hid (Ix (((W1.alloc (.cells #[.string ⟨t.itm.tag.toArray⟩, .string ⟨t.itm.qual.toArray⟩, .string ⟨t.itm.text.toArray⟩, .string ⟨t.itm.name.toArray⟩, .slice ka t.kids.length kcap] 34)).alloc (.cells #[.int .u8 (x.toNat : Int), .int .u8 (y.toNat : Int)] 5)).alloc (.cells #[.string ⟨tg.toArray⟩, .string ⟨#[]⟩, .string ⟨#[]⟩, .string ⟨#[]⟩, .slice none 0 0] 34)) W1.heap.size t.itm (.slice ka t.kids.length kcap)) := hide (alloc_block (alloc_block (alloc_new W1 _)))
                  cases hqe : t.itm.qual.isEmpty with
                  | true =>
                    have qq := str_eq_t hqe
                    have qq1 : (t.itm.qual == []) = true := beq_iff_eq.2 (List.isEmpty_iff.1 hqe)
                    have qq0 := bytes_nil_t hqe
                    have HTX := hide (text_any t.itm.text false (((W1.alloc (.cells #[.string ⟨t.itm.tag.toArray⟩, .string ⟨t.itm.qual.toArray⟩, .string ⟨t.itm.text.toArray⟩, .string ⟨t.itm.name.toArray⟩, .slice ka t.kids.length kcap] 34)).alloc (.cells #[.int .u8 (x.toNat : Int), .int .u8 (y.toNat : Int)] 5)).alloc (.cells #[.string ⟨tg.toArray⟩, .string ⟨#[]⟩, .string ⟨#[]⟩, .string ⟨#[]⟩, .slice none 0 0] 34)) HTIO.out.text)
                    clear hqe
                    go_wp2_with fail
                    refine HTX.out.mono ?_
                    rintro e w6 ⟨⟨x', rfl, hx1, hx2, hx30, hx4⟩, hb6⟩
                    have hx3 : ([] : List UInt8) = [] → hdB x' = false := fun _ => hx30 (by first | exact rfl | trivial)
                    have Y6 := hide (YY.out.later hb6)
                    have B6 := hide (BY.out.trans (hb6.mono BY.out.size))
                    clear hb6 hx30 HTX qq qq1 qq0
                    have Y7 : Hid (Ix (w6.setCell ⟨W1.heap.size + 2, 2, none⟩ (.string ⟨x'.toArray⟩)) (W1.heap.size + 2) ⟨tg, [], x', []⟩ (.slice none 0 0)) := hide (Y6.out.putText x')
                    have B7 := hide (B6.out.setCell (p := ⟨W1.heap.size + 2, 2, none⟩) (by simp) (.string ⟨x'.toArray⟩))
                    have HG : Hid (errI (.mk ⟨tg, [], x', []⟩ []) d = 0) := hide (field_good HTG.out (Or.inl rfl) hx1 hx2 hx3)
                    have HGL : Hid ((txtI (.mk ⟨tg, [], x', []⟩ [])).length ≤ 240) := hide (field_len HTG.out (Or.inl rfl) hx4)
                    have zf := Y6.out.free2
                    have zt := Y6.out.text trivial
                    have hYl : W1.heap.size + 2 < w6.heap.size := Y6.out.lt
                    obtain ⟨w7, hW7⟩ : ∃ w7, w6.setCell ⟨W1.heap.size + 2, 2, none⟩ (.string ⟨x'.toArray⟩) = w7 := ⟨_, rfl⟩
                    rw [hW7] at Y7 B7
                    have S7 := hide (S1.out.later B7.out)
                    have HSZ : Hid (wr.heap.size ≤ w7.heap.size) := by show _ ≤ _; have := B7.out.size; have := HWZ.out; omega
                    clear hx1 hx2 hx3 hx4
                    go_wp2_with (first
                      | (refine wpList_load_row rfl 34 (.tmp 12) rfl (W1.heap.size + 2) rfl _ (iC ⟨tg, [], x', []⟩ (.slice none 0 0)) _ _ Y7.out Try.underlying34 rfl Try.sizeItm ?_; unfold iC)
                      | (at_builtin; refine wp_append_itm rfl _ _ rfl w.heap.size _ m.length _ rfl (S7.out.iw.row.alloc _) _ 1 1 [.string ⟨tg.toArray⟩, .string ⟨#[]⟩, .string ⟨x'.toArray⟩, .string ⟨#[]⟩, .slice none 0 0] rfl rfl (by decide) ?c1 ?c2 ?c3 ?c4 ?_))
                    case c1 =>
                      intro j u hj
                      match j, hj with
                      | 0, hj => simp at hj; subst hj; simp [Addr.add]
                      | 1, hj => simp at hj; subst hj; simp [Addr.add]
                      | 2, hj => simp at hj; subst hj; simp [Addr.add]
                      | 3, hj => simp at hj; subst hj; simp [Addr.add]
                      | 4, hj => simp at hj; subst hj; simp [Addr.add]
                    case c2 => intro u hu; simp at hu; (repeat' (first | (rcases hu with rfl | hu) | subst hu)) <;> rfl
                    case c3 => have := S7.out.mv.size; simp; omega
                    case c4 => have := S7.out.cnt; omega
                    intro v' w8 hown' hgrow hfresh
                    have BB := hide ((Below.refl w7.heap.size w7).alloc (Nat.le_refl _) (.cells #[.string ⟨tg.toArray⟩, .string ⟨#[]⟩, .string ⟨x'.toArray⟩, .string ⟨#[]⟩, .slice none 0 0] 34))
                    have S8 := hide ((S7.out.later BB.out).snoc (a := .mk ⟨tg, [], x', []⟩ []) (u := .slice none 0 0) (lo := w7.heap.size) HP.out hown' hgrow (fun x hx => (hfresh x hx).imp id (fun h => by simpa using h)) (by have := HS.out.mv.size; have := HSZ.out; omega) (fun x hx => by have := (own_ltq HS.out.iw.row x hx).2; have := HSZ.out; omega) ⟨none, 0, rfl, .inl rfl⟩ HG.out (by have h1 := HS.out.len; have h2 := HGL.out; have h3 := HS.out.cnt; omega) (by have := HS.out.cnt; omega))
                    clear hown' hgrow hfresh BB
                    go_wp2_with fail
                    go_roundw
                    case rel => exact ⟨k + 1, n2, _, _, by omega, by go_num, S8⟩
                    case measure => simp [intOf]; omega
                  | false =>
                    have qq := str_eq_f hqe
                    have qq1 : (t.itm.qual == []) = false := beq_eq_false_iff_ne.2 (fun e => by rw [e] at hqe; cases hqe)
                    have qq0 := bytes_nil_f hqe
                    have HGQ : Hid (Calls Try.prog 9 #[.string ⟨t.itm.qual.toArray⟩, .int .i64 4, .int .i64 4] (((W1.alloc (.cells #[.string ⟨t.itm.tag.toArray⟩, .string ⟨t.itm.qual.toArray⟩, .string ⟨t.itm.text.toArray⟩, .string ⟨t.itm.name.toArray⟩, .slice ka t.kids.length kcap] 34)).alloc (.cells #[.int .u8 (x.toNat : Int), .int .u8 (y.toNat : Int)] 5)).alloc (.cells #[.string ⟨tg.toArray⟩, .string ⟨#[]⟩, .string ⟨#[]⟩, .string ⟨#[]⟩, .slice none 0 0] 34)) fun e w' => (∃ o : List UInt8, e = .returned (.string ⟨o.toArray⟩) ∧ o.all sg = true ∧ 4 ≤ o.length ∧ o.length ≤ 4) ∧ Below (((W1.alloc (.cells #[.string ⟨t.itm.tag.toArray⟩, .string ⟨t.itm.qual.toArray⟩, .string ⟨t.itm.text.toArray⟩, .string ⟨t.itm.name.toArray⟩, .slice ka t.kids.length kcap] 34)).alloc (.cells #[.int .u8 (x.toNat : Int), .int .u8 (y.toNat : Int)] 5)).alloc (.cells #[.string ⟨tg.toArray⟩, .string ⟨#[]⟩, .string ⟨#[]⟩, .string ⟨#[]⟩, .slice none 0 0] 34)).heap.size (((W1.alloc (.cells #[.string ⟨t.itm.tag.toArray⟩, .string ⟨t.itm.qual.toArray⟩, .string ⟨t.itm.text.toArray⟩, .string ⟨t.itm.name.toArray⟩, .slice ka t.kids.length kcap] 34)).alloc (.cells #[.int .u8 (x.toNat : Int), .int .u8 (y.toNat : Int)] 5)).alloc (.cells #[.string ⟨tg.toArray⟩, .string ⟨#[]⟩, .string ⟨#[]⟩, .string ⟨#[]⟩, .slice none 0 0] 34)) w') := hide (great_any t.itm.qual 4 4 (((W1.alloc (.cells #[.string ⟨t.itm.tag.toArray⟩, .string ⟨t.itm.qual.toArray⟩, .string ⟨t.itm.text.toArray⟩, .string ⟨t.itm.name.toArray⟩, .slice ka t.kids.length kcap] 34)).alloc (.cells #[.int .u8 (x.toNat : Int), .int .u8 (y.toNat : Int)] 5)).alloc (.cells #[.string ⟨tg.toArray⟩, .string ⟨#[]⟩, .string ⟨#[]⟩, .string ⟨#[]⟩, .slice none 0 0] 34)) HTIO.out.qual (by omega) (by omega))
                    clear hqe
                    go_wp2_with fail
                    refine HGQ.out.mono ?_
                    rintro e w5 ⟨⟨qo, rfl, hq1, hq2, hq3⟩, hb5⟩
                    have HQ : Hid (qo = [] ∨ qualB qo = true) := hide (.inr (by unfold qualB; rw [hq1, decide_eq_true (show qo.length = 4 by omega)]; rfl))
                    have hqe2 : qo.isEmpty = false := by cases qo with
                      | nil => simp at hq2
                      | cons _ _ => rfl
                    have qq2 := str_eq_f hqe2
                    have qq3 : (qo == []) = false := beq_eq_false_iff_ne.2 (fun e => by rw [e] at hqe2; cases hqe2)
                    have qq4 := bytes_nil_f hqe2
                    have HQN : Hid (qo ≠ []) := hide (fun e => by rw [e] at hqe2; cases hqe2)
                    have Y5 := hide (YY.out.later hb5)
                    have B5 := hide (BY.out.trans (hb5.mono BY.out.size))
                    have X5 := hide (XY.out.later hb5)
                    have Y5b : Hid (Ix (w5.setCell ⟨W1.heap.size + 2, 1, none⟩ (.string ⟨qo.toArray⟩)) (W1.heap.size + 2) ⟨tg, qo, [], []⟩ (.slice none 0 0)) := hide (Y5.out.putQual qo)
                    have B5b := hide (B5.out.setCell (p := ⟨W1.heap.size + 2, 1, none⟩) (by simp) (.string ⟨qo.toArray⟩))
                    have X5b : Hid (Ix (w5.setCell ⟨W1.heap.size + 2, 1, none⟩ (.string ⟨qo.toArray⟩)) W1.heap.size t.itm (.slice ka t.kids.length kcap)) := hide ((Below.heap_setCell _ _ _ W1.heap.size (by show W1.heap.size ≠ W1.heap.size + 2; omega)).trans X5.out)
                    have z1 := Y5.out.free1
                    have z2 := Y5.out.qual trivial
                    have hYl5 : W1.heap.size + 2 < w5.heap.size := Y5.out.lt
                    obtain ⟨w5b, hW5⟩ : ∃ w5b, w5.setCell ⟨W1.heap.size + 2, 1, none⟩ (.string ⟨qo.toArray⟩) = w5b := ⟨_, rfl⟩
                    rw [hW5] at Y5b B5b X5b
                    have HTX := hide (text_any t.itm.text true w5b HTIO.out.text)
                    have z3 := X5b.out.text trivial
                    have z4 := Y5b.out.qual trivial
                    clear hb5 hq1 hq2 hq3 hqe2 HGQ qq qq1 qq0 Y5 X5 B5
                    go_wp2_with fail
                    refine HTX.out.mono ?_
                    rintro e w6 ⟨⟨x', rfl, hx1, hx2, hx30, hx4⟩, hb6⟩
                    have hx3 : qo = [] → hdB x' = false := fun e => absurd e HQN.out
                    have Y6 := hide (Y5b.out.later hb6)
                    have B6 := hide (B5b.out.trans (hb6.mono B5b.out.size))
                    clear hb6 hx30 HTX qq2 qq3 qq4 z1 z2 z3 z4 hW5
                    have Y7 : Hid (Ix (w6.setCell ⟨W1.heap.size + 2, 2, none⟩ (.string ⟨x'.toArray⟩)) (W1.heap.size + 2) ⟨tg, qo, x', []⟩ (.slice none 0 0)) := hide (Y6.out.putText x')
                    have B7 := hide (B6.out.setCell (p := ⟨W1.heap.size + 2, 2, none⟩) (by simp) (.string ⟨x'.toArray⟩))
                    have HG : Hid (errI (.mk ⟨tg, qo, x', []⟩ []) d = 0) := hide (field_good HTG.out HQ.out hx1 hx2 hx3)
                    have HGL : Hid ((txtI (.mk ⟨tg, qo, x', []⟩ [])).length ≤ 240) := hide (field_len HTG.out HQ.out hx4)
                    have zf := Y6.out.free2
                    have zt := Y6.out.text trivial
                    have hYl : W1.heap.size + 2 < w6.heap.size := Y6.out.lt
                    obtain ⟨w7, hW7⟩ : ∃ w7, w6.setCell ⟨W1.heap.size + 2, 2, none⟩ (.string ⟨x'.toArray⟩) = w7 := ⟨_, rfl⟩
                    rw [hW7] at Y7 B7
                    have S7 := hide (S1.out.later B7.out)
                    have HSZ : Hid (wr.heap.size ≤ w7.heap.size) := by show _ ≤ _; have := B7.out.size; have := HWZ.out; omega
                    clear hx1 hx2 hx3 hx4
                    go_wp2_with (first
                      | (refine wpList_load_row rfl 34 (.tmp 12) rfl (W1.heap.size + 2) rfl _ (iC ⟨tg, qo, x', []⟩ (.slice none 0 0)) _ _ Y7.out Try.underlying34 rfl Try.sizeItm ?_; unfold iC)
                      | (at_builtin; refine wp_append_itm rfl _ _ rfl w.heap.size _ m.length _ rfl (S7.out.iw.row.alloc _) _ 1 1 [.string ⟨tg.toArray⟩, .string ⟨qo.toArray⟩, .string ⟨x'.toArray⟩, .string ⟨#[]⟩, .slice none 0 0] rfl rfl (by decide) ?c1 ?c2 ?c3 ?c4 ?_))
                    case c1 =>
                      intro j u hj
                      match j, hj with
                      | 0, hj => simp at hj; subst hj; simp [Addr.add]
                      | 1, hj => simp at hj; subst hj; simp [Addr.add]
                      | 2, hj => simp at hj; subst hj; simp [Addr.add]
                      | 3, hj => simp at hj; subst hj; simp [Addr.add]
                      | 4, hj => simp at hj; subst hj; simp [Addr.add]
                    case c2 => intro u hu; simp at hu; (repeat' (first | (rcases hu with rfl | hu) | subst hu)) <;> rfl
                    case c3 => have := S7.out.mv.size; simp; omega
                    case c4 => have := S7.out.cnt; omega
                    intro v' w8 hown' hgrow hfresh
                    have BB := hide ((Below.refl w7.heap.size w7).alloc (Nat.le_refl _) (.cells #[.string ⟨tg.toArray⟩, .string ⟨qo.toArray⟩, .string ⟨x'.toArray⟩, .string ⟨#[]⟩, .slice none 0 0] 34))
                    have S8 := hide ((S7.out.later BB.out).snoc (a := .mk ⟨tg, qo, x', []⟩ []) (u := .slice none 0 0) (lo := w7.heap.size) HP.out hown' hgrow (fun x hx => (hfresh x hx).imp id (fun h => by simpa using h)) (by have := HS.out.mv.size; have := HSZ.out; omega) (fun x hx => by have := (own_ltq HS.out.iw.row x hx).2; have := HSZ.out; omega) ⟨none, 0, rfl, .inl rfl⟩ HG.out (by have h1 := HS.out.len; have h2 := HGL.out; have h3 := HS.out.cnt; omega) (by have := HS.out.cnt; omega))
                    clear hown' hgrow hfresh BB
                    go_wp2_with fail
                    go_roundw
                    case rel => exact ⟨k + 1, n2, _, _, by omega, by go_num, S8⟩
                    case measure => simp [intOf]; omega
                · have h3I : decide (0 < (N : Int) % 3) = true := decide_eq_true (by omega)
                  obtain ⟨z, hzv, HZC⟩ : ∃ z : UInt8, 65 + (N : Int) % 26 = (z.toNat : Int) ∧ Hid (isCp z = true) := cap_of _ (by omega) (by omega)
                  have hcv3 : (convert 43 9 (.slice (some ⟨W1.heap.size + 2, 0, none⟩) 1 1)).run Try.prog (((W1.alloc (.cells #[.string ⟨t.itm.tag.toArray⟩, .string ⟨t.itm.qual.toArray⟩, .string ⟨t.itm.text.toArray⟩, .string ⟨t.itm.name.toArray⟩, .slice ka t.kids.length kcap] 34)).alloc (.cells #[.int .u8 (x.toNat : Int), .int .u8 (y.toNat : Int)] 5)).alloc (.cells #[.int .u8 (z.toNat : Int)] 5)) = .ok (.string ⟨#[z]⟩) (((W1.alloc (.cells #[.string ⟨t.itm.tag.toArray⟩, .string ⟨t.itm.qual.toArray⟩, .string ⟨t.itm.text.toArray⟩, .string ⟨t.itm.name.toArray⟩, .slice ka t.kids.length kcap] 34)).alloc (.cells #[.int .u8 (x.toNat : Int), .int .u8 (y.toNat : Int)] 5)).alloc (.cells #[.int .u8 (z.toNat : Int)] 5)) :=
                    run_convert_bytes_back (P := Try.prog) (((W1.alloc (.cells #[.string ⟨t.itm.tag.toArray⟩, .string ⟨t.itm.qual.toArray⟩, .string ⟨t.itm.text.toArray⟩, .string ⟨t.itm.name.toArray⟩, .slice ka t.kids.length kcap] 34)).alloc (.cells #[.int .u8 (x.toNat : Int), .int .u8 (y.toNat : Int)] 5)).alloc (.cells #[.int .u8 (z.toNat : Int)] 5)) 43 9 5 ⟨W1.heap.size + 2, 0, none⟩ 1 [z] Try.underlying43 Try.underlying5 Try.underlying9 (fun j hj => by
                      match j, hj with
                      | 0, _ =>
                        show World.cell? _ ⟨W1.heap.size + 2, 0, none⟩ = _
                        rw [cell_of_row _ _ 0 _ _ _ (alloc3_newt W1 _ _ _)]; rfl)
                  have hcv4 : (convert 43 9 (.slice (some ⟨W1.heap.size + 1 + 1, 0, none⟩) 1 1)).run Try.prog (((W1.alloc (.cells #[.string ⟨t.itm.tag.toArray⟩, .string ⟨t.itm.qual.toArray⟩, .string ⟨t.itm.text.toArray⟩, .string ⟨t.itm.name.toArray⟩, .slice ka t.kids.length kcap] 34)).alloc (.cells #[.int .u8 (x.toNat : Int), .int .u8 (y.toNat : Int)] 5)).alloc (.cells #[.int .u8 (z.toNat : Int)] 5)) = .ok (.string ⟨#[z]⟩) (((W1.alloc (.cells #[.string ⟨t.itm.tag.toArray⟩, .string ⟨t.itm.qual.toArray⟩, .string ⟨t.itm.text.toArray⟩, .string ⟨t.itm.name.toArray⟩, .slice ka t.kids.length kcap] 34)).alloc (.cells #[.int .u8 (x.toNat : Int), .int .u8 (y.toNat : Int)] 5)).alloc (.cells #[.int .u8 (z.toNat : Int)] 5)) := hcv3
                  obtain ⟨tk, happ, HTK⟩ : ∃ tk : List UInt8, (⟨tg.toArray⟩ : ByteArray) ++ ⟨#[z]⟩ = ⟨tk.toArray⟩ ∧ Hid (tk = [x, y, z]) := ⟨tg ++ [z], by apply ByteArray.ext; simp, hide (by rw [HTGE.out]; rfl)⟩
                  have htk3 : tg.length = 2 := by rw [HTGE.out]; rfl
                  clear h3
                  by_cases hr : tk = r16
                  · have e16 : (tk == [49, 54, 82]) = true := beq_iff_eq.2 hr
                    have HTG : Hid (tagB [49, 54, 84] = true) := hide tag_t
                    clear hr
                    have BY : Hid (Below W1.heap.size W1 ((((W1.alloc (.cells #[.string ⟨t.itm.tag.toArray⟩, .string ⟨t.itm.qual.toArray⟩, .string ⟨t.itm.text.toArray⟩, .string ⟨t.itm.name.toArray⟩, .slice ka t.kids.length kcap] 34)).alloc (.cells #[.int .u8 (x.toNat : Int), .int .u8 (y.toNat : Int)] 5)).alloc (.cells #[.int .u8 (z.toNat : Int)] 5)).alloc (.cells #[.string ⟨([49, 54, 84] : List UInt8).toArray⟩, .string ⟨#[]⟩, .string ⟨#[]⟩, .string ⟨#[]⟩, .slice none 0 0] 34))) := hide (((((((Below.refl W1.heap.size W1).alloc (Nat.le_refl _) _)).alloc (by simp) _).alloc (by simp; omega) _)).alloc (by simp; omega) (.cells #[.string ⟨([49, 54, 84] : List UInt8).toArray⟩, .string ⟨#[]⟩, .string ⟨#[]⟩, .string ⟨#[]⟩, .slice none 0 0] 34))
                    have YY : Hid (Ix ((((W1.alloc (.cells #[.string ⟨t.itm.tag.toArray⟩, .string ⟨t.itm.qual.toArray⟩, .string ⟨t.itm.text.toArray⟩, .string ⟨t.itm.name.toArray⟩, .slice ka t.kids.length kcap] 34)).alloc (.cells #[.int .u8 (x.toNat : Int), .int .u8 (y.toNat : Int)] 5)).alloc (.cells #[.int .u8 (z.toNat : Int)] 5)).alloc (.cells #[.string ⟨([49, 54, 84] : List UInt8).toArray⟩, .string ⟨#[]⟩, .string ⟨#[]⟩, .string ⟨#[]⟩, .slice none 0 0] 34)) (W1.heap.size + 3) ⟨([49, 54, 84] : List UInt8), [], [], []⟩ (.slice none 0 0)) := hide (alloc4_newt W1 _ _ _ _)
                    have XY : Hid (Ix ((((W1.alloc (.cells #[.string ⟨t.itm.tag.toArray⟩, .string ⟨t.itm.qual.toArray⟩, .string ⟨t.itm.text.toArray⟩, .string ⟨t.itm.name.toArray⟩, .slice ka t.kids.length kcap] 34)).alloc (.cells #[.int .u8 (x.toNat : Int), .int .u8 (y.toNat : Int)] 5)).alloc (.cells #[.int .u8 (z.toNat : Int)] 5)).alloc (.cells #[.string ⟨([49, 54, 84] : List UInt8).toArray⟩, .string ⟨#[]⟩, .string ⟨#[]⟩, .string ⟨#[]⟩, .slice none 0 0] 34)) W1.heap.size t.itm (.slice ka t.kids.length kcap)) := hide (alloc_block (alloc_block (alloc_block (alloc_new W1 _))))
                    cases hqe : t.itm.qual.isEmpty with
                    | true =>
                      have qq := str_eq_t hqe
                      have qq1 : (t.itm.qual == []) = true := beq_iff_eq.2 (List.isEmpty_iff.1 hqe)
                      have qq0 := bytes_nil_t hqe
                      have HTX := hide (text_any t.itm.text false ((((W1.alloc (.cells #[.string ⟨t.itm.tag.toArray⟩, .string ⟨t.itm.qual.toArray⟩, .string ⟨t.itm.text.toArray⟩, .string ⟨t.itm.name.toArray⟩, .slice ka t.kids.length kcap] 34)).alloc (.cells #[.int .u8 (x.toNat : Int), .int .u8 (y.toNat : Int)] 5)).alloc (.cells #[.int .u8 (z.toNat : Int)] 5)).alloc (.cells #[.string ⟨([49, 54, 84] : List UInt8).toArray⟩, .string ⟨#[]⟩, .string ⟨#[]⟩, .string ⟨#[]⟩, .slice none 0 0] 34)) HTIO.out.text)
                      clear hqe
                      go_wp2_with fail
                      refine HTX.out.mono ?_
                      rintro e w6 ⟨⟨x', rfl, hx1, hx2, hx30, hx4⟩, hb6⟩
                      have hx3 : ([] : List UInt8) = [] → hdB x' = false := fun _ => hx30 (by first | exact rfl | trivial)
                      have Y6 := hide (YY.out.later hb6)
                      have B6 := hide (BY.out.trans (hb6.mono BY.out.size))
                      clear hb6 hx30 HTX qq qq1 qq0
                      have Y7 : Hid (Ix (w6.setCell ⟨W1.heap.size + 3, 2, none⟩ (.string ⟨x'.toArray⟩)) (W1.heap.size + 3) ⟨([49, 54, 84] : List UInt8), [], x', []⟩ (.slice none 0 0)) := hide (Y6.out.putText x')
                      have B7 := hide (B6.out.setCell (p := ⟨W1.heap.size + 3, 2, none⟩) (by simp) (.string ⟨x'.toArray⟩))
                      have HG : Hid (errI (.mk ⟨([49, 54, 84] : List UInt8), [], x', []⟩ []) d = 0) := hide (field_good HTG.out (Or.inl rfl) hx1 hx2 hx3)
                      have HGL : Hid ((txtI (.mk ⟨([49, 54, 84] : List UInt8), [], x', []⟩ [])).length ≤ 240) := hide (field_len HTG.out (Or.inl rfl) hx4)
                      have zf := Y6.out.free2
                      have zt := Y6.out.text trivial
                      have hYl : W1.heap.size + 3 < w6.heap.size := Y6.out.lt
                      obtain ⟨w7, hW7⟩ : ∃ w7, w6.setCell ⟨W1.heap.size + 3, 2, none⟩ (.string ⟨x'.toArray⟩) = w7 := ⟨_, rfl⟩
                      rw [hW7] at Y7 B7
                      have S7 := hide (S1.out.later B7.out)
                      have HSZ : Hid (wr.heap.size ≤ w7.heap.size) := by show _ ≤ _; have := B7.out.size; have := HWZ.out; omega
                      clear hx1 hx2 hx3 hx4
                      go_wp2_with (first
                        | (refine wpList_load_row rfl 34 (.tmp 12) rfl (W1.heap.size + 3) rfl _ (iC ⟨([49, 54, 84] : List UInt8), [], x', []⟩ (.slice none 0 0)) _ _ Y7.out Try.underlying34 rfl Try.sizeItm ?_; unfold iC)
                        | (at_builtin; refine wp_append_itm rfl _ _ rfl w.heap.size _ m.length _ rfl (S7.out.iw.row.alloc _) _ 1 1 [.string ⟨([49, 54, 84] : List UInt8).toArray⟩, .string ⟨#[]⟩, .string ⟨x'.toArray⟩, .string ⟨#[]⟩, .slice none 0 0] rfl rfl (by decide) ?c1 ?c2 ?c3 ?c4 ?_))
                      case c1 =>
                        intro j u hj
                        match j, hj with
                        | 0, hj => simp at hj; subst hj; simp [Addr.add]
                        | 1, hj => simp at hj; subst hj; simp [Addr.add]
                        | 2, hj => simp at hj; subst hj; simp [Addr.add]
                        | 3, hj => simp at hj; subst hj; simp [Addr.add]
                        | 4, hj => simp at hj; subst hj; simp [Addr.add]
                      case c2 => intro u hu; simp at hu; (repeat' (first | (rcases hu with rfl | hu) | subst hu)) <;> rfl
                      case c3 => have := S7.out.mv.size; simp; omega
                      case c4 => have := S7.out.cnt; omega
                      intro v' w8 hown' hgrow hfresh
                      have BB := hide ((Below.refl w7.heap.size w7).alloc (Nat.le_refl _) (.cells #[.string ⟨([49, 54, 84] : List UInt8).toArray⟩, .string ⟨#[]⟩, .string ⟨x'.toArray⟩, .string ⟨#[]⟩, .slice none 0 0] 34))
                      have S8 := hide ((S7.out.later BB.out).snoc (a := .mk ⟨([49, 54, 84] : List UInt8), [], x', []⟩ []) (u := .slice none 0 0) (lo := w7.heap.size) HP.out hown' hgrow (fun x hx => (hfresh x hx).imp id (fun h => by simpa using h)) (by have := HS.out.mv.size; have := HSZ.out; omega) (fun x hx => by have := (own_ltq HS.out.iw.row x hx).2; have := HSZ.out; omega) ⟨none, 0, rfl, .inl rfl⟩ HG.out (by have h1 := HS.out.len; have h2 := HGL.out; have h3 := HS.out.cnt; omega) (by have := HS.out.cnt; omega))
                      clear hown' hgrow hfresh BB
                      go_wp2_with fail
                      go_roundw
                      case rel => exact ⟨k + 1, n2, _, _, by omega, by go_num, S8⟩
                      case measure => simp [intOf]; omega
                    | false =>
                      have qq := str_eq_f hqe
                      have qq1 : (t.itm.qual == []) = false := beq_eq_false_iff_ne.2 (fun e => by rw [e] at hqe; cases hqe)
                      have qq0 := bytes_nil_f hqe
                      have HGQ : Hid (Calls Try.prog 9 #[.string ⟨t.itm.qual.toArray⟩, .int .i64 4, .int .i64 4] ((((W1.alloc (.cells #[.string ⟨t.itm.tag.toArray⟩, .string ⟨t.itm.qual.toArray⟩, .string ⟨t.itm.text.toArray⟩, .string ⟨t.itm.name.toArray⟩, .slice ka t.kids.length kcap] 34)).alloc (.cells #[.int .u8 (x.toNat : Int), .int .u8 (y.toNat : Int)] 5)).alloc (.cells #[.int .u8 (z.toNat : Int)] 5)).alloc (.cells #[.string ⟨([49, 54, 84] : List UInt8).toArray⟩, .string ⟨#[]⟩, .string ⟨#[]⟩, .string ⟨#[]⟩, .slice none 0 0] 34)) fun e w' => (∃ o : List UInt8, e = .returned (.string ⟨o.toArray⟩) ∧ o.all sg = true ∧ 4 ≤ o.length ∧ o.length ≤ 4) ∧ Below ((((W1.alloc (.cells #[.string ⟨t.itm.tag.toArray⟩, .string ⟨t.itm.qual.toArray⟩, .string ⟨t.itm.text.toArray⟩, .string ⟨t.itm.name.toArray⟩, .slice ka t.kids.length kcap] 34)).alloc (.cells #[.int .u8 (x.toNat : Int), .int .u8 (y.toNat : Int)] 5)).alloc (.cells #[.int .u8 (z.toNat : Int)] 5)).alloc (.cells #[.string ⟨([49, 54, 84] : List UInt8).toArray⟩, .string ⟨#[]⟩, .string ⟨#[]⟩, .string ⟨#[]⟩, .slice none 0 0] 34)).heap.size ((((W1.alloc (.cells #[.string ⟨t.itm.tag.toArray⟩, .string ⟨t.itm.qual.toArray⟩, .string ⟨t.itm.text.toArray⟩, .string ⟨t.itm.name.toArray⟩, .slice ka t.kids.length kcap] 34)).alloc (.cells #[.int .u8 (x.toNat : Int), .int .u8 (y.toNat : Int)] 5)).alloc (.cells #[.int .u8 (z.toNat : Int)] 5)).alloc (.cells #[.string ⟨([49, 54, 84] : List UInt8).toArray⟩, .string ⟨#[]⟩, .string ⟨#[]⟩, .string ⟨#[]⟩, .slice none 0 0] 34)) w') := hide (great_any t.itm.qual 4 4 ((((W1.alloc (.cells #[.string ⟨t.itm.tag.toArray⟩, .string ⟨t.itm.qual.toArray⟩, .string ⟨t.itm.text.toArray⟩, .string ⟨t.itm.name.toArray⟩, .slice ka t.kids.length kcap] 34)).alloc (.cells #[.int .u8 (x.toNat : Int), .int .u8 (y.toNat : Int)] 5)).alloc (.cells #[.int .u8 (z.toNat : Int)] 5)).alloc (.cells #[.string ⟨([49, 54, 84] : List UInt8).toArray⟩, .string ⟨#[]⟩, .string ⟨#[]⟩, .string ⟨#[]⟩, .slice none 0 0] 34)) HTIO.out.qual (by omega) (by omega))
                      clear hqe
                      go_wp2_with fail
                      refine HGQ.out.mono ?_
                      rintro e w5 ⟨⟨qo, rfl, hq1, hq2, hq3⟩, hb5⟩
                      have HQ : Hid (qo = [] ∨ qualB qo = true) := hide (.inr (by unfold qualB; rw [hq1, decide_eq_true (show qo.length = 4 by omega)]; rfl))
                      have hqe2 : qo.isEmpty = false := by cases qo with
                        | nil => simp at hq2
                        | cons _ _ => rfl
                      have qq2 := str_eq_f hqe2
                      have qq3 : (qo == []) = false := beq_eq_false_iff_ne.2 (fun e => by rw [e] at hqe2; cases hqe2)
                      have qq4 := bytes_nil_f hqe2
                      have HQN : Hid (qo ≠ []) := hide (fun e => by rw [e] at hqe2; cases hqe2)
                      have Y5 := hide (YY.out.later hb5)
                      have B5 := hide (BY.out.trans (hb5.mono BY.out.size))
                      have X5 := hide (XY.out.later hb5)
                      have Y5b : Hid (Ix (w5.setCell ⟨W1.heap.size + 3, 1, none⟩ (.string ⟨qo.toArray⟩)) (W1.heap.size + 3) ⟨([49, 54, 84] : List UInt8), qo, [], []⟩ (.slice none 0 0)) := hide (Y5.out.putQual qo)
                      have B5b := hide (B5.out.setCell (p := ⟨W1.heap.size + 3, 1, none⟩) (by simp) (.string ⟨qo.toArray⟩))
                      have X5b : Hid (Ix (w5.setCell ⟨W1.heap.size + 3, 1, none⟩ (.string ⟨qo.toArray⟩)) W1.heap.size t.itm (.slice ka t.kids.length kcap)) := hide ((Below.heap_setCell _ _ _ W1.heap.size (by show W1.heap.size ≠ W1.heap.size + 3; omega)).trans X5.out)
                      have z1 := Y5.out.free1
                      have z2 := Y5.out.qual trivial
                      have hYl5 : W1.heap.size + 3 < w5.heap.size := Y5.out.lt
                      obtain ⟨w5b, hW5⟩ : ∃ w5b, w5.setCell ⟨W1.heap.size + 3, 1, none⟩ (.string ⟨qo.toArray⟩) = w5b := ⟨_, rfl⟩
                      rw [hW5] at Y5b B5b X5b
                      have HTX := hide (text_any t.itm.text true w5b HTIO.out.text)
                      have z3 := X5b.out.text trivial
                      have z4 := Y5b.out.qual trivial
                      clear hb5 hq1 hq2 hq3 hqe2 HGQ qq qq1 qq0 Y5 X5 B5
                      go_wp2_with fail
                      refine HTX.out.mono ?_
                      rintro e w6 ⟨⟨x', rfl, hx1, hx2, hx30, hx4⟩, hb6⟩
                      have hx3 : qo = [] → hdB x' = false := fun e => absurd e HQN.out
                      have Y6 := hide (Y5b.out.later hb6)
                      have B6 := hide (B5b.out.trans (hb6.mono B5b.out.size))
                      clear hb6 hx30 HTX qq2 qq3 qq4 z1 z2 z3 z4 hW5
                      have Y7 : Hid (Ix (w6.setCell ⟨W1.heap.size + 3, 2, none⟩ (.string ⟨x'.toArray⟩)) (W1.heap.size + 3) ⟨([49, 54, 84] : List UInt8), qo, x', []⟩ (.slice none 0 0)) := hide (Y6.out.putText x')
                      have B7 := hide (B6.out.setCell (p := ⟨W1.heap.size + 3, 2, none⟩) (by simp) (.string ⟨x'.toArray⟩))
                      have HG : Hid (errI (.mk ⟨([49, 54, 84] : List UInt8), qo, x', []⟩ []) d = 0) := hide (field_good HTG.out HQ.out hx1 hx2 hx3)
                      have HGL : Hid ((txtI (.mk ⟨([49, 54, 84] : List UInt8), qo, x', []⟩ [])).length ≤ 240) := hide (field_len HTG.out HQ.out hx4)
                      have zf := Y6.out.free2
                      have zt := Y6.out.text trivial
                      have hYl : W1.heap.size + 3 < w6.heap.size := Y6.out.lt
                      obtain ⟨w7, hW7⟩ : ∃ w7, w6.setCell ⟨W1.heap.size + 3, 2, none⟩ (.string ⟨x'.toArray⟩) = w7 := ⟨_, rfl⟩
                      rw [hW7] at Y7 B7
                      have S7 := hide (S1.out.later B7.out)
                      have HSZ : Hid (wr.heap.size ≤ w7.heap.size) := by show _ ≤ _; have := B7.out.size; have := HWZ.out; omega
                      clear hx1 hx2 hx3 hx4
                      go_wp2_with (first
                        | (refine wpList_load_row rfl 34 (.tmp 12) rfl (W1.heap.size + 3) rfl _ (iC ⟨([49, 54, 84] : List UInt8), qo, x', []⟩ (.slice none 0 0)) _ _ Y7.out Try.underlying34 rfl Try.sizeItm ?_; unfold iC)
                        | (at_builtin; refine wp_append_itm rfl _ _ rfl w.heap.size _ m.length _ rfl (S7.out.iw.row.alloc _) _ 1 1 [.string ⟨([49, 54, 84] : List UInt8).toArray⟩, .string ⟨qo.toArray⟩, .string ⟨x'.toArray⟩, .string ⟨#[]⟩, .slice none 0 0] rfl rfl (by decide) ?c1 ?c2 ?c3 ?c4 ?_))
                      case c1 =>
                        intro j u hj
                        match j, hj with
                        | 0, hj => simp at hj; subst hj; simp [Addr.add]
                        | 1, hj => simp at hj; subst hj; simp [Addr.add]
                        | 2, hj => simp at hj; subst hj; simp [Addr.add]
                        | 3, hj => simp at hj; subst hj; simp [Addr.add]
                        | 4, hj => simp at hj; subst hj; simp [Addr.add]
                      case c2 => intro u hu; simp at hu; (repeat' (first | (rcases hu with rfl | hu) | subst hu)) <;> rfl
                      case c3 => have := S7.out.mv.size; simp; omega
                      case c4 => have := S7.out.cnt; omega
                      intro v' w8 hown' hgrow hfresh
                      have BB := hide ((Below.refl w7.heap.size w7).alloc (Nat.le_refl _) (.cells #[.string ⟨([49, 54, 84] : List UInt8).toArray⟩, .string ⟨qo.toArray⟩, .string ⟨x'.toArray⟩, .string ⟨#[]⟩, .slice none 0 0] 34))
                      have S8 := hide ((S7.out.later BB.out).snoc (a := .mk ⟨([49, 54, 84] : List UInt8), qo, x', []⟩ []) (u := .slice none 0 0) (lo := w7.heap.size) HP.out hown' hgrow (fun x hx => (hfresh x hx).imp id (fun h => by simpa using h)) (by have := HS.out.mv.size; have := HSZ.out; omega) (fun x hx => by have := (own_ltq HS.out.iw.row x hx).2; have := HSZ.out; omega) ⟨none, 0, rfl, .inl rfl⟩ HG.out (by have h1 := HS.out.len; have h2 := HGL.out; have h3 := HS.out.cnt; omega) (by have := HS.out.cnt; omega))
                      clear hown' hgrow hfresh BB
                      go_wp2_with fail
                      go_roundw
                      case rel => exact ⟨k + 1, n2, _, _, by omega, by go_num, S8⟩
                      case measure => simp [intOf]; omega
                  · have e16 : (tk == [49, 54, 82]) = false := beq_eq_false_iff_ne.2 hr
                    by_cases hs : tk = s16
                    · have e17 : (tk == [49, 54, 83]) = true := beq_iff_eq.2 hs
                      have HTG : Hid (tagB [49, 54, 84] = true) := hide tag_t
                      clear hr hs
                      have BY : Hid (Below W1.heap.size W1 ((((W1.alloc (.cells #[.string ⟨t.itm.tag.toArray⟩, .string ⟨t.itm.qual.toArray⟩, .string ⟨t.itm.text.toArray⟩, .string ⟨t.itm.name.toArray⟩, .slice ka t.kids.length kcap] 34)).alloc (.cells #[.int .u8 (x.toNat : Int), .int .u8 (y.toNat : Int)] 5)).alloc (.cells #[.int .u8 (z.toNat : Int)] 5)).alloc (.cells #[.string ⟨([49, 54, 84] : List UInt8).toArray⟩, .string ⟨#[]⟩, .string ⟨#[]⟩, .string ⟨#[]⟩, .slice none 0 0] 34))) := hide (((((((Below.refl W1.heap.size W1).alloc (Nat.le_refl _) _)).alloc (by simp) _).alloc (by simp; omega) _)).alloc (by simp; omega) (.cells #[.string ⟨([49, 54, 84] : List UInt8).toArray⟩, .string ⟨#[]⟩, .string ⟨#[]⟩, .string ⟨#[]⟩, .slice none 0 0] 34))
                      have YY : Hid (Ix ((((W1.alloc (.cells #[.string ⟨t.itm.tag.toArray⟩, .string ⟨t.itm.qual.toArray⟩, .string ⟨t.itm.text.toArray⟩, .string ⟨t.itm.name.toArray⟩, .slice ka t.kids.length kcap] 34)).alloc (.cells #[.int .u8 (x.toNat : Int), .int .u8 (y.toNat : Int)] 5)).alloc (.cells #[.int .u8 (z.toNat : Int)] 5)).alloc (.cells #[.string ⟨([49, 54, 84] : List UInt8).toArray⟩, .string ⟨#[]⟩, .string ⟨#[]⟩, .string ⟨#[]⟩, .slice none 0 0] 34)) (W1.heap.size + 3) ⟨([49, 54, 84] : List UInt8), [], [], []⟩ (.slice none 0 0)) := hide (alloc4_newt W1 _ _ _ _)
                      have XY : Hid (Ix ((((W1.alloc (.cells #[.string ⟨t.itm.tag.toArray⟩, .string ⟨t.itm.qual.toArray⟩, .string ⟨t.itm.text.toArray⟩, .string ⟨t.itm.name.toArray⟩, .slice ka t.kids.length kcap] 34)).alloc (.cells #[.int .u8 (x.toNat : Int), .int .u8 (y.toNat : Int)] 5)).alloc (.cells #[.int .u8 (z.toNat : Int)] 5)).alloc (.cells #[.string ⟨([49, 54, 84] : List UInt8).toArray⟩, .string ⟨#[]⟩, .string ⟨#[]⟩, .string ⟨#[]⟩, .slice none 0 0] 34)) W1.heap.size t.itm (.slice ka t.kids.length kcap)) := hide (alloc_block (alloc_block (alloc_block (alloc_new W1 _))))
                      cases hqe : t.itm.qual.isEmpty with
                      | true =>
                        have qq := str_eq_t hqe
                        have qq1 : (t.itm.qual == []) = true := beq_iff_eq.2 (List.isEmpty_iff.1 hqe)
                        have qq0 := bytes_nil_t hqe
                        have HTX := hide (text_any t.itm.text false ((((W1.alloc (.cells #[.string ⟨t.itm.tag.toArray⟩, .string ⟨t.itm.qual.toArray⟩, .string ⟨t.itm.text.toArray⟩, .string ⟨t.itm.name.toArray⟩, .slice ka t.kids.length kcap] 34)).alloc (.cells #[.int .u8 (x.toNat : Int), .int .u8 (y.toNat : Int)] 5)).alloc (.cells #[.int .u8 (z.toNat : Int)] 5)).alloc (.cells #[.string ⟨([49, 54, 84] : List UInt8).toArray⟩, .string ⟨#[]⟩, .string ⟨#[]⟩, .string ⟨#[]⟩, .slice none 0 0] 34)) HTIO.out.text)
                        clear hqe
                        go_wp2_with fail
                        refine HTX.out.mono ?_
                        rintro e w6 ⟨⟨x', rfl, hx1, hx2, hx30, hx4⟩, hb6⟩
                        have hx3 : ([] : List UInt8) = [] → hdB x' = false := fun _ => hx30 (by first | exact rfl | trivial)
                        have Y6 := hide (YY.out.later hb6)
                        have B6 := hide (BY.out.trans (hb6.mono BY.out.size))
                        clear hb6 hx30 HTX qq qq1 qq0
                        have Y7 : Hid (Ix (w6.setCell ⟨W1.heap.size + 3, 2, none⟩ (.string ⟨x'.toArray⟩)) (W1.heap.size + 3) ⟨([49, 54, 84] : List UInt8), [], x', []⟩ (.slice none 0 0)) := hide (Y6.out.putText x')
                        have B7 := hide (B6.out.setCell (p := ⟨W1.heap.size + 3, 2, none⟩) (by simp) (.string ⟨x'.toArray⟩))
                        have HG : Hid (errI (.mk ⟨([49, 54, 84] : List UInt8), [], x', []⟩ []) d = 0) := hide (field_good HTG.out (Or.inl rfl) hx1 hx2 hx3)
                        have HGL : Hid ((txtI (.mk ⟨([49, 54, 84] : List UInt8), [], x', []⟩ [])).length ≤ 240) := hide (field_len HTG.out (Or.inl rfl) hx4)
                        have zf := Y6.out.free2
                        have zt := Y6.out.text trivial
                        have hYl : W1.heap.size + 3 < w6.heap.size := Y6.out.lt
                        obtain ⟨w7, hW7⟩ : ∃ w7, w6.setCell ⟨W1.heap.size + 3, 2, none⟩ (.string ⟨x'.toArray⟩) = w7 := ⟨_, rfl⟩
                        rw [hW7] at Y7 B7
                        have S7 := hide (S1.out.later B7.out)
                        have HSZ : Hid (wr.heap.size ≤ w7.heap.size) := by show _ ≤ _; have := B7.out.size; have := HWZ.out; omega
                        clear hx1 hx2 hx3 hx4
                        go_wp2_with (first
                          | (refine wpList_load_row rfl 34 (.tmp 12) rfl (W1.heap.size + 3) rfl _ (iC ⟨([49, 54, 84] : List UInt8), [], x', []⟩ (.slice none 0 0)) _ _ Y7.out Try.underlying34 rfl Try.sizeItm ?_; unfold iC)
                          | (at_builtin; refine wp_append_itm rfl _ _ rfl w.heap.size _ m.length _ rfl (S7.out.iw.row.alloc _) _ 1 1 [.string ⟨([49, 54, 84] : List UInt8).toArray⟩, .string ⟨#[]⟩, .string ⟨x'.toArray⟩, .string ⟨#[]⟩, .slice none 0 0] rfl rfl (by decide) ?c1 ?c2 ?c3 ?c4 ?_))
                        case c1 =>
                          intro j u hj
                          match j, hj with
                          | 0, hj => simp at hj; subst hj; simp [Addr.add]
                          | 1, hj => simp at hj; subst hj; simp [Addr.add]
                          | 2, hj => simp at hj; subst hj; simp [Addr.add]
                          | 3, hj => simp at hj; subst hj; simp [Addr.add]
                          | 4, hj => simp at hj; subst hj; simp [Addr.add]
                        case c2 => intro u hu; simp at hu; (repeat' (first | (rcases hu with rfl | hu) | subst hu)) <;> rfl
                        case c3 => have := S7.out.mv.size; simp; omega
                        case c4 => have := S7.out.cnt; omega
                        intro v' w8 hown' hgrow hfresh
                        have BB := hide ((Below.refl w7.heap.size w7).alloc (Nat.le_refl _) (.cells #[.string ⟨([49, 54, 84] : List UInt8).toArray⟩, .string ⟨#[]⟩, .string ⟨x'.toArray⟩, .string ⟨#[]⟩, .slice none 0 0] 34))
                        have S8 := hide ((S7.out.later BB.out).snoc (a := .mk ⟨([49, 54, 84] : List UInt8), [], x', []⟩ []) (u := .slice none 0 0) (lo := w7.heap.size) HP.out hown' hgrow (fun x hx => (hfresh x hx).imp id (fun h => by simpa using h)) (by have := HS.out.mv.size; have := HSZ.out; omega) (fun x hx => by have := (own_ltq HS.out.iw.row x hx).2; have := HSZ.out; omega) ⟨none, 0, rfl, .inl rfl⟩ HG.out (by have h1 := HS.out.len; have h2 := HGL.out; have h3 := HS.out.cnt; omega) (by have := HS.out.cnt; omega))
                        clear hown' hgrow hfresh BB
                        go_wp2_with fail
                        go_roundw
                        case rel => exact ⟨k + 1, n2, _, _, by omega, by go_num, S8⟩
                        case measure => simp [intOf]; omega
                      | false =>
                        have qq := str_eq_f hqe
                        have qq1 : (t.itm.qual == []) = false := beq_eq_false_iff_ne.2 (fun e => by rw [e] at hqe; cases hqe)
                        have qq0 := bytes_nil_f hqe
                        have HGQ : Hid (Calls Try.prog 9 #[.string ⟨t.itm.qual.toArray⟩, .int .i64 4, .int .i64 4] ((((W1.alloc (.cells #[.string ⟨t.itm.tag.toArray⟩, .string ⟨t.itm.qual.toArray⟩, .string ⟨t.itm.text.toArray⟩, .string ⟨t.itm.name.toArray⟩, .slice ka t.kids.length kcap] 34)).alloc (.cells #[.int .u8 (x.toNat : Int), .int .u8 (y.toNat : Int)] 5)).alloc (.cells #[.int .u8 (z.toNat : Int)] 5)).alloc (.cells #[.string ⟨([49, 54, 84] : List UInt8).toArray⟩, .string ⟨#[]⟩, .string ⟨#[]⟩, .string ⟨#[]⟩, .slice none 0 0] 34)) fun e w' => (∃ o : List UInt8, e = .returned (.string ⟨o.toArray⟩) ∧ o.all sg = true ∧ 4 ≤ o.length ∧ o.length ≤ 4) ∧ Below ((((W1.alloc (.cells #[.string ⟨t.itm.tag.toArray⟩, .string ⟨t.itm.qual.toArray⟩, .string ⟨t.itm.text.toArray⟩, .string ⟨t.itm.name.toArray⟩, .slice ka t.kids.length kcap] 34)).alloc (.cells #[.int .u8 (x.toNat : Int), .int .u8 (y.toNat : Int)] 5)).alloc (.cells #[.int .u8 (z.toNat : Int)] 5)).alloc (.cells #[.string ⟨([49, 54, 84] : List UInt8).toArray⟩, .string ⟨#[]⟩, .string ⟨#[]⟩, .string ⟨#[]⟩, .slice none 0 0] 34)).heap.size ((((W1.alloc (.cells #[.string ⟨t.itm.tag.toArray⟩, .string ⟨t.itm.qual.toArray⟩, .string ⟨t.itm.text.toArray⟩, .string ⟨t.itm.name.toArray⟩, .slice ka t.kids.length kcap] 34)).alloc (.cells #[.int .u8 (x.toNat : Int), .int .u8 (y.toNat : Int)] 5)).alloc (.cells #[.int .u8 (z.toNat : Int)] 5)).alloc (.cells #[.string ⟨([49, 54, 84] : List UInt8).toArray⟩, .string ⟨#[]⟩, .string ⟨#[]⟩, .string ⟨#[]⟩, .slice none 0 0] 34)) w') := hide (great_any t.itm.qual 4 4 ((((W1.alloc (.cells #[.string ⟨t.itm.tag.toArray⟩, .string ⟨t.itm.qual.toArray⟩, .string ⟨t.itm.text.toArray⟩, .string ⟨t.itm.name.toArray⟩, .slice ka t.kids.length kcap] 34)).alloc (.cells #[.int .u8 (x.toNat : Int), .int .u8 (y.toNat : Int)] 5)).alloc (.cells #[.int .u8 (z.toNat : Int)] 5)).alloc (.cells #[.string ⟨([49, 54, 84] : List UInt8).toArray⟩, .string ⟨#[]⟩, .string ⟨#[]⟩, .string ⟨#[]⟩, .slice none 0 0] 34)) HTIO.out.qual (by omega) (by omega))
                        clear hqe
                        go_wp2_with fail
                        refine HGQ.out.mono ?_
                        rintro e w5 ⟨⟨qo, rfl, hq1, hq2, hq3⟩, hb5⟩
                        have HQ : Hid (qo = [] ∨ qualB qo = true) := hide (.inr (by unfold qualB; rw [hq1, decide_eq_true (show qo.length = 4 by omega)]; rfl))
                        have hqe2 : qo.isEmpty = false := by cases qo with
                          | nil => simp at hq2
                          | cons _ _ => rfl
                        have qq2 := str_eq_f hqe2
                        have qq3 : (qo == []) = false := beq_eq_false_iff_ne.2 (fun e => by rw [e] at hqe2; cases hqe2)
                        have qq4 := bytes_nil_f hqe2
                        have HQN : Hid (qo ≠ []) := hide (fun e => by rw [e] at hqe2; cases hqe2)
                        have Y5 := hide (YY.out.later hb5)
                        have B5 := hide (BY.out.trans (hb5.mono BY.out.size))
                        have X5 := hide (XY.out.later hb5)
                        have Y5b : Hid (Ix (w5.setCell ⟨W1.heap.size + 3, 1, none⟩ (.string ⟨qo.toArray⟩)) (W1.heap.size + 3) ⟨([49, 54, 84] : List UInt8), qo, [], []⟩ (.slice none 0 0)) := hide (Y5.out.putQual qo)
                        have B5b := hide (B5.out.setCell (p := ⟨W1.heap.size + 3, 1, none⟩) (by simp) (.string ⟨qo.toArray⟩))
                        have X5b : Hid (Ix (w5.setCell ⟨W1.heap.size + 3, 1, none⟩ (.string ⟨qo.toArray⟩)) W1.heap.size t.itm (.slice ka t.kids.length kcap)) := hide ((Below.heap_setCell _ _ _ W1.heap.size (by show W1.heap.size ≠ W1.heap.size + 3; omega)).trans X5.out)
                        have z1 := Y5.out.free1
                        have z2 := Y5.out.qual trivial
                        have hYl5 : W1.heap.size + 3 < w5.heap.size := Y5.out.lt
                        obtain ⟨w5b, hW5⟩ : ∃ w5b, w5.setCell ⟨W1.heap.size + 3, 1, none⟩ (.string ⟨qo.toArray⟩) = w5b := ⟨_, rfl⟩
                        rw [hW5] at Y5b B5b X5b
                        have HTX := hide (text_any t.itm.text true w5b HTIO.out.text)
                        have z3 := X5b.out.text trivial
                        have z4 := Y5b.out.qual trivial
                        clear hb5 hq1 hq2 hq3 hqe2 HGQ qq qq1 qq0 Y5 X5 B5
                        go_wp2_with fail
                        refine HTX.out.mono ?_
                        rintro e w6 ⟨⟨x', rfl, hx1, hx2, hx30, hx4⟩, hb6⟩
                        have hx3 : qo = [] → hdB x' = false := fun e => absurd e HQN.out
                        have Y6 := hide (Y5b.out.later hb6)
                        have B6 := hide (B5b.out.trans (hb6.mono B5b.out.size))
                        clear hb6 hx30 HTX qq2 qq3 qq4 z1 z2 z3 z4 hW5
                        have Y7 : Hid (Ix (w6.setCell ⟨W1.heap.size + 3, 2, none⟩ (.string ⟨x'.toArray⟩)) (W1.heap.size + 3) ⟨([49, 54, 84] : List UInt8), qo, x', []⟩ (.slice none 0 0)) := hide (Y6.out.putText x')
                        have B7 := hide (B6.out.setCell (p := ⟨W1.heap.size + 3, 2, none⟩) (by simp) (.string ⟨x'.toArray⟩))
                        have HG : Hid (errI (.mk ⟨([49, 54, 84] : List UInt8), qo, x', []⟩ []) d = 0) := hide (field_good HTG.out HQ.out hx1 hx2 hx3)
                        have HGL : Hid ((txtI (.mk ⟨([49, 54, 84] : List UInt8), qo, x', []⟩ [])).length ≤ 240) := hide (field_len HTG.out HQ.out hx4)
                        have zf := Y6.out.free2
                        have zt := Y6.out.text trivial
                        have hYl : W1.heap.size + 3 < w6.heap.size := Y6.out.lt
                        obtain ⟨w7, hW7⟩ : ∃ w7, w6.setCell ⟨W1.heap.size + 3, 2, none⟩ (.string ⟨x'.toArray⟩) = w7 := ⟨_, rfl⟩
                        rw [hW7] at Y7 B7
                        have S7 := hide (S1.out.later B7.out)
                        have HSZ : Hid (wr.heap.size ≤ w7.heap.size) := by show _ ≤ _; have := B7.out.size; have := HWZ.out; omega
                        clear hx1 hx2 hx3 hx4
                        go_wp2_with (first
                          | (refine wpList_load_row rfl 34 (.tmp 12) rfl (W1.heap.size + 3) rfl _ (iC ⟨([49, 54, 84] : List UInt8), qo, x', []⟩ (.slice none 0 0)) _ _ Y7.out Try.underlying34 rfl Try.sizeItm ?_; unfold iC)
                          | (at_builtin; refine wp_append_itm rfl _ _ rfl w.heap.size _ m.length _ rfl (S7.out.iw.row.alloc _) _ 1 1 [.string ⟨([49, 54, 84] : List UInt8).toArray⟩, .string ⟨qo.toArray⟩, .string ⟨x'.toArray⟩, .string ⟨#[]⟩, .slice none 0 0] rfl rfl (by decide) ?c1 ?c2 ?c3 ?c4 ?_))
                        case c1 =>
                          intro j u hj
                          match j, hj with
                          | 0, hj => simp at hj; subst hj; simp [Addr.add]
                          | 1, hj => simp at hj; subst hj; simp [Addr.add]
                          | 2, hj => simp at hj; subst hj; simp [Addr.add]
                          | 3, hj => simp at hj; subst hj; simp [Addr.add]
                          | 4, hj => simp at hj; subst hj; simp [Addr.add]
                        case c2 => intro u hu; simp at hu; (repeat' (first | (rcases hu with rfl | hu) | subst hu)) <;> rfl
                        case c3 => have := S7.out.mv.size; simp; omega
                        case c4 => have := S7.out.cnt; omega
                        intro v' w8 hown' hgrow hfresh
                        have BB := hide ((Below.refl w7.heap.size w7).alloc (Nat.le_refl _) (.cells #[.string ⟨([49, 54, 84] : List UInt8).toArray⟩, .string ⟨qo.toArray⟩, .string ⟨x'.toArray⟩, .string ⟨#[]⟩, .slice none 0 0] 34))
                        have S8 := hide ((S7.out.later BB.out).snoc (a := .mk ⟨([49, 54, 84] : List UInt8), qo, x', []⟩ []) (u := .slice none 0 0) (lo := w7.heap.size) HP.out hown' hgrow (fun x hx => (hfresh x hx).imp id (fun h => by simpa using h)) (by have := HS.out.mv.size; have := HSZ.out; omega) (fun x hx => by have := (own_ltq HS.out.iw.row x hx).2; have := HSZ.out; omega) ⟨none, 0, rfl, .inl rfl⟩ HG.out (by have h1 := HS.out.len; have h2 := HGL.out; have h3 := HS.out.cnt; omega) (by have := HS.out.cnt; omega))
                        clear hown' hgrow hfresh BB
                        go_wp2_with fail
                        go_roundw
                        case rel => exact ⟨k + 1, n2, _, _, by omega, by go_num, S8⟩
                        case measure => simp [intOf]; omega
                    · have e17 : (tk == [49, 54, 83]) = false := beq_eq_false_iff_ne.2 hs
                      have HTG : Hid (tagB tk = true) := by
                        show _ = _
                        rw [HTK.out] at hr hs ⊢
                        exact tag_of3 HXD.out HYD.out HZC.out hr hs
                      clear hr hs
                      have BY : Hid (Below W1.heap.size W1 ((((W1.alloc (.cells #[.string ⟨t.itm.tag.toArray⟩, .string ⟨t.itm.qual.toArray⟩, .string ⟨t.itm.text.toArray⟩, .string ⟨t.itm.name.toArray⟩, .slice ka t.kids.length kcap] 34)).alloc (.cells #[.int .u8 (x.toNat : Int), .int .u8 (y.toNat : Int)] 5)).alloc (.cells #[.int .u8 (z.toNat : Int)] 5)).alloc (.cells #[.string ⟨tk.toArray⟩, .string ⟨#[]⟩, .string ⟨#[]⟩, .string ⟨#[]⟩, .slice none 0 0] 34))) := hide (((((((Below.refl W1.heap.size W1).alloc (Nat.le_refl _) _)).alloc (by simp) _).alloc (by simp; omega) _)).alloc (by simp; omega) (.cells #[.string ⟨tk.toArray⟩, .string ⟨#[]⟩, .string ⟨#[]⟩, .string ⟨#[]⟩, .slice none 0 0] 34))
                      have YY : Hid (Ix ((((W1.alloc (.cells #[.string ⟨t.itm.tag.toArray⟩, .string ⟨t.itm.qual.toArray⟩, .string ⟨t.itm.text.toArray⟩, .string ⟨t.itm.name.toArray⟩, .slice ka t.kids.length kcap] 34)).alloc (.cells #[.int .u8 (x.toNat : Int), .int .u8 (y.toNat : Int)] 5)).alloc (.cells #[.int .u8 (z.toNat : Int)] 5)).alloc (.cells #[.string ⟨tk.toArray⟩, .string ⟨#[]⟩, .string ⟨#[]⟩, .string ⟨#[]⟩, .slice none 0 0] 34)) (W1.heap.size + 3) ⟨tk, [], [], []⟩ (.slice none 0 0)) := hide (alloc4_newt W1 _ _ _ _)
                      have XY : Hid (Ix ((((W1.alloc (.cells #[.string ⟨t.itm.tag.toArray⟩, .string ⟨t.itm.qual.toArray⟩, .string ⟨t.itm.text.toArray⟩, .string ⟨t.itm.name.toArray⟩, .slice ka t.kids.length kcap] 34)).alloc (.cells #[.int .u8 (x.toNat : Int), .int .u8 (y.toNat : Int)] 5)).alloc (.cells #[.int .u8 (z.toNat : Int)] 5)).alloc (.cells #[.string ⟨tk.toArray⟩, .string ⟨#[]⟩, .string ⟨#[]⟩, .string ⟨#[]⟩, .slice none 0 0] 34)) W1.heap.size t.itm (.slice ka t.kids.length kcap)) := hide (alloc_block (alloc_block (alloc_block (alloc_new W1 _))))
                      cases hqe : t.itm.qual.isEmpty with
                      | true =>
                        have qq := str_eq_t hqe
                        have qq1 : (t.itm.qual == []) = true := beq_iff_eq.2 (List.isEmpty_iff.1 hqe)
                        have qq0 := bytes_nil_t hqe
                        have HTX := hide (text_any t.itm.text false ((((W1.alloc (.cells #[.string ⟨t.itm.tag.toArray⟩, .string ⟨t.itm.qual.toArray⟩, .string ⟨t.itm.text.toArray⟩, .string ⟨t.itm.name.toArray⟩, .slice ka t.kids.length kcap] 34)).alloc (.cells #[.int .u8 (x.toNat : Int), .int .u8 (y.toNat : Int)] 5)).alloc (.cells #[.int .u8 (z.toNat : Int)] 5)).alloc (.cells #[.string ⟨tk.toArray⟩, .string ⟨#[]⟩, .string ⟨#[]⟩, .string ⟨#[]⟩, .slice none 0 0] 34)) HTIO.out.text)
                        clear hqe
                        go_wp2_with fail
                        refine HTX.out.mono ?_
                        rintro e w6 ⟨⟨x', rfl, hx1, hx2, hx30, hx4⟩, hb6⟩
                        have hx3 : ([] : List UInt8) = [] → hdB x' = false := fun _ => hx30 (by first | exact rfl | trivial)
                        have Y6 := hide (YY.out.later hb6)
                        have B6 := hide (BY.out.trans (hb6.mono BY.out.size))
                        clear hb6 hx30 HTX qq qq1 qq0
                        have Y7 : Hid (Ix (w6.setCell ⟨W1.heap.size + 3, 2, none⟩ (.string ⟨x'.toArray⟩)) (W1.heap.size + 3) ⟨tk, [], x', []⟩ (.slice none 0 0)) := hide (Y6.out.putText x')
                        have B7 := hide (B6.out.setCell (p := ⟨W1.heap.size + 3, 2, none⟩) (by simp) (.string ⟨x'.toArray⟩))
                        have HG : Hid (errI (.mk ⟨tk, [], x', []⟩ []) d = 0) := hide (field_good HTG.out (Or.inl rfl) hx1 hx2 hx3)
                        have HGL : Hid ((txtI (.mk ⟨tk, [], x', []⟩ [])).length ≤ 240) := hide (field_len HTG.out (Or.inl rfl) hx4)
                        have zf := Y6.out.free2
                        have zt := Y6.out.text trivial
                        have hYl : W1.heap.size + 3 < w6.heap.size := Y6.out.lt
                        obtain ⟨w7, hW7⟩ : ∃ w7, w6.setCell ⟨W1.heap.size + 3, 2, none⟩ (.string ⟨x'.toArray⟩) = w7 := ⟨_, rfl⟩
                        rw [hW7] at Y7 B7
                        have S7 := hide (S1.out.later B7.out)
                        have HSZ : Hid (wr.heap.size ≤ w7.heap.size) := by show _ ≤ _; have := B7.out.size; have := HWZ.out; omega
                        clear hx1 hx2 hx3 hx4
                        go_wp2_with (first
                          | (refine wpList_load_row rfl 34 (.tmp 12) rfl (W1.heap.size + 3) rfl _ (iC ⟨tk, [], x', []⟩ (.slice none 0 0)) _ _ Y7.out Try.underlying34 rfl Try.sizeItm ?_; unfold iC)
                          | (at_builtin; refine wp_append_itm rfl _ _ rfl w.heap.size _ m.length _ rfl (S7.out.iw.row.alloc _) _ 1 1 [.string ⟨tk.toArray⟩, .string ⟨#[]⟩, .string ⟨x'.toArray⟩, .string ⟨#[]⟩, .slice none 0 0] rfl rfl (by decide) ?c1 ?c2 ?c3 ?c4 ?_))
                        case c1 =>
                          intro j u hj
                          match j, hj with
                          | 0, hj => simp at hj; subst hj; simp [Addr.add]
                          | 1, hj => simp at hj; subst hj; simp [Addr.add]
                          | 2, hj => simp at hj; subst hj; simp [Addr.add]
                          | 3, hj => simp at hj; subst hj; simp [Addr.add]
                          | 4, hj => simp at hj; subst hj; simp [Addr.add]
                        case c2 => intro u hu; simp at hu; (repeat' (first | (rcases hu with rfl | hu) | subst hu)) <;> rfl
                        case c3 => have := S7.out.mv.size; simp; omega
                        case c4 => have := S7.out.cnt; omega
                        intro v' w8 hown' hgrow hfresh
                        have BB := hide ((Below.refl w7.heap.size w7).alloc (Nat.le_refl _) (.cells #[.string ⟨tk.toArray⟩, .string ⟨#[]⟩, .string ⟨x'.toArray⟩, .string ⟨#[]⟩, .slice none 0 0] 34))
                        have S8 := hide ((S7.out.later BB.out).snoc (a := .mk ⟨tk, [], x', []⟩ []) (u := .slice none 0 0) (lo := w7.heap.size) HP.out hown' hgrow (fun x hx => (hfresh x hx).imp id (fun h => by simpa using h)) (by have := HS.out.mv.size; have := HSZ.out; omega) (fun x hx => by have := (own_ltq HS.out.iw.row x hx).2; have := HSZ.out; omega) ⟨none, 0, rfl, .inl rfl⟩ HG.out (by have h1 := HS.out.len; have h2 := HGL.out; have h3 := HS.out.cnt; omega) (by have := HS.out.cnt; omega))
                        clear hown' hgrow hfresh BB
                        go_wp2_with fail
                        go_roundw
                        case rel => exact ⟨k + 1, n2, _, _, by omega, by go_num, S8⟩
                        case measure => simp [intOf]; omega
                      | false =>
                        have qq := str_eq_f hqe
                        have qq1 : (t.itm.qual == []) = false := beq_eq_false_iff_ne.2 (fun e => by rw [e] at hqe; cases hqe)
                        have qq0 := bytes_nil_f hqe
                        have HGQ : Hid (Calls Try.prog 9 #[.string ⟨t.itm.qual.toArray⟩, .int .i64 4, .int .i64 4] ((((W1.alloc (.cells #[.string ⟨t.itm.tag.toArray⟩, .string ⟨t.itm.qual.toArray⟩, .string ⟨t.itm.text.toArray⟩, .string ⟨t.itm.name.toArray⟩, .slice ka t.kids.length kcap] 34)).alloc (.cells #[.int .u8 (x.toNat : Int), .int .u8 (y.toNat : Int)] 5)).alloc (.cells #[.int .u8 (z.toNat : Int)] 5)).alloc (.cells #[.string ⟨tk.toArray⟩, .string ⟨#[]⟩, .string ⟨#[]⟩, .string ⟨#[]⟩, .slice none 0 0] 34)) fun e w' => (∃ o : List UInt8, e = .returned (.string ⟨o.toArray⟩) ∧ o.all sg = true ∧ 4 ≤ o.length ∧ o.length ≤ 4) ∧ Below ((((W1.alloc (.cells #[.string ⟨t.itm.tag.toArray⟩, .string ⟨t.itm.qual.toArray⟩, .string ⟨t.itm.text.toArray⟩, .string ⟨t.itm.name.toArray⟩, .slice ka t.kids.length kcap] 34)).alloc (.cells #[.int .u8 (x.toNat : Int), .int .u8 (y.toNat : Int)] 5)).alloc (.cells #[.int .u8 (z.toNat : Int)] 5)).alloc (.cells #[.string ⟨tk.toArray⟩, .string ⟨#[]⟩, .string ⟨#[]⟩, .string ⟨#[]⟩, .slice none 0 0] 34)).heap.size ((((W1.alloc (.cells #[.string ⟨t.itm.tag.toArray⟩, .string ⟨t.itm.qual.toArray⟩, .string ⟨t.itm.text.toArray⟩, .string ⟨t.itm.name.toArray⟩, .slice ka t.kids.length kcap] 34)).alloc (.cells #[.int .u8 (x.toNat : Int), .int .u8 (y.toNat : Int)] 5)).alloc (.cells #[.int .u8 (z.toNat : Int)] 5)).alloc (.cells #[.string ⟨tk.toArray⟩, .string ⟨#[]⟩, .string ⟨#[]⟩, .string ⟨#[]⟩, .slice none 0 0] 34)) w') := hide (great_any t.itm.qual 4 4 ((((W1.alloc (.cells #[.string ⟨t.itm.tag.toArray⟩, .string ⟨t.itm.qual.toArray⟩, .string ⟨t.itm.text.toArray⟩, .string ⟨t.itm.name.toArray⟩, .slice ka t.kids.length kcap] 34)).alloc (.cells #[.int .u8 (x.toNat : Int), .int .u8 (y.toNat : Int)] 5)).alloc (.cells #[.int .u8 (z.toNat : Int)] 5)).alloc (.cells #[.string ⟨tk.toArray⟩, .string ⟨#[]⟩, .string ⟨#[]⟩, .string ⟨#[]⟩, .slice none 0 0] 34)) HTIO.out.qual (by omega) (by omega))
                        clear hqe
                        go_wp2_with fail
                        refine HGQ.out.mono ?_
                        rintro e w5 ⟨⟨qo, rfl, hq1, hq2, hq3⟩, hb5⟩
                        have HQ : Hid (qo = [] ∨ qualB qo = true) := hide (.inr (by unfold qualB; rw [hq1, decide_eq_true (show qo.length = 4 by omega)]; rfl))
                        have hqe2 : qo.isEmpty = false := by cases qo with
                          | nil => simp at hq2
                          | cons _ _ => rfl
                        have qq2 := str_eq_f hqe2
                        have qq3 : (qo == []) = false := beq_eq_false_iff_ne.2 (fun e => by rw [e] at hqe2; cases hqe2)
                        have qq4 := bytes_nil_f hqe2
                        have HQN : Hid (qo ≠ []) := hide (fun e => by rw [e] at hqe2; cases hqe2)
                        have Y5 := hide (YY.out.later hb5)
                        have B5 := hide (BY.out.trans (hb5.mono BY.out.size))
                        have X5 := hide (XY.out.later hb5)
                        have Y5b : Hid (Ix (w5.setCell ⟨W1.heap.size + 3, 1, none⟩ (.string ⟨qo.toArray⟩)) (W1.heap.size + 3) ⟨tk, qo, [], []⟩ (.slice none 0 0)) := hide (Y5.out.putQual qo)
                        have B5b := hide (B5.out.setCell (p := ⟨W1.heap.size + 3, 1, none⟩) (by simp) (.string ⟨qo.toArray⟩))
                        have X5b : Hid (Ix (w5.setCell ⟨W1.heap.size + 3, 1, none⟩ (.string ⟨qo.toArray⟩)) W1.heap.size t.itm (.slice ka t.kids.length kcap)) := hide ((Below.heap_setCell _ _ _ W1.heap.size (by show W1.heap.size ≠ W1.heap.size + 3; omega)).trans X5.out)
                        have z1 := Y5.out.free1
                        have z2 := Y5.out.qual trivial
                        have hYl5 : W1.heap.size + 3 < w5.heap.size := Y5.out.lt
                        obtain ⟨w5b, hW5⟩ : ∃ w5b, w5.setCell ⟨W1.heap.size + 3, 1, none⟩ (.string ⟨qo.toArray⟩) = w5b := ⟨_, rfl⟩
                        rw [hW5] at Y5b B5b X5b
                        have HTX := hide (text_any t.itm.text true w5b HTIO.out.text)
                        have z3 := X5b.out.text trivial
                        have z4 := Y5b.out.qual trivial
                        clear hb5 hq1 hq2 hq3 hqe2 HGQ qq qq1 qq0 Y5 X5 B5
                        go_wp2_with fail
                        refine HTX.out.mono ?_
                        rintro e w6 ⟨⟨x', rfl, hx1, hx2, hx30, hx4⟩, hb6⟩
                        have hx3 : qo = [] → hdB x' = false := fun e => absurd e HQN.out
                        have Y6 := hide (Y5b.out.later hb6)
                        have B6 := hide (B5b.out.trans (hb6.mono B5b.out.size))
                        clear hb6 hx30 HTX qq2 qq3 qq4 z1 z2 z3 z4 hW5
                        have Y7 : Hid (Ix (w6.setCell ⟨W1.heap.size + 3, 2, none⟩ (.string ⟨x'.toArray⟩)) (W1.heap.size + 3) ⟨tk, qo, x', []⟩ (.slice none 0 0)) := hide (Y6.out.putText x')
                        have B7 := hide (B6.out.setCell (p := ⟨W1.heap.size + 3, 2, none⟩) (by simp) (.string ⟨x'.toArray⟩))
                        have HG : Hid (errI (.mk ⟨tk, qo, x', []⟩ []) d = 0) := hide (field_good HTG.out HQ.out hx1 hx2 hx3)
                        have HGL : Hid ((txtI (.mk ⟨tk, qo, x', []⟩ [])).length ≤ 240) := hide (field_len HTG.out HQ.out hx4)
                        have zf := Y6.out.free2
                        have zt := Y6.out.text trivial
                        have hYl : W1.heap.size + 3 < w6.heap.size := Y6.out.lt
                        obtain ⟨w7, hW7⟩ : ∃ w7, w6.setCell ⟨W1.heap.size + 3, 2, none⟩ (.string ⟨x'.toArray⟩) = w7 := ⟨_, rfl⟩
                        rw [hW7] at Y7 B7
                        have S7 := hide (S1.out.later B7.out)
                        have HSZ : Hid (wr.heap.size ≤ w7.heap.size) := by show _ ≤ _; have := B7.out.size; have := HWZ.out; omega
                        clear hx1 hx2 hx3 hx4
                        go_wp2_with (first
                          | (refine wpList_load_row rfl 34 (.tmp 12) rfl (W1.heap.size + 3) rfl _ (iC ⟨tk, qo, x', []⟩ (.slice none 0 0)) _ _ Y7.out Try.underlying34 rfl Try.sizeItm ?_; unfold iC)
                          | (at_builtin; refine wp_append_itm rfl _ _ rfl w.heap.size _ m.length _ rfl (S7.out.iw.row.alloc _) _ 1 1 [.string ⟨tk.toArray⟩, .string ⟨qo.toArray⟩, .string ⟨x'.toArray⟩, .string ⟨#[]⟩, .slice none 0 0] rfl rfl (by decide) ?c1 ?c2 ?c3 ?c4 ?_))
                        case c1 =>
                          intro j u hj
                          match j, hj with
                          | 0, hj => simp at hj; subst hj; simp [Addr.add]
                          | 1, hj => simp at hj; subst hj; simp [Addr.add]
                          | 2, hj => simp at hj; subst hj; simp [Addr.add]
                          | 3, hj => simp at hj; subst hj; simp [Addr.add]
                          | 4, hj => simp at hj; subst hj; simp [Addr.add]
                        case c2 => intro u hu; simp at hu; (repeat' (first | (rcases hu with rfl | hu) | subst hu)) <;> rfl
                        case c3 => have := S7.out.mv.size; simp; omega
                        case c4 => have := S7.out.cnt; omega
                        intro v' w8 hown' hgrow hfresh
                        have BB := hide ((Below.refl w7.heap.size w7).alloc (Nat.le_refl _) (.cells #[.string ⟨tk.toArray⟩, .string ⟨qo.toArray⟩, .string ⟨x'.toArray⟩, .string ⟨#[]⟩, .slice none 0 0] 34))
                        have S8 := hide ((S7.out.later BB.out).snoc (a := .mk ⟨tk, qo, x', []⟩ []) (u := .slice none 0 0) (lo := w7.heap.size) HP.out hown' hgrow (fun x hx => (hfresh x hx).imp id (fun h => by simpa using h)) (by have := HS.out.mv.size; have := HSZ.out; omega) (fun x hx => by have := (own_ltq HS.out.iw.row x hx).2; have := HSZ.out; omega) ⟨none, 0, rfl, .inl rfl⟩ HG.out (by have h1 := HS.out.len; have h2 := HGL.out; have h3 := HS.out.cnt; omega) (by have := HS.out.cnt; omega))
                        clear hown' hgrow hfresh BB
                        go_wp2_with fail
                        go_roundw
                        case rel => exact ⟨k + 1, n2, _, _, by omega, by go_num, S8⟩
                        case measure => simp [intOf]; omega
      · have hltI : decide ((k : Int) < (l.length : Int)) = false := decide_eq_false (by omega)
        obtain ⟨qa, qc, hvv⟩ : ∃ qa qc, u7 = .slice qa m.length qc := by obtain ⟨a, c, h, _⟩ := HS.out.iw.done; exact ⟨a, c, h⟩
        have HPT := hide HS.out.iw.done
        subst hvv
        go_wp2_with fail
        go_ret
        exact ⟨qa, qc, m, n1, rfl, HS.out.iw.noneCap, HPT.out, HS.out.err, by have := HS.out.cnt; omega, HS.out.left, HS.out.len, HS.out.cnt, HS.out.mv⟩
end Go.Proofs.Ytnpaamkoonlkpaa
