/-
  My own text: the law that a message is read back from its text.
-/
import Derived.Test.YthlkplhgohegbaaTB5
import Derived.Test.YthlkplhgohegbaaQC
import Derived.Test.YthlkplhgohegbaaQF
import Derived.Test.YthlkplhgohegbaaQW
namespace Go.Proofs.Ythlkplhgohegbaa
open Go.RowKit

mutual
def flI : Tr → Nat
  | .mk i k => (if i.tag.isEmpty then 0 else 1) + flL k
def flL : List Tr → Nat
  | [] => 0
  | a :: r => flI a + flL r
end
theorem flI_eq (a : Tr) : flI a = (if a.itm.tag.isEmpty then 0 else 1) + flL a.kids := by cases a; rw [flI]; rfl
theorem flL_cons (a : Tr) (r : List Tr) : flL (a :: r) = flI a + flL r := by rw [flL]
theorem flL_app (x y : List Tr) : flL (x ++ y) = flL x + flL y := by
  induction x with
  | nil => simp [flL]
  | cons a r ih => rw [List.cons_append, flL_cons, flL_cons, ih, Nat.add_assoc]
theorem flL_take {l : List Tr} {k : Nat} {a : Tr} (h : l[k]? = some a) : flL (l.take (k + 1)) = flL (l.take k) + flI a := by
  rw [List.take_add_one, h, flL_app]; simp [flL]
theorem flL_le : ∀ (D : Nat) (l : List Tr), wts l ≤ D → flL l ≤ wts l := by
  intro D
  induction D using Nat.strongRecOn with
  | ind D ih =>
    intro l
    induction l with
    | nil => intro _; simp [flL, wts]
    | cons a r ihr =>
      intro hD
      rw [wts_cons] at hD ⊢
      have hw := wt_eq a
      have h2 := ihr (by omega)
      have h3 := ih (wts a.kids) (by omega) a.kids (Nat.le_refl _)
      rw [flL_cons, flI_eq]
      split <;> omega
theorem flL_take_le (l : List Tr) (k : Nat) : flL (l.take k) ≤ flL l := by
  conv => rhs; rw [← List.take_append_drop k l]
  rw [flL_app]; omega
/-- Of a message both ways of counting tell the same. -/
theorem flL_cnt : ∀ (D : Nat) (l : List Tr) (d : Int), wts l ≤ D → errL l d = 0 → flL l = cntL l := by
  intro D
  induction D using Nat.strongRecOn with
  | ind D ih =>
    intro l
    induction l with
    | nil => intro d _ _; simp [flL, cntL]
    | cons a r ihr =>
      intro d hD he
      obtain ⟨g1, g2⟩ := errL_left (x := [a]) (y := r) he
      rw [errL_one] at g1
      rw [wts_cons] at hD
      have hw := wt_eq a
      have h2 := ihr d (by omega) g2
      have e := errI_eq a d
      rw [g1] at e
      have hi : itemE a.itm a.kids.length d = 0 := by
        by_cases hz : itemE a.itm a.kids.length d = 0
        · exact hz
        · rw [if_pos hz] at e; exact absurd e.symm hz
      rw [flL_cons, cntL_cons, h2, flI_eq, cntI_eq]
      cases hta : a.itm.tag.isEmpty with
      | false =>
        rw [itemE_field hta] at hi
        obtain ⟨_, _, _, q4, _⟩ := fE_zero hi
        have hk : a.kids = [] := List.length_eq_zero_iff.1 (of_decide_eq_true q4)
        rw [hk]; simp [flL]
      | true =>
        rw [hta, hi] at e
        simp only [ne_eq, not_true, if_false, Bool.not_true, Bool.false_eq_true] at e
        have h3 := ih (wts a.kids) (by omega) a.kids (d + 1) (Nat.le_refl _) e.symm
        have hne : a.itm.name.isEmpty = false := by
          cases hn : a.itm.name.isEmpty with
          | false => rfl
          | true => rw [itemE_none hta hn] at hi; omega
        rw [hne, h3]; simp
set_option maxRecDepth 100000 in
set_option maxHeartbeats 4000000 in
theorem fields_any : ∀ (D : Nat) (l : List Tr) (v : Value) (w : World), wts l ≤ D → D ≤ 1099511627776 → RT w v l →
    Calls Try.prog 9 #[v] w fun e w' => e = .returned (.int .i64 (flL l : Int)) ∧ Below w.heap.size w w' := by
  intro D
  induction D using Nat.strongRecOn with
  | ind D ih =>
    intro l v w hD hD2 hv
    have IH := hide ih
    obtain ⟨a, cap, rfl, hr⟩ := hv
    have HR := hide hr
    have HWL : Hid (wts l ≤ D ∧ D ≤ 1099511627776) := hide ⟨hD, hD2⟩
    clear hr ih
    have hll : l.length ≤ 1099511627776 := by have := wts_len l; omega
    have HCL := hide (Nat.le_trans (flL_le _ l (Nat.le_refl _)) (Nat.le_trans hD hD2))
    clear hD hD2
    go_enter Try.func9, Try.ntmps9
    go_wp2_with fail
    go_loopw [3, 4] (fun n i wr => ∃ k c : Nat, k ≤ l.length ∧ i = .int .i64 k ∧ n = .int .i64 c ∧ Hid (c = flL (l.take k)) ∧ Hid (Below w.heap.size w wr)) (fun _ i _ => l.length - (intOf i).toNat)
    case atStart => exact ⟨0, 0, Nat.zero_le _, rfl, rfl, hide (by simp [flL]), hide (Below.refl _ _)⟩
    case round =>
      obtain ⟨k, c, hk, rfl, rfl, HC, HB⟩ := hrel
      by_cases hlt : k < l.length
      · obtain ⟨t, ht⟩ : ∃ t, l[k]? = some t := ⟨_, List.getElem?_eq_getElem hlt⟩
        have HTK := hide (flL_take ht)
        have HCN : Hid (flL (l.take (k + 1)) ≤ 1099511627776) := hide (Nat.le_trans (flL_take_le _ _) HCL.out)
        have HWE := hide (wt_eq t)
        have HWA := hide (wts_at ht)
        have HCI := hide (flI_eq t)
        obtain ⟨bb, off, kv, ha, hbl, c0, c1, c2, c3, c4, hkv⟩ := RT_at HR.out ht
        have c0 := (HB.out.cell (p := ⟨bb, _, none⟩) hbl).trans c0
        have c4 := (HB.out.cell (p := ⟨bb, _, none⟩) hbl).trans c4
        subst ha
        obtain ⟨ka, kcap, rfl, hkr⟩ := hkv
        have HKV : Hid (RT w (.slice ka t.kids.length kcap) t.kids) := hide ⟨ka, kcap, rfl, hkr⟩
        have HIH := hide (fun (W : World) (hW : Below w.heap.size w W) => IH.out (wts t.kids) (by have := HWE.out; have := HWA.out; have := HWL.out; omega) t.kids (.slice ka t.kids.length kcap) W (Nat.le_refl _) (by have := HWE.out; have := HWA.out; have := HWL.out; omega) (RT_later HKV.out hW))
        obtain ⟨s, Hs⟩ : ∃ s, Hid (flL t.kids = s) := ⟨_, hide rfl⟩
        rw [Hs.out] at HIH HCI
        clear hkr ht c1 c2 c3
        cases hte : t.itm.tag.isEmpty with
        | false =>
          have HN : Hid (c + 1 + s = flL (l.take (k + 1))) := by show _ = _; rw [HTK.out, HCI.out, hte, ← HC.out, Nat.add_assoc]; rfl
          have hcb1 : c + 1 + s ≤ 1099511627776 := by rw [HN.out]; exact HCN.out
          have q1 := str_eq_f hte
          have q2 := bytes_nil_f hte
          clear HTK HCI HCN
          go_wp2_with fail
          refine (HIH.out wr HB.out).mono ?_
          rintro e w3 ⟨rfl, hb3⟩
          have B3 := hide (HB.out.trans (hb3.mono HB.out.size))
          clear hb3 c0 c4
          go_wp2_with fail
          go_roundw
          case rel => exact ⟨k + 1, c + 1 + s, by omega, by go_num, by go_num, HN, B3⟩
          case measure => simp [intOf]; omega
        | true =>
          have HN : Hid (c + s = flL (l.take (k + 1))) := by show _ = _; rw [HTK.out, HCI.out, hte, ← HC.out]; simp
          have hcb1 : c + s ≤ 1099511627776 := by rw [HN.out]; exact HCN.out
          have q1 := str_eq_t hte
          have q2 := bytes_nil_t hte
          clear HTK HCI HCN
          go_wp2_with fail
          refine (HIH.out wr HB.out).mono ?_
          rintro e w3 ⟨rfl, hb3⟩
          have B3 := hide (HB.out.trans (hb3.mono HB.out.size))
          clear hb3 c0 c4
          go_wp2_with fail
          go_roundw
          case rel => exact ⟨k + 1, c + s, by omega, by go_num, by go_num, HN, B3⟩
          case measure => simp [intOf]; omega
      · have hk' : k = l.length := by omega
        subst hk'
        have HN : Hid (c = flL l) := by show _ = _; rw [HC.out, List.take_length]
        go_wp2_with fail
        go_ret
        exact ⟨ret_i (by rw [HN.out]), HB.out⟩

set_option maxRecDepth 100000 in
theorem message_any (l : List Tr) (v : Value) (d : Nat) (w : World) (hD : wts l ≤ 1099511627776) (hd : d ≤ 8) (hv : RT w v l) :
    Calls Try.prog 4 #[v, .int .i64 (d : Int)] w fun e w' => (∃ a cap m, e = .returned (.slice a (m : List Tr).length cap) ∧ RT w' (.slice a m.length cap) m ∧ errL m d = 0 ∧ (txtL m).length ≤ 72000) ∧ Below w.heap.size w w' := by
  have B0 := hide ((Below.refl w.heap.size w).alloc (Nat.le_refl _) (.cells #[.int .i64 300] 3))
  have HT := hide (tidy_any w w.heap.size (Nat.le_refl _) (wts l) d l v 300 (w.alloc (.cells #[.int .i64 300] 3)) (Nat.le_refl _) hD (Nat.le_refl _) hd hv B0.out (alloc_new w _))
  obtain ⟨a, cap, rfl, hr⟩ := hv
  clear hr hD
  go_enter Try.func4, Try.ntmps4
  go_wp2_with fail
  refine HT.out.mono ?_
  rintro e w1 ⟨qa, qc, m, n', rfl, hpt, herr, hle, hbk, hlen, hcnt, hmv⟩
  have R1 := hide (PT_rt _ _ _ (Nat.le_refl _) hpt)
  have E1 := hide herr
  have L1 : Hid ((txtL m).length ≤ 72000) := hide (by omega)
  have B1 := hide (Mv.below B0.out hmv (by simp) (Nat.le_refl _) (Nat.le_refl _))
  clear hpt herr hle hbk hlen hcnt hmv HT
  go_wp2_with fail
  go_ret
  exact ⟨⟨qa, qc, m, rfl, R1.out, E1.out, L1.out⟩, B1.out⟩
set_option maxRecDepth 100000 in
set_option maxHeartbeats 4000000 in
theorem back_law (l : List Tr) (v : Value) (w : World) (hD : wts l ≤ 1099511627776) (hv : RT w v l) (hm : ML w) :
    Calls Try.prog 3 #[v] w fun e w' => e = .returned (.bool true) ∧ Below w.heap.size w w' := by
  have HM := hide hm
  have HMS : Hid (Calls Try.prog 4 #[v, .int .i64 0] w fun e w' => (∃ a cap m, e = .returned (.slice a (m : List Tr).length cap) ∧ RT w' (.slice a m.length cap) m ∧ errL m (0 : Nat) = 0 ∧ (txtL m).length ≤ 72000) ∧ Below w.heap.size w w') := hide (message_any l v 0 w hD (by omega) hv)
  have HW := hide (fun (W : World) (h : ML W) => works_any W h)
  obtain ⟨a0, cap0, rfl, hr⟩ := hv
  clear hr hD hm
  go_enter Try.func3, Try.ntmps3
  go_wp2_with fail
  refine HMS.out.mono ?_
  rintro e w1 ⟨⟨a, cap, m, rfl, hrt, herr, hlen⟩, hb1⟩
  have herr0 : errL m 0 = 0 := herr
  have hwm := wts_txt (wts m) m 0 (Nat.le_refl _) herr0
  have hpe : prE m = 0 := by unfold prE; rw [herr0]; simp; omega
  have hpt : prT m = txtL m := by unfold prT; rw [hpe]; rfl
  obtain ⟨n', b', hrd⟩ := rdT_back m herr0
  have R1 := hide hrt
  have B1 := hide hb1
  have HPR := hide (tPrint_any m (.slice a m.length cap) w1 (by omega) hrt)
  rw [hpe, hpt, errV_zero] at HPR
  have HPA := hide (fun (W : World) (h : ML W) => parse_ok (txtL m) m W (by omega) (readsOk (by omega) hrd) h)
  have HSM := hide (fun (va vb : Value) (W : World) (h1 : RT W va m) (h2 : RT W vb m) => sameItems_all (wts m) m m va vb W (Nat.le_refl _) (by omega) h1 h2)
  rw [eqL_refl] at HSM
  have HCT := hide (fun (va : Value) (W : World) (h1 : RT W va m) => count_any (wts m) m va W (Nat.le_refl _) (by omega) h1)
  have HFL := hide (fun (va : Value) (W : World) (h1 : RT W va m) => fields_any (wts m) m va W (Nat.le_refl _) (by omega) h1)
  rw [flL_cnt (wts m) m 0 (Nat.le_refl _) herr0] at HFL
  obtain ⟨cn, HCN⟩ : ∃ cn, Hid (cntL m = cn) := ⟨_, hide rfl⟩
  rw [HCN.out] at HCT HFL
  obtain ⟨T, HTE⟩ : ∃ T, Hid (txtL m = T) := ⟨_, hide rfl⟩
  rw [HTE.out] at HPR HPA
  clear hrt herr hlen hb1 herr0 hwm hpe hpt hrd HMS
  go_wp2_with fail
  refine HPR.out.mono ?_
  rintro e w2 ⟨rfl, hb2⟩
  have B2 := hide (B1.out.trans (hb2.mono B1.out.size))
  have R2 := hide (RT_later R1.out hb2)
  clear hb2 HPR
  go_wp2_with fail
  refine (HPA.out w2 (HM.out.later B2.out)).mono ?_
  rintro e w3 ⟨⟨qa, qc, rfl, hpt⟩, hb3⟩
  have B3 := hide (B2.out.trans (hb3.mono B2.out.size))
  have R3 := hide (RT_later R2.out hb3)
  have M3 := hide (PT_rt _ _ _ (Nat.le_refl _) hpt)
  clear hb3 hpt HPA
  go_wp2_with fail
  refine (HSM.out _ _ w3 M3.out R3.out).mono ?_
  rintro e w4 ⟨rfl, hb4⟩
  have B4 := hide (B3.out.trans (hb4.mono B3.out.size))
  have R4 := hide (RT_later R3.out hb4)
  have M4 := hide (RT_later M3.out hb4)
  clear hb4 HSM
  go_wp2_with fail
  refine (HCT.out _ w4 M4.out).mono ?_
  rintro e w5 ⟨rfl, hb5⟩
  have B5 := hide (B4.out.trans (hb5.mono B4.out.size))
  have R5 := hide (RT_later R4.out hb5)
  clear hb5 HCT
  go_wp2_with fail
  refine (HFL.out _ w5 R5.out).mono ?_
  rintro e w6 ⟨rfl, hb6⟩
  have B6 := hide (B5.out.trans (hb6.mono B5.out.size))
  clear hb6 HFL
  go_wp2_with fail
  refine (HW.out w6 (HM.out.later B6.out)).mono ?_
  rintro e w7 ⟨rfl, hb7⟩
  have B7 := hide (B6.out.trans (hb7.mono B6.out.size))
  clear hb7
  go_wp2_with fail
  go_ret
  exact ⟨rfl, B7.out⟩
end Go.Proofs.Ythlkplhgohegbaa
