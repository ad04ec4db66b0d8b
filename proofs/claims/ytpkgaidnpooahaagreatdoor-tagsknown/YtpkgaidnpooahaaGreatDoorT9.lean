/-
  My own text: T8, T9 in one.
-/
import Derived.Test.YtpkgaidnpooahaaGreatDoorT7
import Derived.Deep.Draws
namespace Go.Proofs.YtpkgaidnpooahaaGreatDoor
open Go.RowKit

mutual
def paI : Tr → Int → Int
  | .mk _ l, m => paL l m 0
def paL : List Tr → Int → Int → Int
  | [], _, n => n
  | a :: r, m, n => if n < m then paL r m (n + 1 + paI a (m - n)) else n
end
mutual
def szI : Tr → Nat
  | .mk i l => i.tag.length + i.qual.length + i.text.length + i.name.length + szL l 0
def szL : List Tr → Nat → Nat
  | [], n => n
  | a :: r, n => if n ≤ 16777216 then szL r (n + szI a) else n
end
theorem paI_eq (a : Tr) (m : Int) : paI a m = paL a.kids m 0 := by cases a; simp [paI, Tr.kids]
theorem szI_eq (a : Tr) : szI a = a.itm.tag.length + a.itm.qual.length + a.itm.text.length + a.itm.name.length + szL a.kids 0 := by cases a; simp [szI, Tr.itm, Tr.kids]
theorem paL_cons (a : Tr) (r : List Tr) (m n : Int) : paL (a :: r) m n = if n < m then paL r m (n + 1 + paI a (m - n)) else n := by rw [paL]
theorem szL_cons (a : Tr) (r : List Tr) (n : Nat) : szL (a :: r) n = if n ≤ 16777216 then szL r (n + szI a) else n := by rw [szL]
theorem paL_le : ∀ (d : Nat) (l : List Tr), wts l ≤ d → ∀ m n : Int, n ≤ paL l m n ∧ paL l m n ≤ n + wts l := by
  intro d
  induction d using Nat.strongRecOn with
  | ind d ih =>
    intro l
    induction l with
    | nil => intro _ m n; simp [paL, wts]
    | cons a r ihr =>
      intro hd m n
      rw [wts_cons] at hd ⊢
      have hw := wt_eq a
      rw [paL_cons]
      split
      · have h1 := ih (wts a.kids) (by omega) a.kids (Nat.le_refl _) (m - n) 0
        rw [← paI_eq] at h1
        have h2 := ihr (by omega) m (n + 1 + paI a (m - n))
        omega
      · omega
theorem szL_le : ∀ (d : Nat) (l : List Tr), wts l ≤ d → ∀ n : Nat, n ≤ szL l n ∧ szL l n ≤ n + wts l := by
  intro d
  induction d using Nat.strongRecOn with
  | ind d ih =>
    intro l
    induction l with
    | nil => intro _ n; simp [szL, wts]
    | cons a r ihr =>
      intro hd n
      rw [wts_cons] at hd ⊢
      have hw := wt_eq a
      rw [szL_cons]
      split
      · have h1 := ih (wts a.kids) (by omega) a.kids (Nat.le_refl _) 0
        have h3 := szI_eq a
        have h2 := ihr (by omega) (n + szI a)
        omega
      · omega
theorem paL_step {l : List Tr} {k : Nat} {a : Tr} {m n : Int} (h : l[k]? = some a) : paL (l.drop k) m n = if n < m then paL (l.drop (k + 1)) m (n + 1 + paI a (m - n)) else n := by rw [drop_cons h, paL_cons]
theorem szL_step {l : List Tr} {k : Nat} {a : Tr} {n : Nat} (h : l[k]? = some a) : szL (l.drop k) n = if n ≤ 16777216 then szL (l.drop (k + 1)) (n + szI a) else n := by rw [drop_cons h, szL_cons]
set_option maxRecDepth 100000 in
set_option maxHeartbeats 2000000 in
theorem parts_any : ∀ (d : Nat) (l : List Tr) (v : Value) (m : Int) (w : World), wts l ≤ d → d ≤ 1099511627776 → -1099511627776 ≤ m → m ≤ 1099511627776 → RT w v l →
    Calls Tryz.prog 55 #[v, .int .i64 m] w fun e w' => e = .returned (.int .i64 (paL l m 0)) ∧ w' = w := by
  intro d
  induction d using Nat.strongRecOn with
  | ind d ih =>
    intro l v m w hd hd2 hm1 hm2 hv
    have IH := hide ih
    obtain ⟨a, cap, rfl, hr⟩ := hv
    have HR := hide hr
    clear hr ih
    have hll : l.length ≤ 1099511627776 := by have := wts_len l; omega
    go_enter Tryz.func55, Tryz.ntmps55
    go_wp2_with fail
    go_loop [5, 6] (fun nn i => ∃ (k : Nat) (n : Int), k ≤ l.length ∧ i = .int .i64 k ∧ nn = .int .i64 n ∧ 0 ≤ n ∧ Hid (n + wts (l.drop k) ≤ wts l) ∧ Hid (paL l m 0 = paL (l.drop k) m n)) (fun _ i => l.length - (intOf i).toNat)
    case atStart => exact ⟨0, 0, Nat.zero_le _, rfl, rfl, by omega, hide (by simp), hide (by simp)⟩
    case round =>
      obtain ⟨k, n, hk, rfl, rfl, hn0, HW, HP⟩ := hrel
      have hnw : n ≤ 1099511627776 := by have := HW.out; omega
      by_cases hlt : k < l.length
      · obtain ⟨t, ht⟩ : ∃ t, l[k]? = some t := ⟨_, List.getElem?_eq_getElem hlt⟩
        have HST := hide (paL_step (m := m) (n := n) ht)
        have HWD := hide (wts_drop ht)
        have HWE := hide (wt_eq t)
        have HWA := hide (wts_at ht)
        obtain ⟨b, off, kv, ha, hbl, _, _, _, _, c4, hkv⟩ := RT_at HR.out ht
        have HKV := hide hkv
        subst ha
        clear hkv ht
        cases hnm : decide (n < m)
        · have HE : Hid (paL l m 0 = n) := by show _ = _; rw [HP.out, HST.out, if_neg (of_decide_eq_false hnm)]
          go_wp2_with fail
          go_ret
          exact ⟨ret_i HE.out, rfl⟩
        · have hnm' := of_decide_eq_true hnm
          have HIH := hide (IH.out (wts t.kids) (by have := HWE.out; have := HWA.out; omega) t.kids kv (m - n) w (Nat.le_refl _) (by have := HWE.out; have := HWA.out; omega) (by omega) (by omega) HKV.out)
          have HPI := hide (paI_eq t (m - n))
          have HB := hide (paL_le (wts t.kids) t.kids (Nat.le_refl _) (m - n) 0)
          rw [← HPI.out] at HIH HB
          have HN : Hid (paL l m 0 = paL (l.drop (k + 1)) m (n + 1 + paI t (m - n))) := by show _ = _; rw [HP.out, HST.out, if_pos hnm']
          obtain ⟨q, Hq⟩ : ∃ q, Hid (paI t (m - n) = q) := ⟨_, hide rfl⟩
          rw [Hq.out] at HIH HB HN
          have hq0 : 0 ≤ q := HB.out.1
          have hq1 : q ≤ 1099511627776 := by have := HB.out.2; have := HWE.out; have := HWA.out; omega
          have HW2 : Hid (n + 1 + q + wts (l.drop (k + 1)) ≤ wts l) := by
            show _ ≤ _
            have h1 := HW.out; have h2 := HWD.out; have h3 := HWE.out; have h4 := HB.out.2
            omega
          clear HP HST Hq HPI
          go_wp2_with fail
          refine HIH.out.mono ?_
          rintro e w' ⟨rfl, rfl⟩
          go_wp2_with fail
          go_round
          case rel => exact ⟨k + 1, n + 1 + q, by omega, by go_num, rfl, by omega, HW2, HN⟩
          case measure => simp [intOf]; omega
      · have hk' : k = l.length := by omega
        subst hk'
        have HE : Hid (paL l m 0 = n) := by show _ = _; rw [HP.out, List.drop_length]; rw [paL]
        go_wp2_with fail
        go_ret
        exact ⟨ret_i HE.out, rfl⟩
end Go.Proofs.YtpkgaidnpooahaaGreatDoor
namespace Go.Proofs.YtpkgaidnpooahaaGreatDoor
open Go.RowKit

theorem RT_drew {w : World} {v : Value} {l : List Tr} (h : RT w v l) (q : Nat) : RT (w.drewN q) v l := RT_later h ⟨rfl, rfl, rfl, Nat.le_refl _, fun _ _ => rfl⟩
set_option maxRecDepth 100000 in
set_option maxHeartbeats 4000000 in
theorem size_any : ∀ (d : Nat) (l : List Tr) (v : Value) (w : World), wts l ≤ d → d ≤ 1099511627776 → RT w v l →
    Calls Tryz.prog 56 #[v] w fun e w' => e = .returned (.int .i64 (szL l 0 : Int)) ∧ ∃ q, w' = w.drewN q := by
  intro d
  induction d using Nat.strongRecOn with
  | ind d ih =>
    intro l v w hd hd2 hv
    have IH := hide ih
    obtain ⟨a, cap, rfl, hr⟩ := hv
    have HR := hide hr
    clear hr ih
    have hll : l.length ≤ 1099511627776 := by have := wts_len l; omega
    go_enter Tryz.func56, Tryz.ntmps56
    go_wp2_with fail
    go_loopw [3, 4] (fun nn i wr => ∃ (k n q : Nat), k ≤ l.length ∧ i = .int .i64 k ∧ nn = .int .i64 n ∧ Hid (n + wts (l.drop k) ≤ wts l) ∧ Hid (szL l 0 = szL (l.drop k) n) ∧ Hid (wr = w.drewN q)) (fun _ i _ => l.length - (intOf i).toNat)
    case atStart => exact ⟨0, 0, 0, Nat.zero_le _, rfl, rfl, hide (by simp), hide (by simp), hide rfl⟩
    case round =>
      obtain ⟨k, n, q, hk, rfl, rfl, HW, HP, HQ⟩ := hrel
      have hnw : n ≤ 1099511627776 := by have := HW.out; omega
      by_cases hlt : k < l.length
      · obtain ⟨t, ht⟩ : ∃ t, l[k]? = some t := ⟨_, List.getElem?_eq_getElem hlt⟩
        have HST := hide (szL_step (n := n) ht)
        have HWD := hide (wts_drop ht)
        have HWE := hide (wt_eq t)
        have HWA := hide (wts_at ht)
        obtain ⟨b, off, kv, ha, hbl, c0, c1, c2, c3, c4, hkv⟩ := RT_at HR.out ht
        have HKV := hide hkv
        subst ha
        have c0 : wr.cell? ⟨b, off + k * 5, none⟩ = some (.string ⟨t.itm.tag.toArray⟩) := by rw [HQ.out]; exact c0
        have c1 : wr.cell? ⟨b, off + k * 5 + 1, none⟩ = some (.string ⟨t.itm.qual.toArray⟩) := by rw [HQ.out]; exact c1
        have c2 : wr.cell? ⟨b, off + k * 5 + 2, none⟩ = some (.string ⟨t.itm.text.toArray⟩) := by rw [HQ.out]; exact c2
        have c3 : wr.cell? ⟨b, off + k * 5 + 3, none⟩ = some (.string ⟨t.itm.name.toArray⟩) := by rw [HQ.out]; exact c3
        have c4 : wr.cell? ⟨b, off + k * 5 + 4, none⟩ = some kv := by rw [HQ.out]; exact c4
        clear hkv ht
        cases hnm : decide (n ≤ 16777216)
        · have hnmI : decide ((n : Int) ≤ 16777216) = false := decide_eq_false (by have := of_decide_eq_false hnm; omega)
          have HE : Hid (szL l 0 = n) := by show _ = _; rw [HP.out, HST.out, if_neg (of_decide_eq_false hnm)]
          go_wp2_with fail
          go_ret
          exact ⟨ret_i (by rw [HE.out]), q, HQ.out⟩
        · have hnm' := of_decide_eq_true hnm
          have hnmI : decide ((n : Int) ≤ 16777216) = true := decide_eq_true (by omega)
          have HIH := hide (fun (p : Nat) => IH.out (wts t.kids) (by have := HWE.out; have := HWA.out; omega) t.kids kv (wr.drewN p) (Nat.le_refl _) (by have := HWE.out; have := HWA.out; omega) (by rw [HQ.out, World.drewN_drewN]; exact RT_drew HKV.out _))
          have HSI := hide (szI_eq t)
          have HB := hide (szL_le (wts t.kids) t.kids (Nat.le_refl _) 0)
          have HN : Hid (szL l 0 = szL (l.drop (k + 1)) (n + szI t)) := by show _ = _; rw [HP.out, HST.out, if_pos hnm']
          rw [HSI.out] at HN
          obtain ⟨s, Hs⟩ : ∃ s, Hid (szL t.kids 0 = s) := ⟨_, hide rfl⟩
          rw [Hs.out] at HIH HB HN
          have HW2 : Hid (n + (t.itm.tag.length + t.itm.qual.length + t.itm.text.length + t.itm.name.length + s) + wts (l.drop (k + 1)) ≤ wts l) := by
            show _ ≤ _
            have h1 := HW.out; have h2 := HWD.out; have h3 := HWE.out; have h4 := HB.out.2
            omega
          have HC : Hid (∀ p : Nat, Calls Tryz.prog 56 #[kv] (wr.drewN p) fun e w'' => e = .returned (.int .i64 (s : Int)) ∧ ∃ m, w'' = wr.drewN m) := hide (fun p => (HIH.out p).mono (fun e w'' ⟨h1, m, h2⟩ => ⟨h1, p + m, by rw [h2, World.drewN_drewN]⟩))
          generalize t.itm.tag = tg at *
          generalize t.itm.qual = ql at *
          generalize t.itm.text = tx at *
          generalize t.itm.name = nm at *
          have hb1 : n + (tg.length + ql.length + tx.length + nm.length + s) ≤ 1099511627776 := by have := HW2.out; omega
          clear HP HST Hs HSI HIH HB HWE HWA HWD
          go_wp2_with fail
          go_quiet (first | (go_at_call 56; exact HC.out _))
          go_wp2_with fail
          go_roundw
          case rel => exact ⟨k + 1, n + (tg.length + ql.length + tx.length + nm.length + s), q + nq, by omega, by go_num, by go_num, HW2, HN, hide (by rw [HQ.out, World.drewN_drewN])⟩
          case measure => simp [intOf]; omega
      · have hk' : k = l.length := by omega
        subst hk'
        have HE : Hid (szL l 0 = n) := by show _ = _; rw [HP.out, List.drop_length]; rw [szL]
        go_wp2_with fail
        go_ret
        exact ⟨ret_i (by rw [HE.out]), q, HQ.out⟩
set_option maxRecDepth 100000 in
set_option maxHeartbeats 2000000 in
theorem few_any (l : List Tr) (v : Value) (w : World) (hd : wts l ≤ 1099511627776) (hv : RT w v l) :
    Calls Tryz.prog 29 #[v] w fun e w' => (∃ b, e = .returned (.bool b)) ∧ ∃ q, w' = w.drewN q := by
  have HPA := hide (parts_any (wts l) l v 10000 w (Nat.le_refl _) hd (by omega) (by omega) hv)
  have HSZ := hide (size_any (wts l) l v w (Nat.le_refl _) hd hv)
  clear hv
  generalize paL l 10000 0 = p at *
  generalize szL l 0 = s at *
  cases h1 : decide (p < 10000)
  · go_enter Tryz.func29, Tryz.ntmps29
    go_wp2_with fail
    refine HPA.out.mono ?_
    rintro e w' ⟨rfl, rfl⟩
    go_wp2_with fail
    go_ret
    exact ⟨⟨_, rfl⟩, 0, rfl⟩
  · go_enter Tryz.func29, Tryz.ntmps29
    go_wp2_with fail
    refine HPA.out.mono ?_
    rintro e w' ⟨rfl, rfl⟩
    go_wp2_with fail
    refine HSZ.out.mono ?_
    rintro e w1 ⟨rfl, q, rfl⟩
    go_wp2_with fail
    go_ret
    exact ⟨⟨_, rfl⟩, q, rfl⟩
end Go.Proofs.YtpkgaidnpooahaaGreatDoor
