/-
  My own text: how many bytes a message has; is it small?
-/
import Derived.Test.YtklhbhhkooddoaaT8
import Derived.Deep.Draws
namespace Go.Proofs.Ytklhbhhkooddoaa
open Go.RowKit

theorem RT_drew {w : World} {v : Value} {l : List Tr} (h : RT w v l) (q : Nat) : RT (w.drewN q) v l := RT_later h ⟨rfl, rfl, rfl, Nat.le_refl _, fun _ _ => rfl⟩
set_option maxRecDepth 100000 in
set_option maxHeartbeats 4000000 in
theorem size_any : ∀ (d : Nat) (l : List Tr) (v : Value) (w : World), wts l ≤ d → d ≤ 1099511627776 → RT w v l →
    Calls Try.prog 18 #[v] w fun e w' => e = .returned (.int .i64 (szL l 0 : Int)) ∧ ∃ q, w' = w.drewN q := by
  intro d
  induction d using Nat.strongRecOn with
  | ind d ih =>
    intro l v w hd hd2 hv
    have IH := hide ih
    obtain ⟨a, cap, rfl, hr⟩ := hv
    have HR := hide hr
    clear hr ih
    have hll : l.length ≤ 1099511627776 := by have := wts_len l; omega
    go_enter Try.func18, Try.ntmps18
    go_wp2_with fail
    go_loopw [3, 4] (fun nn i wr => ∃ (k n q : Nat), k ≤ l.length ∧ i = .int .i64 k ∧ nn = .int .i64 n ∧ Hid (n + wts (l.drop k) ≤ wts l) ∧ Hid (szL l 0 = szL (l.drop k) n) ∧ Hid (wr = w.drewN q)) (fun _ i _ => l.length - (intOf i).toNat)
    case atStart => exact ⟨0, 0, 0, Nat.zero_le _, rfl, rfl, hide (by simp), hide (by simp), hide rfl⟩
    case round =>
      obtain ⟨k, n, q, hk, rfl, rfl, HW, HP, HQ⟩ := hrel
      have hnw : n ≤ 1099511627776 := by have := HW.out; omega
      by_cases hlt : k < l.length
      · obtain ⟨t, ht⟩ : ∃ t, l[k]? = some t := ⟨_, List.getElem?_eq_getElem hlt⟩
        have HST := hide (szL_step (n := n) ht)
        have HWD := hide (wts_drop ht)
        have HWE := hide (wt_eq t)
        have HWA := hide (wts_at ht)
        obtain ⟨b, off, kv, ha, hbl, c0, c1, c2, c3, c4, hkv⟩ := RT_at HR.out ht
        have HKV := hide hkv
        subst ha
        have c0 : wr.cell? ⟨b, off + k * 5, none⟩ = some (.string ⟨t.itm.tag.toArray⟩) := by rw [HQ.out]; exact c0
        have c1 : wr.cell? ⟨b, off + k * 5 + 1, none⟩ = some (.string ⟨t.itm.qual.toArray⟩) := by rw [HQ.out]; exact c1
        have c2 : wr.cell? ⟨b, off + k * 5 + 2, none⟩ = some (.string ⟨t.itm.text.toArray⟩) := by rw [HQ.out]; exact c2
        have c3 : wr.cell? ⟨b, off + k * 5 + 3, none⟩ = some (.string ⟨t.itm.name.toArray⟩) := by rw [HQ.out]; exact c3
        have c4 : wr.cell? ⟨b, off + k * 5 + 4, none⟩ = some kv := by rw [HQ.out]; exact c4
        clear hkv ht
        cases hnm : decide (n ≤ 16777216)
        · have hnmI : decide ((n : Int) ≤ 16777216) = false := decide_eq_false (by have := of_decide_eq_false hnm; omega)
          have HE : Hid (szL l 0 = n) := by show _ = _; rw [HP.out, HST.out, if_neg (of_decide_eq_false hnm)]
          go_wp2_with fail
          go_ret
          exact ⟨ret_i (by rw [HE.out]), q, HQ.out⟩
        · have hnm' := of_decide_eq_true hnm
          have hnmI : decide ((n : Int) ≤ 16777216) = true := decide_eq_true (by omega)
          have HIH := hide (fun (p : Nat) => IH.out (wts t.kids) (by have := HWE.out; have := HWA.out; omega) t.kids kv (wr.drewN p) (Nat.le_refl _) (by have := HWE.out; have := HWA.out; omega) (by rw [HQ.out, World.drewN_drewN]; exact RT_drew HKV.out _))
          have HSI := hide (szI_eq t)
          have HB := hide (szL_le (wts t.kids) t.kids (Nat.le_refl _) 0)
          have HN : Hid (szL l 0 = szL (l.drop (k + 1)) (n + szI t)) := by show _ = _; rw [HP.out, HST.out, if_pos hnm']
          rw [HSI.out] at HN
          obtain ⟨s, Hs⟩ : ∃ s, Hid (szL t.kids 0 = s) := ⟨_, hide rfl⟩
          rw [Hs.out] at HIH HB HN
          have HW2 : Hid (n + (t.itm.tag.length + t.itm.qual.length + t.itm.text.length + t.itm.name.length + s) + wts (l.drop (k + 1)) ≤ wts l) := by
            show _ ≤ _
            have h1 := HW.out; have h2 := HWD.out; have h3 := HWE.out; have h4 := HB.out.2
            omega
          have HC : Hid (∀ p : Nat, Calls Try.prog 18 #[kv] (wr.drewN p) fun e w'' => e = .returned (.int .i64 (s : Int)) ∧ ∃ m, w'' = wr.drewN m) := hide (fun p => (HIH.out p).mono (fun e w'' ⟨h1, m, h2⟩ => ⟨h1, p + m, by rw [h2, World.drewN_drewN]⟩))
          generalize t.itm.tag = tg at *
          generalize t.itm.qual = ql at *
          generalize t.itm.text = tx at *
          generalize t.itm.name = nm at *
          have hb1 : n + (tg.length + ql.length + tx.length + nm.length + s) ≤ 1099511627776 := by have := HW2.out; omega
          clear HP HST Hs HSI HIH HB HWE HWA HWD
          go_wp2_with fail
          go_quiet (first | (go_at_call 18; exact HC.out _))
          go_wp2_with fail
          go_roundw
          case rel => exact ⟨k + 1, n + (tg.length + ql.length + tx.length + nm.length + s), q + nq, by omega, by go_num, by go_num, HW2, HN, hide (by rw [HQ.out, World.drewN_drewN])⟩
          case measure => simp [intOf]; omega
      · have hk' : k = l.length := by omega
        subst hk'
        have HE : Hid (szL l 0 = n) := by show _ = _; rw [HP.out, List.drop_length]; rw [szL]
        go_wp2_with fail
        go_ret
        exact ⟨ret_i (by rw [HE.out]), q, HQ.out⟩
set_option maxRecDepth 100000 in
set_option maxHeartbeats 2000000 in
theorem few_any (l : List Tr) (v : Value) (w : World) (hd : wts l ≤ 1099511627776) (hv : RT w v l) :
    Calls Try.prog 4 #[v] w fun e w' => (∃ b, e = .returned (.bool b)) ∧ ∃ q, w' = w.drewN q := by
  have HPA := hide (parts_any (wts l) l v 10000 w (Nat.le_refl _) hd (by omega) (by omega) hv)
  have HSZ := hide (size_any (wts l) l v w (Nat.le_refl _) hd hv)
  clear hv
  generalize paL l 10000 0 = p at *
  generalize szL l 0 = s at *
  cases h1 : decide (p < 10000)
  · go_enter Try.func4, Try.ntmps4
    go_wp2_with fail
    refine HPA.out.mono ?_
    rintro e w' ⟨rfl, rfl⟩
    go_wp2_with fail
    go_ret
    exact ⟨⟨_, rfl⟩, 0, rfl⟩
  · go_enter Try.func4, Try.ntmps4
    go_wp2_with fail
    refine HPA.out.mono ?_
    rintro e w' ⟨rfl, rfl⟩
    go_wp2_with fail
    refine HSZ.out.mono ?_
    rintro e w1 ⟨rfl, q, rfl⟩
    go_wp2_with fail
    go_ret
    exact ⟨⟨_, rfl⟩, q, rfl⟩
end Go.Proofs.Ytklhbhhkooddoaa
