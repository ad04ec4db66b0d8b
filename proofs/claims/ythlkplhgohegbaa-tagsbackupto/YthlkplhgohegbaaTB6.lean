/-
  My own text: how many fields a message has, told the document's way.
-/
import Derived.Test.YthlkplhgohegbaaQC
import Derived.Test.YthlkplhgohegbaaQF
namespace Go.Proofs.Ythlkplhgohegbaa
open Go.RowKit

mutual
def flI : Tr → Nat
  | .mk i k => (if i.tag.isEmpty then 0 else 1) + flL k
def flL : List Tr → Nat
  | [] => 0
  | a :: r => flI a + flL r
end
theorem flI_eq (a : Tr) : flI a = (if a.itm.tag.isEmpty then 0 else 1) + flL a.kids := by cases a; rw [flI]; rfl
theorem flL_cons (a : Tr) (r : List Tr) : flL (a :: r) = flI a + flL r := by rw [flL]
theorem flL_app (x y : List Tr) : flL (x ++ y) = flL x + flL y := by
  induction x with
  | nil => simp [flL]
  | cons a r ih => rw [List.cons_append, flL_cons, flL_cons, ih, Nat.add_assoc]
theorem flL_take {l : List Tr} {k : Nat} {a : Tr} (h : l[k]? = some a) : flL (l.take (k + 1)) = flL (l.take k) + flI a := by
  rw [List.take_add_one, h, flL_app]; simp [flL]
theorem flL_le : ∀ (D : Nat) (l : List Tr), wts l ≤ D → flL l ≤ wts l := by
  intro D
  induction D using Nat.strongRecOn with
  | ind D ih =>
    intro l
    induction l with
    | nil => intro _; simp [flL, wts]
    | cons a r ihr =>
      intro hD
      rw [wts_cons] at hD ⊢
      have hw := wt_eq a
      have h2 := ihr (by omega)
      have h3 := ih (wts a.kids) (by omega) a.kids (Nat.le_refl _)
      rw [flL_cons, flI_eq]
      split <;> omega
theorem flL_take_le (l : List Tr) (k : Nat) : flL (l.take k) ≤ flL l := by
  conv => rhs; rw [← List.take_append_drop k l]
  rw [flL_app]; omega
/-- Of a message both ways of counting tell the same. -/
theorem flL_cnt : ∀ (D : Nat) (l : List Tr) (d : Int), wts l ≤ D → errL l d = 0 → flL l = cntL l := by
  intro D
  induction D using Nat.strongRecOn with
  | ind D ih =>
    intro l
    induction l with
    | nil => intro d _ _; simp [flL, cntL]
    | cons a r ihr =>
      intro d hD he
      obtain ⟨g1, g2⟩ := errL_left (x := [a]) (y := r) he
      rw [errL_one] at g1
      rw [wts_cons] at hD
      have hw := wt_eq a
      have h2 := ihr d (by omega) g2
      have e := errI_eq a d
      rw [g1] at e
      have hi : itemE a.itm a.kids.length d = 0 := by
        by_cases hz : itemE a.itm a.kids.length d = 0
        · exact hz
        · rw [if_pos hz] at e; exact absurd e.symm hz
      rw [flL_cons, cntL_cons, h2, flI_eq, cntI_eq]
      cases hta : a.itm.tag.isEmpty with
      | false =>
        rw [itemE_field hta] at hi
        obtain ⟨_, _, _, q4, _⟩ := fE_zero hi
        have hk : a.kids = [] := List.length_eq_zero_iff.1 (of_decide_eq_true q4)
        rw [hk]; simp [flL]
      | true =>
        rw [hta, hi] at e
        simp only [ne_eq, not_true, if_false, Bool.not_true, Bool.false_eq_true] at e
        have h3 := ih (wts a.kids) (by omega) a.kids (d + 1) (Nat.le_refl _) e.symm
        have hne : a.itm.name.isEmpty = false := by
          cases hn : a.itm.name.isEmpty with
          | false => rfl
          | true => rw [itemE_none hta hn] at hi; omega
        rw [hne, h3]; simp
set_option maxRecDepth 100000 in
set_option maxHeartbeats 4000000 in
theorem fields_any : ∀ (D : Nat) (l : List Tr) (v : Value) (w : World), wts l ≤ D → D ≤ 1099511627776 → RT w v l →
    Calls Try.prog 9 #[v] w fun e w' => e = .returned (.int .i64 (flL l : Int)) ∧ Below w.heap.size w w' := by
  intro D
  induction D using Nat.strongRecOn with
  | ind D ih =>
    intro l v w hD hD2 hv
    have IH := hide ih
    obtain ⟨a, cap, rfl, hr⟩ := hv
    have HR := hide hr
    have HWL : Hid (wts l ≤ D ∧ D ≤ 1099511627776) := hide ⟨hD, hD2⟩
    clear hr ih
    have hll : l.length ≤ 1099511627776 := by have := wts_len l; omega
    have HCL := hide (Nat.le_trans (flL_le _ l (Nat.le_refl _)) (Nat.le_trans hD hD2))
    clear hD hD2
    go_enter Try.func9, Try.ntmps9
    go_wp2_with fail
    go_loopw [3, 4] (fun n i wr => ∃ k c : Nat, k ≤ l.length ∧ i = .int .i64 k ∧ n = .int .i64 c ∧ Hid (c = flL (l.take k)) ∧ Hid (Below w.heap.size w wr)) (fun _ i _ => l.length - (intOf i).toNat)
    case atStart => exact ⟨0, 0, Nat.zero_le _, rfl, rfl, hide (by simp [flL]), hide (Below.refl _ _)⟩
    case round =>
      obtain ⟨k, c, hk, rfl, rfl, HC, HB⟩ := hrel
      by_cases hlt : k < l.length
      · obtain ⟨t, ht⟩ : ∃ t, l[k]? = some t := ⟨_, List.getElem?_eq_getElem hlt⟩
        have HTK := hide (flL_take ht)
        have HCN : Hid (flL (l.take (k + 1)) ≤ 1099511627776) := hide (Nat.le_trans (flL_take_le _ _) HCL.out)
        have HWE := hide (wt_eq t)
        have HWA := hide (wts_at ht)
        have HCI := hide (flI_eq t)
        obtain ⟨bb, off, kv, ha, hbl, c0, c1, c2, c3, c4, hkv⟩ := RT_at HR.out ht
        have c0 := (HB.out.cell (p := ⟨bb, _, none⟩) hbl).trans c0
        have c4 := (HB.out.cell (p := ⟨bb, _, none⟩) hbl).trans c4
        subst ha
        obtain ⟨ka, kcap, rfl, hkr⟩ := hkv
        have HKV : Hid (RT w (.slice ka t.kids.length kcap) t.kids) := hide ⟨ka, kcap, rfl, hkr⟩
        have HIH := hide (fun (W : World) (hW : Below w.heap.size w W) => IH.out (wts t.kids) (by have := HWE.out; have := HWA.out; have := HWL.out; omega) t.kids (.slice ka t.kids.length kcap) W (Nat.le_refl _) (by have := HWE.out; have := HWA.out; have := HWL.out; omega) (RT_later HKV.out hW))
        obtain ⟨s, Hs⟩ : ∃ s, Hid (flL t.kids = s) := ⟨_, hide rfl⟩
        rw [Hs.out] at HIH HCI
        clear hkr ht c1 c2 c3
        cases hte : t.itm.tag.isEmpty with
        | false =>
          have HN : Hid (c + 1 + s = flL (l.take (k + 1))) := by show _ = _; rw [HTK.out, HCI.out, hte, ← HC.out, Nat.add_assoc]; rfl
          have hcb1 : c + 1 + s ≤ 1099511627776 := by rw [HN.out]; exact HCN.out
          have q1 := str_eq_f hte
          have q2 := bytes_nil_f hte
          clear HTK HCI HCN
          go_wp2_with fail
          refine (HIH.out wr HB.out).mono ?_
          rintro e w3 ⟨rfl, hb3⟩
          have B3 := hide (HB.out.trans (hb3.mono HB.out.size))
          clear hb3 c0 c4
          go_wp2_with fail
          go_roundw
          case rel => exact ⟨k + 1, c + 1 + s, by omega, by go_num, by go_num, HN, B3⟩
          case measure => simp [intOf]; omega
        | true =>
          have HN : Hid (c + s = flL (l.take (k + 1))) := by show _ = _; rw [HTK.out, HCI.out, hte, ← HC.out]; simp
          have hcb1 : c + s ≤ 1099511627776 := by rw [HN.out]; exact HCN.out
          have q1 := str_eq_t hte
          have q2 := bytes_nil_t hte
          clear HTK HCI HCN
          go_wp2_with fail
          refine (HIH.out wr HB.out).mono ?_
          rintro e w3 ⟨rfl, hb3⟩
          have B3 := hide (HB.out.trans (hb3.mono HB.out.size))
          clear hb3 c0 c4
          go_wp2_with fail
          go_roundw
          case rel => exact ⟨k + 1, c + s, by omega, by go_num, by go_num, HN, B3⟩
          case measure => simp [intOf]; omega
      · have hk' : k = l.length := by omega
        subst hk'
        have HN : Hid (c = flL l) := by show _ = _; rw [HC.out, List.take_length]
        go_wp2_with fail
        go_ret
        exact ⟨ret_i (by rw [HN.out]), HB.out⟩
end Go.Proofs.Ythlkplhgohegbaa
