/-
  My own text: how many fields a message has.
-/
import Derived.Test.YtklhbhhkooddoaaT7
namespace Go.Proofs.Ytklhbhhkooddoaa
open Go.RowKit

mutual
def cntI : Tr → Nat
  | .mk i k => if !i.tag.isEmpty then 1 else if i.name.isEmpty then 0 else cntL k
def cntL : List Tr → Nat
  | [] => 0
  | a :: r => cntI a + cntL r
end
theorem cntI_eq (a : Tr) : cntI a = if !a.itm.tag.isEmpty then 1 else if a.itm.name.isEmpty then 0 else cntL a.kids := by cases a; rw [cntI]; rfl
theorem cntL_cons (a : Tr) (r : List Tr) : cntL (a :: r) = cntI a + cntL r := by rw [cntL]
theorem cntL_app (x y : List Tr) : cntL (x ++ y) = cntL x + cntL y := by
  induction x with
  | nil => simp [cntL]
  | cons a r ih => rw [List.cons_append, cntL_cons, cntL_cons, ih, Nat.add_assoc]
theorem cntL_take {l : List Tr} {k : Nat} {a : Tr} (h : l[k]? = some a) : cntL (l.take (k + 1)) = cntL (l.take k) + cntI a := by
  rw [List.take_add_one, h, cntL_app]; simp [cntL]
theorem cntL_le : ∀ (D : Nat) (l : List Tr), wts l ≤ D → cntL l ≤ wts l := by
  intro D
  induction D using Nat.strongRecOn with
  | ind D ih =>
    intro l
    induction l with
    | nil => intro _; simp [cntL, wts]
    | cons a r ihr =>
      intro hD
      rw [wts_cons] at hD ⊢
      have hw := wt_eq a
      have h2 := ihr (by omega)
      have h3 := ih (wts a.kids) (by omega) a.kids (Nat.le_refl _)
      rw [cntL_cons, cntI_eq]
      split
      · omega
      · split
        · omega
        · omega
theorem cntL_take_le (l : List Tr) (k : Nat) : cntL (l.take k) ≤ cntL l := by
  conv => rhs; rw [← List.take_append_drop k l]
  rw [cntL_app]; omega
set_option maxRecDepth 100000 in
set_option maxHeartbeats 4000000 in
theorem count_any : ∀ (D : Nat) (l : List Tr) (v : Value) (w : World), wts l ≤ D → D ≤ 1099511627776 → RT w v l →
    Calls Try.prog 12 #[v] w fun e w' => e = .returned (.int .i64 (cntL l : Int)) ∧ Below w.heap.size w w' := by
  intro D
  induction D using Nat.strongRecOn with
  | ind D ih =>
    intro l v w hD hD2 hv
    have IH := hide ih
    obtain ⟨a, cap, rfl, hr⟩ := hv
    have HR := hide hr
    have HWL : Hid (wts l ≤ D ∧ D ≤ 1099511627776) := hide ⟨hD, hD2⟩
    clear hr ih
    have hll : l.length ≤ 1099511627776 := by have := wts_len l; omega
    have HCL := hide (Nat.le_trans (cntL_le _ l (Nat.le_refl _)) (Nat.le_trans hD hD2))
    clear hD hD2
    go_enter Try.func12, Try.ntmps12
    go_wp2_with fail
    go_loopw [3, 8] (fun n i wr => ∃ k c : Nat, k ≤ l.length ∧ i = .int .i64 k ∧ n = .int .i64 c ∧ Hid (c = cntL (l.take k)) ∧ Hid (Below w.heap.size w wr)) (fun _ i _ => l.length - (intOf i).toNat)
    case atStart => exact ⟨0, 0, Nat.zero_le _, rfl, rfl, hide (by simp [cntL]), hide (Below.refl _ _)⟩
    case round =>
      obtain ⟨k, c, hk, rfl, rfl, HC, HB⟩ := hrel
      by_cases hlt : k < l.length
      · obtain ⟨t, ht⟩ : ∃ t, l[k]? = some t := ⟨_, List.getElem?_eq_getElem hlt⟩
        have HTK := hide (cntL_take ht)
        have HCN : Hid (cntL (l.take (k + 1)) ≤ 1099511627776) := hide (Nat.le_trans (cntL_take_le _ _) HCL.out)
        have HWE := hide (wt_eq t)
        have HWA := hide (wts_at ht)
        have HCI := hide (cntI_eq t)
        obtain ⟨bb, off, kv, ha, hbl, c0, c1, c2, c3, c4, hkv⟩ := RT_at HR.out ht
        have c0 := (HB.out.cell (p := ⟨bb, _, none⟩) hbl).trans c0
        have c1 := (HB.out.cell (p := ⟨bb, _, none⟩) hbl).trans c1
        have c2 := (HB.out.cell (p := ⟨bb, _, none⟩) hbl).trans c2
        have c3 := (HB.out.cell (p := ⟨bb, _, none⟩) hbl).trans c3
        have c4 := (HB.out.cell (p := ⟨bb, _, none⟩) hbl).trans c4
        subst ha
        obtain ⟨ka, kcap, rfl, hkr⟩ := hkv
        have HKV : Hid (RT w (.slice ka t.kids.length kcap) t.kids) := hide ⟨ka, kcap, rfl, hkr⟩
        have HIF := hide (fun W : World => isField_any t.itm (.slice ka t.kids.length kcap) W)
        have HIB := hide (fun W : World => isBlock_any t.itm (.slice ka t.kids.length kcap) W)
        have XA := hide (Ix.new wr t.itm (.slice ka t.kids.length kcap))
        have BA := hide (HB.out.alloc HB.out.size (.cells (iC t.itm (.slice ka t.kids.length kcap)) 26))
        have hcb : c ≤ 1099511627776 := by have h1 := HC.out; have h2 := HTK.out; have h3 := HCN.out; omega
        clear hkr ht
        unfold iC at XA BA
        cases hte : t.itm.tag.isEmpty with
        | false =>
          rw [hte] at HIF
          try dsimp only [Bool.not_false] at HIF
          have HN : Hid (c + 1 = cntL (l.take (k + 1))) := by show _ = _; rw [HTK.out, HCI.out, hte, ← HC.out]; rfl
          have hcb1 : c + 1 ≤ 1099511627776 := by rw [HN.out]; exact HCN.out
          clear HTK HCI HCN hte HIB
          go_wp2_with (refine wpList_load_row rfl 26 (.tmp 5) rfl wr.heap.size rfl _ (iC t.itm (.slice ka t.kids.length kcap)) _ _ XA.out Try.underlying26 rfl Try.sizeItm ?_)
          refine (HIF.out _).mono ?_
          rintro e w1 ⟨rfl, hb1⟩
          have B1 := hide (BA.out.trans (hb1.mono BA.out.size))
          clear hb1 c0 c1 c2 c3 c4
          go_wp2_with fail
          go_roundw
          case rel => exact ⟨k + 1, c + 1, by omega, by go_num, by go_num, HN, B1⟩
          case measure => simp [intOf]; omega
        | true =>
          rw [hte] at HIF HIB
          try dsimp only [Bool.not_true, Bool.true_and] at HIF HIB
          cases hne : t.itm.name.isEmpty with
          | true =>
            rw [hne] at HIB
            try dsimp only [Bool.not_true] at HIB
            have HN : Hid (c = cntL (l.take (k + 1))) := by show _ = _; rw [HTK.out, HCI.out, hte, hne, ← HC.out]; rfl
            clear HTK HCI HCN hte hne
            go_wp2_with (refine wpList_load_row rfl 26 (.tmp 5) rfl wr.heap.size rfl _ (iC t.itm (.slice ka t.kids.length kcap)) _ _ XA.out Try.underlying26 rfl Try.sizeItm ?_)
            refine (HIF.out _).mono ?_
            rintro e w1 ⟨rfl, hb1⟩
            have X1 := hide (Ix.later XA.out hb1)
            have B1 := hide (BA.out.trans (hb1.mono BA.out.size))
            clear hb1 c0 c1 c2 c3 c4
            go_wp2_with (refine wpList_load_row rfl 26 (.tmp 5) rfl wr.heap.size rfl _ (iC t.itm (.slice ka t.kids.length kcap)) _ _ X1.out Try.underlying26 rfl Try.sizeItm ?_)
            refine (HIB.out _).mono ?_
            rintro e w2 ⟨rfl, hb2⟩
            have B2 := hide (B1.out.trans (hb2.mono B1.out.size))
            clear hb2
            go_wp2_with fail
            go_roundw
            case rel => exact ⟨k + 1, c, by omega, by go_num, rfl, HN, B2⟩
            case measure => simp [intOf]; omega
          | false =>
            rw [hne] at HIB
            try dsimp only [Bool.not_false] at HIB
            have HN : Hid (c + cntL t.kids = cntL (l.take (k + 1))) := by show _ = _; rw [HTK.out, HCI.out, hte, hne, ← HC.out]; rfl
            have HIH := hide (fun (W : World) (hW : Below w.heap.size w W) => IH.out (wts t.kids) (by have := HWE.out; have := HWA.out; have := HWL.out; omega) t.kids (.slice ka t.kids.length kcap) W (Nat.le_refl _) (by have := HWE.out; have := HWA.out; have := HWL.out; omega) (RT_later HKV.out hW))
            have hcb1 : c + cntL t.kids ≤ 1099511627776 := by rw [HN.out]; exact HCN.out
            clear HTK HCI HCN hte hne
            obtain ⟨s, Hs⟩ : ∃ s, Hid (cntL t.kids = s) := ⟨_, hide rfl⟩
            rw [Hs.out] at HIH HN hcb1
            go_wp2_with (refine wpList_load_row rfl 26 (.tmp 5) rfl wr.heap.size rfl _ (iC t.itm (.slice ka t.kids.length kcap)) _ _ XA.out Try.underlying26 rfl Try.sizeItm ?_)
            refine (HIF.out _).mono ?_
            rintro e w1 ⟨rfl, hb1⟩
            have X1 := hide (Ix.later XA.out hb1)
            have B1 := hide (BA.out.trans (hb1.mono BA.out.size))
            clear hb1 c0 c1 c2 c3 c4
            go_wp2_with (refine wpList_load_row rfl 26 (.tmp 5) rfl wr.heap.size rfl _ (iC t.itm (.slice ka t.kids.length kcap)) _ _ X1.out Try.underlying26 rfl Try.sizeItm ?_)
            refine (HIB.out _).mono ?_
            rintro e w2 ⟨rfl, hb2⟩
            have X2 := hide (X1.out.later hb2)
            have B2 := hide (B1.out.trans (hb2.mono B1.out.size))
            clear hb2
            have z4 := X2.out.items trivial
            go_wp2_with fail
            refine (HIH.out w2 B2.out).mono ?_
            rintro e w3 ⟨rfl, hb3⟩
            have B3 := hide (B2.out.trans (hb3.mono B2.out.size))
            clear hb3 z4
            go_wp2_with fail
            go_roundw
            case rel => exact ⟨k + 1, c + s, by omega, by go_num, by go_num, HN, B3⟩
            case measure => simp [intOf]; omega
      · have hk' : k = l.length := by omega
        subst hk'
        have HN : Hid (c = cntL l) := by show _ = _; rw [HC.out, List.take_length]
        go_wp2_with fail
        go_ret
        exact ⟨ret_i (by rw [HN.out]), HB.out⟩
end Go.Proofs.Ytklhbhhkooddoaa
