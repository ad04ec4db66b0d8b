/-
  My own text: the document's Fields.
-/
import Derived.Test.YtpkgaidnpooahaaGreatDoorQC
import Derived.Test.YtpkgaidnpooahaaGreatDoorQC
import Derived.Test.YtpkgaidnpooahaaGreatDoorTJ2
import Derived.Deep.MidRow
namespace Go.Proofs.YtpkgaidnpooahaaGreatDoor
open Go.RowKit

mutual
def flsI : Tr → List Tr
  | .mk i k => if !i.tag.isEmpty then [.mk i k] else if i.name.isEmpty then [] else flsL k
def flsL : List Tr → List Tr
  | [] => []
  | a :: r => flsI a ++ flsL r
end
theorem flsI_eq (a : Tr) : flsI a = if !a.itm.tag.isEmpty then [a] else if a.itm.name.isEmpty then [] else flsL a.kids := by cases a; rw [flsI]; rfl
theorem flsL_cons (a : Tr) (r : List Tr) : flsL (a :: r) = flsI a ++ flsL r := by rw [flsL]
theorem flsL_app (x y : List Tr) : flsL (x ++ y) = flsL x ++ flsL y := by
  induction x with
  | nil => simp [flsL]
  | cons a r ih => rw [List.cons_append, flsL_cons, flsL_cons, ih, List.append_assoc]
theorem flsL_take {l : List Tr} {k : Nat} {a : Tr} (h : l[k]? = some a) : flsL (l.take (k + 1)) = flsL (l.take k) ++ flsI a := by
  rw [List.take_add_one, h, flsL_app]; simp [flsL]
theorem fls_len : ∀ (D : Nat) (l : List Tr), wts l ≤ D → (flsL l).length = cntL l := by
  intro D
  induction D using Nat.strongRecOn with
  | ind D ih =>
    intro l hD
    induction l with
    | nil => simp [flsL, cntL]
    | cons a r ihr =>
      have hw := wts_cons a r
      have he := wt_eq a
      rw [flsL_cons, cntL_cons, List.length_append, ihr (by omega), flsI_eq, cntI_eq]
      congr 1
      split
      · rfl
      · split
        · rfl
        · exact ih (wts a.kids) (by omega) a.kids (Nat.le_refl _)
theorem fls_find (tag qual : List UInt8) : ∀ (D : Nat) (l : List Tr), wts l ≤ D → (flsL l).find? (fun a => a.itm.tag == tag && a.itm.qual == qual) = fndL tag qual l := by
  intro D
  induction D using Nat.strongRecOn with
  | ind D ih =>
    intro l hD
    induction l with
    | nil => simp [flsL, fndL]
    | cons a r ihr =>
      have hw := wts_cons a r
      have he := wt_eq a
      have hi : (flsI a).find? (fun a => a.itm.tag == tag && a.itm.qual == qual) = fndI tag qual a := by
        rw [flsI_eq, fndI_eq]
        split
        · rw [List.find?_cons]
          cases (a.itm.tag == tag && a.itm.qual == qual) <;> rfl
        · split
          · rfl
          · exact ih (wts a.kids) (by omega) a.kids (Nat.le_refl _)
      rw [flsL_cons, List.find?_append, hi, ihr (by omega), fndL]
      cases fndI tag qual a <;> rfl
theorem fls_wts : ∀ (D : Nat) (l : List Tr), wts l ≤ D → ∀ t ∈ flsL l, wts t.kids ≤ wts l := by
  intro D
  induction D using Nat.strongRecOn with
  | ind D ih =>
    intro l hD
    induction l with
    | nil => intro t ht; simp [flsL] at ht
    | cons a r ihr =>
      have hw := wts_cons a r
      have he := wt_eq a
      intro t ht
      rw [flsL_cons] at ht
      rcases List.mem_append.1 ht with ht | ht
      · rw [flsI_eq] at ht
        split at ht
        · rw [List.mem_singleton] at ht; subst ht; omega
        · split at ht
          · cases ht
          · have := ih (wts a.kids) (by omega) a.kids (Nat.le_refl _) t ht; omega
      · have := ihr (by omega) t ht; omega
theorem cntI_le {a : Tr} {l : List Tr} {k : Nat} (h : l[k]? = some a) : cntL (l.take k) + cntI a ≤ cntL l := by
  have h1 := cntL_take h
  have h2 := cntL_take_le l (k + 1)
  omega
/-- Fields so far: a row of the call's own, what they hold lies where it lay. -/
structure FQ (w0 : World) (B : Nat) (wr : World) (v : Value) (l : List Tr) (V : List Value) : Prop where
  len : V.length = l.length
  row : wr.ownsRow B 25 5 v l.length (ic l V)
  kids : ∀ (j : Nat) (a : Tr) (u : Value), l[j]? = some a → V[j]? = some u → RT w0 u a.kids
  one : ∀ u ∈ V, u.oneCell' = true
set_option maxRecDepth 100000 in
set_option maxHeartbeats 4000000 in
theorem fields_any (w0 : World) : ∀ (D : Nat) (l : List Tr) (v : Value) (w : World), wts l ≤ D → D ≤ 1099511627776 → RT w0 v l → Below w0.heap.size w0 w →
    Calls Tryz.prog 60 #[v] w fun e w' => (∃ a cap V, e = .returned (.slice a (flsL l).length cap) ∧ FQ w0 w.heap.size w' (.slice a (flsL l).length cap) (flsL l) V) ∧ Below w.heap.size w w' := by
  intro D
  induction D using Nat.strongRecOn with
  | ind D ih =>
    intro l v w hD hD2 hv hw0
    have IH := hide ih
    obtain ⟨a, cap, rfl, hr⟩ := hv
    have HR := hide hr
    have HWL : Hid (wts l ≤ D ∧ D ≤ 1099511627776) := hide ⟨hD, hD2⟩
    have HW0 := hide hw0
    clear hr ih
    have hll : l.length ≤ 1099511627776 := by have := wts_len l; omega
    have HCL : Hid (cntL l ≤ 1099511627776) := hide (by have := cntL_le _ l (Nat.le_refl _); omega)
    clear hD hD2 hw0
    go_enter Tryz.func60, Tryz.ntmps60
    go_wp2_with fail
    go_loopw [3, 4] (fun u n wr => ∃ (k m : Nat) (oa : Option Addr) (oc : Nat) (V : List Value), k ≤ l.length ∧ n = .int .i64 (k : Int) ∧ u = .slice oa m oc ∧ Hid (m = (flsL (l.take k)).length) ∧ Hid (FQ w0 w.heap.size wr (.slice oa m oc) (flsL (l.take k)) V) ∧ Hid (Below w.heap.size w wr)) (fun _ n _ => l.length - (intOf n).toNat)
    case atStart => exact ⟨0, 0, none, 0, [], Nat.zero_le _, rfl, rfl, hide rfl, hide ⟨rfl, World.ownsRow_nil _ _ _ _, fun j a u h => by simp [flsL] at h, fun u hu => by simp at hu⟩, hide (Below.refl _ _)⟩
    case round =>
      obtain ⟨k, m, oa, oc, V, hk, rfl, rfl, HML, HF, HB⟩ := hrel
      by_cases hlt : k < l.length
      · obtain ⟨t, ht⟩ : ∃ t, l[k]? = some t := ⟨_, List.getElem?_eq_getElem hlt⟩
        have HTK := hide (flsL_take ht)
        have HFE := hide (flsI_eq t)
        have HCN := hide (cntI_le ht)
        have HCI := hide (cntI_eq t)
        have HFL := hide (fls_len _ (l.take k) (Nat.le_refl _))
        have HWE := hide (wt_eq t)
        have HWA := hide (wts_at ht)
        have hkn : (k : Int) < (l.length : Int) := by omega
        have hk0 : (0 : Int) ≤ (k : Int) := by omega
        obtain ⟨bb, off, kv, ha, hbl, c0, c1, c2, c3, c4, hkv⟩ := RT_at HR.out ht
        have hbt : Below w0.heap.size w0 wr := HW0.out.trans (HB.out.mono HW0.out.size)
        have c0 := (hbt.cell (p := ⟨bb, _, none⟩) hbl).trans c0
        have c1 := (hbt.cell (p := ⟨bb, _, none⟩) hbl).trans c1
        have c2 := (hbt.cell (p := ⟨bb, _, none⟩) hbl).trans c2
        have c3 := (hbt.cell (p := ⟨bb, _, none⟩) hbl).trans c3
        have c4 := (hbt.cell (p := ⟨bb, _, none⟩) hbl).trans c4
        subst ha
        obtain ⟨ka, kcap, rfl, hkr⟩ := hkv
        have HKV : Hid (RT w0 (.slice ka t.kids.length kcap) t.kids) := hide ⟨ka, kcap, rfl, hkr⟩
        have HBT := hide hbt
        have HMB : Hid (m + cntI t ≤ 1099511627776) := hide (by have := HML.out; have := HFL.out; have := HCN.out; have := HCL.out; omega)
        have HBW : Hid (w.heap.size ≤ wr.heap.size) := hide HB.out.size
        clear hkr ht hbt
        cases hte : t.itm.tag.isEmpty with
        | false =>
          have hneq : (t.itm.tag == []) = false := beq_eq_false_iff_ne.2 (fun e => by rw [e] at hte; simp at hte)
          have HFI : Hid (flsI t = [t]) := hide (by rw [HFE.out, hte]; rfl)
          have HCT : Hid (cntI t = 1) := hide (by rw [HCI.out, hte]; rfl)
          have HRG : Hid (wr.rangeAt bb (off + k * 5) [.string ⟨t.itm.tag.toArray⟩, .string ⟨t.itm.qual.toArray⟩, .string ⟨t.itm.text.toArray⟩, .string ⟨t.itm.name.toArray⟩, .slice ka t.kids.length kcap]) := hide (fun j u hj => by
            match j, hj with
            | 0, hj => simp at hj; subst hj; exact c0
            | 1, hj => simp at hj; subst hj; exact c1
            | 2, hj => simp at hj; subst hj; exact c2
            | 3, hj => simp at hj; subst hj; exact c3
            | 4, hj => simp at hj; subst hj; exact c4)
          have HFR := hide HF.out.row
          rw [← HML.out] at HFR
          clear c1 c2 c3 c4 hte HCI HFE
          go_wp2_with (first
            | (refine wpList_load_mid rfl 25 _ rfl bb (off + k * 5) rfl [.string ⟨t.itm.tag.toArray⟩, .string ⟨t.itm.qual.toArray⟩, .string ⟨t.itm.text.toArray⟩, .string ⟨t.itm.name.toArray⟩, .slice ka t.kids.length kcap] _ HRG.out Tryz.underlying25 rfl Tryz.sizeItm ?_)
            | (at_builtin; refine wp_append_itm rfl _ _ rfl w.heap.size _ m _ rfl (HFR.out.alloc _) _ 1 1 [.string ⟨t.itm.tag.toArray⟩, .string ⟨t.itm.qual.toArray⟩, .string ⟨t.itm.text.toArray⟩, .string ⟨t.itm.name.toArray⟩, .slice ka t.kids.length kcap] rfl rfl (by decide) ?c1 ?c2 ?c3 ?c4 ?_)
            | go_in)
          case c1 =>
            intro j u hj
            match j, hj with
            | 0, hj => simp at hj; subst hj; simp [Addr.add]
            | 1, hj => simp at hj; subst hj; simp [Addr.add]
            | 2, hj => simp at hj; subst hj; simp [Addr.add]
            | 3, hj => simp at hj; subst hj; simp [Addr.add]
            | 4, hj => simp at hj; subst hj; simp [Addr.add]
          case c2 => intro u hu; simp at hu; rcases hu with rfl | rfl | rfl | rfl | rfl <;> rfl
          case c3 => have := HBW.out; simp; omega
          case c4 => have := HMB.out; have := HCT.out; omega
          intro v' w7 hown' hgrow hfresh
          have B7 : Hid (Below w.heap.size w w7) := hide ((HB.out.alloc HBW.out _).grown hgrow (by have := HBW.out; simp; omega) (fun q hq => (own_ltq HF.out.row q hq).1))
          have F7 : Hid (FQ w0 w.heap.size w7 v' (flsL (l.take (k + 1))) (V ++ [.slice ka t.kids.length kcap])) := hide (by
            rw [HTK.out, HFI.out]
            refine ⟨by simp [HF.out.len], ?_, fun j b u h1 h2 => ?_, fun u hu => ?_⟩
            · rw [ic_snoc _ _ _ _ HF.out.len.symm, List.length_append, ← HML.out]; exact hown'
            · by_cases hj : j < (flsL (l.take k)).length
              · rw [List.getElem?_append_left hj] at h1
                rw [List.getElem?_append_left (by rw [HF.out.len]; exact hj)] at h2
                exact HF.out.kids j b u h1 h2
              · have hj0 : j - (flsL (l.take k)).length = 0 := by rw [List.getElem?_append_right (by omega)] at h1; have := (List.getElem?_eq_some_iff.1 h1).1; simp at this; omega
                rw [List.getElem?_append_right (by omega), hj0] at h1
                rw [List.getElem?_append_right (by rw [HF.out.len]; omega), HF.out.len, hj0] at h2
                simp at h1 h2; subst h1; subst h2
                exact HKV.out
            · rcases List.mem_append.1 hu with hu | hu
              · exact HF.out.one u hu
              · rw [List.mem_singleton] at hu; subst hu; rfl)
          have HM7 : Hid (m + 1 = (flsL (l.take (k + 1))).length) := hide (by rw [HTK.out, HFI.out, List.length_append, ← HML.out]; rfl)
          obtain ⟨a7, c7, hv7⟩ : ∃ a7 c7, v' = .slice a7 (m + 1) c7 := by
            rcases hown'.2 with ⟨_, h0⟩ | ⟨g, cap, cur, hv, _⟩
            · omega
            · exact ⟨_, _, hv⟩
          subst hv7
          clear hown' hgrow hfresh HF HB
          go_wp2_with fail
          go_roundw
          case rel => exact ⟨k + 1, m + 1, a7, c7, _, by omega, by go_num, rfl, HM7, F7, B7⟩
          case measure => simp [intOf]; omega
        | true =>
          have hneq : (t.itm.tag == []) = true := beq_iff_eq.2 (List.isEmpty_iff.1 hte)
          cases hne : t.itm.name.isEmpty with
          | true =>
            have hnn : (t.itm.name == []) = true := beq_iff_eq.2 (List.isEmpty_iff.1 hne)
            have HFI : Hid (flsL (l.take (k + 1)) = flsL (l.take k)) := hide (by rw [HTK.out, HFE.out, hte, hne]; simp)
            clear hte hne HFE HCI
            go_wp2_with fail
            go_roundw
            case rel => exact ⟨k + 1, m, oa, oc, V, by omega, by go_num, rfl, by rw [HFI.out]; exact HML, by rw [HFI.out]; exact HF, HB⟩
            case measure => simp [intOf]; omega
          | false =>
            have hnn : (t.itm.name == []) = false := beq_eq_false_iff_ne.2 (fun e => by rw [e] at hne; simp at hne)
            have HFI : Hid (flsI t = flsL t.kids) := hide (by rw [HFE.out, hte, hne]; rfl)
            have HCT : Hid (cntI t = (flsL t.kids).length) := hide (by rw [HCI.out, hte, hne, fls_len _ _ (Nat.le_refl _)]; rfl)
            have HI := hide (IH.out (wts t.kids) (by have := HWE.out; have := HWA.out; have := HWL.out; omega) t.kids (.slice ka t.kids.length kcap) wr (Nat.le_refl _) (by have := HWE.out; have := HWA.out; have := HWL.out; omega) HKV.out HBT.out)
            clear hte hne HFE HCI
            go_wp2_with fail
            refine HI.out.mono ?_
            rintro e w5 ⟨⟨qa, qc, U, rfl, hfq⟩, hb5⟩
            have B5 := hide (HB.out.trans (hb5.mono HB.out.size))
            have HQ := hide hfq
            have HFR : Hid (w5.ownsRow w.heap.size 25 5 (.slice oa m oc) m (ic (flsL (l.take k)) V)) := hide (by
              have := owns_blkq HF.out.row (w' := w5) (fun g hg => hb5.block g (own_ltq HF.out.row g hg).2)
              rw [← HML.out] at this; exact this)
            have HUL : Hid ((ic (flsL t.kids) U).length = (flsL t.kids).length * 5) := hide (ic_len _ _ hfq.len.symm)
            have HU1 := hide (ic_one (flsL t.kids) U hfq.one)
            have HUC : Hid (∀ ad, qa = some ad → ∀ j u, (ic (flsL t.kids) U)[j]? = some u → w5.cell? (ad.add j) = some u) := hide (fun ad e j u hj => by
              subst e
              rcases hfq.row.2 with ⟨hv, _⟩ | ⟨g, cap', cur, hv, _⟩
              · cases hv
              · injection hv with e1
                injection e1 with e1
                subst e1
                exact World.ownsRow.cells hfq.row rfl j u hj)
            have HUN : Hid (qa = none → (flsL t.kids).length = 0 ∧ qc = 0) := hide (fun e => by
              subst e
              rcases hfq.row.2 with ⟨hv, h0⟩ | ⟨g, cap', cur, hv, _⟩
              · injection hv with _ _ e3
                exact ⟨h0, e3⟩
              · injection hv with e1; cases e1)
            have HB5s : Hid (w.heap.size ≤ w5.heap.size) := hide B5.out.size
            clear hb5 hfq HI
            obtain ⟨q, hq⟩ : ∃ q, q = (flsL t.kids).length := ⟨_, rfl⟩
            rw [← hq] at HUL HUN HCT ⊢
            have HQL := hide hq
            clear hq
            go_wp2_with (at_builtin; refine wp_append_list rfl _ _ rfl w.heap.size _ m _ rfl HFR.out qa q qc (ic (flsL t.kids) U) rfl HUN.out HUL.out HUC.out HU1.out HB5s.out (by have := HMB.out; have := HCT.out; omega) ?_)
            intro v' w7 hown' hgrow
            have B7 : Hid (Below w.heap.size w w7) := hide (B5.out.grown hgrow HB5s.out (fun x hx => (own_ltq HFR.out x hx).1))
            have F7 : Hid (FQ w0 w.heap.size w7 v' (flsL (l.take (k + 1))) (V ++ U)) := hide (by
              rw [HTK.out, HFI.out]
              refine ⟨by rw [List.length_append, List.length_append, HF.out.len, HQ.out.len], ?_, fun j b u h1 h2 => ?_, fun u hu => ?_⟩
              · rw [ic_app _ _ _ _ HF.out.len.symm, List.length_append, ← HML.out, ← HQL.out]; exact hown'
              · by_cases hj : j < (flsL (l.take k)).length
                · rw [List.getElem?_append_left hj] at h1
                  rw [List.getElem?_append_left (by rw [HF.out.len]; exact hj)] at h2
                  exact HF.out.kids j b u h1 h2
                · rw [List.getElem?_append_right (by omega)] at h1
                  rw [List.getElem?_append_right (by rw [HF.out.len]; omega), HF.out.len] at h2
                  exact HQ.out.kids _ b u h1 h2
              · rcases List.mem_append.1 hu with hu | hu
                · exact HF.out.one u hu
                · exact HQ.out.one u hu)
            have HM7 : Hid (m + q = (flsL (l.take (k + 1))).length) := hide (by rw [HTK.out, HFI.out, List.length_append, ← HML.out, HQL.out])
            obtain ⟨a7, c7, hv7⟩ : ∃ a7 c7, v' = .slice a7 (m + q) c7 := by
              rcases hown'.2 with ⟨hv, h0⟩ | ⟨g, cap, cur, hv, _⟩
              · exact ⟨none, 0, by rw [hv, h0]⟩
              · exact ⟨_, _, hv⟩
            subst hv7
            clear hown' hgrow HF HB
            go_wp2_with fail
            go_roundw
            case rel => exact ⟨k + 1, m + q, a7, c7, _, by omega, by go_num, rfl, HM7, F7, B7⟩
            case measure => simp [intOf]; omega
      · have hk' : k = l.length := by omega
        subst hk'
        rw [List.take_length] at HML HF
        have hmm := HML.out
        subst hmm
        go_wp2_with fail
        go_ret
        first | exact ⟨⟨oa, oc, V, rfl, HF.out⟩, HB.out⟩ | exact ⟨⟨oa, oc, rfl, V, HF.out⟩, HB.out⟩
end Go.Proofs.YtpkgaidnpooahaaGreatDoor
