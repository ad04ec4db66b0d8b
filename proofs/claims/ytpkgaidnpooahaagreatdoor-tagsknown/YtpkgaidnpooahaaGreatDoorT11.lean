/-
  My own text: T10, T11 in one.
-/
import Derived.Test.YtpkgaidnpooahaaGreatDoorT9
import Derived.Lib.Builder
import Derived.Lib.OthersKept
namespace Go.Proofs.YtpkgaidnpooahaaGreatDoor
open Go.RowKit

def fT (i : Itm) : List UInt8 := [58] ++ i.tag ++ [58] ++ (if i.qual.isEmpty then [] else [58] ++ i.qual ++ [47, 47]) ++ i.text ++ [10]
def bO (n : List UInt8) : List UInt8 := [58, 49, 54, 82, 58] ++ n ++ [10]
def bC (n : List UInt8) : List UInt8 := [58, 49, 54, 83, 58] ++ n ++ [10]
mutual
def errI : Tr → Int → Int
  | .mk i l, d => if itemE i l.length d ≠ 0 then itemE i l.length d else if !i.tag.isEmpty then 0 else errL l (d + 1)
def errL : List Tr → Int → Int
  | [], _ => 0
  | a :: r, d => if errI a d ≠ 0 then errI a d else errL r d
end
mutual
def txtI : Tr → List UInt8
  | .mk i l => if !i.tag.isEmpty then fT i else bO i.name ++ txtL l ++ bC i.name
def txtL : List Tr → List UInt8
  | [] => []
  | a :: r => txtI a ++ txtL r
end
theorem errI_eq (a : Tr) (d : Int) : errI a d = if itemE a.itm a.kids.length d ≠ 0 then itemE a.itm a.kids.length d else if !a.itm.tag.isEmpty then 0 else errL a.kids (d + 1) := by cases a; rw [errI]; rfl
theorem txtI_eq (a : Tr) : txtI a = if !a.itm.tag.isEmpty then fT a.itm else bO a.itm.name ++ txtL a.kids ++ bC a.itm.name := by cases a; rw [txtI]; rfl
theorem errL_step {l : List Tr} {k : Nat} {a : Tr} {d : Int} (h : l[k]? = some a) : errL (l.drop k) d = if errI a d ≠ 0 then errI a d else errL (l.drop (k + 1)) d := by rw [drop_cons h, errL]
theorem txtL_app (a b : List Tr) : txtL (a ++ b) = txtL a ++ txtL b := by
  induction a with
  | nil => simp [txtL]
  | cons c r ih => rw [List.cons_append, txtL, ih, txtL, List.append_assoc]
theorem txtL_take {l : List Tr} {k : Nat} {a : Tr} (h : l[k]? = some a) : txtL (l.take (k + 1)) = txtL (l.take k) ++ txtI a := by
  rw [List.take_add_one, h, txtL_app]; simp [txtL]
theorem fT_len (i : Itm) : (fT i).length ≤ 6 + i.tag.length + i.qual.length + i.text.length := by
  unfold fT
  split <;> simp <;> omega
theorem txtL_len : ∀ (d : Nat) (l : List Tr), wts l ≤ d → (txtL l).length ≤ 14 * wts l := by
  intro d
  induction d using Nat.strongRecOn with
  | ind d ih =>
    intro l
    induction l with
    | nil => intro _; simp [txtL, wts]
    | cons a r ihr =>
      intro hd
      rw [wts_cons] at hd ⊢
      have hw := wt_eq a
      have h2 := ihr (by omega)
      rw [txtL, List.length_append, txtI_eq]
      split
      · have := fT_len a.itm; omega
      · have := ih (wts a.kids) (by omega) a.kids (Nat.le_refl _)
        simp only [List.length_append, bO, bC, List.length_cons, List.length_nil]
        omega
theorem wts_take_le (l : List Tr) (k : Nat) : wts (l.take k) ≤ wts l := by
  induction l generalizing k with
  | nil => simp
  | cons a r ih =>
    cases k with
    | zero => simp [wts]
    | succ k => have := ih k; rw [List.take_succ_cons, wts_cons, wts_cons]; omega
theorem cat (a b : List UInt8) (n : Nat) (h : a.length + b.length ≤ n) : ∃ P : List UInt8, (⟨a.toArray⟩ : ByteArray) ++ ⟨b.toArray⟩ = ⟨P.toArray⟩ ∧ Hid (P = a ++ b) ∧ P.length ≤ n :=
  ⟨a ++ b, by apply ByteArray.ext; simp, hide rfl, by simpa using h⟩
theorem ret_ti {a b : List UInt8} {x y : Int} (h : a = b) (h2 : x = y) : Ending.returned (.tuple #[.string ⟨a.toArray⟩, .int .i64 x]) = .returned (.tuple #[.string ⟨b.toArray⟩, .int .i64 y]) := by rw [h, h2]
def lnT (l : List Tr) (d : Int) : List UInt8 := if errL l d = 0 then txtL l else []
set_option maxRecDepth 100000 in
set_option maxHeartbeats 8000000 in
theorem refLines_any : ∀ (D : Nat) (l : List Tr) (v : Value) (d : Int) (w : World), wts l ≤ D → D ≤ 1099511627776 → 0 ≤ d → d ≤ 8 → RT w v l →
    Calls Tryz.prog 57 #[v, .int .i64 d] w fun e w' => e = .returned (.tuple #[.string ⟨(lnT l d).toArray⟩, .int .i64 (errL l d)]) ∧ Below w.heap.size w w' := by
  intro D
  induction D using Nat.strongRecOn with
  | ind D ih =>
    intro l v d w hD hD2 hd0 hd8 hv
    have IH := hide ih
    obtain ⟨a, cap, rfl, hr⟩ := hv
    have HR := hide hr
    clear hr ih
    have hll : l.length ≤ 1099511627776 := by have := wts_len l; omega
    have HWL : Hid (wts l ≤ 1099511627776) := hide (by omega)
    go_enter Tryz.func57, Tryz.ntmps57
    go_wp2_with fail
    go_loopw [6, 7] (fun tx i wr => ∃ (k : Nat) (T : List UInt8), k ≤ l.length ∧ i = .int .i64 k ∧ tx = .string ⟨T.toArray⟩ ∧ T.length ≤ 15393162788864 ∧ Hid (T = txtL (l.take k)) ∧ Hid (errL l d = errL (l.drop k) d) ∧ Hid (Below w.heap.size w wr)) (fun _ i _ => l.length - (intOf i).toNat)
    case atStart => exact ⟨0, [], Nat.zero_le _, rfl, rfl, by simp, hide (by simp [txtL]), hide (by simp), hide (Below.refl _ _)⟩
    case round =>
      obtain ⟨k, T, hk, rfl, rfl, hTl, HT, HEL, HB⟩ := hrel
      by_cases hlt : k < l.length
      · obtain ⟨t, ht⟩ : ∃ t, l[k]? = some t := ⟨_, List.getElem?_eq_getElem hlt⟩
        have HST := hide (errL_step (d := d) ht)
        have HTK := hide (txtL_take ht)
        have HWE := hide (wt_eq t)
        have HWA := hide (wts_at ht)
        have HT2L : Hid ((txtL (l.take (k + 1))).length ≤ 15393162788864) := by
          show _ ≤ _
          have h1 := txtL_len _ (l.take (k + 1)) (Nat.le_refl _)
          have h2 := wts_take_le l (k + 1)
          have h3 := HWL.out
          omega
        have HEI := hide (errI_eq t d)
        have HTI := hide (txtI_eq t)
        obtain ⟨b, off, kv, ha, hbl, c0, c1, c2, c3, c4, hkv⟩ := RT_at HR.out ht
        have c0 := (HB.out.cell (p := ⟨b, _, none⟩) hbl).trans c0
        have c1 := (HB.out.cell (p := ⟨b, _, none⟩) hbl).trans c1
        have c2 := (HB.out.cell (p := ⟨b, _, none⟩) hbl).trans c2
        have c3 := (HB.out.cell (p := ⟨b, _, none⟩) hbl).trans c3
        have c4 := (HB.out.cell (p := ⟨b, _, none⟩) hbl).trans c4
        subst ha
        have HIO := hide (iok_of HWA.out (by have := HWL.out; omega))
        obtain ⟨ka, kcap, rfl, hkr⟩ := hkv
        have HKV : Hid (RT w (.slice ka t.kids.length kcap) t.kids) := hide ⟨ka, kcap, rfl, hkr⟩
        have HWR := hide (fun W : World => refWrong_any t.itm t.kids.length kcap ka d W HIO.out)
        have hb0 : t.itm.tag.length ≤ 1099511627776 := by have := HWE.out; have := HWA.out; have := HWL.out; omega
        have hb1 : t.itm.qual.length ≤ 1099511627776 := by have := HWE.out; have := HWA.out; have := HWL.out; omega
        have hb2 : t.itm.text.length ≤ 1099511627776 := by have := HWE.out; have := HWA.out; have := HWL.out; omega
        have hb3 : t.itm.name.length ≤ 1099511627776 := by have := HWE.out; have := HWA.out; have := HWL.out; omega
        have XA := hide (Ix.new wr t.itm (.slice ka t.kids.length kcap))
        have BA := hide (HB.out.alloc HB.out.size (.cells (iC t.itm (.slice ka t.kids.length kcap)) 25))
        clear hkr ht
        by_cases he : itemE t.itm t.kids.length d = 0
        case neg =>
          obtain ⟨q1, q2⟩ : ((itemE t.itm t.kids.length d == 0) = false) ∧ ((itemE t.itm t.kids.length d != 0) = true) := ⟨beq_eq_false_iff_ne.2 he, bne_iff_ne.2 he⟩
          have HER : Hid (errL l d = itemE t.itm t.kids.length d) := by
            show _ = _
            have e1 : errI t d = itemE t.itm t.kids.length d := by rw [HEI.out, if_pos he]
            rw [HEL.out, HST.out, e1, if_pos he]
          have HLT : Hid (lnT l d = []) := by show _ = _; unfold lnT; rw [HER.out, if_neg he]
          generalize itemE t.itm t.kids.length d = E at *
          clear he
          go_wp2_with fail
          refine (HWR.out _).mono ?_
          rintro e w1 ⟨rfl, hb1'⟩
          have B1 := hide (BA.out.trans (hb1'.mono BA.out.size))
          clear hb1'
          go_wp2_with fail
          go_ret2
          exact ⟨ret_ti HLT.out.symm HER.out.symm, B1.out⟩
        rw [he] at HWR
        cases hte : t.itm.tag.isEmpty
        · have htb := bytes_nil_f hte
          have HEN : Hid (errL l d = errL (l.drop (k + 1)) d) := by
            show _ = _
            have e1 : errI t d = 0 := by rw [HEI.out, if_neg (by simp [he]), hte]; rfl
            rw [HEL.out, HST.out, e1]; rfl
          have HTX : Hid (txtI t = fT t.itm) := by show _ = _; rw [HTI.out, hte]; rfl
          clear he HEI HTI HEL HST
          go_wp2_with fail
          refine (HWR.out _).mono ?_
          rintro e w1 ⟨rfl, hb1'⟩
          have B1 := hide (BA.out.trans (hb1'.mono BA.out.size))
          have X1 := hide (XA.out.later hb1')
          clear hb1' XA BA
          have ztag := X1.out.tag trivial
          have zqual := X1.out.qual trivial
          have ztext := X1.out.text trivial
          have zname := X1.out.name trivial
          have zitems := X1.out.items trivial
          cases hqe : t.itm.qual.isEmpty
          · have hqb := bytes_nil_f hqe
            obtain ⟨Q1, hQ1, HQ1, lQ1⟩ : ∃ P : List UInt8, (⟨#[58]⟩ : ByteArray) ++ ⟨t.itm.qual.toArray⟩ = ⟨P.toArray⟩ ∧ Hid (P = [58] ++ t.itm.qual) ∧ P.length ≤ 1099511627777 := cat [58] t.itm.qual _ (by simp; omega)
            obtain ⟨Q2, hQ2, HQ2, lQ2⟩ : ∃ P : List UInt8, (⟨Q1.toArray⟩ : ByteArray) ++ ⟨#[47, 47]⟩ = ⟨P.toArray⟩ ∧ Hid (P = Q1 ++ [47, 47]) ∧ P.length ≤ 1099511627779 := cat Q1 [47, 47] _ (by simp; omega)
            obtain ⟨P1, hP1, HP1, lP1⟩ : ∃ P : List UInt8, (⟨T.toArray⟩ : ByteArray) ++ ⟨#[58]⟩ = ⟨P.toArray⟩ ∧ Hid (P = T ++ [58]) ∧ P.length ≤ 16492674416644 := cat T [58] _ (by (try simp); omega)
            obtain ⟨P2, hP2, HP2, lP2⟩ : ∃ P : List UInt8, (⟨P1.toArray⟩ : ByteArray) ++ ⟨t.itm.tag.toArray⟩ = ⟨P.toArray⟩ ∧ Hid (P = P1 ++ t.itm.tag) ∧ P.length ≤ 17592186044424 := cat P1 t.itm.tag _ (by (try simp); omega)
            obtain ⟨P3, hP3, HP3, lP3⟩ : ∃ P : List UInt8, (⟨P2.toArray⟩ : ByteArray) ++ ⟨#[58]⟩ = ⟨P.toArray⟩ ∧ Hid (P = P2 ++ [58]) ∧ P.length ≤ 18691697672204 := cat P2 [58] _ (by (try simp); omega)
            obtain ⟨P4, hP4, HP4, lP4⟩ : ∃ P : List UInt8, (⟨P3.toArray⟩ : ByteArray) ++ ⟨Q2.toArray⟩ = ⟨P.toArray⟩ ∧ Hid (P = P3 ++ Q2) ∧ P.length ≤ 20890720927764 := cat P3 Q2 _ (by (try simp); omega)
            obtain ⟨P5, hP5, HP5, lP5⟩ : ∃ P : List UInt8, (⟨P4.toArray⟩ : ByteArray) ++ ⟨t.itm.text.toArray⟩ = ⟨P.toArray⟩ ∧ Hid (P = P4 ++ t.itm.text) ∧ P.length ≤ 21990232555544 := cat P4 t.itm.text _ (by (try simp); omega)
            obtain ⟨P6, hP6, HP6, lP6⟩ : ∃ P : List UInt8, (⟨P5.toArray⟩ : ByteArray) ++ ⟨#[10]⟩ = ⟨P.toArray⟩ ∧ Hid (P = P5 ++ [10]) ∧ P.length ≤ 23089744183324 := cat P5 [10] _ (by (try simp); omega)
            have HF : Hid (P6 = txtL (l.take (k + 1))) := by
              show _ = _
              rw [HTK.out, HTX.out, HP6.out, HP5.out, HP4.out, HP3.out, HP2.out, HP1.out, HQ2.out, HQ1.out, HT.out]
              unfold fT; rw [hqe]; simp
            have hF6 : P6.length ≤ 15393162788864 := by rw [HF.out]; exact HT2L.out
            clear HP1 HP2 HP3 HP4 HP5 HP6 HQ1 HQ2 HTK HTX
            go_wp2_with fail
            go_roundw
            case rel => exact ⟨k + 1, P6, by omega, by go_num, rfl, hF6, HF, HEN, B1⟩
            case measure => simp [intOf]; omega
          · have hqb := bytes_nil_t hqe
            obtain ⟨P1, hP1, HP1, lP1⟩ : ∃ P : List UInt8, (⟨T.toArray⟩ : ByteArray) ++ ⟨#[58]⟩ = ⟨P.toArray⟩ ∧ Hid (P = T ++ [58]) ∧ P.length ≤ 16492674416644 := cat T [58] _ (by (try simp); omega)
            obtain ⟨P2, hP2, HP2, lP2⟩ : ∃ P : List UInt8, (⟨P1.toArray⟩ : ByteArray) ++ ⟨t.itm.tag.toArray⟩ = ⟨P.toArray⟩ ∧ Hid (P = P1 ++ t.itm.tag) ∧ P.length ≤ 17592186044424 := cat P1 t.itm.tag _ (by (try simp); omega)
            obtain ⟨P3, hP3, HP3, lP3⟩ : ∃ P : List UInt8, (⟨P2.toArray⟩ : ByteArray) ++ ⟨#[58]⟩ = ⟨P.toArray⟩ ∧ Hid (P = P2 ++ [58]) ∧ P.length ≤ 18691697672204 := cat P2 [58] _ (by (try simp); omega)
            have hP3e : (⟨P3.toArray⟩ : ByteArray) ++ ⟨#[]⟩ = ⟨P3.toArray⟩ := by apply ByteArray.ext; simp
            obtain ⟨P5, hP5, HP5, lP5⟩ : ∃ P : List UInt8, (⟨P3.toArray⟩ : ByteArray) ++ ⟨t.itm.text.toArray⟩ = ⟨P.toArray⟩ ∧ Hid (P = P3 ++ t.itm.text) ∧ P.length ≤ 21990232555544 := cat P3 t.itm.text _ (by (try simp); omega)
            obtain ⟨P6, hP6, HP6, lP6⟩ : ∃ P : List UInt8, (⟨P5.toArray⟩ : ByteArray) ++ ⟨#[10]⟩ = ⟨P.toArray⟩ ∧ Hid (P = P5 ++ [10]) ∧ P.length ≤ 23089744183324 := cat P5 [10] _ (by (try simp); omega)
            have HF : Hid (P6 = txtL (l.take (k + 1))) := by
              show _ = _
              rw [HTK.out, HTX.out, HP6.out, HP5.out, HP3.out, HP2.out, HP1.out, HT.out]
              unfold fT; rw [hqe]; simp
            have hF6 : P6.length ≤ 15393162788864 := by rw [HF.out]; exact HT2L.out
            clear HP1 HP2 HP3 HP5 HP6 HTK HTX
            go_wp2_with fail
            go_roundw
            case rel => exact ⟨k + 1, P6, by omega, by go_num, rfl, hF6, HF, HEN, B1⟩
            case measure => simp [intOf]; omega
        · have htb := bytes_nil_t hte
          have hd7 : d < 8 := by
            have h2 : itemE t.itm t.kids.length d = 0 := he
            unfold itemE at h2
            rw [hte] at h2
            simp only [Bool.not_true, Bool.false_eq_true, if_false] at h2
            split at h2
            · cases h2
            · unfold blockE bE at h2
              by_cases h8 : 8 ≤ d
              · rw [decide_eq_true h8] at h2; simp at h2
              · omega
          have HEE : Hid (errL l d = if errL t.kids (d + 1) ≠ 0 then errL t.kids (d + 1) else errL (l.drop (k + 1)) d) := by
            show _ = _
            have e1 : errI t d = errL t.kids (d + 1) := by rw [HEI.out, if_neg (by simp [he]), hte]; rfl
            rw [HEL.out, HST.out, e1]
          have HTX : Hid (txtI t = bO t.itm.name ++ txtL t.kids ++ bC t.itm.name) := by show _ = _; rw [HTI.out, hte]; rfl
          have HIH := hide (fun (W : World) (h : Below w.heap.size w W) => IH.out (wts t.kids) (by have := HWE.out; have := HWA.out; omega) t.kids (.slice ka t.kids.length kcap) (d + 1) W (Nat.le_refl _) (by have := HWE.out; have := HWA.out; have := HWL.out; omega) (by omega) (by omega) (RT_later HKV.out h))
          have HKL : Hid ((txtL t.kids).length ≤ 15393162788864) := by
            show _ ≤ _
            have h1 := txtL_len _ t.kids (Nat.le_refl _)
            have := HWE.out; have := HWA.out; have := HWL.out; omega
          clear he HEI HTI HEL HST
          go_wp2_with fail
          refine (HWR.out _).mono ?_
          rintro e w1 ⟨rfl, hb1'⟩
          have B1 := hide (BA.out.trans (hb1'.mono BA.out.size))
          have X1 := hide (XA.out.later hb1')
          clear hb1' XA BA
          have ztag := X1.out.tag trivial
          have zqual := X1.out.qual trivial
          have ztext := X1.out.text trivial
          have zname := X1.out.name trivial
          have zitems := X1.out.items trivial
          by_cases he2 : errL t.kids (d + 1) = 0
          · have HLN : Hid (lnT t.kids (d + 1) = txtL t.kids) := by show _ = _; unfold lnT; rw [if_pos he2]
            rw [HLN.out, he2] at HIH
            have HEN : Hid (errL l d = errL (l.drop (k + 1)) d) := by show _ = _; rw [HEE.out, he2]; rfl
            obtain ⟨N, HN⟩ : ∃ N, Hid (txtL t.kids = N) := ⟨_, hide rfl⟩
            rw [HN.out] at HIH HKL HTX
            have hNl : N.length ≤ 15393162788864 := HKL.out
            clear he2 HLN HEE HN HKL
            go_wp2_with fail
            refine (HIH.out _ B1.out).mono ?_
            rintro e w2 ⟨rfl, hb2'⟩
            have B2 := hide (B1.out.trans (hb2'.mono B1.out.size))
            have X2 := hide (X1.out.later hb2')
            clear hb2' X1 B1 ztag zqual ztext zname zitems
            have zname := X2.out.name trivial
            obtain ⟨R1, hR1, HR1, lR1⟩ : ∃ P : List UInt8, (⟨T.toArray⟩ : ByteArray) ++ ⟨#[58, 49, 54, 82, 58]⟩ = ⟨P.toArray⟩ ∧ Hid (P = T ++ [58, 49, 54, 82, 58]) ∧ P.length ≤ 16492674416644 := cat T [58, 49, 54, 82, 58] _ (by (try simp); omega)
            obtain ⟨R2, hR2, HR2, lR2⟩ : ∃ P : List UInt8, (⟨R1.toArray⟩ : ByteArray) ++ ⟨t.itm.name.toArray⟩ = ⟨P.toArray⟩ ∧ Hid (P = R1 ++ t.itm.name) ∧ P.length ≤ 17592186044424 := cat R1 t.itm.name _ (by (try simp); omega)
            obtain ⟨R3, hR3, HR3, lR3⟩ : ∃ P : List UInt8, (⟨R2.toArray⟩ : ByteArray) ++ ⟨#[10]⟩ = ⟨P.toArray⟩ ∧ Hid (P = R2 ++ [10]) ∧ P.length ≤ 18691697672204 := cat R2 [10] _ (by (try simp); omega)
            obtain ⟨R4, hR4, HR4, lR4⟩ : ∃ P : List UInt8, (⟨R3.toArray⟩ : ByteArray) ++ ⟨N.toArray⟩ = ⟨P.toArray⟩ ∧ Hid (P = R3 ++ N) ∧ P.length ≤ 34084860461068 := cat R3 N _ (by (try simp); omega)
            obtain ⟨R5, hR5, HR5, lR5⟩ : ∃ P : List UInt8, (⟨R4.toArray⟩ : ByteArray) ++ ⟨#[58, 49, 54, 83, 58]⟩ = ⟨P.toArray⟩ ∧ Hid (P = R4 ++ [58, 49, 54, 83, 58]) ∧ P.length ≤ 35184372088848 := cat R4 [58, 49, 54, 83, 58] _ (by (try simp); omega)
            obtain ⟨R6, hR6, HR6, lR6⟩ : ∃ P : List UInt8, (⟨R5.toArray⟩ : ByteArray) ++ ⟨t.itm.name.toArray⟩ = ⟨P.toArray⟩ ∧ Hid (P = R5 ++ t.itm.name) ∧ P.length ≤ 36283883716628 := cat R5 t.itm.name _ (by (try simp); omega)
            obtain ⟨R7, hR7, HR7, lR7⟩ : ∃ P : List UInt8, (⟨R6.toArray⟩ : ByteArray) ++ ⟨#[10]⟩ = ⟨P.toArray⟩ ∧ Hid (P = R6 ++ [10]) ∧ P.length ≤ 37383395344408 := cat R6 [10] _ (by (try simp); omega)
            have HF : Hid (R7 = txtL (l.take (k + 1))) := by
              show _ = _
              rw [HTK.out, HTX.out, HR7.out, HR6.out, HR5.out, HR4.out, HR3.out, HR2.out, HR1.out, HT.out]
              unfold bO bC; simp
            have hF7 : R7.length ≤ 15393162788864 := by rw [HF.out]; exact HT2L.out
            clear HR1 HR2 HR3 HR4 HR5 HR6 HR7 HTK HTX
            go_wp2_with fail
            go_roundw
            case rel => exact ⟨k + 1, R7, by omega, by go_num, rfl, hF7, HF, HEN, B2⟩
            case measure => simp [intOf]; omega
          · have HER : Hid (errL l d = errL t.kids (d + 1)) := by show _ = _; rw [HEE.out, if_pos he2]
            have HLT : Hid (lnT l d = []) := by show _ = _; unfold lnT; rw [HER.out, if_neg he2]
            have HLN : Hid (lnT t.kids (d + 1) = []) := by show _ = _; unfold lnT; rw [if_neg he2]
            rw [HLN.out] at HIH
            obtain ⟨q1, q2⟩ : ((errL t.kids (d + 1) == 0) = false) ∧ ((errL t.kids (d + 1) != 0) = true) := ⟨beq_eq_false_iff_ne.2 he2, bne_iff_ne.2 he2⟩
            generalize errL t.kids (d + 1) = E at *
            clear he2 HEE HLN
            go_wp2_with fail
            refine (HIH.out _ B1.out).mono ?_
            rintro e w2 ⟨rfl, hb2'⟩
            have B2 := hide (B1.out.trans (hb2'.mono B1.out.size))
            clear hb2' X1 B1 ztag zqual ztext zname zitems
            go_wp2_with fail
            go_ret2
            exact ⟨ret_ti HLT.out.symm HER.out.symm, B2.out⟩
      · have hk' : k = l.length := by omega
        subst hk'
        have HER : Hid (errL l d = 0) := by show _ = _; rw [HEL.out, List.drop_length, errL]
        have HLT : Hid (lnT l d = T) := by show _ = _; unfold lnT; rw [HER.out, if_pos rfl, HT.out, List.take_length]
        go_wp2_with fail
        go_ret2
        exact ⟨ret_ti HLT.out.symm HER.out.symm, HB.out⟩
end Go.Proofs.YtpkgaidnpooahaaGreatDoor
namespace Go.Proofs.YtpkgaidnpooahaaGreatDoor
open Go.RowKit

def prE (l : List Tr) : Int := if errL l 0 ≠ 0 then errL l 0 else if 1048576 < (txtL l).length then 5 else 0
def prT (l : List Tr) : List UInt8 := if prE l = 0 then txtL l else []
set_option maxRecDepth 100000 in
set_option maxHeartbeats 2000000 in
theorem refPrint_any (l : List Tr) (v : Value) (w : World) (hD : wts l ≤ 1099511627776) (hv : RT w v l) :
    Calls Tryz.prog 30 #[v] w fun e w' => e = .returned (.tuple #[.string ⟨(prT l).toArray⟩, .int .i64 (prE l)]) ∧ Below w.heap.size w w' := by
  have HL := hide (refLines_any (wts l) l v 0 w (Nat.le_refl _) hD (by omega) (by omega) hv)
  have HLEN := hide (txtL_len _ l (Nat.le_refl _))
  clear hv
  by_cases he : errL l 0 = 0
  · have H1 : Hid (lnT l 0 = txtL l) := by show _ = _; unfold lnT; rw [if_pos he]
    rw [H1.out, he] at HL
    by_cases hm : 1048576 < (txtL l).length
    · have HE : Hid (prE l = 5) := by show _ = _; unfold prE; rw [if_neg (by simp [he]), if_pos hm]
      have HT : Hid (prT l = []) := by show _ = _; unfold prT; rw [HE.out]; rfl
      have hlen2 : (txtL l).length ≤ 15393162788864 := by have := HLEN.out; omega
      generalize txtL l = X at *
      clear he
      go_enter Tryz.func30, Tryz.ntmps30
      go_wp2_with fail
      refine HL.out.mono ?_
      rintro e w1 ⟨rfl, hb1⟩
      go_wp2_with fail
      go_ret2
      exact ⟨ret_ti HT.out.symm HE.out.symm, hb1⟩
    · have HE : Hid (prE l = 0) := by show _ = _; unfold prE; rw [if_neg (by simp [he]), if_neg hm]
      have HT : Hid (prT l = txtL l) := by show _ = _; unfold prT; rw [HE.out]; rfl
      generalize txtL l = X at *
      clear he
      go_enter Tryz.func30, Tryz.ntmps30
      go_wp2_with fail
      refine HL.out.mono ?_
      rintro e w1 ⟨rfl, hb1⟩
      go_wp2_with fail
      go_ret2
      exact ⟨ret_ti HT.out.symm HE.out.symm, hb1⟩
  · have H1 : Hid (lnT l 0 = []) := by show _ = _; unfold lnT; rw [if_neg he]
    rw [H1.out] at HL
    have HE : Hid (prE l = errL l 0) := by show _ = _; unfold prE; rw [if_pos he]
    have HT : Hid (prT l = []) := by show _ = _; unfold prT; rw [HE.out, if_neg he]
    obtain ⟨q1, q2⟩ : ((errL l 0 == 0) = false) ∧ ((errL l 0 != 0) = true) := ⟨beq_eq_false_iff_ne.2 he, bne_iff_ne.2 he⟩
    generalize errL l 0 = E at *
    clear he
    go_enter Tryz.func30, Tryz.ntmps30
    go_wp2_with fail
    refine HL.out.mono ?_
    rintro e w1 ⟨rfl, hb1⟩
    go_wp2_with fail
    go_ret2
    exact ⟨ret_ti HT.out.symm HE.out.symm, hb1⟩
theorem Tryz.sizeBld : (Tryz.prog.info? 42).map (·.size) = some 2 := by kernel_rfl
theorem Tryz.liesBld : liesAt Tryz.prog Tryz.prog.depth 44 (3 / Tryz.prog.cellsOf 44) 0 42 1 = true := by kernel_rfl
set_option maxRecDepth 100000 in
set_option maxHeartbeats 2000000 in
theorem copyFresh (b : Nat) (w : World) (v : Value) (n : Int) (hb : w.heap[b]? = some (.cells #[.pointer none, v, .int .i64 n] 44 (0, 0))) :
    Calls Tryz.prog 94 #[.pointer (some ⟨b, 0, none⟩)] w fun e w' => e = .returned (.tuple #[]) ∧ w' = w.setCell ⟨b, 0, none⟩ (.pointer (some ⟨b, 0, none⟩)) := by
  obtain ⟨j, hj, hjs⟩ := Option.map_eq_some_iff.1 Tryz.sizeBld
  have c0 : w.cell? ⟨b, 0, none⟩ = some (.pointer none) := by rw [cell_of_row _ _ 0 _ _ _ hb]; rfl
  have f0 : w.frozen? ⟨b, 0, none⟩ = false := by unfold World.frozen?; simp [hb]
  have hsh : w.shape? b = some (44, 3) := by simp [World.shape?, hb]
  have u1 := Lib.run_to_unsafe (P := Tryz.prog) w ⟨b, 0, none⟩ Tryz.underlying40 Tryz.underlying111 hj (by rw [hjs]; decide) hsh (show 0 < 3 by decide)
  have u2 := Lib.run_from_unsafe (P := Tryz.prog) w ⟨b, 0, none⟩ Tryz.underlying111 Tryz.underlying40 hj hsh Tryz.liesBld
  clear hsh hjs hj hb
  go_enter Tryz.func94, Tryz.ntmps94
  go_wp2_with fail
  rw [run_callFunc_extern Tryz.func108 (by kernel_rfl) (by kernel_rfl) (by kernel_rfl) (e := Extern.AbiNoEscape.same) (by kernel_rfl)]
  rw [Lib.run_noEscape]
  simp only [Result.andThen]
  rw [Oper.upon_value]
  go_wp2_with fail
  go_end0
  exact ⟨rfl, rfl⟩
end Go.Proofs.YtpkgaidnpooahaaGreatDoor
