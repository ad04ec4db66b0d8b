/-
  My own text: T6, T7 in one.
-/
import Derived.Test.YtpkgaidnpooahaaGreatDoorT5
namespace Go.Proofs.YtpkgaidnpooahaaGreatDoor
open Go.RowKit

theorem Tryz.sizeItm : (Tryz.prog.info? 25).map (·.size) = some 5 := by kernel_rfl
theorem itemE_field {i : Itm} {n : Nat} {d : Int} (h : i.tag.isEmpty = false) : itemE i n d = fieldE i n := by unfold itemE; rw [h]; rfl
theorem itemE_none {i : Itm} {n : Nat} {d : Int} (h : i.tag.isEmpty = true) (h2 : i.name.isEmpty = true) : itemE i n d = 24 := by unfold itemE; rw [h, h2]; rfl
theorem itemE_block {i : Itm} {n : Nat} {d : Int} (h : i.tag.isEmpty = true) (h2 : i.name.isEmpty = false) : itemE i n d = blockE i d := by unfold itemE; rw [h, h2]; rfl
set_option maxRecDepth 100000 in
set_option maxHeartbeats 4000000 in
theorem check_any (i : Itm) (n cap : Nat) (a : Option Addr) (d : Int) (w : World) (hi : IOk i) :
    Calls Tryz.prog 43 #[.agg (iC i (.slice a n cap)), .int .i64 d] w fun e w' => e = .returned (errV (itemE i n d)) ∧ Below w.heap.size w w' := by
  have X0 := hide (Ix.new w i (.slice a n cap))
  have B0 := hide ((Below.refl w.heap.size w).alloc (Nat.le_refl _) (.cells (iC i (.slice a n cap)) 25))
  have HF := hide (fun W : World => isField_any i (.slice a n cap) W)
  have HB := hide (fun W : World => isBlock_any i (.slice a n cap) W)
  have HCF := hide (fun W : World => checkField_any i n cap a W hi)
  have HCB := hide (fun W : World => checkBlock_any i (.slice a n cap) d W hi)
  clear hi
  cases ht : i.tag.isEmpty
  · rw [itemE_field ht]
    rw [ht] at HF
    try dsimp only [Bool.not_false] at HF
    go_enter Tryz.func43, Tryz.ntmps43
    go_wp2_with (refine wpList_load_row rfl 25 (.tmp 2) rfl w.heap.size rfl _ (iC i (.slice a n cap)) _ _ X0.out Tryz.underlying25 rfl Tryz.sizeItm ?_)
    refine (HF.out _).mono ?_
    rintro e w1 ⟨rfl, hb1⟩
    have X1 := hide (X0.out.later hb1)
    have B1 := hide (B0.out.trans (hb1.mono B0.out.size))
    clear hb1 X0 B0
    go_wp2_with (refine wpList_load_row rfl 25 (.tmp 2) rfl w.heap.size rfl _ (iC i (.slice a n cap)) _ _ X1.out Tryz.underlying25 rfl Tryz.sizeItm ?_)
    refine (HCF.out _).mono ?_
    rintro e w2 ⟨rfl, hb2⟩
    have X2 := hide (X1.out.later hb2)
    have B2 := hide (B1.out.trans (hb2.mono B1.out.size))
    clear hb2 X1 B1
    go_wp2_with (fail)
    go_ret
    exact ⟨rfl, B2.out⟩
  · rw [ht] at HF HB
    try dsimp only [Bool.not_true] at HF
    cases hn : i.name.isEmpty
    · rw [itemE_block ht hn]
      rw [hn] at HB
      try dsimp only [Bool.not_false, Bool.and_self] at HB
      go_enter Tryz.func43, Tryz.ntmps43
      go_wp2_with (refine wpList_load_row rfl 25 (.tmp 2) rfl w.heap.size rfl _ (iC i (.slice a n cap)) _ _ X0.out Tryz.underlying25 rfl Tryz.sizeItm ?_)
      refine (HF.out _).mono ?_
      rintro e w1 ⟨rfl, hb1⟩
      have X1 := hide (X0.out.later hb1)
      have B1 := hide (B0.out.trans (hb1.mono B0.out.size))
      clear hb1 X0 B0
      go_wp2_with (refine wpList_load_row rfl 25 (.tmp 2) rfl w.heap.size rfl _ (iC i (.slice a n cap)) _ _ X1.out Tryz.underlying25 rfl Tryz.sizeItm ?_)
      refine (HB.out _).mono ?_
      rintro e w2 ⟨rfl, hb2⟩
      have X2 := hide (X1.out.later hb2)
      have B2 := hide (B1.out.trans (hb2.mono B1.out.size))
      clear hb2 X1 B1
      go_wp2_with (refine wpList_load_row rfl 25 (.tmp 2) rfl w.heap.size rfl _ (iC i (.slice a n cap)) _ _ X2.out Tryz.underlying25 rfl Tryz.sizeItm ?_)
      refine (HCB.out _).mono ?_
      rintro e w3 ⟨rfl, hb3⟩
      have X3 := hide (X2.out.later hb3)
      have B3 := hide (B2.out.trans (hb3.mono B2.out.size))
      clear hb3 X2 B2
      go_wp2_with (fail)
      go_ret
      exact ⟨rfl, B3.out⟩
    · rw [itemE_none ht hn]
      rw [hn] at HB
      try dsimp only [Bool.not_true, Bool.and_false] at HB
      go_enter Tryz.func43, Tryz.ntmps43
      go_wp2_with (refine wpList_load_row rfl 25 (.tmp 2) rfl w.heap.size rfl _ (iC i (.slice a n cap)) _ _ X0.out Tryz.underlying25 rfl Tryz.sizeItm ?_)
      refine (HF.out _).mono ?_
      rintro e w1 ⟨rfl, hb1⟩
      have X1 := hide (X0.out.later hb1)
      have B1 := hide (B0.out.trans (hb1.mono B0.out.size))
      clear hb1 X0 B0
      go_wp2_with (refine wpList_load_row rfl 25 (.tmp 2) rfl w.heap.size rfl _ (iC i (.slice a n cap)) _ _ X1.out Tryz.underlying25 rfl Tryz.sizeItm ?_)
      refine (HB.out _).mono ?_
      rintro e w2 ⟨rfl, hb2⟩
      have X2 := hide (X1.out.later hb2)
      have B2 := hide (B1.out.trans (hb2.mono B1.out.size))
      clear hb2 X1 B1
      go_wp2_with (fail)
      go_ret
      exact ⟨rfl, B2.out⟩
set_option maxRecDepth 100000 in
set_option maxHeartbeats 4000000 in
theorem refWrong_any (i : Itm) (n cap : Nat) (a : Option Addr) (d : Int) (w : World) (hi : IOk i) :
    Calls Tryz.prog 84 #[.agg (iC i (.slice a n cap)), .int .i64 d] w fun e w' => e = .returned (.int .i64 (itemE i n d)) ∧ Below w.heap.size w w' := by
  have HLC : Hid True := hide trivial
  have X0 := hide (Ix.new w i (.slice a n cap))
  have B0 := hide ((Below.refl w.heap.size w).alloc (Nat.le_refl _) (.cells (iC i (.slice a n cap)) 25))
  have HTG := hide (fun W : World => same_below (refTag_any i.tag W hi.tag))
  have HQL := hide (fun W : World => same_below (refQual_any i.qual W hi.qual))
  have HNM := hide (fun W : World => same_below (refName_any i.name W hi.name))
  have HTXt := hide (fun W : World => refText_any i.text true W hi.text)
  have HTXf := hide (fun W : World => refText_any i.text false W hi.text)
  clear hi
  go_enter Tryz.func84, Tryz.ntmps84
  cases hte0 : i.tag.isEmpty
  · have htb0 := bytes_nil_f hte0
    cases htg : tagB i.tag
    · rw [htg] at HTG
      have ztag := X0.out.tag HLC.out
      go_wp2_with (fail)
      refine (HTG.out _).mono ?_
      rintro e w1 ⟨rfl, hb1⟩
      have X1 := hide (X0.out.later hb1)
      have B1 := hide (B0.out.trans (hb1.mono B0.out.size))
      clear hb1 X0 B0 ztag
      go_wp2_with (fail)
      go_ret
      exact ⟨ret_i (b := 4) (by simp [itemE, fieldE, fE, hte0, htg]), B1.out⟩
    · rw [htg] at HTG
      have ztag := X0.out.tag HLC.out
      go_wp2_with (fail)
      refine (HTG.out _).mono ?_
      rintro e w1 ⟨rfl, hb1⟩
      have X1 := hide (X0.out.later hb1)
      have B1 := hide (B0.out.trans (hb1.mono B0.out.size))
      clear hb1 X0 B0 ztag
      cases hqe : i.qual.isEmpty
      · have hqb := bytes_nil_f hqe
        cases hql : qualB i.qual
        · rw [hql] at HQL
          have zqual := X1.out.qual HLC.out
          go_wp2_with (fail)
          refine (HQL.out _).mono ?_
          rintro e w2 ⟨rfl, hb2⟩
          have X2 := hide (X1.out.later hb2)
          have B2 := hide (B1.out.trans (hb2.mono B1.out.size))
          clear hb2 X1 B1 zqual
          go_wp2_with (fail)
          go_ret
          exact ⟨ret_i (b := 4) (by simp [itemE, fieldE, fE, hte0, htg, hqe, hql]), B2.out⟩
        · rw [hql] at HQL
          have zqual := X1.out.qual HLC.out
          go_wp2_with (fail)
          refine (HQL.out _).mono ?_
          rintro e w2 ⟨rfl, hb2⟩
          have X2 := hide (X1.out.later hb2)
          have B2 := hide (B1.out.trans (hb2.mono B1.out.size))
          clear hb2 X1 B1 zqual
          cases hne : i.name.isEmpty
          · have hnb := bytes_nil_f hne
            have zname := X2.out.name HLC.out
            have zitems := X2.out.items HLC.out
            go_wp2_with (fail)
            go_ret
            exact ⟨ret_i (b := 4) (by simp [itemE, fieldE, fE, hte0, htg, hqe, hql, hne]), B2.out⟩
          · have hnb := bytes_nil_t hne
            cases hke : decide (n = 0)
            · have hkb : decide (0 < n) = true := decide_eq_true (by have := of_decide_eq_false hke; omega)
              have zname := X2.out.name HLC.out
              have zitems := X2.out.items HLC.out
              go_wp2_with (fail)
              go_ret
              exact ⟨ret_i (b := 4) (by simp [itemE, fieldE, fE, hte0, htg, hqe, hql, hne, hke]), B2.out⟩
            · have hkb : decide (0 < n) = false := decide_eq_false (by have := of_decide_eq_true hke; omega)
              have zname := X2.out.name HLC.out
              have zitems := X2.out.items HLC.out
              have ztext := X2.out.text HLC.out
              have zqual := X2.out.qual HLC.out
              go_wp2_with (fail)
              refine (HTXt.out _).mono ?_
              rintro e w3 ⟨rfl, hb3⟩
              have X3 := hide (X2.out.later hb3)
              have B3 := hide (B2.out.trans (hb3.mono B2.out.size))
              clear hb3 X2 B2 zname zitems ztext zqual
              go_wp2_with (fail)
              go_ret
              exact ⟨ret_i (b := textE i.text true) (by simp [itemE, fieldE, fE, textE, hte0, htg, hqe, hql, hne, hke]), B3.out⟩
      · have hqb := bytes_nil_t hqe
        cases hne : i.name.isEmpty
        · have hnb := bytes_nil_f hne
          have zqual := X1.out.qual HLC.out
          have zname := X1.out.name HLC.out
          have zitems := X1.out.items HLC.out
          go_wp2_with (fail)
          go_ret
          exact ⟨ret_i (b := 4) (by simp [itemE, fieldE, fE, hte0, htg, hqe, hne]), B1.out⟩
        · have hnb := bytes_nil_t hne
          cases hke : decide (n = 0)
          · have hkb : decide (0 < n) = true := decide_eq_true (by have := of_decide_eq_false hke; omega)
            have zqual := X1.out.qual HLC.out
            have zname := X1.out.name HLC.out
            have zitems := X1.out.items HLC.out
            go_wp2_with (fail)
            go_ret
            exact ⟨ret_i (b := 4) (by simp [itemE, fieldE, fE, hte0, htg, hqe, hne, hke]), B1.out⟩
          · have hkb : decide (0 < n) = false := decide_eq_false (by have := of_decide_eq_true hke; omega)
            have zqual := X1.out.qual HLC.out
            have zname := X1.out.name HLC.out
            have zitems := X1.out.items HLC.out
            have ztext := X1.out.text HLC.out
            go_wp2_with (fail)
            refine (HTXf.out _).mono ?_
            rintro e w2 ⟨rfl, hb2⟩
            have X2 := hide (X1.out.later hb2)
            have B2 := hide (B1.out.trans (hb2.mono B1.out.size))
            clear hb2 X1 B1 zqual zname zitems ztext
            go_wp2_with (fail)
            go_ret
            exact ⟨ret_i (b := textE i.text false) (by simp [itemE, fieldE, fE, textE, hte0, htg, hqe, hne, hke]), B2.out⟩
  · have htb0 := bytes_nil_t hte0
    cases hne0 : i.name.isEmpty
    · have hnb0 := str_eq_f hne0
      cases hdp : decide (8 ≤ d)
      · skip
        cases hnm : nameB i.name
        · rw [hnm] at HNM
          have ztag := X0.out.tag HLC.out
          have zname := X0.out.name HLC.out
          go_wp2_with (fail)
          refine (HNM.out _).mono ?_
          rintro e w1 ⟨rfl, hb1⟩
          have X1 := hide (X0.out.later hb1)
          have B1 := hide (B0.out.trans (hb1.mono B0.out.size))
          clear hb1 X0 B0 ztag zname
          go_wp2_with (fail)
          go_ret
          exact ⟨ret_i (b := 4) (by simp [itemE, blockE, bE, hte0, hne0, hdp, hnm]), B1.out⟩
        · rw [hnm] at HNM
          have ztag := X0.out.tag HLC.out
          have zname := X0.out.name HLC.out
          go_wp2_with (fail)
          refine (HNM.out _).mono ?_
          rintro e w1 ⟨rfl, hb1⟩
          have X1 := hide (X0.out.later hb1)
          have B1 := hide (B0.out.trans (hb1.mono B0.out.size))
          clear hb1 X0 B0 ztag zname
          cases hqe : i.qual.isEmpty
          · have hqb := bytes_nil_f hqe
            have zqual := X1.out.qual HLC.out
            have ztext := X1.out.text HLC.out
            go_wp2_with (fail)
            go_ret
            exact ⟨ret_i (b := 4) (by simp [itemE, blockE, bE, hte0, hne0, hdp, hnm, hqe]), B1.out⟩
          · have hqb := bytes_nil_t hqe
            cases hte : i.text.isEmpty
            · have htb := bytes_nil_f hte
              have zqual := X1.out.qual HLC.out
              have ztext := X1.out.text HLC.out
              go_wp2_with (fail)
              go_ret
              exact ⟨ret_i (b := 4) (by simp [itemE, blockE, bE, hte0, hne0, hdp, hnm, hqe, hte]), B1.out⟩
            · have htb := bytes_nil_t hte
              have zqual := X1.out.qual HLC.out
              have ztext := X1.out.text HLC.out
              go_wp2_with (fail)
              go_ret
              exact ⟨ret_i (b := 0) (by simp [itemE, blockE, bE, hte0, hne0, hdp, hnm, hqe, hte]), B1.out⟩
      · skip
        have ztag := X0.out.tag HLC.out
        have zname := X0.out.name HLC.out
        go_wp2_with (fail)
        go_ret
        exact ⟨ret_i (b := 5) (by simp [itemE, blockE, bE, hte0, hne0, hdp]), B0.out⟩
    · have hnb0 := str_eq_t hne0
      have ztag := X0.out.tag HLC.out
      have zname := X0.out.name HLC.out
      go_wp2_with (fail)
      go_ret
      exact ⟨ret_i (b := 24) (by simp [itemE, hte0, hne0]), B0.out⟩
end Go.Proofs.YtpkgaidnpooahaaGreatDoor
namespace Go.Proofs.YtpkgaidnpooahaaGreatDoor
open Go.RowKit

/-- An item with what it holds. -/
inductive Tr where
  | mk (i : Itm) (l : List Tr)
def Tr.itm : Tr → Itm
  | .mk i _ => i
def Tr.kids : Tr → List Tr
  | .mk _ l => l
mutual
/-- How much an item weighs. -/
def Tr.wt : Tr → Nat
  | .mk i l => 1 + i.tag.length + i.qual.length + i.text.length + i.name.length + wts l
def wts : List Tr → Nat
  | [] => 0
  | a :: r => a.wt + wts r
end
theorem wt_eq (a : Tr) : a.wt = 1 + a.itm.tag.length + a.itm.qual.length + a.itm.text.length + a.itm.name.length + wts a.kids := by
  cases a; simp [Tr.wt, Tr.itm, Tr.kids]
theorem wts_cons (a : Tr) (r : List Tr) : wts (a :: r) = a.wt + wts r := by simp [wts]
theorem wts_at : ∀ {l : List Tr} {k : Nat} {a : Tr}, l[k]? = some a → a.wt ≤ wts l
  | b :: r, 0, a, h => by simp at h; subst h; rw [wts_cons]; omega
  | b :: r, k + 1, a, h => by
    have := wts_at (l := r) (k := k) (a := a) (by simpa using h)
    rw [wts_cons]; omega
theorem wts_len : ∀ l : List Tr, l.length ≤ wts l
  | [] => by simp [wts]
  | a :: r => by
    have h1 := wts_len r
    have h2 := wt_eq a
    rw [wts_cons]; simp; omega
theorem wts_drop {l : List Tr} {k : Nat} {a : Tr} (h : l[k]? = some a) : wts (l.drop k) = a.wt + wts (l.drop (k + 1)) := by
  have hj : k < l.length := (List.getElem?_eq_some_iff.1 h).1
  rw [List.drop_eq_getElem_cons hj, wts_cons]; congr 2; exact (List.getElem?_eq_some_iff.1 h).2
theorem wts_drop_le (l : List Tr) (k : Nat) : wts (l.drop k) ≤ wts l := by
  induction l generalizing k with
  | nil => simp
  | cons a r ih =>
    cases k with
    | zero => simp
    | succ k => have := ih k; rw [List.drop_succ_cons, wts_cons]; omega
theorem drop_cons {l : List Tr} {k : Nat} {a : Tr} (h : l[k]? = some a) : l.drop k = a :: l.drop (k + 1) := by
  have hj : k < l.length := (List.getElem?_eq_some_iff.1 h).1
  rw [List.drop_eq_getElem_cons hj]; congr 1; exact (List.getElem?_eq_some_iff.1 h).2
mutual
/-- An item in memory. -/
def RI (w : World) : Tr → Nat → Nat → Prop
  | .mk i l, b, off => w.cell? ⟨b, off, none⟩ = some (.string ⟨i.tag.toArray⟩) ∧ w.cell? ⟨b, off + 1, none⟩ = some (.string ⟨i.qual.toArray⟩) ∧ w.cell? ⟨b, off + 2, none⟩ = some (.string ⟨i.text.toArray⟩) ∧ w.cell? ⟨b, off + 3, none⟩ = some (.string ⟨i.name.toArray⟩) ∧ ∃ a cap, w.cell? ⟨b, off + 4, none⟩ = some (.slice a l.length cap) ∧ (l = [] ∨ ∃ b' off', a = some ⟨b', off', none⟩ ∧ b' < w.heap.size ∧ RR w l b' off')
def RR (w : World) : List Tr → Nat → Nat → Prop
  | [], _, _ => True
  | a :: r, b, off => RI w a b off ∧ RR w r b (off + 5)
end
/-- A list of items in memory. -/
def RT (w : World) (v : Value) (l : List Tr) : Prop := ∃ a cap, v = .slice a l.length cap ∧ (l = [] ∨ ∃ b off, a = some ⟨b, off, none⟩ ∧ b < w.heap.size ∧ RR w l b off)
theorem RI_iff {w : World} {a : Tr} {b off : Nat} : RI w a b off ↔ w.cell? ⟨b, off, none⟩ = some (.string ⟨a.itm.tag.toArray⟩) ∧ w.cell? ⟨b, off + 1, none⟩ = some (.string ⟨a.itm.qual.toArray⟩) ∧ w.cell? ⟨b, off + 2, none⟩ = some (.string ⟨a.itm.text.toArray⟩) ∧ w.cell? ⟨b, off + 3, none⟩ = some (.string ⟨a.itm.name.toArray⟩) ∧ ∃ v, w.cell? ⟨b, off + 4, none⟩ = some v ∧ RT w v a.kids := by
  obtain ⟨i, l⟩ := a
  unfold RI RT Tr.itm Tr.kids
  constructor
  · rintro ⟨h1, h2, h3, h4, a, cap, h5, h6⟩
    exact ⟨h1, h2, h3, h4, _, h5, a, cap, rfl, h6⟩
  · rintro ⟨h1, h2, h3, h4, v, h5, a, cap, rfl, h6⟩
    exact ⟨h1, h2, h3, h4, a, cap, h5, h6⟩
theorem RR_cons {w : World} {a : Tr} {r : List Tr} {b off : Nat} : RR w (a :: r) b off ↔ RI w a b off ∧ RR w r b (off + 5) := by rw [RR]
theorem RR_at {w : World} : ∀ {l : List Tr} {b off k : Nat} {a : Tr}, RR w l b off → l[k]? = some a → RI w a b (off + k * 5)
  | c :: r, b, off, 0, a, h, hk => by simp at hk; subst hk; exact (RR_cons.1 h).1
  | c :: r, b, off, k + 1, a, h, hk => by
    have := RR_at (RR_cons.1 h).2 (k := k) (a := a) (by simpa using hk)
    rw [show off + (k + 1) * 5 = off + 5 + k * 5 by omega]; exact this
theorem RR_mk {w : World} : ∀ {l : List Tr} {b off : Nat}, (∀ k a, l[k]? = some a → RI w a b (off + k * 5)) → RR w l b off
  | [], b, off, _ => by rw [RR]; trivial
  | c :: r, b, off, h => RR_cons.2 ⟨by have := h 0 c rfl; simpa using this, RR_mk (fun k a hk => by
      have := h (k + 1) a (by simpa using hk)
      rw [show off + (k + 1) * 5 = off + 5 + k * 5 by omega] at this; exact this)⟩
theorem RR_later {w w' : World} (hb : ∀ g, g < w.heap.size → w'.heap[g]? = w.heap[g]?) (hs : w.heap.size ≤ w'.heap.size) : ∀ (d : Nat) (l : List Tr) (b off : Nat), wts l ≤ d → b < w.heap.size → RR w l b off → RR w' l b off := by
  have hc : ∀ {b o : Nat} {v : Value}, b < w.heap.size → w.cell? ⟨b, o, none⟩ = some v → w'.cell? ⟨b, o, none⟩ = some v := by
    intro b o v hlt h
    rw [← h]; unfold World.cell?; rw [hb b hlt]
  intro d
  induction d using Nat.strongRecOn with
  | ind d ih =>
    intro l b off hd hlt h
    refine RR_mk (fun k a hk => ?_)
    obtain ⟨h1, h2, h3, h4, v, h5, ad, cap, rfl, h6⟩ := RI_iff.1 (RR_at h hk)
    refine RI_iff.2 ⟨hc hlt h1, hc hlt h2, hc hlt h3, hc hlt h4, _, hc hlt h5, ad, cap, rfl, ?_⟩
    rcases h6 with h6 | ⟨b', off', e, hlt', h6⟩
    · exact .inl h6
    · have hw := wts_at hk
      have he := wt_eq a
      exact .inr ⟨b', off', e, Nat.lt_of_lt_of_le hlt' hs, ih (wts a.kids) (by omega) a.kids b' off' (Nat.le_refl _) hlt' h6⟩
theorem RT_later {w w' : World} {v : Value} {l : List Tr} (h : RT w v l) (hb : Below w.heap.size w w') : RT w' v l := by
  obtain ⟨a, cap, rfl, h⟩ := h
  refine ⟨a, cap, rfl, ?_⟩
  rcases h with h | ⟨b, off, e, hlt, h⟩
  · exact .inl h
  · exact .inr ⟨b, off, e, Nat.lt_of_lt_of_le hlt hb.size, RR_later (fun g hg => hb.block g hg) hb.size (wts l) l b off (Nat.le_refl _) hlt h⟩
/-- What a place of a row of items holds. -/
theorem RT_at {w : World} {a : Option Addr} {l : List Tr} {k : Nat} {t : Tr} (h : l = [] ∨ ∃ b off, a = some ⟨b, off, none⟩ ∧ b < w.heap.size ∧ RR w l b off) (hk : l[k]? = some t) :
    ∃ b off v, a = some ⟨b, off, none⟩ ∧ b < w.heap.size ∧ w.cell? ⟨b, off + k * 5, none⟩ = some (.string ⟨t.itm.tag.toArray⟩) ∧ w.cell? ⟨b, off + k * 5 + 1, none⟩ = some (.string ⟨t.itm.qual.toArray⟩) ∧ w.cell? ⟨b, off + k * 5 + 2, none⟩ = some (.string ⟨t.itm.text.toArray⟩) ∧ w.cell? ⟨b, off + k * 5 + 3, none⟩ = some (.string ⟨t.itm.name.toArray⟩) ∧ w.cell? ⟨b, off + k * 5 + 4, none⟩ = some v ∧ RT w v t.kids := by
  rcases h with h | ⟨b, off, e, hlt, h⟩
  · subst h; simp at hk
  · obtain ⟨h1, h2, h3, h4, v, h5, h6⟩ := RI_iff.1 (RR_at h hk)
    exact ⟨b, off, v, e, hlt, h1, h2, h3, h4, h5, h6⟩
theorem iok_of {a : Tr} {d : Nat} (h : a.wt ≤ d) (hd : d ≤ 140737488355328) : IOk a.itm := by
  have := wt_eq a
  exact ⟨by omega, by omega, by omega, by omega⟩
end Go.Proofs.YtpkgaidnpooahaaGreatDoor
