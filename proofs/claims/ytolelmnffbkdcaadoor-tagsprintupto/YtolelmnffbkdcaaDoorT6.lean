/-
  My own text: what is wrong with an item: check, the program's, and wrong, the document's (printed by mkt6.py).
-/
import Derived.Test.YtolelmnffbkdcaaDoorT5
namespace Go.Proofs.YtolelmnffbkdcaaDoor
open Go.RowKit

theorem Tryd.sizeItm : (Tryd.prog.info? 51).map (·.size) = some 5 := by kernel_rfl
theorem itemE_field {i : Itm} {n : Nat} {d : Int} (h : i.tag.isEmpty = false) : itemE i n d = fieldE i n := by unfold itemE; rw [h]; rfl
theorem itemE_none {i : Itm} {n : Nat} {d : Int} (h : i.tag.isEmpty = true) (h2 : i.name.isEmpty = true) : itemE i n d = 24 := by unfold itemE; rw [h, h2]; rfl
theorem itemE_block {i : Itm} {n : Nat} {d : Int} (h : i.tag.isEmpty = true) (h2 : i.name.isEmpty = false) : itemE i n d = blockE i d := by unfold itemE; rw [h, h2]; rfl
set_option maxRecDepth 100000 in
set_option maxHeartbeats 4000000 in
theorem check_any (i : Itm) (n cap : Nat) (a : Option Addr) (d : Int) (w : World) (hi : IOk i) :
    Calls Tryd.prog 20 #[.agg (iC i (.slice a n cap)), .int .i64 d] w fun e w' => e = .returned (errV (itemE i n d)) ∧ Below w.heap.size w w' := by
  have X0 := hide (Ix.new w i (.slice a n cap))
  have B0 := hide ((Below.refl w.heap.size w).alloc (Nat.le_refl _) (.cells (iC i (.slice a n cap)) 51))
  have HF := hide (fun W : World => isField_any i (.slice a n cap) W)
  have HB := hide (fun W : World => isBlock_any i (.slice a n cap) W)
  have HCF := hide (fun W : World => checkField_any i n cap a W hi)
  have HCB := hide (fun W : World => checkBlock_any i (.slice a n cap) d W hi)
  clear hi
  cases ht : i.tag.isEmpty
  · rw [itemE_field ht]
    rw [ht] at HF
    try dsimp only [Bool.not_false] at HF
    go_enter Tryd.func20, Tryd.ntmps20
    go_wp2_with (refine wpList_load_row rfl 51 (.tmp 2) rfl w.heap.size rfl _ (iC i (.slice a n cap)) _ _ X0.out Tryd.underlying51 rfl Tryd.sizeItm ?_)
    refine (HF.out _).mono ?_
    rintro e w1 ⟨rfl, hb1⟩
    have X1 := hide (X0.out.later hb1)
    have B1 := hide (B0.out.trans (hb1.mono B0.out.size))
    clear hb1 X0 B0
    go_wp2_with (refine wpList_load_row rfl 51 (.tmp 2) rfl w.heap.size rfl _ (iC i (.slice a n cap)) _ _ X1.out Tryd.underlying51 rfl Tryd.sizeItm ?_)
    refine (HCF.out _).mono ?_
    rintro e w2 ⟨rfl, hb2⟩
    have X2 := hide (X1.out.later hb2)
    have B2 := hide (B1.out.trans (hb2.mono B1.out.size))
    clear hb2 X1 B1
    go_wp2_with (fail)
    go_ret
    exact ⟨rfl, B2.out⟩
  · rw [ht] at HF HB
    try dsimp only [Bool.not_true] at HF
    cases hn : i.name.isEmpty
    · rw [itemE_block ht hn]
      rw [hn] at HB
      try dsimp only [Bool.not_false, Bool.and_self] at HB
      go_enter Tryd.func20, Tryd.ntmps20
      go_wp2_with (refine wpList_load_row rfl 51 (.tmp 2) rfl w.heap.size rfl _ (iC i (.slice a n cap)) _ _ X0.out Tryd.underlying51 rfl Tryd.sizeItm ?_)
      refine (HF.out _).mono ?_
      rintro e w1 ⟨rfl, hb1⟩
      have X1 := hide (X0.out.later hb1)
      have B1 := hide (B0.out.trans (hb1.mono B0.out.size))
      clear hb1 X0 B0
      go_wp2_with (refine wpList_load_row rfl 51 (.tmp 2) rfl w.heap.size rfl _ (iC i (.slice a n cap)) _ _ X1.out Tryd.underlying51 rfl Tryd.sizeItm ?_)
      refine (HB.out _).mono ?_
      rintro e w2 ⟨rfl, hb2⟩
      have X2 := hide (X1.out.later hb2)
      have B2 := hide (B1.out.trans (hb2.mono B1.out.size))
      clear hb2 X1 B1
      go_wp2_with (refine wpList_load_row rfl 51 (.tmp 2) rfl w.heap.size rfl _ (iC i (.slice a n cap)) _ _ X2.out Tryd.underlying51 rfl Tryd.sizeItm ?_)
      refine (HCB.out _).mono ?_
      rintro e w3 ⟨rfl, hb3⟩
      have X3 := hide (X2.out.later hb3)
      have B3 := hide (B2.out.trans (hb3.mono B2.out.size))
      clear hb3 X2 B2
      go_wp2_with (fail)
      go_ret
      exact ⟨rfl, B3.out⟩
    · rw [itemE_none ht hn]
      rw [hn] at HB
      try dsimp only [Bool.not_true, Bool.and_false] at HB
      go_enter Tryd.func20, Tryd.ntmps20
      go_wp2_with (refine wpList_load_row rfl 51 (.tmp 2) rfl w.heap.size rfl _ (iC i (.slice a n cap)) _ _ X0.out Tryd.underlying51 rfl Tryd.sizeItm ?_)
      refine (HF.out _).mono ?_
      rintro e w1 ⟨rfl, hb1⟩
      have X1 := hide (X0.out.later hb1)
      have B1 := hide (B0.out.trans (hb1.mono B0.out.size))
      clear hb1 X0 B0
      go_wp2_with (refine wpList_load_row rfl 51 (.tmp 2) rfl w.heap.size rfl _ (iC i (.slice a n cap)) _ _ X1.out Tryd.underlying51 rfl Tryd.sizeItm ?_)
      refine (HB.out _).mono ?_
      rintro e w2 ⟨rfl, hb2⟩
      have X2 := hide (X1.out.later hb2)
      have B2 := hide (B1.out.trans (hb2.mono B1.out.size))
      clear hb2 X1 B1
      go_wp2_with (fail)
      go_ret
      exact ⟨rfl, B2.out⟩
set_option maxRecDepth 100000 in
set_option maxHeartbeats 4000000 in
theorem refWrong_any (i : Itm) (n cap : Nat) (a : Option Addr) (d : Int) (w : World) (hi : IOk i) :
    Calls Tryd.prog 19 #[.agg (iC i (.slice a n cap)), .int .i64 d] w fun e w' => e = .returned (.int .i64 (itemE i n d)) ∧ Below w.heap.size w w' := by
  have HLC : Hid True := hide trivial
  have X0 := hide (Ix.new w i (.slice a n cap))
  have B0 := hide ((Below.refl w.heap.size w).alloc (Nat.le_refl _) (.cells (iC i (.slice a n cap)) 51))
  have HTG := hide (fun W : World => same_below (refTag_any i.tag W hi.tag))
  have HQL := hide (fun W : World => same_below (refQual_any i.qual W hi.qual))
  have HNM := hide (fun W : World => same_below (refName_any i.name W hi.name))
  have HTXt := hide (fun W : World => refText_any i.text true W hi.text)
  have HTXf := hide (fun W : World => refText_any i.text false W hi.text)
  clear hi
  go_enter Tryd.func19, Tryd.ntmps19
  cases hte0 : i.tag.isEmpty
  · have htb0 := bytes_nil_f hte0
    cases htg : tagB i.tag
    · rw [htg] at HTG
      have ztag := X0.out.tag HLC.out
      go_wp2_with (fail)
      refine (HTG.out _).mono ?_
      rintro e w1 ⟨rfl, hb1⟩
      have X1 := hide (X0.out.later hb1)
      have B1 := hide (B0.out.trans (hb1.mono B0.out.size))
      clear hb1 X0 B0 ztag
      go_wp2_with (fail)
      go_ret
      exact ⟨ret_i (b := 4) (by simp [itemE, fieldE, fE, hte0, htg]), B1.out⟩
    · rw [htg] at HTG
      have ztag := X0.out.tag HLC.out
      go_wp2_with (fail)
      refine (HTG.out _).mono ?_
      rintro e w1 ⟨rfl, hb1⟩
      have X1 := hide (X0.out.later hb1)
      have B1 := hide (B0.out.trans (hb1.mono B0.out.size))
      clear hb1 X0 B0 ztag
      cases hqe : i.qual.isEmpty
      · have hqb := bytes_nil_f hqe
        cases hql : qualB i.qual
        · rw [hql] at HQL
          have zqual := X1.out.qual HLC.out
          go_wp2_with (fail)
          refine (HQL.out _).mono ?_
          rintro e w2 ⟨rfl, hb2⟩
          have X2 := hide (X1.out.later hb2)
          have B2 := hide (B1.out.trans (hb2.mono B1.out.size))
          clear hb2 X1 B1 zqual
          go_wp2_with (fail)
          go_ret
          exact ⟨ret_i (b := 4) (by simp [itemE, fieldE, fE, hte0, htg, hqe, hql]), B2.out⟩
        · rw [hql] at HQL
          have zqual := X1.out.qual HLC.out
          go_wp2_with (fail)
          refine (HQL.out _).mono ?_
          rintro e w2 ⟨rfl, hb2⟩
          have X2 := hide (X1.out.later hb2)
          have B2 := hide (B1.out.trans (hb2.mono B1.out.size))
          clear hb2 X1 B1 zqual
          cases hne : i.name.isEmpty
          · have hnb := bytes_nil_f hne
            have zname := X2.out.name HLC.out
            have zitems := X2.out.items HLC.out
            go_wp2_with (fail)
            go_ret
            exact ⟨ret_i (b := 4) (by simp [itemE, fieldE, fE, hte0, htg, hqe, hql, hne]), B2.out⟩
          · have hnb := bytes_nil_t hne
            cases hke : decide (n = 0)
            · have hkb : decide (0 < n) = true := decide_eq_true (by have := of_decide_eq_false hke; omega)
              have zname := X2.out.name HLC.out
              have zitems := X2.out.items HLC.out
              go_wp2_with (fail)
              go_ret
              exact ⟨ret_i (b := 4) (by simp [itemE, fieldE, fE, hte0, htg, hqe, hql, hne, hke]), B2.out⟩
            · have hkb : decide (0 < n) = false := decide_eq_false (by have := of_decide_eq_true hke; omega)
              have zname := X2.out.name HLC.out
              have zitems := X2.out.items HLC.out
              have ztext := X2.out.text HLC.out
              have zqual := X2.out.qual HLC.out
              go_wp2_with (fail)
              refine (HTXt.out _).mono ?_
              rintro e w3 ⟨rfl, hb3⟩
              have X3 := hide (X2.out.later hb3)
              have B3 := hide (B2.out.trans (hb3.mono B2.out.size))
              clear hb3 X2 B2 zname zitems ztext zqual
              go_wp2_with (fail)
              go_ret
              exact ⟨ret_i (b := textE i.text true) (by simp [itemE, fieldE, fE, textE, hte0, htg, hqe, hql, hne, hke]), B3.out⟩
      · have hqb := bytes_nil_t hqe
        cases hne : i.name.isEmpty
        · have hnb := bytes_nil_f hne
          have zqual := X1.out.qual HLC.out
          have zname := X1.out.name HLC.out
          have zitems := X1.out.items HLC.out
          go_wp2_with (fail)
          go_ret
          exact ⟨ret_i (b := 4) (by simp [itemE, fieldE, fE, hte0, htg, hqe, hne]), B1.out⟩
        · have hnb := bytes_nil_t hne
          cases hke : decide (n = 0)
          · have hkb : decide (0 < n) = true := decide_eq_true (by have := of_decide_eq_false hke; omega)
            have zqual := X1.out.qual HLC.out
            have zname := X1.out.name HLC.out
            have zitems := X1.out.items HLC.out
            go_wp2_with (fail)
            go_ret
            exact ⟨ret_i (b := 4) (by simp [itemE, fieldE, fE, hte0, htg, hqe, hne, hke]), B1.out⟩
          · have hkb : decide (0 < n) = false := decide_eq_false (by have := of_decide_eq_true hke; omega)
            have zqual := X1.out.qual HLC.out
            have zname := X1.out.name HLC.out
            have zitems := X1.out.items HLC.out
            have ztext := X1.out.text HLC.out
            go_wp2_with (fail)
            refine (HTXf.out _).mono ?_
            rintro e w2 ⟨rfl, hb2⟩
            have X2 := hide (X1.out.later hb2)
            have B2 := hide (B1.out.trans (hb2.mono B1.out.size))
            clear hb2 X1 B1 zqual zname zitems ztext
            go_wp2_with (fail)
            go_ret
            exact ⟨ret_i (b := textE i.text false) (by simp [itemE, fieldE, fE, textE, hte0, htg, hqe, hne, hke]), B2.out⟩
  · have htb0 := bytes_nil_t hte0
    cases hne0 : i.name.isEmpty
    · have hnb0 := str_eq_f hne0
      cases hdp : decide (8 ≤ d)
      · skip
        cases hnm : nameB i.name
        · rw [hnm] at HNM
          have ztag := X0.out.tag HLC.out
          have zname := X0.out.name HLC.out
          go_wp2_with (fail)
          refine (HNM.out _).mono ?_
          rintro e w1 ⟨rfl, hb1⟩
          have X1 := hide (X0.out.later hb1)
          have B1 := hide (B0.out.trans (hb1.mono B0.out.size))
          clear hb1 X0 B0 ztag zname
          go_wp2_with (fail)
          go_ret
          exact ⟨ret_i (b := 4) (by simp [itemE, blockE, bE, hte0, hne0, hdp, hnm]), B1.out⟩
        · rw [hnm] at HNM
          have ztag := X0.out.tag HLC.out
          have zname := X0.out.name HLC.out
          go_wp2_with (fail)
          refine (HNM.out _).mono ?_
          rintro e w1 ⟨rfl, hb1⟩
          have X1 := hide (X0.out.later hb1)
          have B1 := hide (B0.out.trans (hb1.mono B0.out.size))
          clear hb1 X0 B0 ztag zname
          cases hqe : i.qual.isEmpty
          · have hqb := bytes_nil_f hqe
            have zqual := X1.out.qual HLC.out
            have ztext := X1.out.text HLC.out
            go_wp2_with (fail)
            go_ret
            exact ⟨ret_i (b := 4) (by simp [itemE, blockE, bE, hte0, hne0, hdp, hnm, hqe]), B1.out⟩
          · have hqb := bytes_nil_t hqe
            cases hte : i.text.isEmpty
            · have htb := bytes_nil_f hte
              have zqual := X1.out.qual HLC.out
              have ztext := X1.out.text HLC.out
              go_wp2_with (fail)
              go_ret
              exact ⟨ret_i (b := 4) (by simp [itemE, blockE, bE, hte0, hne0, hdp, hnm, hqe, hte]), B1.out⟩
            · have htb := bytes_nil_t hte
              have zqual := X1.out.qual HLC.out
              have ztext := X1.out.text HLC.out
              go_wp2_with (fail)
              go_ret
              exact ⟨ret_i (b := 0) (by simp [itemE, blockE, bE, hte0, hne0, hdp, hnm, hqe, hte]), B1.out⟩
      · skip
        have ztag := X0.out.tag HLC.out
        have zname := X0.out.name HLC.out
        go_wp2_with (fail)
        go_ret
        exact ⟨ret_i (b := 5) (by simp [itemE, blockE, bE, hte0, hne0, hdp]), B0.out⟩
    · have hnb0 := str_eq_t hne0
      have ztag := X0.out.tag HLC.out
      have zname := X0.out.name HLC.out
      go_wp2_with (fail)
      go_ret
      exact ⟨ret_i (b := 24) (by simp [itemE, hte0, hne0]), B0.out⟩
end Go.Proofs.YtolelmnffbkdcaaDoor
