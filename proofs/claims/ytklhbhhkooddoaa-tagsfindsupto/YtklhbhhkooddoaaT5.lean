/-
  My own text: items in cells; what is wrong with one: the program's check, and the document's (printed by mkt5.py).
-/
import Derived.Test.YtklhbhhkooddoaaT4
import Derived.Laws.Rows
import Derived.Laws.Tables
import Derived.Deep.MidRow
namespace Go.Proofs.Ytklhbhhkooddoaa
open Go.RowKit

/-- The texts of an item. -/
structure Itm where
  tag : List UInt8
  qual : List UInt8
  text : List UInt8
  name : List UInt8
def iC (i : Itm) (v : Value) : Array Value := #[.string ⟨i.tag.toArray⟩, .string ⟨i.qual.toArray⟩, .string ⟨i.text.toArray⟩, .string ⟨i.name.toArray⟩, v]
structure IOk (i : Itm) : Prop where
  tag : i.tag.length ≤ 140737488355328
  qual : i.qual.length ≤ 140737488355328
  text : i.text.length ≤ 140737488355328
  name : i.name.length ≤ 140737488355328
def Ix (w : World) (g : Nat) (i : Itm) (v : Value) : Prop := w.heap[g]? = some (.cells (iC i v) 26 (0, 0))
theorem alloc_new (w : World) (o : Obj) : (w.alloc o).heap[w.heap.size]? = some o := (MapKept.heap_alloc w o).1
theorem alloc_block {w : World} {b : Nat} {o x : Obj} (hh : w.heap[b]? = some x) : (w.alloc o).heap[b]? = some x := by
  have hlt : b < w.heap.size := (Array.getElem?_eq_some_iff.1 hh).1
  have := (Below.refl w.heap.size w).alloc (Nat.le_refl _) o
  rw [this.block b hlt]; exact hh
theorem Ix.lt {w : World} {g : Nat} {i : Itm} {v : Value} (h : Ix w g i v) : g < w.heap.size := (Array.getElem?_eq_some_iff.1 h).1
theorem Ix.later {w w' : World} {g : Nat} {i : Itm} {v : Value} (h : Ix w g i v) (hb : Below w.heap.size w w') : Ix w' g i v := (hb.block g h.lt).trans h
theorem Ix.new (w : World) (i : Itm) (v : Value) : Ix (w.alloc (.cells (iC i v) 26)) w.heap.size i v := alloc_new w _
theorem Ix.alloc {w : World} {g : Nat} {i : Itm} {v : Value} (h : Ix w g i v) (o : Obj) : Ix (w.alloc o) g i v := alloc_block h
theorem Ix.tag {w : World} {g : Nat} {i : Itm} {v : Value} (h : Ix w g i v) (_ : True) : w.cell? ⟨g, 0, none⟩ = some (.string ⟨i.tag.toArray⟩) := by rw [cell_of_row _ _ 0 _ _ _ h]; rfl
theorem Ix.qual {w : World} {g : Nat} {i : Itm} {v : Value} (h : Ix w g i v) (_ : True) : w.cell? ⟨g, 1, none⟩ = some (.string ⟨i.qual.toArray⟩) := by rw [cell_of_row _ _ 1 _ _ _ h]; rfl
theorem Ix.text {w : World} {g : Nat} {i : Itm} {v : Value} (h : Ix w g i v) (_ : True) : w.cell? ⟨g, 2, none⟩ = some (.string ⟨i.text.toArray⟩) := by rw [cell_of_row _ _ 2 _ _ _ h]; rfl
theorem Ix.name {w : World} {g : Nat} {i : Itm} {v : Value} (h : Ix w g i v) (_ : True) : w.cell? ⟨g, 3, none⟩ = some (.string ⟨i.name.toArray⟩) := by rw [cell_of_row _ _ 3 _ _ _ h]; rfl
theorem Ix.items {w : World} {g : Nat} {i : Itm} {v : Value} (h : Ix w g i v) (_ : True) : w.cell? ⟨g, 4, none⟩ = some v := by rw [cell_of_row _ _ 4 _ _ _ h]; rfl
theorem same_below {P : Program} {f : FuncId} {args : Array Value} {w : World} {v : Value} (h : Calls P f args w fun e w' => e = .returned v ∧ w' = w) : Calls P f args w fun e w' => e = .returned v ∧ Below w.heap.size w w' :=
  h.mono (fun _ _ h => ⟨h.1, h.2 ▸ Below.refl _ _⟩)
def fE (tg qe ql ne ke tx nl hd : Bool) : Int := if !tg then 4 else if !qe && !ql then 4 else if !ne then 4 else if !ke then 4 else if !tx then 6 else if nl then 4 else if qe && hd then 4 else 0
/-- What is wrong with a field. -/
def fieldE (i : Itm) (n : Nat) : Int := fE (tagB i.tag) i.qual.isEmpty (qualB i.qual) i.name.isEmpty (decide (n = 0)) (txB i.text) (nlB i.text) (hdB i.text)
def bE (dp nm qe te : Bool) : Int := if dp then 5 else if !nm then 4 else if !qe then 4 else if !te then 4 else 0
/-- What is wrong with a block. -/
def blockE (i : Itm) (d : Int) : Int := bE (decide (8 ≤ d)) (nameB i.name) i.qual.isEmpty i.text.isEmpty
/-- What is wrong with an item. -/
def itemE (i : Itm) (n : Nat) (d : Int) : Int := if !i.tag.isEmpty then fieldE i n else if i.name.isEmpty then 24 else blockE i d
theorem str_eq_t {l : List UInt8} (h : l.isEmpty = true) : ((⟨l.toArray⟩ : ByteArray) == ⟨#[]⟩) = true := by
  have := bytes_nil_t h; rw [bne] at this; simpa using this
theorem str_eq_f {l : List UInt8} (h : l.isEmpty = false) : ((⟨l.toArray⟩ : ByteArray) == ⟨#[]⟩) = false := by
  have := bytes_nil_f h; rw [bne] at this; simpa using this
theorem ret_fE {i : Itm} {n : Nat} {k : Int} {v : Value} (h : fieldE i n = k) (hv : v = errV k) : Ending.returned v = .returned (errV (fieldE i n)) := by rw [h, hv]
theorem ret_bE {i : Itm} {d k : Int} {v : Value} (h : blockE i d = k) (hv : v = errV k) : Ending.returned v = .returned (errV (blockE i d)) := by rw [h, hv]
theorem below_dN {B : Nat} {a w : World} (h : Below B a w) (n : Nat) : Below B a (w.drewN n) := h.trans ⟨rfl, rfl, rfl, Nat.le_refl _, fun _ _ => rfl⟩
theorem isField_any (i : Itm) (v : Value) (w : World) :
    Calls Try.prog 22 #[.agg (iC i v)] w fun e w' => e = .returned (.bool (!i.tag.isEmpty)) ∧ Below w.heap.size w w' := by
  have HLC : Hid True := hide trivial
  have X0 := hide (Ix.new w i v)
  have B0 := hide ((Below.refl w.heap.size w).alloc (Nat.le_refl _) (.cells (iC i v) 26))
  have z0 := X0.out.tag trivial
  cases h : i.tag.isEmpty
  · have h1 := bytes_nil_f h
    have h2 := str_eq_f h
    go_enter Try.func22, Try.ntmps22
    go_wp2_with fail
    go_ret
    exact ⟨ret_b (by first | rfl | simp), B0.out⟩
  · have h1 := bytes_nil_t h
    have h2 := str_eq_t h
    go_enter Try.func22, Try.ntmps22
    go_wp2_with fail
    go_ret
    exact ⟨ret_b (by first | rfl | simp), B0.out⟩
theorem isBlock_any (i : Itm) (v : Value) (w : World) :
    Calls Try.prog 24 #[.agg (iC i v)] w fun e w' => e = .returned (.bool (i.tag.isEmpty && !i.name.isEmpty)) ∧ Below w.heap.size w w' := by
  have HLC : Hid True := hide trivial
  have X0 := hide (Ix.new w i v)
  have B0 := hide ((Below.refl w.heap.size w).alloc (Nat.le_refl _) (.cells (iC i v) 26))
  have z0 := X0.out.tag trivial
  have z3 := X0.out.name trivial
  cases h : i.tag.isEmpty
  · have h1 := bytes_nil_f h
    have h2 := str_eq_f h
    go_enter Try.func24, Try.ntmps24
    go_wp2_with fail
    go_ret
    exact ⟨ret_b (by first | rfl | simp), B0.out⟩
  · have h1 := bytes_nil_t h
    have h2 := str_eq_t h
    cases g : i.name.isEmpty
    · have g1 := bytes_nil_f g
      go_enter Try.func24, Try.ntmps24
      go_wp2_with fail
      go_ret
      exact ⟨ret_b (by first | rfl | simp), B0.out⟩
    · have g1 := bytes_nil_t g
      go_enter Try.func24, Try.ntmps24
      go_wp2_with fail
      go_ret
      exact ⟨ret_b (by first | rfl | simp), B0.out⟩
set_option maxRecDepth 100000 in
set_option maxHeartbeats 4000000 in
theorem checkBlock_any (i : Itm) (v : Value) (d : Int) (w : World) (hi : IOk i) :
    Calls Try.prog 43 #[.agg (iC i v), .int .i64 d] w fun e w' => e = .returned (errV (blockE i d)) ∧ Below w.heap.size w w' := by
  have HLC : Hid True := hide trivial
  have X0 := hide (Ix.new w i v)
  have B0 := hide ((Below.refl w.heap.size w).alloc (Nat.le_refl _) (.cells (iC i v) 26))
  have HNM := hide (fun W : World => same_below (tIsName_any i.name W hi.name))
  clear hi
  go_enter Try.func43, Try.ntmps43
  cases hdp : decide (8 ≤ d)
  · skip
    cases hnm : nameB i.name
    · rw [hnm] at HNM
      have zname := X0.out.name HLC.out
      go_wp2_with (fail)
      refine (HNM.out _).mono ?_
      rintro e w1 ⟨rfl, hb1⟩
      have X1 := hide (X0.out.later hb1)
      have B1 := hide (B0.out.trans (hb1.mono B0.out.size))
      clear hb1 X0 B0 zname
      go_wp2_with (fail)
      go_ret
      exact ⟨ret_bE (k := 4) (by simp [blockE, bE, hdp, hnm]) rfl, B1.out⟩
    · rw [hnm] at HNM
      have zname := X0.out.name HLC.out
      go_wp2_with (fail)
      refine (HNM.out _).mono ?_
      rintro e w1 ⟨rfl, hb1⟩
      have X1 := hide (X0.out.later hb1)
      have B1 := hide (B0.out.trans (hb1.mono B0.out.size))
      clear hb1 X0 B0 zname
      cases hqe : i.qual.isEmpty
      · have hqb := bytes_nil_f hqe
        have zqual := X1.out.qual HLC.out
        have ztext := X1.out.text HLC.out
        go_wp2_with (fail)
        go_ret
        exact ⟨ret_bE (k := 4) (by simp [blockE, bE, hdp, hnm, hqe]) rfl, B1.out⟩
      · have hqb := bytes_nil_t hqe
        cases hte : i.text.isEmpty
        · have htb := bytes_nil_f hte
          have zqual := X1.out.qual HLC.out
          have ztext := X1.out.text HLC.out
          go_wp2_with (fail)
          go_ret
          exact ⟨ret_bE (k := 4) (by simp [blockE, bE, hdp, hnm, hqe, hte]) rfl, B1.out⟩
        · have htb := bytes_nil_t hte
          have zqual := X1.out.qual HLC.out
          have ztext := X1.out.text HLC.out
          go_wp2_with (fail)
          go_ret
          exact ⟨ret_bE (k := 0) (by simp [blockE, bE, hdp, hnm, hqe, hte]) rfl, B1.out⟩
  · skip
    go_wp2_with (fail)
    go_ret
    exact ⟨ret_bE (k := 5) (by simp [blockE, bE, hdp]) rfl, B0.out⟩
set_option maxRecDepth 100000 in
set_option maxHeartbeats 4000000 in
theorem checkField_any (i : Itm) (n cap : Nat) (a : Option Addr) (w : World) (hi : IOk i) :
    Calls Try.prog 42 #[.agg (iC i (.slice a n cap))] w fun e w' => e = .returned (errV (fieldE i n)) ∧ Below w.heap.size w w' := by
  have HLC : Hid True := hide trivial
  have X0 := hide (Ix.new w i (.slice a n cap))
  have B0 := hide ((Below.refl w.heap.size w).alloc (Nat.le_refl _) (.cells (iC i (.slice a n cap)) 26))
  have HTG := hide (fun W : World => same_below (tIsTag_any i.tag W hi.tag))
  have HQL := hide (fun W : World => same_below (tIsQual_any i.qual W hi.qual))
  have HFI := hide (fun W : World => firstTx_any i.text W hi.text)
  have HGO := hide (fun W : World => same_below (tGoesOn_any i.text W hi.text))
  have HHP := hide (fun W : World => same_below (Try.strings_HasPrefix ⟨i.text.toArray⟩ ⟨#[58]⟩ W))
  have hpp : Lib.hasPrefix (⟨i.text.toArray⟩ : ByteArray).data.toList (⟨#[58]⟩ : ByteArray).data.toList = hdB i.text := hasPrefix_hd i.text
  rw [hpp] at HHP
  obtain ⟨m, Hm⟩ : ∃ m, Hid (fstNot (fun c => inS c || c == 10) i.text = m) := ⟨_, hide rfl⟩
  rw [Hm.out] at HFI
  have HFN : Hid (decide (m < i.text.length) = !txB i.text) := by
    show _ = _
    have h1 := fstNot_eq (fun c => inS c || c == 10) i.text
    have h2 := fstNot_le (fun c => inS c || c == 10) i.text
    rw [Hm.out] at h1 h2
    unfold txB
    rw [← h1, ← decide_not]
    exact decide_eq_decide.2 (by omega)
  clear hi hpp Hm
  go_enter Try.func42, Try.ntmps42
  cases htg : tagB i.tag
  · rw [htg] at HTG
    have ztag := X0.out.tag HLC.out
    go_wp2_with (fail)
    refine (HTG.out _).mono ?_
    rintro e w1 ⟨rfl, hb1⟩
    have X1 := hide (X0.out.later hb1)
    have B1 := hide (B0.out.trans (hb1.mono B0.out.size))
    clear hb1 X0 B0 ztag
    go_wp2_with (fail)
    go_ret
    exact ⟨ret_fE (k := 4) (by simp [fieldE, fE, htg]) rfl, B1.out⟩
  · rw [htg] at HTG
    have ztag := X0.out.tag HLC.out
    go_wp2_with (fail)
    refine (HTG.out _).mono ?_
    rintro e w1 ⟨rfl, hb1⟩
    have X1 := hide (X0.out.later hb1)
    have B1 := hide (B0.out.trans (hb1.mono B0.out.size))
    clear hb1 X0 B0 ztag
    cases hqe : i.qual.isEmpty
    · have hqb := bytes_nil_f hqe
      have hqc := str_eq_f hqe
      cases hql : qualB i.qual
      · rw [hql] at HQL
        have zqual := X1.out.qual HLC.out
        go_wp2_with (fail)
        refine (HQL.out _).mono ?_
        rintro e w2 ⟨rfl, hb2⟩
        have X2 := hide (X1.out.later hb2)
        have B2 := hide (B1.out.trans (hb2.mono B1.out.size))
        clear hb2 X1 B1 zqual
        go_wp2_with (fail)
        go_ret
        exact ⟨ret_fE (k := 4) (by simp [fieldE, fE, htg, hqe, hql]) rfl, B2.out⟩
      · rw [hql] at HQL
        have zqual := X1.out.qual HLC.out
        go_wp2_with (fail)
        refine (HQL.out _).mono ?_
        rintro e w2 ⟨rfl, hb2⟩
        have X2 := hide (X1.out.later hb2)
        have B2 := hide (B1.out.trans (hb2.mono B1.out.size))
        clear hb2 X1 B1 zqual
        cases hne : i.name.isEmpty
        · have hnb := bytes_nil_f hne
          have zname := X2.out.name HLC.out
          have zitems := X2.out.items HLC.out
          go_wp2_with (fail)
          go_ret
          exact ⟨ret_fE (k := 4) (by simp [fieldE, fE, htg, hqe, hql, hne]) rfl, B2.out⟩
        · have hnb := bytes_nil_t hne
          cases hke : decide (n = 0)
          · have hkb : decide (0 < n) = true := decide_eq_true (by have := of_decide_eq_false hke; omega)
            have zname := X2.out.name HLC.out
            have zitems := X2.out.items HLC.out
            go_wp2_with (fail)
            go_ret
            exact ⟨ret_fE (k := 4) (by simp [fieldE, fE, htg, hqe, hql, hne, hke]) rfl, B2.out⟩
          · have hkb : decide (0 < n) = false := decide_eq_false (by have := of_decide_eq_true hke; omega)
            have zname := X2.out.name HLC.out
            have zitems := X2.out.items HLC.out
            have ztext := X2.out.text trivial
            cases htx : txB i.text
            · have htm : decide (m < i.text.length) = true := by rw [HFN.out, htx]; rfl
              go_wp2_with (fail)
              have HRD := hide (fun W : World => HFI.out W)
              go_quiet (first | (go_at_call 54; exact Calls.quiet_of_same (HRD.out _)))
              have X3 : Hid (Ix (w2.drewN nq) w.heap.size i (.slice a n cap)) := hide X2.out
              have B3 : Hid (Below w.heap.size w (w2.drewN nq)) := hide (below_dN B2.out _)
              clear X2 B2 ztext
              generalize w2.drewN nq = w3 at *
              go_wp2_with (fail)
              go_ret
              exact ⟨ret_fE (k := 6) (by simp [fieldE, fE, htg, hqe, hql, hne, hke, htx]) rfl, B3.out⟩
            · have htm : decide (m < i.text.length) = false := by rw [HFN.out, htx]; rfl
              go_wp2_with (fail)
              have HRD := hide (fun W : World => HFI.out W)
              go_quiet (first | (go_at_call 54; exact Calls.quiet_of_same (HRD.out _)))
              have X3 : Hid (Ix (w2.drewN nq) w.heap.size i (.slice a n cap)) := hide X2.out
              have B3 : Hid (Below w.heap.size w (w2.drewN nq)) := hide (below_dN B2.out _)
              clear X2 B2 ztext
              generalize w2.drewN nq = w3 at *
              cases hnl : nlB i.text
              · rw [hnl] at HGO
                try dsimp only [Bool.not_false] at HGO
                have zqual := X3.out.qual HLC.out
                have ztext := X3.out.text HLC.out
                go_wp2_with (fail)
                refine (HGO.out _).mono ?_
                rintro e w4 ⟨rfl, hb4⟩
                have X4 := hide (X3.out.later hb4)
                have B4 := hide (B3.out.trans (hb4.mono B3.out.size))
                clear hb4 X3 B3 zqual ztext
                go_wp2_with (fail)
                go_ret
                exact ⟨ret_fE (k := 0) (by simp [fieldE, fE, htg, hqe, hql, hne, hke, htx, hnl]) rfl, B4.out⟩
              · rw [hnl] at HGO
                try dsimp only [Bool.not_true] at HGO
                have zqual := X3.out.qual HLC.out
                have ztext := X3.out.text HLC.out
                go_wp2_with (fail)
                refine (HGO.out _).mono ?_
                rintro e w4 ⟨rfl, hb4⟩
                have X4 := hide (X3.out.later hb4)
                have B4 := hide (B3.out.trans (hb4.mono B3.out.size))
                clear hb4 X3 B3 zqual ztext
                go_wp2_with (fail)
                go_ret
                exact ⟨ret_fE (k := 4) (by simp [fieldE, fE, htg, hqe, hql, hne, hke, htx, hnl]) rfl, B4.out⟩
    · have hqb := bytes_nil_t hqe
      have hqc := str_eq_t hqe
      cases hne : i.name.isEmpty
      · have hnb := bytes_nil_f hne
        have zqual := X1.out.qual HLC.out
        have zname := X1.out.name HLC.out
        have zitems := X1.out.items HLC.out
        go_wp2_with (fail)
        go_ret
        exact ⟨ret_fE (k := 4) (by simp [fieldE, fE, htg, hqe, hne]) rfl, B1.out⟩
      · have hnb := bytes_nil_t hne
        cases hke : decide (n = 0)
        · have hkb : decide (0 < n) = true := decide_eq_true (by have := of_decide_eq_false hke; omega)
          have zqual := X1.out.qual HLC.out
          have zname := X1.out.name HLC.out
          have zitems := X1.out.items HLC.out
          go_wp2_with (fail)
          go_ret
          exact ⟨ret_fE (k := 4) (by simp [fieldE, fE, htg, hqe, hne, hke]) rfl, B1.out⟩
        · have hkb : decide (0 < n) = false := decide_eq_false (by have := of_decide_eq_true hke; omega)
          have zqual := X1.out.qual HLC.out
          have zname := X1.out.name HLC.out
          have zitems := X1.out.items HLC.out
          have ztext := X1.out.text trivial
          cases htx : txB i.text
          · have htm : decide (m < i.text.length) = true := by rw [HFN.out, htx]; rfl
            go_wp2_with (fail)
            have HRD := hide (fun W : World => HFI.out W)
            go_quiet (first | (go_at_call 54; exact Calls.quiet_of_same (HRD.out _)))
            have X2 : Hid (Ix (w1.drewN nq) w.heap.size i (.slice a n cap)) := hide X1.out
            have B2 : Hid (Below w.heap.size w (w1.drewN nq)) := hide (below_dN B1.out _)
            clear X1 B1 ztext
            generalize w1.drewN nq = w2 at *
            go_wp2_with (fail)
            go_ret
            exact ⟨ret_fE (k := 6) (by simp [fieldE, fE, htg, hqe, hne, hke, htx]) rfl, B2.out⟩
          · have htm : decide (m < i.text.length) = false := by rw [HFN.out, htx]; rfl
            go_wp2_with (fail)
            have HRD := hide (fun W : World => HFI.out W)
            go_quiet (first | (go_at_call 54; exact Calls.quiet_of_same (HRD.out _)))
            have X2 : Hid (Ix (w1.drewN nq) w.heap.size i (.slice a n cap)) := hide X1.out
            have B2 : Hid (Below w.heap.size w (w1.drewN nq)) := hide (below_dN B1.out _)
            clear X1 B1 ztext
            generalize w1.drewN nq = w2 at *
            cases hhd : hdB i.text
            · rw [hhd] at HHP
              have zqual := X2.out.qual HLC.out
              have ztext := X2.out.text HLC.out
              go_wp2_with (fail)
              refine (HHP.out _).mono ?_
              rintro e w3 ⟨rfl, hb3⟩
              have X3 := hide (X2.out.later hb3)
              have B3 := hide (B2.out.trans (hb3.mono B2.out.size))
              clear hb3 X2 B2 zqual ztext
              cases hnl : nlB i.text
              · rw [hnl] at HGO
                try dsimp only [Bool.not_false] at HGO
                have ztext := X3.out.text HLC.out
                go_wp2_with (fail)
                refine (HGO.out _).mono ?_
                rintro e w4 ⟨rfl, hb4⟩
                have X4 := hide (X3.out.later hb4)
                have B4 := hide (B3.out.trans (hb4.mono B3.out.size))
                clear hb4 X3 B3 ztext
                go_wp2_with (fail)
                go_ret
                exact ⟨ret_fE (k := 0) (by simp [fieldE, fE, htg, hqe, hne, hke, htx, hhd, hnl]) rfl, B4.out⟩
              · rw [hnl] at HGO
                try dsimp only [Bool.not_true] at HGO
                have ztext := X3.out.text HLC.out
                go_wp2_with (fail)
                refine (HGO.out _).mono ?_
                rintro e w4 ⟨rfl, hb4⟩
                have X4 := hide (X3.out.later hb4)
                have B4 := hide (B3.out.trans (hb4.mono B3.out.size))
                clear hb4 X3 B3 ztext
                go_wp2_with (fail)
                go_ret
                exact ⟨ret_fE (k := 4) (by simp [fieldE, fE, htg, hqe, hne, hke, htx, hnl]) rfl, B4.out⟩
            · rw [hhd] at HHP
              have zqual := X2.out.qual HLC.out
              have ztext := X2.out.text HLC.out
              go_wp2_with (fail)
              refine (HHP.out _).mono ?_
              rintro e w3 ⟨rfl, hb3⟩
              have X3 := hide (X2.out.later hb3)
              have B3 := hide (B2.out.trans (hb3.mono B2.out.size))
              clear hb3 X2 B2 zqual ztext
              go_wp2_with (fail)
              go_ret
              exact ⟨ret_fE (k := 4) (by simp [fieldE, fE, htg, hqe, hne, hke, htx, hhd]) rfl, B3.out⟩
end Go.Proofs.Ytklhbhhkooddoaa
