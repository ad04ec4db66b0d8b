/-
  My own text: LQ1, LBV, LQ3 in one.
-/
import Derived.Test.YtcdhblfefpkjgaaDoorLW1
import Derived.Test.YtcdhblfefpkjgaaDoorBE1
import Derived.Test.YtcdhblfefpkjgaaDoorLO2
import Derived.Test.YtcdhblfefpkjgaaDoorLQ2
import Derived.Test.YtcdhblfefpkjgaaDoorLVG
namespace Go.Proofs.YtcdhblfefpkjgaaDoor
open Go.RowKit

def erV (b : Int × Int) : Value := if b.1 = 10 then ltV 10 b.2 else errV b.1
theorem cntE_is (n : Int) : cntE n = 0 ∨ cntE n = 1 ∨ cntE n = 5 := by unfold cntE; split; simp; split <;> simp
theorem cntE_zero {n : Int} : cntE n = 0 ↔ 0 ≤ n ∧ n ≤ 4096 := by
  unfold cntE
  split
  · constructor <;> intro h <;> omega
  · split
    · constructor <;> intro h <;> omega
    · constructor <;> intro h <;> first | rfl | omega
theorem lost_all {n : Int} {L : List (Int × Int)} (h : lostP n L = none) : ∀ (j : Nat) (p : Int × Int), L[j]? = some p → namB n p = true := by
  intro j p hj
  unfold lostP at h
  rw [List.findIdx?_eq_none_iff] at h
  have := h p (List.mem_of_getElem? hj)
  simpa using this
/-- What is wrong ahead of the order: its number, its place. -/
def badO (n : Int) (m : Nat) (L : List (Int × Int)) : Int × Int :=
  if cntE n = 0 then (if (m : Int) < n then (2, 0) else if n < (m : Int) then (3, 0) else (match lostP n L with | none => (0, 0) | some k => (10, (k : Int)))) else (cntE n, 0)
/-- The priorities of a row. -/
def prL (P : List Int) : Nat → Int := fun x => P.getD x 0
/-- The answer's row and what is wrong. -/
structure AnsO (n : Int) (P : List Int) (L : List (Int × Int)) (l : List Nat) (b : Int × Int) : Prop where
  bad : (badO n P.length L).1 ≠ 0 → l = [] ∧ b = badO n P.length L
  good : (badO n P.length L).1 = 0 → ∃ row : List Nat, Gr' n.toNat (pn L) (prL P) row ∧ (∀ y, ¬ Av n.toNat (pn L) row y) ∧ (row.length = n.toNat → l = row ∧ b = (0, 0)) ∧ (row.length ≠ n.toNat → l = [] ∧ b = (12, 0))
theorem AnsO.uniq {n : Int} {P : List Int} {L : List (Int × Int)} {l l' : List Nat} {b b' : Int × Int} (h : AnsO n P L l b) (k : AnsO n P L l' b') : l = l' ∧ b = b' := by
  by_cases e : (badO n P.length L).1 = 0
  · obtain ⟨r, a1, a2, a3, a4⟩ := h.good e
    obtain ⟨r', c1, c2, c3, c4⟩ := k.good e
    have hr := Gr'.uniq a1 c1 a2 c2
    subst hr
    by_cases q : r.length = n.toNat
    · exact ⟨(a3 q).1.trans (c3 q).1.symm, (a3 q).2.trans (c3 q).2.symm⟩
    · exact ⟨(a4 q).1.trans (c4 q).1.symm, (a4 q).2.trans (c4 q).2.symm⟩
  · exact ⟨(h.bad e).1.trans (k.bad e).1.symm, (h.bad e).2.trans (k.bad e).2.symm⟩
theorem AnsO.of_bad {n : Int} {P : List Int} {L : List (Int × Int)} {b : Int × Int} (h : badO n P.length L = b) (hb : b.1 ≠ 0) : AnsO n P L [] b := ⟨fun _ => ⟨rfl, h.symm⟩, fun e => absurd (by rw [← h]; exact e) hb⟩
theorem pb_row {w : World} {v : Value} {P : List Int} {n : Nat} (h : IN.RM w v P) (hn : P.length = n) : PB w v n (prL P) := by
  obtain ⟨g, a, cap, hv, hc, hr⟩ := h
  rw [hn] at hv hc
  refine ⟨a, cap, hv, hc, fun x hx => ?_⟩
  have hxl : x < P.length := by omega
  have hgx : P[x]? = some (prL P x) := by unfold prL; rw [List.getD_eq_getElem?_getD, List.getElem?_eq_getElem hxl]; rfl
  rcases hr with hr | ⟨off, ha, hg, hr⟩
  · exfalso
    have : P.length = 0 := by simp_all
    omega
  · exact ⟨g, off, ha, hg, hr _ _ hgx⟩
set_option maxRecDepth 100000 in
set_option maxHeartbeats 2000000 in
theorem Order_any (n : Int) (v p : Value) (L : List (Int × Int)) (P : List Int) (w : World) (hv : TW.RM w v L) (hp : IN.RM w p P) (hl : L.length ≤ 8796093022200) (hso : ∀ k, k ≤ 4096 → SortOk k) :
    Calls Tryd.prog 15 #[.int .i64 n, v, p] w fun e w' => ∃ (v' : Value) (l : List Nat) (b : Int × Int), e = .returned (.tuple #[v', erV b]) ∧ AnsO n P L l b ∧ IN.OM w' w.heap.size v' (ni l) ∧ Below w.heap.size w w' := by
  have H1 := hide (checkCount_any n)
  have H2 := hide (checkPairs_any n v L w hv hl)
  obtain ⟨a, cap, hav⟩ := TW.rm_lt hv
  obtain ⟨pa, pcap, hpv⟩ := IN.rm_lt hp
  by_cases hc : cntE n = 0
  · obtain ⟨hn0, hn1⟩ := cntE_zero.1 hc
    by_cases h1 : (P.length : Int) < n
    · have HA : Hid (AnsO n P L [] (2, 0)) := hide (AnsO.of_bad (by unfold badO; rw [if_pos hc, if_pos h1]) (show ¬ (2 : Int) = 0 by decide))
      rw [hc, errV_zero] at H1
      subst hav
      subst hpv
      have d1 : decide ((P.length : Int) < n) = true := decide_eq_true h1
      clear hv hp hl hc hn0 hn1
      go_enter Tryd.func15, Tryd.ntmps15
      go_wp2_with fail
      refine (H1.out _).mono ?_
      rintro e w1 ⟨rfl, hw⟩
      obtain rfl := hw.symm
      go_wp2_with fail
      go_ret2
      exact ⟨_, [], (2, 0), rfl, HA.out, IN.OM.nil _ _, Below.refl _ _⟩
    · by_cases h2 : n < (P.length : Int)
      · have HA : Hid (AnsO n P L [] (3, 0)) := hide (AnsO.of_bad (by unfold badO; rw [if_pos hc, if_neg h1, if_pos h2]) (show ¬ (3 : Int) = 0 by decide))
        rw [hc, errV_zero] at H1
        subst hav
        subst hpv
        have d1 : decide ((P.length : Int) < n) = false := decide_eq_false h1
        have d2 : decide (n < (P.length : Int)) = true := decide_eq_true h2
        clear hv hp hl hc hn0 hn1
        go_enter Tryd.func15, Tryd.ntmps15
        go_wp2_with fail
        refine (H1.out _).mono ?_
        rintro e w1 ⟨rfl, hw⟩
        obtain rfl := hw.symm
        go_wp2_with fail
        go_ret2
        exact ⟨_, [], (3, 0), rfl, HA.out, IN.OM.nil _ _, Below.refl _ _⟩
      · have hnn : ((n.toNat : Nat) : Int) = n := by omega
        have hpl : P.length = n.toNat := by omega
        cases hq : lostP n L with
        | none =>
          have HB : badO n P.length L = (0, 0) := by unfold badO; rw [if_pos hc, if_neg h1, if_neg h2, hq]
          have h := orderOk_any n.toNat v p L (prL P) w hv hl (by omega) (by rw [hnn]; exact lost_all hq) (pb_row hp hpl) (hso _ (by omega))
          rw [hnn] at h
          refine h.mono fun e w' hh => ?_
          obtain ⟨row, vr, he, hO, hG, hA, hb⟩ := hh
          by_cases hr : row.length = n.toNat
          · refine ⟨vr, row, (0, 0), ?_, ⟨fun q => absurd (by rw [HB]) q, fun _ => ⟨row, hG, hA, fun _ => ⟨rfl, rfl⟩, fun q => absurd hr q⟩⟩, hO, hb⟩
            rw [he]
            unfold ordV
            rw [if_pos hr]
            rfl
          · refine ⟨_, [], (12, 0), ?_, ⟨fun q => absurd (by rw [HB]) q, fun _ => ⟨row, hG, hA, fun q => absurd q hr, fun _ => ⟨rfl, rfl⟩⟩⟩, IN.OM.nil _ _, hb⟩
            rw [he]
            unfold ordV
            rw [if_neg hr]
            rfl
        | some k =>
          have HA : Hid (AnsO n P L [] (10, (k : Int))) := hide (AnsO.of_bad (by unfold badO; rw [if_pos hc, if_neg h1, if_neg h2, hq]) (show ¬ (10 : Int) = 0 by decide))
          rw [hc, errV_zero] at H1
          rw [show lostV n L = ltV 10 (k : Int) by unfold lostV; rw [hq]] at H2
          have HE : Hid (erV (10, (k : Int)) = ltV 10 (k : Int)) := hide (if_pos rfl)
          unfold ltV at H2 HE
          subst hav
          subst hpv
          have d1 : decide ((P.length : Int) < n) = false := decide_eq_false h1
          have d2 : decide (n < (P.length : Int)) = false := decide_eq_false h2
          clear hv hp hl hc hq hn0 hn1 hnn hpl
          go_enter Tryd.func15, Tryd.ntmps15
          go_wp2_with fail
          refine (H1.out _).mono ?_
          rintro e w1 ⟨rfl, hw⟩
          obtain rfl := hw.symm
          go_wp2_with fail
          refine H2.out.mono ?_
          rintro e w2 ⟨rfl, hb⟩
          have HB2 := hide hb
          clear hb
          go_wp2_with fail
          go_ret2
          exact ⟨.slice none 0 0, [], (10, (k : Int)), by rw [HE.out]; rfl, HA.out, IN.OM.nil _ _, HB2.out⟩
  · have hc2 := cntE_is n
    have HA : Hid (AnsO n P L [] (cntE n, 0)) := hide (AnsO.of_bad (by unfold badO; rw [if_neg hc]) hc)
    obtain ⟨c, hcc⟩ : ∃ c, cntE n = c := ⟨_, rfl⟩
    rw [hcc] at H1 hc hc2 HA
    rw [errV_pos (show 1 ≤ c by omega)] at H1
    have HE : Hid (erV (c, 0) = .iface 57 (.int .i64 c)) := hide (by unfold erV; rw [if_neg (show ¬ c = 10 by omega)]; exact errV_pos (show 1 ≤ c by omega))
    subst hav
    subst hpv
    clear hv hp hl hcc hc hc2
    go_enter Tryd.func15, Tryd.ntmps15
    go_wp2_with fail
    refine (H1.out _).mono ?_
    rintro e w1 ⟨rfl, hw⟩
    obtain rfl := hw.symm
    go_wp2_with fail
    go_ret2
    exact ⟨.slice none 0 0, [], (c, 0), by rw [HE.out]; rfl, HA.out, IN.OM.nil _ _, Below.refl _ _⟩
end Go.Proofs.YtcdhblfefpkjgaaDoor
namespace Go.Proofs.YtcdhblfefpkjgaaDoor
open Go.RowKit

theorem Tryd.infoBo : (Tryd.prog.info? 4).map (fun i => (i.zero, i.size, i.bytes)) = some (some (.bool false), 1, 1) := by kernel_rfl
/-- Block P is a row of these answers. -/
def BV (w : World) (P : Nat) (L : List Bool) : Prop := w.rowIs P 4 L.length (fun j => .bool (L.getD j false))
theorem BV.cell {w : World} {P : Nat} {L : List Bool} (h : BV w P L) {j : Nat} {x : Bool} (hx : L[j]? = some x) : w.cell? ⟨P, j, none⟩ = some (.bool x) := by
  have hj := (List.getElem?_eq_some_iff.1 hx).1
  rw [World.rowIs.cell h hj, List.getD_eq_getElem?_getD, hx]; rfl
theorem BV.frozen {w : World} {P : Nat} {L : List Bool} (h : BV w P L) (j : Nat) : w.frozen? ⟨P, j, none⟩ = false := World.rowIs.frozen h j
theorem BV.lt {w : World} {P : Nat} {L : List Bool} (h : BV w P L) : P < w.heap.size := World.rowIs.lt h
theorem BV.set {w : World} {P : Nat} {L : List Bool} (h : BV w P L) (k : Nat) (x : Bool) : BV (w.setCell ⟨P, k, none⟩ (.bool x)) P (L.set k x) := by
  have h2 := World.rowIs.set h k (.bool x)
  unfold BV
  rw [List.length_set]
  refine World.rowIs.congr h2 fun i hi => ?_
  by_cases e : i = k
  · subst e; rw [if_pos rfl, List.getD_eq_getElem?_getD, List.getElem?_set_self hi]; rfl
  · rw [if_neg e, List.getD_eq_getElem?_getD, List.getD_eq_getElem?_getD, List.getElem?_set_ne (fun q => e q.symm)]
theorem BV.made (w : World) (n : Nat) : BV (w.alloc (.cells (madeCells #[.bool false] n) 4)) w.heap.size (List.replicate n false) := by
  have h := World.rowIs_made w (.bool false) n 4
  unfold BV
  rw [List.length_replicate]
  refine World.rowIs.congr h fun i hi => ?_
  rw [List.getD_eq_getElem?_getD, List.getElem?_replicate, if_pos hi]; rfl
end Go.Proofs.YtcdhblfefpkjgaaDoor
namespace Go.Proofs.YtcdhblfefpkjgaaDoor
open Go.RowKit

/-- The k-th edge's numbers. -/
theorem edge_at {n : Nat} {L : List (Int × Int)} (hall : ∀ (j : Nat) (p : Int × Int), L[j]? = some p → namB (n : Int) p = true) {k : Nat} (hk : k < L.length) : ∃ s t : Nat, L[k]? = some ((s : Int), (t : Int)) ∧ s < n ∧ t < n ∧ (pn L)[k]? = some (s, t) := by
  obtain ⟨⟨a, b⟩, hp⟩ : ∃ p, L[k]? = some p := ⟨_, List.getElem?_eq_getElem hk⟩
  have h := (namB_iff ..).1 (hall k _ hp)
  obtain ⟨⟨h1, h2⟩, h3, h4⟩ := h
  refine ⟨a.toNat, b.toNat, ?_, by omega, by omega, by unfold pn; rw [List.getElem?_map, hp]; rfl⟩
  rw [hp, Int.toNat_of_nonneg h1, Int.toNat_of_nonneg h2]
/-- Who stands. -/
def Std (n : Nat) (m : List Bool) (row : List Nat) : Prop := m.length = n ∧ ∀ y, y < n → m[y]? = some (decide (y ∈ row))
theorem Std.set {n : Nat} {m : List Bool} {row : List Nat} (h : Std n m row) (x : Nat) : Std n (m.set x true) (row ++ [x]) := by
  refine ⟨by rw [List.length_set]; exact h.1, fun y hy => ?_⟩
  by_cases e : x = y
  · subst e; rw [List.getElem?_set_self (by rw [h.1]; exact hy)]; simp
  · rw [List.getElem?_set_ne e, h.2 y hy]
    have : y ≠ x := fun q => e q.symm
    simp [this]
/-- The document's rows at a moment. -/
structure DS (w : World) (B P Q : Nat) (A : List Int) (m : List Bool) (v : Value) (row : List Nat) (W : World) : Prop where
  iz : IZ W P A
  bv : BV W Q m
  om : IN.OM W B v (ni row)
  lo : Below w.heap.size w W
  sz : B ≤ W.heap.size
theorem DS.setP {w W : World} {B P Q k : Nat} {A : List Int} {m : List Bool} {v : Value} {row : List Nat} (h : DS w B P Q A m v row W) (x : Int) (hPQ : P ≠ Q) (hP : w.heap.size ≤ P) (hB : P < B) : DS w B P Q (A.set k x) m v row (W.setCell ⟨P, k, none⟩ (.int .i64 x)) := by
  refine ⟨h.iz.set k x, World.rowIs.of_block h.bv (Below.heap_setCell _ _ _ _ (fun e => hPQ (Eq.symm e))), owns_blk h.om fun g hg => Below.heap_setCell _ _ _ _ (fun e => ?_), gb_below h.lo (gb_set W P k _) hP h.lo.size, by have := (gb_set W P k (.int .i64 x)).size; have := h.sz; omega⟩
  have e : g = P := e
  have := (World.ownsRow.lt h.om g hg).1
  omega
theorem DS.setQ {w W : World} {B P Q k : Nat} {A : List Int} {m : List Bool} {v : Value} {row : List Nat} (h : DS w B P Q A m v row W) (x : Bool) (hPQ : P ≠ Q) (hP : w.heap.size ≤ Q) (hB : Q < B) : DS w B P Q A (m.set k x) v row (W.setCell ⟨Q, k, none⟩ (.bool x)) := by
  refine ⟨h.iz.block (Below.heap_setCell _ _ _ _ (fun e => hPQ e)), h.bv.set k x, owns_blk h.om fun g hg => Below.heap_setCell _ _ _ _ (fun e => ?_), gb_below h.lo (gb_set W Q k _) hP h.lo.size, by have := (gb_set W Q k (.bool x)).size; have := h.sz; omega⟩
  have e : g = Q := e
  have := (World.ownsRow.lt h.om g hg).1
  omega
theorem awt_le (E : List (Nat × Nat)) (row : List Nat) (y : Nat) : awt E row y ≤ E.length := List.countP_le_length
/-- What the document's order answers. -/
structure RAns (n : Nat) (E : List (Nat × Nat)) (pr : Nat → Int) (l : List Nat) (okv : Value) : Prop where
  is : ∃ row : List Nat, Gr' n E pr row ∧ (∀ y, ¬ Av n E row y) ∧ okv = .bool (decide (row.length = n)) ∧ l = (if row.length = n then row else [])
theorem DS.drewN {w W : World} {B P Q : Nat} {A : List Int} {m : List Bool} {v : Value} {row : List Nat} (h : DS w B P Q A m v row W) (q : Nat) : DS w B P Q A m v row (W.drewN q) := ⟨h.iz, h.bv, h.om, below_dN h.lo q, h.sz⟩
set_option maxRecDepth 100000 in
set_option maxHeartbeats 4000000 in
theorem rorder_any (n : Nat) (v p : Value) (L : List (Int × Int)) (pr : Nat → Int) (w : World) (hv : TW.RM w v L) (hl : L.length ≤ 8796093022200) (hn : n ≤ 4096) (hall : ∀ (j : Nat) (p : Int × Int), L[j]? = some p → namB (n : Int) p = true) (hp : PB w p n pr) :
    Calls Tryd.prog 38 #[.int .i64 (n : Int), v, p] w fun e w' => ∃ (v' okv : Value) (l : List Nat), e = .returned (.tuple #[v', okv]) ∧ RAns n (pn L) pr l okv ∧ IN.OM w' w.heap.size v' (ni l) ∧ Below w.heap.size w w' := by
  obtain ⟨va, vcap, rfl, _, hr⟩ := hv
  have HR := hide hr
  have HL := hide hl
  have HN := hide hn
  have HEA := hide (fun k hk => edge_at hall (k := k) hk)
  have HPN : Hid ((pn L).length = L.length) := hide (pn_len L)
  have hmk := run_make_row' (P := Tryd.prog) 41 3 (.int .i64 0) 8 Tryd.underlying41 Tryd.infoIn rfl .i64 .i64 n (by omega) (by omega)
  have hmk2 := run_make_row' (P := Tryd.prog) 90 4 (.bool false) 1 Tryd.underlying90 Tryd.infoBo rfl .i64 .i64 n (by omega) (by omega)
  have HPB := hide hp
  obtain ⟨pa, pc, rfl, hnc, _⟩ := hp.is
  clear hr hl hn hall hp
  generalize hE : pn L = E at *
  go_enter Tryd.func38, Tryd.ntmps38
  go_wp2_with fail
  have HZ0 := hide (IZ.made w n)
  have hb1 : Below w.heap.size w (w.alloc (.cells (madeCells #[.int .i64 0] n) 3)) := (Below.refl _ _).alloc (Nat.le_refl _) _
  have hs1 : (w.alloc (.cells (madeCells #[.int .i64 0] n) 3)).heap.size = w.heap.size + 1 := by simp
  obtain ⟨w1, hw1⟩ : ∃ x, w.alloc (.cells (madeCells #[.int .i64 0] n) 3) = x := ⟨_, rfl⟩
  rw [hw1] at HZ0 hb1 hs1
  have hb2 : Below w1.heap.size w1 (w1.alloc (.cells (madeCells #[.bool false] n) 4)) := (Below.refl _ _).alloc (Nat.le_refl _) _
  have HQ0 := hide (BV.made w1 n)
  have hs2 : (w1.alloc (.cells (madeCells #[.bool false] n) 4)).heap.size = w1.heap.size + 1 := by simp
  obtain ⟨w2, hw2⟩ : ∃ x, w1.alloc (.cells (madeCells #[.bool false] n) 4) = x := ⟨_, rfl⟩
  rw [hw2] at HQ0 hb2 hs2
  obtain ⟨P, hP⟩ : ∃ P, w.heap.size = P := ⟨_, rfl⟩
  obtain ⟨Q, hQ⟩ : ∃ Q, w1.heap.size = Q := ⟨_, rfl⟩
  obtain ⟨B, hB⟩ : ∃ B, w2.heap.size = B := ⟨_, rfl⟩
  have HAD : Hid (P ≠ Q ∧ w.heap.size ≤ P ∧ w.heap.size ≤ Q ∧ P < B ∧ Q < B) := hide (by omega)
  have HD0 : Hid (DS w B P Q (List.replicate n 0) (List.replicate n false) (.slice none 0 0) [] w2) := hide ⟨(by rw [← hP]; exact HZ0.out.later hb2), (by rw [← hQ]; exact HQ0.out), IN.OM.nil _ _, hb1.trans (hb2.mono hb1.size), Nat.le_of_eq hB.symm⟩
  have hQ2 : P + 1 = Q := by omega
  rw [hw1, hw2, hP, hQ2]
  clear hmk hmk2 HZ0 HQ0 hb1 hb2 hs1 hs2 hw1 hw2 hP hQ hQ2 hB
  go_loopw [10] (fun iv wr => ∃ (k : Nat) (A : List Int), k ≤ L.length ∧ iv = .int .i64 (k : Int) ∧ Hid (DS w B P Q A (List.replicate n false) (.slice none 0 0) [] wr) ∧ Hid (AW n A (fun y => (awt (E.take k) [] y : Int)))) (fun iv _ => L.length - (intOf iv).toNat)
  case atStart => exact ⟨0, _, Nat.zero_le _, rfl, HD0, hide ⟨List.length_replicate, fun y hy => by rw [awt_none, List.getElem?_replicate, if_pos hy]; rfl⟩⟩
  case round =>
    clear HD0
    obtain ⟨k, A, hk, rfl, HD, HA⟩ := hrel
    by_cases hlt : k < L.length
    · obtain ⟨s, t, hp, hs, ht, he⟩ := HEA.out k hlt
      obtain ⟨b, off, rfl, hgl, hc⟩ := HR.out.resolve_left (fun h => by rw [h] at hlt; simp at hlt)
      have z0 : wr.cell? ⟨b, off + k * 2, none⟩ = some (.int .i64 (s : Int)) := (HD.out.lo.cell (p := ⟨b, _, none⟩) hgl).trans (hc k _ hp).1
      have z1 : wr.cell? ⟨b, off + k * 2 + 1, none⟩ = some (.int .i64 (t : Int)) := (HD.out.lo.cell (p := ⟨b, _, none⟩) hgl).trans (hc k _ hp).2
      have z1' : wr.cell? ⟨b, off + (k * 2 + 1), none⟩ = some (.int .i64 (t : Int)) := z1
      have hd1 : decide ((k : Int) < (L.length : Int)) = true := by rw [decide_eq_true_eq]; omega
      have hd1' : decide (k < L.length) = true := decide_eq_true hlt
      have k0 : (0 : Int) ≤ (k : Int) := by omega
      have k1 : (k : Int) < (L.length : Int) := by omega
      have t0 : (0 : Int) ≤ (t : Int) := by omega
      have t1 : (t : Int) < (n : Int) := by omega
      have wk : wrap64 ((k : Int) + 1) = (k : Int) + 1 := by have := HL.out; unfold wrap64; omega
      obtain ⟨cv, hcv⟩ : ∃ cv : Nat, Hid (awt (E.take k) [] t = cv) := ⟨_, hide rfl⟩
      have c0 := HD.out.iz.cell (HA.out.at_ t ht)
      rw [hcv.out] at c0
      have hcb : cv ≤ L.length := by have h1 := awt_le (E.take k) [] t; rw [hcv.out, List.length_take] at h1; omega
      obtain ⟨d, hd⟩ : ∃ d : Int, Hid ((cv : Int) + 1 = d) := ⟨_, hide rfl⟩
      have wc : wrap64 ((cv : Int) + 1) = d := by have := HL.out; have := hd.out; unfold wrap64; omega
      have wc2 : IntKind.i64.wrap ((cv : Int) + 1) = d := by have := HL.out; have := hd.out; rw [IntKind.wrap_i64]; omega
      obtain ⟨V0, hV0⟩ : ∃ V, World.drew wr = V := ⟨_, rfl⟩
      have HD0 : Hid (DS w B P Q A (List.replicate n false) (.slice none 0 0) [] V0) := hide (by rw [← hV0]; exact HD.out.drewN 1)
      have hHeld : Hid (V0.cell? ⟨b, off + k * 2 + 1, none⟩ = some (.int .i64 (t : Int)) ∧ V0.cell? ⟨b, off + (k * 2 + 1), none⟩ = some (.int .i64 (t : Int)) ∧ V0.cell? ⟨P, t, none⟩ = some (.int .i64 (cv : Int))) := hide (by rw [← hV0]; exact ⟨z1, z1', c0⟩)
      obtain ⟨w5, hw5⟩ : ∃ x, V0.setCell ⟨P, t, none⟩ (.int .i64 d) = x := ⟨_, rfl⟩
      have HD5 : Hid (DS w B P Q (A.set t d) (List.replicate n false) (.slice none 0 0) [] w5) := hide (by rw [← hw5]; exact HD0.out.setP d HAD.out.1 HAD.out.2.1 HAD.out.2.2.2.1)
      have HA5 : Hid (AW n (A.set t d) (fun y => (awt (E.take (k + 1)) [] y : Int))) := hide (HA.out.set (by rw [awt_take he, hcv.out, ← hd.out]; simp) (fun y hy => by rw [awt_take he, if_neg (fun q => hy q.symm)]; simp))
      clear hc hp HD HA hcb
      go_wp2_with fail
      refine s_begins (S := fun W : World => W.cell? ⟨b, off + k * 2 + 1, none⟩ = some (.int .i64 (t : Int)) ∧ W.cell? ⟨b, off + (k * 2 + 1), none⟩ = some (.int .i64 (t : Int)) ∧ W.cell? ⟨P, t, none⟩ = some (.int .i64 (cv : Int))) [16] 17 #[false, false, false, false, false, false, false, false, false, false, false, false, false, false, false, false, false] (by kernel_rfl) (by kernel_rfl) (by kernel_rfl) ?_
      rw [hV0]
      clear hV0
      refine sk0 (v := ?_) 0 25 #[true, false, false, false, false, false, false, false, false, false, false, false, false, false, false, false, false] rfl rfl (by kernel_rfl) (by kernel_rfl) (by kernel_rfl) (by kernel_rfl) (fun _ _ _ h => h) (by kernel_rfl) (by rfl) ?hy (fun _ => hHeld.out) ?_
      case hy => intro W; first | (go_simp; done) | (go_simp; with_reducible rfl)
      simp only [List.setIfInBounds_toArray, List.set_cons_zero, List.set_cons_succ]
      refine sk0 (v := ?_) 1 26 #[true, true, false, false, false, false, false, false, false, false, false, false, false, false, false, false, false] rfl rfl (by kernel_rfl) (by kernel_rfl) (by kernel_rfl) (by kernel_rfl) (fun _ _ _ h => h) (by kernel_rfl) (by rfl) ?hy (fun _ => hHeld.out) ?_
      case hy => intro W; first | (go_simp; done) | (go_simp; with_reducible rfl)
      simp only [List.setIfInBounds_toArray, List.set_cons_zero, List.set_cons_succ]
      refine sk0 (v := ?_) 2 27 #[true, true, true, false, false, false, false, false, false, false, false, false, false, false, false, false, false] rfl rfl (by kernel_rfl) (by kernel_rfl) (by kernel_rfl) (by kernel_rfl) (fun _ _ _ h => h) (by kernel_rfl) (by rfl) ?hy (fun _ => hHeld.out) ?_
      case hy => intro W; first | (go_simp; done) | (go_simp; with_reducible rfl)
      simp only [List.setIfInBounds_toArray, List.set_cons_zero, List.set_cons_succ]
      refine sk0 (v := ?_) 3 28 #[true, true, true, true, false, false, false, false, false, false, false, false, false, false, false, false, false] rfl rfl (by kernel_rfl) (by kernel_rfl) (by kernel_rfl) (by kernel_rfl) (fun _ _ _ h => h) (by kernel_rfl) (by rfl) ?hy (fun _ => hHeld.out) ?_
      case hy => intro W; first | (go_simp; done) | (go_simp; with_reducible rfl)
      simp only [List.setIfInBounds_toArray, List.set_cons_zero, List.set_cons_succ]
      refine sk0 (v := ?_) 4 29 #[true, true, true, true, true, false, false, false, false, false, false, false, false, false, false, false, false] rfl rfl (by kernel_rfl) (by kernel_rfl) (by kernel_rfl) (by kernel_rfl) (fun _ _ _ h => h) (by kernel_rfl) (by rfl) ?hy (fun _ => hHeld.out) ?_
      case hy => intro W; first | (go_simp; done) | (go_simp; with_reducible rfl)
      simp only [List.setIfInBounds_toArray, List.set_cons_zero, List.set_cons_succ]
      refine sk1 (v := ?_) 5 30 #[true, true, true, true, true, true, false, false, false, false, false, false, false, false, false, false, false] rfl rfl (by kernel_rfl) (by kernel_rfl) (by kernel_rfl) (by kernel_rfl) (by kernel_rfl) (by kernel_rfl) (fun _ _ _ h => h) (by kernel_rfl) (by rfl) ?hy hHeld.out ?_
      case hy => rintro W ⟨s1, s2, s3⟩; first | (go_simp; done) | (go_simp; with_reducible rfl)
      simp only [List.setIfInBounds_toArray, List.set_cons_zero, List.set_cons_succ]
      refine sk0 (v := ?_) 6 31 #[true, true, true, true, true, true, true, false, false, false, false, false, false, false, false, false, false] rfl rfl (by kernel_rfl) (by kernel_rfl) (by kernel_rfl) (by kernel_rfl) (fun _ _ _ h => h) (by kernel_rfl) (by rfl) ?hy (fun _ => hHeld.out) ?_
      case hy => intro W; first | (go_simp; done) | (go_simp; with_reducible rfl)
      simp only [List.setIfInBounds_toArray, List.set_cons_zero, List.set_cons_succ]
      refine sk0 (v := ?_) 7 32 #[true, true, true, true, true, true, true, true, false, false, false, false, false, false, false, false, false] rfl rfl (by kernel_rfl) (by kernel_rfl) (by kernel_rfl) (by kernel_rfl) (fun _ _ _ h => h) (by kernel_rfl) (by rfl) ?hy (fun _ => hHeld.out) ?_
      case hy => intro W; first | (go_simp; done) | (go_simp; with_reducible rfl)
      simp only [List.setIfInBounds_toArray, List.set_cons_zero, List.set_cons_succ]
      refine sk0 (v := ?_) 8 33 #[true, true, true, true, true, true, true, true, true, false, false, false, false, false, false, false, false] rfl rfl (by kernel_rfl) (by kernel_rfl) (by kernel_rfl) (by kernel_rfl) (fun _ _ _ h => h) (by kernel_rfl) (by rfl) ?hy (fun _ => hHeld.out) ?_
      case hy => intro W; first | (go_simp; done) | (go_simp; with_reducible rfl)
      simp only [List.setIfInBounds_toArray, List.set_cons_zero, List.set_cons_succ]
      refine sk0 (v := ?_) 9 34 #[true, true, true, true, true, true, true, true, true, true, false, false, false, false, false, false, false] rfl rfl (by kernel_rfl) (by kernel_rfl) (by kernel_rfl) (by kernel_rfl) (fun _ _ _ h => h) (by kernel_rfl) (by rfl) ?hy (fun _ => hHeld.out) ?_
      case hy => intro W; first | (go_simp; done) | (go_simp; with_reducible rfl)
      simp only [List.setIfInBounds_toArray, List.set_cons_zero, List.set_cons_succ]
      refine sk0 (v := ?_) 10 35 #[true, true, true, true, true, true, true, true, true, true, true, false, false, false, false, false, false] rfl rfl (by kernel_rfl) (by kernel_rfl) (by kernel_rfl) (by kernel_rfl) (fun _ _ _ h => h) (by kernel_rfl) (by rfl) ?hy (fun _ => hHeld.out) ?_
      case hy => intro W; first | (go_simp; done) | (go_simp; with_reducible rfl)
      simp only [List.setIfInBounds_toArray, List.set_cons_zero, List.set_cons_succ]
      refine sk1 (v := ?_) 11 36 #[true, true, true, true, true, true, true, true, true, true, true, true, false, false, false, false, false] rfl rfl (by kernel_rfl) (by kernel_rfl) (by kernel_rfl) (by kernel_rfl) (by kernel_rfl) (by kernel_rfl) (fun _ _ _ h => h) (by kernel_rfl) (by rfl) ?hy hHeld.out ?_
      case hy => rintro W ⟨s1, s2, s3⟩; first | (go_simp; done) | (go_simp; with_reducible rfl)
      simp only [List.setIfInBounds_toArray, List.set_cons_zero, List.set_cons_succ]
      refine sk0 (v := ?_) 12 37 #[true, true, true, true, true, true, true, true, true, true, true, true, true, false, false, false, false] rfl rfl (by kernel_rfl) (by kernel_rfl) (by kernel_rfl) (by kernel_rfl) (fun _ _ _ h => h) (by kernel_rfl) (by rfl) ?hy (fun _ => hHeld.out) ?_
      case hy => intro W; first | (go_simp; done) | (go_simp; with_reducible rfl)
      simp only [List.setIfInBounds_toArray, List.set_cons_zero, List.set_cons_succ]
      refine sk1 (v := ?_) 13 38 #[true, true, true, true, true, true, true, true, true, true, true, true, true, true, false, false, false] rfl rfl (by kernel_rfl) (by kernel_rfl) (by kernel_rfl) (by kernel_rfl) (by kernel_rfl) (by kernel_rfl) (fun _ _ _ h => h) (by kernel_rfl) (by rfl) ?hy hHeld.out ?_
      case hy => rintro W ⟨s1, s2, s3⟩; first | (go_simp; done) | (go_simp; with_reducible rfl)
      simp only [List.setIfInBounds_toArray, List.set_cons_zero, List.set_cons_succ]
      refine sk0 (v := ?_) 14 39 #[true, true, true, true, true, true, true, true, true, true, true, true, true, true, true, false, false] rfl rfl (by kernel_rfl) (by kernel_rfl) (by kernel_rfl) (by kernel_rfl) (fun _ _ _ h => h) (by kernel_rfl) (by rfl) ?hy (fun _ => hHeld.out) ?_
      case hy => intro W; first | (go_simp; done) | (go_simp; with_reducible rfl)
      simp only [List.setIfInBounds_toArray, List.set_cons_zero, List.set_cons_succ]
      refine sk0 (v := ?_) 15 40 #[true, true, true, true, true, true, true, true, true, true, true, true, true, true, true, true, false] rfl rfl (by kernel_rfl) (by kernel_rfl) (by kernel_rfl) (by kernel_rfl) (fun _ _ _ h => h) (by kernel_rfl) (by rfl) ?hy (fun _ => hHeld.out) ?_
      case hy => intro W; first | (go_simp; done) | (go_simp; with_reducible rfl)
      simp only [List.setIfInBounds_toArray, List.set_cons_zero, List.set_cons_succ]
      have fz0 := HD0.out.iz.frozen t
      have cx0 := hHeld.out.2.2
      refine s_ready 16 #[true, true, true, true, true, true, true, true, true, true, true, true, true, true, true, true, true] rfl (by kernel_rfl) (by kernel_rfl) (by rfl) (fun K hK => ?_)
      go_simp
      refine hK.out _ _ (fun h => absurd h (by decide)) ?_
      clear hK K
      refine s_done (by kernel_rfl) ?_ _
      clear hw5 cx0 fz0
      go_wp2_with fail
      go_roundw
      case rel => exact ⟨k + 1, A.set t d, hlt, iv_succ wk, HD5, HA5⟩
      case measure => exact meas_j wk hlt
    · have e : k = L.length := by omega
      have hd1 : decide ((k : Int) < (L.length : Int)) = false := by rw [decide_eq_false_iff_not]; omega
      have hd1' : decide (k < L.length) = false := decide_eq_false hlt
      have HAW : Hid (AW n A (fun y => (awt E [] y : Int))) := hide ⟨HA.out.len, fun y hy => by rw [HA.out.at_ y hy, e, ← HPN.out, awt_whole]⟩
      clear HA e
      go_wp2_with fail
      clear hd1 hd1' hlt
      obtain ⟨pa2, pc2, epv, _, hpr⟩ := HPB.out.is
      injection epv with ep1 _ ep2
      subst ep1
      have HPR := hide hpr
      obtain ⟨i0, hi, hz0, hz1, hz2⟩ := info_parts Tryd.infoIn
      clear hpr ep2
      go_loopw [11] (fun ov wr => ∃ (row : List Nat) (A : List Int) (m : List Bool) (ao : Option Addr) (co : Nat), ov = .slice ao row.length co ∧ Hid (DS w B P Q A m (.slice ao row.length co) row wr) ∧ Hid (AW n A (fun y => (awt E row y : Int))) ∧ Hid (Std n m row) ∧ Hid (Gr' n E pr row)) (fun ov _ => n - lenV ov)
      case atStart => exact ⟨[], A, List.replicate n false, none, 0, rfl, HD, HAW, hide ⟨List.length_replicate, fun y hy => by rw [List.getElem?_replicate, if_pos hy]; simp⟩, hide Gr'.nil⟩
      case round =>
        clear HD HAW
        obtain ⟨row, A, m, ao, co, rfl, HD, HAW, HST, HGR⟩ := hrel
        have HRL : Hid (row.length ≤ n) := hide HGR.out.len_le
        by_cases hlr : row.length < n
        · have hd1 : decide ((row.length : Int) < (n : Int)) = true := by rw [decide_eq_true_eq]; omega
          have hd1' : decide (row.length < n) = true := decide_eq_true hlr
          have HLR := hide hlr
          clear hlr
          go_wp2_with fail
          clear hd1 hd1'
          go_loopw [13, 12] (fun iv bv wr => ∃ (i : Nat) (bo : Option Nat), i ≤ n ∧ iv = .int .i64 (i : Int) ∧ bv = .int .i64 (bV bo) ∧ Hid (BestOk n E pr row i bo) ∧ Hid (DS w B P Q A m (.slice ao row.length co) row wr)) (fun iv _ _ => n - (intOf iv).toNat)
          case atStart => exact ⟨0, none, Nat.zero_le _, rfl, rfl, hide (BestOk.start n E pr row), HD⟩
          case round =>
            clear HD
            obtain ⟨i, bo, hile, rfl, rfl, HBO, HD⟩ := hrel
            by_cases hin : i < n
            · have hd1 : decide ((i : Int) < (n : Int)) = true := by rw [decide_eq_true_eq]; omega
              have hd1' : decide (i < n) = true := decide_eq_true hin
              have ii0 : (0 : Int) ≤ (i : Int) := by omega
              have ii1 : (i : Int) < (n : Int) := by omega
              have wi : wrap64 ((i : Int) + 1) = (i : Int) + 1 := by have := HN.out; unfold wrap64; omega
              have cQ := HD.out.bv.cell (HST.out.2 i hin)
              have cP := HD.out.iz.cell (HAW.out.at_ i hin)
              have HDd := hide (fun q => (hide (HD.out.drewN q) : Hid (DS w B P Q A m (.slice ao row.length co) row (wr.drewN q))))
              by_cases hs : i ∈ row
              · rw [decide_eq_true hs] at cQ
                have HB2 := hide (HBO.out.skip (fun q => q.2.1 hs))
                clear hs HBO cP
                go_wp2_with fail
                go_quiet (fail)
                go_wp2_with fail
                go_roundw
                case rel => exact ⟨i + 1, bo, hin, iv_succ wi, rfl, HB2, HDd.out _⟩
                case measure => exact meas_j wi hin
              · rw [decide_eq_false hs] at cQ
                by_cases ha : awt E row i = 0
                · rw [ha] at cP
                  have HAV : Hid (Av n E row i) := hide ⟨hin, hs, ha⟩
                  obtain ⟨pb, po, e, hgl, hx⟩ := HPR.out i hin
                  subst e
                  have c1 := (HD.out.lo.cell (p := ⟨pb, _, none⟩) hgl).trans hx
                  clear hs ha
                  cases bo with
                  | none =>
                    have HB2 := hide (HBO.out.first HAV.out)
                    rw [show bV none = -1 from rfl]
                    clear HBO
                    go_wp2_with fail
                    go_quiet (fail)
                    go_wp2_with fail
                    go_roundw
                    case rel => exact ⟨i + 1, some i, hin, iv_succ wi, rfl, HB2, HDd.out _⟩
                    case measure => exact meas_j wi hin
                  | some x =>
                    have hxn : x < n := HBO.out.2.1.1
                    obtain ⟨pb2, po2, e2, _, hx2⟩ := HPR.out x hxn
                    injection e2 with e2
                    injection e2 with e3 e4
                    subst e3
                    subst e4
                    have c2 := (HD.out.lo.cell (p := ⟨pb, _, none⟩) hgl).trans hx2
                    have x0 : (0 : Int) ≤ (x : Int) := by omega
                    have x1 : (x : Int) < (n : Int) := by omega
                    have xn : decide ((x : Int) < 0) = false := by rw [decide_eq_false_iff_not]; omega
                    rw [show bV (some x) = (x : Int) from rfl]
                    obtain ⟨u, hu⟩ : ∃ u, Hid (pr i = u) := ⟨_, hide rfl⟩
                    obtain ⟨z, hz⟩ : ∃ z, Hid (pr x = z) := ⟨_, hide rfl⟩
                    rw [hu.out] at c1
                    rw [hz.out] at c2
                    clear hx hx2
                    by_cases hlt : z < u
                    · have hd2 : decide (z < u) = true := decide_eq_true hlt
                      have HB2 := hide (HBO.out.more HAV.out (by rw [hu.out, hz.out]; exact hlt))
                      clear hlt HBO
                      go_wp2_with fail
                      go_quiet (fail)
                      go_wp2_with fail
                      go_roundw
                      case rel => exact ⟨i + 1, some i, hin, iv_succ wi, rfl, HB2, HDd.out _⟩
                      case measure => exact meas_j wi hin
                    · have hd2 : decide (z < u) = false := decide_eq_false hlt
                      have HB2 := hide (HBO.out.keep (by rw [hu.out, hz.out]; exact hlt))
                      clear hlt HBO
                      go_wp2_with fail
                      go_quiet (fail)
                      go_wp2_with fail
                      go_roundw
                      case rel => exact ⟨i + 1, some x, hin, iv_succ wi, rfl, HB2, HDd.out _⟩
                      case measure => exact meas_j wi hin
                · have HB2 := hide (HBO.out.skip (fun q => ha q.2.2))
                  obtain ⟨av, hav⟩ : ∃ av : Nat, awt E row i = av := ⟨_, rfl⟩
                  rw [hav] at cP ha
                  have ha2 : ((av : Int) == 0) = false := by rw [beq_eq_false_iff_ne]; omega
                  clear hs HBO hav ha
                  go_wp2_with fail
                  go_quiet (fail)
                  go_wp2_with fail
                  go_roundw
                  case rel => exact ⟨i + 1, bo, hin, iv_succ wi, rfl, HB2, HDd.out _⟩
                  case measure => exact meas_j wi hin
            · have e : i = n := by omega
              subst e
              have hd1 : decide ((i : Int) < (i : Int)) = false := by simp
              have hd1' : decide (i < i) = false := by simp
              cases bo with
              | none =>
                rw [show bV none = -1 from rfl]
                go_wp2_with fail
                go_ret2
                exact ⟨.slice none 0 0, .bool false, [], rfl, ⟨⟨row, HGR.out, HBO.out.none_, by rw [decide_eq_false (by have := HLR.out; omega)], (if_neg (by have := HLR.out; omega)).symm⟩⟩, IN.OM.nil _ _, HD.out.lo⟩
              | some x =>
                rw [show bV (some x) = (x : Int) from rfl]
                have hxn : x < i := HBO.out.2.1.1
                have HNX := hide HBO.out.nxt
                have xn : decide ((x : Int) < 0) = false := by rw [decide_eq_false_iff_not]; omega
                have x0 : (0 : Int) ≤ (x : Int) := by omega
                have x1 : (x : Int) < (i : Int) := by omega
                have cq := HD.out.bv.cell (HST.out.2 x hxn)
                have fq := HD.out.bv.frozen x
                obtain ⟨w5, hw5⟩ : ∃ w5, wr.setCell ⟨Q, x, none⟩ (.bool true) = w5 := ⟨_, rfl⟩
                have HD5 : Hid (DS w B P Q A (m.set x true) (.slice ao row.length co) row w5) := hide (by rw [← hw5]; exact HD.out.setQ true HAD.out.1 HAD.out.2.2.1 HAD.out.2.2.2.2)
                have HST5 := hide (HST.out.set x)
                have hown := HD5.out.om
                have HBS : Hid (B ≤ w5.heap.size) := hide HD5.out.sz
                have hrl : row.length ≤ 4096 := by have := HRL.out; have := HN.out; omega
                have HT : Hid (IN.mc (ni (row ++ [x])) = IN.mc (ni row) ++ [.int .i64 (x : Int)]) := hide (by rw [ni_app, IN.mc_app]; rfl)
                unfold IN.OM at hown
                rw [ni_len] at hown
                clear HBO HD HST hxn
                go_wp2_with (first
                  | (at_builtin; refine wpList_append_own _ rfl _ _ 41 rfl B 3 i0 (.int .i64 0) 1 8 Tryd.underlying41 hi hz0 hz1 hz2 rfl (by decide) _ _ _ rfl (hown.alloc _) ⟨_, 0, none⟩ 1 1 [.int .i64 (x : Int)] rfl rfl ?c1 ?c2 ?c3 ?c4 ?c5 ?_)
                  | fail)
                case c1 =>
                  intro j u hj
                  match j, hj with
                  | 0, hj => simp at hj; subst hj; simp [Addr.add]
                case c2 => intro u hu; simp at hu; subst hu; rfl
                case c3 => unfold maxLen; omega
                case c4 => omega
                case c5 => have := HBS.out; simp; omega
                intro v' w6 hown' hgrow _
                have hown6 : IN.OM w6 B v' (ni (row ++ [x])) := by
                  unfold IN.OM
                  rw [HT.out, ni_len, List.length_append]
                  exact hown'
                obtain ⟨a6, c6, hv6⟩ : ∃ a c, v' = .slice a (row ++ [x]).length c := by
                  obtain ⟨a, c, e⟩ := IN.OM.slice hown6
                  rw [ni_len] at e
                  exact ⟨a, c, e⟩
                subst hv6
                obtain ⟨m6, hm6⟩ : ∃ m6, (row ++ [x]).length = m6 := ⟨_, rfl⟩
                rw [hm6] at hown6 ⊢
                have HM6 := hide hm6
                clear hm6
                have hbw : ∀ g, (Value.slice ao row.length co).ownBlock = some g → B ≤ g := fun g hg => (World.ownsRow.lt hown g hg).1
                have hal := (Below.refl w5.heap.size w5).alloc (Nat.le_refl _) (.cells #[.int .i64 (x : Int)] 3)
                have hlo := HD5.out.lo.trans (hal.mono HD5.out.lo.size)
                have HD6 : Hid (DS w B P Q A (m.set x true) (.slice a6 m6 c6) (row ++ [x]) w6) := hide ⟨(HD5.out.iz.later hal).block (hgrow.block P (by have := HAD.out; have := HBS.out; simp; omega) (fun e => by have := hbw P e.symm; have := HAD.out; omega)), World.rowIs.of_block (World.rowIs.of_block HD5.out.bv (hal.block Q HD5.out.bv.lt)) (hgrow.block Q (by have := HAD.out; have := HBS.out; simp; omega) (fun e => by have := hbw Q e.symm; have := HAD.out; omega)), hown6, hlo.grown hgrow hlo.size (fun g hg => by have := hbw g hg; have := HAD.out; omega), Nat.le_trans HBS.out (Nat.le_trans hal.size hgrow.size)⟩
                have HA6 : Hid (AW i A (fun y => dF E row x 0 y)) := hide ⟨HAW.out.len, fun y hy => by rw [HAW.out.at_ y hy, dF_zero]⟩
                have HGR6 := hide (Gr'.step HGR.out HNX.out)
                have HXR : Hid (x ∉ row) := hide HNX.out.1.2.1
                have HLL : Hid (i - m6 < i - row.length) := hide (by have := HLR.out; have h6 := HM6.out; rw [List.length_append, List.length_singleton] at h6; omega)
                clear hown' hgrow hown6 hown hbw HD5 hw5 fq cq HT hal hlo HAW HNX
                go_wp2_with fail
                go_loopw [14] (fun iv wr => ∃ (k : Nat) (A : List Int), k ≤ L.length ∧ iv = .int .i64 (k : Int) ∧ Hid (DS w B P Q A (m.set x true) (.slice a6 m6 c6) (row ++ [x]) wr) ∧ Hid (AW i A (fun y => dF E row x k y))) (fun iv _ => L.length - (intOf iv).toNat)
                case atStart => exact ⟨0, A, Nat.zero_le _, rfl, HD6, HA6⟩
                case round =>
                  clear HD6 HA6
                  obtain ⟨k, A, hk, rfl, HD, HA⟩ := hrel
                  by_cases hlt : k < L.length
                  · obtain ⟨s, t, hp, hs, ht, he⟩ := HEA.out k hlt
                    obtain ⟨b, off, rfl, hgl, hc⟩ := HR.out.resolve_left (fun h => by rw [h] at hlt; simp at hlt)
                    have z0 : wr.cell? ⟨b, off + k * 2, none⟩ = some (.int .i64 (s : Int)) := (HD.out.lo.cell (p := ⟨b, _, none⟩) hgl).trans (hc k _ hp).1
                    have z1 : wr.cell? ⟨b, off + k * 2 + 1, none⟩ = some (.int .i64 (t : Int)) := (HD.out.lo.cell (p := ⟨b, _, none⟩) hgl).trans (hc k _ hp).2
                    have z1' : wr.cell? ⟨b, off + (k * 2 + 1), none⟩ = some (.int .i64 (t : Int)) := z1
                    have hd1 : decide ((k : Int) < (L.length : Int)) = true := by rw [decide_eq_true_eq]; omega
                    have hd1' : decide (k < L.length) = true := decide_eq_true hlt
                    have k0 : (0 : Int) ≤ (k : Int) := by omega
                    have k1 : (k : Int) < (L.length : Int) := by omega
                    have t0 : (0 : Int) ≤ (t : Int) := by omega
                    have t1 : (t : Int) < (i : Int) := by omega
                    have wk : wrap64 ((k : Int) + 1) = (k : Int) + 1 := by have := HL.out; unfold wrap64; omega
                    by_cases hsx : s = x
                    · have hne : ((s : Int) == (x : Int)) = true := by rw [beq_iff_eq, hsx]
                      obtain ⟨cv, hcv⟩ : ∃ cv : Int, Hid (dF E row x k t = cv) := ⟨_, hide rfl⟩
                      have c0 := HD.out.iz.cell (HA.out.at_ t ht)
                      rw [hcv.out] at c0
                      have hcb : -(L.length : Int) ≤ cv ∧ cv ≤ L.length := by have h1 := dF_bound E row x k t; rw [hcv.out, HPN.out] at h1; exact h1
                      obtain ⟨d, hd⟩ : ∃ d : Int, Hid (cv - 1 = d) := ⟨_, hide rfl⟩
                      have wc : wrap64 (cv - 1) = d := by have := HL.out; have := hd.out; unfold wrap64; omega
                      have wc2 : IntKind.i64.wrap (cv - 1) = d := by have := HL.out; have := hd.out; rw [IntKind.wrap_i64]; omega
                      obtain ⟨V0, hV0⟩ : ∃ V, World.drew wr = V := ⟨_, rfl⟩
                      have HD0 : Hid (DS w B P Q A (m.set x true) (.slice a6 m6 c6) (row ++ [x]) V0) := hide (by rw [← hV0]; exact HD.out.drewN 1)
                      have hHeld : Hid (V0.cell? ⟨b, off + k * 2 + 1, none⟩ = some (.int .i64 (t : Int)) ∧ V0.cell? ⟨b, off + (k * 2 + 1), none⟩ = some (.int .i64 (t : Int)) ∧ V0.cell? ⟨P, t, none⟩ = some (.int .i64 cv)) := hide (by rw [← hV0]; exact ⟨z1, z1', c0⟩)
                      obtain ⟨w5, hw5⟩ : ∃ x, V0.setCell ⟨P, t, none⟩ (.int .i64 d) = x := ⟨_, rfl⟩
                      have HD5 : Hid (DS w B P Q (A.set t d) (m.set x true) (.slice a6 m6 c6) (row ++ [x]) w5) := hide (by rw [← hw5]; exact HD0.out.setP d HAD.out.1 HAD.out.2.1 HAD.out.2.2.2.1)
                      have HA5 : Hid (AW i (A.set t d) (fun y => dF E row x (k + 1) y)) := hide (HA.out.set (by rw [dF_hit he hsx, hcv.out, ← hd.out]; simp) (fun y hy => by rw [dF_hit he hsx, if_neg (fun q => hy q.symm)]; simp))
                      clear hc hp HD HA hcb hsx
                      go_wp2_with fail
                      refine s_begins (S := fun W : World => W.cell? ⟨b, off + k * 2 + 1, none⟩ = some (.int .i64 (t : Int)) ∧ W.cell? ⟨b, off + (k * 2 + 1), none⟩ = some (.int .i64 (t : Int)) ∧ W.cell? ⟨P, t, none⟩ = some (.int .i64 cv)) [16] 17 #[false, false, false, false, false, false, false, false, false, false, false, false, false, false, false, false, false] (by kernel_rfl) (by kernel_rfl) (by kernel_rfl) ?_
                      rw [hV0]
                      clear hV0
                      refine sk0 (v := ?_) 0 100 #[true, false, false, false, false, false, false, false, false, false, false, false, false, false, false, false, false] rfl rfl (by kernel_rfl) (by kernel_rfl) (by kernel_rfl) (by kernel_rfl) (fun _ _ _ h => h) (by kernel_rfl) (by rfl) ?hy (fun _ => hHeld.out) ?_
                      case hy => intro W; first | (go_simp; done) | (go_simp; with_reducible rfl)
                      simp only [List.setIfInBounds_toArray, List.set_cons_zero, List.set_cons_succ]
                      refine sk0 (v := ?_) 1 101 #[true, true, false, false, false, false, false, false, false, false, false, false, false, false, false, false, false] rfl rfl (by kernel_rfl) (by kernel_rfl) (by kernel_rfl) (by kernel_rfl) (fun _ _ _ h => h) (by kernel_rfl) (by rfl) ?hy (fun _ => hHeld.out) ?_
                      case hy => intro W; first | (go_simp; done) | (go_simp; with_reducible rfl)
                      simp only [List.setIfInBounds_toArray, List.set_cons_zero, List.set_cons_succ]
                      refine sk0 (v := ?_) 2 102 #[true, true, true, false, false, false, false, false, false, false, false, false, false, false, false, false, false] rfl rfl (by kernel_rfl) (by kernel_rfl) (by kernel_rfl) (by kernel_rfl) (fun _ _ _ h => h) (by kernel_rfl) (by rfl) ?hy (fun _ => hHeld.out) ?_
                      case hy => intro W; first | (go_simp; done) | (go_simp; with_reducible rfl)
                      simp only [List.setIfInBounds_toArray, List.set_cons_zero, List.set_cons_succ]
                      refine sk0 (v := ?_) 3 103 #[true, true, true, true, false, false, false, false, false, false, false, false, false, false, false, false, false] rfl rfl (by kernel_rfl) (by kernel_rfl) (by kernel_rfl) (by kernel_rfl) (fun _ _ _ h => h) (by kernel_rfl) (by rfl) ?hy (fun _ => hHeld.out) ?_
                      case hy => intro W; first | (go_simp; done) | (go_simp; with_reducible rfl)
                      simp only [List.setIfInBounds_toArray, List.set_cons_zero, List.set_cons_succ]
                      refine sk0 (v := ?_) 4 104 #[true, true, true, true, true, false, false, false, false, false, false, false, false, false, false, false, false] rfl rfl (by kernel_rfl) (by kernel_rfl) (by kernel_rfl) (by kernel_rfl) (fun _ _ _ h => h) (by kernel_rfl) (by rfl) ?hy (fun _ => hHeld.out) ?_
                      case hy => intro W; first | (go_simp; done) | (go_simp; with_reducible rfl)
                      simp only [List.setIfInBounds_toArray, List.set_cons_zero, List.set_cons_succ]
                      refine sk1 (v := ?_) 5 105 #[true, true, true, true, true, true, false, false, false, false, false, false, false, false, false, false, false] rfl rfl (by kernel_rfl) (by kernel_rfl) (by kernel_rfl) (by kernel_rfl) (by kernel_rfl) (by kernel_rfl) (fun _ _ _ h => h) (by kernel_rfl) (by rfl) ?hy hHeld.out ?_
                      case hy => rintro W ⟨s1, s2, s3⟩; first | (go_simp; done) | (go_simp; with_reducible rfl)
                      simp only [List.setIfInBounds_toArray, List.set_cons_zero, List.set_cons_succ]
                      refine sk0 (v := ?_) 6 106 #[true, true, true, true, true, true, true, false, false, false, false, false, false, false, false, false, false] rfl rfl (by kernel_rfl) (by kernel_rfl) (by kernel_rfl) (by kernel_rfl) (fun _ _ _ h => h) (by kernel_rfl) (by rfl) ?hy (fun _ => hHeld.out) ?_
                      case hy => intro W; first | (go_simp; done) | (go_simp; with_reducible rfl)
                      simp only [List.setIfInBounds_toArray, List.set_cons_zero, List.set_cons_succ]
                      refine sk0 (v := ?_) 7 107 #[true, true, true, true, true, true, true, true, false, false, false, false, false, false, false, false, false] rfl rfl (by kernel_rfl) (by kernel_rfl) (by kernel_rfl) (by kernel_rfl) (fun _ _ _ h => h) (by kernel_rfl) (by rfl) ?hy (fun _ => hHeld.out) ?_
                      case hy => intro W; first | (go_simp; done) | (go_simp; with_reducible rfl)
                      simp only [List.setIfInBounds_toArray, List.set_cons_zero, List.set_cons_succ]
                      refine sk0 (v := ?_) 8 108 #[true, true, true, true, true, true, true, true, true, false, false, false, false, false, false, false, false] rfl rfl (by kernel_rfl) (by kernel_rfl) (by kernel_rfl) (by kernel_rfl) (fun _ _ _ h => h) (by kernel_rfl) (by rfl) ?hy (fun _ => hHeld.out) ?_
                      case hy => intro W; first | (go_simp; done) | (go_simp; with_reducible rfl)
                      simp only [List.setIfInBounds_toArray, List.set_cons_zero, List.set_cons_succ]
                      refine sk0 (v := ?_) 9 109 #[true, true, true, true, true, true, true, true, true, true, false, false, false, false, false, false, false] rfl rfl (by kernel_rfl) (by kernel_rfl) (by kernel_rfl) (by kernel_rfl) (fun _ _ _ h => h) (by kernel_rfl) (by rfl) ?hy (fun _ => hHeld.out) ?_
                      case hy => intro W; first | (go_simp; done) | (go_simp; with_reducible rfl)
                      simp only [List.setIfInBounds_toArray, List.set_cons_zero, List.set_cons_succ]
                      refine sk0 (v := ?_) 10 110 #[true, true, true, true, true, true, true, true, true, true, true, false, false, false, false, false, false] rfl rfl (by kernel_rfl) (by kernel_rfl) (by kernel_rfl) (by kernel_rfl) (fun _ _ _ h => h) (by kernel_rfl) (by rfl) ?hy (fun _ => hHeld.out) ?_
                      case hy => intro W; first | (go_simp; done) | (go_simp; with_reducible rfl)
                      simp only [List.setIfInBounds_toArray, List.set_cons_zero, List.set_cons_succ]
                      refine sk1 (v := ?_) 11 111 #[true, true, true, true, true, true, true, true, true, true, true, true, false, false, false, false, false] rfl rfl (by kernel_rfl) (by kernel_rfl) (by kernel_rfl) (by kernel_rfl) (by kernel_rfl) (by kernel_rfl) (fun _ _ _ h => h) (by kernel_rfl) (by rfl) ?hy hHeld.out ?_
                      case hy => rintro W ⟨s1, s2, s3⟩; first | (go_simp; done) | (go_simp; with_reducible rfl)
                      simp only [List.setIfInBounds_toArray, List.set_cons_zero, List.set_cons_succ]
                      refine sk0 (v := ?_) 12 112 #[true, true, true, true, true, true, true, true, true, true, true, true, true, false, false, false, false] rfl rfl (by kernel_rfl) (by kernel_rfl) (by kernel_rfl) (by kernel_rfl) (fun _ _ _ h => h) (by kernel_rfl) (by rfl) ?hy (fun _ => hHeld.out) ?_
                      case hy => intro W; first | (go_simp; done) | (go_simp; with_reducible rfl)
                      simp only [List.setIfInBounds_toArray, List.set_cons_zero, List.set_cons_succ]
                      refine sk1 (v := ?_) 13 113 #[true, true, true, true, true, true, true, true, true, true, true, true, true, true, false, false, false] rfl rfl (by kernel_rfl) (by kernel_rfl) (by kernel_rfl) (by kernel_rfl) (by kernel_rfl) (by kernel_rfl) (fun _ _ _ h => h) (by kernel_rfl) (by rfl) ?hy hHeld.out ?_
                      case hy => rintro W ⟨s1, s2, s3⟩; first | (go_simp; done) | (go_simp; with_reducible rfl)
                      simp only [List.setIfInBounds_toArray, List.set_cons_zero, List.set_cons_succ]
                      refine sk0 (v := ?_) 14 114 #[true, true, true, true, true, true, true, true, true, true, true, true, true, true, true, false, false] rfl rfl (by kernel_rfl) (by kernel_rfl) (by kernel_rfl) (by kernel_rfl) (fun _ _ _ h => h) (by kernel_rfl) (by rfl) ?hy (fun _ => hHeld.out) ?_
                      case hy => intro W; first | (go_simp; done) | (go_simp; with_reducible rfl)
                      simp only [List.setIfInBounds_toArray, List.set_cons_zero, List.set_cons_succ]
                      refine sk0 (v := ?_) 15 115 #[true, true, true, true, true, true, true, true, true, true, true, true, true, true, true, true, false] rfl rfl (by kernel_rfl) (by kernel_rfl) (by kernel_rfl) (by kernel_rfl) (fun _ _ _ h => h) (by kernel_rfl) (by rfl) ?hy (fun _ => hHeld.out) ?_
                      case hy => intro W; first | (go_simp; done) | (go_simp; with_reducible rfl)
                      simp only [List.setIfInBounds_toArray, List.set_cons_zero, List.set_cons_succ]
                      have fz0 := HD0.out.iz.frozen t
                      have cx0 := hHeld.out.2.2
                      refine s_ready 16 #[true, true, true, true, true, true, true, true, true, true, true, true, true, true, true, true, true] rfl (by kernel_rfl) (by kernel_rfl) (by rfl) (fun K hK => ?_)
                      go_simp
                      refine hK.out _ _ (fun h => absurd h (by decide)) ?_
                      clear hK K
                      refine s_done (by kernel_rfl) ?_ _
                      clear hw5 cx0 fz0
                      go_wp2_with fail
                      go_roundw
                      case rel => exact ⟨k + 1, A.set t d, hlt, iv_succ wk, HD5, HA5⟩
                      case measure => exact meas_j wk hlt
                    · have hne := nat_ne hsx
                      have HA5 : Hid (AW i A (fun y => dF E row x (k + 1) y)) := hide ⟨HA.out.len, fun y hy => by rw [HA.out.at_ y hy, dF_miss he hsx]⟩
                      clear hc hp HA hsx
                      go_wp2_with fail
                      go_roundw
                      case rel => exact ⟨k + 1, A, hlt, iv_succ wk, HD, HA5⟩
                      case measure => exact meas_j wk hlt
                  · have e : k = L.length := by omega
                    have hd1 : decide ((k : Int) < (L.length : Int)) = false := by rw [decide_eq_false_iff_not]; omega
                    have hd1' : decide (k < L.length) = false := decide_eq_false hlt
                    have HA8 : Hid (AW i A (fun y => (awt E (row ++ [x]) y : Int))) := hide ⟨HA.out.len, fun y hy => by rw [HA.out.at_ y hy, e, ← HPN.out, dF_end HXR.out]⟩
                    clear HA e
                    go_wp2_with fail
                    go_roundw
                    case rel => exact ⟨row ++ [x], A, m.set x true, a6, c6, by rw [HM6.out], hide (by rw [HM6.out]; exact HD.out), HA8, HST5, HGR6⟩
                    case measure => simp only [lenV]; exact HLL.out
        · have e : row.length = n := by have := HRL.out; omega
          have hd1 : decide ((row.length : Int) < (n : Int)) = false := by rw [decide_eq_false_iff_not]; omega
          have hd1' : decide (row.length < n) = false := decide_eq_false hlr
          have HE := hide e
          clear hlr e
          go_wp2_with fail
          go_ret2
          exact ⟨.slice ao row.length co, .bool true, rfl, row, ⟨⟨row, HGR.out, HGR.out.all_stand HE.out, by rw [decide_eq_true HE.out], (if_pos HE.out).symm⟩⟩, IN.OM.base HD.out.om (fun g hg => by have := (World.ownsRow.lt HD.out.om g hg).1; have := HAD.out; omega), HD.out.lo⟩
end Go.Proofs.YtcdhblfefpkjgaaDoor
