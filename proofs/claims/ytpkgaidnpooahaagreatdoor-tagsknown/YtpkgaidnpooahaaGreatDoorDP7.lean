/-
  My own text: DP5, DP6, DP7 in one.
-/
import Derived.Test.YtpkgaidnpooahaaGreatDoorDP4
namespace Go.Proofs.YtpkgaidnpooahaaGreatDoor
open Go.RowKit Go.Extern

theorem Tryz.infoLvl : (Tryz.prog.info? 84).map (fun i => (i.zero, i.size, i.bytes)) = some (some (.agg #[.string ⟨#[]⟩, .slice none 0 0]), 2, 40) := by kernel_rfl
theorem Tryz.sizeLvl : (Tryz.prog.info? 84).map (·.size) = some 2 := by kernel_rfl
theorem zLvl : (Value.agg #[.string ⟨#[]⟩, .slice none 0 0]).cells.size = 2 := rfl
theorem run_app_lvl (w : World) (ty : TypeId) (B : Nat) (g n cap : Nat) (xs : List Value) (hown : w.ownsRow B 84 2 (.slice (some ⟨g, 0, none⟩) n cap) n xs)
    (b : Nat) (news : List Value) (hl : news.length = 2) (hnews : w.rangeAt b 0 news) (h1 : ∀ u ∈ news, u.oneCell' = true) (hB : B ≤ w.heap.size) (hsz : n ≤ 1000) :
    ∃ g' cap' w', (Builtin.append_ #[85, 85] ty #[.slice (some ⟨g, 0, none⟩) n cap, .slice (some ⟨b, 0, none⟩) 1 1]).run Tryz.prog w = .ok (.slice (some ⟨g', 0, none⟩) (n + 1) cap') w' ∧ w'.ownsRow B 84 2 (.slice (some ⟨g', 0, none⟩) (n + 1) cap') (n + 1) (xs ++ news) ∧ w.grownBy w' (some g) ∧ (g' = g ∨ w.heap.size ≤ g') := by
  have hnews' : ∀ j u, news[j]? = some u → w.cell? ((⟨b, 0, none⟩ : Addr).add j) = some u := fun j u hj => by rw [Addr.add_mid]; exact hnews j u hj
  obtain ⟨i0, hi, hz0, hz1, hz2⟩ := info_parts Tryz.infoLvl
  by_cases hroom : n + 1 ≤ cap
  · obtain ⟨w', hr, h2, h3⟩ := run_append_own_spare (P := Tryz.prog) w B 85 ty 84 i0 2 Tryz.underlying85 hi hz1 g n cap xs hown ⟨b, 0, none⟩ 1 1 news hl hnews' h1 hroom
    exact ⟨g, cap, w', hr, h2, h3, .inl rfl⟩
  · obtain ⟨v', w', hrun, r1, r2⟩ := run_append_arg_grows (P := Tryz.prog) w 85 ty 84 i0 _ 2 40 Tryz.underlying85 hi hz0 hz1 hz2 zLvl (by decide) ⟨g, 0, none⟩ n cap xs hown.1 (World.ownsRow.cells hown rfl) ⟨b, 0, none⟩ 1 1 news hl hnews' (by omega) (by unfold maxLen; omega) (by omega)
    obtain ⟨g', cap', rfl, h3, h4⟩ := dp_form r1 (by omega)
    exact ⟨g', cap', w', hrun, World.ownsRow.mono r1 hB, ⟨r2.os, r2.tape, r2.output, r2.size, fun k hk _ => r2.block k hk (by intro e; cases e)⟩, .inr h3⟩
theorem op_app_lvl {o : Oper} {a : Act} {K : Act → World → Prop} {Q : Exit → Act → World → Prop} {w : World} (s x : Operand) (ho : o.op = .call { callee := .builtin .append, args := #[s, x], argTypes := #[85, 85] }) (v : Value) (b m c : Nat) (hs : a.eval s = v) (hx : a.eval x = .slice (some ⟨b, 0, none⟩) m c)
    (v' : Value) (w' : World) (hr : (Builtin.append_ #[85, 85] o.type #[v, .slice (some ⟨b, 0, none⟩) m c]).run Tryz.prog w = .ok v' w') (h : K (a.put o.dst v') w') : o.wp Tryz.prog a w K Q := by
  unfold Oper.wp execOp
  simp only [ho, resolve, invoke, builtin, Sem.run_bind, Sem.run_pure, Result.andThen_ok, List.map_toArray, List.map_cons, List.map_nil, hs, hx, hr]
  exact h
theorem DM.open {w : World} {B R L cap : Nat} {lab : Nat → Nat} {lv : List (List UInt8 × List Tr)} {vs : List Value} {fl : Bool} (h : DM w B R L cap lab lv vs fl) : w.cell? ⟨R, 0, none⟩ = some (.slice (some ⟨L, 0, none⟩) lv.length cap) := by
  have := h.bx.cell 0
  simpa using this
set_option maxRecDepth 100000 in
set_option maxHeartbeats 2000000 in
theorem begin_deep {B R L cap : Nat} {lab : Nat → Nat} {lv : List (List UInt8 × List Tr)} {vs : List Value} {fl : Bool} (nm : List UInt8) (w : World) (h : DM w B R L cap lab lv vs fl) (hn : 9 ≤ lv.length) (hn2 : lv.length ≤ 100) :
    Calls Tryz.prog 74 #[.pointer (some ⟨R, 0, none⟩), .string ⟨nm.toArray⟩] w fun e w' => e = .returned (.tuple #[.int .i64 5, .int .i64 1]) ∧ w' = w := by
  have c0 := h.open
  clear h
  obtain ⟨n, hnn⟩ : ∃ n, n = lv.length := ⟨_, rfl⟩
  rw [← hnn] at c0 hn hn2
  clear hnn
  go_enter Tryz.func74, Tryz.ntmps74
  go_wp2_with fail
  go_ret2
  exact ⟨rfl, rfl⟩
set_option maxRecDepth 100000 in
set_option maxHeartbeats 2000000 in
theorem begin_name {B R L cap : Nat} {lab : Nat → Nat} {lv : List (List UInt8 × List Tr)} {vs : List Value} {fl : Bool} (nm : List UInt8) (w : World) (h : DM w B R L cap lab lv vs fl) (hn : lv.length ≤ 8) (hl : nm.length ≤ 1048576) (hnm : nameB nm = false) :
    Calls Tryz.prog 74 #[.pointer (some ⟨R, 0, none⟩), .string ⟨nm.toArray⟩] w fun e w' => e = .returned (.tuple #[.int .i64 4, .int .i64 6]) ∧ w' = w := by
  have c0 := h.open
  clear h
  obtain ⟨n, hnn⟩ : ∃ n, n = lv.length := ⟨_, rfl⟩
  rw [← hnn] at c0 hn
  clear hnn
  have HN : Hid (∀ W : World, Calls Tryz.prog 95 #[.string ⟨nm.toArray⟩] W fun e w' => e = .returned (.bool false) ∧ w' = W) := hide (fun W => by have := refName_any nm W (by omega); rw [hnm] at this; exact this)
  clear hnm
  go_enter Tryz.func74, Tryz.ntmps74
  go_wp2_with (go_at_call 95; refine (HN.out _).mono ?_; rintro e w' ⟨rfl, hw⟩; obtain rfl := hw.symm)
  go_ret2
  exact ⟨rfl, rfl⟩
set_option maxRecDepth 100000 in
set_option maxHeartbeats 2000000 in
theorem begin_ok {B R L cap : Nat} {lab : Nat → Nat} {lv : List (List UInt8 × List Tr)} {vs : List Value} {fl : Bool} (nm : List UInt8) (w : World) (h : DM w B R L cap lab lv vs fl) (hn : lv.length ≤ 8) (hl : nm.length ≤ 1048576) (hnm : nameB nm = true) :
    Calls Tryz.prog 74 #[.pointer (some ⟨R, 0, none⟩), .string ⟨nm.toArray⟩] w fun e w' => e = .returned (.tuple #[.int .i64 0, .int .i64 0]) ∧ (∃ L' cap' lab', DM w' B R L' cap' lab' (lv ++ [(nm, [])]) (vs ++ [.slice none 0 0]) fl) ∧ Below B w w' := by
  have HD := hide h
  have BN := hide ((Below.refl w.heap.size w).alloc (Nat.le_refl _) (.cells #[.string ⟨nm.toArray⟩, .slice none 0 0] 84))
  have D2 := hide (h.later BN.out)
  have hBw : B ≤ w.heap.size := by have := h.bx.lt; have := h.bR; omega
  obtain ⟨g', c', w2, hrun, hown, hgrow, hfresh⟩ := run_app_lvl (w.alloc (.cells #[.string ⟨nm.toArray⟩, .slice none 0 0] 84)) 85 B L lv.length cap (lvC lv vs) D2.out.row w.heap.size [.string ⟨nm.toArray⟩, .slice none 0 0] rfl (fun j u hj => by
    rw [Nat.zero_add]
    match j, hj with
    | 0, hj => simp at hj; subst hj; simp
    | 1, hj => simp at hj; subst hj; simp) (by intro u hu; simp at hu; rcases hu with rfl | rfl <;> rfl) (by simp; omega) (by omega)
  have D3 := hide (D2.out.push (nm := nm) hown hgrow hfresh)
  have HRUN := hide hrun
  have hneR : some R ≠ some L := fun e => by cases e; have h1 := h.lR; rw [h.lL] at h1; cases h1
  have c0g := hgrow.cell D2.out.open hneR
  have HBR := hide h.bR
  have f0 : w2.frozen? ⟨R, 0, none⟩ = false := by
    have e : w2.heap[R]? = _ := (hgrow.block R D2.out.bx.lt hneR).trans D2.out.bx
    exact Bk.free (t := 87) e 0
  have B2 : Hid (Below B w w2) := hide ((BN.out.mono hBw).grown hgrow (by simp; omega) (fun g e => by cases e; exact (own_ltq h.row L rfl).1))
  have c0 := h.open
  clear h hown hgrow hfresh hrun hneR
  obtain ⟨n, hnn⟩ : ∃ n, n = lv.length := ⟨_, rfl⟩
  rw [← hnn] at c0 hn c0g HRUN D3
  clear hnn
  have HN : Hid (∀ W : World, Calls Tryz.prog 95 #[.string ⟨nm.toArray⟩] W fun e w' => e = .returned (.bool true) ∧ w' = W) := hide (fun W => by have := refName_any nm W (by omega); rw [hnm] at this; exact this)
  clear hnm
  go_enter Tryz.func74, Tryz.ntmps74
  go_wp2_with (first
    | (go_at_call 95; refine (HN.out _).mono ?_; rintro e w' ⟨rfl, hw⟩; obtain rfl := hw.symm)
    | (at_builtin; refine BigFrame.wpList_want (by rfl) ?_; intro K hK; refine op_app_lvl _ _ rfl _ _ 1 1 rfl rfl _ w2 HRUN.out ?_; refine hK _ _ ?_)
    | go_in)
  go_ret2
  exact ⟨rfl, ⟨g', c', _, D3.out⟩, B2.out.setCell HBR.out _⟩
end Go.Proofs.YtpkgaidnpooahaaGreatDoor
namespace Go.Proofs.YtpkgaidnpooahaaGreatDoor
open Go.RowKit Go.Extern

set_option maxRecDepth 100000 in
set_option maxHeartbeats 2000000 in
theorem end_lost {B R L cap : Nat} {lab : Nat → Nat} {q : List UInt8 × List Tr} {v : Value} {fl : Bool} (nm : List UInt8) (w : World) (h : DM w B R L cap lab [q] [v] fl) :
    Calls Tryz.prog 75 #[.pointer (some ⟨R, 0, none⟩), .string ⟨nm.toArray⟩] w fun e w' => e = .returned (.tuple #[.int .i64 10, .int .i64 1]) ∧ w' = w := by
  have c0 := h.open
  simp only [List.length_cons, List.length_nil, Nat.zero_add] at c0
  clear h
  go_enter Tryz.func75, Tryz.ntmps75
  go_wp2_with fail
  go_ret2
  exact ⟨rfl, rfl⟩
theorem DM.last {w : World} {B R L cap : Nat} {lab : Nat → Nat} {lv : List (List UInt8 × List Tr)} {vs : List Value} {p : List UInt8 × List Tr} {u : Value} {fl : Bool} (h : DM w B R L cap lab (lv ++ [p]) (vs ++ [u]) fl) : w.rangeAt L (lv.length * 2) [.string ⟨p.1.toArray⟩, u] := by
  intro j x hj
  obtain ⟨_, _, h1, h2⟩ := h.top
  match j, hj with
  | 0, hj => simp at hj; subst hj; exact h1
  | 1, hj => simp at hj; subst hj; exact h2
set_option maxRecDepth 100000 in
set_option maxHeartbeats 2000000 in
theorem end_name {B R L cap : Nat} {lab : Nat → Nat} {lv : List (List UInt8 × List Tr)} {vs : List Value} {p : List UInt8 × List Tr} {u : Value} {fl : Bool} (nm : List UInt8) (w : World) (h : DM w B R L cap lab (lv ++ [p]) (vs ++ [u]) fl) (hn : 1 ≤ lv.length) (hn2 : lv.length ≤ 100) (hnm : p.1 ≠ nm) :
    Calls Tryz.prog 75 #[.pointer (some ⟨R, 0, none⟩), .string ⟨nm.toArray⟩] w fun e w' => e = .returned (.tuple #[.int .i64 4, .int .i64 6]) ∧ Below w.heap.size w w' := by
  have c0 := h.open
  simp only [List.length_append, List.length_cons, List.length_nil, Nat.zero_add] at c0
  have HR := hide h.last
  obtain ⟨V, hV⟩ := h.top.2.1
  obtain ⟨ua, ucap, hu⟩ := st_shape hV.row
  subst hu
  obtain ⟨pn, pl⟩ := p
  dsimp only at *
  have hb : (pn == nm) = false := beq_eq_false_iff_ne.2 hnm
  have B0 := hide ((Below.refl w.heap.size w).alloc (Nat.le_refl _) (.cells #[.string ⟨pn.toArray⟩, .slice ua pl.length ucap] 84))
  obtain ⟨n, hnn⟩ : ∃ n, n = lv.length := ⟨_, rfl⟩
  rw [← hnn] at c0 hn hn2 HR
  have hi0 : (0 : Int) ≤ (n : Int) := by omega
  have hi1 : (n : Int) < (n : Int) + 1 := by omega
  have hz : ((n : Int) == 0) = false := by rw [beq_eq_false_iff_ne]; omega
  clear hnn h hV hnm
  go_enter Tryz.func75, Tryz.ntmps75
  go_wp2_with (refine wpList_load_mid rfl 84 _ rfl L (n * 2) rfl [.string ⟨pn.toArray⟩, .slice ua pl.length ucap] _ HR.out Tryz.underlying84 rfl Tryz.sizeLvl ?_)
  go_ret2
  exact ⟨rfl, B0.out⟩
set_option maxRecDepth 100000 in
set_option maxHeartbeats 2000000 in
theorem end_ok {B R L cap : Nat} {lab : Nat → Nat} {lv : List (List UInt8 × List Tr)} {vs : List Value} {q p : List UInt8 × List Tr} {v u : Value} {fl : Bool} (w : World) (h : DM w B R L cap lab ((lv ++ [q]) ++ [p]) ((vs ++ [v]) ++ [u]) fl) (hn2 : lv.length ≤ 100) (hl : q.2.length ≤ 2097152) :
    Calls Tryz.prog 75 #[.pointer (some ⟨R, 0, none⟩), .string ⟨p.1.toArray⟩] w fun e w' => e = .returned (.tuple #[.int .i64 0, .int .i64 0]) ∧ (∃ lab' v', DM w' B R L cap lab' (lv ++ [(q.1, q.2 ++ [.mk ⟨[], [], [], p.1⟩ p.2])]) (vs ++ [v']) fl) ∧ Below B w w' := by
  obtain ⟨V, hV⟩ := h.top.2.1
  obtain ⟨ua, ucap, hu⟩ := st_shape hV.row
  subst hu
  obtain ⟨pn, pl⟩ := p
  obtain ⟨qn, ql⟩ := q
  dsimp only at *
  have c0 := h.open
  have HR := hide h.last
  simp only [List.length_append, List.length_cons, List.length_nil, Nat.zero_add] at c0 HR
  have hBR := h.bR
  have hBw : B ≤ w.heap.size := by have := h.bx.lt; omega
  have hcp := dp_cap h.row
  have B0 := hide ((Below.refl w.heap.size w).alloc (Nat.le_refl _) (.cells #[.string ⟨pn.toArray⟩, .slice ua pl.length ucap] 84))
  have D0 := hide (h.later B0.out)
  obtain ⟨lab', D1, P1⟩ := D0.out.pop
  have A1 := hide (add_any (.mk ⟨[], [], [], pn⟩ pl) (.slice ua pl.length ucap) _ D1 P1 hn2 hl)
  have B1 : Hid (Below B w ((w.alloc (.cells #[.string ⟨pn.toArray⟩, .slice ua pl.length ucap] 84)).setCell ⟨R, 0, none⟩ (.slice (some ⟨L, 0, none⟩) (lv ++ [(qn, ql)]).length cap))) := hide ((B0.out.mono hBw).setCell hBR _)
  have c0a := D0.out.open
  have f0a := D0.out.bx.free 0
  simp only [List.length_append, List.length_cons, List.length_nil, Nat.zero_add] at c0a A1 B1 hcp
  unfold iC Tr.itm at A1
  dsimp only at A1
  have HSZ := hide h.bx.lt
  obtain ⟨n, hnn⟩ : ∃ n, n = lv.length + 1 := ⟨_, rfl⟩
  rw [← hnn] at c0 HR c0a A1 B1 hcp
  have hn1 : 1 ≤ n := by omega
  have hn3 : n ≤ 101 := by omega
  have hi0 : (0 : Int) ≤ (n : Int) := by omega
  have hi1 : (n : Int) < (n : Int) + 1 := by omega
  have hz : ((n : Int) == 0) = false := by rw [beq_eq_false_iff_ne]; omega
  have hRne : (⟨R, 0, none⟩ : Addr) ≠ ⟨w.heap.size, 0, none⟩ := fun e => by injection e with e1; have := HSZ.out; omega
  have hRne1 : (⟨R, 0, none⟩ : Addr) ≠ ⟨w.heap.size, 1, none⟩ := fun e => by injection e with e1; have := HSZ.out; omega
  have x0 : ((w.alloc (.cells #[.string ⟨pn.toArray⟩, .slice ua pl.length ucap] 84)).setCell ⟨R, 0, none⟩ (.slice (some ⟨L, 0, none⟩) n cap)).cell? ⟨w.heap.size, 0, none⟩ = some (.string ⟨pn.toArray⟩) := by
    rw [World.cell?_setCell_other _ _ _ _ hRne]; simp
  have x1 : ((w.alloc (.cells #[.string ⟨pn.toArray⟩, .slice ua pl.length ucap] 84)).setCell ⟨R, 0, none⟩ (.slice (some ⟨L, 0, none⟩) n cap)).cell? ⟨w.heap.size, 1, none⟩ = some (.slice ua pl.length ucap) := by
    rw [World.cell?_setCell_other _ _ _ _ hRne1]; simp
  clear hRne hRne1
  clear hnn h hV D0 D1 P1
  go_enter Tryz.func75, Tryz.ntmps75
  go_wp2_with (first
    | (refine wpList_load_mid rfl 84 _ rfl L (n * 2) rfl [.string ⟨pn.toArray⟩, .slice ua pl.length ucap] _ HR.out Tryz.underlying84 rfl Tryz.sizeLvl ?_)
    | (go_at_call 78; refine A1.out.mono ?_; rintro e w1 ⟨rfl, hD, hb⟩)
    | go_in)
  go_ret2
  exact ⟨rfl, hD, B1.out.trans hb⟩
end Go.Proofs.YtpkgaidnpooahaaGreatDoor
namespace Go.Proofs.YtpkgaidnpooahaaGreatDoor
open Go.RowKit Go.Extern

theorem cut_first (s : List UInt8) (c : UInt8) : c ∉ (Lib.cut s [c]).1 := by
  intro hm
  unfold Lib.cut at hm
  rcases Lib.index_spec s [c] with ⟨h1, h2⟩ | ⟨i, h1, h2, h3, h4⟩
  · rw [h1, if_neg (by omega)] at hm
    obtain ⟨j, hj, e⟩ := List.getElem_of_mem hm
    have := h2 j (by simpa using Nat.le_of_lt hj)
    unfold Lib.occAt at this
    rw [List.drop_eq_getElem_cons hj, e] at this
    simp at this
  · rw [h1, if_pos (by omega)] at hm
    simp only [Int.toNat_natCast] at hm
    obtain ⟨j, hj, e⟩ := List.getElem_of_mem hm
    rw [List.length_take] at hj
    rw [List.getElem_take] at e
    have := h4 j (by omega)
    unfold Lib.occAt at this
    rw [List.drop_eq_getElem_cons (by omega), e] at this
    simp at this
def qok (r : List UInt8) : Bool := decide (6 ≤ r.length) && qualB (r.take 4) && ((r.drop 4).take 2 == [47, 47])
theorem qual_no47 {q : List UInt8} (h : qualB q = true) : (47 : UInt8) ∉ q := fun hm => by
  unfold qualB at h
  rw [Bool.and_eq_true] at h
  have := List.all_eq_true.1 h.2 47 hm
  revert this; decide
theorem qual_len4 {q : List UInt8} (h : qualB q = true) : q.length = 4 := by
  unfold qualB at h
  rw [Bool.and_eq_true] at h
  exact of_decide_eq_true h.1
theorem qual_yes {r : List UInt8} (h : qok r = true) : Lib.cut r [47, 47] = (r.take 4, r.drop 6, true) := by
  unfold qok at h
  rw [Bool.and_eq_true, Bool.and_eq_true, beq_iff_eq] at h
  have hr : r = r.take 4 ++ 47 :: 47 :: r.drop 6 := by
    have e1 : r.drop 4 = (r.drop 4).take 2 ++ (r.drop 4).drop 2 := (List.take_append_drop 2 _).symm
    rw [h.2, List.drop_drop] at e1
    have e2 := (List.take_append_drop 4 r).symm
    rw [e1] at e2
    exact e2
  have := cut_two (r := r.drop 6) (qual_no47 h.1.2)
  rw [← hr] at this
  exact this
theorem qual_no {r : List UInt8} (h : qok r = false) : (!(Lib.cut r [47, 47]).2.2 || !qualB (Lib.cut r [47, 47]).1) = true := by
  cases hc : (Lib.cut r [47, 47]).2.2 with
  | false => rfl
  | true =>
    cases hq : qualB (Lib.cut r [47, 47]).1 with
    | false => rfl
    | true =>
      have e := cut_yes hc
      have hl := qual_len4 hq
      exfalso
      generalize (Lib.cut r [47, 47]).1 = q at *
      generalize (Lib.cut r [47, 47]).2.1 = t at *
      have h1 : r.take 4 = q := by rw [e, List.append_assoc, List.take_left' hl]
      have h2 : (r.drop 4).take 2 = [47, 47] := by rw [e, List.append_assoc, List.drop_left' hl]; rfl
      have h3 : 6 ≤ r.length := by rw [e]; simp; omega
      unfold qok at h
      rw [h1, hq, h2, decide_eq_true h3] at h
      revert h; decide
/-- What a field's line comes to, by the document's own way. -/
theorem fld_plain {tag rest : List UInt8} {len : Nat} (ht : tagB tag = true) (hh : hdB rest = false) : fldO tag rest len = none ∧ fldI tag rest = ⟨tag, [], rest, []⟩ := by
  unfold fldO fldI
  rw [ht, hh]; exact ⟨rfl, rfl⟩
theorem fld_bad {tag rest : List UInt8} {len : Nat} (ht : tagB tag = true) (hh : hdB rest = true) (hq : qok (rest.drop 1) = false) : fldO tag rest len = some (4, (len : Int) - rest.length + 2) := by
  unfold fldO
  rw [ht, hh, qual_no hq]; rfl
theorem fld_qual {tag rest : List UInt8} {len : Nat} (ht : tagB tag = true) (hh : hdB rest = true) (hq : qok (rest.drop 1) = true) : fldO tag rest len = none ∧ fldI tag rest = ⟨tag, (rest.drop 1).take 4, (rest.drop 1).drop 6, []⟩ := by
  have e := qual_yes hq
  unfold qok at hq
  rw [Bool.and_eq_true, Bool.and_eq_true] at hq
  unfold fldO fldI
  rw [ht, hh, e]
  dsimp only
  rw [hq.1.2]; exact ⟨rfl, rfl⟩
theorem fld_tagno {tag rest : List UInt8} {len : Nat} (ht : tagB tag = false) : fldO tag rest len = some (4, 2) := by
  unfold fldO; rw [ht]; rfl
/-- A line that begins with a colon. -/
structure Cl (tx tag rest : List UInt8) : Prop where
  eq : tx = 58 :: (tag ++ 58 :: rest)
  no : (58 : UInt8) ∉ tag
  cut : Lib.cut (tx.drop 1) [58] = (tag, rest, true)
theorem tx_cons {tx : List UInt8} {c : UInt8} (h0 : 0 < tx.length) (hc : tx.getD 0 0 = c) : tx = c :: tx.drop 1 := by
  cases tx with
  | nil => simp at h0
  | cons a r => simp at hc; subst hc; rfl
theorem Cl.of {tx : List UInt8} (h0 : 0 < tx.length) (hc : tx.getD 0 0 = 58) (hf : (Lib.cut (tx.drop 1) [58]).2.2 = true) : Cl tx (Lib.cut (tx.drop 1) [58]).1 (Lib.cut (tx.drop 1) [58]).2.1 := by
  have e := cut_yes hf
  refine ⟨?_, cut_first _ _, ?_⟩
  · conv => lhs; rw [tx_cons h0 hc, e]
    simp
  · rw [← hf]
theorem Cl.len {tx tag rest : List UInt8} (h : Cl tx tag rest) : tx.length = tag.length + rest.length + 2 := by rw [h.eq]; simp; omega
theorem Cl.tagAt {tx tag rest : List UInt8} (h : Cl tx tag rest) {k : Nat} (h1 : 1 ≤ k) (h2 : k < tag.length + 1) : tx.getD k 0 ≠ 58 := by
  obtain ⟨j, rfl⟩ : ∃ j, k = j + 1 := ⟨k - 1, by omega⟩
  have hj : j < tag.length := by omega
  rw [h.eq]
  simp only [List.getD_cons_succ]
  rw [List.getD_eq_getElem?_getD, List.getElem?_append_left hj, List.getElem?_eq_getElem hj]
  intro e
  exact h.no (by rw [← (show tag[j] = 58 from e)]; exact List.getElem_mem hj)
theorem Cl.stop {tx tag rest : List UInt8} (h : Cl tx tag rest) : tx.getD (tag.length + 1) 0 = 58 := by
  rw [h.eq]
  simp [List.getD_eq_getElem?_getD]
theorem Cl.sl1 {tx tag rest : List UInt8} (h : Cl tx tag rest) : (⟨tx.toArray⟩ : ByteArray).extract 1 (tag.length + 1) = ⟨tag.toArray⟩ := by
  apply ByteArray.ext
  rw [h.eq]; simp [List.extract_eq_take_drop]
theorem Cl.sl2 {tx tag rest : List UInt8} (h : Cl tx tag rest) : (⟨tx.toArray⟩ : ByteArray).extract (tag.length + 2) tx.length = ⟨rest.toArray⟩ := by
  apply ByteArray.ext
  rw [h.eq]; simp [List.extract_eq_take_drop]
  exact List.take_of_length_le (by omega)
theorem Cl.head {tx tag rest : List UInt8} (h : Cl tx tag rest) : tx.getD (tag.length + 2) 0 = rest.getD 0 0 := by
  rw [h.eq]
  simp [List.getD_eq_getElem?_getD, List.getElem?_append_right]
theorem Cl.sl3 {tx tag rest : List UInt8} (h : Cl tx tag rest) : (⟨tx.toArray⟩ : ByteArray).extract (tag.length + 3) tx.length = ⟨(rest.drop 1).toArray⟩ := by
  apply ByteArray.ext
  have e : tx.drop (tag.length + 3) = rest.drop 1 := by
    rw [h.eq, show tag.length + 3 = (tag.length + 2) + 1 by omega, List.drop_succ_cons, List.drop_append]
    simp [show tag.length + 2 - tag.length = 2 by omega]
  simp [List.extract_eq_take_drop, e]
  refine List.take_of_length_le ?_
  have := h.len
  simp; omega
/-- A line with no second colon. -/
theorem nocolon {tx : List UInt8} (hf : (Lib.cut (tx.drop 1) [58]).2.2 = false) {k : Nat} (h1 : 1 ≤ k) (h2 : k < tx.length) : tx.getD k 0 ≠ 58 := by
  have hn := cut_first (tx.drop 1) 58
  rw [(cut_no hf).1] at hn
  intro e
  refine hn ?_
  have hk : k - 1 < (tx.drop 1).length := by rw [List.length_drop]; omega
  have : (tx.drop 1)[k - 1] = 58 := by
    rw [List.getElem_drop]
    rw [List.getD_eq_getElem?_getD, List.getElem?_eq_getElem h2] at e
    simp only [show 1 + (k - 1) = k by omega]
    exact e
  rw [← this]; exact List.getElem_mem hk
end Go.Proofs.YtpkgaidnpooahaaGreatDoor
