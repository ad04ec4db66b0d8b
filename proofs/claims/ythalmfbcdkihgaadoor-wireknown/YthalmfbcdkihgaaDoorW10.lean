/-
  My own text: a text written; a number written and read; bytes that are the same.
-/
import Derived.Test.YthalmfbcdkihgaaDoorW9
import Derived.WalkSmall
import Derived.RegionTactic
import Derived.Deep.QuietTactic
import Derived.BigQuiet
namespace Go
open Go.Lib
theorem run_append_str_at {P : Program} (w : World) (base : Nat) (t u ty e : TypeId) (i : TypeInfo) (ht : P.underlying t = some (.slice e)) (hu : P.underlying u = some .string) (hi : P.info? e = some i) (hz : i.zero = some (.int .u8 0))
    (hsize : i.size = 1) (hby : i.bytes = 1) (v : Value) (n : Nat) (xs : List Value) (hown : w.ownsRow base e 1 v n xs) (s : ByteArray)
    (h63 : n + s.size ≤ maxLen) (hbytes : n + s.size ≤ 140737488355328) (hbase : base ≤ w.heap.size) :
    ∃ v' w', (Builtin.append_ #[t, u] ty #[v, .string s]).run P w = .ok v' w' ∧ w'.ownsRow base e 1 v' (n + s.size) (xs ++ strCells s) ∧ w.grownBy w' v.ownBlock ∧ (v'.ownBlock = v.ownBlock ∨ v'.ownBlock = some w.heap.size) := by
  obtain ⟨v', w', hr, h1, h2, h3⟩ := run_append_own_string (P := P) w base t u ty e i ht hu hi hz hsize hby v n xs hown s h63 hbytes hbase
  refine ⟨v', w', hr, h1, h2, ?_⟩
  have hsmall : n + s.size ≤ 9223372036854775807 := by simp only [maxLen] at h63; omega
  have hxl : xs.length = n := by simpa using hown.1
  rcases hown.2 with ⟨rfl, rfl⟩ | ⟨g, cap, cur, rfl, hbg, hg, hnc, hcm, hcs, htake⟩
  · by_cases hm : s.size = 0
    · rw [h3.2 ⟨rfl, hm⟩]; exact .inl rfl
    · have hr2 := run_append_nil_string (P := P) w t u ty e i (.int .u8 0) ht hu hi hz s (by omega) (by omega) (by rw [hby]; omega)
      rw [hr] at hr2
      cases hr2
      exact .inr rfl
  · by_cases hroom : n + s.size ≤ cap
    · have hcs' : cur.size = cap := by simpa using hcs
      have hr2 := run_append_room_string (P := P) w t u ty e i ht hu hi hsize g n cap cur hg s hroom (by omega)
      rw [hr] at hr2
      cases hr2
      exact .inl rfl
    · have holds : ∀ j u, xs[j]? = some u → w.cell? ((⟨g, 0, none⟩ : Addr).add j) = some u := hown.cells (g := g) rfl
      have hr2 := run_append_grow_string (P := P) w t u ty e i (.int .u8 0) ht hu hi hz ⟨g, 0, none⟩ n cap xs (by rw [hsize]; simpa using hxl) holds s (by omega) (by omega) (by rw [hby]; exact growslice_fits (by omega) (by omega))
      rw [hr] at hr2
      cases hr2
      exact .inr rfl
theorem wpList_append_str_at {P : Program} (w : World) {ops : Array Oper} {rest : List Oper} {o : Oper} {a : Act} {Q : Exit → Act → World → Prop} (hgd : o.guard = none) (sl x : Operand) (t u : TypeId)
    (ho : o.op = .call { callee := .builtin .append, args := #[sl, x], argTypes := #[t, u] })
    (base : Nat) (e : TypeId) (i : TypeInfo) (ht : P.underlying t = some (.slice e)) (hu : P.underlying u = some .string) (hi : P.info? e = some i) (hz : i.zero = some (.int .u8 0))
    (hsize : i.size = 1) (hby : i.bytes = 1)
    (v : Value) (n : Nat) (xs : List Value) (hs : a.eval sl = v) (hown : w.ownsRow base e 1 v n xs) (s : ByteArray) (hx : a.eval x = .string s)
    (h63 : n + s.size ≤ maxLen) (hbytes : n + s.size ≤ 140737488355328) (hbase : base ≤ w.heap.size)
    (h : ∀ v' w', w'.ownsRow base e 1 v' (n + s.size) (xs ++ strCells s) → w.grownBy w' v.ownBlock → (v'.ownBlock = v.ownBlock ∨ v'.ownBlock = some w.heap.size) → wpList P ops Q rest (a.put o.dst v') w') : wpList P ops Q (o :: rest) a w := by
  refine wpList_plain hgd fun K hK => ?_
  obtain ⟨v', w', hr, h2, h3, h4⟩ := run_append_str_at (P := P) w base t u o.type e i ht hu hi hz hsize hby v n xs hown s h63 hbytes hbase
  unfold Oper.wp execOp
  simp only [ho, resolve, invoke, builtin, Sem.run_bind, Sem.run_pure, Result.andThen_ok, List.map_toArray, List.map_cons, List.map_nil, hs, hx, hr]
  exact hK _ _ (h v' w' h2 h3 h4)
end Go
namespace Go.Proofs.YthalmfbcdkihgaaDoor
open Go.RowKit Go.Extern

theorem grew_at {w w1 : World} {v v' : Value} (hgrow : w.grownBy w1 v.ownBlock) (hat : v'.ownBlock = v.ownBlock ∨ v'.ownBlock = some w.heap.size) : Grew w v w1 v' := by
  refine ⟨hgrow, fun g hg => ?_⟩
  rcases hat with h | h
  · exact .inl (by rw [← h]; exact hg)
  · rw [h] at hg; cases hg; exact .inr (Nat.le_refl _)
theorem bytes_size' (m : List UInt8) : (⟨m.toArray⟩ : ByteArray).size = m.length := by simp [ByteArray.size]

set_option maxRecDepth 100000 in
set_option maxHeartbeats 1000000 in
theorem writeText_any (m : List UInt8) (B q : Nat) (v : Value) (l : List UInt8) (w : World) (hw : Wr w B q v l) (hl : l.length + m.length ≤ 140737488355200) :
    Calls Tryd.prog 9 #[.pointer (some ⟨q, 0, none⟩), .string ⟨m.toArray⟩] w fun e w' => e = .returned (.tuple #[]) ∧ ∃ v', Wr w' B q v' (l ++ (form (m.length : Int) ++ m)) ∧ Moved w w' q v v' := by
  obtain ⟨i0, hi, hz0, hz1, hz2⟩ := info_parts Tryd.infoB
  have HU := hide (writeUint_any (m.length : Int) B q v l w (by omega) (by omega) hw (by omega))
  have hsz := bytes_size' m
  have hm1 : (m.length : Int) ≤ 140737488355200 := by omega
  clear hw
  go_enter Tryd.func9, Tryd.ntmps9
  go_wp2_with fail
  refine HU.out.mono ?_
  rintro en w1 ⟨rfl, v1, hw1, hm⟩
  obtain ⟨a1, c1, rfl⟩ := hw1.2.1.slice
  have hc : w1.cell? ⟨q, 0, none⟩ = some (.slice a1 (l ++ form (m.length : Int)).length c1) := hw1.1.cell 0
  have f0 := hw1.1.free 0
  have HW1 := hide hw1
  have HM := hide hm
  have HLEN : Hid ((l ++ form (m.length : Int)).length ≤ l.length + 9) := hide (by rw [List.length_append]; have := form_le (m.length : Int); omega)
  obtain ⟨L, hL⟩ : ∃ L, Hid (l ++ form (m.length : Int) = L) := ⟨_, hide rfl⟩
  rw [hL.out] at hc HW1 HM HLEN
  clear hw1 hm
  go_wp2_with (first
    | (at_builtin; refine wpList_append_str_at _ rfl _ _ 29 9 rfl B 5 i0 Tryd.underlying29 Tryd.underlying9 hi hz0 hz1 hz2 _ _ _ rfl HW1.out.2.1 _ rfl ?c3 ?c4 ?c5 ?_)
    | go_in)
  case c3 => have := HLEN.out; unfold maxLen; rw [bytes_size']; omega
  case c4 => have := HLEN.out; rw [bytes_size']; omega
  case c5 => exact Nat.le_trans HW1.out.2.2 (Nat.le_of_lt HW1.out.1.lt)
  intro v2 w2 hown hgrow hat
  have HO : Hid (Own w2 B v2 (L ++ m)) := by
    have h := hown
    have e1 : bv L ++ Lib.strCells ⟨m.toArray⟩ = bv (L ++ m) := by rw [bv_app]; rfl
    rw [e1, ← List.length_append] at h
    exact hide h
  have hg2 := grew_at hgrow hat
  have hb2 : Blk w2 q #[.slice a1 L.length c1] 64 := (hg2.grown.block q HW1.out.1.lt (fun e => HW1.out.2.1.apart HW1.out.1 (by decide) e.symm)).trans HW1.out.1
  have hc2 : w2.cell? ⟨q, 0, none⟩ = some (.slice a1 L.length c1) := hb2.cell 0
  have f2 := hb2.free 0
  obtain ⟨a2, c2, rfl⟩ := HO.out.slice
  have HW2 : Hid (Wr (w2.setCell ⟨q, 0, none⟩ (.slice a2 (L ++ m).length c2)) B q (.slice a2 (L ++ m).length c2) (L ++ m)) := hide ⟨hb2.set 0 _, HO.out.other 0 _ (HO.out.apart hb2 (by decide)), HW1.out.2.2⟩
  have HM2 := hide (HM.out.trans (Moved.ofGrew (q := q) hg2 0 (.slice a2 (L ++ m).length c2)))
  have HEQ : Hid (l ++ (form (m.length : Int) ++ m) = L ++ m) := hide (by rw [← hL.out, List.append_assoc])
  obtain ⟨R, hR⟩ : ∃ R, Hid (L ++ m = R) := ⟨_, hide rfl⟩
  rw [hR.out] at HW2 HM2 HEQ HO ⊢
  clear hown hgrow hat hg2 hb2 HO
  go_wp2_with fail
  go_end0
  exact ⟨rfl, _, by rw [HEQ.out]; exact HW2.out, HM2.out⟩

theorem same_no {l m : List UInt8} {k : Nat} {x y : UInt8} (h1 : l[k]? = some x) (h2 : m[k]? = some y) (hne : x ≠ y) : decide (l = m) = false := by
  rw [decide_eq_false_iff_not]; intro h; rw [h, h2] at h1; cases h1; exact hne rfl
theorem same_len {l m : List UInt8} (h : l.length ≠ m.length) : decide (l = m) = false := by
  rw [decide_eq_false_iff_not]; intro e; rw [e] at h; exact h rfl
theorem same_step {l m : List UInt8} {k : Nat} {x : UInt8} (h0 : l.take k = m.take k) (h1 : l[k]? = some x) (h2 : m[k]? = some x) : l.take (k + 1) = m.take (k + 1) := by
  rw [List.take_add_one, List.take_add_one, h0, h1, h2]
theorem same_end {l m : List UInt8} {k : Nat} (h0 : l.take k = m.take k) (h1 : l.length ≤ k) (h2 : m.length ≤ k) : decide (l = m) = true := by
  rw [List.take_of_length_le h1, List.take_of_length_le h2] at h0; simp [h0]
theorem ret_b {a b : Bool} (h : a = b) : Ending.returned (.bool a) = .returned (.bool b) := by rw [h]
theorem byte_ne {c d : UInt8} (h : c ≠ d) : ((c.toNat : Int) != (d.toNat : Int)) = true := by
  simp only [bne_iff_ne, ne_eq]
  intro e
  exact h (UInt8.toNat_inj.1 (by omega))

set_option maxRecDepth 100000 in
set_option maxHeartbeats 1000000 in
theorem sameBytes_any (v u : Value) (l m : List UInt8) (w : World) (hv : RB w v l) (hu : RB w u m) (hl : l.length ≤ 140737488355328) :
    Calls Tryd.prog 11 #[v, u] w fun e w' => e = .returned (.bool (decide (l = m))) ∧ Below w.heap.size w w' := by
  obtain ⟨b1, a, c1, rfl, _, hr⟩ := hv
  obtain ⟨b2, b, c2, rfl, _, hs⟩ := hu
  by_cases hlen : l.length = m.length
  · have hne : ((l.length : Int) != (m.length : Int)) = false := by simp; omega
    have HL := hide hlen
    clear hlen
    go_enter Tryd.func11, Tryd.ntmps11
    go_wp2
    clear hne
    go_loopw [5] (fun i wr => ∃ k : Nat, k ≤ l.length ∧ i = .int .i64 k ∧ Hid (l.take k = m.take k) ∧ Below w.heap.size w wr) (fun i _ => l.length - (intOf i).toNat)
    case atStart => exact ⟨0, Nat.zero_le _, rfl, hide rfl, Below.refl _ _⟩
    case round =>
      obtain ⟨k, hk, rfl, HT, hB⟩ := hrel
      by_cases hlt : k < l.length
      · have hlt2 : k < m.length := by have := HL.out; omega
        obtain ⟨x, hx⟩ := some_at hlt
        obtain ⟨y, hy⟩ := some_at hlt2
        rcases hr with h0 | ⟨o1, rfl, hb1, hc1⟩
        · rw [h0] at hlt; simp at hlt
        rcases hs with h0 | ⟨o2, rfl, hb2, hc2⟩
        · rw [h0] at hlt2; simp at hlt2
        have d1 := (hB.cell (p := ⟨b1, o1 + k, none⟩) hb1).trans (hc1 k x hx)
        have d2 := (hB.cell (p := ⟨b2, o2 + k, none⟩) hb2).trans (hc2 k y hy)
        have HX := hide hx
        have HY := hide hy
        clear hc1 hc2 hx hy
        by_cases hxy : x = y
        · subst hxy
          have H := hide (same_step HT.out HX.out HY.out)
          go_wp2
          go_quiet (fail)
          go_wp2
          go_roundw
          case rel => exact ⟨k + 1, by omega, by go_num, H, below_drewN hB _⟩
          case measure => simp [intOf]; omega
        · have H := hide (same_no HX.out HY.out hxy)
          have hne := byte_ne hxy
          clear hxy
          go_wp2
          go_quiet (fail)
          go_wp2
          go_ret
          exact ⟨ret_b H.out.symm, below_drewN hB _⟩
      · have H := hide (same_end HT.out (by omega) (by have := HL.out; omega))
        go_wp2
        go_ret
        exact ⟨ret_b H.out.symm, hB⟩
  · have H := hide (same_len hlen)
    have hne : ((l.length : Int) != (m.length : Int)) = true := by simp; omega
    go_enter Tryd.func11, Tryd.ntmps11
    go_wp2
    go_ret
    exact ⟨ret_b H.out.symm, Below.refl _ _⟩

theorem form300 : form 300 = [249, 1, 44] := by decide
theorem read300 : rdU 300 [249, 1, 44] 0 = (300, [], 0) := by decide
set_option maxRecDepth 100000 in
set_option maxHeartbeats 1000000 in
theorem works_any (w : World) : Calls Tryd.prog 39 #[] w fun e w' => e = .returned (.bool true) ∧ Below w.heap.size w w' := by
  have HN := hide (newWriter_any w)
  have eG := Tryd.nilEqlG
  have eE := Tryd.nilEql
  go_enter Tryd.func39, Tryd.ntmps39
  go_wp2_with fail
  refine HN.out.mono ?_
  rintro e w1 ⟨rfl, rfl⟩
  have HU := hide (writeUint_any 300 _ _ _ _ _ (by decide) (by decide) (wr_new w) (by simp))
  go_wp2_with fail
  refine HU.out.mono ?_
  rintro e w2 ⟨rfl, v2, hw2, hm2⟩
  rw [List.nil_append, form300] at hw2
  have HB2 := hide ((wr_new w).toBelow hm2 ((Below.refl _ _).alloc (Nat.le_refl _) _))
  have HW2 := hide hw2
  clear hw2 hm2 HU
  have HD := hide (done_any _ _ _ _ _ HW2.out (by decide))
  go_wp2_with fail
  refine HD.out.mono ?_
  rintro e w3 ⟨v3, rfl, ho, hb⟩
  have HB3 := hide (HB2.out.trans (hb.mono HB2.out.size))
  have HR := hide (newReader_any v3 _ w3 ho.rb (by decide))
  obtain ⟨a3, c3, rfl⟩ := ho.slice
  clear ho hb
  go_wp2_with fail
  refine HR.out.mono ?_
  rintro e w4 ⟨r, g, rfl, hd, hr, _, hb4⟩
  have HB4 := hide (HB3.out.trans (hb4.mono HB3.out.size))
  have HL := hide (left_any _ _ _ _ _ _ hd)
  have HUi := hide (srcUint_any 300 _ _ _ _ _ _ hd (by decide) (by decide))
  rw [read300] at HUi
  have hge : w.heap.size ≤ r := Nat.le_trans HB3.out.size hr
  clear hb4 hr hd HR HN HD HB3 HB2 HW2
  go_wp2_with fail
  refine HL.out.mono ?_
  rintro e w5 ⟨rfl, hw⟩
  obtain rfl := hw.symm
  go_wp2_with fail
  refine HUi.out.mono ?_
  rintro e w5 ⟨rfl, hd5, ho5⟩
  have HE := hide (end_any _ _ _ _ _ _ hd5 (by decide))
  have HB5 := hide (ho5.toBelow HB4.out HB4.out.size hge)
  clear hd5 ho5
  go_wp2_with fail
  refine HE.out.mono ?_
  rintro e w6 ⟨he, hw⟩
  obtain rfl := hw.symm
  have he' : e = .returned .nilIface := he
  subst he'
  go_wp2_with fail
  go_ret
  exact ⟨rfl, HB5.out⟩
end Go.Proofs.YthalmfbcdkihgaaDoor
