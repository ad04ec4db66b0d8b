/-
  My own text: layer 19: the document's Items, Idles, Remove.
-/
import Derived.Test.YtknnojjfdfkdmaaGreatDoorQD3
namespace Go.Proofs.YtknnojjfdfkdmaaGreatDoor
open Go.RowKit Go.Extern Go.MapKept Go.ChangeMaps

/-- The ids of those among the first k that are so. -/
def idD (P : De → Bool) (E : List De) (k : Nat) : List Int := ((E.take k).filter P).map (·.id)
theorem idD_yes {P : De → Bool} {E : List De} {k : Nat} {p : De} (h : E[k]? = some p) (hp : P p = true) : idD P E (k + 1) = idD P E k ++ [p.id] := by
  unfold idD
  rw [List.take_add_one, h, List.filter_append, List.map_append]
  simp [hp]
theorem idD_no {P : De → Bool} {E : List De} {k : Nat} {p : De} (h : E[k]? = some p) (hp : P p = false) : idD P E (k + 1) = idD P E k := by
  unfold idD
  rw [List.take_add_one, h, List.filter_append, List.map_append]
  simp [hp]
theorem idD_le (P : De → Bool) (E : List De) (k : Nat) : (idD P E k).length ≤ k := by
  unfold idD
  rw [List.length_map]
  exact Nat.le_trans (List.length_filter_le _ _) (by rw [List.length_take]; omega)
set_option maxRecDepth 100000 in
set_option maxHeartbeats 2000000 in
theorem ritems_any (B r : Nat) (room : Int) (vl : Value) (E : List De) (w : World) (h : DQ w B r room vl E) (hl : E.length ≤ 8796093022000) :
    Calls Tryz.prog 18 #[.pointer (some ⟨r, 0, none⟩)] w fun e w' => ∃ v', e = .returned v' ∧ OI w' w.heap.size v' (idD (fun _ : De => true) E E.length) ∧ Below w.heap.size w w' := by
  obtain ⟨i0, hi, hz0, hz1, hz2⟩ := info_parts Tryz.infoI
  obtain ⟨a, c, rfl⟩ := h.sl
  have HL := hide hl
  have HD := hide h
  clear h hl
  go_enter Tryz.func18, Tryz.ntmps18
  go_wp2_with fail
  go_loopw [3, 4] (fun o i wr => ∃ k : Nat, k ≤ E.length ∧ i = .int .i64 (k : Int) ∧ Hid (wr.ownsRow w.heap.size 3 1 o (idD (fun _ : De => true) E k).length (ic (idD (fun _ : De => true) E k))) ∧ Hid (Below w.heap.size w wr)) (fun _ i _ => E.length - (intOf i).toNat)
  case atStart => exact ⟨0, Nat.zero_le _, rfl, hide (World.ownsRow_nil w w.heap.size 3 1), hide (Below.refl _ _)⟩
  case round =>
    obtain ⟨k, hk, rfl, HO, HB⟩ := hrel
    have HDr := hide (HD.out.later HB.out)
    have k1 := HDr.out.c1
    by_cases hlt : k < E.length
    · obtain ⟨p, hp⟩ : ∃ p, E[k]? = some p := ⟨_, List.getElem?_eq_getElem hlt⟩
      obtain ⟨g, hga, -, -, c0, c1, c2, c3⟩ := HDr.out.el hp
      subst hga
      obtain ⟨hd1, j0, j1, wk⟩ := ix hlt HL.out
      have HLT := hide hlt
      have H63 : Hid ((idD (fun _ : De => true) E k).length + 1 ≤ 8796093022001) := hide (by have := idD_le (fun _ : De => true) E k; have := HL.out; omega)
      obtain ⟨n0, hn0⟩ : ∃ n0, (idD (fun _ : De => true) E k).length = n0 := ⟨_, rfl⟩
      obtain ⟨cs, hcs⟩ : ∃ cs, ic (idD (fun _ : De => true) E k) = cs := ⟨_, rfl⟩
      have HP := hide hp
      have HSZ := hide HB.out.size
      clear c1 c3 hk hp hlt HDr
      rw [hn0, hcs] at HO
      rw [hn0] at H63
      have HT : Hid (idD (fun _ : De => true) E (k + 1) = idD (fun _ : De => true) E k ++ [p.id]) := hide (idD_yes HP.out rfl)
      go_wp2_with (first
        | (at_builtin; refine wpList_append_own_wide _ rfl _ _ 40 rfl w.heap.size 3 i0 (.int .i64 0) 1 8 Tryz.underlying40 hi hz0 hz1 hz2 rfl (by decide) _ _ _ rfl (HO.out.alloc _) ⟨_, 0, none⟩ 1 1 [.int .i64 p.id] rfl rfl ?c1 ?c2 ?c3 ?c4 ?c5 ?_))
      case c3 => have := H63.out; unfold maxLen; omega
      case c4 => have := H63.out; omega
      case c5 => have := HSZ.out; simp; omega
      first | (case c1 => first | exact cell_one_new _ _ _ | exact fun j u hj => by rw [Addr.add_lit, cell_of_row _ _ _ _ _ _ (alloc_new wr _), Nat.zero_add]; simpa using hj) | skip
      case c2 => first | rfl | exact ⟨rfl, trivial⟩ | (intro u hu; simp at hu; subst hu; rfl)
      intro v' w2 hown' hgrow _
      have HB2 : Hid (Below w.heap.size w w2) := hide ((HB.out.alloc HSZ.out _).grown hgrow (by have := HSZ.out; simp; omega) (fun k hk => (HO.out.lt k hk).1))
      have HO2 : Hid (w2.ownsRow w.heap.size 3 1 v' (idD (fun _ : De => true) E (k + 1)).length (ic (idD (fun _ : De => true) E (k + 1)))) := hide (by
        rw [HT.out, ic_app, List.length_append, hn0, hcs]; exact hown')
      clear hown' hgrow HO HB hn0 hcs H63
      go_wp2_with fail
      go_roundw
      case rel => exact ⟨k + 1, HLT.out, congrArg (Value.int .i64) wk, HO2, HB2⟩
      case measure => first | exact meas_up HLT.out | (rw [wk]; exact meas_up HLT.out)
    · have e : k = E.length := by omega
      subst e
      clear HDr
      go_wp2_with fail
      go_ret
      exact ⟨_, rfl, HO.out, HB.out⟩
set_option maxRecDepth 100000 in
set_option maxHeartbeats 2000000 in
theorem ridles_any (B r : Nat) (room : Int) (vl : Value) (E : List De) (w : World) (h : DQ w B r room vl E) (hl : E.length ≤ 8796093022000) :
    Calls Tryz.prog 19 #[.pointer (some ⟨r, 0, none⟩)] w fun e w' => ∃ v', e = .returned v' ∧ OI w' w.heap.size v' (idD (fun e : De => e.is == 0) E E.length) ∧ Below w.heap.size w w' := by
  obtain ⟨i0, hi, hz0, hz1, hz2⟩ := info_parts Tryz.infoI
  obtain ⟨a, c, rfl⟩ := h.sl
  have HL := hide hl
  have HD := hide h
  clear h hl
  go_enter Tryz.func19, Tryz.ntmps19
  go_wp2_with fail
  go_loopw [3, 4] (fun o i wr => ∃ k : Nat, k ≤ E.length ∧ i = .int .i64 (k : Int) ∧ Hid (wr.ownsRow w.heap.size 3 1 o (idD (fun e : De => e.is == 0) E k).length (ic (idD (fun e : De => e.is == 0) E k))) ∧ Hid (Below w.heap.size w wr)) (fun _ i _ => E.length - (intOf i).toNat)
  case atStart => exact ⟨0, Nat.zero_le _, rfl, hide (World.ownsRow_nil w w.heap.size 3 1), hide (Below.refl _ _)⟩
  case round =>
    obtain ⟨k, hk, rfl, HO, HB⟩ := hrel
    have HDr := hide (HD.out.later HB.out)
    have k1 := HDr.out.c1
    by_cases hlt : k < E.length
    · obtain ⟨p, hp⟩ : ∃ p, E[k]? = some p := ⟨_, List.getElem?_eq_getElem hlt⟩
      obtain ⟨g, hga, -, -, c0, c1, c2, c3⟩ := HDr.out.el hp
      subst hga
      obtain ⟨hd1, j0, j1, wk⟩ := ix hlt HL.out
      have HLT := hide hlt
      have H63 : Hid ((idD (fun e : De => e.is == 0) E k).length + 1 ≤ 8796093022001) := hide (by have := idD_le (fun e : De => e.is == 0) E k; have := HL.out; omega)
      obtain ⟨n0, hn0⟩ : ∃ n0, (idD (fun e : De => e.is == 0) E k).length = n0 := ⟨_, rfl⟩
      obtain ⟨cs, hcs⟩ : ∃ cs, ic (idD (fun e : De => e.is == 0) E k) = cs := ⟨_, rfl⟩
      have HP := hide hp
      have HSZ := hide HB.out.size
      clear c1 c3 hk hp hlt HDr
      cases hE : (p.is == 0) with
      | true =>
        rw [hn0, hcs] at HO
        rw [hn0] at H63
        have HT : Hid (idD (fun e : De => e.is == 0) E (k + 1) = idD (fun e : De => e.is == 0) E k ++ [p.id]) := hide (idD_yes HP.out (by simpa using hE))
        go_wp2_with (first
          | (at_builtin; refine wpList_append_own_wide _ rfl _ _ 40 rfl w.heap.size 3 i0 (.int .i64 0) 1 8 Tryz.underlying40 hi hz0 hz1 hz2 rfl (by decide) _ _ _ rfl (HO.out.alloc _) ⟨_, 0, none⟩ 1 1 [.int .i64 p.id] rfl rfl ?c1 ?c2 ?c3 ?c4 ?c5 ?_))
        case c3 => have := H63.out; unfold maxLen; omega
        case c4 => have := H63.out; omega
        case c5 => have := HSZ.out; simp; omega
        first | (case c1 => first | exact cell_one_new _ _ _ | exact fun j u hj => by rw [Addr.add_lit, cell_of_row _ _ _ _ _ _ (alloc_new wr _), Nat.zero_add]; simpa using hj) | skip
        case c2 => first | rfl | exact ⟨rfl, trivial⟩ | (intro u hu; simp at hu; subst hu; rfl)
        intro v' w2 hown' hgrow _
        have HB2 : Hid (Below w.heap.size w w2) := hide ((HB.out.alloc HSZ.out _).grown hgrow (by have := HSZ.out; simp; omega) (fun k hk => (HO.out.lt k hk).1))
        have HO2 : Hid (w2.ownsRow w.heap.size 3 1 v' (idD (fun e : De => e.is == 0) E (k + 1)).length (ic (idD (fun e : De => e.is == 0) E (k + 1)))) := hide (by
          rw [HT.out, ic_app, List.length_append, hn0, hcs]; exact hown')
        clear hown' hgrow HO HB hn0 hcs H63
        go_wp2_with fail
        go_roundw
        case rel => exact ⟨k + 1, HLT.out, congrArg (Value.int .i64) wk, HO2, HB2⟩
        case measure => first | exact meas_up HLT.out | (rw [wk]; exact meas_up HLT.out)
      | false =>
        have HO2 := HO
        rw [← idD_no (P := (fun e : De => e.is == 0)) HP.out (by simpa using hE)] at HO2
        clear hn0 hcs
        go_wp2_with fail
        go_roundw
        case rel => exact ⟨k + 1, HLT.out, congrArg (Value.int .i64) wk, HO2, HB⟩
        case measure => first | exact meas_up HLT.out | (rw [wk]; exact meas_up HLT.out)
    · have e : k = E.length := by omega
      subst e
      clear HDr
      go_wp2_with fail
      go_ret
      exact ⟨_, rfl, HO.out, HB.out⟩
/-- The first n without a place. -/
def woD (L : List De) (k : Nat) (n : Nat) : List De := if k < n then (L.take n).eraseIdx k else L.take n
theorem woD_keep {L : List De} {k n : Nat} {p : De} (h : L[n]? = some p) (hk : ¬ n = k) : woD L k (n + 1) = woD L k n ++ [p] := by
  have hlt := (List.getElem?_eq_some_iff.1 h).1
  have e : L.take (n + 1) = L.take n ++ [p] := by rw [List.take_add_one, h]; rfl
  unfold woD
  by_cases h1 : k < n
  · rw [if_pos h1, if_pos (by omega), e, List.eraseIdx_append_of_lt_length (by rw [List.length_take]; omega)]
  · rw [if_neg h1, if_neg (by omega), e]
theorem woD_skip {L : List De} {k n : Nat} {p : De} (h : L[n]? = some p) (hk : n = k) : woD L k (n + 1) = woD L k n := by
  have hlt := (List.getElem?_eq_some_iff.1 h).1
  have e : L.take (n + 1) = L.take n ++ [p] := by rw [List.take_add_one, h]; rfl
  unfold woD
  rw [if_pos (by omega), if_neg (by omega), e]
  have hn : k = (L.take n).length := by rw [List.length_take]; omega
  rw [hn, List.eraseIdx_append_of_length_le (Nat.le_refl _), Nat.sub_self]
  simp
theorem woD_le (L : List De) (k n : Nat) : (woD L k n).length ≤ n := by
  unfold woD; split
  · exact Nat.le_trans (List.length_eraseIdx_le _ _) (by rw [List.length_take]; omega)
  · rw [List.length_take]; omega
theorem woD_all {L : List De} {k : Nat} (h : k < L.length) : woD L k L.length = L.eraseIdx k := by unfold woD; rw [if_pos h, List.take_length]
theorem OD.sl {w : World} {B : Nat} {v : Value} {L : List De} (h : OD w B v L) : ∃ a c, v = .slice a L.length c := by
  rcases h.slc with ⟨rfl, rfl⟩ | ⟨g, cap, rfl, _⟩
  · exact ⟨_, _, rfl⟩
  · exact ⟨_, _, rfl⟩
theorem low_row {w : World} {B C : Nat} {e : TypeId} {k n : Nat} {v : Value} {xs : List Value} (h : w.ownsRow B e k v n xs) (hc : C ≤ B) : w.ownsRow C e k v n xs := by
  refine ⟨h.1, ?_⟩
  rcases h.2 with h2 | ⟨g, cap, cur, hv, hg, h3⟩
  · exact .inl h2
  · exact .inr ⟨g, cap, cur, hv, Nat.le_trans hc hg, h3⟩
/-- The queue's list is another, of its own. -/
theorem DQ.other {w w1 : World} {B r : Nat} {room : Int} {vl v' : Value} {E E' : List De} (h : DQ w B r room vl E) (hb : Below w.heap.size w w1) (ho : OD w1 w.heap.size v' E') (hk : ∀ e ∈ E', e ∈ E) : DTo w (w1.setCell ⟨r, 1, none⟩ v') B r room vl E v' E' := by
  have h1 := h.later hb
  have hne : ∀ y, y ≠ r → (w1.setCell ⟨r, 1, none⟩ v').heap[y]? = w1.heap[y]? := fun y hy => Below.heap_setCell _ _ _ y hy
  have e1 := setCell_eq_setRow w1 r 1 _ _ _ v' h1.hd
  refine ⟨⟨by rw [e1]; exact setRow_heap w1 r _ _ _ _ h1.hd, owns_blk (low_row ho h.bw) (fun g hg => hne g (fun e => ?_)), fun e he => ⟨owns_blk (h1.ks e (hk e he)).1 (fun g hg => hne g (fun q => ?_)), (h1.ks e (hk e he)).2⟩, h.br, by simpa [World.setCell] using h1.bw⟩, (FS.below hb).trans (FS.set (.inl rfl)), fun g hg => ?_⟩
  · obtain ⟨c1, f1, h2⟩ := ownsRow_kind ho g hg
    rw [e] at h2
    exact absurd (blk_types h1.hd h2) (by decide)
  · obtain ⟨c1, f1, h2⟩ := ownsRow_kind (h1.ks e (hk e he)).1 g hg
    rw [q] at h2
    exact absurd (blk_types h1.hd h2) (by decide)
  · rcases hg with hg | hg | ⟨e, he, hg⟩
    · exact .inl (.inl hg)
    · exact .inr (World.ownsRow.lt ho g hg).1
    · exact .inl (.inr (.inr ⟨e, hk e he, hg⟩))
set_option maxRecDepth 100000 in
set_option maxHeartbeats 2000000 in
theorem rremove_any (B r : Nat) (room id : Int) (vl : Value) (E : List De) (w : World) (h : DQ w B r room vl E) (hl : E.length ≤ 2932031007402) :
    Calls Tryz.prog 41 #[.pointer (some ⟨r, 0, none⟩), .int .i64 id] w fun e w' =>
      ((∀ p ∈ E, p.id ≠ id) ∧ e = .returned (.bool false) ∧ w' = w) ∨
      (∃ (k : Nat) (p : De) (vl' : Value), E[k]? = some p ∧ p.id = id ∧ e = .returned (.bool true) ∧ DTo w w' B r room vl E vl' (E.eraseIdx k)) := by
  obtain ⟨i0, hi, hz0, hz1, hz2⟩ := info_parts Tryz.infoDe
  obtain ⟨a, c, rfl⟩ := h.sl
  have HF := hide (rfind_any B r room id _ E w h (by omega))
  have HL := hide hl
  have HD := hide h
  clear h hl
  rcases fdD_cases id E with ⟨h1, h2⟩ | ⟨kk, q, h1, hp, hid⟩
  · rw [h1] at HF
    have H2 := hide h2
    clear h1 h2 hi hz0 hz1 hz2
    go_enter Tryz.func41, Tryz.ntmps41
    go_wp2_with fail
    refine HF.out.mono ?_
    rintro e w' ⟨rfl, e9⟩
    replace e9 := e9.symm
    subst e9
    go_wp2_with fail
    go_ret
    exact .inl ⟨H2.out, rfl, rfl⟩
  · rw [h1] at HF
    have HKL := hide (List.getElem?_eq_some_iff.1 hp).1
    have hd2 : decide ((kk : Int) < 0) = false := decide_eq_false (by omega)
    have HQP := hide hp
    have HID := hide hid
    obtain ⟨K, hK⟩ : ∃ K, K = woD E kk := ⟨_, rfl⟩
    have HY : Hid (∀ (n : Nat) (p : De), E[n]? = some p → ¬ n = kk → K (n + 1) = K n ++ [p]) := hide (fun n p h1 h2 => by rw [hK]; exact woD_keep h1 h2)
    have HN : Hid (∀ (n : Nat) (p : De), E[n]? = some p → n = kk → K (n + 1) = K n) := hide (fun n p h1 h2 => by rw [hK]; exact woD_skip h1 h2)
    have H0 : Hid (K 0 = []) := hide (by rw [hK]; unfold woD; rw [if_neg (by omega)]; rfl)
    have HLE : Hid (∀ n, (K n).length ≤ n) := hide (fun n => by rw [hK]; exact woD_le E kk n)
    have HALL : Hid (K E.length = E.eraseIdx kk) := hide (by rw [hK]; exact woD_all HKL.out)
    clear h1 hp hid hK
    go_enter Tryz.func41, Tryz.ntmps41
    go_wp2_with fail
    refine HF.out.mono ?_
    rintro e w' ⟨rfl, e9⟩
    replace e9 := e9.symm
    subst e9
    go_wp2_with fail
    go_loopw [6, 7] (fun o i wr => ∃ k : Nat, k ≤ E.length ∧ i = .int .i64 (k : Int) ∧ Hid (wr.ownsRow w.heap.size 79 4 o (K k).length (dcl (K k))) ∧ Hid (Below w.heap.size w wr)) (fun _ i _ => E.length - (intOf i).toNat)
    case atStart => exact ⟨0, Nat.zero_le _, rfl, hide (by rw [H0.out]; exact World.ownsRow_nil w w.heap.size 79 4), hide (Below.refl _ _)⟩
    case round =>
      obtain ⟨k, hk, rfl, HO, HB⟩ := hrel
      have HDr := hide (HD.out.later HB.out)
      have k1 := HDr.out.c1
      by_cases hlt : k < E.length
      · obtain ⟨p, hp⟩ : ∃ p, E[k]? = some p := ⟨_, List.getElem?_eq_getElem hlt⟩
        obtain ⟨g, hga, -, -, c0, c1, c2, c3⟩ := HDr.out.el hp
        subst hga
        unfold De.kv at c1
        obtain ⟨hd1, j0, j1, wk⟩ := ix hlt (by have := HL.out; omega)
        have HP := hide hp
        have HLT := hide hlt
        have HSZ := hide HB.out.size
        have H63 : Hid ((K k).length + 1 ≤ 2932031007402) := hide (by have := HLE.out k; have := HL.out; omega)
        clear hp hk hlt HDr
        cases hE : ((k : Int) != (kk : Int)) with
        | true =>
          have HT := hide (HY.out k p HP.out (by have : ¬ (k : Int) = (kk : Int) := by simpa using hE
                                                 omega))
          obtain ⟨n0, hn0⟩ : ∃ n0, (K k).length = n0 := ⟨_, rfl⟩
          rw [hn0] at HO H63
          obtain ⟨cs, hcs⟩ : ∃ cs, dcl (K k) = cs := ⟨_, rfl⟩
          rw [hcs] at HO
          go_wp2_with (first
            | (at_builtin; refine wpList_append_own_wide _ rfl _ _ 54 rfl w.heap.size 79 i0 (.agg #[.int .i64 0, .slice none 0 0, .int .i64 0, .bool false]) 4 48 Tryz.underlying54 hi hz0 hz1 hz2 rfl (by decide) _ _ _ rfl (HO.out.alloc _) ⟨_, 0, none⟩ 1 1 [.int .i64 p.id, .slice p.ka p.ks.length p.kc, .int .i64 p.is, .bool p.tc] rfl rfl ?c1 ?c2 ?c3 ?c4 ?c5 ?_))
          case c3 => have := H63.out; unfold maxLen; omega
          case c4 => have := H63.out; omega
          case c5 => have := HSZ.out; simp; omega
          case c1 => exact fun j u hj => by rw [Addr.add_lit, cell_of_row _ _ _ _ _ _ (alloc_new wr _), Nat.zero_add]; simpa using hj
          case c2 => first | exact ⟨rfl, rfl, rfl, rfl⟩ | (intro u hu; simp at hu; rcases hu with rfl | rfl | rfl | rfl <;> rfl)
          intro v' w2 hown' hgrow _
          have HB2 : Hid (Below w.heap.size w w2) := hide ((HB.out.alloc HSZ.out _).grown hgrow (by have := HSZ.out; simp; omega) (fun k hk => (HO.out.lt k hk).1))
          have HO2 : Hid (w2.ownsRow w.heap.size 79 4 v' (K (k + 1)).length (dcl (K (k + 1)))) := hide (by
            rw [HT.out, dcl_app, List.length_append, hn0, hcs]; exact hown')
          clear hown' hgrow HO HB
          go_wp2_with fail
          go_roundw
          case rel => exact ⟨k + 1, HLT.out, congrArg (Value.int .i64) wk, HO2, HB2⟩
          case measure => first | exact meas_up HLT.out | (rw [wk]; exact meas_up HLT.out)
        | false =>
          have HT := hide (HN.out k p HP.out (by have : (k : Int) = (kk : Int) := by simpa using hE
                                                 omega))
          have HO2 := HO
          rw [← HT.out] at HO2
          clear H63 c0 c1 c2 c3
          go_wp2_with fail
          go_roundw
          case rel => exact ⟨k + 1, HLT.out, congrArg (Value.int .i64) wk, HO2, HB⟩
          case measure => first | exact meas_up HLT.out | (rw [wk]; exact meas_up HLT.out)
      · have e : k = E.length := by omega
        subst e
        have HOF := HO
        rw [HALL.out] at HOF
        obtain ⟨la, lc, hlv⟩ := OD.sl HOF.out
        subst hlv
        have HT := hide (HD.out.other HB.out HOF.out (fun e he => List.mem_of_mem_eraseIdx he))
        have hfz := clr_row HDr.out.hd 1
        clear HDr
        go_wp2_with fail
        go_ret
        exact .inr ⟨kk, q, _, HQP.out, HID.out, rfl, HT.out⟩
end Go.Proofs.YtknnojjfdfkdmaaGreatDoor
