/-
  My own text: layer 19: the law's own list: without, holds.
-/
import Derived.Test.YtblldldaoejoaaaU16
namespace Go.Proofs.Ytblldldaoejoaaa
open Go.RowKit Go.Extern Go.MapKept Go.ChangeMaps

/-- The first n without a place. -/
def woK (L : List Kn) (k : Int) (n : Nat) : List Kn := if 0 ≤ k ∧ k < (n : Int) then (L.take n).eraseIdx k.toNat else L.take n
theorem woK_keep {L : List Kn} {k : Int} {n : Nat} {p : Kn} (h : L[n]? = some p) (hk : ¬ (n : Int) = k) : woK L k (n + 1) = woK L k n ++ [p] := by
  have hlt := (List.getElem?_eq_some_iff.1 h).1
  have e : L.take (n + 1) = L.take n ++ [p] := by rw [List.take_add_one, h]; rfl
  unfold woK
  by_cases h1 : 0 ≤ k ∧ k < (n : Int)
  · rw [if_pos h1, if_pos ⟨h1.1, by omega⟩, e, List.eraseIdx_append_of_lt_length (by rw [List.length_take]; omega)]
  · rw [if_neg h1, if_neg (by omega), e]
theorem woK_skip {L : List Kn} {k : Int} {n : Nat} {p : Kn} (h : L[n]? = some p) (hk : (n : Int) = k) : woK L k (n + 1) = woK L k n := by
  have hlt := (List.getElem?_eq_some_iff.1 h).1
  have e : L.take (n + 1) = L.take n ++ [p] := by rw [List.take_add_one, h]; rfl
  unfold woK
  rw [if_pos (by omega), if_neg (by omega), e]
  have hn : k.toNat = (L.take n).length := by rw [List.length_take]; omega
  rw [hn, List.eraseIdx_append_of_length_le (Nat.le_refl _), Nat.sub_self]
  simp
theorem woK_le (L : List Kn) (k : Int) (n : Nat) : (woK L k n).length ≤ n := by
  unfold woK; split
  · exact Nat.le_trans (List.length_eraseIdx_le _ _) (by rw [List.length_take]; omega)
  · rw [List.length_take]; omega
set_option maxRecDepth 100000 in
set_option maxHeartbeats 2000000 in
theorem withoutL_any (v : Value) (B : Nat) (L : List Kn) (kk : Int) (w : World) (h : ON w B v L) (hl : L.length ≤ 3000000000000) :
    Calls Try.prog 16 #[v, .int .i64 kk] w fun r w' => ∃ v', r = .returned v' ∧ ON w' w.heap.size v' (woK L kk L.length) ∧ Below w.heap.size w w' := by
  obtain ⟨i0, hi, hz0, hz1, hz2⟩ := info_parts Try.infoKn
  have HS := hide h.slc
  obtain ⟨a, c, rfl⟩ : ∃ a c, v = .slice a L.length c := by
    rcases h.slc with ⟨rfl, rfl⟩ | ⟨g, cap, rfl, _⟩
    · exact ⟨_, _, rfl⟩
    · exact ⟨_, _, rfl⟩
  have HL := hide hl
  obtain ⟨K, hK⟩ : ∃ K, K = woK L kk := ⟨_, rfl⟩
  have HY : Hid (∀ (n : Nat) (p : Kn), L[n]? = some p → ¬ (n : Int) = kk → K (n + 1) = K n ++ [p]) := hide (fun n p h1 h2 => by rw [hK]; exact woK_keep h1 h2)
  have HN : Hid (∀ (n : Nat) (p : Kn), L[n]? = some p → (n : Int) = kk → K (n + 1) = K n) := hide (fun n p h1 h2 => by rw [hK]; exact woK_skip h1 h2)
  have H0 : Hid (K 0 = []) := hide (by rw [hK]; unfold woK; rw [if_neg (by omega)]; rfl)
  have HLE : Hid (∀ n, (K n).length ≤ n) := hide (fun n => by rw [hK]; exact woK_le L kk n)
  rw [← hK]
  clear h hl hK
  go_enter Try.func16, Try.ntmps16
  go_wp2_with fail
  go_loopw [5, 6] (fun o i wr => ∃ k : Nat, k ≤ L.length ∧ i = .int .i64 (k : Int) ∧ Hid (wr.ownsRow w.heap.size 37 4 o (K k).length (nc (K k))) ∧ Hid (Below w.heap.size w wr)) (fun _ i _ => L.length - (intOf i).toNat)
  case atStart => exact ⟨0, Nat.zero_le _, rfl, hide (by rw [H0.out]; exact World.ownsRow_nil w w.heap.size 37 4), hide (Below.refl _ _)⟩
  case round =>
    obtain ⟨k, hk, rfl, HO, HB⟩ := hrel
    by_cases hlt : k < L.length
    · obtain ⟨p, hp⟩ : ∃ p, L[k]? = some p := ⟨_, List.getElem?_eq_getElem hlt⟩
      rcases HS.out with ⟨_, h0⟩ | ⟨g, cap, hv, _, hgl, _, hc⟩
      · rw [h0] at hlt; simp at hlt
      injection hv with hv1 hv2 hv3
      clear hv2 hv3
      have hb := fun o : Nat => HB.out.cell (p := ⟨g, o, none⟩) hgl
      obtain ⟨e0, e1, e2, e3⟩ := hc k p hp
      have c0 := (hb _).trans e0
      have c1 := (hb _).trans e1
      have c2 := (hb _).trans e2
      have c3 := (hb _).trans e3
      unfold Kn.kv at c1
      subst hv1
      obtain ⟨hd1, i0', i1, wk⟩ := ix hlt (by have := HL.out; omega)
      have HP := hide hp
      have H63 : Hid ((K k).length + 1 ≤ 3000000000001) := hide (by have := HLE.out k; have := HL.out; omega)
      clear hc hp hgl hb e0 e1 e2 e3
      cases hE : ((k : Int) != kk) with
      | true =>
        have HT := hide (HY.out k p HP.out (by simpa using hE))
        obtain ⟨n0, hn0⟩ : ∃ n0, (K k).length = n0 := ⟨_, rfl⟩
        rw [hn0] at HO H63
        obtain ⟨cs, hcs⟩ : ∃ cs, nc (K k) = cs := ⟨_, rfl⟩
        rw [hcs] at HO
        go_wp2_with (first
          | (at_builtin; refine wpList_append_own_wide _ rfl _ _ 26 rfl w.heap.size 37 i0 (.agg #[.int .i64 0, .slice none 0 0, .bool false, .bool false]) 4 40 Try.underlying26 hi hz0 hz1 hz2 rfl (by decide) _ _ _ rfl (HO.out.alloc _) ⟨_, 0, none⟩ 1 1 [.int .i64 p.id, .slice p.ka p.ks.length p.kc, .bool p.d, .bool p.o] rfl rfl ?c1 ?c2 ?c3 ?c4 ?c5 ?_))
        case c3 => have := H63.out; unfold maxLen; omega
        case c4 => have := H63.out; omega
        case c5 => have := HB.out.size; simp; omega
        case c1 => exact fun j u hj => by rw [Addr.add_lit, cell_of_row _ _ _ _ _ _ (alloc_new wr _), Nat.zero_add]; simpa using hj
        case c2 => first | exact ⟨rfl, rfl, rfl, rfl⟩ | (intro u hu; simp at hu; rcases hu with rfl | rfl | rfl | rfl <;> rfl)
        intro v' w2 hown' hgrow _
        have hB1 : Below w.heap.size w w2 := (HB.out.alloc HB.out.size _).grown hgrow (by have := HB.out.size; simp; omega) (fun k hk => (HO.out.lt k hk).1)
        have HO2 : Hid (w2.ownsRow w.heap.size 37 4 v' (K (k + 1)).length (nc (K (k + 1)))) := hide (by
          rw [HT.out, nc_app, List.length_append, hn0, hcs]; exact hown')
        have HB2 := hide hB1
        clear hown' hgrow hB1 HO HB
        go_wp2_with fail
        go_roundw
        case rel => exact ⟨k + 1, hlt, congrArg (Value.int .i64) wk, HO2, HB2⟩
        case measure => first | exact meas_up hlt | (rw [wk]; exact meas_up hlt)
      | false =>
        have HT := hide (HN.out k p HP.out (by simpa using hE))
        have HO2 := HO
        rw [← HT.out] at HO2
        go_wp2_with fail
        go_roundw
        case rel => exact ⟨k + 1, hlt, congrArg (Value.int .i64) wk, HO2, HB⟩
        case measure => first | exact meas_up hlt | (rw [wk]; exact meas_up hlt)
    · have e : k = L.length := by omega
      subst e
      go_wp2_with fail
      go_ret
      exact ⟨_, rfl, HO.out, HB.out⟩
theorem OI.get {w : World} {B : Nat} {v : Value} {L : List Int} (h : OI w B v L) : (v = .slice none 0 0 ∧ L = []) ∨ ∃ g cap, v = .slice (some ⟨g, 0, none⟩) L.length cap ∧ g < w.heap.size ∧ ∀ j x, L[j]? = some x → w.cell? ⟨g, j, none⟩ = some (.int .i64 x) := by
  have h' := h
  rcases h.2 with ⟨rfl, h0⟩ | ⟨g, cap, cur, rfl, hb, hh, hn, h3⟩
  · exact .inl ⟨rfl, List.eq_nil_of_length_eq_zero h0⟩
  · refine .inr ⟨g, cap, rfl, (Array.getElem?_eq_some_iff.1 hh).1, fun j x hj => ?_⟩
    have hjl := (List.getElem?_eq_some_iff.1 hj).1
    refine (h'.cellAt j (by omega)).trans ?_
    unfold ic; rw [List.getElem?_map, hj]; rfl
/-- Which are neither touched nor out. -/
def kid (p : Kn) : Bool := !p.d && !p.o
theorem cnt_at (A D : List Kn) {p : Kn} (hp : kid p = true) : (((A ++ p :: D).filter kid).map (·.id))[(A.filter kid).length]? = some p.id := by
  rw [List.filter_append, List.filter_cons_of_pos hp, List.map_append, List.getElem?_append_right (by simp)]
  simp
theorem cnt_yes {L : List Kn} {k : Nat} {p : Kn} (h : L[k]? = some p) (hp : kid p = true) : ((L.take (k + 1)).filter kid).length = ((L.take k).filter kid).length + 1 ∧ ((L.filter kid).map (·.id))[((L.take k).filter kid).length]? = some p.id := by
  have e : L.take (k + 1) = L.take k ++ [p] := by rw [List.take_add_one, h]; rfl
  have hlt := (List.getElem?_eq_some_iff.1 h).1
  refine ⟨by rw [e, List.filter_append, List.length_append]; simp [hp], ?_⟩
  have e2 : L = L.take k ++ p :: L.drop (k + 1) := by
    conv => lhs; rw [← List.take_append_drop k L]
    rw [List.drop_eq_getElem_cons hlt, (List.getElem?_eq_some_iff.1 h).2]
  have := cnt_at (L.take k) (L.drop (k + 1)) hp
  rw [← e2] at this
  exact this
theorem cnt_no {L : List Kn} {k : Nat} {p : Kn} (h : L[k]? = some p) (hp : kid p = false) : ((L.take (k + 1)).filter kid).length = ((L.take k).filter kid).length := by
  have e : L.take (k + 1) = L.take k ++ [p] := by rw [List.take_add_one, h]; rfl
  rw [e, List.filter_append, List.length_append]; simp [hp]
theorem cnt_le (L : List Kn) (k : Nat) : ((L.take k).filter kid).length ≤ (L.filter kid).length := by
  conv => rhs; rw [← List.take_append_drop k L]
  rw [List.filter_append, List.length_append]; omega
end Go.Proofs.Ytblldldaoejoaaa
