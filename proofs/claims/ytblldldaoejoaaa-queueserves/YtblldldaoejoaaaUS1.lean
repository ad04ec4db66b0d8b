/-
  My own text: layer 19: QueueServes: turn, has.
-/
import Derived.Test.YtblldldaoejoaaaU9
import Derived.Test.YtblldldaoejoaaaGKS
import Derived.Maps.AppendAt
namespace Go.Proofs.Ytblldldaoejoaaa
open Go.RowKit Go.Extern Go.MapKept Go.ChangeMaps

/-- A list from its end to its beginning, and its first once more. -/
def trn (L : List Ky) : List Ky := L.reverse ++ L.take 1
theorem mem_trn {L : List Ky} {k : Ky} : k ∈ trn L ↔ k ∈ L := by
  unfold trn
  rw [List.mem_append, List.mem_reverse]
  exact ⟨fun h => h.elim id (fun h => List.mem_of_mem_take h), .inl⟩
theorem trn_len (L : List Ky) : (trn L).length ≤ L.length + 1 := by unfold trn; simp; omega
theorem drop_rev {L : List Ky} {k : Nat} {p : Ky} (h : L[k]? = some p) : KY.mc (L.drop k).reverse = KY.mc (L.drop (k + 1)).reverse ++ [.int .i64 p.1, .int .i64 p.2] := by
  have hlt := (List.getElem?_eq_some_iff.1 h).1
  have e1 : L.drop k = p :: L.drop (k + 1) := by rw [List.drop_eq_getElem_cons hlt, (List.getElem?_eq_some_iff.1 h).2]
  rw [e1, List.reverse_cons, KY.mc_app]; rfl
theorem meas_dn {k : Nat} : (intOf (.int .i64 ((k : Int) - 1)) + 1).toNat < (intOf (.int .i64 (k : Int)) + 1).toNat := by simp [intOf]
theorem dn_nums (k m : Nat) (h : k < m) (hm : m ≤ 8796093021999) : decide ((k : Int) ≥ 0) = true ∧ decide ((0 : Int) ≤ (k : Int)) = true ∧ (0 : Int) ≤ (k : Int) ∧ (k : Int) < (m : Int) ∧ wrap64 ((k : Int) - 1) = (k : Int) - 1 :=
  ⟨decide_eq_true (by omega), decide_eq_true (by omega), by omega, by omega, by unfold wrap64; omega⟩
theorem wr_sub (m : Nat) (hm : m ≤ 8796093021999) : wrap64 ((m : Int) - 1) = (m : Int) - 1 := by unfold wrap64; omega
set_option maxRecDepth 100000 in
set_option maxHeartbeats 2000000 in
theorem turn_any (v : Value) (L : List Ky) (w : World) (hv : KY.RM w v L) (hl : L.length ≤ 8796093021999) :
    Calls Try.prog 18 #[v] w fun e w' => ∃ v', e = .returned v' ∧ KY.OM w' w.heap.size v' (trn L) ∧ Below w.heap.size w w' := by
  obtain ⟨a, cap, rfl, _, hr⟩ := hv
  obtain ⟨i0, hi, hz0, hz1, hz2⟩ := info_parts KY.Try.infoMk
  have ws := wr_sub _ hl
  have HL := hide hl
  have HR := hide hr
  clear hl hr
  go_enter Try.func18, Try.ntmps18
  go_wp2_with fail
  have WS := hide ws
  clear ws
  go_loopw [3, 4] (fun o i wr => ∃ (k : Nat) (z : Int), k ≤ L.length ∧ Hid (z = (k : Int) - 1) ∧ i = .int .i64 z ∧ Hid (wr.ownsRow w.heap.size 58 2 o (L.length - k) (KY.mc (L.drop k).reverse)) ∧ Hid (Below w.heap.size w wr)) (fun _ i _ => (intOf i + 1).toNat)
  case atStart => exact ⟨L.length, _, Nat.le_refl _, hide rfl, congrArg (Value.int .i64) WS.out, hide (by rw [List.drop_length, Nat.sub_self]; exact World.ownsRow_nil w w.heap.size 58 2), hide (Below.refl _ _)⟩
  case round =>
    obtain ⟨k, z, hk, HZ, rfl, HO, HB⟩ := hrel
    cases k with
    | succ k =>
      obtain rfl : z = (k : Int) := by have := HZ.out; omega
      obtain ⟨⟨q0, q1⟩, hx⟩ : ∃ p, L[k]? = some p := ⟨_, List.getElem?_eq_getElem (by omega)⟩
      have hr := HR.out
      rcases hr with h0 | ⟨b, off, rfl, hbl, hc⟩
      · rw [h0] at hk; simp at hk
      have hB := HB.out
      have c0 : wr.cell? ⟨b, off + k * 2, none⟩ = some (.int .i64 q0) := (hB.cell (p := ⟨b, _, none⟩) hbl).trans (hc k _ hx).1
      have c1 : wr.cell? ⟨b, off + k * 2 + 1, none⟩ = some (.int .i64 q1) := (hB.cell (p := ⟨b, _, none⟩) hbl).trans (hc k _ hx).2
      have c0' : wr.cell? ⟨b, off + (k * 2), none⟩ = some (.int .i64 q0) := c0
      have c1' : wr.cell? ⟨b, off + (k * 2 + 1), none⟩ = some (.int .i64 q1) := c1
      obtain ⟨n1, n2, n3, n4, n5⟩ := dn_nums k L.length (by omega) HL.out
      have HT := hide (drop_rev hx)
      have HK := hide hk
      have HN : Hid (L.length - (k + 1) + 1 ≤ 8796093022000) := hide (by have := HL.out; omega)
      have HSZ := hide hB.size
      clear hc hx hB hk HZ hbl
      go_wp2_with (first
        | (at_builtin; refine wpList_append_own_wide _ rfl _ _ 27 rfl w.heap.size 58 i0 (.agg #[.int .i64 0, .int .i64 0]) 2 16 Try.underlying27 hi hz0 hz1 hz2 rfl (by decide) _ _ _ rfl (HO.out.alloc _) ⟨_, 0, none⟩ 1 1 [.int .i64 q0, .int .i64 q1] rfl rfl ?c1 ?c2 ?c3 ?c4 ?c5 ?_)
        | go_in)
      case c2 => exact ⟨rfl, rfl⟩
      case c3 => have := HN.out; unfold maxLen; omega
      case c4 => have := HN.out; omega
      case c5 => have := HSZ.out; simp; omega
      intro v' w1 hown' hgrow _
      have HB1 : Hid (Below w.heap.size w w1) := hide ((HB.out.alloc HSZ.out _).grown hgrow (by have := HSZ.out; simp; omega) (fun k hk => (HO.out.lt k hk).1))
      have HO1 : Hid (w1.ownsRow w.heap.size 58 2 v' (L.length - k) (KY.mc (L.drop k).reverse)) := hide (by
        rw [HT.out, show L.length - k = L.length - (k + 1) + 1 from by have := HK.out; omega]; exact hown')
      have HKL : Hid (k ≤ L.length) := hide (by have := HK.out; omega)
      clear hown' hgrow HO HB HSZ HT HN HK c0 c1 c0' c1'
      go_wp2_with fail
      go_roundw
      case rel => exact ⟨k, _, HKL.out, hide rfl, congrArg (Value.int .i64) n5, HO1, HB1⟩
      case measure => first | exact meas_dn | (rw [n5]; exact meas_dn)
    | zero =>
      obtain rfl : z = -1 := by have := HZ.out; omega
      by_cases hz : L.length = 0
      · have hd0 : decide ((L.length : Int) > 0) = false := decide_eq_false (by omega)
        have hd1 : decide ((0 : Int) < (L.length : Int)) = false := decide_eq_false (by omega)
        have hL : Hid (L = []) := hide (List.length_eq_zero_iff.1 hz)
        have hzz : ¬ 0 < L.length := by omega
        clear hz HZ hk
        go_wp2_with fail
        go_ret
        refine ⟨_, rfl, ?_, HB.out⟩
        have := HO.out
        unfold KY.OM trn
        rw [hL.out] at this ⊢
        exact this
      · obtain ⟨⟨q0, q1⟩, hx⟩ : ∃ p, L[0]? = some p := ⟨_, List.getElem?_eq_getElem (by omega)⟩
        have hr := HR.out
        rcases hr with h0 | ⟨b, off, rfl, hbl, hc⟩
        · rw [h0] at hz; simp at hz
        have hB := HB.out
        have c0 : wr.cell? ⟨b, off, none⟩ = some (.int .i64 q0) := by have := (hB.cell (p := ⟨b, _, none⟩) hbl).trans (hc 0 _ hx).1; simpa using this
        have c1 : wr.cell? ⟨b, off + 1, none⟩ = some (.int .i64 q1) := by have := (hB.cell (p := ⟨b, _, none⟩) hbl).trans (hc 0 _ hx).2; simpa using this
        have hd0 : decide ((L.length : Int) > 0) = true := decide_eq_true (by omega)
        have hd1 : decide ((0 : Int) < (L.length : Int)) = true := decide_eq_true (by omega)
        have hzz : 0 < L.length := by omega
        have hzi : (0 : Int) < (L.length : Int) := by omega
        have HX := hide hx
        have HSZ := hide hB.size
        have HO1' := HO.out
        rw [List.drop_zero, Nat.sub_zero] at HO1'
        have HO2 := hide HO1'
        clear HO1'
        clear hc hx hB hk HZ hbl hz HO
        go_wp2_with (first
          | (at_builtin; refine wpList_append_own_wide _ rfl _ _ 27 rfl w.heap.size 58 i0 (.agg #[.int .i64 0, .int .i64 0]) 2 16 Try.underlying27 hi hz0 hz1 hz2 rfl (by decide) _ _ _ rfl (HO2.out.alloc _) ⟨_, 0, none⟩ 1 1 [.int .i64 q0, .int .i64 q1] rfl rfl ?d1 ?d2 ?d3 ?d4 ?d5 ?_)
          | go_in)
        case d1 => exact fun j u hj => by rw [Addr.add_lit, cell_of_row _ _ _ _ _ _ (alloc_new wr _), Nat.zero_add]; simpa using hj
        case d2 => first | exact ⟨rfl, rfl⟩ | (intro u hu; simp at hu; rcases hu with rfl | rfl <;> rfl)
        case d3 => have := HL.out; unfold maxLen; omega
        case d4 => have := HL.out; omega
        case d5 => have := HSZ.out; simp; omega
        intro v' w1 hown' hgrow _
        have HB1 : Hid (Below w.heap.size w w1) := hide ((HB.out.alloc HSZ.out _).grown hgrow (by have := HSZ.out; simp; omega) (fun k hk => (HO2.out.lt k hk).1))
        have HO1 : Hid (KY.OM w1 w.heap.size v' (trn L)) := hide (by
          have e : L.take 1 = [(q0, q1)] := by rw [List.take_add_one, HX.out]; rfl
          unfold KY.OM trn
          rw [e, List.length_append, List.length_reverse, KY.mc_app]; exact hown')
        clear hown' hgrow HO2 HB HSZ c0 c1
        go_wp2_with fail
        go_ret
        exact ⟨_, rfl, HO1.out, HB1.out⟩
theorem ixU {n m : Nat} (h : n < m) (hm : m ≤ 8796093022000) : decide ((n : Int) < (m : Int)) = true ∧ (0 : Int) ≤ (n : Int) ∧ (n : Int) < (m : Int) ∧ wrap64 ((n : Int) + 1) = (n : Int) + 1 :=
  ⟨decide_eq_true (by omega), by omega, by omega, by unfold wrap64; omega⟩
theorem meas_upU {k n : Nat} (h : k < n) : n - (intOf (.int .i64 ((k : Int) + 1))).toNat < n - (intOf (.int .i64 (k : Int))).toNat := by simp [intOf]; omega
theorem OI.cel {w : World} {B : Nat} {v : Value} {L : List Int} (h : OI w B v L) : (v = .slice none 0 0 ∧ L = []) ∨ ∃ g cap, v = .slice (some ⟨g, 0, none⟩) L.length cap ∧ g < w.heap.size ∧ ∀ j x, L[j]? = some x → w.cell? ⟨g, j, none⟩ = some (.int .i64 x) := by
  have h' := h
  rcases h.2 with ⟨rfl, h0⟩ | ⟨g, cap, cur, rfl, hb, hh, hn, h3⟩
  · exact .inl ⟨rfl, List.eq_nil_of_length_eq_zero h0⟩
  · refine .inr ⟨g, cap, rfl, (Array.getElem?_eq_some_iff.1 hh).1, fun j x hj => ?_⟩
    have hjl := (List.getElem?_eq_some_iff.1 hj).1
    refine (h'.cellAt j (by omega)).trans ?_
    unfold ic; rw [List.getElem?_map, hj]; rfl
set_option maxRecDepth 100000 in
set_option maxHeartbeats 1000000 in
theorem has_any (v : Value) (B : Nat) (L : List Int) (id : Int) (w : World) (h : OI w B v L) (hl : L.length ≤ 8796093022000) (r : Bool) (hr : r = decide (id ∈ L)) :
    Calls Try.prog 20 #[v, .int .i64 id] w fun e w' => e = .returned (.bool r) ∧ w' = w := by
  have HS := hide h.cel
  obtain ⟨a, c, rfl⟩ := h.slc
  have HL := hide hl
  have HR := hide hr
  clear h hl hr
  go_enter Try.func20, Try.ntmps20
  go_wp2_with fail
  go_loopw [5] (fun i wr => ∃ k : Nat, k ≤ L.length ∧ i = .int .i64 (k : Int) ∧ Hid (∀ i q, i < k → L[i]? = some q → q ≠ id) ∧ wr = w) (fun i _ => L.length - (intOf i).toNat)
  case atStart => exact ⟨0, Nat.zero_le _, rfl, hide (fun i q hi => by omega), rfl⟩
  case round =>
    obtain ⟨k, hk, rfl, HN, rfl⟩ := hrel
    by_cases hlt : k < L.length
    · obtain ⟨p, hp⟩ : ∃ p, L[k]? = some p := ⟨_, List.getElem?_eq_getElem hlt⟩
      rcases HS.out with ⟨_, h0⟩ | ⟨g, cap, hv, _, hc⟩
      · rw [h0] at hlt; simp at hlt
      injection hv with hv1 hv2 hv3
      clear hv2 hv3
      have c0 := hc k p hp
      subst hv1
      obtain ⟨hd1, i0, i1, wk⟩ := ixU hlt HL.out
      have HP := hide hp
      clear hc hp
      cases hE : (p == id) with
      | true =>
        have HF : Hid (r = true) := hide (by
          rw [HR.out]; have e : p = id := by simpa using hE
          exact decide_eq_true (by rw [← e]; exact List.mem_of_getElem? HP.out))
        go_wp2_with fail
        go_ret
        exact ⟨by rw [HF.out]; rfl, rfl⟩
      | false =>
        have HN2 : Hid (∀ i q, i < k + 1 → L[i]? = some q → q ≠ id) := hide (fun i q hi hq => by
          by_cases e : i = k
          · subst e
            rw [HP.out] at hq
            obtain rfl := Option.some.inj hq
            simpa using hE
          · exact HN.out i q (by omega) hq)
        go_wp2_with fail
        go_roundw
        case rel => exact ⟨k + 1, hlt, congrArg (Value.int .i64) wk, HN2, trivial⟩
        case measure => first | exact meas_upU hlt | (rw [wk]; exact meas_upU hlt)
    · have e : k = L.length := by omega
      subst e
      have HF : Hid (r = false) := hide (by
        rw [HR.out]
        refine decide_eq_false (fun hp => ?_)
        obtain ⟨i, hi⟩ := List.getElem?_of_mem hp
        exact HN.out i id (List.getElem?_eq_some_iff.1 hi).1 hi rfl)
      go_wp2_with fail
      go_ret
      exact ⟨by rw [HF.out]; rfl, rfl⟩
end Go.Proofs.Ytblldldaoejoaaa
