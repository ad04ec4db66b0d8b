/-
  My own text: Ls, C2 in one.
-/
import Derived.Test.YtbaideeiljeamaaGreatDoorErr
import Derived.Deep.AppendLies
import Derived.Deep.OwnRows
import Derived.Test.YtbaideeiljeamaaGreatDoorC1
namespace Go.Proofs.YtbaideeiljeamaaGreatDoor
open Go.RowKit Go.Extern

/-- A slice value that reads as a list of numbers of a kind. -/
def RI (w : World) (K : IntKind) (v : Value) (l : List Int) : Prop :=
  ∃ a cap, v = .slice a l.length cap ∧ (l = [] ∨ ∃ b off, a = some ⟨b, off, none⟩ ∧ b < w.heap.size ∧ ∀ j x, l[j]? = some x → w.cell? ⟨b, off + j, none⟩ = some (.int K x))
theorem RI.later {w w1 : World} {K : IntKind} {v : Value} {l : List Int} (h : RI w K v l) (hb : Below w.heap.size w w1) : RI w1 K v l := by
  obtain ⟨a, cap, rfl, h | ⟨b, off, rfl, hlt, hc⟩⟩ := h
  · exact ⟨a, cap, rfl, .inl h⟩
  · exact ⟨_, cap, rfl, .inr ⟨b, off, rfl, Nat.lt_of_lt_of_le hlt hb.size, fun j x hx => (hb.cell (p := ⟨b, off + j, none⟩) hlt).trans (hc j x hx)⟩⟩
theorem some_at {l : List Int} {k : Nat} (h : k < l.length) : ∃ x, l[k]? = some x := ⟨l[k], List.getElem?_eq_getElem h⟩
/-- A list of numbers of a kind, as cells. -/
def lv (K : IntKind) (l : List Int) : List Value := l.map (Value.int K)
theorem lv_nil (K : IntKind) : lv K [] = [] := rfl
theorem lv_len (K : IntKind) (l : List Int) : (lv K l).length = l.length := by simp [lv]
theorem lv_app (K : IntKind) (l m : List Int) : lv K (l ++ m) = lv K l ++ lv K m := by simp [lv]
theorem info_parts {P : Program} {t : TypeId} {z : Value} {s b : Nat} (h : (P.info? t).map (fun i => (i.zero, i.size, i.bytes)) = some (some z, s, b)) : ∃ i, P.info? t = some i ∧ i.zero = some z ∧ i.size = s ∧ i.bytes = b := by
  obtain ⟨i, hi, hz⟩ := Option.map_eq_some_iff.1 h
  simp only [Prod.mk.injEq] at hz
  exact ⟨i, hi, hz.1, hz.2.1, hz.2.2⟩
theorem ri_of_owns {w : World} {B n : Nat} {e : TypeId} {v : Value} {l : List Int} (h : w.ownsRow B e 1 v n (lv .i64 l)) : RI w .i64 v l := by
  have hn : l.length = n := by have := h.1; rw [lv_len] at this; omega
  rcases h.2 with ⟨rfl, h0⟩ | ⟨g, cap, cur, rfl, hb, hh, hn2, _⟩
  · have : l = [] := List.length_eq_zero_iff.1 (by omega)
    subst this
    exact ⟨none, 0, rfl, .inl rfl⟩
  · refine ⟨_, cap, by rw [hn], .inr ⟨g, 0, rfl, ?_, fun j x hx => ?_⟩⟩
    · by_cases hc : g < w.heap.size
      · exact hc
      · rw [Array.getElem?_eq_none (by omega)] at hh; cases hh
    · have hj : j < n := by rw [← hn]; exact (List.getElem?_eq_some_iff.1 hx).1
      rw [Nat.zero_add, World.ownsRow.cellAt h j (by omega)]
      unfold lv; rw [List.getElem?_map, hx]; rfl
theorem own_later {w w' : World} {B n : Nat} {e : TypeId} {v : Value} {xs : List Value} (h : w.ownsRow B e 1 v n xs) (hb : Below w.heap.size w w') : w'.ownsRow B e 1 v n xs := by
  refine ⟨h.1, ?_⟩
  rcases h.2 with h2 | ⟨g, cap, cur, hv, hg, hh, h3⟩
  · exact .inl h2
  · have hlt : g < w.heap.size := by
      by_cases hc : g < w.heap.size
      · exact hc
      · rw [Array.getElem?_eq_none (by omega)] at hh; cases hh
    exact .inr ⟨g, cap, cur, hv, hg, (hb.block g hlt).trans hh, h3⟩
end Go.Proofs.YtbaideeiljeamaaGreatDoor
namespace Go.Proofs.YtbaideeiljeamaaGreatDoor.LC
open Go.RowKit

theorem Tryz.infoInt : (Tryz.prog.info? 3).map (fun i => (i.zero, i.size, i.bytes)) = some (some (.int .i64 0), 1, 8) := by kernel_rfl
theorem ret_int {a b : Int} (h : a = b) : Ending.returned (.int .i64 a) = .returned (.int .i64 b) := by rw [h]
theorem spr_take {l : List UInt8} {k : Nat} (h : k < l.length) : spr (l.take (k + 1)) = spr (l.take k) ++ sprc (l.getD k 0) := by
  rw [List.take_add_one, List.getElem?_eq_getElem h, Option.toList_some, spr_app, getD_at h]
  simp [spr]
theorem sign_at {l : List UInt8} {k : Nat} (h : ∀ c ∈ l, Sign c) (hk : k < l.length) : Sign (l.getD k 0) := by
  rw [getD_at hk]; exact h _ (List.getElem_mem hk)
theorem sign_nat {c : UInt8} (h : Sign c) : (48 ≤ c.toNat ∧ c.toNat ≤ 57) ∨ (65 ≤ c.toNat ∧ c.toNat ≤ 90) := by
  rcases h with h | h
  · left; unfold isDg at h; simpa using h
  · right; unfold isCp at h; simpa using h

set_option maxRecDepth 100000 in
set_option maxHeartbeats 2000000 in
theorem spread_any (l : List UInt8) (w : World) (hs : ∀ c ∈ l, Sign c) (hl : l.length ≤ 1000) :
    Calls Tryz.prog 128 #[.string ⟨l.toArray⟩] w fun e w' => ∃ v', e = .returned v' ∧ w'.ownsRow w.heap.size 3 1 v' (spr l).length (lv .i64 (spr l)) ∧ Below w.heap.size w w' := by
  have HS := hide hs
  clear hs
  obtain ⟨i0, hi, hz0, hz1, hz2⟩ := info_parts Tryz.infoInt
  have hmk : ∀ W : World, (Instr.makeSlice 142 (.int .i64 0) (.int .i64 (2 * (l.length : Int) + 2))).run Tryz.prog W = .ok (.slice (some ⟨W.heap.size, 0, none⟩) 0 (2 * l.length + 2)) (W.alloc (.cells (madeCells #[.int .i64 0] (2 * l.length + 2)) 3)) := by
    intro W
    have h := run_make (P := Tryz.prog) W 142 3 i0 (.int .i64 0) Tryz.underlying142 hi hz0 .i64 .i64 0 (2 * (l.length : Int) + 2) (by omega) (by omega) (by rw [hz2]; omega) (by omega)
    rw [hz1, show (2 * (l.length : Int) + 2).toNat = 2 * l.length + 2 by omega, Nat.mul_one] at h
    exact h
  have hO0 := World.ownsRow_made (base := w.heap.size) (e := 3) (size := 1) w (madeCells #[.int .i64 0] (2 * l.length + 2)) (2 * l.length + 2) (Nat.le_refl _) (by unfold maxLen; omega) (by simp [madeCells])
  have hB0 : Below w.heap.size w (w.alloc (.cells (madeCells #[.int .i64 0] (2 * l.length + 2)) 3)) := (Below.refl _ _).alloc (Nat.le_refl _) _
  go_enter Tryz.func128, Tryz.ntmps128
  go_wp2
  go_loopw [3, 13] (fun o i wr => ∃ k : Nat, k ≤ l.length ∧ i = .int .i64 k ∧ wr.ownsRow w.heap.size 3 1 o (spr (l.take k)).length (lv .i64 (spr (l.take k))) ∧ (spr (l.take k)).length ≤ 2 * k ∧ Below w.heap.size w wr) (fun _ i _ => l.length - (intOf i).toNat)
  case atStart => exact ⟨0, Nat.zero_le _, rfl, hO0, by simp [spr], hB0⟩
  case round =>
    clear hO0 hB0 hmk
    obtain ⟨k, hk, rfl, hown, hlen, hB⟩ := hrel
    by_cases hlt : k < l.length
    · have hs1 : k < (⟨l.toArray⟩ : ByteArray).size := by rw [bytes_size]; exact hlt
      obtain ⟨c, hc, Hc⟩ : ∃ c, (⟨l.toArray⟩ : ByteArray)[k]'hs1 = c ∧ Hid (l.getD k 0 = c) := ⟨_, rfl, by rw [getD_at hlt]; exact hide rfl⟩
      have HT := hide (spr_take hlt)
      have HC := hide (sign_nat (sign_at HS.out hlt))
      rw [Hc.out] at HT HC
      cases hd : isDg c
      · have hx2 : 65 ≤ c.toNat ∧ c.toNat ≤ 90 := by
          rcases HC.out with h | h
          · have := isDg_yes rfl h.1 h.2; rw [hd] at this; cases this
          · exact h
        have HE := hide (sprc_c rfl (show ¬ (48 ≤ c.toNat ∧ c.toNat ≤ 57) by omega))
        rw [HE.out] at HT
        have HL : Hid ((spr (l.take (k + 1))).length = (spr (l.take k)).length + 2) := by show (spr (l.take (k + 1))).length = _; rw [HT.out]; simp
        obtain ⟨hx3, hx4⟩ := hx2
        have HD := hide hd
        clear hd
        go_wp2_with (first
          | (go_at_call 148; refine (isDigit_any c _).mono ?_; rintro e w' ⟨rfl, rfl⟩; rw [HD.out])
          | (at_builtin; refine wpList_append_own _ rfl _ _ 142 rfl w.heap.size 3 i0 (.int .i64 0) 1 8 Tryz.underlying142 hi hz0 hz1 hz2 rfl (by decide) _ _ _ rfl (hown.alloc _) ⟨_, 0, none⟩ 2 2 [.int .i64 (((c.toNat : Int) - 55) / 10), .int .i64 (((c.toNat : Int) - 55) % 10)] rfl rfl ?c1 ?c2 ?c3 ?c4 ?c5 ?_)
          | go_in)
        case c1 =>
          intro j u hj
          match j, hj with
          | 0, hj => simp at hj; subst hj; simp [Addr.add]; omega
          | 1, hj => simp at hj; subst hj; simp [Addr.add]; omega
        case c2 => first | exact ⟨rfl, rfl⟩ | (intro u hu; simp at hu; rcases hu with rfl | rfl <;> rfl)
        case c3 => unfold maxLen; omega
        case c4 => omega
        case c5 => have := hB.size; simp; omega
        intro v' w1 hown' hgrow _
        have hB1 : Below w.heap.size w w1 := (hB.alloc hB.size _).grown hgrow (by have := hB.size; simp; omega) (fun k hk => (hown.lt k hk).1)
        clear hown hgrow
        go_wp2
        go_roundw
        case rel => exact ⟨k + 1, by omega, by go_num, by rw [HL.out, HT.out, lv_app]; exact hown', by rw [HL.out]; omega, hB1⟩
        case measure => simp [intOf]; omega
      · have hx2 : 48 ≤ c.toNat ∧ c.toNat ≤ 57 := by unfold isDg at hd; simpa using hd
        have HE := hide (sprc_d rfl hx2)
        rw [HE.out] at HT
        have HL : Hid ((spr (l.take (k + 1))).length = (spr (l.take k)).length + 1) := by show (spr (l.take (k + 1))).length = _; rw [HT.out]; simp
        obtain ⟨hx3, hx4⟩ := hx2
        have HD := hide hd
        clear hd
        go_wp2_with (first
          | (go_at_call 148; refine (isDigit_any c _).mono ?_; rintro e w' ⟨rfl, rfl⟩; rw [HD.out])
          | (at_builtin; refine wpList_append_own _ rfl _ _ 142 rfl w.heap.size 3 i0 (.int .i64 0) 1 8 Tryz.underlying142 hi hz0 hz1 hz2 rfl (by decide) _ _ _ rfl (hown.alloc _) ⟨_, 0, none⟩ 1 1 [.int .i64 ((c.toNat : Int) - 48)] rfl rfl ?c1 ?c2 ?c3 ?c4 ?c5 ?_)
          | go_in)
        case c1 =>
          intro j u hj
          match j, hj with
          | 0, hj => simp at hj; subst hj; simp [Addr.add]
        case c2 => first | exact rfl | (intro u hu; simp at hu; subst hu; rfl)
        case c3 => unfold maxLen; omega
        case c4 => omega
        case c5 => have := hB.size; simp; omega
        intro v' w1 hown' hgrow _
        have hB1 : Below w.heap.size w w1 := (hB.alloc hB.size _).grown hgrow (by have := hB.size; simp; omega) (fun k hk => (hown.lt k hk).1)
        clear hown hgrow
        go_wp2
        go_roundw
        case rel => exact ⟨k + 1, by omega, by go_num, by rw [HL.out, HT.out, lv_app]; exact hown', by rw [HL.out]; omega, hB1⟩
        case measure => simp [intOf]; omega
    · have hk' : k = l.length := by omega
      subst hk'
      rw [List.take_length] at hown
      go_wp2
      go_ret
      exact ⟨_, rfl, hown, hB⟩
set_option maxRecDepth 100000 in
set_option maxHeartbeats 1000000 in
theorem luhn_any (v : Value) (l : List Int) (w : World) (hv : RI w .i64 v l) (hd : ∀ d ∈ l, 0 ≤ d ∧ d ≤ 9) (hl : l.length ≤ 10000) :
    Calls Tryz.prog 127 #[v] w fun e w' => e = .returned (.int .i64 (lsum l)) ∧ w' = w := by
  obtain ⟨a, cap, rfl, hr⟩ := hv
  have HD := hide hd
  have HB := hide (lsum_b hd)
  clear hd
  go_enter Tryz.func127, Tryz.ntmps127
  go_wp2
  go_loop [3, 8] (fun s i => ∃ (k : Nat) (x : Int), k ≤ l.length ∧ i = .int .i64 k ∧ s = .int .i64 x ∧ Hid (x + lsum (l.drop k) = lsum l) ∧ 0 ≤ x ∧ x ≤ 9 * (k : Int)) (fun _ i => l.length - (intOf i).toNat)
  case atStart => exact ⟨0, 0, Nat.zero_le _, rfl, rfl, by simp [Hid], by omega, by omega⟩
  case round =>
    obtain ⟨k, s, hk, rfl, rfl, HS, s0, s1⟩ := hrel
    by_cases hlt : k < l.length
    · obtain ⟨x, hx⟩ := some_at hlt
      have bx := HD.out x (List.mem_of_getElem? hx)
      rcases hr with h0 | ⟨b, off, rfl, hbl, hc⟩
      · rw [h0] at hlt; simp at hlt
      have hcell := hc k x hx
      have HL := hide (lsum_drop hx)
      clear hc hx
      obtain ⟨x0, x1⟩ := bx
      by_cases hp : (l.length - k) % 2 = 0
      · rw [if_pos hp] at HL
        have hq : (((l.length : Int) - (k : Int)) % 2 == 0) = true := by simp; omega
        by_cases h9 : 9 < 2 * x
        · have HN : Hid (s + (2 * x - 9) + lsum (l.drop (k + 1)) = lsum l) := by have h1 := HL.out; have h2 := HS.out; unfold dbl at h1; rw [if_pos h9] at h1; show _ = _; omega
          go_wp2
          go_round
          case rel => exact ⟨k + 1, s + (2 * x - 9), by omega, by go_num, by go_num, HN, by omega, by omega⟩
          case measure => simp [intOf]; omega
        · have HN : Hid (s + 2 * x + lsum (l.drop (k + 1)) = lsum l) := by have h1 := HL.out; have h2 := HS.out; unfold dbl at h1; rw [if_neg h9] at h1; show _ = _; omega
          go_wp2
          go_round
          case rel => exact ⟨k + 1, s + 2 * x, by omega, by go_num, by go_num, HN, by omega, by omega⟩
          case measure => simp [intOf]; omega
      · rw [if_neg hp] at HL
        have hq : (((l.length : Int) - (k : Int)) % 2 == 0) = false := by simp; omega
        have HN : Hid (s + x + lsum (l.drop (k + 1)) = lsum l) := by have h1 := HL.out; have h2 := HS.out; show _ = _; omega
        go_wp2
        go_round
        case rel => exact ⟨k + 1, s + x, by omega, by go_num, by go_num, HN, by omega, by omega⟩
        case measure => simp [intOf]; omega
    · have H : Hid (s = lsum l) := by have h := HS.out; rw [List.drop_eq_nil_of_le (by omega)] at h; simp [lsum] at h; exact h
      go_wp2
      go_ret
      exact ⟨ret_int H.out, rfl⟩
set_option maxRecDepth 100000 in
set_option maxHeartbeats 2000000 in
theorem refSpread_any (l : List UInt8) (w : World) (hs : ∀ c ∈ l, Sign c) (hl : l.length ≤ 1000) :
    Calls Tryz.prog 105 #[.string ⟨l.toArray⟩] w fun e w' => ∃ v', e = .returned v' ∧ w'.ownsRow w.heap.size 3 1 v' (spr l).length (lv .i64 (spr l)) ∧ Below w.heap.size w w' := by
  have HS := hide hs
  clear hs
  obtain ⟨i0, hi, hz0, hz1, hz2⟩ := info_parts Tryz.infoInt
  go_enter Tryz.func105, Tryz.ntmps105
  go_wp2
  go_loopw [3, 4] (fun o i wr => ∃ k : Nat, k ≤ l.length ∧ i = .int .i64 k ∧ wr.ownsRow w.heap.size 3 1 o (spr (l.take k)).length (lv .i64 (spr (l.take k))) ∧ (spr (l.take k)).length ≤ 2 * k ∧ Below w.heap.size w wr) (fun _ i _ => l.length - (intOf i).toNat)
  case atStart => exact ⟨0, Nat.zero_le _, rfl, World.ownsRow_nil w w.heap.size 3 1, by simp [spr], Below.refl _ _⟩
  case round =>
    obtain ⟨k, hk, rfl, hown, hlen, hB⟩ := hrel
    by_cases hlt : k < l.length
    · have hs1 : k < (⟨l.toArray⟩ : ByteArray).size := by rw [bytes_size]; exact hlt
      obtain ⟨c, hc, Hc⟩ : ∃ c, (⟨l.toArray⟩ : ByteArray)[k]'hs1 = c ∧ Hid (l.getD k 0 = c) := ⟨_, rfl, by rw [getD_at hlt]; exact hide rfl⟩
      have HT := hide (spr_take hlt)
      have HC := hide (sign_nat (sign_at HS.out hlt))
      rw [Hc.out] at HT HC
      cases hd : isDg c
      · have hx2 : 65 ≤ c.toNat ∧ c.toNat ≤ 90 := by
          rcases HC.out with h | h
          · have := isDg_yes rfl h.1 h.2; rw [hd] at this; cases this
          · exact h
        have HE := hide (sprc_c rfl (show ¬ (48 ≤ c.toNat ∧ c.toNat ≤ 57) by omega))
        rw [HE.out] at HT
        have HL : Hid ((spr (l.take (k + 1))).length = (spr (l.take k)).length + 2) := by show (spr (l.take (k + 1))).length = _; rw [HT.out]; simp
        obtain ⟨hx3, hx4⟩ := hx2
        have HD := hide hd
        clear hd
        go_wp2_with (first
          | (go_at_call 106; refine (refIsDigit_any c _).mono ?_; rintro e w' ⟨rfl, rfl⟩; rw [HD.out])
          | (at_builtin; refine wpList_append_own _ rfl _ _ 142 rfl w.heap.size 3 i0 (.int .i64 0) 1 8 Tryz.underlying142 hi hz0 hz1 hz2 rfl (by decide) _ _ _ rfl (hown.alloc _) ⟨_, 0, none⟩ 2 2 [.int .i64 (((c.toNat : Int) - 55) / 10), .int .i64 (((c.toNat : Int) - 55) % 10)] rfl rfl ?c1 ?c2 ?c3 ?c4 ?c5 ?_)
          | go_in)
        case c1 =>
          intro j u hj
          match j, hj with
          | 0, hj => simp at hj; subst hj; simp [Addr.add]; omega
          | 1, hj => simp at hj; subst hj; simp [Addr.add]; omega
        case c2 => first | exact ⟨rfl, rfl⟩ | (intro u hu; simp at hu; rcases hu with rfl | rfl <;> rfl)
        case c3 => unfold maxLen; omega
        case c4 => omega
        case c5 => have := hB.size; simp; omega
        intro v' w1 hown' hgrow _
        have hB1 : Below w.heap.size w w1 := (hB.alloc hB.size _).grown hgrow (by have := hB.size; simp; omega) (fun k hk => (hown.lt k hk).1)
        clear hown hgrow
        go_wp2
        go_roundw
        case rel => exact ⟨k + 1, by omega, by go_num, by rw [HL.out, HT.out, lv_app]; exact hown', by rw [HL.out]; omega, hB1⟩
        case measure => simp [intOf]; omega
      · have hx2 : 48 ≤ c.toNat ∧ c.toNat ≤ 57 := by unfold isDg at hd; simpa using hd
        have HE := hide (sprc_d rfl hx2)
        rw [HE.out] at HT
        have HL : Hid ((spr (l.take (k + 1))).length = (spr (l.take k)).length + 1) := by show (spr (l.take (k + 1))).length = _; rw [HT.out]; simp
        obtain ⟨hx3, hx4⟩ := hx2
        have HD := hide hd
        clear hd
        go_wp2_with (first
          | (go_at_call 106; refine (refIsDigit_any c _).mono ?_; rintro e w' ⟨rfl, rfl⟩; rw [HD.out])
          | (at_builtin; refine wpList_append_own _ rfl _ _ 142 rfl w.heap.size 3 i0 (.int .i64 0) 1 8 Tryz.underlying142 hi hz0 hz1 hz2 rfl (by decide) _ _ _ rfl (hown.alloc _) ⟨_, 0, none⟩ 1 1 [.int .i64 ((c.toNat : Int) - 48)] rfl rfl ?c1 ?c2 ?c3 ?c4 ?c5 ?_)
          | go_in)
        case c1 =>
          intro j u hj
          match j, hj with
          | 0, hj => simp at hj; subst hj; simp [Addr.add]
        case c2 => first | exact rfl | (intro u hu; simp at hu; subst hu; rfl)
        case c3 => unfold maxLen; omega
        case c4 => omega
        case c5 => have := hB.size; simp; omega
        intro v' w1 hown' hgrow _
        have hB1 : Below w.heap.size w w1 := (hB.alloc hB.size _).grown hgrow (by have := hB.size; simp; omega) (fun k hk => (hown.lt k hk).1)
        clear hown hgrow
        go_wp2
        go_roundw
        case rel => exact ⟨k + 1, by omega, by go_num, by rw [HL.out, HT.out, lv_app]; exact hown', by rw [HL.out]; omega, hB1⟩
        case measure => simp [intOf]; omega
    · have hk' : k = l.length := by omega
      subst hk'
      rw [List.take_length] at hown
      go_wp2
      go_ret
      exact ⟨_, rfl, hown, hB⟩
set_option maxRecDepth 100000 in
set_option maxHeartbeats 1000000 in
theorem refLuhn_any (v : Value) (l : List Int) (w : World) (hv : RI w .i64 v l) (hd : ∀ d ∈ l, 0 ≤ d ∧ d ≤ 9) (hl : l.length ≤ 10000) :
    Calls Tryz.prog 104 #[v] w fun e w' => e = .returned (.int .i64 (lsum l)) ∧ w' = w := by
  obtain ⟨a, cap, rfl, hr⟩ := hv
  have HD := hide hd
  clear hd
  go_enter Tryz.func104, Tryz.ntmps104
  go_wp2
  go_loop [3, 4, 5] (fun s b i => ∃ (k : Nat) (x : Int), k ≤ l.length ∧ i = .int .i64 ((k : Int) - 1) ∧ s = .int .i64 x ∧ b = .bool (decide ((l.length - k) % 2 = 1)) ∧ Hid (x = lsum (l.drop k)) ∧ 0 ≤ x ∧ x ≤ 9 * ((l.length : Int) - (k : Int))) (fun _ _ i => (intOf i + 1).toNat)
  case atStart => exact ⟨l.length, 0, Nat.le_refl _, rfl, rfl, by simp, by simp [Hid, lsum], by omega, by omega⟩
  case round =>
    obtain ⟨k', s, hk, rfl, rfl, rfl, HS, s0, s1⟩ := hrel
    rcases Nat.eq_zero_or_pos k' with rfl | hpos
    · have H : Hid (s = lsum l) := by have h := HS.out; rw [List.drop_zero] at h; exact h
      go_wp2
      go_ret
      exact ⟨ret_int H.out, rfl⟩
    · obtain ⟨k, rfl⟩ : ∃ k, k' = k + 1 := ⟨k' - 1, by omega⟩
      have hlt : k < l.length := by omega
      obtain ⟨x, hx⟩ := some_at hlt
      have bx := HD.out x (List.mem_of_getElem? hx)
      rcases hr with h0 | ⟨b, off, rfl, hbl, hc⟩
      · rw [h0] at hlt; simp at hlt
      have hcell := hc k x hx
      have HL := hide (lsum_drop hx)
      rw [← HS.out] at HL
      clear hc hx hpos
      obtain ⟨x0, x1⟩ := bx
      have hkk : ((k + 1 : Nat) : Int) - 1 = (k : Int) := by omega
      rw [hkk]
      by_cases hp : (l.length - k) % 2 = 0
      · rw [if_pos hp] at HL
        have hq : decide ((l.length - (k + 1)) % 2 = 1) = true := by simp; omega
        have hq2 : Hid (decide ((l.length - k) % 2 = 1) = false) := by simp [Hid]; omega
        rw [hq]
        by_cases h9 : 9 < 2 * x
        · have HN : Hid (s + (2 * x - 9) = lsum (l.drop k)) := by have h1 := HL.out; unfold dbl at h1; rw [if_pos h9] at h1; show _ = _; omega
          clear hp hq
          go_wp2
          go_round
          case rel => exact ⟨k, s + (2 * x - 9), by omega, by go_num, by go_num, by rw [hq2.out], HN, by omega, by omega⟩
          case measure => simp [intOf]
        · have HN : Hid (s + 2 * x = lsum (l.drop k)) := by have h1 := HL.out; unfold dbl at h1; rw [if_neg h9] at h1; show _ = _; omega
          clear hp hq
          go_wp2
          go_round
          case rel => exact ⟨k, s + 2 * x, by omega, by go_num, by go_num, by rw [hq2.out], HN, by omega, by omega⟩
          case measure => simp [intOf]
      · rw [if_neg hp] at HL
        have hq : decide ((l.length - (k + 1)) % 2 = 1) = false := by simp; omega
        have hq2 : Hid (decide ((l.length - k) % 2 = 1) = true) := by simp [Hid]; omega
        rw [hq]
        have HN : Hid (s + x = lsum (l.drop k)) := by have h1 := HL.out; show _ = _; omega
        clear hp hq
        go_wp2
        go_round
        case rel => exact ⟨k, s + x, by omega, by go_num, by go_num, by rw [hq2.out], HN, by omega, by omega⟩
        case measure => simp [intOf]
end Go.Proofs.YtbaideeiljeamaaGreatDoor.LC
