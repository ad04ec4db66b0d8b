/-
  My own text: N6, N7 in one.
-/
import Derived.Test.YtdfhfjkcafchiaaDoorN5
import Derived.Deep.DeepAppendWide
import Derived.Laws.StructEq
namespace Go.Proofs.YtdfhfjkcafchiaaDoor
open Go.RowKit LC

def noticeE (n : Ntc) (ls : List Lnk) : Int := if termsE n ≠ 0 then termsE n else linksE n.ref ls
theorem noticeE_head {n : Ntc} {ls : List Lnk} (h : headE n ≠ 0) : noticeE n ls = headE n := by
  have e : termsE n = headE n := by rw [terms_parts, if_pos h]
  unfold noticeE; rw [e, if_pos h]
theorem noticeE_sides {n : Ntc} {ls : List Lnk} (h : headE n = 0) (h2 : sidesE n ≠ 0) : noticeE n ls = sidesE n := by
  have e : termsE n = sidesE n := by rw [terms_parts, if_neg (by simp [h]), if_pos h2]
  unfold noticeE; rw [e, if_pos h2]
theorem noticeE_pri {n : Ntc} {ls : List Lnk} (h : headE n = 0) (h2 : sidesE n = 0) (h3 : (decide (n.pri < 0) || decide (9999 < n.pri)) = true) : noticeE n ls = 1 := by
  have e : termsE n = 1 := by rw [terms_parts, if_neg (by simp [h]), if_neg (by simp [h2]), h3]; rfl
  unfold noticeE; rw [e]; rfl
theorem noticeE_links {n : Ntc} {ls : List Lnk} (h : headE n = 0) (h2 : sidesE n = 0) (h3 : (decide (n.pri < 0) || decide (9999 < n.pri)) = false) : noticeE n ls = linksE n.ref ls := by
  have e : termsE n = 0 := by rw [terms_parts, if_neg (by simp [h]), if_neg (by simp [h2]), h3]; rfl
  unfold noticeE; rw [e]; rfl
theorem int_ne {a : Int} (h : ¬ a = 0) : (a == 0) = false ∧ (a != 0) = true := ⟨beq_eq_false_iff_ne.2 h, bne_iff_ne.2 h⟩
end Go.Proofs.YtdfhfjkcafchiaaDoor
namespace Go.Proofs.YtdfhfjkcafchiaaDoor
open Go.RowKit LC

/-- The mark of a place. -/
def mk5 (i : Int) : List UInt8 := [35, 90, 0, UInt8.ofNat (i % 256).toNat, UInt8.ofNat (i / 256 % 256).toNat]
theorem u8_of (x : Int) : ((UInt8.ofNat (x % 256).toNat).toNat : Int) = x % 256 := by
  have h0 : 0 ≤ x % 256 := Int.emod_nonneg _ (by decide)
  have h1 : x % 256 < 256 := Int.emod_lt_of_pos _ (by decide)
  rw [UInt8.toNat_ofNat', Nat.mod_eq_of_lt (by omega), Int.toNat_of_nonneg h0]
set_option maxRecDepth 100000 in
set_option maxHeartbeats 1000000 in
theorem markText_any (i : Int) (w : World) :
    Calls Tryd.prog 26 #[.int .i64 90, .int .i64 i] w fun e w' => e = .returned (.string ⟨(mk5 i).toArray⟩) ∧ Below w.heap.size w w' := by
  have HB := hide ((Below.refl w.heap.size w).alloc (Nat.le_refl _) (.cells #[.int .u8 35, .int .u8 90, .int .u8 0, .int .u8 (i % 256), .int .u8 (i / 256 % 256)] 5))
  have hcv : (convert 66 9 (.slice (some ⟨w.heap.size, 0, none⟩) 5 5)).run Tryd.prog (w.alloc (.cells #[.int .u8 35, .int .u8 90, .int .u8 0, .int .u8 (i % 256), .int .u8 (i / 256 % 256)] 5)) = .ok (.string ⟨(mk5 i).toArray⟩) (w.alloc (.cells #[.int .u8 35, .int .u8 90, .int .u8 0, .int .u8 (i % 256), .int .u8 (i / 256 % 256)] 5)) := by
    have hr : (w.alloc (.cells #[.int .u8 35, .int .u8 90, .int .u8 0, .int .u8 (i % 256), .int .u8 (i / 256 % 256)] 5)).rangeAt w.heap.size 0 (LC.cel (mk5 i)).toList := fun j v hv => by
      rw [Nat.zero_add, cell_of_row _ _ j _ _ _ (LC.alloc_new w _)]
      unfold mk5 LC.cel at hv
      simp only [List.map, u8_of] at hv
      simpa using hv
    have := LC.conv_mid (a := 0) (n := 5) hr (by simp [mk5]) 5
    rw [List.drop_zero, List.take_of_length_le (by simp [mk5])] at this
    exact this
  go_enter Tryd.func26, Tryd.ntmps26
  go_wp2_with fail
  go_ret
  exact ⟨rfl, HB.out⟩
def lkV (p : Lnk) : Value := .agg #[.int .i64 p.1, .string ⟨p.2.toArray⟩]
set_option maxRecDepth 100000 in
set_option maxHeartbeats 1000000 in
theorem markLinks_any (i : Int) (w : World) :
    Calls Tryd.prog 22 #[.int .i64 90, .int .i64 i] w fun e w' => e = .returned (.agg #[.int .i64 (-100), .string ⟨(mk5 i).toArray⟩]) ∧ Below w.heap.size w w' := by
  have HMT := hide (fun W : World => markText_any i W)
  have N0 := hide (LC.alloc_new w (.cells #[.int .i64 0, .string ⟨#[]⟩] 53))
  have B0 := hide ((Below.refl w.heap.size w).alloc (Nat.le_refl _) (.cells #[.int .i64 0, .string ⟨#[]⟩] 53))
  generalize mk5 i = m at *
  go_enter Tryd.func22, Tryd.ntmps22
  go_wp2_with fail
  refine (HMT.out _).mono ?_
  rintro e w1 ⟨rfl, hb1⟩
  have N1 := hide ((hb1.block w.heap.size (by simp)).trans N0.out)
  have B1 := hide (B0.out.trans (hb1.mono B0.out.size))
  clear hb1 N0 B0
  have HL : Hid (w.heap.size < w1.heap.size) := hide (Array.getElem?_eq_some_iff.1 N1.out).1
  go_wp2_with (refine wpList_store_row rfl 53 (.tmp 4) _ rfl w.heap.size #[.int .i64 (-100), .string ⟨m.toArray⟩] rfl rfl _ #[.int .i64 0, .string ⟨#[]⟩] N1.out Tryd.sizeLnk rfl (by simp [Value.oneCell']) ?_)
  have hd0 := cell_setRow_same w1 w.heap.size 0 _ #[.int .i64 (-100), .string ⟨m.toArray⟩] _ _ N1.out
  have hd1 := cell_setRow_same w1 w.heap.size 1 _ #[.int .i64 (-100), .string ⟨m.toArray⟩] _ _ N1.out
  have BX := below_setRow B1.out (Nat.le_refl _) #[.int .i64 (-100), .string ⟨m.toArray⟩]
  generalize w1.setRow w.heap.size #[.int .i64 (-100), .string ⟨m.toArray⟩] = X at *
  simp only [List.getElem?_toArray, List.getElem?_cons_zero, List.getElem?_cons_succ] at hd0 hd1
  exact bodyPost_ret (v := .agg #[.int .i64 (-100), .string ⟨m.toArray⟩]) (by simp [results, Tryd.results22, go_sem, hd0, hd1]) rfl ⟨rfl, BX⟩
theorem owns_later {B : Nat} {e : TypeId} {k : Nat} {v : Value} {n : Nat} {xs : List Value} {w w' : World} (h : w.ownsRow B e k v n xs) (hb : Below w.heap.size w w') : w'.ownsRow B e k v n xs := by
  refine ⟨h.1, ?_⟩
  rcases h.2 with h2 | ⟨g, cap, cur, hv, hg, hh, h3⟩
  · exact .inl h2
  · exact .inr ⟨g, cap, cur, hv, hg, (hb.block g (Array.getElem?_eq_some_iff.1 hh).1).trans hh, h3⟩
/-- Links as cells. -/
def lc : List Lnk → List Value
  | [] => []
  | p :: t => .int .i64 p.1 :: .string ⟨p.2.toArray⟩ :: lc t
theorem lc_app (a b : List Lnk) : lc (a ++ b) = lc a ++ lc b := by
  induction a with
  | nil => rfl
  | cons p t ih => show _ :: _ :: lc (t ++ b) = _; rw [ih]; rfl
theorem lc_len (a : List Lnk) : (lc a).length = a.length * 2 := by
  induction a with
  | nil => rfl
  | cons p t ih => show (lc t).length + 1 + 1 = (t.length + 1) * 2; rw [ih]; omega
theorem lc_at : ∀ {a : List Lnk} {j : Nat} {p : Lnk}, a[j]? = some p → (lc a)[j * 2]? = some (.int .i64 p.1) ∧ (lc a)[j * 2 + 1]? = some (.string ⟨p.2.toArray⟩)
  | q :: t, 0, p, h => by simp at h; subst h; exact ⟨rfl, rfl⟩
  | q :: t, j + 1, p, h => by
    have h' : t[j]? = some p := by simpa using h
    have ih := lc_at h'
    constructor
    · rw [show (j + 1) * 2 = j * 2 + 1 + 1 by omega]; exact ih.1
    · rw [show (j + 1) * 2 + 1 = j * 2 + 1 + 1 + 1 by omega]; exact ih.2
theorem lc_take {l : List Lnk} {k : Nat} {p : Lnk} (h : l[k]? = some p) : lc (l.take (k + 1)) = lc (l.take k) ++ [.int .i64 p.1, .string ⟨p.2.toArray⟩] := by
  rw [List.take_add_one, h, lc_app]; rfl
def mkL (i : Int) : Lnk := (-100, mk5 i)
def marksL : List Lnk := (List.range 16).map fun i : Nat => mkL (i : Int)
theorem marksL_len : marksL.length = 16 := by simp [marksL]
theorem marksL_at {j : Nat} (h : j < 16) : marksL[j]? = some (mkL (j : Int)) := by
  unfold marksL; rw [List.getElem?_map, List.getElem?_range h]; rfl
theorem Tryd.infoLnk : (Tryd.prog.info? 53).map (fun i => (i.zero, i.size, i.bytes)) = some (some (.agg #[.int .i64 0, .string ⟨#[]⟩]), 2, 24) := by kernel_rfl
set_option maxRecDepth 100000 in
set_option maxHeartbeats 2000000 in
theorem fullLinks_any (v : Value) (l : List Lnk) (w : World) (hv : RL w v l) (hl : l.length ≤ 5864062014805) :
    Calls Tryd.prog 12 #[v] w fun e w' => ∃ v', e = .returned v' ∧ w'.ownsRow w.heap.size 53 2 v' (l.length + 16) (lc (l ++ marksL)) ∧ Below w.heap.size w w' := by
  obtain ⟨a, cap, rfl, hr⟩ := hv
  obtain ⟨i0, hi, hz0, hz1, hz2⟩ := info_parts Tryd.infoLnk
  go_enter Tryd.func12, Tryd.ntmps12
  go_wp2_with fail
  go_loopw [3, 4] (fun o i wr => ∃ k : Nat, k ≤ l.length ∧ i = .int .i64 k ∧ wr.ownsRow w.heap.size 53 2 o k (lc (l.take k)) ∧ Below w.heap.size w wr) (fun _ i _ => l.length - (intOf i).toNat)
  case atStart => exact ⟨0, Nat.zero_le _, rfl, World.ownsRow_nil w w.heap.size 53 2, Below.refl _ _⟩
  case round =>
    obtain ⟨k, hk, rfl, hown, hB⟩ := hrel
    by_cases hlt : k < l.length
    · obtain ⟨⟨kd, r⟩, hx⟩ : ∃ p, l[k]? = some p := ⟨_, List.getElem?_eq_getElem hlt⟩
      rcases hr with h0 | ⟨b, off, rfl, hbl, hc⟩
      · rw [h0] at hlt; simp at hlt
      have c0 : wr.cell? ⟨b, off + k * 2, none⟩ = some (.int .i64 kd) := (hB.cell (p := ⟨b, _, none⟩) hbl).trans (hc k _ hx).1
      have c1 : wr.cell? ⟨b, off + k * 2 + 1, none⟩ = some (.string ⟨r.toArray⟩) := (hB.cell (p := ⟨b, _, none⟩) hbl).trans (hc k _ hx).2
      have c1' : wr.cell? ⟨b, off + (k * 2 + 1), none⟩ = some (.string ⟨r.toArray⟩) := c1
      have HT := hide (lc_take hx)
      clear hc hx
      go_wp2_with (first
        | (at_builtin; refine wpList_append_own_wide _ rfl _ _ 24 rfl w.heap.size 53 i0 (.agg #[.int .i64 0, .string ⟨#[]⟩]) 2 24 Tryd.underlying24 hi hz0 hz1 hz2 rfl (by decide) _ _ _ rfl (hown.alloc _) ⟨_, 0, none⟩ 1 1 [.int .i64 kd, .string ⟨r.toArray⟩] rfl rfl ?c1 ?c2 ?c3 ?c4 ?c5 ?_)
        | go_in)
      case c2 => exact ⟨rfl, rfl⟩
      case c3 => unfold maxLen; omega
      case c4 => omega
      case c5 => have := hB.size; simp; omega
      intro v' w1 hown' hgrow _
      have hB1 : Below w.heap.size w w1 := (hB.alloc hB.size _).grown hgrow (by have := hB.size; simp; omega) (fun k hk => (hown.lt k hk).1)
      clear hown hgrow
      go_wp2_with fail
      go_roundw
      case rel => exact ⟨k + 1, by omega, by go_num, by rw [HT.out]; exact hown', hB1⟩
      case measure => simp [intOf]; omega
    · have hk' : k = l.length := by omega
      subst hk'
      rw [List.take_length] at hown
      clear hr
      go_wp2_with fail
      go_loopw [3, 5] (fun o i wr => ∃ k : Nat, k ≤ 16 ∧ i = .int .i64 k ∧ wr.ownsRow w.heap.size 53 2 o (l.length + k) (lc (l ++ marksL.take k)) ∧ Below w.heap.size w wr) (fun _ i _ => 16 - (intOf i).toNat)
      case atStart => exact ⟨0, Nat.zero_le _, rfl, by rw [List.take_zero, List.append_nil]; exact hown, hB⟩
      case round =>
        clear hown hB
        obtain ⟨k, hk, rfl, hown, hB⟩ := hrel
        by_cases hlt : k < 16
        · have HT : Hid (lc (l ++ marksL.take (k + 1)) = lc (l ++ marksL.take k) ++ [.int .i64 (-100), .string ⟨(mk5 (k : Int)).toArray⟩]) := by
            show _ = _
            rw [lc_app, lc_take (marksL_at hlt), ← List.append_assoc, ← lc_app]; rfl
          have HMK := hide (fun W : World => markLinks_any (k : Int) W)
          generalize mk5 (k : Int) = m at *
          go_wp2_with fail
          refine (HMK.out _).mono ?_
          rintro e w1 ⟨rfl, hb1⟩
          have hown1 : w1.ownsRow w.heap.size 53 2 u3 (l.length + k) (lc (l ++ marksL.take k)) := owns_later hown hb1
          have hB1 := hB.trans (hb1.mono hB.size)
          clear hown hB hb1
          go_wp2_with (first
            | (at_builtin; refine wpList_append_own_wide _ rfl _ _ 24 rfl w.heap.size 53 i0 (.agg #[.int .i64 0, .string ⟨#[]⟩]) 2 24 Tryd.underlying24 hi hz0 hz1 hz2 rfl (by decide) _ _ _ rfl (hown1.alloc _) ⟨_, 0, none⟩ 1 1 [.int .i64 (-100), .string ⟨m.toArray⟩] rfl rfl ?d1 ?d2 ?d3 ?d4 ?d5 ?_)
            | go_in)
          case d1 =>
            intro j u hj
            match j, hj with
            | 0, hj => simp at hj; subst hj; simp [Addr.add]
            | 1, hj => simp at hj; subst hj; simp [Addr.add]
          case d2 => intro u hu; simp at hu; rcases hu with rfl | rfl <;> rfl
          case d3 => unfold maxLen; omega
          case d4 => omega
          case d5 => have := hB1.size; simp; omega
          intro v' w2 hown' hgrow _
          have hB2 : Below w.heap.size w w2 := (hB1.alloc hB1.size _).grown hgrow (by have := hB1.size; simp; omega) (fun k hk => (hown1.lt k hk).1)
          clear hown1 hgrow
          go_wp2_with fail
          go_roundw
          case rel => exact ⟨k + 1, by omega, by go_num, by rw [HT.out, ← Nat.add_assoc]; exact hown', hB2⟩
          case measure => simp [intOf]; omega
        · have hk' : k = 16 := by omega
          subst hk'
          rw [List.take_of_length_le (by rw [marksL_len]; omega)] at hown
          go_wp2_with fail
          go_ret
          exact ⟨_, rfl, hown, hB⟩
end Go.Proofs.YtdfhfjkcafchiaaDoor
