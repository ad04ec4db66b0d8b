/-
  My own text: N7, N8, N9, N10 in one.
-/
import Derived.Test.YtcdhblfefpkjgaaDoorN6
import Derived.Deep.DeepAppendWide
import Derived.Laws.StructEq
import Derived.Test.YtcdhblfefpkjgaaDoorHeld
namespace Go.Proofs.YtcdhblfefpkjgaaDoor.NT
open Go.RowKit LC

/-- The mark of a place. -/
def mk5 (i : Int) : List UInt8 := [35, 90, 0, UInt8.ofNat (i % 256).toNat, UInt8.ofNat (i / 256 % 256).toNat]
theorem u8_of (x : Int) : ((UInt8.ofNat (x % 256).toNat).toNat : Int) = x % 256 := by
  have h0 : 0 ≤ x % 256 := Int.emod_nonneg _ (by decide)
  have h1 : x % 256 < 256 := Int.emod_lt_of_pos _ (by decide)
  rw [UInt8.toNat_ofNat', Nat.mod_eq_of_lt (by omega), Int.toNat_of_nonneg h0]
set_option maxRecDepth 100000 in
set_option maxHeartbeats 1000000 in
theorem markText_any (i : Int) (w : World) :
    Calls Tryd.prog 46 #[.int .i64 90, .int .i64 i] w fun e w' => e = .returned (.string ⟨(mk5 i).toArray⟩) ∧ Below w.heap.size w w' := by
  have HB := hide ((Below.refl w.heap.size w).alloc (Nat.le_refl _) (.cells #[.int .u8 35, .int .u8 90, .int .u8 0, .int .u8 (i % 256), .int .u8 (i / 256 % 256)] 5))
  have hcv : (convert 107 9 (.slice (some ⟨w.heap.size, 0, none⟩) 5 5)).run Tryd.prog (w.alloc (.cells #[.int .u8 35, .int .u8 90, .int .u8 0, .int .u8 (i % 256), .int .u8 (i / 256 % 256)] 5)) = .ok (.string ⟨(mk5 i).toArray⟩) (w.alloc (.cells #[.int .u8 35, .int .u8 90, .int .u8 0, .int .u8 (i % 256), .int .u8 (i / 256 % 256)] 5)) := by
    have hr : (w.alloc (.cells #[.int .u8 35, .int .u8 90, .int .u8 0, .int .u8 (i % 256), .int .u8 (i / 256 % 256)] 5)).rangeAt w.heap.size 0 (LC.cel (mk5 i)).toList := fun j v hv => by
      rw [Nat.zero_add, cell_of_row _ _ j _ _ _ (LC.alloc_new w _)]
      unfold mk5 LC.cel at hv
      simp only [List.map, u8_of] at hv
      simpa using hv
    have := LC.conv_mid (a := 0) (n := 5) hr (by simp [mk5]) 5
    rw [List.drop_zero, List.take_of_length_le (by simp [mk5])] at this
    exact this
  go_enter Tryd.func46, Tryd.ntmps46
  go_wp2_with fail
  go_ret
  exact ⟨rfl, HB.out⟩
def lkV (p : Lnk) : Value := .agg #[.int .i64 p.1, .string ⟨p.2.toArray⟩]
set_option maxRecDepth 100000 in
set_option maxHeartbeats 1000000 in
theorem markLinks_any (i : Int) (w : World) :
    Calls Tryd.prog 39 #[.int .i64 90, .int .i64 i] w fun e w' => e = .returned (.agg #[.int .i64 (-100), .string ⟨(mk5 i).toArray⟩]) ∧ Below w.heap.size w w' := by
  have HMT := hide (fun W : World => markText_any i W)
  have N0 := hide (LC.alloc_new w (.cells #[.int .i64 0, .string ⟨#[]⟩] 53))
  have B0 := hide ((Below.refl w.heap.size w).alloc (Nat.le_refl _) (.cells #[.int .i64 0, .string ⟨#[]⟩] 53))
  generalize mk5 i = m at *
  go_enter Tryd.func39, Tryd.ntmps39
  go_wp2_with fail
  refine (HMT.out _).mono ?_
  rintro e w1 ⟨rfl, hb1⟩
  have N1 := hide ((hb1.block w.heap.size (by simp)).trans N0.out)
  have B1 := hide (B0.out.trans (hb1.mono B0.out.size))
  clear hb1 N0 B0
  have HL : Hid (w.heap.size < w1.heap.size) := hide (Array.getElem?_eq_some_iff.1 N1.out).1
  go_wp2_with (refine wpList_store_row rfl 53 (.tmp 4) _ rfl w.heap.size #[.int .i64 (-100), .string ⟨m.toArray⟩] rfl rfl _ #[.int .i64 0, .string ⟨#[]⟩] N1.out Tryd.sizeLnk rfl (by simp [Value.oneCell']) ?_)
  have hd0 := cell_setRow_same w1 w.heap.size 0 _ #[.int .i64 (-100), .string ⟨m.toArray⟩] _ _ N1.out
  have hd1 := cell_setRow_same w1 w.heap.size 1 _ #[.int .i64 (-100), .string ⟨m.toArray⟩] _ _ N1.out
  have BX := below_setRow B1.out (Nat.le_refl _) #[.int .i64 (-100), .string ⟨m.toArray⟩]
  generalize w1.setRow w.heap.size #[.int .i64 (-100), .string ⟨m.toArray⟩] = X at *
  simp only [List.getElem?_toArray, List.getElem?_cons_zero, List.getElem?_cons_succ] at hd0 hd1
  exact bodyPost_ret (v := .agg #[.int .i64 (-100), .string ⟨m.toArray⟩]) (by simp [results, Tryd.results39, go_sem, hd0, hd1]) rfl ⟨rfl, BX⟩
theorem owns_later {B : Nat} {e : TypeId} {k : Nat} {v : Value} {n : Nat} {xs : List Value} {w w' : World} (h : w.ownsRow B e k v n xs) (hb : Below w.heap.size w w') : w'.ownsRow B e k v n xs := by
  refine ⟨h.1, ?_⟩
  rcases h.2 with h2 | ⟨g, cap, cur, hv, hg, hh, h3⟩
  · exact .inl h2
  · exact .inr ⟨g, cap, cur, hv, hg, (hb.block g (Array.getElem?_eq_some_iff.1 hh).1).trans hh, h3⟩
/-- Links as cells. -/
def lc : List Lnk → List Value
  | [] => []
  | p :: t => .int .i64 p.1 :: .string ⟨p.2.toArray⟩ :: lc t
theorem lc_app (a b : List Lnk) : lc (a ++ b) = lc a ++ lc b := by
  induction a with
  | nil => rfl
  | cons p t ih => show _ :: _ :: lc (t ++ b) = _; rw [ih]; rfl
theorem lc_len (a : List Lnk) : (lc a).length = a.length * 2 := by
  induction a with
  | nil => rfl
  | cons p t ih => show (lc t).length + 1 + 1 = (t.length + 1) * 2; rw [ih]; omega
theorem lc_at : ∀ {a : List Lnk} {j : Nat} {p : Lnk}, a[j]? = some p → (lc a)[j * 2]? = some (.int .i64 p.1) ∧ (lc a)[j * 2 + 1]? = some (.string ⟨p.2.toArray⟩)
  | q :: t, 0, p, h => by simp at h; subst h; exact ⟨rfl, rfl⟩
  | q :: t, j + 1, p, h => by
    have h' : t[j]? = some p := by simpa using h
    have ih := lc_at h'
    constructor
    · rw [show (j + 1) * 2 = j * 2 + 1 + 1 by omega]; exact ih.1
    · rw [show (j + 1) * 2 + 1 = j * 2 + 1 + 1 + 1 by omega]; exact ih.2
theorem lc_take {l : List Lnk} {k : Nat} {p : Lnk} (h : l[k]? = some p) : lc (l.take (k + 1)) = lc (l.take k) ++ [.int .i64 p.1, .string ⟨p.2.toArray⟩] := by
  rw [List.take_add_one, h, lc_app]; rfl
def mkL (i : Int) : Lnk := (-100, mk5 i)
def marksL : List Lnk := (List.range 16).map fun i : Nat => mkL (i : Int)
theorem marksL_len : marksL.length = 16 := by simp [marksL]
theorem marksL_at {j : Nat} (h : j < 16) : marksL[j]? = some (mkL (j : Int)) := by
  unfold marksL; rw [List.getElem?_map, List.getElem?_range h]; rfl
theorem Tryd.infoLnk : (Tryd.prog.info? 53).map (fun i => (i.zero, i.size, i.bytes)) = some (some (.agg #[.int .i64 0, .string ⟨#[]⟩]), 2, 24) := by kernel_rfl
set_option maxRecDepth 100000 in
set_option maxHeartbeats 2000000 in
theorem fullLinks_any (v : Value) (l : List Lnk) (w : World) (hv : RL w v l) (hl : l.length ≤ 5864062014805) :
    Calls Tryd.prog 21 #[v] w fun e w' => ∃ v', e = .returned v' ∧ w'.ownsRow w.heap.size 53 2 v' (l.length + 16) (lc (l ++ marksL)) ∧ Below w.heap.size w w' := by
  obtain ⟨a, cap, rfl, hr⟩ := hv
  obtain ⟨i0, hi, hz0, hz1, hz2⟩ := info_parts Tryd.infoLnk
  go_enter Tryd.func21, Tryd.ntmps21
  go_wp2_with fail
  go_loopw [3, 4] (fun o i wr => ∃ k : Nat, k ≤ l.length ∧ i = .int .i64 k ∧ wr.ownsRow w.heap.size 53 2 o k (lc (l.take k)) ∧ Below w.heap.size w wr) (fun _ i _ => l.length - (intOf i).toNat)
  case atStart => exact ⟨0, Nat.zero_le _, rfl, World.ownsRow_nil w w.heap.size 53 2, Below.refl _ _⟩
  case round =>
    obtain ⟨k, hk, rfl, hown, hB⟩ := hrel
    by_cases hlt : k < l.length
    · obtain ⟨⟨kd, r⟩, hx⟩ : ∃ p, l[k]? = some p := ⟨_, List.getElem?_eq_getElem hlt⟩
      rcases hr with h0 | ⟨b, off, rfl, hbl, hc⟩
      · rw [h0] at hlt; simp at hlt
      have c0 : wr.cell? ⟨b, off + k * 2, none⟩ = some (.int .i64 kd) := (hB.cell (p := ⟨b, _, none⟩) hbl).trans (hc k _ hx).1
      have c1 : wr.cell? ⟨b, off + k * 2 + 1, none⟩ = some (.string ⟨r.toArray⟩) := (hB.cell (p := ⟨b, _, none⟩) hbl).trans (hc k _ hx).2
      have c1' : wr.cell? ⟨b, off + (k * 2 + 1), none⟩ = some (.string ⟨r.toArray⟩) := c1
      have HT := hide (lc_take hx)
      clear hc hx
      go_wp2_with (first
        | (at_builtin; refine wpList_append_own_wide _ rfl _ _ 25 rfl w.heap.size 53 i0 (.agg #[.int .i64 0, .string ⟨#[]⟩]) 2 24 Tryd.underlying25 hi hz0 hz1 hz2 rfl (by decide) _ _ _ rfl (hown.alloc _) ⟨_, 0, none⟩ 1 1 [.int .i64 kd, .string ⟨r.toArray⟩] rfl rfl ?c1 ?c2 ?c3 ?c4 ?c5 ?_)
        | go_in)
      case c2 => exact ⟨rfl, rfl⟩
      case c3 => unfold maxLen; omega
      case c4 => omega
      case c5 => have := hB.size; simp; omega
      intro v' w1 hown' hgrow _
      have hB1 : Below w.heap.size w w1 := (hB.alloc hB.size _).grown hgrow (by have := hB.size; simp; omega) (fun k hk => (hown.lt k hk).1)
      clear hown hgrow
      go_wp2_with fail
      go_roundw
      case rel => exact ⟨k + 1, by omega, by go_num, by rw [HT.out]; exact hown', hB1⟩
      case measure => simp [intOf]; omega
    · have hk' : k = l.length := by omega
      subst hk'
      rw [List.take_length] at hown
      clear hr
      go_wp2_with fail
      go_loopw [3, 5] (fun o i wr => ∃ k : Nat, k ≤ 16 ∧ i = .int .i64 k ∧ wr.ownsRow w.heap.size 53 2 o (l.length + k) (lc (l ++ marksL.take k)) ∧ Below w.heap.size w wr) (fun _ i _ => 16 - (intOf i).toNat)
      case atStart => exact ⟨0, Nat.zero_le _, rfl, by rw [List.take_zero, List.append_nil]; exact hown, hB⟩
      case round =>
        clear hown hB
        obtain ⟨k, hk, rfl, hown, hB⟩ := hrel
        by_cases hlt : k < 16
        · have HT : Hid (lc (l ++ marksL.take (k + 1)) = lc (l ++ marksL.take k) ++ [.int .i64 (-100), .string ⟨(mk5 (k : Int)).toArray⟩]) := by
            show _ = _
            rw [lc_app, lc_take (marksL_at hlt), ← List.append_assoc, ← lc_app]; rfl
          have HMK := hide (fun W : World => markLinks_any (k : Int) W)
          generalize mk5 (k : Int) = m at *
          go_wp2_with fail
          refine (HMK.out _).mono ?_
          rintro e w1 ⟨rfl, hb1⟩
          have hown1 : w1.ownsRow w.heap.size 53 2 u3 (l.length + k) (lc (l ++ marksL.take k)) := owns_later hown hb1
          have hB1 := hB.trans (hb1.mono hB.size)
          clear hown hB hb1
          go_wp2_with (first
            | (at_builtin; refine wpList_append_own_wide _ rfl _ _ 25 rfl w.heap.size 53 i0 (.agg #[.int .i64 0, .string ⟨#[]⟩]) 2 24 Tryd.underlying25 hi hz0 hz1 hz2 rfl (by decide) _ _ _ rfl (hown1.alloc _) ⟨_, 0, none⟩ 1 1 [.int .i64 (-100), .string ⟨m.toArray⟩] rfl rfl ?d1 ?d2 ?d3 ?d4 ?d5 ?_)
            | go_in)
          case d1 =>
            intro j u hj
            match j, hj with
            | 0, hj => simp at hj; subst hj; simp [Addr.add]
            | 1, hj => simp at hj; subst hj; simp [Addr.add]
          case d2 => intro u hu; simp at hu; rcases hu with rfl | rfl <;> rfl
          case d3 => unfold maxLen; omega
          case d4 => omega
          case d5 => have := hB1.size; simp; omega
          intro v' w2 hown' hgrow _
          have hB2 : Below w.heap.size w w2 := (hB1.alloc hB1.size _).grown hgrow (by have := hB1.size; simp; omega) (fun k hk => (hown1.lt k hk).1)
          clear hown1 hgrow
          go_wp2_with fail
          go_roundw
          case rel => exact ⟨k + 1, by omega, by go_num, by rw [HT.out, ← Nat.add_assoc]; exact hown', hB2⟩
          case measure => simp [intOf]; omega
        · have hk' : k = 16 := by omega
          subst hk'
          rw [List.take_of_length_le (by rw [marksL_len]; omega)] at hown
          go_wp2_with fail
          go_ret
          exact ⟨_, rfl, hown, hB⟩
end Go.Proofs.YtcdhblfefpkjgaaDoor.NT
namespace Go.Proofs.YtcdhblfefpkjgaaDoor.NT
open Go.RowKit LC

/-- A list of links that was lent, in block g, from B on. -/
structure LentL (w : World) (B g cap : Nat) (l : List Lnk) : Prop where
  base : B ≤ g
  own : w.ownsRow B 53 2 (.slice (some ⟨g, 0, none⟩) (l.length + 16) cap) (l.length + 16) (lc (l ++ marksL))
theorem LentL.later {w w' : World} {B g cap : Nat} {l : List Lnk} (h : LentL w B g cap l) (hb : Below w.heap.size w w') : LentL w' B g cap l := ⟨h.base, owns_later h.own hb⟩
theorem LentL.parts {w : World} {B g cap : Nat} {l : List Lnk} (h : LentL w B g cap l) : g < w.heap.size ∧ l.length + 16 ≤ cap ∧ (∀ (j : Nat) (p : Lnk), (l ++ marksL)[j]? = some p → w.cell? ⟨g, j * 2, none⟩ = some (.int .i64 p.1) ∧ w.cell? ⟨g, j * 2 + 1, none⟩ = some (.string ⟨p.2.toArray⟩)) := by
  have h' := h.own
  rcases h'.2 with ⟨h0, _⟩ | ⟨g', cap', cur, hv, hb, hh, hn2, _⟩
  · cases h0
  · cases hv
    refine ⟨(Array.getElem?_eq_some_iff.1 hh).1, hn2, fun j p hj => ?_⟩
    have hjl : j < l.length + 16 := by have := (List.getElem?_eq_some_iff.1 hj).1; rw [List.length_append, marksL_len] at this; exact this
    obtain ⟨e0, e1⟩ := lc_at hj
    exact ⟨(h'.cellAt (j * 2) (by omega)).trans e0, (h'.cellAt (j * 2 + 1) (by omega)).trans e1⟩
theorem LentL.rl {w : World} {B g cap : Nat} {l : List Lnk} (h : LentL w B g cap l) : RL w (.slice (some ⟨g, 0, none⟩) l.length cap) l := by
  obtain ⟨h1, h2, h3⟩ := h.parts
  refine ⟨_, _, rfl, .inr ⟨g, 0, rfl, h1, fun j p hj => ?_⟩⟩
  have := h3 j p (by rw [List.getElem?_append_left (List.getElem?_eq_some_iff.1 hj).1]; exact hj)
  rw [Nat.zero_add]; exact this
set_option maxRecDepth 100000 in
set_option maxHeartbeats 1000000 in
theorem lentLinks_any (v : Value) (l : List Lnk) (w : World) (hv : RL w v l) (hl : l.length ≤ 5864062014805) :
    Calls Tryd.prog 6 #[v] w fun e w' => ∃ g cap, e = .returned (.slice (some ⟨g, 0, none⟩) l.length cap) ∧ LentL w' w.heap.size g cap l ∧ Below w.heap.size w w' := by
  have HF := hide (fullLinks_any v l w hv hl)
  obtain ⟨a, cap0, rfl, _⟩ := hv
  go_enter Tryd.func6, Tryd.ntmps6
  go_wp2_with fail
  refine HF.out.mono ?_
  rintro e w1 ⟨v', rfl, hown, hb1⟩
  obtain ⟨g, cap, hv, hgb, hglt⟩ := World.ownsRow.form hown (by omega)
  subst hv
  have HL : Hid (LentL w1 w.heap.size g cap l) := hide ⟨hgb, hown⟩
  obtain ⟨_, hcap, _⟩ := HL.out.parts
  have hne : ¬ cap = l.length := by omega
  have hle : (l.length : Int) ≤ (cap : Int) := by omega
  have HB := hide hb1
  clear hown hb1
  go_wp2_with fail
  go_ret
  exact ⟨g, cap, rfl, HL.out, HB.out⟩
theorem Tryd.undLnk : Tryd.prog.underlying 53 = some (.struct (Tryd.prog.fieldsOf 53)) := by kernel_rfl
theorem Tryd.stoodLnk : Tryd.prog.stoodInHeld 53 = false := by kernel_rfl
theorem run_neq_lnk (k : Int) (r : List UInt8) (w : World) : (binOp .neq 53 (.agg #[.int .i64 k, .string ⟨r.toArray⟩]) (.agg #[.int .i64 k, .string ⟨r.toArray⟩])).run Tryd.prog w = .ok (.bool false) w := by
  rw [run_neq_struct, run_equalIn_struct w 9999 _ _ _ Tryd.undLnk Tryd.stoodLnk]
  simp [Program.fieldsOf, Tryd.underlying53, Op.eqFields, part, isAgg, underlying, Tryd.underlying3, Tryd.underlying9, Result.andThen, run_equalIn_int _ _ _ _ _ _ _ Tryd.underlying3, run_equalIn_string _ _ _ _ _ Tryd.underlying9]
end Go.Proofs.YtcdhblfefpkjgaaDoor.NT
namespace Go.Proofs.YtcdhblfefpkjgaaDoor.NT
open Go.RowKit LC

theorem below_dN {B : Nat} {a w : World} (h : Below B a w) (n : Nat) : Below B a (w.drewN n) := h.trans ⟨rfl, rfl, rfl, Nat.le_refl _, fun _ _ => rfl⟩
set_option maxRecDepth 100000 in
set_option maxHeartbeats 4000000 in
theorem keptFullLinks_any (v : Value) (l : List Lnk) (B g cap : Nat) (w : World) (hv : RL w v l) (hk : LentL w B g cap l) (hl : l.length ≤ 5864062014805) :
    Calls Tryd.prog 33 #[.slice (some ⟨g, 0, none⟩) (l.length + 16) cap, v] w fun e w' => e = .returned (.bool true) ∧ Below w.heap.size w w' := by
  have HK := hide hk
  obtain ⟨hglt, hgcap, hcells⟩ := hk.parts
  have HC := hide hcells
  have HG := hide hglt
  obtain ⟨a, cap0, rfl, hr⟩ := hv
  have HR := hide hr
  have hneq := run_neq_lnk
  clear hk hcells hglt hr
  go_enter Tryd.func33, Tryd.ntmps33
  go_wp2_with fail
  go_loopw [5] (fun i wr => ∃ k : Nat, k ≤ l.length + 16 ∧ i = .int .i64 k ∧ Hid (Below w.heap.size w wr)) (fun i _ => l.length + 16 - (intOf i).toNat)
  case atStart => exact ⟨0, Nat.zero_le _, rfl, hide (Below.refl _ _)⟩
  case round =>
    obtain ⟨k, hk, rfl, HB⟩ := hrel
    have HMK := hide (fun W : World => markLinks_any ((k : Int) - (l.length : Int)) W)
    by_cases hlt : k < l.length
    · obtain ⟨⟨kd, r⟩, hp⟩ : ∃ p, l[k]? = some p := ⟨_, List.getElem?_eq_getElem hlt⟩
      obtain ⟨b, off, ha, hbl, hc⟩ := HR.out.resolve_left (fun h => by rw [h] at hlt; simp at hlt)
      have HP1 := hide (hc k _ hp)
      have HP2 := hide (HC.out k _ (by rw [List.getElem?_append_left hlt]; exact hp))
      have HBL := hide hbl
      subst ha
      clear hc hp hbl
      generalize mk5 ((k : Int) - (l.length : Int)) = m at *
      go_wp2_with fail
      refine (HMK.out _).mono ?_
      rintro e w1 ⟨rfl, hb1⟩
      have B1 := hide (HB.out.trans (hb1.mono HB.out.size))
      clear hb1
      have BA := hide (B1.out.alloc B1.out.size (.cells #[.int .i64 (-100), .string ⟨m.toArray⟩] 53))
      have BC := hide (B1.out.alloc B1.out.size (.cells #[.int .i64 kd, .string ⟨r.toArray⟩] 53))
      have c0 := (BA.out.cell (p := ⟨b, off + k * 2, none⟩) HBL.out).trans HP1.out.1
      have c1 := (BA.out.cell (p := ⟨b, off + k * 2 + 1, none⟩) HBL.out).trans HP1.out.2
      have d0 := (BC.out.cell (p := ⟨g, k * 2, none⟩) HG.out).trans HP2.out.1
      have d1 := (BC.out.cell (p := ⟨g, k * 2 + 1, none⟩) HG.out).trans HP2.out.2
      have q := LC.alloc_new w1 (.cells #[.int .i64 kd, .string ⟨r.toArray⟩] 53)
      obtain ⟨e0, e1⟩ := pair_cells q rfl
      have hneq2 := run_neq_lnk kd r
      clear q hneq
      go_wp2_with fail
      have BC2 := hide BC.out
      generalize w1.alloc (.cells #[.int .i64 kd, .string ⟨r.toArray⟩] 53) = Y at *
      go_quiet (fail)
      go_wp2_with fail
      go_roundw
      case rel => exact ⟨k + 1, by omega, by go_num, hide (below_dN BC2.out _)⟩
      case measure => simp [intOf]; omega
    · by_cases hend : k < l.length + 16
      · have HP2 := hide (HC.out k (mkL ((k : Int) - (l.length : Int))) (by
          rw [List.getElem?_append_right (by omega), marksL_at (by omega)]
          congr 2; omega))
        unfold mkL at HP2
        generalize mk5 ((k : Int) - (l.length : Int)) = m at *
        go_wp2_with fail
        refine (HMK.out _).mono ?_
        rintro e w1 ⟨rfl, hb1⟩
        have B1 := hide (HB.out.trans (hb1.mono HB.out.size))
        clear hb1
        have BC := hide (B1.out.alloc B1.out.size (.cells #[.int .i64 (-100), .string ⟨m.toArray⟩] 53))
        have d0 := (BC.out.cell (p := ⟨g, k * 2, none⟩) HG.out).trans HP2.out.1
        have d1 := (BC.out.cell (p := ⟨g, k * 2 + 1, none⟩) HG.out).trans HP2.out.2
        have q := LC.alloc_new w1 (.cells #[.int .i64 (-100), .string ⟨m.toArray⟩] 53)
        obtain ⟨e0, e1⟩ := pair_cells q rfl
        have hneq2 := run_neq_lnk (-100) m
        clear q hneq
        go_wp2_with fail
        generalize w1.alloc (.cells #[.int .i64 (-100), .string ⟨m.toArray⟩] 53) = Y at *
        go_quiet (fail)
        go_wp2_with fail
        go_roundw
        case rel => exact ⟨k + 1, by omega, by go_num, hide (below_dN BC.out _)⟩
        case measure => simp [intOf]; omega
      · have hk' : k = l.length + 16 := by omega
        subst hk'
        go_wp2_with fail
        go_ret
        exact ⟨rfl, HB.out⟩
set_option maxRecDepth 100000 in
set_option maxHeartbeats 1000000 in
theorem keptLinks_any (v : Value) (l : List Lnk) (B g cap : Nat) (w : World) (hv : RL w v l) (hk : LentL w B g cap l) (hl : l.length ≤ 5864062014805) :
    Calls Tryd.prog 10 #[.slice (some ⟨g, 0, none⟩) l.length cap, v] w fun e w' => e = .returned (.bool true) ∧ Below w.heap.size w w' := by
  have HF := hide (keptFullLinks_any v l B g cap w hv hk hl)
  obtain ⟨_, hcap, _⟩ := hk.parts
  obtain ⟨a, cap0, rfl, _⟩ := hv
  clear hk
  by_cases hq : cap = l.length + 16
  · subst hq
    go_enter Tryd.func10, Tryd.ntmps10
    go_wp2_with fail
    refine HF.out.mono ?_
    rintro e w1 ⟨rfl, hb1⟩
    go_wp2_with fail
    go_ret
    exact ⟨rfl, hb1⟩
  · have hle : ((l.length : Int) + 16) ≤ (cap : Int) := by omega
    go_enter Tryd.func10, Tryd.ntmps10
    go_wp2_with fail
    refine HF.out.mono ?_
    rintro e w1 ⟨rfl, hb1⟩
    go_wp2_with fail
    go_ret
    exact ⟨rfl, hb1⟩
end Go.Proofs.YtcdhblfefpkjgaaDoor.NT
namespace Go.Proofs.YtcdhblfefpkjgaaDoor.NT
open Go.RowKit LC

theorem in_ite {c : Prop} [Decidable c] {a b : Int} (ha : 0 ≤ a ∧ a ≤ 24) (hb : 0 ≤ b ∧ b ≤ 24) : 0 ≤ (if c then a else b) ∧ (if c then a else b) ≤ 24 := by
  split
  · exact ha
  · exact hb
theorem tE_in (r1 cn r2 pe d1 d2 lt ci ql ac bi ot py al cu az ce pl pg : Bool) : 0 ≤ tE r1 cn r2 pe d1 d2 lt ci ql ac bi ot py al cu az ce pl pg ∧ tE r1 cn r2 pe d1 d2 lt ci ql ac bi ot py al cu az ce pl pg ≤ 24 := by
  unfold tE
  repeat (first | (refine in_ite (by decide) ?_) | exact ⟨by decide, by decide⟩)
theorem linkE_in (ref : List UInt8) : ∀ ls : List Lnk, 0 ≤ linkE ref ls ∧ linkE ref ls ≤ 24
  | [] => by show (0 : Int) ≤ 0 ∧ (0 : Int) ≤ 24; decide
  | (k, r) :: t => by
    show 0 ≤ (if decide (k < 1) || decide (3 < k) then (24 : Int) else if !refB r then 6 else if decide (r = ref) then 17 else linkE ref t) ∧ (if decide (k < 1) || decide (3 < k) then (24 : Int) else if !refB r then 6 else if decide (r = ref) then 17 else linkE ref t) ≤ 24
    exact in_ite (by decide) (in_ite (by decide) (in_ite (by decide) (linkE_in ref t)))
theorem noticeE_in (n : Ntc) (ls : List Lnk) : 0 ≤ noticeE n ls ∧ noticeE n ls ≤ 24 := by
  unfold noticeE
  split
  · exact tE_in ..
  · unfold linksE
    split
    · decide
    · exact linkE_in ..
theorem Bx.range {w : World} {g : Nat} {n : Ntc} {v : Value} (h : Bx w g n v) : w.rangeAt g 0 (nC n v).toList := fun j u hj => by
  rw [Nat.zero_add, cell_of_row _ _ j _ _ _ h]; simpa using hj
theorem nC_set (n : Ntc) (v v' : Value) (hc : n.code.length = 12) : (nC n v).setIfInBounds 26 v' = nC n v' := by
  obtain ⟨c0, c1, c2, c3, c4, c5, c6, c7, c8, c9, c10, c11, he⟩ := nC_cases hc
  unfold nC nb; rw [he]; rfl
theorem Bx.set {w : World} {g : Nat} {n : Ntc} {v : Value} (h : Bx w g n v) (hc : n.code.length = 12) (v' : Value) : Bx (w.setCell ⟨g, 26, none⟩ v') g n v' := by
  have e := setCell_eq_setRow w g 26 _ _ _ v' h
  rw [nC_set n v v' hc] at e
  unfold Bx
  rw [e]
  exact setRow_heap w g _ (nC n v') _ _ h
theorem frozen_blk {w : World} {g : Nat} {cs : Array Value} {t : TypeId} (h : w.heap[g]? = some (.cells cs t (0, 0))) (j : Nat) : w.frozen? ⟨g, j, none⟩ = false := by
  unfold World.frozen?; simp [h]
theorem alloc2_new (w : World) (a b : Obj) : ((w.alloc a).alloc b).heap[w.heap.size + 1]? = some b := by
  have := LC.alloc_new (w.alloc a) b
  simpa using this
theorem setRow2 (w : World) (a : Obj) (c c' : Array Value) (t : TypeId) : ((w.alloc a).alloc (.cells c t)).setRow (w.heap.size + 1) c' = (w.alloc a).alloc (.cells c' t) := by
  have := World.setRow_alloc_new (w.alloc a) c c' t
  rw [show (w.alloc a).heap.size = w.heap.size + 1 by simp] at this
  exact this
theorem LentL.block {w w' : World} {B g cap : Nat} {l : List Lnk} (h : LentL w B g cap l) (hb : w'.heap[g]? = w.heap[g]?) : LentL w' B g cap l := by
  refine ⟨h.base, h.own.1, ?_⟩
  rcases h.own.2 with ⟨h0, _⟩ | ⟨g', cap', cur, hv, hg, hh, h3⟩
  · cases h0
  · cases hv
    exact .inr ⟨g, cap, cur, rfl, hg, hb.trans hh, h3⟩
end Go.Proofs.YtcdhblfefpkjgaaDoor.NT
