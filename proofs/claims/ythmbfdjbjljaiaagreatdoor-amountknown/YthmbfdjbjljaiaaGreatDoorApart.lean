/-
  My own text: three lists that were handed out have memory of their own.
-/
import Derived.Test.YthmbfdjbjljaiaaGreatDoorSplitAny
namespace Go.Proofs.YthmbfdjbjljaiaaGreatDoor
open Go.RowKit

theorem Tryz.infoSlice : (Tryz.prog.info? 23).map (fun i => (i.zero, i.size, i.bytes)) = some (some (.slice none 0 0), 1, 24) := by kernel_rfl
/-- The mark in place j of list k. -/
def mrk (k j : Nat) : Int := 1000003 * ((k : Int) + 1) + (j : Int)
def markL (k n : Nat) : List Int := (List.range n).map (mrk k)
theorem markL_len (k n : Nat) : (markL k n).length = n := by simp [markL]
theorem markL_at {k n j : Nat} (h : j < n) : (markL k n)[j]? = some (mrk k j) := by unfold markL; rw [List.getElem?_map, List.getElem?_range h]; rfl
theorem markL_succ (k n : Nat) : lv .i64 (markL k (n + 1)) = lv .i64 (markL k n) ++ [.int .i64 (mrk k n)] := by unfold markL lv; rw [List.range_succ]; simp
/-- Three lists in a list. -/
structure Three (w : World) (B L : Nat) (A : Nat → Option Addr) (N : Nat → Nat) : Prop where
  lt : L < w.heap.size
  cells : ∀ k, k < 3 → w.cell? ⟨L, k, none⟩ = some (.slice (A k) (N k) (N k))
  rows : ∀ k, k < 3 → (A k = none ∧ N k = 0) ∨ ∃ P f, A k = some ⟨P, 0, none⟩ ∧ B ≤ P ∧ P ≠ L ∧ w.rowIs P 2 (N k) f
  apart : ∀ j k P, j < 3 → k < 3 → A j = some ⟨P, 0, none⟩ → A k = some ⟨P, 0, none⟩ → j = k
theorem Three.set {w : World} {B L : Nat} {A : Nat → Option Addr} {N : Nat → Nat} (h : Three w B L A N) {P : Nat} (hP : P ≠ L) (i : Nat) (v : Value) : Three (w.setCell ⟨P, i, none⟩ v) B L A N := by
  refine ⟨by simpa using h.lt, fun k hk => cell_other (h.cells k hk) (Or.inl hP), fun k hk => ?_, h.apart⟩
  rcases h.rows k hk with h1 | ⟨Q, f, h1, h2, h3, h4⟩
  · exact .inl h1
  · by_cases e : Q = P
    · subst e; exact .inr ⟨Q, _, h1, h2, h3, h4.set i v⟩
    · exact .inr ⟨Q, f, h1, h2, h3, h4.setOther (a := ⟨P, i, none⟩) e v⟩
theorem Three.later {w w1 : World} {B L : Nat} {A : Nat → Option Addr} {N : Nat → Nat} (h : Three w B L A N) (hb : Below w.heap.size w w1) : Three w1 B L A N := by
  refine ⟨Nat.lt_of_lt_of_le h.lt hb.size, fun k hk => (hb.cell (p := ⟨L, k, none⟩) h.lt).trans (h.cells k hk), fun k hk => ?_, h.apart⟩
  rcases h.rows k hk with h1 | ⟨Q, f, h1, h2, h3, h4⟩
  · exact .inl h1
  · exact .inr ⟨Q, f, h1, h2, h3, h4.of_block (hb.block Q h4.lt)⟩
theorem Three.drew {w : World} {B L : Nat} {A : Nat → Option Addr} {N : Nat → Nat} (h : Three w B L A N) : Three w.drew B L A N := ⟨h.lt, h.cells, h.rows, h.apart⟩
/-- The marks that are laid: all of the lists before k, i of list k. -/
def Mk (w : World) (A : Nat → Option Addr) (N : Nat → Nat) (k i : Nat) : Prop :=
  ∀ m, m < 3 → ∀ j, j < N m → (m < k ∨ (m = k ∧ j < i)) → ∀ P, A m = some ⟨P, 0, none⟩ → w.cell? ⟨P, j, none⟩ = some (.int .i64 (mrk m j))
theorem Mk.next {w : World} {A : Nat → Option Addr} {N : Nat → Nat} {k i : Nat} (h : Mk w A N k i) (hi : N k ≤ i) : Mk w A N (k + 1) 0 := by
  intro m hm j hj hl P hP
  refine h m hm j hj ?_ P hP
  rcases hl with hl | hl
  · by_cases e : m = k
    · subst e; exact .inr ⟨rfl, by omega⟩
    · exact .inl (by omega)
  · omega
theorem Mk.set {w : World} {B L : Nat} {A : Nat → Option Addr} {N : Nat → Nat} {k i P : Nat} (h : Mk w A N k i) (hT : Three w B L A N) (hk : k < 3) (hA : A k = some ⟨P, 0, none⟩) (hi : i < N k) : Mk (w.setCell ⟨P, i, none⟩ (.int .i64 (mrk k i))) A N k (i + 1) := by
  intro m hm j hj hl Q hQ
  by_cases e : Q = P ∧ j = i
  · obtain ⟨rfl, rfl⟩ := e
    have hmk := hT.apart m k Q hm hk hQ hA
    subst hmk
    rcases hT.rows m hm with h1 | ⟨R, f, h1, _, _, h4⟩
    · rw [h1.1] at hA; cases hA
    · rw [hA] at h1; cases h1
      exact World.cell?_setCell_same _ _ _ (h4.cell hj)
  · have e' : P ≠ Q ∨ i ≠ j := by
      by_cases h1 : P = Q
      · exact .inr (fun h2 => e ⟨h1.symm, h2.symm⟩)
      · exact .inl h1
    refine cell_other (h m hm j hj ?_ Q hQ) e'
    rcases hl with hl | ⟨rfl, hl⟩
    · exact .inl hl
    · refine .inr ⟨rfl, ?_⟩
      have : Q = P := by rw [hQ] at hA; cases hA; rfl
      have := fun h2 => e ⟨this, h2⟩
      omega
/-- The lists that were grown. -/
def Gs (w : World) (B : Nat) (N : Nat → Nat) (gl : List Value) (k : Nat) : Prop := ∀ j, j < k → ∃ g, gl[j]? = some g ∧ w.ownsRow B 2 1 g (N j + 64) (lv .i64 (markL j (N j + 64)))

theorem own_base {w : World} {B B' n : Nat} {e : TypeId} {v : Value} {xs : List Value} (h : w.ownsRow B e 1 v n xs) (hb : B' ≤ B) : w.ownsRow B' e 1 v n xs := by
  refine ⟨h.1, ?_⟩
  rcases h.2 with h2 | ⟨g, cap, cur, hv, hg, hh⟩
  · exact .inl h2
  · exact .inr ⟨g, cap, cur, hv, by omega, hh⟩
theorem Gs.more {w w' : World} {B : Nat} {N : Nat → Nat} {gl : List Value} {k : Nat} {g : Value} (h : Gs w B N gl k) (hl : gl.length = k) (hk : ∀ v n xs, w.ownsRow B 2 1 v n xs → w'.ownsRow B 2 1 v n xs) (hg : w'.ownsRow B 2 1 g (N k + 64) (lv .i64 (markL k (N k + 64)))) : Gs w' B N (gl ++ [g]) (k + 1) := by
  intro j hj
  by_cases e : j = k
  · subst e; exact ⟨g, by rw [← hl]; simp, hg⟩
  · obtain ⟨g', h1, h2⟩ := h j (by omega)
    exact ⟨g', by rw [List.getElem?_append_left (by omega)]; exact h1, hk _ _ _ h2⟩
set_option maxRecDepth 100000 in
set_option maxHeartbeats 4000000 in
theorem apartLongs_three (B L : Nat) (A : Nat → Option Addr) (N : Nat → Nat) (w : World) (hT : Three w B L A N) (hN : ∀ k, N k ≤ 17592186043904) (hBw : B ≤ w.heap.size) :
    Calls Tryz.prog 44 #[.slice (some ⟨L, 0, none⟩) 3 3] w fun e w' => e = .returned (.bool true) ∧ Below B w w' := by
  obtain ⟨i1, hi1, hza1, hzb1, hzc1⟩ := info_parts Tryz.infoLong
  obtain ⟨i2, hi2, hza2, hzb2, hzc2⟩ := info_parts Tryz.infoSlice
  have HN := hide hN
  have HT := hide hT
  clear hT hN
  go_enter Tryz.func44, Tryz.ntmps44
  go_wp2_with fail
  go_loopw [3] (fun i wr => ∃ k : Nat, k ≤ 3 ∧ i = .int .i64 k ∧ Hid (Three wr B L A N) ∧ Hid (Mk wr A N k 0) ∧ Below B w wr) (fun i _ => 3 - (intOf i).toNat)
  case atStart => exact ⟨0, Nat.zero_le _, rfl, HT, hide (fun m _ j _ hl => by omega), Below.refl _ _⟩
  case round =>
    clear HT
    obtain ⟨k, hk, rfl, HT, HM, hB⟩ := hrel
    by_cases hlt : k < 3
    · have hn := HN.out k
      have hd : decide ((k : Int) < 3) = true := by rw [decide_eq_true_eq]; omega
      have hc := HT.out.cells k hlt
      go_wp2_with fail
      clear hc
      go_loopw [4] (fun i wr => ∃ i' : Nat, i' ≤ N k ∧ i = .int .i64 i' ∧ Hid (Three wr B L A N) ∧ Hid (Mk wr A N k i') ∧ Below B w wr) (fun i _ => N k - (intOf i).toNat)
      case atStart => exact ⟨0, Nat.zero_le _, rfl, HT, HM, hB⟩
      case round =>
        clear HT HM hB
        obtain ⟨i, hi, rfl, HT, HM, hB⟩ := hrel
        have hc := HT.out.cells k hlt
        by_cases hil : i < N k
        · rcases HT.out.rows k hlt with ⟨_, h0⟩ | ⟨P, f, hA, hP, hPL, hrow⟩
          · omega
          have HA := hide hA
          rw [hA] at hc
          have hcell := hrow.cell hil
          have hfz := hrow.frozen i
          have HM' := hide (HM.out.set HT.out hlt hA hil)
          have HT' := hide (HT.out.set hPL i (.int .i64 (mrk k i)))
          clear hA hrow
          go_wp2_with fail
          go_region_with (go_at_call 70; refine (markLongs_any _ _ _ (by omega) (by omega) (by omega) (by omega)).mono ?_; rintro e w' ⟨rfl, rfl⟩)
          all_goals
            go_wp2_with fail
            go_roundw
            case rel => exact ⟨i + 1, by omega, by go_num, hide HT'.out.drew, hide HM'.out, (hB.setCell (p := ⟨P, i, none⟩) hP _).drew⟩
            case measure => simp [intOf]; omega
        · have hi' : i = N k := by omega
          subst hi'
          go_wp2_with fail
          go_roundw
          case rel => exact ⟨k + 1, by omega, by go_num, HT, hide (HM.out.next (Nat.le_refl _)), hB⟩
          case measure => simp [intOf]; omega
    · have hk' : k = 3 := by omega
      subst hk'
      rw [show ((3 : Nat) : Int) = 3 from rfl]
      obtain ⟨w1, hw1⟩ : ∃ x, x = wr := ⟨_, rfl⟩
      subst hw1
      have HB1 := hide hB
      have HM1 := hide (fun m (hm : m < 3) j (hj : j < N m) => HM.out m hm j hj (.inl hm))
      clear hlt hk HM hB
      go_wp2_with fail
      go_loopw [5, 6] (fun gs kk w2 => ∃ (k : Nat) (gl : List Value), k ≤ 3 ∧ kk = .int .i64 k ∧ Hid (w2.ownsRow w1.heap.size 23 1 gs k gl) ∧ Hid (Gs w2 w1.heap.size N gl k) ∧ Below w1.heap.size w1 w2) (fun _ i _ => 3 - (intOf i).toNat)
      case atStart => exact ⟨0, [], Nat.zero_le _, rfl, hide (World.ownsRow_nil w1 w1.heap.size 23 1), hide (fun j hj => by omega), Below.refl _ _⟩
      case round =>
        obtain ⟨w2, hw2⟩ : ∃ x, x = wr := ⟨_, rfl⟩
        subst hw2
        obtain ⟨k, gl, hk, rfl, HO, HG, hB⟩ := hrel
        have HT2 := hide (HT.out.later hB)
        by_cases hlt : k < 3
        · have hn := HN.out k
          have hd : decide ((k : Int) < 3) = true := by rw [decide_eq_true_eq]; omega
          have hc := HT2.out.cells k hlt
          have HOld : Hid (∀ W, Below w2.heap.size w2 W → ∀ b, A k = some b → ∀ j u, (lv .i64 (markL k (N k)))[j]? = some u → W.cell? (b.add j) = some u) := by
            intro W hW b hb j u hu
            rcases HT2.out.rows k hlt with h1 | ⟨P, f, h1, _, _, h4⟩
            · rw [h1.1] at hb; cases hb
            · rw [h1] at hb; cases hb
              have hj : j < N k := by
                have h := (List.getElem?_eq_some_iff.1 hu).1
                rw [lv_len, markL_len] at h; exact h
              unfold lv at hu
              rw [List.getElem?_map, markL_at hj] at hu
              cases hu
              have hp1 : P < w1.heap.size := by
                rcases HT.out.rows k hlt with g1 | ⟨Q, f', g1, _, _, g4⟩
                · rw [g1.1] at h1; cases h1
                · rw [h1] at g1; cases g1; exact g4.lt
              have h := HM1.out k hlt j hj P h1
              have e0 : (⟨P, 0, none⟩ : Addr).add j = ⟨P, j, none⟩ := by unfold Addr.add; split <;> simp_all
              rw [e0, hW.cell (p := ⟨P, j, none⟩) h4.lt, hB.cell (p := ⟨P, j, none⟩) hp1, h]
          have HNo : Hid (A k = none → N k = 0 ∧ N k = 0) := by
            intro hA
            rcases HT2.out.rows k hlt with h1 | ⟨P, f, h1, _⟩
            · exact ⟨h1.2, h1.2⟩
            · rw [hA] at h1; cases h1
          go_wp2_with fail
          go_loopw [7, 8] (fun g i w3 => ∃ i' : Nat, i' ≤ 64 ∧ i = .int .i64 i' ∧ Hid ((i' = 0 ∧ g = .slice (A k) (N k) (N k)) ∨ (0 < i' ∧ w3.ownsRow w2.heap.size 2 1 g (N k + i') (lv .i64 (markL k (N k + i'))))) ∧ Below w2.heap.size w2 w3) (fun _ i _ => 64 - (intOf i).toNat)
          case atStart => exact ⟨0, Nat.zero_le _, rfl, hide (.inl ⟨rfl, rfl⟩), Below.refl _ _⟩
          case round =>
            obtain ⟨w3, hw3⟩ : ∃ x, x = wr := ⟨_, rfl⟩
            subst hw3
            obtain ⟨i, hi, rfl, HD, hB3⟩ := hrel
            have hc3 := (hB3.cell (p := ⟨L, k, none⟩) HT2.out.lt).trans hc
            clear hc
            by_cases hil : i < 64
            · rcases HD.out with ⟨rfl, rfl⟩ | ⟨hi0, hown⟩
              · clear HD
                go_wp2_with (first
                  | (go_at_call 70; refine (markLongs_any _ _ _ (by omega) (by omega) (by omega) (by omega)).mono ?_; rintro e w' ⟨rfl, rfl⟩)
                  | (at_builtin; refine wpList_append_grows _ rfl _ _ 23 rfl 2 i1 (.int .i64 0) 1 8 Tryz.underlying23 hi1 hza1 hzb1 hzc1 rfl (by decide) (A k) (N k) (N k) (lv .i64 (markL k (N k))) rfl HNo.out ?h2 ?h3 ⟨_, 0, none⟩ 1 1 [.int .i64 (1000003 * ((k : Int) + 1) + (N k : Int))] rfl rfl ?c1 ?c2 ?c3 ?c4 ?c5 ?_)
                  | go_in)
                case h2 => rw [lv_len, markL_len]; omega
                case h3 => exact HOld.out _ (hB3.alloc hB3.size _)
                case c1 =>
                  intro j u hj
                  match j, hj with
                  | 0, hj => simp at hj; subst hj; simp [Addr.add]
                case c2 => intro u hu; simp at hu; subst hu; rfl
                case c3 => omega
                case c4 => unfold maxLen; omega
                case c5 => omega
                intro v' w4 hown' hgrow
                have hB4 : Below w2.heap.size w2 w4 := (hB3.alloc hB3.size _).grown hgrow (hB3.alloc hB3.size _).size (fun k hk => by cases hk)
                have HR : Hid (w4.ownsRow w2.heap.size 2 1 v' (N k + 1) (lv .i64 (markL k (N k + 1)))) := by
                  show w4.ownsRow _ _ _ _ _ _
                  rw [markL_succ]
                  exact own_base hown' (by have := hB3.size; omega)
                clear hown' hgrow
                go_wp2
                go_roundw
                case rel => exact ⟨1, by omega, by go_num, hide (.inr ⟨by omega, HR.out⟩), hB4⟩
                case measure => simp [intOf]
              · clear HD
                have HR0 := hide (markL_succ k (N k + i))
                go_wp2_with (first
                  | (go_at_call 70; refine (markLongs_any _ _ _ (by omega) (by omega) (by omega) (by omega)).mono ?_; rintro e w' ⟨rfl, rfl⟩)
                  | (at_builtin; refine wpList_append_own _ rfl _ _ 23 rfl w2.heap.size 2 i1 (.int .i64 0) 1 8 Tryz.underlying23 hi1 hza1 hzb1 hzc1 rfl (by decide) _ _ _ rfl (hown.alloc _) ⟨_, 0, none⟩ 1 1 [.int .i64 (1000003 * ((k : Int) + 1) + ((N k : Int) + (i : Int)))] rfl rfl ?d1 ?d2 ?d3 ?d4 ?d5 ?_)
                  | go_in)
                case d1 =>
                  intro j u hj
                  match j, hj with
                  | 0, hj => simp at hj; subst hj; simp [Addr.add]
                case d2 => intro u hu; simp at hu; subst hu; rfl
                case d3 => unfold maxLen; omega
                case d4 => omega
                case d5 => exact (hB3.alloc hB3.size _).size
                intro v' w4 hown' hgrow _
                have hB4 : Below w2.heap.size w2 w4 := (hB3.alloc hB3.size _).grown hgrow (hB3.alloc hB3.size _).size (fun k hk => (hown.lt k hk).1)
                have HR : Hid (w4.ownsRow w2.heap.size 2 1 v' (N k + (i + 1)) (lv .i64 (markL k (N k + (i + 1))))) := by
                  show w4.ownsRow _ _ _ _ _ _
                  rw [← Nat.add_assoc, HR0.out]
                  unfold mrk
                  rw [Int.natCast_add]
                  exact hown'
                clear hown' hgrow hown
                go_wp2
                go_roundw
                case rel => exact ⟨i + 1, by omega, by go_num, hide (.inr ⟨by omega, HR.out⟩), hB4⟩
                case measure => simp [intOf]; omega
            · have hi' : i = 64 := by omega
              subst hi'
              rcases HD.out with ⟨h0, _⟩ | ⟨_, hown⟩
              · omega
              clear HD HOld HNo hil hi
              have hOg := own_later HO.out hB3
              have hGl : gl.length = k := by have h := HO.out.1; omega
              have hB3' := hB.trans (hB3.mono hB.size)
              have HG3 : Hid (Gs w3 w1.heap.size N gl k) := by
                intro j hj
                obtain ⟨g, h1, h2⟩ := HG.out j hj
                exact ⟨g, h1, own_later h2 hB3⟩
              have HOw := hide (own_base hown hB.size)
              obtain ⟨q, cq, rfl, _, _⟩ := hown.form (by omega)
              clear hown HG HO
              go_wp2_with (first
                | (at_builtin; refine wpList_append_own _ rfl _ _ 40 rfl w1.heap.size 23 i2 (.slice none 0 0) 1 24 Tryz.underlying40 hi2 hza2 hzb2 hzc2 rfl (by decide) _ _ _ rfl (hOg.alloc _) ⟨_, 0, none⟩ 1 1 [.slice (some ⟨q, 0, none⟩) (N k + 64) cq] rfl rfl ?e1 ?e2 ?e3 ?e4 ?e5 ?_)
                | go_in)
              case e1 =>
                intro j u hj
                match j, hj with
                | 0, hj => simp at hj; subst hj; simp [Addr.add]
              case e2 => intro u hu; simp at hu; subst hu; rfl
              case e3 => unfold maxLen; omega
              case e4 => omega
              case e5 => exact (hB3'.alloc hB3'.size _).size
              intro v' w5 hO5 hg5 _
              have hK5 := own_kind (hOg.alloc (.cells #[.slice (some ⟨q, 0, none⟩) (N k + 64) cq] 23))
              have hB5 := (hB3'.alloc hB3'.size _).grown hg5 (hB3'.alloc hB3'.size _).size (fun k hk => (hOg.lt k hk).1)
              have HG5 := hide (HG3.out.more hGl (fun v n xs h => keep_other hg5 hK5 (h.alloc _) (by decide)) (keep_other hg5 hK5 (HOw.out.alloc _) (by decide)))
              have HO5 := hide hO5
              clear hO5 hg5 hK5 hOg HOw HG3
              go_wp2
              go_roundw
              case rel => exact ⟨k + 1, _, by omega, by go_num, HO5, HG5, hB5⟩
              case measure => simp [intOf]; omega
        · have hk' : k = 3 := by omega
          subst hk'
          rw [show ((3 : Nat) : Int) = 3 from rfl]
          have HGc : Hid (∀ gs, w2.ownsRow w1.heap.size 23 1 gs 3 gl → ∃ q cq, gs = .slice (some ⟨q, 0, none⟩) 3 cq ∧ ∀ j, j < 3 → ∃ p c, w2.cell? ⟨q, j, none⟩ = some (.slice (some ⟨p, 0, none⟩) (N j + 64) c) ∧ ∀ i, i < N j + 64 → w2.cell? ⟨p, i, none⟩ = some (.int .i64 (mrk j i))) := by
            intro gs hgs
            obtain ⟨q, cq, rfl, _, _⟩ := hgs.form (by omega)
            refine ⟨q, cq, rfl, fun j hj => ?_⟩
            obtain ⟨g, h1, h2⟩ := HG.out j hj
            obtain ⟨p, c, rfl, _, _⟩ := h2.form (by omega)
            refine ⟨p, c, ?_, fun i hi => ?_⟩
            · rw [World.ownsRow.cellAt hgs j (by omega)]; exact h1
            · rw [World.ownsRow.cellAt h2 i (by omega)]
              unfold lv; rw [List.getElem?_map, markL_at hi]; rfl
          have HM2 : Hid (∀ m, m < 3 → ∀ j, j < N m → ∃ P, A m = some ⟨P, 0, none⟩ ∧ w2.cell? ⟨P, j, none⟩ = some (.int .i64 (mrk m j))) := by
            intro m hm j hj
            rcases HT.out.rows m hm with h1 | ⟨P, f, h1, _, _, h4⟩
            · omega
            · exact ⟨P, h1, by rw [hB.cell (p := ⟨P, j, none⟩) h4.lt]; exact HM1.out m hm j hj P h1⟩
          obtain ⟨q, cq, rfl, hq⟩ := HGc.out _ HO.out
          have HQ := hide hq
          have HBe := hide (HB1.out.trans (hB.mono (Nat.le_trans hBw HB1.out.size)))
          clear hq HGc HG HO HM1 HT hlt hk
          go_wp2_with fail
          go_loop [9] (fun i => ∃ k : Nat, k ≤ 3 ∧ i = .int .i64 k) (fun i => 3 - (intOf i).toNat)
          case atStart => exact ⟨0, Nat.zero_le _, rfl⟩
          case round =>
            obtain ⟨k, hk, rfl⟩ := hrel
            by_cases hlt : k < 3
            · have hn := HN.out k
              have hd : decide ((k : Int) < 3) = true := by rw [decide_eq_true_eq]; omega
              have hc := HT2.out.cells k hlt
              obtain ⟨p, cp, hp, hpc⟩ := HQ.out k hlt
              have HPC := hide hpc
              clear hpc
              go_wp2_with fail
              go_loop [10] (fun i => ∃ i' : Nat, i' ≤ N k + 64 ∧ i = .int .i64 i') (fun i => N k + 64 - (intOf i).toNat)
              case atStart => exact ⟨0, Nat.zero_le _, rfl⟩
              case round =>
                obtain ⟨i, hi, rfl⟩ := hrel
                by_cases hil : i < N k + 64
                · have hpi := HPC.out i hil
                  unfold mrk at hpi
                  by_cases hin : i < N k
                  · obtain ⟨P, hA, hPi⟩ := HM2.out k hlt i hin
                    unfold mrk at hPi
                    rw [hA] at hc
                    go_wp2_with (first
                      | (go_at_call 70; refine (markLongs_any _ _ _ (by omega) (by omega) (by omega) (by omega)).mono ?_; rintro e w' ⟨rfl, rfl⟩)
                      | go_in)
                    exact ⟨⟨i + 1, by omega, by go_num⟩, by simp [intOf]; omega⟩
                  · go_wp2_with (first
                      | (go_at_call 70; refine (markLongs_any _ _ _ (by omega) (by omega) (by omega) (by omega)).mono ?_; rintro e w' ⟨rfl, rfl⟩)
                      | go_in)
                    exact ⟨⟨i + 1, by omega, by go_num⟩, by simp [intOf]; omega⟩
                · have hi' : i = N k + 64 := by omega
                  subst hi'
                  go_wp2_with fail
                  exact ⟨⟨k + 1, by omega, by go_num⟩, by simp [intOf]; omega⟩
            · go_wp2_with fail
              go_ret
              exact ⟨rfl, HBe.out⟩
end Go.Proofs.YthmbfdjbjljaiaaGreatDoor
