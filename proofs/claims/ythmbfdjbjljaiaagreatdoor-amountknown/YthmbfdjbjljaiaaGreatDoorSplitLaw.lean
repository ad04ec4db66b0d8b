/-
  My own text: the law on dealing out.
-/
import Derived.Test.YthmbfdjbjljaiaaGreatDoorApart
import Derived.Test.YthmbfdjbjljaiaaGreatDoorSame
namespace Go.Proofs.YthmbfdjbjljaiaaGreatDoor
open Go.RowKit

/-- Where a list of its own lies. -/
def OwnA (w : World) (lo hi : Nat) (a : Option Addr) (n : Nat) : Prop := (a = none ∧ n = 0) ∨ ∃ P f, a = some ⟨P, 0, none⟩ ∧ lo ≤ P ∧ P < hi ∧ w.rowIs P 2 n f
theorem Own.addr {w : World} {B : Nat} {r : Value} {o : List Int} (h : Own w B r o) : ∃ a, r = .slice a o.length o.length ∧ OwnA w B w.heap.size a o.length := by
  rcases h with ⟨rfl, rfl⟩ | ⟨P, rfl, hP, hr⟩
  · exact ⟨none, rfl, .inl ⟨rfl, rfl⟩⟩
  · exact ⟨_, rfl, .inr ⟨P, _, rfl, hP, hr.lt, hr⟩⟩
theorem OwnA.later {w w1 : World} {lo hi B : Nat} {a : Option Addr} {n : Nat} (h : OwnA w lo hi a n) (hb : Below B w w1) (hB : hi ≤ B) : OwnA w1 lo hi a n := by
  rcases h with h | ⟨P, f, h1, h2, h3, h4⟩
  · exact .inl h
  · exact .inr ⟨P, f, h1, h2, h3, h4.of_block (hb.block P (by omega))⟩
theorem OwnA.put {w : World} {lo hi g i : Nat} {a : Option Addr} {n : Nat} {v : Value} (h : OwnA w lo hi a n) (hg : g < lo) : OwnA (w.setCell ⟨g, i, none⟩ v) lo hi a n := by
  rcases h with h | ⟨P, f, h1, h2, h3, h4⟩
  · exact .inl h
  · exact .inr ⟨P, f, h1, h2, h3, h4.setOther (a := ⟨g, i, none⟩) (by simp; omega) v⟩
theorem OwnA.mono {w : World} {lo hi lo' hi' : Nat} {a : Option Addr} {n : Nat} (h : OwnA w lo hi a n) (h1 : lo' ≤ lo) (h2 : hi ≤ hi') : OwnA w lo' hi' a n := by
  rcases h with h | ⟨P, f, g1, g2, g3, g4⟩
  · exact .inl h
  · exact .inr ⟨P, f, g1, by omega, by omega, g4⟩
def aOf (a b c : Option Addr) (k : Nat) : Option Addr := if k = 0 then a else if k = 1 then b else c
def nOf (a b c : Nat) (k : Nat) : Nat := if k = 0 then a else if k = 1 then b else c
theorem three_of {w : World} {B x y z : Nat} {a b c : Option Addr} {n m o : Nat} (hB : B ≤ x) (hxy : x ≤ y) (hyz : y ≤ z) (h1 : OwnA w x y a n) (h2 : OwnA w y z b m) (h3 : OwnA w z w.heap.size c o) :
    Three (w.alloc (.cells #[.slice a n n, .slice b m m, .slice c o o] 23)) B w.heap.size (aOf a b c) (nOf n m o) := by
  have hblk := block_new w (.cells #[.slice a n n, .slice b m m, .slice c o o] 23)
  have up : ∀ {lo hi : Nat} {d : Option Addr} {q : Nat}, OwnA w lo hi d q → B ≤ lo → (d = none ∧ q = 0) ∨ ∃ P f, d = some ⟨P, 0, none⟩ ∧ B ≤ P ∧ P ≠ w.heap.size ∧ (w.alloc (.cells #[.slice a n n, .slice b m m, .slice c o o] 23)).rowIs P 2 q f := by
    intro lo hi d q h hlo
    rcases h with h | ⟨P, f, g1, g2, g3, g4⟩
    · exact .inl h
    · exact .inr ⟨P, f, g1, by omega, by have := g4.lt; omega, g4.alloc _⟩
  have at1 : ∀ {lo hi : Nat} {d : Option Addr} {q P : Nat}, OwnA w lo hi d q → d = some ⟨P, 0, none⟩ → lo ≤ P ∧ P < hi := by
    intro lo hi d q P h hd
    rcases h with h | ⟨Q, f, g1, g2, g3, g4⟩
    · rw [h.1] at hd; cases hd
    · rw [g1] at hd; cases hd; exact ⟨g2, g3⟩
  refine ⟨by simp, fun k hk => ?_, fun k hk => ?_, fun j k P hj hk h4 h5 => ?_⟩
  · match k, hk with
    | 0, _ => unfold World.cell?; rw [hblk]; rfl
    | 1, _ => unfold World.cell?; rw [hblk]; rfl
    | 2, _ => unfold World.cell?; rw [hblk]; rfl
  · match k, hk with
    | 0, _ => exact up h1 hB
    | 1, _ => exact up h2 (by omega)
    | 2, _ => exact up h3 (by omega)
  · match j, hj, k, hk with
    | 0, _, 0, _ => rfl
    | 1, _, 1, _ => rfl
    | 2, _, 2, _ => rfl
    | 0, _, 1, _ => have := at1 h1 h4; have := at1 h2 h5; omega
    | 0, _, 2, _ => have := at1 h1 h4; have := at1 h3 h5; omega
    | 1, _, 0, _ => have := at1 h2 h4; have := at1 h1 h5; omega
    | 1, _, 2, _ => have := at1 h2 h4; have := at1 h3 h5; omega
    | 2, _, 0, _ => have := at1 h3 h4; have := at1 h1 h5; omega
    | 2, _, 1, _ => have := at1 h3 h4; have := at1 h2 h5; omega
/-- A list that was lent lies in a block that is not frozen. -/
def Free (w : World) (g : Nat) : Prop := ∃ cs, w.heap[g]? = some (.cells cs 2)
theorem Free.lt {w : World} {g : Nat} (h : Free w g) : g < w.heap.size := by
  obtain ⟨cs, h⟩ := h; exact (Array.getElem?_eq_some_iff.1 h).1
theorem Free.at {w : World} {g : Nat} (h : Free w g) (i : Nat) : w.frozen? ⟨g, i, none⟩ = false := by
  obtain ⟨cs, h⟩ := h; simp [World.frozen?, h]
theorem Free.later {w w1 : World} {g : Nat} (h : Free w g) (hb : Below w.heap.size w w1) : Free w1 g := by
  have hl := h.lt
  obtain ⟨cs, h⟩ := h; exact ⟨cs, (hb.block g hl).trans h⟩
theorem Free.put {w : World} {g i : Nat} {v : Value} (h : Free w g) : Free (w.setCell ⟨g, i, none⟩ v) g := by
  obtain ⟨cs, h⟩ := h; exact ⟨cs.setIfInBounds i v, by simp [World.setCell, Array.getElem?_modify, h]⟩
set_option maxHeartbeats 1000000 in
theorem lentLongs_free (v : Value) (l : List Int) (w : World) (hv : RI w .i64 v l) (hl : l.length ≤ 17592186043904) :
    Calls Tryz.prog 29 #[v] w fun e w' => ∃ g cap, e = .returned (.slice (some ⟨g, 0, none⟩) l.length cap) ∧ Lent w' w.heap.size g cap l ∧ Free w' g ∧ Below w.heap.size w w' := by
  have hf := hide (fullLongs_any v l w hv hl)
  obtain ⟨a, c0, rfl, hr⟩ := hv
  clear hr
  go_enter Tryz.func29, Tryz.ntmps29
  go_wp2_with fail
  refine (unhide hf).mono ?_
  rintro e w1 ⟨v', rfl, hown, hB⟩
  obtain ⟨g, cap, hv', hL⟩ := lent_of_owns hown
  have hF : Free w1 g := by
    rcases hown.2 with ⟨_, h0⟩ | ⟨g', cap', cur, h1, _, h2, _⟩
    · omega
    · rw [hv'] at h1; cases h1; exact ⟨cur, h2⟩
  rw [hv']
  have hc := hL.cap
  have hc2 : l.length ≤ cap := by omega
  clear hown hv'
  go_wp2_with fail
  go_ret
  exact ⟨g, cap, rfl, hL, hF, hB⟩
theorem Own.put {w : World} {B g i : Nat} {r : Value} {o : List Int} {v : Value} (h : Own w B r o) (hg : g < B) : Own (w.setCell ⟨g, i, none⟩ v) B r o := by
  rcases h with h | ⟨P, h1, h2, h3⟩
  · exact .inl h
  · exact .inr ⟨P, h1, h2, h3.setOther (a := ⟨g, i, none⟩) (by simp; omega) v⟩
theorem own_again {w w' : World} {B lo hi : Nat} {r : Value} {o : List Int} {a : Option Addr} (h : Own w' B r o) (hr : r = .slice a o.length o.length) (hA : OwnA w lo hi a o.length) : OwnA w' lo hi a o.length := by
  rcases h with ⟨rfl, rfl⟩ | ⟨P, rfl, hP, h3⟩
  · cases hr; exact .inl ⟨rfl, rfl⟩
  · cases hr
    rcases hA with h | ⟨Q, f, h1, h2, h4, _⟩
    · cases h.1
    · cases h1; exact .inr ⟨P, _, rfl, h2, h4, h3⟩
theorem ri_own {w : World} {B e : Nat} {v : Value} {l : List Int} (h : w.ownsRow B e 1 v l.length (lv .i64 l)) : RI w .i64 v l := by
  by_cases hl : 0 < l.length
  · obtain ⟨g, cap, rfl, _, hlt⟩ := h.form hl
    refine ⟨_, cap, rfl, .inr ⟨g, 0, rfl, hlt, fun j x hx => ?_⟩⟩
    have hj := (List.getElem?_eq_some_iff.1 hx).1
    rw [Nat.zero_add, World.ownsRow.cellAt h j (by omega)]
    unfold lv; rw [List.getElem?_map, hx]; rfl
  · have h0 : l = [] := List.eq_nil_of_length_eq_zero (by omega)
    subst h0
    rcases h.2 with ⟨rfl, _⟩ | ⟨g, cap, cur, rfl, _⟩
    · exact ⟨_, _, rfl, .inl rfl⟩
    · exact ⟨_, cap, rfl, .inl rfl⟩
/-- Threes for the weights. -/
def threes (l : List Int) : List Int := List.replicate l.length 3
theorem threes_len (l : List Int) : (threes l).length = l.length := by simp [threes]
theorem threes_in (l : List Int) : ∀ x ∈ threes l, -9223372036854775808 ≤ x ∧ x ≤ 9223372036854775807 := by
  intro x hx; have := (List.mem_replicate.1 hx).2; omega

set_option maxRecDepth 100000 in
set_option maxHeartbeats 4000000 in
theorem split_law (n : Int) (a : Option Addr) (cap : Nat) (l : List Int) (w : World) (hE : ErrType w) (hv : RI w .i64 (.slice a l.length cap) l) (hl : l.length ≤ 17592186043904) (hb : ∀ x ∈ l, -9223372036854775808 ≤ x ∧ x ≤ 9223372036854775807) (n1 : n ≤ 9223372036854775807) :
    Calls Tryz.prog 17 #[.int .i64 n, .slice a l.length cap] w fun e w' => e = .returned (.bool true) ∧ Below w.heap.size w w' := by
  have HV := hide hv
  have HB := hide hb
  have HEr := hide (wE_lo n l)
  have HE3 := hide (wE_lo n (threes l))
  have HRl := hide (splitR_len n l)
  have HR3 := hide (splitR_len n (threes l))
  clear hv hb
  go_enter Tryz.func17, Tryz.ntmps17
  go_wp2_with fail
  refine (refSplit_any n _ l _ HV.out (by omega) HB.out n1).mono ?_
  rintro e w1 ⟨want, rfl, hwant, hb1⟩
  have HW := hide hwant
  clear hwant
  go_wp2_with fail
  refine (lentLongs_free _ l _ (HV.out.later hb1) hl).mono ?_
  rintro e w2 ⟨g, cg, rfl, hL, hF, hb2⟩
  have HL := hide hL
  have HF := hide hF
  clear hL hF
  go_wp2_with fail
  refine (split_any n _ l _ HL.out.ri (by omega) HB.out n1).mono ?_
  rintro e w3 ⟨r1, rfl, ho1, hb3⟩
  have HO1 := hide ho1
  clear ho1
  go_wp2_with fail
  refine (split_any n _ l _ (HL.out.later hb3).ri (by omega) HB.out n1).mono ?_
  rintro e w4 ⟨r2, rfl, ho2, hb4⟩
  have HO2 := hide ho2
  clear ho2
  go_wp2_with fail
  have hs1 := hb1.size
  have hs2 := hb2.size
  have hs3 := hb3.size
  have hs4 := hb4.size
  have hB4 : Below w1.heap.size w1 w4 := (hb2.trans (hb3.mono (by omega))).trans (hb4.mono (by omega))
  have hE4 := hE.below (hb1.trans (hB4.mono (by omega)))
  refine (plain_errV (wE n l) (wE n l) _ HEr.out.1 HEr.out.2 hE4).mono ?_
  rintro e w5 ⟨rfl, hb5⟩
  rw [beq_self_eq_true]
  go_wp2_with fail
  have hs5 := hb5.size
  refine (plain_errV (wE n l) (wE n l) _ HEr.out.1 HEr.out.2 (hE4.below hb5)).mono ?_
  rintro e w6 ⟨rfl, hb6⟩
  rw [beq_self_eq_true]
  go_wp2_with fail
  have hs6 := hb6.size
  have hB6 : Below w1.heap.size w1 w6 := (hB4.trans (hb5.mono (by omega))).trans (hb6.mono (by omega))
  have HO1' := hide (((HO1.out.later hb4 (Nat.le_refl _)).later hb5 (Nat.le_refl _)).later hb6 (Nat.le_refl _))
  have HO2' := hide ((HO2.out.later hb5 (Nat.le_refl _)).later hb6 (Nat.le_refl _))
  have HL' := hide ((((HL.out.later hb3).later hb4).later hb5).later hb6)
  have HF' := hide ((((HF.out.later hb3).later hb4).later hb5).later hb6)
  have hglt := HL.out.lt
  have HP1 := hide HO1.out.addr
  have HP2 := hide HO2.out.addr
  clear HO1 HO2 HL HF hb2 hb3 hb4 hb5 hb6 hB4 hE4
  refine (sameLongs_any _ _ _ _ _ HO1'.out.ri (HW.out.later hB6) (by have := HRl.out; omega)).mono ?_
  rintro e w7 ⟨rfl, hb7⟩
  rw [decide_eq_true (rfl : splitR n l = splitR n l)]
  go_wp2_with fail
  have hs7 := hb7.size
  have hB7 : Below w1.heap.size w1 w7 := hB6.trans (hb7.mono (by omega))
  refine (sameLongs_any _ _ _ _ _ (HO2'.out.later hb7 (Nat.le_refl _)).ri (HW.out.later hB7) (by have := HRl.out; omega)).mono ?_
  rintro e w8 ⟨rfl, hb8⟩
  rw [decide_eq_true (rfl : splitR n l = splitR n l)]
  go_wp2_with fail
  have hs8 := hb8.size
  have hB8 : Below w1.heap.size w1 w8 := hB7.trans (hb8.mono (by omega))
  have HB8 := hide (hb1.trans (hB8.mono hs1))
  refine (keptLongs_any g cg w1.heap.size _ l _ ((HL'.out.later hb7).later hb8) (HV.out.later HB8.out) hl).mono ?_
  rintro e w9 ⟨rfl, rfl⟩
  go_wp2_with fail
  have HO1w := hide ((HO1'.out.later hb7 (Nat.le_refl _)).later hb8 (Nat.le_refl _))
  have HO2w := hide ((HO2'.out.later hb7 (Nat.le_refl _)).later hb8 (Nat.le_refl _))
  have HFw := hide ((HF'.out.later hb7).later hb8)
  have HCw : Hid (∀ j, j < l.length → ∃ x, w9.cell? ⟨g, j, none⟩ = some (.int .i64 x) ∧ (j < 0 → x = 3)) := by
    intro j hj
    obtain ⟨x, hx⟩ := some_at hj
    exact ⟨x, ((HL'.out.later hb7).later hb8).cell j x (by rw [List.getElem?_append_left hj]; exact hx), fun h => by omega⟩
  have hgb := HL'.out.base
  clear HO1' HO2' HF' hb7 hb8 hB6 hB7
  go_loopw [12] (fun i wr => ∃ k : Nat, k ≤ l.length ∧ i = .int .i64 k ∧ Hid (Own wr w2.heap.size r1 (splitR n l)) ∧ Hid (Own wr w3.heap.size r2 (splitR n l)) ∧ Hid (Free wr g) ∧ Hid (∀ j, j < l.length → ∃ x, wr.cell? ⟨g, j, none⟩ = some (.int .i64 x) ∧ (j < k → x = 3)) ∧ Below w1.heap.size w1 wr ∧ w4.heap.size ≤ wr.heap.size) (fun i _ => l.length - (intOf i).toNat)
  case atStart => exact ⟨0, Nat.zero_le _, rfl, HO1w, HO2w, HFw, HCw, hB8, by omega⟩
  case round =>
    clear HO1w HO2w HFw HCw hB8
    obtain ⟨k, hk, rfl, HO1, HO2, HF, HC, hB, hz⟩ := hrel
    by_cases hlt : k < l.length
    · obtain ⟨x, hx, _⟩ := HC.out k hlt
      have hfz := HF.out.at k
      have HC' : Hid (∀ j, j < l.length → ∃ x, (wr.setCell ⟨g, k, none⟩ (.int .i64 3)).cell? ⟨g, j, none⟩ = some (.int .i64 x) ∧ (j < k + 1 → x = 3)) := by
        intro j hj
        by_cases e : j = k
        · subst e; exact ⟨3, World.cell?_setCell_same _ _ _ hx, fun _ => rfl⟩
        · obtain ⟨y, hy, h3⟩ := HC.out j hj
          exact ⟨y, cell_other hy (Or.inr (fun h => e h.symm)), fun h => h3 (by omega)⟩
      have HF' := hide (HF.out.put (i := k) (v := .int .i64 3))
      have hg2 : g < w2.heap.size := hglt
      go_wp2_with fail
      go_roundw
      case rel => exact ⟨k + 1, by omega, by go_num, hide (HO1.out.put (by omega)), hide (HO2.out.put (by omega)), HF', HC', hB.setCell (p := ⟨g, k, none⟩) hgb _, by simpa using hz⟩
      case measure => simp [intOf]; omega
    · have hk' : k = l.length := by omega
      subst hk'
      have HR : Hid (RI wr .i64 (.slice (some ⟨g, 0, none⟩) l.length cg) (threes l)) := by
        refine ⟨_, cg, by rw [threes_len], .inr ⟨g, 0, rfl, HF.out.lt, fun j x hx => ?_⟩⟩
        have hj := (List.getElem?_eq_some_iff.1 hx).1
        rw [threes_len] at hj
        obtain ⟨y, hy, h3⟩ := HC.out j hj
        rw [h3 hj] at hy
        rw [Nat.zero_add, hy]
        have : x = 3 := (List.mem_replicate.1 (List.mem_of_getElem? hx)).2
        rw [this]
      obtain ⟨wk, hwk⟩ : ∃ x, x = wr := ⟨_, rfl⟩
      subst hwk
      clear HC hlt hk
      go_wp2_with fail
      refine (copyLongs_any _ (threes l) _ HR.out (by rw [threes_len]; omega)).mono ?_
      rintro e wc ⟨cp, rfl, hcp, hbc⟩
      have HCP := hide (ri_own hcp)
      clear hcp
      go_wp2_with fail
      refine (refSplit_any n _ (threes l) _ HCP.out (by rw [threes_len]; omega) (threes_in l) n1).mono ?_
      rintro e wd ⟨next, rfl, hnext, hbd⟩
      have HNX := hide hnext
      clear hnext
      go_wp2_with fail
      refine (split_any n _ (threes l) _ ((HR.out.later hbc).later hbd) (by rw [threes_len]; omega) (threes_in l) n1).mono ?_
      rintro e we ⟨r3, rfl, ho3, hbe⟩
      have HO3 := hide ho3
      clear ho3
      go_wp2_with fail
      have zc := hbc.size
      have zd := hbd.size
      have ze := hbe.size
      have z1 := hB.size
      have hBe : Below w1.heap.size w1 we := ((hB.trans (hbc.mono (by omega))).trans (hbd.mono (by omega))).trans (hbe.mono (by omega))
      refine (plain_errV (wE n (threes l)) (wE n (threes l)) _ HE3.out.1 HE3.out.2 (hE.below (hb1.trans (hBe.mono hs1)))).mono ?_
      rintro e wf ⟨rfl, hbf⟩
      rw [beq_self_eq_true]
      go_wp2_with fail
      have zf := hbf.size
      refine (sameLongs_any _ _ _ _ _ (HO3.out.later hbf (Nat.le_refl _)).ri ((HNX.out.later hbe).later hbf) (by have := HR3.out; rw [threes_len] at this; omega)).mono ?_
      rintro e wg ⟨rfl, hbg⟩
      rw [decide_eq_true (rfl : splitR n (threes l) = splitR n (threes l))]
      go_wp2_with fail
      have zg := hbg.size
      have hBg : Below wk.heap.size wk wg := (((hbc.trans (hbd.mono zc)).trans (hbe.mono (by omega))).trans (hbf.mono (by omega))).trans (hbg.mono (by omega))
      have hBg1 : Below w1.heap.size w1 wg := hB.trans (hBg.mono (by omega))
      refine (sameLongs_any _ _ _ _ _ (HO1.out.later hBg (Nat.le_refl _)).ri (HW.out.later hBg1) (by have := HRl.out; omega)).mono ?_
      rintro e wh ⟨rfl, hbh⟩
      rw [decide_eq_true (rfl : splitR n l = splitR n l)]
      go_wp2_with fail
      have zh := hbh.size
      have hBh : Below wk.heap.size wk wh := hBg.trans (hbh.mono (by omega))
      have hBh1 : Below w1.heap.size w1 wh := hB.trans (hBh.mono (by omega))
      refine (sameLongs_any _ _ _ _ _ (HO2.out.later hBh (Nat.le_refl _)).ri (HW.out.later hBh1) (by have := HRl.out; omega)).mono ?_
      rintro e wi ⟨rfl, hbi⟩
      rw [decide_eq_true (rfl : splitR n l = splitR n l)]
      have zi := hbi.size
      have hBi : Below wk.heap.size wk wi := hBh.trans (hbi.mono (by omega))
      have hBi1 : Below w.heap.size w wi := hb1.trans ((hB.trans (hBi.mono (by omega))).mono hs1)
      obtain ⟨a1, hr1, hA1⟩ := HP1.out
      obtain ⟨a2, hr2, hA2⟩ := HP2.out
      obtain ⟨a3, hr3, hA3⟩ := HO3.out.addr
      have hO3i : Own wi wd.heap.size r3 (splitR n (threes l)) := (HO3.out.later hbf (Nat.le_refl _)).later (((hbg.trans (hbh.mono (by omega))).trans (hbi.mono (by omega)))) (Nat.le_refl _)
      have g1 := own_again (HO1.out.later hBi (Nat.le_refl _)) hr1 hA1
      have g2 := own_again (HO2.out.later hBi (Nat.le_refl _)) hr2 hA2
      have g3 := (own_again hO3i hr3 hA3).mono (lo' := w4.heap.size) (hi' := wi.heap.size) (by omega) (by omega)
      have HT := hide (three_of (B := w.heap.size) (by omega) (by omega) (by omega) g1 g2 g3)
      have HNN : Hid (∀ k, nOf (splitR n l).length (splitR n l).length (splitR n (threes l)).length k ≤ 17592186043904) := by
        intro k
        have h1 := HRl.out
        have h2 := HR3.out
        rw [threes_len] at h2
        unfold nOf; split
        · omega
        · split <;> omega
      subst hr1 hr2 hr3
      clear hA1 hA2 hA3 g1 g2 g3 hO3i
      go_wp2_with fail
      refine (apartLongs_three w.heap.size _ _ _ _ HT.out HNN.out (by simp; omega)).mono ?_
      rintro e wj ⟨rfl, hbj⟩
      go_wp2_with fail
      go_ret
      exact ⟨rfl, (hBi1.alloc hBi1.size _).trans hbj⟩
end Go.Proofs.YthmbfdjbjljaiaaGreatDoor
