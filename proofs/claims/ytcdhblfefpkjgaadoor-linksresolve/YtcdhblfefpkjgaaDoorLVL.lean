/-
  My own text: layer 23: the document's Resolve.
-/
import Derived.Test.YtcdhblfefpkjgaaDoorLVK
import Derived.Test.YtcdhblfefpkjgaaDoorQRz
namespace Go.Proofs.YtcdhblfefpkjgaaDoor
open Go.RowKit

theorem wrong_of {R : List (List UInt8)} {T : List (List Lk)} {pr : Nat → Int} {b : Int × Int × Int} (h : WrR R T b) (hb : b.1 ≠ 0) : AnsR R T pr [] b := by
  cases h with
  | many h => exact .many h
  | twice h x p hx hm ho => exact .twice h x p hx hm ho
  | link h ho x i l q no hl hq hr hw => exact .link h ho x i l q no hl hq hr hw
  | ok h ho hr => exact (hb rfl).elim
theorem right_of {R : List (List UInt8)} {T : List (List Lk)} {b : Int × Int × Int} (h : WrR R T b) (hb : b.1 = 0) : tooB R.length (KT T) = false ∧ Once R R.length ∧ Rgt R T T.length 0 := by
  cases h with
  | many h => cases hb
  | twice h x p hx hm ho => cases hb
  | link h ho x i l q no hl hq hr hw => dsimp only at hb; rcases hw with ⟨_, e⟩ | ⟨_, _, e⟩ <;> omega
  | ok h ho hr => exact ⟨h, ho, hr⟩
/-- append(row, pair) of a row of one's own, the pair in a literal's cells. -/
theorem run_append_tw (w : World) (B : Nat) (ty : TypeId) (v : Value) (M : List (Int × Int)) (x y : Int) (g : Nat) (hown : TW.OM w B v M) (h0 : w.cell? ⟨g, 0, none⟩ = some (.int .i64 x)) (h1 : w.cell? ⟨g, 1, none⟩ = some (.int .i64 y)) (hn : M.length + 1 ≤ 1000000) (hB : B ≤ w.heap.size) :
    ∃ v' w', (Builtin.append_ #[47, 47] ty #[v, .slice (some ⟨g, 0, none⟩) 1 1]).run Tryd.prog w = .ok v' w' ∧ TW.OM w' B v' (M ++ [(x, y)]) ∧ Grew w v w' v' := by
  obtain ⟨i0, hi, hz0, hz1, hz2⟩ := info_parts TW.Tryd.infoMk
  obtain ⟨v', w', hrun, r1, r2, _, r3⟩ := run_append_own_at (P := Tryd.prog) w B 47 ty 46 i0 _ 2 16 Tryd.underlying47 hi hz0 hz1 hz2 rfl (by decide) v M.length (TW.mc M) hown ⟨g, 0, none⟩ 1 1 [.int .i64 x, .int .i64 y] rfl (fun j u hj => by
    match j, hj with
    | 0, hj => simp at hj; subst hj; simpa [Addr.add] using h0
    | 1, hj => simp at hj; subst hj; simpa [Addr.add] using h1) (by intro u hu; simp at hu; rcases hu with rfl | rfl <;> rfl) (by unfold maxLen; omega) (by omega) hB
  refine ⟨v', w', hrun, ?_, r2, fun q hq => ?_⟩
  · unfold TW.OM; rw [List.length_append, TW.mc_app]; exact r1
  · rcases r3 with e | e
    · left; rw [← e]; exact hq
    · right; rw [e] at hq; injection hq with hq; omega
theorem btw_take {NUM : List Nat} {L : List (Int × Int)} {i : Nat} {p : Int × Int} (h : L[i]? = some p) : btw NUM (L.take (i + 1)) = btw NUM (L.take i) ++ [(((NUM.getD p.1.toNat 0 : Nat) : Int), ((NUM.getD p.2.toNat 0 : Nat) : Int))] := by
  unfold btw
  rw [List.take_add_one, h, List.map_append]; rfl
/-- Priorities are written. -/
theorem PW.fill {w : World} {g n j : Nat} {pr : Nat → Int} (h : PW w g n (fun x => if x < j then pr x else 0)) : PW (w.setCell ⟨g, j, none⟩ (.int .i64 (pr j))) g n (fun x => if x < j + 1 then pr x else 0) :=
  (h.set j (pr j)).congr fun k _ => by
    by_cases e : k = j
    · subst e; rw [if_pos rfl, if_pos (by omega)]
    · rw [if_neg e]
      by_cases q : k < j
      · rw [if_pos q, if_pos (by omega)]
      · rw [if_neg q, if_neg (by omega)]
theorem PW.made (w : World) (n : Nat) (pr : Nat → Int) : PW (w.alloc (.cells (madeCells #[.int .i64 0] n) 3)) w.heap.size n (fun x => if x < 0 then pr x else 0) :=
  World.rowIs.congr (World.rowIs_made w (.int .i64 0) n 3) fun i _ => by dsimp only; rw [if_neg (Nat.not_lt_zero _)]
theorem PW.later {w w' : World} {g m : Nat} {A : Nat → Int} (h : PW w g m A) (hb : Below w.heap.size w w') : PW w' g m A := World.rowIs.of_block h (hb.block g (World.rowIs.lt h))
theorem PW.more {w : World} {g n j y : Nat} {hd : Nat → Nat} {pr : Nat → Int} (h : PW w g n (pjT hd pr j)) (hy : hd j = y) (hl : pjT hd pr j y < pr j) : PW (w.setCell ⟨g, y, none⟩ (.int .i64 (pr j))) g n (pjT hd pr (j + 1)) :=
  (h.set y (pr j)).congr fun k _ => by
    rw [pjT_succ, hy]
    by_cases e : k = y
    · subst e; rw [if_pos rfl, if_pos rfl]; omega
    · rw [if_neg e, if_neg e]
theorem PW.same {w : World} {g n j y : Nat} {hd : Nat → Nat} {pr : Nat → Int} (h : PW w g n (pjT hd pr j)) (hy : hd j = y) (hl : ¬ pjT hd pr j y < pr j) : PW w g n (pjT hd pr (j + 1)) :=
  h.congr fun k _ => by
    rw [pjT_succ, hy]
    by_cases e : k = y
    · subst e; rw [if_pos rfl]; omega
    · rw [if_neg e]
theorem tI_few {R : List (List UInt8)} {T : List (List Lk)} (h : ∀ l ∈ T, l.length ≤ 16) {k e : Nat} (hk : k ≤ 4096) (he : e ≤ 16) : (tI (wOf R) T k e).length ≤ 65552 ∧ (tI (bOf R) T k e).length ≤ 65552 := by
  have h1 := tI_len (f := wOf R) (wOf_len R) h k e
  have h2 := tI_len (f := bOf R) (bOf_len R) h k e
  omega
theorem nam_nat {n : Nat} {q0 q1 : Int} (h : (0 ≤ (q0, q1).1 ∧ 0 ≤ (q0, q1).2) ∧ ((q0, q1).1 < (n : Int) ∧ (q0, q1).2 < (n : Int))) : ∃ x y : Nat, q0 = (x : Int) ∧ q1 = (y : Int) ∧ x < n ∧ y < n := by
  dsimp only at h
  exact ⟨q0.toNat, q1.toNat, by omega, by omega, by omega, by omega⟩
theorem few_mill {a : Nat} (h : a ≤ 65552) : a ≤ 1000000 := Nat.le_trans h (by decide)
theorem few_take {bef : List (Int × Int)} {HG : List Nat} {j : Nat} (h : bef.length ≤ 65552) : (btw HG (bef.take j)).length + 1 ≤ 1000000 := by
  rw [btw_len]
  have h1 : (bef.take j).length ≤ 65552 := Nat.le_trans (List.length_take_le' _ _) h
  exact Nat.le_trans (Nat.succ_le_succ h1) (by decide)
theorem nam_hg {n : Nat} {HG : List Nat} {hd : Nat → Nat} {L : List (Int × Int)} (hall : ∀ (j : Nat) (p : Int × Int), L[j]? = some p → namB (n : Int) p = true) (ho : HdOk hd n) (hh : ∀ x, x < n → HG[x]? = some (hd x)) :
    ∀ (j : Nat) (p : Int × Int), (btw HG L)[j]? = some p → namB (n : Int) p = true := by
  intro j p hp
  unfold btw at hp
  rw [List.getElem?_map] at hp
  obtain ⟨q, hq, rfl⟩ := Option.map_eq_some_iff.1 hp
  have h1 := namB_iff.1 (hall j q hq)
  have g : ∀ x, x < n → HG.getD x 0 = hd x := fun x hx => by rw [List.getD_eq_getElem?_getD, hh x hx]; rfl
  have e1 := ho.le q.1.toNat (by omega)
  have e2 := ho.le q.2.toNat (by omega)
  rw [g _ (by omega), g _ (by omega), namB_iff]
  exact ⟨⟨Int.natCast_nonneg _, Int.natCast_nonneg _⟩, by show ((hd q.1.toNat : Nat) : Int) < n; omega, by show ((hd q.2.toNat : Nat) : Int) < n; omega⟩
theorem lk_cases {kd : Int} {rf : List UInt8} (h : LkK (kd, rf)) : kd = 1 ∨ kd = 2 ∨ kd = 3 := by
  unfold LkK at h; dsimp only at h; omega
set_option maxRecDepth 100000 in
set_option maxHeartbeats 4000000 in
theorem rresolve_any (v : Value) (R : List (List UInt8)) (T : List (List Lk)) (pr : Nat → Int) (w : World) (hv : NA w v R T pr) (hn : R.length ≤ 1000000) (hK : ∀ l ∈ T, l.length ≤ 1000000) :
    Calls Tryd.prog 5 #[v] w fun e w' => Below w.heap.size w w' ∧ ∃ (X : List (List Nat)) (b : Int × Int × Int) (v' : Value) (TL : List (Value × List Int)), e = .returned (.tuple #[v', .int .i64 b.1, .int .i64 b.2.1, .int .i64 b.2.2]) ∧ AnsR R T pr X b ∧ RW w' w.heap.size v' TL ∧ TL.map (·.2) = X.map ni := by
  have H1 := hide (rwrong_any v R T w hv.rf hv.ln hv.len hn hK)
  obtain ⟨a, cap, hav, hr⟩ := hv.ln
  have HV := hide hv
  have HR := hide hr
  have HN := hide hn
  obtain ⟨n, hnn⟩ : ∃ n, T.length = n := ⟨_, rfl⟩
  have HL : Hid (T.length = n ∧ R.length = n) := hide ⟨hnn, by rw [← hv.len]; exact hnn⟩
  rw [hnn] at hav
  subst hav
  clear hv hr hn hK hnn
  go_enter Tryd.func5, Tryd.ntmps5
  go_wp2_with fail
  refine H1.out.mono ?_
  rintro e w1 ⟨hb1, b, rfl, hW⟩
  have HB1 := hide hb1
  have HW := hide hW
  clear H1 hb1 hW
  obtain ⟨b0, b1, b2⟩ := b
  by_cases hz : b0 = 0
  · have HRI := hide (right_of HW.out hz)
    subst hz
    clear HW
    obtain ⟨htb, hon, hrg⟩ := HRI.out
    have hlk : ∀ l ∈ T, l.length ≤ 16 := fun l hl => by
      obtain ⟨x, hx⟩ := List.getElem?_of_mem hl
      have := (tooB_no htb).2 x (by rw [HL.out.2, ← HL.out.1]; exact (List.getElem?_eq_some_iff.1 hx).1)
      rw [KT_at hx] at this; exact this
    have HLK := hide hlk
    have HN4 : Hid (n ≤ 4096) := hide (by have := (tooB_no htb).1; rw [HL.out.2] at this; exact this)
    clear htb hon hrg hlk HN
    have HE0 := hide (TS.start w1)
    go_wp2_with fail
    go_loopw [9, 10, 11] (fun v1 v2 i wr => ∃ k : Nat, i = .int .i64 (k : Int) ∧ Hid (k ≤ n) ∧ Hid (TS w1 wr w1.heap.size v1 v2 (tU (wOf R) T k) (tU (bOf R) T k))) (fun _ _ i _ => n - (intOf i).toNat)
    case atStart => exact ⟨0, rfl, hide (Nat.zero_le _), HE0⟩
    case round =>
      clear HE0
      obtain ⟨k, rfl, HK, HE0⟩ := hrel
      by_cases hkn : k < n
      · obtain ⟨l, hl⟩ : ∃ l, T[k]? = some l := ⟨_, List.getElem?_eq_getElem (by rw [HL.out.1]; exact hkn)⟩
        obtain ⟨b, off, rfl, hgl, hc⟩ := HR.out.resolve_left (fun h => by rw [h] at hl; simp at hl)
        obtain ⟨la, lc, c0, hlr⟩ := hc k l hl
        have hll := HLK.out l (List.mem_of_getElem? hl)
        have wk := wrap_up hkn (Nat.le_trans HN4.out (by decide))
        have k0 : (0 : Int) ≤ (k : Int) := Int.natCast_nonneg _
        have k1 : (k : Int) < (n : Int) := Int.ofNat_lt.2 hkn
        have HC := hide (fun (W : World) (hb : Below w1.heap.size w1 W) => ((HB1.out.trans (hb.mono HB1.out.size)).cell (p := ⟨b, off + k * 27 + 26, none⟩) hgl).trans c0)
        have HLR := hide hlr
        have HTL := hide hl
        have HLL := hide hll
        have hRk : ∀ q ∈ l, LkOk R q := HRI.out.2.2.1 k l (by rw [HL.out.1]; exact hkn) hl
        have HRK := hide hRk
        have HE1 : Hid (TS w1 wr w1.heap.size u9 u10 (tI (wOf R) T k 0) (tI (bOf R) T k 0)) := hide (by rw [tI_zero, tI_zero]; exact HE0.out)
        clear hc c0 hlr hl hll hgl HE0 hRk
        go_wp2_with fail
        go_loopw [9, 10, 12] (fun v1 v2 i wq => ∃ e : Nat, i = .int .i64 (e : Int) ∧ Hid (e ≤ l.length) ∧ Hid (TS w1 wq w1.heap.size v1 v2 (tI (wOf R) T k e) (tI (bOf R) T k e))) (fun _ _ i _ => l.length - (intOf i).toNat)
        case atStart => exact ⟨0, rfl, hide (Nat.zero_le _), HE1⟩
        case round =>
          clear HE1
          obtain ⟨e, rfl, HEL, HE1⟩ := hrel
          have y0 := HC.out _ HE1.out.low
          by_cases hlt : e < l.length
          · obtain ⟨⟨kd, rf⟩, hq⟩ : ∃ q, l[e]? = some q := ⟨_, List.getElem?_eq_getElem hlt⟩
            obtain ⟨b2, o2, rfl, hg2, hc2⟩ := HLR.out.resolve_left (fun h => by rw [h] at hq; simp at hq)
            obtain ⟨p1, p2⟩ := hc2 e _ hq
            have hok := HRK.out _ (List.mem_of_getElem? hq)
            have wk2 := wrap_up hlt (Nat.le_trans HLL.out (by decide))
            have e0 : (0 : Int) ≤ (e : Int) := Int.natCast_nonneg _
            have e1 : (e : Int) < (l.length : Int) := Int.ofNat_lt.2 hlt
            obtain ⟨sb, ht⟩ : ∃ sb, tx rf = .string sb := ⟨_, rfl⟩
            have HB2 := hide (HB1.out.trans (HE1.out.low.mono HB1.out.size))
            have z0 := (HB2.out.cell (p := ⟨b2, o2 + e * 2, none⟩) hg2).trans p1
            have z1 : wr.cell? ⟨b2, o2 + e * 2 + 1, none⟩ = some (.string sb) := by rw [← ht]; exact (HB2.out.cell (p := ⟨b2, o2 + e * 2 + 1, none⟩) hg2).trans p2
            have z1' : wr.cell? ⟨b2, o2 + (e * 2 + 1), none⟩ = some (.string sb) := z1
            dsimp only at z0
            have hbU := (Below.refl wr.heap.size wr).alloc (Nat.le_refl _) (.cells #[.int .i64 kd, .string sb] 53)
            have HEU := hide (HE1.out.later hbU)
            have HFC := hide (rfind_any _ R rf (wr.alloc (.cells #[.int .i64 kd, .string sb] 53)) ((HV.out.later (HB2.out.trans (hbU.mono HB2.out.size))).rf) (by rw [HL.out.2]; exact Nat.le_trans HN4.out (by decide)))
            rw [ht, fiT_in hok.2] at HFC
            have N1 := alloc_new wr (.cells #[.int .i64 kd, .string sb] 53)
            obtain ⟨s0, s1⟩ := TW.cellsA N1 rfl
            have HNB := hide N1
            have HQ := hide hq
            have HW := hide (tI_succ (f := wOf R) HTL.out HQ.out)
            have HB := hide (tI_succ (f := bOf R) HTL.out HQ.out)
            have HA : Hid ((tI (wOf R) T k e).length ≤ 65552 ∧ (tI (bOf R) T k e).length ≤ 65552) := hide (tI_few HLK.out (Nat.le_trans (Nat.le_of_lt hkn) HN4.out) (Nat.le_trans HEL.out HLL.out))
            obtain ⟨A1, hA1⟩ : ∃ A, tI (wOf R) T k e = A := ⟨_, rfl⟩
            obtain ⟨A2, hA2⟩ : ∃ A, tI (bOf R) T k e = A := ⟨_, rfl⟩
            rw [hA1] at HW HA HEU HE1
            rw [hA2] at HB HA HEU HE1
            obtain ⟨o, ho⟩ : ∃ o, R.idxOf rf = o := ⟨_, rfl⟩
            rw [ho] at HFC
            have hkd := lk_cases hok.1
            clear p1 p2 hc2 hg2 hq ht hbU N1 hok hA1 hA2
            obtain rfl | rfl | rfl := hkd
            · have HW : Hid (tI (wOf R) T k (e + 1) = A1 ++ [((k : Int), (o : Int))]) := hide (by rw [HW.out]; simp [wOf, ho])
              have HB : Hid (tI (bOf R) T k (e + 1) = A2) := hide (by rw [HB.out]; simp [bOf])
              clear ho
              have HO1 := hide HEU.out.o1
              go_wp2_with fail
              refine HFC.out.mono ?_
              rintro e' w4 ⟨rfl, hw⟩
              obtain rfl := hw.symm
              go_wp2_with (at_builtin; refine TW.wp_append_kept rfl _ _ rfl w1.heap.size _ A1 ((k : Int), (o : Int)) _ rfl rfl (World.ownsRow.alloc HO1.out _) ?x1 ?x1b ?x2 ?x3 ?_)
              case x2 => have := HEU.out.bs; simp at this ⊢; omega
              case x3 => have := HA.out; omega
              intro v' w' hO' hg' _
              have HE2 := hide ((HEU.out.later ((Below.refl _ _).alloc (Nat.le_refl _) _)).one hO' hg')
              have t0 : w'.cell? ⟨wr.heap.size, 0, none⟩ = some (.int .i64 1) := by
                have h1 := hg'.grown.block wr.heap.size (by simp; omega) (fun q => by have := (World.ownsRow.lt HE1.out.o1 _ q.symm).2; omega)
                have h2 : (((wr.alloc (.cells #[.int .i64 1, .string sb] 53)).alloc (.cells #[.int .i64 k, .int .i64 o] 46)).heap[wr.heap.size]?) = some (.cells #[.int .i64 1, .string sb] 53 (0, 0)) := by
                  exact ((Below.refl _ _).alloc (Nat.le_refl _) _ |>.block wr.heap.size (by simp)).trans HNB.out
                exact cell_of_row _ _ 0 _ _ _ (h1.trans h2)
              clear hO' hg' HO1 HEU z0 z1 z1' y0 s0 s1 HE1
              go_wp2_with fail
              go_roundw
              case rel => exact ⟨e + 1, by go_num, hide hlt, hide (by rw [HW.out, HB.out]; exact HE2.out)⟩
              case measure => first | (rw [wk2]; simp [intOf]; omega) | (simp [intOf]; omega)
            · have HW : Hid (tI (wOf R) T k (e + 1) = A1) := hide (by rw [HW.out]; simp [wOf])
              have HB : Hid (tI (bOf R) T k (e + 1) = A2 ++ [((k : Int), (o : Int))]) := hide (by rw [HB.out]; simp [bOf, ho])
              clear ho
              have HO1 := hide HEU.out.o2
              go_wp2_with fail
              refine HFC.out.mono ?_
              rintro e' w4 ⟨rfl, hw⟩
              obtain rfl := hw.symm
              go_wp2_with (at_builtin; refine TW.wp_append_kept rfl _ _ rfl w1.heap.size _ A2 ((k : Int), (o : Int)) _ rfl rfl (World.ownsRow.alloc HO1.out _) ?y1 ?y1b ?y2 ?y3 ?_)
              case y2 => have := HEU.out.bs; simp at this ⊢; omega
              case y3 => have := HA.out; omega
              intro v' w' hO' hg' _
              have HE2 := hide ((HEU.out.later ((Below.refl _ _).alloc (Nat.le_refl _) _)).two hO' hg')
              have t0 : w'.cell? ⟨wr.heap.size, 0, none⟩ = some (.int .i64 2) := by
                have h1 := hg'.grown.block wr.heap.size (by simp; omega) (fun q => by have := (World.ownsRow.lt HE1.out.o2 _ q.symm).2; omega)
                have h2 : (((wr.alloc (.cells #[.int .i64 2, .string sb] 53)).alloc (.cells #[.int .i64 k, .int .i64 o] 46)).heap[wr.heap.size]?) = some (.cells #[.int .i64 2, .string sb] 53 (0, 0)) := by
                  exact ((Below.refl _ _).alloc (Nat.le_refl _) _ |>.block wr.heap.size (by simp)).trans HNB.out
                exact cell_of_row _ _ 0 _ _ _ (h1.trans h2)
              clear hO' hg' HO1 HEU z0 z1 z1' y0 s0 s1 HE1
              go_wp2_with fail
              go_roundw
              case rel => exact ⟨e + 1, by go_num, hide hlt, hide (by rw [HW.out, HB.out]; exact HE2.out)⟩
              case measure => first | (rw [wk2]; simp [intOf]; omega) | (simp [intOf]; omega)
            · have HW : Hid (tI (wOf R) T k (e + 1) = A1) := hide (by rw [HW.out]; simp [wOf])
              have HB : Hid (tI (bOf R) T k (e + 1) = A2 ++ [((o : Int), (k : Int))]) := hide (by rw [HB.out]; simp [bOf, ho])
              clear ho
              have HO1 := hide HEU.out.o2
              go_wp2_with fail
              refine HFC.out.mono ?_
              rintro e' w4 ⟨rfl, hw⟩
              obtain rfl := hw.symm
              go_wp2_with (at_builtin; refine TW.wp_append_kept rfl _ _ rfl w1.heap.size _ A2 ((o : Int), (k : Int)) _ rfl rfl (World.ownsRow.alloc HO1.out _) ?z1 ?z1b ?z2 ?z3 ?_)
              case z2 => have := HEU.out.bs; simp at this ⊢; omega
              case z3 => have := HA.out; omega
              intro v' w' hO' hg' _
              have HE2 := hide ((HEU.out.later ((Below.refl _ _).alloc (Nat.le_refl _) _)).two hO' hg')
              have t0 : w'.cell? ⟨wr.heap.size, 0, none⟩ = some (.int .i64 3) := by
                have h1 := hg'.grown.block wr.heap.size (by simp; omega) (fun q => by have := (World.ownsRow.lt HE1.out.o2 _ q.symm).2; omega)
                have h2 : (((wr.alloc (.cells #[.int .i64 3, .string sb] 53)).alloc (.cells #[.int .i64 o, .int .i64 k] 46)).heap[wr.heap.size]?) = some (.cells #[.int .i64 3, .string sb] 53 (0, 0)) := by
                  exact ((Below.refl _ _).alloc (Nat.le_refl _) _ |>.block wr.heap.size (by simp)).trans HNB.out
                exact cell_of_row _ _ 0 _ _ _ (h1.trans h2)
              clear hO' hg' HO1 HEU z0 z1 z1' y0 s0 s1 HE1
              go_wp2_with fail
              go_roundw
              case rel => exact ⟨e + 1, by go_num, hide hlt, hide (by rw [HW.out, HB.out]; exact HE2.out)⟩
              case measure => first | (rw [wk2]; simp [intOf]; omega) | (simp [intOf]; omega)
          · have HEQ : Hid (e = l.length) := hide (by have := HEL.out; omega)
            have HE2 : Hid (TS w1 wr w1.heap.size u9 u10 (tU (wOf R) T (k + 1)) (tU (bOf R) T (k + 1))) := hide (by rw [← tI_all HTL.out, ← tI_all HTL.out, ← HEQ.out]; exact HE1.out)
            go_wp2_with fail
            go_roundw
            case rel => exact ⟨k + 1, by go_num, hide hkn, HE2⟩
            case measure => first | (rw [wk]; simp [intOf]; omega) | (simp [intOf]; omega)
      · have HE2 : Hid (TS w1 wr w1.heap.size u9 u10 (tU (wOf R) T n) (tU (bOf R) T n)) := hide (by have h := HE0.out; rw [show k = n by have := HK.out; omega] at h; exact h)
        obtain ⟨W2, hW2⟩ : ∃ W2, W2 = wr := ⟨wr, rfl⟩
        subst hW2
        clear HE0
        have HN1 := hide (tU_nam HV.out.len (fun x q hx hq => wOf_nam (R := R) hx hq) HRI.out.2.2)
        have HN2 := hide (tU_nam HV.out.len (fun x q hx hq => bOf_nam (R := R) hx hq) HRI.out.2.2)
        rw [HL.out.1, HL.out.2] at HN1 HN2
        have HTL : Hid ((tU (wOf R) T n).length ≤ 65552 ∧ (tU (bOf R) T n).length ≤ 65552) := hide (by rw [← tI_zero, ← tI_zero]; exact tI_few HLK.out HN4.out (Nat.zero_le _))
        have HAF := hide (fun X no (h : LsA n (pn (btw (grp n (pn (tU (wOf R) T n))) (tU (bOf R) T n))) (pjT (hdR R T) pr n) (hdR R T) X no) => ans_of (R := R) (T := T) (pr := pr) (X := X) (no := no) HV.out.len HRI.out.1 HRI.out.2.1 HRI.out.2.2 (by rw [HL.out.1, HL.out.2]; exact h))
        have hhd : ∀ x, x < n → (grp n (pn (tU (wOf R) T n)))[x]? = some (hdR R T x) := fun x hx => by rw [grp_at _ hx]; unfold hdR; rw [HL.out.1]
        have HHD := hide hhd
        have HOK := hide (hdR_ok R T n)
        have H4 := hide (rgroups_any n u9 (tU (wOf R) T n) W2 (TW.OM.rm HE2.out.o1) (Nat.le_trans HTL.out.1 (by decide)) HN4.out HN1.out)
        have HOT := hide (TW.OM.rm HE2.out.o2)
        have HB2 := hide (HB1.out.trans (HE2.out.low.mono HB1.out.size))
        obtain ⟨a1, c1, hv1⟩ := TW.rm_lt (TW.OM.rm HE2.out.o1)
        subst hv1
        obtain ⟨bef, hbef⟩ : ∃ bef, tU (bOf R) T n = bef := ⟨_, rfl⟩
        obtain ⟨HG, hHG⟩ : ∃ HG, grp n (pn (tU (wOf R) T n)) = HG := ⟨_, rfl⟩
        obtain ⟨hd, hhdE⟩ : ∃ hd, hdR R T = hd := ⟨_, rfl⟩
        have HGL : Hid (HG.length = n) := hide (by rw [← hHG]; exact grp_len _ _)
        rw [hbef] at HOT HTL HN2 HAF
        rw [hHG] at HAF HHD H4
        rw [hhdE] at HAF HHD HOK
        clear HE2 hhd hbef hHG hhdE HRI HLK HN1
        obtain ⟨at', ct, hv2, _, hrt⟩ := HOT.out
        have HRT := hide hrt
        clear hrt HOT
        subst hv2
        obtain ⟨m2, hm2⟩ : ∃ m2, bef.length = m2 := ⟨_, rfl⟩
        have HM2 := hide hm2
        rw [hm2]
        clear hm2
        go_wp2_with fail
        refine H4.out.mono ?_
        rintro e w3 ⟨vh, rfl, hOh, hb3⟩
        have HB3 := hide (HB2.out.trans (hb3.mono HB2.out.size))
        have HBT := hide hb3
        have HOH := hide (IN.OM.rm hOh)
        have HS3 := hide HB2.out.size
        clear hOh hb3 H4
        obtain ⟨gh, ah, ch, hvh, _, hrh⟩ := HOH.out
        have HRH := hide hrh
        rw [ni_len, HGL.out] at hvh
        subst hvh
        clear hrh
        have HE0 := hide (TW.OM.nil w3 w3.heap.size)
        go_wp2_with fail
        go_loopw [16, 17] (fun ve i wr => ∃ j : Nat, i = .int .i64 (j : Int) ∧ Hid (j ≤ m2) ∧ Hid (TW.OM wr w3.heap.size ve (btw HG (bef.take j))) ∧ Hid (Below w3.heap.size w3 wr)) (fun _ i _ => m2 - (intOf i).toNat)
        case atStart => exact ⟨0, rfl, hide (Nat.zero_le _), HE0, hide (Below.refl _ _)⟩
        case round =>
          clear HE0
          obtain ⟨j, rfl, HJ, HE0, HB⟩ := hrel
          by_cases hjm : j < m2
          · obtain ⟨⟨q0, q1⟩, hp⟩ : ∃ p, bef[j]? = some p := ⟨_, List.getElem?_eq_getElem (by rw [HM2.out]; exact hjm)⟩
            obtain ⟨bt, ot, rfl, hgt, hct⟩ := HRT.out.resolve_left (fun h => by rw [h] at hp; simp at hp)
            have hnm := namB_iff.1 (HN2.out j _ hp)
            have HPA := hide (btw_take (NUM := HG) hp)
            obtain ⟨x0, y0, rfl, rfl, hx0, hy0⟩ := nam_nat hnm
            obtain ⟨oh, rfl, hgh, hch⟩ := HRH.out.resolve_left (fun e => by
              have := congrArg List.length e
              rw [ni_len, HGL.out] at this
              simp at this; omega)
            have HC : Hid (∀ W, Below w3.heap.size w3 W → (W.cell? ⟨bt, ot + j * 2, none⟩ = some (.int .i64 (x0 : Int)) ∧ W.cell? ⟨bt, ot + j * 2 + 1, none⟩ = some (.int .i64 (y0 : Int))) ∧ W.cell? ⟨gh, oh + x0, none⟩ = some (.int .i64 ((hd x0 : Nat) : Int)) ∧ W.cell? ⟨gh, oh + y0, none⟩ = some (.int .i64 ((hd y0 : Nat) : Int))) := hide (fun W hb => by
              obtain ⟨t1, t2⟩ := hct j _ hp
              have hb2 := HBT.out.trans (hb.mono HBT.out.size)
              exact ⟨⟨(hb2.cell (p := ⟨bt, ot + j * 2, none⟩) hgt).trans t1, (hb2.cell (p := ⟨bt, ot + j * 2 + 1, none⟩) hgt).trans t2⟩, (hb.cell (p := ⟨gh, oh + x0, none⟩) hgh).trans (hch x0 _ (ni_at (HHD.out x0 hx0))), (hb.cell (p := ⟨gh, oh + y0, none⟩) hgh).trans (hch y0 _ (ni_at (HHD.out y0 hy0)))⟩)
            have HPB : Hid (btw HG (bef.take (j + 1)) = btw HG (bef.take j) ++ [(((hd x0 : Nat) : Int), ((hd y0 : Nat) : Int))]) := hide (by
              have h := HPA.out
              dsimp only [Int.toNat_natCast] at h
              rw [List.getD_eq_getElem?_getD, List.getD_eq_getElem?_getD, HHD.out x0 hx0, HHD.out y0 hy0] at h
              exact h)
            have wk := wrap_up hjm (by rw [← HM2.out]; exact few_mill HTL.out.2)
            have j0 : (0 : Int) ≤ (j : Int) := Int.natCast_nonneg _
            have j1 : (j : Int) < (m2 : Int) := Int.ofNat_lt.2 hjm
            have i0 : (0 : Int) ≤ (x0 : Int) := Int.natCast_nonneg _
            have i1 : (x0 : Int) < (n : Int) := Int.ofNat_lt.2 hx0
            have i2 : (0 : Int) ≤ (y0 : Int) := Int.natCast_nonneg _
            have i3 : (y0 : Int) < (n : Int) := Int.ofNat_lt.2 hy0
            obtain ⟨u0, hu0⟩ : ∃ u, hd x0 = u := ⟨_, rfl⟩
            obtain ⟨u1, hu1⟩ : ∃ u, hd y0 = u := ⟨_, rfl⟩
            rw [hu0, hu1] at HC HPB
            have HLJ : Hid ((btw HG (bef.take j)).length + 1 ≤ 1000000) := hide (few_take HTL.out.2)
            obtain ⟨EL, hEL⟩ : ∃ EL, btw HG (bef.take j) = EL := ⟨_, rfl⟩
            rw [hEL] at HE0 HPB HLJ
            clear hp hct hnm hch hu0 hu1 hEL HPA hx0 hy0
            go_wp2_with fail
            obtain ⟨D, hD⟩ : ∃ D, World.drew wr = D := ⟨_, rfl⟩
            have HBD : Hid (Below w3.heap.size w3 D) := hide (by rw [← hD]; exact HB.out.drew)
            have HED : Hid (TW.OM D w3.heap.size u16 EL) := hide (by rw [← hD]; exact HE0.out.later ((Below.refl _ _).drew))
            refine z_begins (S := fun W : World => (W.cell? ⟨bt, ot + j * 2, none⟩ = some (.int .i64 (x0 : Int)) ∧ W.cell? ⟨bt, ot + j * 2 + 1, none⟩ = some (.int .i64 (y0 : Int))) ∧ W.cell? ⟨gh, oh + x0, none⟩ = some (.int .i64 (u0 : Int)) ∧ W.cell? ⟨gh, oh + y0, none⟩ = some (.int .i64 (u1 : Int))) 20 21 #[false, false, false, false, false, false, false, false, false, false, false, false, false, false, false, false, false, false, false, false, false] (by kernel_rfl) (by kernel_rfl) (by kernel_rfl) (by rw [hD]; exact HC.out _ HBD.out) (fun hHeld => ?_)
            rw [hD] at hHeld ⊢
            clear hD HB HE0
            refine zk (v := ?_) 0 97 #[true, false, false, false, false, false, false, false, false, false, false, false, false, false, false, false, false, false, false, false, false] rfl rfl (by kernel_rfl) (by kernel_rfl) (by kernel_rfl) (by kernel_rfl) (fun _ _ _ h => h) (by kernel_rfl) (by rfl) ?hy hHeld ?_
            case hy => rintro W ⟨⟨s1, s2⟩, s3, s4⟩; first | (go_simp; done) | (go_simp; with_reducible rfl)
            simp only [List.setIfInBounds_toArray, List.set_cons_zero, List.set_cons_succ]
            refine zk (v := ?_) 1 98 #[true, true, false, false, false, false, false, false, false, false, false, false, false, false, false, false, false, false, false, false, false] rfl rfl (by kernel_rfl) (by kernel_rfl) (by kernel_rfl) (by kernel_rfl) (fun _ _ _ h => h) (by kernel_rfl) (by rfl) ?hy hHeld ?_
            case hy => rintro W ⟨⟨s1, s2⟩, s3, s4⟩; first | (go_simp; done) | (go_simp; with_reducible rfl)
            simp only [List.setIfInBounds_toArray, List.set_cons_zero, List.set_cons_succ]
            refine zk (v := ?_) 2 99 #[true, true, true, false, false, false, false, false, false, false, false, false, false, false, false, false, false, false, false, false, false] rfl rfl (by kernel_rfl) (by kernel_rfl) (by kernel_rfl) (by kernel_rfl) (fun _ _ _ h => h) (by kernel_rfl) (by rfl) ?hy hHeld ?_
            case hy => rintro W ⟨⟨s1, s2⟩, s3, s4⟩; first | (go_simp; done) | (go_simp; with_reducible rfl)
            simp only [List.setIfInBounds_toArray, List.set_cons_zero, List.set_cons_succ]
            refine zk (v := ?_) 3 100 #[true, true, true, true, false, false, false, false, false, false, false, false, false, false, false, false, false, false, false, false, false] rfl rfl (by kernel_rfl) (by kernel_rfl) (by kernel_rfl) (by kernel_rfl) (fun _ _ _ h => h) (by kernel_rfl) (by rfl) ?hy hHeld ?_
            case hy => rintro W ⟨⟨s1, s2⟩, s3, s4⟩; first | (go_simp; done) | (go_simp; with_reducible rfl)
            simp only [List.setIfInBounds_toArray, List.set_cons_zero, List.set_cons_succ]
            refine zk (v := ?_) 4 101 #[true, true, true, true, true, false, false, false, false, false, false, false, false, false, false, false, false, false, false, false, false] rfl rfl (by kernel_rfl) (by kernel_rfl) (by kernel_rfl) (by kernel_rfl) (fun _ _ _ h => h) (by kernel_rfl) (by rfl) ?hy hHeld ?_
            case hy => rintro W ⟨⟨s1, s2⟩, s3, s4⟩; first | (go_simp; done) | (go_simp; with_reducible rfl)
            simp only [List.setIfInBounds_toArray, List.set_cons_zero, List.set_cons_succ]
            refine zk (v := ?_) 5 102 #[true, true, true, true, true, true, false, false, false, false, false, false, false, false, false, false, false, false, false, false, false] rfl rfl (by kernel_rfl) (by kernel_rfl) (by kernel_rfl) (by kernel_rfl) (fun _ _ _ h => h) (by kernel_rfl) (by rfl) ?hy hHeld ?_
            case hy => rintro W ⟨⟨s1, s2⟩, s3, s4⟩; first | (go_simp; done) | (go_simp; with_reducible rfl)
            simp only [List.setIfInBounds_toArray, List.set_cons_zero, List.set_cons_succ]
            refine zk (v := ?_) 6 103 #[true, true, true, true, true, true, true, false, false, false, false, false, false, false, false, false, false, false, false, false, false] rfl rfl (by kernel_rfl) (by kernel_rfl) (by kernel_rfl) (by kernel_rfl) (fun _ _ _ h => h) (by kernel_rfl) (by rfl) ?hy hHeld ?_
            case hy => rintro W ⟨⟨s1, s2⟩, s3, s4⟩; first | (go_simp; done) | (go_simp; with_reducible rfl)
            simp only [List.setIfInBounds_toArray, List.set_cons_zero, List.set_cons_succ]
            refine zk (v := ?_) 7 104 #[true, true, true, true, true, true, true, true, false, false, false, false, false, false, false, false, false, false, false, false, false] rfl rfl (by kernel_rfl) (by kernel_rfl) (by kernel_rfl) (by kernel_rfl) (fun _ _ _ h => h) (by kernel_rfl) (by rfl) ?hy hHeld ?_
            case hy => rintro W ⟨⟨s1, s2⟩, s3, s4⟩; first | (go_simp; done) | (go_simp; with_reducible rfl)
            simp only [List.setIfInBounds_toArray, List.set_cons_zero, List.set_cons_succ]
            refine zk (v := ?_) 8 105 #[true, true, true, true, true, true, true, true, true, false, false, false, false, false, false, false, false, false, false, false, false] rfl rfl (by kernel_rfl) (by kernel_rfl) (by kernel_rfl) (by kernel_rfl) (fun _ _ _ h => h) (by kernel_rfl) (by rfl) ?hy hHeld ?_
            case hy => rintro W ⟨⟨s1, s2⟩, s3, s4⟩; first | (go_simp; done) | (go_simp; with_reducible rfl)
            simp only [List.setIfInBounds_toArray, List.set_cons_zero, List.set_cons_succ]
            refine zk (v := ?_) 9 106 #[true, true, true, true, true, true, true, true, true, true, false, false, false, false, false, false, false, false, false, false, false] rfl rfl (by kernel_rfl) (by kernel_rfl) (by kernel_rfl) (by kernel_rfl) (fun _ _ _ h => h) (by kernel_rfl) (by rfl) ?hy hHeld ?_
            case hy => rintro W ⟨⟨s1, s2⟩, s3, s4⟩; first | (go_simp; done) | (go_simp; with_reducible rfl)
            simp only [List.setIfInBounds_toArray, List.set_cons_zero, List.set_cons_succ]
            refine zk (v := ?_) 10 107 #[true, true, true, true, true, true, true, true, true, true, true, false, false, false, false, false, false, false, false, false, false] rfl rfl (by kernel_rfl) (by kernel_rfl) (by kernel_rfl) (by kernel_rfl) (fun _ _ _ h => h) (by kernel_rfl) (by rfl) ?hy hHeld ?_
            case hy => rintro W ⟨⟨s1, s2⟩, s3, s4⟩; first | (go_simp; done) | (go_simp; with_reducible rfl)
            simp only [List.setIfInBounds_toArray, List.set_cons_zero, List.set_cons_succ]
            refine zk (v := ?_) 11 108 #[true, true, true, true, true, true, true, true, true, true, true, true, false, false, false, false, false, false, false, false, false] rfl rfl (by kernel_rfl) (by kernel_rfl) (by kernel_rfl) (by kernel_rfl) (fun _ _ _ h => h) (by kernel_rfl) (by rfl) ?hy hHeld ?_
            case hy => rintro W ⟨⟨s1, s2⟩, s3, s4⟩; first | (go_simp; done) | (go_simp; with_reducible rfl)
            simp only [List.setIfInBounds_toArray, List.set_cons_zero, List.set_cons_succ]
            refine zk (v := ?_) 12 109 #[true, true, true, true, true, true, true, true, true, true, true, true, true, false, false, false, false, false, false, false, false] rfl rfl (by kernel_rfl) (by kernel_rfl) (by kernel_rfl) (by kernel_rfl) (fun _ _ _ h => h) (by kernel_rfl) (by rfl) ?hy hHeld ?_
            case hy => rintro W ⟨⟨s1, s2⟩, s3, s4⟩; first | (go_simp; done) | (go_simp; with_reducible rfl)
            simp only [List.setIfInBounds_toArray, List.set_cons_zero, List.set_cons_succ]
            refine zk (v := ?_) 13 110 #[true, true, true, true, true, true, true, true, true, true, true, true, true, true, false, false, false, false, false, false, false] rfl rfl (by kernel_rfl) (by kernel_rfl) (by kernel_rfl) (by kernel_rfl) (fun _ _ _ h => h) (by kernel_rfl) (by rfl) ?hy hHeld ?_
            case hy => rintro W ⟨⟨s1, s2⟩, s3, s4⟩; first | (go_simp; done) | (go_simp; with_reducible rfl)
            simp only [List.setIfInBounds_toArray, List.set_cons_zero, List.set_cons_succ]
            refine zk (v := ?_) 14 111 #[true, true, true, true, true, true, true, true, true, true, true, true, true, true, true, false, false, false, false, false, false] rfl rfl (by kernel_rfl) (by kernel_rfl) (by kernel_rfl) (by kernel_rfl) (fun _ _ _ h => h) (by kernel_rfl) (by rfl) ?hy hHeld ?_
            case hy => rintro W ⟨⟨s1, s2⟩, s3, s4⟩; first | (go_simp; done) | (go_simp; with_reducible rfl)
            simp only [List.setIfInBounds_toArray, List.set_cons_zero, List.set_cons_succ]
            refine zk (v := ?_) 15 112 #[true, true, true, true, true, true, true, true, true, true, true, true, true, true, true, true, false, false, false, false, false] rfl rfl (by kernel_rfl) (by kernel_rfl) (by kernel_rfl) (by kernel_rfl) (fun _ _ _ h => h) (by kernel_rfl) (by rfl) ?hy hHeld ?_
            case hy => rintro W ⟨⟨s1, s2⟩, s3, s4⟩; first | (go_simp; done) | (go_simp; with_reducible rfl)
            simp only [List.setIfInBounds_toArray, List.set_cons_zero, List.set_cons_succ]
            refine zk (v := ?_) 16 113 #[true, true, true, true, true, true, true, true, true, true, true, true, true, true, true, true, true, false, false, false, false] rfl rfl (by kernel_rfl) (by kernel_rfl) (by kernel_rfl) (by kernel_rfl) (fun _ _ _ h => h) (by kernel_rfl) (by rfl) ?hy hHeld ?_
            case hy => rintro W ⟨⟨s1, s2⟩, s3, s4⟩; first | (go_simp; done) | (go_simp; with_reducible rfl)
            simp only [List.setIfInBounds_toArray, List.set_cons_zero, List.set_cons_succ]
            refine zk (v := ?_) 17 114 #[true, true, true, true, true, true, true, true, true, true, true, true, true, true, true, true, true, true, false, false, false] rfl rfl (by kernel_rfl) (by kernel_rfl) (by kernel_rfl) (by kernel_rfl) (fun _ _ _ h => h) (by kernel_rfl) (by rfl) ?hy hHeld ?_
            case hy => rintro W ⟨⟨s1, s2⟩, s3, s4⟩; first | (go_simp; done) | (go_simp; with_reducible rfl)
            simp only [List.setIfInBounds_toArray, List.set_cons_zero, List.set_cons_succ]
            have hbA := (Below.refl D.heap.size D).alloc (Nat.le_refl _) (.cells #[.int .i64 (u0 : Int), .int .i64 (u1 : Int)] 46)
            have HBA := hide (HBD.out.trans (hbA.mono HBD.out.size))
            obtain ⟨b0, b1⟩ := TW.cellsA (alloc_new D (.cells #[.int .i64 (u0 : Int), .int .i64 (u1 : Int)] 46)) rfl
            obtain ⟨v5, w5, hrun5, hO5, hg5⟩ := run_append_tw _ w3.heap.size 47 u16 _ (u0 : Int) (u1 : Int) D.heap.size (HED.out.later hbA) b0 b1 HLJ.out HBA.out.size
            have HRUN5 := hide hrun5
            have HO5 : Hid (TW.OM w5 w3.heap.size v5 (btw HG (bef.take (j + 1)))) := hide (by rw [HPB.out]; exact hO5)
            have HB5 : Hid (Below w3.heap.size w3 w5) := hide (HBA.out.grown hg5.grown HBA.out.size (fun q hq => (World.ownsRow.lt HED.out q hq).1))
            clear hO5 hg5 hrun5 hbA b0 b1
            refine z_ready 18 #[true, true, true, true, true, true, true, true, true, true, true, true, true, true, true, true, true, true, true, false, false] rfl (by kernel_rfl) (by kernel_rfl) (by rfl) (fun K hK => ?_)
            go_simp
            refine hK.out _ _ (fun _ => HC.out _ HBA.out) (fun hHeld => ?_)
            clear hK K
            refine z_ready 19 #[true, true, true, true, true, true, true, true, true, true, true, true, true, true, true, true, true, true, true, true, false] rfl (by kernel_rfl) (by kernel_rfl) (by rfl) (fun K hK => ?_)
            refine op_append_gen _ _ rfl _ ⟨D.heap.size, 0, none⟩ 1 1 rfl rfl _ w5 HRUN5.out ?_
            simp only [Act.put, List.setIfInBounds_toArray]
            refine hK.out _ _ (fun _ => HC.out _ HB5.out) (fun hHeld => ?_)
            clear hK K
            refine z_ready 20 #[true, true, true, true, true, true, true, true, true, true, true, true, true, true, true, true, true, true, true, true, true] rfl (by kernel_rfl) (by kernel_rfl) (by rfl) (fun K hK => ?_)
            go_simp
            refine hK.out _ _ (fun h => absurd rfl h) (fun _ => ?_)
            clear hK K
            refine z_done (by kernel_rfl) ?_ _
            clear HRUN5 HBA HED HBD
            try clear hHeld
            go_wp2_with fail
            go_roundw
            case rel => exact ⟨j + 1, iv_succ wk, hide hjm, HO5, HB5⟩
            case measure => exact meas_j wk hjm
          · have HEB : Hid (TW.OM wr w3.heap.size u16 (btw HG bef)) := hide (by
              have h := HE0.out
              rw [List.take_of_length_le (by rw [HM2.out]; have := HJ.out; omega)] at h
              exact h)
            obtain ⟨W4, hW4⟩ : ∃ W4, W4 = wr := ⟨wr, rfl⟩
            subst hW4
            clear HE0 HRT
            have hmk := run_make_row' (P := Tryd.prog) 41 3 (.int .i64 0) 8 Tryd.underlying41 Tryd.infoIn rfl .i64 .i64 n (by have := HN4.out; omega) (by have := HN4.out; omega)
            have HP0 := hide (PW.made W4 n pr)
            have HB4 := hide ((Below.refl W4.heap.size W4).alloc (Nat.le_refl _) (.cells (madeCells #[.int .i64 0] n) 3))
            go_wp2_with fail
            generalize (W4.alloc (.cells (madeCells #[.int .i64 0] n) 3)) = wA at *
            obtain ⟨g, hg⟩ : ∃ g, Hid (W4.heap.size = g) := ⟨_, hide rfl⟩
            rw [hg.out] at HP0 HB4 ⊢
            clear hmk
            have HW4 : Hid (Below w.heap.size w W4) := hide (HB3.out.trans (HB.out.mono HB3.out.size))
            have HGW : Hid (W4.heap.size ≤ g) := hide (Nat.le_of_eq hg.out)
            have HNC : Hid (∀ W, Below g W4 W → ∀ k, k < n → ∃ bn on, a = some ⟨bn, on, none⟩ ∧ W.cell? ⟨bn, on + k * 27 + 25, none⟩ = some (.int .i64 (pr k))) := hide (fun W hb k hk => by
              obtain ⟨a', cap', hav, hr⟩ := HV.out.pz
              injection hav with e1 _ _
              obtain ⟨bn, on, ha, hl, hc⟩ := hr.resolve_left (by rw [HL.out.2]; omega)
              refine ⟨bn, on, e1.trans ha, ?_⟩
              have h1 := hc k (by rw [HL.out.2]; exact hk)
              exact ((HW4.out.trans (hb.mono (Nat.le_trans HW4.out.size HGW.out))).cell (p := ⟨bn, on + k * 27 + 25, none⟩) hl).trans h1)
            have HHC : Hid (∀ W, Below g W4 W → ∀ k, k < n → ∃ oh, ah = some ⟨gh, oh, none⟩ ∧ W.cell? ⟨gh, oh + k, none⟩ = some (.int .i64 ((hd k : Nat) : Int))) := hide (fun W hb k hk => by
              obtain ⟨oh, rfl, hgh, hch⟩ := HRH.out.resolve_left (fun e => by
                have := congrArg List.length e
                rw [ni_len, HGL.out] at this
                simp at this; omega)
              exact ⟨oh, rfl, ((HB.out.trans (hb.mono (Nat.le_trans HB.out.size HGW.out))).cell (p := ⟨gh, oh + k, none⟩) hgh).trans (hch k _ (ni_at (HHD.out k hk)))⟩)
            go_loopw [19] (fun i wr => ∃ j : Nat, i = .int .i64 (j : Int) ∧ Hid (j ≤ n) ∧ Hid (PW wr g n (fun x => if x < j then pr x else 0)) ∧ Hid (Below g W4 wr)) (fun i _ => n - (intOf i).toNat)
            case atStart => exact ⟨0, rfl, hide (Nat.zero_le _), HP0, HB4⟩
            case round =>
              clear HP0 HB4
              obtain ⟨j, rfl, HJ4, HP, HB4⟩ := hrel
              by_cases hjn : j < n
              · obtain ⟨bn, on, rfl, z0⟩ := HNC.out _ HB4.out j hjn
                have wk := wrap_up hjn (Nat.le_trans HN4.out (by decide))
                have j0 : (0 : Int) ≤ (j : Int) := Int.natCast_nonneg _
                have j1 : (j : Int) < (n : Int) := Int.ofNat_lt.2 hjn
                obtain ⟨pj, hpj⟩ : ∃ pj, pr j = pj := ⟨_, rfl⟩
                have HPJ := hide hpj
                rw [hpj] at z0
                have z2 := HP.out.cell hjn
                have z3 := World.rowIs.frozen HP.out j
                obtain ⟨D2, hD2⟩ : ∃ V, wr.setCell ⟨g, j, none⟩ (.int .i64 pj) = V := ⟨_, rfl⟩
                have HP2 : Hid (PW D2 g n (fun x => if x < j + 1 then pr x else 0)) := hide (by rw [← hD2, ← HPJ.out]; exact HP.out.fill)
                have HB5 : Hid (Below g W4 D2) := hide (by rw [← hD2]; exact gb_below HB4.out (gb_set wr g _ _) (Nat.le_refl _) (Nat.le_of_lt (World.rowIs.lt HP.out)))
                clear HP HB4 hpj
                go_wp2_with fail
                go_roundw
                case rel => exact ⟨j + 1, iv_succ wk, hide hjn, HP2, HB5⟩
                case measure => exact meas_j wk hjn
              · have HP1 : Hid (PW wr g n (pjT hd pr 0)) := hide (by
                  have h := HP.out
                  have e : j = n := Nat.le_antisymm HJ4.out (Nat.not_lt.1 hjn)
                  rw [e] at h
                  exact h.congr fun k hk => by rw [if_pos hk]; rfl)
                obtain ⟨W5, hW5⟩ : ∃ W5, W5 = wr := ⟨wr, rfl⟩
                subst hW5
                clear HP HJ4
                go_wp2_with fail
                go_loopw [20] (fun i wr => ∃ j : Nat, i = .int .i64 (j : Int) ∧ Hid (j ≤ n) ∧ Hid (PW wr g n (pjT hd pr j)) ∧ Hid (Below g W4 wr)) (fun i _ => n - (intOf i).toNat)
                case atStart => exact ⟨0, rfl, hide (Nat.zero_le _), HP1, HB4⟩
                case round =>
                  clear HP1 HB4
                  obtain ⟨j, rfl, HJ4, HP, HB4⟩ := hrel
                  by_cases hjn : j < n
                  · obtain ⟨bn, on, rfl, z0⟩ := HNC.out _ HB4.out j hjn
                    obtain ⟨oh, rfl, z1⟩ := HHC.out _ HB4.out j hjn
                    have wk := wrap_up hjn (Nat.le_trans HN4.out (by decide))
                    have j0 : (0 : Int) ≤ (j : Int) := Int.natCast_nonneg _
                    have j1 : (j : Int) < (n : Int) := Int.ofNat_lt.2 hjn
                    obtain ⟨pj, hpj⟩ : ∃ pj, pr j = pj := ⟨_, rfl⟩
                    have HPJ := hide hpj
                    obtain ⟨y, hy⟩ : ∃ y, hd j = y := ⟨_, rfl⟩
                    have HY := hide hy
                    have hyn : y < n := by rw [← hy]; exact Nat.lt_of_le_of_lt (HOK.out.le j hjn) hjn
                    rw [hpj] at z0
                    rw [hy] at z1
                    have y0 : (0 : Int) ≤ (y : Int) := Int.natCast_nonneg _
                    have y1 : (y : Int) < (n : Int) := Int.ofNat_lt.2 hyn
                    have z2 := HP.out.cell hyn
                    obtain ⟨py, hpy⟩ : ∃ py, pjT hd pr j y = py := ⟨_, rfl⟩
                    have HPY := hide hpy
                    rw [hpy] at z2
                    clear hy hpj hpy
                    by_cases hcm : py < pj
                    · have hdc : decide (py < pj) = true := decide_eq_true hcm
                      have HLT : Hid (pjT hd pr j y < pr j) := hide (by rw [HPY.out, HPJ.out]; exact hcm)
                      clear hcm
                      go_wp2_with fail
                      go_quiet (fail)
                      obtain ⟨W6, hW6⟩ : ∃ W6, wr.drewN nq = W6 := ⟨_, rfl⟩
                      have HP6 : Hid (PW W6 g n (pjT hd pr j)) := hide (by rw [← hW6]; exact HP.out.later (below_dN (Below.refl _ _) nq))
                      have HB6 : Hid (Below g W4 W6) := hide (by rw [← hW6]; exact below_dN HB4.out nq)
                      rw [hW6]
                      clear hW6 HP HB4 z0 z1 z2
                      go_wp2_with fail
                      obtain ⟨D, hD⟩ : ∃ D, W6.drew = D := ⟨_, rfl⟩
                      have HPD : Hid (PW D g n (pjT hd pr j)) := hide (by rw [← hD]; exact World.rowIs.drew HP6.out)
                      have HBD : Hid (Below g W4 D) := hide (by rw [← hD]; exact HB6.out.drew)
                      have hHeld : Hid (D.cell? ⟨gh, oh + j, none⟩ = some (.int .i64 (y : Int)) ∧ D.cell? ⟨bn, on + j * 27 + 25, none⟩ = some (.int .i64 pj)) := hide (by
                        obtain ⟨bn', on', e1, z0⟩ := HNC.out _ HBD.out j hjn
                        obtain ⟨oh', e2, z1⟩ := HHC.out _ HBD.out j hjn
                        injection e1 with e1
                        injection e1 with e1 e3 _
                        injection e2 with e2
                        injection e2 with _ e2 _
                        subst e1 e3 e2
                        rw [HY.out] at z1
                        rw [HPJ.out] at z0
                        exact ⟨z1, z0⟩)
                      have z2 := HPD.out.cell hyn
                      have z3 := World.rowIs.frozen HPD.out y
                      obtain ⟨D2, hD2⟩ : ∃ V, D.setCell ⟨g, y, none⟩ (.int .i64 pj) = V := ⟨_, rfl⟩
                      have HP2 : Hid (PW D2 g n (pjT hd pr (j + 1))) := hide (by rw [← hD2, ← HPJ.out]; exact HPD.out.more HY.out HLT.out)
                      have HB7 : Hid (Below g W4 D2) := hide (by rw [← hD2]; exact gb_below HBD.out (gb_set D g _ _) (Nat.le_refl _) (Nat.le_of_lt (World.rowIs.lt HPD.out)))
                      clear HP6 HB6 HPD HBD
                      refine s_begins (S := fun W : World => W.cell? ⟨gh, oh + j, none⟩ = some (.int .i64 (y : Int)) ∧ W.cell? ⟨bn, on + j * 27 + 25, none⟩ = some (.int .i64 pj)) [11] 12 #[false, false, false, false, false, false, false, false, false, false, false, false] (by kernel_rfl) (by kernel_rfl) (by kernel_rfl) ?_
                      rw [hD]
                      clear hD
                      refine sk0 (v := ?_) 0 153 #[true, false, false, false, false, false, false, false, false, false, false, false] rfl rfl (by kernel_rfl) (by kernel_rfl) (by kernel_rfl) (by kernel_rfl) (fun _ _ _ h => h) (by kernel_rfl) (by rfl) ?hy (fun _ => hHeld.out) ?_
                      case hy => intro W; first | (go_simp; done) | (go_simp; with_reducible rfl)
                      simp only [List.setIfInBounds_toArray, List.set_cons_zero, List.set_cons_succ]
                      refine sk0 (v := ?_) 1 154 #[true, true, false, false, false, false, false, false, false, false, false, false] rfl rfl (by kernel_rfl) (by kernel_rfl) (by kernel_rfl) (by kernel_rfl) (fun _ _ _ h => h) (by kernel_rfl) (by rfl) ?hy (fun _ => hHeld.out) ?_
                      case hy => intro W; first | (go_simp; done) | (go_simp; with_reducible rfl)
                      simp only [List.setIfInBounds_toArray, List.set_cons_zero, List.set_cons_succ]
                      refine sk0 (v := ?_) 2 155 #[true, true, true, false, false, false, false, false, false, false, false, false] rfl rfl (by kernel_rfl) (by kernel_rfl) (by kernel_rfl) (by kernel_rfl) (fun _ _ _ h => h) (by kernel_rfl) (by rfl) ?hy (fun _ => hHeld.out) ?_
                      case hy => intro W; first | (go_simp; done) | (go_simp; with_reducible rfl)
                      simp only [List.setIfInBounds_toArray, List.set_cons_zero, List.set_cons_succ]
                      refine sk0 (v := ?_) 3 156 #[true, true, true, true, false, false, false, false, false, false, false, false] rfl rfl (by kernel_rfl) (by kernel_rfl) (by kernel_rfl) (by kernel_rfl) (fun _ _ _ h => h) (by kernel_rfl) (by rfl) ?hy (fun _ => hHeld.out) ?_
                      case hy => intro W; first | (go_simp; done) | (go_simp; with_reducible rfl)
                      simp only [List.setIfInBounds_toArray, List.set_cons_zero, List.set_cons_succ]
                      refine sk1 (v := ?_) 4 157 #[true, true, true, true, true, false, false, false, false, false, false, false] rfl rfl (by kernel_rfl) (by kernel_rfl) (by kernel_rfl) (by kernel_rfl) (by kernel_rfl) (by kernel_rfl) (fun _ _ _ h => h) (by kernel_rfl) (by rfl) ?hy hHeld.out ?_
                      case hy => rintro W ⟨s1, s2⟩; first | (go_simp; done) | (go_simp; with_reducible rfl)
                      simp only [List.setIfInBounds_toArray, List.set_cons_zero, List.set_cons_succ]
                      refine sk0 (v := ?_) 5 158 #[true, true, true, true, true, true, false, false, false, false, false, false] rfl rfl (by kernel_rfl) (by kernel_rfl) (by kernel_rfl) (by kernel_rfl) (fun _ _ _ h => h) (by kernel_rfl) (by rfl) ?hy (fun _ => hHeld.out) ?_
                      case hy => intro W; first | (go_simp; done) | (go_simp; with_reducible rfl)
                      simp only [List.setIfInBounds_toArray, List.set_cons_zero, List.set_cons_succ]
                      refine sk0 (v := ?_) 6 159 #[true, true, true, true, true, true, true, false, false, false, false, false] rfl rfl (by kernel_rfl) (by kernel_rfl) (by kernel_rfl) (by kernel_rfl) (fun _ _ _ h => h) (by kernel_rfl) (by rfl) ?hy (fun _ => hHeld.out) ?_
                      case hy => intro W; first | (go_simp; done) | (go_simp; with_reducible rfl)
                      simp only [List.setIfInBounds_toArray, List.set_cons_zero, List.set_cons_succ]
                      refine sk0 (v := ?_) 7 160 #[true, true, true, true, true, true, true, true, false, false, false, false] rfl rfl (by kernel_rfl) (by kernel_rfl) (by kernel_rfl) (by kernel_rfl) (fun _ _ _ h => h) (by kernel_rfl) (by rfl) ?hy (fun _ => hHeld.out) ?_
                      case hy => intro W; first | (go_simp; done) | (go_simp; with_reducible rfl)
                      simp only [List.setIfInBounds_toArray, List.set_cons_zero, List.set_cons_succ]
                      refine sk0 (v := ?_) 8 161 #[true, true, true, true, true, true, true, true, true, false, false, false] rfl rfl (by kernel_rfl) (by kernel_rfl) (by kernel_rfl) (by kernel_rfl) (fun _ _ _ h => h) (by kernel_rfl) (by rfl) ?hy (fun _ => hHeld.out) ?_
                      case hy => intro W; first | (go_simp; done) | (go_simp; with_reducible rfl)
                      simp only [List.setIfInBounds_toArray, List.set_cons_zero, List.set_cons_succ]
                      refine sk1 (v := ?_) 9 162 #[true, true, true, true, true, true, true, true, true, true, false, false] rfl rfl (by kernel_rfl) (by kernel_rfl) (by kernel_rfl) (by kernel_rfl) (by kernel_rfl) (by kernel_rfl) (fun _ _ _ h => h) (by kernel_rfl) (by rfl) ?hy hHeld.out ?_
                      case hy => rintro W ⟨s1, s2⟩; first | (go_simp; done) | (go_simp; with_reducible rfl)
                      simp only [List.setIfInBounds_toArray, List.set_cons_zero, List.set_cons_succ]
                      refine sk0 (v := ?_) 10 163 #[true, true, true, true, true, true, true, true, true, true, true, false] rfl rfl (by kernel_rfl) (by kernel_rfl) (by kernel_rfl) (by kernel_rfl) (fun _ _ _ h => h) (by kernel_rfl) (by rfl) ?hy (fun _ => hHeld.out) ?_
                      case hy => intro W; first | (go_simp; done) | (go_simp; with_reducible rfl)
                      simp only [List.setIfInBounds_toArray, List.set_cons_zero, List.set_cons_succ]
                      refine s_ready 11 #[true, true, true, true, true, true, true, true, true, true, true, true] rfl (by kernel_rfl) (by kernel_rfl) (by rfl) (fun K hK => ?_)
                      go_simp
                      refine hK.out _ _ (fun h => absurd h (by decide)) ?_
                      clear hK K
                      refine s_done (by kernel_rfl) ?_ _
                      go_wp2_with fail
                      go_roundw
                      case rel => exact ⟨j + 1, iv_succ wk, hide hjn, HP2, HB7⟩
                      case measure => exact meas_j wk hjn
                    · have hdc : decide (py < pj) = false := decide_eq_false hcm
                      have HLT : Hid (¬ pjT hd pr j y < pr j) := hide (by rw [HPY.out, HPJ.out]; exact hcm)
                      clear hcm
                      go_wp2_with fail
                      go_quiet (fail)
                      have HP2 : Hid (PW (wr.drewN nq) g n (pjT hd pr (j + 1))) := hide ((HP.out.later (below_dN (Below.refl _ _) nq)).same HY.out (Int.not_lt.2 HLT.out))
                      have HB7 := hide (below_dN HB4.out nq)
                      go_wp2_with fail
                      go_roundw
                      case rel => exact ⟨j + 1, iv_succ wk, hide hjn, HP2, HB7⟩
                      case measure => exact meas_j wk hjn
                  · have HP1 : Hid (PW wr g n (pjT hd pr n)) := hide (by
                      have h := HP.out
                      have e : j = n := Nat.le_antisymm HJ4.out (Nat.not_lt.1 hjn)
                      rw [e] at h
                      exact h)
                    have HBF : Hid (Below w.heap.size w wr) := hide (HW4.out.trans (HB4.out.mono (Nat.le_trans HW4.out.size HGW.out)))
                    have HL5 := hide (rlists_any n _ _ _ HG hd (btw HG bef) (pjT hd pr n) wr (HOH.out.later (HB.out.trans (HB4.out.mono (Nat.le_trans HB.out.size HGW.out)))) HGL.out HHD.out HOK.out (TW.OM.rm (HEB.out.later (HB4.out.mono HGW.out))) (by rw [btw_len]; exact few_mill HTL.out.2) HN4.out (nam_hg HN2.out HOK.out HHD.out) HP1.out.pb)
                    obtain ⟨ae, ce, hve⟩ := TW.rm_lt (TW.OM.rm HEB.out)
                    subst hve
                    go_wp2_with fail
                    refine HL5.out.mono ?_
                    rintro e w7 ⟨hb7, vo, X, no, TL, rfl, hA, hRW, hTL⟩
                    have HB8 := hide (HBF.out.trans (hb7.mono HBF.out.size))
                    have HRW := hide (hRW.low HBF.out.size)
                    obtain ⟨X', hX, hAns⟩ := HAF.out X no hA
                    have HX := hide (And.intro hAns (hTL.trans hX))
                    clear hb7 hA hRW hTL hX hAns HL5
                    go_wp2_with fail
                    (try simp only [Exit.inBlock, Exit.then])
                    refine bodyPost_ret (results_tmp4 rfl _ _ _) rfl ?_
                    exact ⟨HB8.out, X', (no, 0, 0), vo, TL, rfl, HX.out.1, HRW.out, HX.out.2⟩
  · have hne : (b0 != 0) = true := by rw [bne_iff_ne]; exact hz
    have HA : Hid (AnsR R T pr [] (b0, b1, b2)) := hide (wrong_of HW.out hz)
    clear hz HW
    dsimp only
    go_wp2_with fail
    (try simp only [Exit.inBlock, Exit.then])
    refine bodyPost_ret (results_tmp4 rfl _ _ _) rfl ?_
    exact ⟨HB1.out, [], (b0, b1, b2), .slice none 0 0, [], rfl, HA.out, RW.nil _ _, rfl⟩
end Go.Proofs.YtcdhblfefpkjgaaDoor
