/-
  My own text: the law on pruning.
-/
import Derived.Test.YtnjjehlfgoggfaaDoorSP2
namespace Go.Proofs.YtnjjehlfgoggfaaDoor
open Go.RowKit

theorem OR.fb {W W' : World} {B k n : Nat} {e : TypeId} {v : Value} {xs : List Value} {F F' : Nat → Prop} (h : OR W B e k v n xs) (hf : FB W W' F F') (hn : ∀ g, v.ownBlock = some g → ¬ F g) : OR W' B e k v n xs ∧ ∀ g, v.ownBlock = some g → ¬ F' g :=
  ⟨h.kept (fun g hg => hf.block g (h.lt hg).2 (hn g hg)), fun g hg h' => by
    rcases hf.grow g h' with h1 | h1
    · exact hn g hg h1
    · have := (h.lt hg).2; omega⟩
theorem OR.keyAt2 {W : World} {B g off cap : Nat} {L : List Ky} (h : OR W B 29 2 (.slice (some ⟨g, off, none⟩) L.length cap) L.length (kc L)) {i : Nat} {k : Ky} (hk : L[i]? = some k) : W.cell? ⟨g, off + i * 2, none⟩ = some (.int .i64 k.1) ∧ W.cell? ⟨g, off + i * 2 + 1, none⟩ = some (.int .i64 k.2) := by
  obtain ⟨a, c, e, h1⟩ := h.keyAt
  obtain ⟨g', off', rfl, c0, c1⟩ := h1 i k hk
  injection e with e1 _ _
  injection e1 with e1
  injection e1 with e2 e3 _
  subst e2 e3
  exact ⟨c0, c1⟩
theorem meas_lt {n k : Nat} (h : k < n) : n - ((k : Int) + 1).toNat < n - ((k : Int)).toNat := by omega
set_option maxRecDepth 100000 in
set_option maxHeartbeats 40000000 in
theorem prunes_in (v : Value) (ps : List Cl) (q : Int) (w : World) (HE : Hid (ErrType w)) (hr : RCl w v ps) (hk : ∀ p ∈ ps, KOK p.k ∧ IOK p.N ∧ p.N ≤ 9223372036854775807) (hps : ps.length ≤ 2600000000000) :
    Calls Tryd.prog 4 #[v, .int .i64 q] w fun e w' => e = .returned (.bool true) ∧ Below w.heap.size w w' := by
  have HRC := hide hr
  obtain ⟨a, cap, rfl, hcell⟩ := hr
  have HN1 := hide (newO_any 5 5 w.heap.size w (by decide) (Nat.le_refl _))
  have HC := hide hcell
  have HK := hide hk
  clear hcell hk
  go_enter Tryd.func4, Tryd.ntmps4
  go_wp2_with fail
  refine HN1.out.mono ?_
  rintro e w1 ⟨sa, rfl, hS1, hb1⟩
  have HN2 := hide (newO_any 5 5 w.heap.size w1 (by decide) hb1.size)
  have S1 := hide hS1
  have B1 := hide hb1
  clear hS1 hb1 HN1
  go_wp2_with fail
  refine HN2.out.mono ?_
  rintro e w2 ⟨sc, rfl, hS2, hb2⟩
  have T2 : Hid (TW w.heap.size w2 sa sc 5 0 0 newX newX (fun x => w.heap.size ≤ x ∧ x < w1.heap.size) (fun x => w1.heap.size ≤ x ∧ x < w2.heap.size)) := hide ⟨S1.out.later hb2, hS2, fun z h1 h2 => by omega⟩
  have B2 := hide (B1.out.trans (hb2.mono B1.out.size))
  have HW := hide (worksS_any w2 (hide (HE.out.below B2.out)))
  clear hS2 hb2 HN2 S1 B1
  generalize (fun x => w.heap.size ≤ x ∧ x < w1.heap.size) = F0 at *
  generalize (fun x => w1.heap.size ≤ x ∧ x < w2.heap.size) = G0 at *
  go_wp2_with fail
  refine HW.out.mono ?_
  rintro e w3 ⟨rfl, hb3⟩
  have T3 := hide (T2.out.later hb3)
  have B3 := hide (B2.out.trans (hb3.mono B2.out.size))
  clear hb3 T2 B2 HW
  go_wp2_with fail
  go_loopw [7] (fun i wr => ∃ (k : Nat) (X : Sx) (F G : Nat → Prop), k ≤ ps.length ∧ i = .int .i64 (k : Int) ∧ Hid (Below w.heap.size w wr) ∧ Hid (TW w.heap.size wr sa sc 5 k k X X F G) ∧ Hid (PC X (ps.take k))) (fun i _ => ps.length - (intOf i).toNat)
  case atStart => exact ⟨0, newX, F0, G0, Nat.zero_le _, rfl, B3, T3, hide PC.new⟩
  case round =>
    clear T3 B3
    obtain ⟨k, X, F, G, hk, rfl, HB, HT, HP⟩ := hrel
    by_cases hlt : k < ps.length
    · obtain ⟨d, hd⟩ : ∃ d, ps[k]? = some d := ⟨_, List.getElem?_eq_getElem hlt⟩
      have hkd := HK.out d (List.mem_of_getElem? hd)
      have HTK : Hid (ps.take (k + 1) = ps.take k ++ [d]) := hide (by rw [List.take_add_one, hd]; rfl)
      obtain ⟨g, off, rfl, c0, c1, c2, c3, c4, c5⟩ := HC.out k d hd
      have hgl : g < w.heap.size := World.block_lt_of_cell? _ _ c0
      have e0 : wr.cell? ⟨g, off + k * 6, none⟩ = some (.int .i64 d.on) := (HB.out.cell (p := ⟨g, _, none⟩) hgl).trans c0
      have e1 : wr.cell? ⟨g, off + k * 6 + 1, none⟩ = some (.int .i64 d.kind) := (HB.out.cell (p := ⟨g, _, none⟩) hgl).trans c1
      have e2 : wr.cell? ⟨g, off + k * 6 + 2, none⟩ = some (.int .i64 d.k.1) := (HB.out.cell (p := ⟨g, _, none⟩) hgl).trans c2
      have e3 : wr.cell? ⟨g, off + k * 6 + 3, none⟩ = some (.int .i64 d.k.2) := (HB.out.cell (p := ⟨g, _, none⟩) hgl).trans c3
      have e4 : wr.cell? ⟨g, off + k * 6 + 4, none⟩ = some (.int .i64 d.N) := (HB.out.cell (p := ⟨g, _, none⟩) hgl).trans c4
      have e5 : wr.cell? ⟨g, off + k * 6 + 5, none⟩ = some (.string ⟨d.V.toArray⟩) := (HB.out.cell (p := ⟨g, _, none⟩) hgl).trans c5
      have HC6 := hide (And.intro c0 (And.intro c1 (And.intro c2 (And.intro c3 (And.intro c4 c5)))))
      have HGL := hide hgl
      clear c0 c1 c2 c3 c4 c5 hgl
      have hd1 : decide ((k : Int) < (ps.length : Int)) = true := by rw [decide_eq_true_eq]; omega
      have k0 : (0 : Int) ≤ (k : Int) := by omega
      have k1 : (k : Int) < (ps.length : Int) := by omega
      have wk : wrap64 ((k : Int) + 1) = (k : Int) + 1 := by unfold wrap64; omega
      by_cases n3 : d.kind = 3
      · have p3 : (d.kind == 3) = true := by rw [n3]; rfl
        have z1 : (d.kind != 3) = false := by rw [n3]; rfl
        have z5 : decide (d.kind = 3) = true := decide_eq_true n3
        have z4 : decide (¬ d.kind = 3) = false := by rw [n3]; rfl
        clear n3
        go_wp2_with fail
        go_roundw
        case rel => exact ⟨k + 1, X, F, G, by omega, by go_num, HB, hide ⟨HT.out.x.up, HT.out.y.up, HT.out.ap⟩, hide (by rw [HTK.out]; exact HP.out.skip d)⟩
        case measure => simp [intOf]; omega
      have p3 : (d.kind == 3) = false := by simpa using n3
      have HQ := hide (ask_any d w.heap.size sa 5 k X F wr (hide (fun w' hb => HE.out.below (HB.out.trans hb))) HT.out.x hkd.1 hkd.2.1 hkd.2.2 (by omega))
      go_wp2_with fail
      refine HQ.out.mono ?_
      rintro e w5 ⟨⟨s5, x5, t5, rfl, a5⟩, hS5, hF5⟩
      have HT5 := hide (HT.out.onX hS5 hF5)
      have HB5 := hide (HB.out.trans ((HT.out.belowX hF5)))
      clear hS5 hF5 HQ a5 e0 e1 e2 e3 e4 e5
      have e0 : w5.cell? ⟨g, off + k * 6, none⟩ = some (.int .i64 d.on) := (HB5.out.cell (p := ⟨g, _, none⟩) HGL.out).trans HC6.out.1
      have e1 : w5.cell? ⟨g, off + k * 6 + 1, none⟩ = some (.int .i64 d.kind) := (HB5.out.cell (p := ⟨g, _, none⟩) HGL.out).trans HC6.out.2.1
      have e2 : w5.cell? ⟨g, off + k * 6 + 2, none⟩ = some (.int .i64 d.k.1) := (HB5.out.cell (p := ⟨g, _, none⟩) HGL.out).trans HC6.out.2.2.1
      have e3 : w5.cell? ⟨g, off + k * 6 + 3, none⟩ = some (.int .i64 d.k.2) := (HB5.out.cell (p := ⟨g, _, none⟩) HGL.out).trans HC6.out.2.2.2.1
      have e4 : w5.cell? ⟨g, off + k * 6 + 4, none⟩ = some (.int .i64 d.N) := (HB5.out.cell (p := ⟨g, _, none⟩) HGL.out).trans HC6.out.2.2.2.2.1
      have e5 : w5.cell? ⟨g, off + k * 6 + 5, none⟩ = some (.string ⟨d.V.toArray⟩) := (HB5.out.cell (p := ⟨g, _, none⟩) HGL.out).trans HC6.out.2.2.2.2.2
      have HQ := hide (ask_any d w.heap.size sc 5 k X G w5 (hide (fun w' hb => HE.out.below (HB5.out.trans hb))) HT5.out.y hkd.1 hkd.2.1 hkd.2.2 (by omega))
      go_wp2_with fail
      refine HQ.out.mono ?_
      rintro e w7 ⟨⟨s7, x7, t7, rfl, a7⟩, hS7, hF7⟩
      have HT7 := hide (HT5.out.onY hS7 hF7)
      have HB7 := hide (HB5.out.trans ((HT5.out.belowY hF7)))
      clear hS7 hF7 HQ a7 e0 e1 e2 e3 e4 e5
      go_wp2_with fail
      go_roundw
      case rel => exact ⟨k + 1, X.ask d, _, _, by omega, by go_num, HB7, HT7, hide (by rw [HTK.out]; exact HP.out.ask d)⟩
      case measure => simp [intOf]; omega
    have ek : k = ps.length := by omega
    subst ek
    have HP0 : Hid (PC X ps) := hide (by have := HP.out; rw [List.take_length] at this; exact this)
    clear HP
    have HO1 := hide (oldO_any q w.heap.size sa 5 ps.length X F wr HT.out.x (by omega))
    have hole := oldR_le q X.L
    have hog : ¬ q < oldR q X.L := by omega
    have hod : decide (q < oldR q X.L) = false := decide_eq_false hog
    generalize hold : oldR q X.L = o at *
    have HOLD := hide hold
    clear hold
    go_wp2_with fail
    refine HO1.out.mono ?_
    rintro e w5 ⟨rfl, hb5⟩
    have HT5 := hide (HT.out.later hb5)
    have HB5 := hide (HB.out.trans (hb5.mono HB.out.size))
    clear hb5 HO1 HT HB
    have HO2 := hide (oldO_any q w.heap.size sc 5 ps.length X G w5 HT5.out.y (by omega))
    rw [HOLD.out] at HO2
    go_wp2_with fail
    refine HO2.out.mono ?_
    rintro e w6 ⟨rfl, hb6⟩
    have HT6 := hide (HT5.out.later hb6)
    have HB6 := hide (HB5.out.trans (hb6.mono HB5.out.size))
    clear hb6 HO2 HT5 HB5
    have HKS := hide (keysO_any w.heap.size sc 5 ps.length X G w6 HT6.out.y (by omega))
    go_wp2_with fail
    refine HKS.out.mono ?_
    rintro e w7 ⟨vk, L, rfl, hKL, hOK, hb7⟩
    have HNF : Hid (∀ g, vk.ownBlock = some g → ¬ F g) := hide (fun g hg hf => by have := (hOK.lt hg).1; have := (HT6.out.x.fb g hf).2; omega)
    have HLL : Hid (L.length ≤ ps.length) := hide (HT6.out.y.keysLen hKL)
    have HT7 := hide (HT6.out.later hb7)
    have HB7 := hide (HB6.out.trans (hb7.mono HB6.out.size))
    have HKL := hide hKL
    have HOK := hide hOK
    clear hb7 HKS HT6 HB6 hKL hOK
    obtain ⟨ak, ck, rfl, hka⟩ := HOK.out.keyAt
    have HKOK := hide (HT7.out.y.keysOK HKL.out)
    have HRIS := hide (fun j => HT7.out.y.ris j)
    clear hka
    go_wp2_with fail
    obtain ⟨Wa, rfl⟩ : ∃ Wa, Wa = wr := ⟨wr, rfl⟩
    generalize w6.heap.size = C at *
    have P0 : Hid (PR X X o (L.take 0)) := hide (PR.nil X o)
    go_loopw [10] (fun i wr => ∃ (k : Nat) (X1 : Sx) (F1 : Nat → Prop), k ≤ L.length ∧ i = .int .i64 (k : Int) ∧ Hid (Below w.heap.size w wr) ∧ Hid (TW w.heap.size wr sa sc 5 ps.length ps.length X1 X F1 G) ∧ Hid (PR X1 X o (L.take k)) ∧ Hid (OR wr C 29 2 (.slice ak L.length ck) L.length (kc L)) ∧ Hid (∀ g, (Value.slice ak L.length ck).ownBlock = some g → ¬ F1 g)) (fun i _ => L.length - (intOf i).toNat)
    case atStart => exact ⟨0, X, F, Nat.zero_le _, rfl, HB7, HT7, P0, HOK, HNF⟩
    case round =>
      clear HB7 HT7 P0 HOK HNF
      obtain ⟨k, X1, F1, hk2, rfl, HB, HT, HPR, HOK, HNF⟩ := hrel
      by_cases hlt2 : k < L.length
      · obtain ⟨p, hp⟩ : ∃ p, L[k]? = some p := ⟨_, List.getElem?_eq_getElem hlt2⟩
        obtain ⟨ak', ck', e', hka⟩ := HOK.out.keyAt
        obtain ⟨g, off, eg, c0, c1⟩ := hka k p hp
        have ea : ak = some ⟨g, off, none⟩ := by rw [← eg]; injection e'
        subst ea
        clear e' eg hka
        have HKP := hide (HKOK.out p (List.mem_of_getElem? hp))
        have HPR2 : Hid (PR (X1.pru p q) X o (L.take (k + 1))) := hide (by
          have h1 := HPR.out
          rw [← HOLD.out] at h1 ⊢
          rw [List.take_add_one, hp]
          exact h1.step p (take_nd HKL.out.nd hp))
        have hd1 : decide ((k : Int) < (L.length : Int)) = true := by rw [decide_eq_true_eq]; omega
        have k0 : (0 : Int) ≤ (k : Int) := by omega
        have k1 : (k : Int) < (L.length : Int) := by omega
        have wk : wrap64 ((k : Int) + 1) = (k : Int) + 1 := by unfold wrap64; have := HLL.out; omega
        have HPU := hide (pruneP_any p q w.heap.size sa 5 ps.length X1 F1 wr HT.out.x HKP.out (by omega))
        go_wp2_with fail
        refine HPU.out.mono ?_
        rintro e w8 ⟨rfl, hS8, hF8⟩
        have HT8 := hide (HT.out.onX hS8 hF8)
        have HB8 := hide (HB.out.trans (HT.out.belowX hF8))
        have ho8 := HOK.out.fb hF8 HNF.out
        have HO8 := hide ho8.1
        have HN8 := hide ho8.2
        clear hS8 hF8 HPU ho8 c0 c1
        go_wp2_with fail
        go_roundw
        case rel => exact ⟨k + 1, _, _, by omega, by first | rfl | (rw [wk]; rfl), HB8, HT8, HPR2, HO8, HN8⟩
        case measure => first | exact meas_lt hlt2 | (rw [wk]; exact meas_lt hlt2)
      have ek2 : k = L.length := by omega
      subst ek2
      have HPA : Hid (PR X1 X o L) := hide (by have := HPR.out; rw [List.take_length] at this; exact this)
      clear HPR
      go_wp2_with fail
      obtain ⟨Wb, rfl⟩ : ∃ Wb, Wb = wr := ⟨wr, rfl⟩
      go_loopw [11, 12] (fun u i wr => ∃ (k : Nat) (F1 : Nat → Prop), k ≤ L.length ∧ i = .int .i64 (k : Int) ∧ u = .int .i64 (abv o (L.take k) ps : Int) ∧ Hid (Below w.heap.size w wr) ∧ Hid (TW w.heap.size wr sa sc 5 ps.length ps.length X1 X F1 G) ∧ Hid (OR wr C 29 2 (.slice ak L.length ck) L.length (kc L)) ∧ Hid (∀ g, (Value.slice ak L.length ck).ownBlock = some g → ¬ F1 g)) (fun _ i _ => L.length - (intOf i).toNat)
      case atStart => exact ⟨0, F1, Nat.zero_le _, rfl, by rw [List.take_zero, abv_nil]; rfl, HB, HT, HOK, HNF⟩
      case round =>
        clear HB HT HOK HNF
        obtain ⟨k, F2, hk3, rfl, rfl, HB, HT, HOK, HNF⟩ := hrel
        by_cases hlt3 : k < L.length
        · obtain ⟨p, hp⟩ : ∃ p, L[k]? = some p := ⟨_, List.getElem?_eq_getElem hlt3⟩
          obtain ⟨ak', ck', e', hka⟩ := HOK.out.keyAt
          obtain ⟨g, off, eg, c0, c1⟩ := hka k p hp
          have ea : ak = some ⟨g, off, none⟩ := by rw [← eg]; injection e'
          subst ea
          clear e' eg hka
          have hpm := List.mem_of_getElem? hp
          have HKP := hide (HKOK.out p hpm)
          have HAB : Hid (abv o (L.take (k + 1)) ps = abv o (L.take k) ps + cC o p ps) := hide (by
            rw [List.take_add_one, hp]
            exact abv_snoc o (L.take k) p (take_nd HKL.out.nd hp) ps)
          have HDL := hide (HPA.out.dr HKL.out p).last
          have HLB : Hid (laB (X.K p) = true) := hide (by
            unfold laB
            exact decide_eq_true (List.length_pos_iff.2 ((HKL.out.mem p).1 hpm)))
          have HAG : Hid (ab (oldR q X1.L) (X1.K p) - 1 = 0 ∧ X1.pru p q = X1) := hide (by
            have h1 := HPA.out
            rw [← HOLD.out] at h1
            exact h1.again HKL.out HRIS.out p)
          have HL1 := hide (lastO_any p w.heap.size sa 5 ps.length X1 F2 wr HT.out.x HKP.out (by omega))
          rw [HDL.out.2.1, HDL.out.2.2, HLB.out] at HL1
          have hd1 : decide ((k : Int) < (L.length : Int)) = true := by rw [decide_eq_true_eq]; omega
          have k0 : (0 : Int) ≤ (k : Int) := by omega
          have k1 : (k : Int) < (L.length : Int) := by omega
          have wk : wrap64 ((k : Int) + 1) = (k : Int) + 1 := by unfold wrap64; have := HLL.out; omega
          generalize hS : laP (X.K p) = S at *
          have HS := hide hS
          clear hS hpm
          obtain ⟨base, hbase⟩ : ∃ base, base = abv o (L.take k) ps := ⟨_, rfl⟩
          rw [← hbase] at HAB ⊢
          have hbl : base ≤ ps.length := by rw [hbase]; exact abv_le _ _ _
          have HBL : Hid (base + cC o p ps ≤ ps.length) := hide (by rw [← HAB.out]; exact abv_le _ _ _)
          clear hbase
          go_wp2_with fail
          refine HL1.out.mono ?_
          rintro e w8 ⟨rfl, hb8⟩
          have HT8 := hide (HT.out.later hb8)
          have HB8 := hide (HB.out.trans (hb8.mono HB.out.size))
          have HO8 := hide (HOK.out.later hb8)
          have d0 : w8.cell? ⟨g, off + k * 2, none⟩ = some (.int .i64 p.1) := (hb8.cell (p := ⟨g, _, none⟩) (World.block_lt_of_cell? _ _ c0)).trans c0
          have d1 : w8.cell? ⟨g, off + k * 2 + 1, none⟩ = some (.int .i64 p.2) := (hb8.cell (p := ⟨g, _, none⟩) (World.block_lt_of_cell? _ _ c1)).trans c1
          clear hb8 HL1 c0 c1 HT HB HOK
          have HL2 := hide (lastO_any p w.heap.size sc 5 ps.length X G w8 HT8.out.y HKP.out (by omega))
          rw [HS.out, HLB.out] at HL2
          go_wp2_with fail
          refine HL2.out.mono ?_
          rintro e w9 ⟨rfl, hb9⟩
          have HT9 := hide (HT8.out.later hb9)
          have HB9 := hide (HB8.out.trans (hb9.mono HB8.out.size))
          have HO9 := hide (HO8.out.later hb9)
          have c0 : w9.cell? ⟨g, off + k * 2, none⟩ = some (.int .i64 p.1) := (hb9.cell (p := ⟨g, _, none⟩) (World.block_lt_of_cell? _ _ d0)).trans d0
          have c1 : w9.cell? ⟨g, off + k * 2 + 1, none⟩ = some (.int .i64 p.2) := (hb9.cell (p := ⟨g, _, none⟩) (World.block_lt_of_cell? _ _ d1)).trans d1
          clear hb9 HL2 d0 d1 HT8 HB8 HO8
          have HPU := hide (pruneP_any p q w.heap.size sa 5 ps.length X1 F2 w9 HT9.out.x HKP.out (by omega))
          rw [HAG.out.1, HAG.out.2] at HPU
          go_wp2_with fail
          refine HPU.out.mono ?_
          rintro e w10 ⟨rfl, hS10, hF10⟩
          have HT10 := hide (HT9.out.onX hS10 hF10)
          have HB10 := hide (HB9.out.trans (HT9.out.belowX hF10))
          have ho10 := HO9.out.fb hF10 HNF.out
          have HO10 := hide ho10.1
          have HN10 := hide ho10.2
          clear hS10 hF10 HPU ho10 c0 c1 HT9 HB9 HO9 HNF
          go_wp2_with fail
          obtain ⟨Wc, rfl⟩ : ∃ Wc, Wc = wr := ⟨wr, rfl⟩
          have hcz : cC o p (ps.take 0) = 0 := rfl
          go_loopw [11, 19] (fun u i wr => ∃ (j : Nat), j ≤ ps.length ∧ i = .int .i64 (j : Int) ∧ u = .int .i64 ((base + cC o p (ps.take j) : Nat) : Int) ∧ Hid (Below w10.heap.size w10 wr)) (fun _ i _ => ps.length - (intOf i).toNat)
          case atStart => exact ⟨0, Nat.zero_le _, rfl, rfl, hide (Below.refl _ _)⟩
          case round =>
            obtain ⟨j, hj, rfl, rfl, HB⟩ := hrel
            have HBW := hide (HB10.out.trans (HB.out.mono HB10.out.size))
            have HTW := hide (HT10.out.later HB.out)
            have HOW := hide (HO10.out.later HB.out)
            by_cases hjl : j < ps.length
            · obtain ⟨d, hd⟩ : ∃ d, ps[j]? = some d := ⟨_, List.getElem?_eq_getElem hjl⟩
              have HTK : Hid (cC o p (ps.take (j + 1)) = cC o p (ps.take j) + if d.kind = 0 ∧ d.k = p ∧ o < d.N then 1 else 0) := hide (by
                rw [List.take_add_one, hd]; exact cC_snoc o p (ps.take j) d)
              have HCL : Hid (cC o p (ps.take j) + (if d.kind = 0 ∧ d.k = p ∧ o < d.N then 1 else 0) ≤ cC o p ps) := hide (by
                rw [← HTK.out]; exact (List.take_sublist _ _).countP_le)
              obtain ⟨g2, off2, ea2, x0, x1, x2, x3, x4, x5⟩ := HC.out j d hd
              subst ea2
              have hgl : g2 < w.heap.size := World.block_lt_of_cell? _ _ x0
              have hgw : g2 < wr.heap.size := Nat.lt_of_lt_of_le hgl HBW.out.size
              have f1 : wr.cell? ⟨g2, off2 + j * 6 + 1, none⟩ = some (.int .i64 d.kind) := (HBW.out.cell (p := ⟨g2, _, none⟩) hgl).trans x1
              have f2 : wr.cell? ⟨g2, off2 + j * 6 + 2, none⟩ = some (.int .i64 d.k.1) := (HBW.out.cell (p := ⟨g2, _, none⟩) hgl).trans x2
              have f3 : wr.cell? ⟨g2, off2 + j * 6 + 3, none⟩ = some (.int .i64 d.k.2) := (HBW.out.cell (p := ⟨g2, _, none⟩) hgl).trans x3
              have f4 : wr.cell? ⟨g2, off2 + j * 6 + 4, none⟩ = some (.int .i64 d.N) := (HBW.out.cell (p := ⟨g2, _, none⟩) hgl).trans x4
              obtain ⟨h0, h1⟩ := HOW.out.keyAt2 hp
              have hkw : g < wr.heap.size := World.block_lt_of_cell? _ _ h0
              clear x0 x1 x2 x3 x4 x5
              have hd1' : decide ((j : Int) < (ps.length : Int)) = true := by rw [decide_eq_true_eq]; omega
              have j0 : (0 : Int) ≤ (j : Int) := by omega
              have j1 : (j : Int) < (ps.length : Int) := by omega
              have wj : wrap64 ((j : Int) + 1) = (j : Int) + 1 := by unfold wrap64; omega
              have HX0 := hide ((Below.refl wr.heap.size wr).drew)
              haveI : Nonempty (Gr wr) := ⟨⟨_, HX0.out⟩⟩
              have y1 : ∀ x : Gr wr, x.1.cell? ⟨g2, off2 + j * 6 + 1, none⟩ = some (.int .i64 d.kind) := fun x => (x.2.cell (p := ⟨g2, _, none⟩) hgw).trans f1
              have y2 : ∀ x : Gr wr, x.1.cell? ⟨g2, off2 + j * 6 + 2, none⟩ = some (.int .i64 d.k.1) := fun x => (x.2.cell (p := ⟨g2, _, none⟩) hgw).trans f2
              have y3 : ∀ x : Gr wr, x.1.cell? ⟨g2, off2 + j * 6 + 3, none⟩ = some (.int .i64 d.k.2) := fun x => (x.2.cell (p := ⟨g2, _, none⟩) hgw).trans f3
              have y4 : ∀ x : Gr wr, x.1.cell? ⟨g2, off2 + j * 6 + 4, none⟩ = some (.int .i64 d.N) := fun x => (x.2.cell (p := ⟨g2, _, none⟩) hgw).trans f4
              have y5 : ∀ x : Gr wr, x.1.cell? ⟨g, off + k * 2, none⟩ = some (.int .i64 p.1) := fun x => (x.2.cell (p := ⟨g, _, none⟩) hkw).trans h0
              have y6 : ∀ x : Gr wr, x.1.cell? ⟨g, off + k * 2 + 1, none⟩ = some (.int .i64 p.2) := fun x => (x.2.cell (p := ⟨g, _, none⟩) hkw).trans h1
              clear f1 f2 f3 f4 h0 h1 hgl hgw hkw
              by_cases n0 : d.kind = 0
              · have p0 : (d.kind == 0) = true := by rw [n0]; rfl
                have N0 := hide n0
                clear n0
                by_cases nk : d.k = p
                · have hk1 : d.k.1 = p.1 := by rw [nk]
                  have hk2 : d.k.2 = p.2 := by rw [nk]
                  have NK := hide nk
                  clear nk
                  by_cases no : o < d.N
                  · have po : decide (o < d.N) = true := decide_eq_true no
                    have HE0 : Hid (cC o p (ps.take (j + 1)) = cC o p (ps.take j) + 1) := hide (by rw [HTK.out, if_pos ⟨N0.out, NK.out, no⟩])
                    have hcl : cC o p (ps.take j) + 1 ≤ cC o p ps := by have := HCL.out; rw [if_pos ⟨N0.out, NK.out, no⟩] at this; exact this
                    obtain ⟨acc, hacc⟩ : ∃ acc, acc = base + cC o p (ps.take j) := ⟨_, rfl⟩
                    rw [← hacc]
                    have HAC := hide hacc
                    have wa : wrap64 ((acc : Int) + 1) = (acc : Int) + 1 := by unfold wrap64; have := HBL.out; omega
                    clear hacc hcl
                    go_wp2_with fail
                    refine region_class (C := fun w' => ∃ x : Gr wr, w' = x.1) (by kernel_rfl) (by kernel_rfl) ⟨⟨_, HX0.out⟩, rfl⟩ ?_
                    repeat (first
                      | go_big_quiet_skip
                      | (go_big_quiet_want; (go_big_quiet_op; go_big_quiet_on)))
                    refine wpQuiet_nil ?_
                    rintro w3' ⟨x, rfl⟩
                    obtain ⟨w3', hx3⟩ := x
                    dsimp only
                    have HB3 := hide (HB.out.trans (hx3.mono HB.out.size))
                    clear y1 y2 y3 y4 y5 y6 this HX0 hx3
                    go_wp2_with fail
                    go_roundw
                    case rel => exact ⟨j + 1, by omega, by first | rfl | (rw [wj]; rfl), by rw [HE0.out, ← Nat.add_assoc, ← HAC.out]; first | done | rfl | (rw [wa]; rfl) | exact congrArg (Value.int .i64) (by simp), HB3⟩
                    case measure => first | exact meas_lt hjl | (rw [wj]; exact meas_lt hjl)
                  · have po : decide (o < d.N) = false := decide_eq_false no
                    have HE0 : Hid (cC o p (ps.take (j + 1)) = cC o p (ps.take j)) := hide (by rw [HTK.out, if_neg (fun h => no h.2.2)]; rfl)
                    go_wp2_with fail
                    refine region_class (C := fun w' => ∃ x : Gr wr, w' = x.1) (by kernel_rfl) (by kernel_rfl) ⟨⟨_, HX0.out⟩, rfl⟩ ?_
                    repeat (first
                      | go_big_quiet_skip
                      | (go_big_quiet_want; (go_big_quiet_op; go_big_quiet_on)))
                    refine wpQuiet_nil ?_
                    rintro w3' ⟨x, rfl⟩
                    obtain ⟨w3', hx3⟩ := x
                    dsimp only
                    have HB3 := hide (HB.out.trans (hx3.mono HB.out.size))
                    clear y1 y2 y3 y4 y5 y6 this HX0 hx3
                    go_wp2_with fail
                    go_roundw
                    case rel => exact ⟨j + 1, by omega, by first | rfl | (rw [wj]; rfl), by rw [HE0.out]; first | done | exact congrArg (Value.int .i64) (by simp), HB3⟩
                    case measure => first | exact meas_lt hjl | (rw [wj]; exact meas_lt hjl)
                · by_cases hk1 : d.k.1 = p.1
                  · have hk2 : ¬ d.k.2 = p.2 := fun h2 => nk (Prod.ext hk1 h2)
                    have HE0 : Hid (cC o p (ps.take (j + 1)) = cC o p (ps.take j)) := hide (by rw [HTK.out, if_neg (fun h => nk h.2.1)]; rfl)
                    go_wp2_with fail
                    refine region_class (C := fun w' => ∃ x : Gr wr, w' = x.1) (by kernel_rfl) (by kernel_rfl) ⟨⟨_, HX0.out⟩, rfl⟩ ?_
                    repeat (first
                      | go_big_quiet_skip
                      | (go_big_quiet_want; (go_big_quiet_op; go_big_quiet_on)))
                    refine wpQuiet_nil ?_
                    rintro w3' ⟨x, rfl⟩
                    obtain ⟨w3', hx3⟩ := x
                    dsimp only
                    have HB3 := hide (HB.out.trans (hx3.mono HB.out.size))
                    clear y1 y2 y3 y4 y5 y6 this HX0 hx3
                    go_wp2_with fail
                    go_roundw
                    case rel => exact ⟨j + 1, by omega, by first | rfl | (rw [wj]; rfl), by rw [HE0.out]; first | done | exact congrArg (Value.int .i64) (by simp), HB3⟩
                    case measure => first | exact meas_lt hjl | (rw [wj]; exact meas_lt hjl)
                  · have HE0 : Hid (cC o p (ps.take (j + 1)) = cC o p (ps.take j)) := hide (by rw [HTK.out, if_neg (fun h => nk h.2.1)]; rfl)
                    go_wp2_with fail
                    refine region_class (C := fun w' => ∃ x : Gr wr, w' = x.1) (by kernel_rfl) (by kernel_rfl) ⟨⟨_, HX0.out⟩, rfl⟩ ?_
                    repeat (first
                      | go_big_quiet_skip
                      | (go_big_quiet_want; (go_big_quiet_op; go_big_quiet_on)))
                    refine wpQuiet_nil ?_
                    rintro w3' ⟨x, rfl⟩
                    obtain ⟨w3', hx3⟩ := x
                    dsimp only
                    have HB3 := hide (HB.out.trans (hx3.mono HB.out.size))
                    clear y1 y2 y3 y4 y5 y6 this HX0 hx3
                    go_wp2_with fail
                    go_roundw
                    case rel => exact ⟨j + 1, by omega, by first | rfl | (rw [wj]; rfl), by rw [HE0.out]; first | done | exact congrArg (Value.int .i64) (by simp), HB3⟩
                    case measure => first | exact meas_lt hjl | (rw [wj]; exact meas_lt hjl)
              · have p0 : (d.kind == 0) = false := by simpa using n0
                have HE0 : Hid (cC o p (ps.take (j + 1)) = cC o p (ps.take j)) := hide (by rw [HTK.out, if_neg (fun h => n0 h.1)]; rfl)
                go_wp2_with fail
                refine region_class (C := fun w' => ∃ x : Gr wr, w' = x.1) (by kernel_rfl) (by kernel_rfl) ⟨⟨_, HX0.out⟩, rfl⟩ ?_
                repeat (first
                  | go_big_quiet_skip
                  | (go_big_quiet_want; (go_big_quiet_op; go_big_quiet_on)))
                refine wpQuiet_nil ?_
                rintro w3' ⟨x, rfl⟩
                obtain ⟨w3', hx3⟩ := x
                dsimp only
                have HB3 := hide (HB.out.trans (hx3.mono HB.out.size))
                clear y1 y2 y3 y4 y5 y6 this HX0 hx3
                go_wp2_with fail
                go_roundw
                case rel => exact ⟨j + 1, by omega, by first | rfl | (rw [wj]; rfl), by rw [HE0.out]; first | done | exact congrArg (Value.int .i64) (by simp), HB3⟩
                case measure => first | exact meas_lt hjl | (rw [wj]; exact meas_lt hjl)
            have ej : j = ps.length := by omega
            subst ej
            have HEE : Hid (base + cC o p (ps.take ps.length) = abv o (L.take (k + 1)) ps) := hide (by rw [List.take_length]; exact HAB.out.symm)
            go_wp2_with fail
            go_roundw
            case rel => exact ⟨k + 1, _, by omega, by first | rfl | (rw [wk]; rfl), by rw [HEE.out], HBW, HTW, HOW, HN10⟩
            case measure => first | exact meas_lt hlt3 | (rw [wk]; exact meas_lt hlt3)
        have ek3 : k = L.length := by omega
        subst ek3
        rw [List.take_length]
        have HSE := hide (sees_any (.slice a ps.length cap) ps o wr w.heap.size sa sc 5 ps.length ps.length X1 X F2 G (HRC.out.below HB.out) HT.out.x HT.out.y (fun p hp => (HK.out p hp).1) (by omega) (by omega) (by omega) (fun j z hz => (HPA.out.dr HKL.out j).at (HRIS.out j) hz))
        have HAL : Hid (abv o L ps ≤ ps.length) := hide (abv_le _ _ _)
        have HFEW : Hid (lenS X1 L ≤ L.length + abv o L ps) := hide (HPA.out.few HKL.out HRIS.out HP0.out)
        generalize abv o L ps = av at *
        go_wp2_with fail
        refine HSE.out.mono ?_
        rintro e w11 ⟨rfl, hb11⟩
        have HT11 := hide (HT.out.later hb11)
        have HB11 := hide (HB.out.trans (hb11.mono HB.out.size))
        have HO11 := hide (HOK.out.later hb11)
        clear hb11 HSE HT HB HOK
        have HKS := hide (keysO_any w.heap.size sa 5 ps.length X1 F2 w11 HT11.out.x (by omega))
        go_wp2_with fail
        refine HKS.out.mono ?_
        rintro e w12 ⟨vk, L2, rfl, hKL2, hOK2, hb12⟩
        have hLL : L2 = L := KL.one hKL2 (HPA.out.kl HKL.out) (fun _ => Iff.rfl)
        subst hLL
        have HT12 := hide (HT11.out.later hb12)
        have HB12 := hide (HB11.out.trans (hb12.mono HB11.out.size))
        have HO12 := hide (HO11.out.later hb12)
        have HSK := hide (sameK_any vk (.slice ak L2.length ck) _ _ L2 w12 hOK2 HO12.out (by have := HLL.out; omega))
        clear hb12 HKS HT11 HB11 HO11 hKL2 hOK2
        go_wp2_with fail
        refine HSK.out.mono ?_
        rintro e w13 ⟨rfl, hb13⟩
        have HT13 := hide (HT12.out.later hb13)
        have HB13 := hide (HB12.out.trans (hb13.mono HB12.out.size))
        have HO13 := hide (HO12.out.later hb13)
        clear hb13 HSK HT12 HB12 HO12
        have HVE := hide (verE_any w.heap.size sa 5 ps.length X1 F2 L2 w13 HT13.out.x (HPA.out.kl HKL.out) (by have := HFEW.out; have := HLL.out; have := HAL.out; omega))
        generalize lenS X1 L2 = lv at *
        have wv : wrap64 ((L2.length : Int) + (av : Int)) = (L2.length : Int) + (av : Int) := by unfold wrap64; have := HLL.out; have := HAL.out; omega
        have hvd : decide ((L2.length : Int) + (av : Int) < (lv : Int)) = false := by rw [decide_eq_false_iff_not]; have := HFEW.out; omega
        go_wp2_with fail
        refine HVE.out.mono ?_
        rintro e w14 ⟨rfl, hb14⟩
        have HB14 := hide (HB13.out.trans (hb14.mono HB13.out.size))
        have HO14 := hide (HO13.out.later hb14)
        clear hb14 HVE HT13 HB13 HO13
        go_wp2_with fail
        obtain ⟨Wd, rfl⟩ : ∃ Wd, Wd = wr := ⟨wr, rfl⟩
        go_loopw [20] (fun i wr => ∃ (k : Nat), 1 ≤ k ∧ k ≤ L2.length + 1 ∧ i = .int .i64 (k : Int) ∧ Hid (Below w.heap.size w wr) ∧ Hid (OR wr C 29 2 (.slice ak L2.length ck) L2.length (kc L2))) (fun i _ => L2.length - (intOf i).toNat)
        case atStart => exact ⟨1, Nat.le_refl _, by omega, rfl, HB14, HO14⟩
        case round =>
          clear HB14 HO14
          obtain ⟨k, hk4, hk5, rfl, HB, HOK⟩ := hrel
          by_cases hlt4 : k < L2.length
          · obtain ⟨m, hm⟩ : ∃ m, k = m + 1 := ⟨k - 1, by omega⟩
            have wk1 : wrap64 ((k : Int) - 1) = (m : Int) := by unfold wrap64; have := HLL.out; omega
            have wk : wrap64 ((k : Int) + 1) = (k : Int) + 1 := by unfold wrap64; have := HLL.out; omega
            have hml : m < L2.length := by omega
            obtain ⟨p1, hp1⟩ : ∃ p1, L2[m]? = some p1 := ⟨_, List.getElem?_eq_getElem hml⟩
            obtain ⟨p2, hp2⟩ : ∃ p2, L2[k]? = some p2 := ⟨_, List.getElem?_eq_getElem hlt4⟩
            have hrise : p1.1 < p2.1 ∨ (p1.1 = p2.1 ∧ p1.2 < p2.2) := by
              obtain ⟨i1, e1⟩ := List.getElem?_eq_some_iff.1 hp1
              obtain ⟨i2, e2⟩ := List.getElem?_eq_some_iff.1 hp2
              have h1 := (List.pairwise_iff_getElem.1 HKL.out.srt) m k i1 i2 (by omega)
              have h2 := (List.pairwise_iff_getElem.1 HKL.out.nd) m k i1 i2 (by omega)
              rw [e1, e2] at h1 h2
              rw [ltK] at h1
              have h3 : ¬ (p2.1 < p1.1 ∨ p2.1 = p1.1 ∧ p2.2 < p1.2) := by simpa using h1
              have h4 : ¬ (p1.1 = p2.1 ∧ p1.2 = p2.2) := fun h => h2 (Prod.ext h.1 h.2)
              omega
            have HM := hide hm
            clear hm
            obtain ⟨ak', ck', e', hka⟩ := HOK.out.keyAt
            obtain ⟨g, off, eg, c0, c1⟩ := hka m p1 hp1
            have ea : ak = some ⟨g, off, none⟩ := by rw [← eg]; injection e'
            subst ea
            clear e' eg hka
            obtain ⟨W1, hW1⟩ : ∃ W1, wr.alloc (.cells #[.int .i64 p1.1, .int .i64 p1.2] 29) = W1 := ⟨_, rfl⟩
            have hb1 : Below wr.heap.size wr W1 := by rw [← hW1]; exact (Below.refl _ _).alloc (Nat.le_refl _) _
            have hx1 : W1.heap[wr.heap.size]? = some (.cells #[.int .i64 p1.1, .int .i64 p1.2] 29 (0, 0)) := by rw [← hW1]; exact alloc_newV wr _
            obtain ⟨d0, d1⟩ := (HOK.out.later hb1).keyAt2 hp2
            obtain ⟨W2, hW2⟩ : ∃ W2, W1.alloc (.cells #[.int .i64 p2.1, .int .i64 p2.2] 29) = W2 := ⟨_, rfl⟩
            have hb2 : Below W1.heap.size W1 W2 := by rw [← hW2]; exact (Below.refl _ _).alloc (Nat.le_refl _) _
            have hx2 : W2.heap[W1.heap.size]? = some (.cells #[.int .i64 p2.1, .int .i64 p2.2] 29 (0, 0)) := by rw [← hW2]; exact alloc_newV W1 _
            have hx1' := (hb2.block _ (Array.getElem?_eq_some_iff.1 hx1).1).trans hx1
            have b0 : W2.cell? ⟨wr.heap.size, 0, none⟩ = some (.int .i64 p1.1) := by rw [cell_of_row _ _ 0 _ _ _ hx1']; rfl
            have b1 : W2.cell? ⟨wr.heap.size, 1, none⟩ = some (.int .i64 p1.2) := by rw [cell_of_row _ _ 1 _ _ _ hx1']; rfl
            have b2 : W2.cell? ⟨W1.heap.size, 0, none⟩ = some (.int .i64 p2.1) := by rw [cell_of_row _ _ 0 _ _ _ hx2]; rfl
            have b3 : W2.cell? ⟨W1.heap.size, 1, none⟩ = some (.int .i64 p2.2) := by rw [cell_of_row _ _ 1 _ _ _ hx2]; rfl
            have HB2 := hide ((HB.out.trans (hb1.mono HB.out.size)).trans (hb2.mono (Nat.le_trans HB.out.size hb1.size)))
            have HO2 := hide ((HOK.out.later hb1).later hb2)
            clear hb1 hb2 hx1 hx2 hx1'
            have hd1 : decide ((k : Int) < (L2.length : Int)) = true := by rw [decide_eq_true_eq]; omega
            have k0 : (0 : Int) ≤ (k : Int) := by omega
            have k1 : (k : Int) < (L2.length : Int) := by omega
            have m0 : (0 : Int) ≤ (m : Int) := by omega
            have m1 : (m : Int) < (L2.length : Int) := by omega
            rcases hrise with hr1 | ⟨hr1, hr2⟩
            · have g1 : decide (p2.1 < p1.1) = false := decide_eq_false (by omega)
              have g2 : (p1.1 == p2.1) = false := by simpa using (show ¬ p1.1 = p2.1 by omega)
              have g3 : ¬ p1.1 = p2.1 := by omega
              have g4 : ¬ p2.1 < p1.1 := by omega
              clear hr1
              go_wp2_with fail
              go_roundw
              case rel => exact ⟨k + 1, by omega, by omega, by first | rfl | (rw [wk]; rfl), HB2, HO2⟩
              case measure => first | exact meas_lt hlt4 | (rw [wk]; exact meas_lt hlt4)
            · have g1 : decide (p2.1 < p1.1) = false := decide_eq_false (by omega)
              have g4 : ¬ p2.1 < p1.1 := by omega
              have g2 : (p1.1 == p2.1) = true := by rw [hr1]; exact beq_self_eq_true _
              have g5 : decide (p2.2 ≤ p1.2) = false := decide_eq_false (by omega)
              have g6 : ¬ p2.2 ≤ p1.2 := by omega
              have HR1 := hide hr1
              clear hr1 hr2
              go_wp2_with fail
              go_roundw
              case rel => exact ⟨k + 1, by omega, by omega, by first | rfl | (rw [wk]; rfl), HB2, HO2⟩
              case measure => first | exact meas_lt hlt4 | (rw [wk]; exact meas_lt hlt4)
          have hd1 : decide ((k : Int) < (L2.length : Int)) = false := by rw [decide_eq_false_iff_not]; omega
          go_wp2_with fail
          go_ret
          exact ⟨rfl, HB.out⟩
end Go.Proofs.YtnjjehlfgoggfaaDoor
