/-
  My own text: the law on readers.
-/
import Derived.Test.YtnjjehlfgoggfaaDoorSN13
namespace Go.Proofs.YtnjjehlfgoggfaaDoor
open Go.RowKit Go.Extern Go.MapKept Go.ChangeMaps

set_option maxRecDepth 100000 in
set_option maxHeartbeats 40000000 in
theorem readers_in (v : Value) (ps : List Cl) (ah q : Int) (w : World) (HE : Hid (ErrType w)) (hr : RCl w v ps) (hk : ∀ p ∈ ps, KOK p.k ∧ IOK p.N ∧ p.N ≤ 9223372036854775807) (hps : ps.length ≤ 2600000000000) :
    Calls Tryd.prog 3 #[v, .int .i64 ah, .int .i64 q] w fun e w' => e = .returned (.bool true) ∧ Below w.heap.size w w' := by
  have HRC := hide hr
  obtain ⟨a, cap, rfl, hcell⟩ := hr
  have HN1 := hide (newO_any 3 3 w.heap.size w (by decide) (Nat.le_refl _))
  have HC := hide hcell
  have HK := hide hk
  have hm0 : 0 ≤ ah % ((ps.length : Int) + 1) := Int.emod_nonneg _ (by omega)
  have hm1 : ah % ((ps.length : Int) + 1) < (ps.length : Int) + 1 := Int.emod_lt_of_pos _ (by omega)
  have HPK := hide (fun W => pick_big ah ((ps.length : Int) + 1) W (by omega) (by omega))
  obtain ⟨A, hA⟩ : ∃ A : Nat, ah % ((ps.length : Int) + 1) = (A : Int) := ⟨(ah % ((ps.length : Int) + 1)).toNat, by omega⟩
  rw [hA] at HPK hm1
  have hAl : A ≤ ps.length := by omega
  have wl : wrap64 ((ps.length : Int) + 1) = (ps.length : Int) + 1 := by unfold wrap64; omega
  clear hcell hk hm0 hm1 hA
  go_enter Tryd.func3, Tryd.ntmps3
  go_wp2_with fail
  refine HN1.out.mono ?_
  rintro e w1 ⟨sa, rfl, hS1, hb1⟩
  have HN2 := hide (newO_any 3 3 w.heap.size w1 (by decide) hb1.size)
  have S1 := hide hS1
  have B1 := hide hb1
  clear hS1 hb1 HN1
  go_wp2_with fail
  refine HN2.out.mono ?_
  rintro e w2 ⟨sc, rfl, hS2, hb2⟩
  have T2 : Hid (TW w.heap.size w2 sa sc 3 0 0 newX newX (fun x => w.heap.size ≤ x ∧ x < w1.heap.size) (fun x => w1.heap.size ≤ x ∧ x < w2.heap.size)) := hide ⟨S1.out.later hb2, hS2, fun z h1 h2 => by omega⟩
  have B2 := hide (B1.out.trans (hb2.mono B1.out.size))
  have HW := hide (worksS_any w2 (hide (HE.out.below B2.out)))
  clear hS2 hb2 HN2 S1 B1
  generalize (fun x => w.heap.size ≤ x ∧ x < w1.heap.size) = F0 at *
  generalize (fun x => w1.heap.size ≤ x ∧ x < w2.heap.size) = G0 at *
  go_wp2_with fail
  refine HW.out.mono ?_
  rintro e w3 ⟨rfl, hb3⟩
  have T3 := hide (T2.out.later hb3)
  have B3 := hide (B2.out.trans (hb3.mono B2.out.size))
  clear hb3 T2 B2 HW
  go_wp2_with fail
  refine (HPK.out w3).mono ?_
  rintro e w4 ⟨rfl, rfl⟩
  clear HPK
  go_wp2_with fail
  go_loopw [9, 10] (fun o i wr => ∃ (k : Nat) (own : Int) (X Y : Sx) (F G : Nat → Prop) (kx ky : Nat), k ≤ ps.length + 1 ∧ i = .int .i64 (k : Int) ∧ o = .int .i64 own ∧ Hid (Below w.heap.size w wr) ∧ Hid (TW w.heap.size wr sa sc 3 kx ky X Y F G) ∧ Hid (RJ k A q own X Y kx ky)) (fun _ i _ => ps.length + 2 - (intOf i).toNat)
  case atStart => exact ⟨0, 0, newX, newX, F0, G0, 0, 0, Nat.zero_le _, rfl, rfl, B3, T3, hide (RJ.start A q)⟩
  case round =>
    clear T3 B3
    obtain ⟨k, own, X, Y, F, G, kx, ky, hk, rfl, rfl, HB, HT, HJ⟩ := hrel
    by_cases hle : k ≤ ps.length
    rotate_left
    · have hd1 : decide ((k : Int) ≤ (ps.length : Int)) = false := by rw [decide_eq_false_iff_not]; omega
      go_wp2_with fail
      go_ret
      exact ⟨rfl, HB.out⟩
    have hd1 : decide ((k : Int) ≤ (ps.length : Int)) = true := by rw [decide_eq_true_eq]; omega
    have k0 : (0 : Int) ≤ (k : Int) := by omega
    have wk : wrap64 ((k : Int) + 1) = (k : Int) + 1 := by unfold wrap64; omega
    by_cases hkA : k = A
    · subst hkA
      have HO1 := hide (openO_any q w.heap.size sa 3 kx X F wr HT.out.x (by have := (HJ.out.low (Nat.le_refl _)).2.2.1; omega))
      have HMO := hide HJ.out.opens
      have hge : decide ((k : Int) ≤ (k : Int)) = true := by simp
      have hlk : decide ((k : Int) < (k : Int)) = false := by simp
      have hbk : ((k : Int) == (k : Int)) = true := by simp
      have HY0 := hide (HJ.out.low (Nat.le_refl _)).2.2.2
      clear hlk hge hbk
      go_wp2_with fail
      refine HO1.out.mono ?_
      rintro e w5 ⟨rfl, hS5, hF5⟩
      have HTa := hide (HT.out.onX hS5 hF5)
      have HBa := hide (HB.out.trans (HT.out.belowX hF5))
      have HO2 := hide (openO_any q w.heap.size sc 3 ky Y G w5 HTa.out.y (by have := HY0.out; omega))
      rw [HMO.out.2] at HO2
      clear hS5 hF5 HO1
      go_wp2_with fail
      refine HO2.out.mono ?_
      rintro e w6 ⟨rfl, hS6, hF6⟩
      have HTb := hide (HTa.out.onY hS6 hF6)
      have HBb := hide (HBa.out.trans (HTa.out.belowY hF6))
      have HJb := hide HMO.out.1
      clear hS6 hF6 HO2 HTa HBa HMO HY0 HJ HT HB
      generalize (X.opn q) = X2 at *
      generalize (Y.opn q) = Y2 at *
      generalize hown : ((X.bg : Int) + 1) = own2 at *
      have hpo : 1 ≤ own2 := by omega
      have hpd : decide (own2 < 1) = false := by rw [decide_eq_false_iff_not]; omega
      clear hown
      generalize gw F wr w5 = F2 at *
      generalize gw G w5 w6 = G2 at *
      by_cases hlt : k < ps.length
      rotate_left
      · have hd2 : decide ((k : Int) < (ps.length : Int)) = false := by rw [decide_eq_false_iff_not]; omega
        have HJ9 := hide HJb.out.skip
        have HSE := hide (sees_any _ ps q w6 w.heap.size sa sc 3 (kx + 1) (ky + 1) X2 Y2 F2 G2 (HRC.out.below HBb.out) HTb.out.x HTb.out.y (fun p hp => (HK.out p hp).1) (by omega) (by have := (HJ9.out.high (by omega)).2.1; omega) (by have := (HJ9.out.high (by omega)).2.2; omega) (HJ9.out.seen (fun j => HTb.out.y.ris j) (by omega)))
        go_wp2_with fail
        refine HSE.out.mono ?_
        rintro e w9 ⟨rfl, hb9⟩
        have HT9 := hide (HTb.out.later hb9)
        have HB9 := hide (HBb.out.trans (hb9.mono HBb.out.size))
        clear hb9 HSE
        go_wp2_with fail
        go_roundw
        case rel => exact ⟨k + 1, own2, X2, Y2, F2, G2, (kx + 1), (ky + 1), by omega, by go_num, rfl, HB9, HT9, HJ9⟩
        case measure => simp [intOf]; omega
      have hd2 : decide ((k : Int) < (ps.length : Int)) = true := by rw [decide_eq_true_eq]; omega
      have k1 : (k : Int) < (ps.length : Int) := by omega
      obtain ⟨d, hd⟩ : ∃ d, ps[k]? = some d := ⟨_, List.getElem?_eq_getElem hlt⟩
      have hkd := HK.out d (List.mem_of_getElem? hd)
      obtain ⟨g, off, rfl, c0, c1, c2, c3, c4, c5⟩ := HC.out k d hd
      have hgl : g < w.heap.size := World.block_lt_of_cell? _ _ c0
      have e0 : w6.cell? ⟨g, off + k * 6, none⟩ = some (.int .i64 d.on) := (HBb.out.cell (p := ⟨g, _, none⟩) hgl).trans c0
      have e1 : w6.cell? ⟨g, off + k * 6 + 1, none⟩ = some (.int .i64 d.kind) := (HBb.out.cell (p := ⟨g, _, none⟩) hgl).trans c1
      have e2 : w6.cell? ⟨g, off + k * 6 + 2, none⟩ = some (.int .i64 d.k.1) := (HBb.out.cell (p := ⟨g, _, none⟩) hgl).trans c2
      have e3 : w6.cell? ⟨g, off + k * 6 + 3, none⟩ = some (.int .i64 d.k.2) := (HBb.out.cell (p := ⟨g, _, none⟩) hgl).trans c3
      have e4 : w6.cell? ⟨g, off + k * 6 + 4, none⟩ = some (.int .i64 d.N) := (HBb.out.cell (p := ⟨g, _, none⟩) hgl).trans c4
      have e5 : w6.cell? ⟨g, off + k * 6 + 5, none⟩ = some (.string ⟨d.V.toArray⟩) := (HBb.out.cell (p := ⟨g, _, none⟩) hgl).trans c5
      clear c0 c1 c2 c3 c4 c5 hgl
      by_cases n3 : d.kind = 3
      · have hkd0 := n3
        have p3 : (d.kind == 3) = true := by rw [hkd0]; rfl
        have p5 : (d.kind == 5) = false := by rw [hkd0]; rfl
        have p7 : (d.kind == 7) = false := by rw [hkd0]; rfl
        have p0 : (d.kind == 0) = false := by rw [hkd0]; rfl
        have HKD := hide hkd0
        clear hkd0 n3
        obtain ⟨W1, hW1⟩ : ∃ W1, w6.alloc (.cells #[.int .i64 d.on, .int .i64 d.kind, .int .i64 d.k.1, .int .i64 d.k.2, .int .i64 d.N, .string ⟨d.V.toArray⟩] 31) = W1 := ⟨_, rfl⟩
        have hb1 : Below w6.heap.size w6 W1 := by rw [← hW1]; exact (Below.refl _ _).alloc (Nat.le_refl _) _
        have hk1 : W1.heap[w6.heap.size]? = some (.cells (clc d) 31 (0, 0)) := by rw [← hW1]; exact alloc_newV w6 _
        obtain ⟨b0, b1, b2, b3, b4, b5⟩ := clc_cells hk1
        have HT1 := hide (HTb.out.later hb1)
        have HB1 := hide (HBb.out.trans (hb1.mono HBb.out.size))
        have HK1 := hide hk1
        have HCF : Hid (¬ F2 w6.heap.size) := hide (fun hf => by have := (HTb.out.x.fb _ hf).2; omega)
        have HCG : Hid (¬ G2 w6.heap.size) := hide (fun hf => by have := (HTb.out.y.fb _ hf).2; omega)
        clear hb1 hk1
        go_wp2_with fail
        go_roundw
        case rel => exact ⟨k + 1, own2, X2, Y2, F2, G2, (kx + 1), (ky + 1), by omega, by go_num, rfl, HB1, HT1, (hide HJb.out.skip)⟩
        case measure => simp [intOf]; omega
      by_cases n5 : d.kind = 5
      · have hkd0 := n5
        by_cases no : d.N = own2
        · have po : (d.N == own2) = true := by rw [no]; exact beq_self_eq_true _
          have p3 : (d.kind == 3) = false := by rw [hkd0]; rfl
          have p5 : (d.kind == 5) = true := by rw [hkd0]; rfl
          have p7 : (d.kind == 7) = false := by rw [hkd0]; rfl
          have p0 : (d.kind == 0) = false := by rw [hkd0]; rfl
          have HKD := hide hkd0
          clear hkd0 n5 no
          obtain ⟨W1, hW1⟩ : ∃ W1, w6.alloc (.cells #[.int .i64 d.on, .int .i64 d.kind, .int .i64 d.k.1, .int .i64 d.k.2, .int .i64 d.N, .string ⟨d.V.toArray⟩] 31) = W1 := ⟨_, rfl⟩
          have hb1 : Below w6.heap.size w6 W1 := by rw [← hW1]; exact (Below.refl _ _).alloc (Nat.le_refl _) _
          have hk1 : W1.heap[w6.heap.size]? = some (.cells (clc d) 31 (0, 0)) := by rw [← hW1]; exact alloc_newV w6 _
          obtain ⟨b0, b1, b2, b3, b4, b5⟩ := clc_cells hk1
          have HT1 := hide (HTb.out.later hb1)
          have HB1 := hide (HBb.out.trans (hb1.mono HBb.out.size))
          have HK1 := hide hk1
          have HCF : Hid (¬ F2 w6.heap.size) := hide (fun hf => by have := (HTb.out.x.fb _ hf).2; omega)
          have HCG : Hid (¬ G2 w6.heap.size) := hide (fun hf => by have := (HTb.out.y.fb _ hf).2; omega)
          clear hb1 hk1
          go_wp2_with fail
          go_roundw
          case rel => exact ⟨k + 1, own2, X2, Y2, F2, G2, (kx + 1), (ky + 1), by omega, by go_num, rfl, HB1, HT1, (hide HJb.out.skip)⟩
          case measure => simp [intOf]; omega
        have po : (d.N == own2) = false := by simpa using no
        have p3 : (d.kind == 3) = false := by rw [hkd0]; rfl
        have p5 : (d.kind == 5) = true := by rw [hkd0]; rfl
        have p7 : (d.kind == 7) = false := by rw [hkd0]; rfl
        have p0 : (d.kind == 0) = false := by rw [hkd0]; rfl
        have n7 : ¬ d.kind = 7 := by omega
        have n0 : ¬ d.kind = 0 := by omega
        have HKD := hide hkd0
        have H57 : Hid (¬ (d.kind = 5 ∧ d.N = own2)) := hide (by omega)
        have H7A : Hid (d.kind = 7 → k < k) := hide (by omega)
        clear hkd0 n5
        obtain ⟨W1, hW1⟩ : ∃ W1, w6.alloc (.cells #[.int .i64 d.on, .int .i64 d.kind, .int .i64 d.k.1, .int .i64 d.k.2, .int .i64 d.N, .string ⟨d.V.toArray⟩] 31) = W1 := ⟨_, rfl⟩
        have hb1 : Below w6.heap.size w6 W1 := by rw [← hW1]; exact (Below.refl _ _).alloc (Nat.le_refl _) _
        have hk1 : W1.heap[w6.heap.size]? = some (.cells (clc d) 31 (0, 0)) := by rw [← hW1]; exact alloc_newV w6 _
        obtain ⟨b0, b1, b2, b3, b4, b5⟩ := clc_cells hk1
        have HT1 := hide (HTb.out.later hb1)
        have HB1 := hide (HBb.out.trans (hb1.mono HBb.out.size))
        have HK1 := hide hk1
        have HCF : Hid (¬ F2 w6.heap.size) := hide (fun hf => by have := (HTb.out.x.fb _ hf).2; omega)
        have HCG : Hid (¬ G2 w6.heap.size) := hide (fun hf => by have := (HTb.out.y.fb _ hf).2; omega)
        clear hb1 hk1
        have HQ := hide (ask_any d w.heap.size sa 3 (kx + 1) X2 F2 W1 (hide (fun w' hb => HE.out.below (HB1.out.trans hb))) HT1.out.x hkd.1 hkd.2.1 hkd.2.2 (by have := HJb.out.few; omega))
        go_wp2_with fail
        obtain ⟨cb, hcb⟩ : ∃ cb, cb = w6.heap.size := ⟨_, rfl⟩
        rw [← hcb] at HCF HCG HK1 b0 b1 b2 b3 b4 b5 ⊢
        clear hcb hW1
        refine HQ.out.mono ?_
        rintro e w5 ⟨⟨s5, x5, t5, rfl, a5⟩, hS5, hF5⟩
        have HT5 := hide (HT1.out.onX hS5 hF5)
        have HB5 := hide (HB1.out.trans ((HT1.out.belowX hF5)))
        have HK5 := hide ((hF5.block cb (Array.getElem?_eq_some_iff.1 HK1.out).1 HCF.out).trans HK1.out)
        clear hS5 hF5 HQ b0 b1 b2 b3 b4 b5
        clear a5
        obtain ⟨W6, hW6⟩ : ∃ W6, w5.alloc (.cells #[.string s5, .int .i64 x5, .bool t5] 33) = W6 := ⟨_, rfl⟩
        have hb6 : Below w5.heap.size w5 W6 := by rw [← hW6]; exact (Below.refl _ _).alloc (Nat.le_refl _) _
        have hk6 : W6.heap[w5.heap.size]? = some (.cells #[.string s5, .int .i64 x5, .bool t5] 33 (0, 0)) := by rw [← hW6]; exact alloc_newV w5 _
        have HK6 := hide ((hb6.block cb (Array.getElem?_eq_some_iff.1 HK5.out).1).trans HK5.out)
        have HA6 := hide hk6
        have HT6 := hide (HT5.out.later hb6)
        have HB6 := hide (HB5.out.trans (hb6.mono HB5.out.size))
        have HAG : Hid (¬ G2 w5.heap.size) := hide (fun hf => by have := (HT5.out.y.fb _ hf).2; omega)
        clear hb6 hk6
        obtain ⟨b0, b1, b2, b3, b4, b5⟩ := clc_cells HK6.out
        clear HT5 HB5 HK5
        have HJ7 := hide (HJb.out.both (fun j => HT1.out.y.ris j) d H57.out H7A.out)
        have HQ := hide (ask_any d w.heap.size sc 3 (ky + 1) Y2 G2 W6 (hide (fun w' hb => HE.out.below (HB6.out.trans hb))) HT6.out.y hkd.1 hkd.2.1 hkd.2.2 (by have := HJb.out.few; omega))
        go_wp2_with fail
        obtain ⟨ab, hab⟩ : ∃ ab, ab = w5.heap.size := ⟨_, rfl⟩
        rw [← hab] at HA6 HAG ⊢
        clear hab hW6
        refine HQ.out.mono ?_
        rintro e w7 ⟨⟨s7, x7, t7, rfl, a7⟩, hS7, hF7⟩
        have HT7 := hide (HT6.out.onY hS7 hF7)
        have HB7 := hide (HB6.out.trans ((HT6.out.belowY hF7)))
        have HK7 := hide ((hF7.block cb (Array.getElem?_eq_some_iff.1 HK6.out).1 HCG.out).trans HK6.out)
        have HA7 := hide ((hF7.block ab (Array.getElem?_eq_some_iff.1 HA6.out).1 HAG.out).trans HA6.out)
        clear hS7 hF7 HQ b0 b1 b2 b3 b4 b5
        clear a7
        obtain ⟨W8, hW8⟩ : ∃ W8, w7.alloc (.cells #[.string s7, .int .i64 x7, .bool t7] 33) = W8 := ⟨_, rfl⟩
        have hb8 : Below w7.heap.size w7 W8 := by rw [← hW8]; exact (Below.refl _ _).alloc (Nat.le_refl _) _
        have hk8 : W8.heap[w7.heap.size]? = some (.cells #[.string s7, .int .i64 x7, .bool t7] 33 (0, 0)) := by rw [← hW8]; exact alloc_newV w7 _
        have HK8 := hide ((hb8.block cb (Array.getElem?_eq_some_iff.1 HK7.out).1).trans HK7.out)
        have ha8 := (hb8.block ab (Array.getElem?_eq_some_iff.1 HA7.out).1).trans HA7.out
        have HT8 := hide (HT7.out.later hb8)
        have HB8 := hide (HB7.out.trans (hb8.mono HB7.out.size))
        have b1 := (clc_cells HK8.out).2.1
        clear hb8 hk8 ha8
        have HSE := hide (sees_any _ ps q W8 w.heap.size sa sc 3 ((kx + 1) + 1) ((ky + 1) + 1) (X2.ask d) (Y2.ask d) _ _ (HRC.out.below HB8.out) HT8.out.x HT8.out.y (fun p hp => (HK.out p hp).1) (by omega) (by have := (HJ7.out.high (by omega)).2.1; omega) (by have := (HJ7.out.high (by omega)).2.2; omega) (HJ7.out.seen (fun j => HT8.out.y.ris j) (by omega)))
        go_wp2_with fail
        refine HSE.out.mono ?_
        rintro e w9 ⟨rfl, hb9⟩
        have HT9 := hide (HT8.out.later hb9)
        have HB9 := hide (HB8.out.trans (hb9.mono HB8.out.size))
        clear hb9 HSE
        go_wp2_with fail
        go_roundw
        case rel => exact ⟨k + 1, own2, (X2.ask d), (Y2.ask d), _, _, ((kx + 1) + 1), ((ky + 1) + 1), by omega, by go_num, rfl, HB9, HT9, HJ7⟩
        case measure => simp [intOf]; omega
      by_cases n7 : d.kind = 7
      · have hkd0 := n7
        have p3 : (d.kind == 3) = false := by rw [hkd0]; rfl
        have p5 : (d.kind == 5) = false := by rw [hkd0]; rfl
        have p7 : (d.kind == 7) = true := by rw [hkd0]; rfl
        have p0 : (d.kind == 0) = false := by rw [hkd0]; rfl
        have n5' : ¬ d.kind = 5 := n5
        have n0 : ¬ d.kind = 0 := by omega
        have z1 : (d.kind != 7) = false := by rw [hkd0]; rfl
        have z5 : decide (d.kind = 7) = true := decide_eq_true hkd0
        have z4 : decide (¬ d.kind = 7) = false := by rw [hkd0]; rfl
        have HKD := hide hkd0
        have H57 : Hid (¬ (d.kind = 5 ∧ d.N = own2)) := hide (by omega)
        clear hkd0 n7
        obtain ⟨W1, hW1⟩ : ∃ W1, w6.alloc (.cells #[.int .i64 d.on, .int .i64 d.kind, .int .i64 d.k.1, .int .i64 d.k.2, .int .i64 d.N, .string ⟨d.V.toArray⟩] 31) = W1 := ⟨_, rfl⟩
        have hb1 : Below w6.heap.size w6 W1 := by rw [← hW1]; exact (Below.refl _ _).alloc (Nat.le_refl _) _
        have hk1 : W1.heap[w6.heap.size]? = some (.cells (clc d) 31 (0, 0)) := by rw [← hW1]; exact alloc_newV w6 _
        obtain ⟨b0, b1, b2, b3, b4, b5⟩ := clc_cells hk1
        have HT1 := hide (HTb.out.later hb1)
        have HB1 := hide (HBb.out.trans (hb1.mono HBb.out.size))
        have HK1 := hide hk1
        have HCF : Hid (¬ F2 w6.heap.size) := hide (fun hf => by have := (HTb.out.x.fb _ hf).2; omega)
        have HCG : Hid (¬ G2 w6.heap.size) := hide (fun hf => by have := (HTb.out.y.fb _ hf).2; omega)
        clear hb1 hk1
        have HQ := hide (ask_any d w.heap.size sa 3 (kx + 1) X2 F2 W1 (hide (fun w' hb => HE.out.below (HB1.out.trans hb))) HT1.out.x hkd.1 hkd.2.1 hkd.2.2 (by have := HJb.out.few; omega))
        go_wp2_with fail
        obtain ⟨cb, hcb⟩ : ∃ cb, cb = w6.heap.size := ⟨_, rfl⟩
        rw [← hcb] at HCF HCG HK1 b0 b1 b2 b3 b4 b5 ⊢
        clear hcb hW1
        refine HQ.out.mono ?_
        rintro e w5 ⟨⟨s5, x5, t5, rfl, a5⟩, hS5, hF5⟩
        have HT5 := hide (HT1.out.onX hS5 hF5)
        have HB5 := hide (HB1.out.trans ((HT1.out.belowX hF5)))
        have HK5 := hide ((hF5.block cb (Array.getElem?_eq_some_iff.1 HK1.out).1 HCF.out).trans HK1.out)
        clear hS5 hF5 HQ b0 b1 b2 b3 b4 b5
        clear a5
        obtain ⟨W6, hW6⟩ : ∃ W6, w5.alloc (.cells #[.string s5, .int .i64 x5, .bool t5] 33) = W6 := ⟨_, rfl⟩
        have hb6 : Below w5.heap.size w5 W6 := by rw [← hW6]; exact (Below.refl _ _).alloc (Nat.le_refl _) _
        have hk6 : W6.heap[w5.heap.size]? = some (.cells #[.string s5, .int .i64 x5, .bool t5] 33 (0, 0)) := by rw [← hW6]; exact alloc_newV w5 _
        have HK6 := hide ((hb6.block cb (Array.getElem?_eq_some_iff.1 HK5.out).1).trans HK5.out)
        have HA6 := hide hk6
        have HT6 := hide (HT5.out.later hb6)
        have HB6 := hide (HB5.out.trans (hb6.mono HB5.out.size))
        have HAG : Hid (¬ G2 w5.heap.size) := hide (fun hf => by have := (HT5.out.y.fb _ hf).2; omega)
        clear hb6 hk6
        obtain ⟨b0, b1, b2, b3, b4, b5⟩ := clc_cells HK6.out
        clear HT5 HB5 HK5
        have HJ7 := hide (HJb.out.one HT1.out.x.rs (fun j => HT1.out.y.ris j) d HKD.out (by omega))
        have HSE := hide (sees_any _ ps q W6 w.heap.size sa sc 3 ((kx + 1) + 1) (ky + 1) (X2.ask d) Y2 _ G2 (HRC.out.below HB6.out) HT6.out.x HT6.out.y (fun p hp => (HK.out p hp).1) (by omega) (by have := (HJ7.out.high (by omega)).2.1; omega) (by have := (HJ7.out.high (by omega)).2.2; omega) (HJ7.out.seen (fun j => HT6.out.y.ris j) (by omega)))
        go_wp2_with fail
        refine HSE.out.mono ?_
        rintro e w9 ⟨rfl, hb9⟩
        have HT9 := hide (HT6.out.later hb9)
        have HB9 := hide (HB6.out.trans (hb9.mono HB6.out.size))
        clear hb9 HSE
        go_wp2_with fail
        go_roundw
        case rel => exact ⟨k + 1, own2, (X2.ask d), Y2, _, G2, ((kx + 1) + 1), (ky + 1), by omega, by go_num, rfl, HB9, HT9, HJ7⟩
        case measure => simp [intOf]; omega
      by_cases n0 : d.kind = 0
      · have hkd0 := n0
        have p3 : (d.kind == 3) = false := by rw [hkd0]; rfl
        have p5 : (d.kind == 5) = false := by rw [hkd0]; rfl
        have p7 : (d.kind == 7) = false := by rw [hkd0]; rfl
        have p0 : (d.kind == 0) = true := by rw [hkd0]; rfl
        have HKD := hide hkd0
        have H57 : Hid (¬ (d.kind = 5 ∧ d.N = own2)) := hide (by omega)
        have H7A : Hid (d.kind = 7 → k < k) := hide (by omega)
        clear hkd0 n0
        obtain ⟨W1, hW1⟩ : ∃ W1, w6.alloc (.cells #[.int .i64 d.on, .int .i64 d.kind, .int .i64 d.k.1, .int .i64 d.k.2, .int .i64 d.N, .string ⟨d.V.toArray⟩] 31) = W1 := ⟨_, rfl⟩
        have hb1 : Below w6.heap.size w6 W1 := by rw [← hW1]; exact (Below.refl _ _).alloc (Nat.le_refl _) _
        have hk1 : W1.heap[w6.heap.size]? = some (.cells (clc d) 31 (0, 0)) := by rw [← hW1]; exact alloc_newV w6 _
        obtain ⟨b0, b1, b2, b3, b4, b5⟩ := clc_cells hk1
        have HT1 := hide (HTb.out.later hb1)
        have HB1 := hide (HBb.out.trans (hb1.mono HBb.out.size))
        have HK1 := hide hk1
        have HCF : Hid (¬ F2 w6.heap.size) := hide (fun hf => by have := (HTb.out.x.fb _ hf).2; omega)
        have HCG : Hid (¬ G2 w6.heap.size) := hide (fun hf => by have := (HTb.out.y.fb _ hf).2; omega)
        clear hb1 hk1
        have HQ := hide (ask_any d w.heap.size sa 3 (kx + 1) X2 F2 W1 (hide (fun w' hb => HE.out.below (HB1.out.trans hb))) HT1.out.x hkd.1 hkd.2.1 hkd.2.2 (by have := HJb.out.few; omega))
        go_wp2_with fail
        obtain ⟨cb, hcb⟩ : ∃ cb, cb = w6.heap.size := ⟨_, rfl⟩
        rw [← hcb] at HCF HCG HK1 b0 b1 b2 b3 b4 b5 ⊢
        clear hcb hW1
        refine HQ.out.mono ?_
        rintro e w5 ⟨⟨s5, x5, t5, rfl, a5⟩, hS5, hF5⟩
        have HT5 := hide (HT1.out.onX hS5 hF5)
        have HB5 := hide (HB1.out.trans ((HT1.out.belowX hF5)))
        have HK5 := hide ((hF5.block cb (Array.getElem?_eq_some_iff.1 HK1.out).1 HCF.out).trans HK1.out)
        clear hS5 hF5 HQ b0 b1 b2 b3 b4 b5
        obtain ⟨rfl, rfl, rfl⟩ := a5 HKD.out
        have HPE := hide (HJb.out.same d.N d.k)
        obtain ⟨W6, hW6⟩ : ∃ W6, w5.alloc (.cells #[.string ⟨#[]⟩, .int .i64 (peR d.N (X2.K d.k)), .bool true] 33) = W6 := ⟨_, rfl⟩
        have hb6 : Below w5.heap.size w5 W6 := by rw [← hW6]; exact (Below.refl _ _).alloc (Nat.le_refl _) _
        have hk6 : W6.heap[w5.heap.size]? = some (.cells #[.string ⟨#[]⟩, .int .i64 (peR d.N (X2.K d.k)), .bool true] 33 (0, 0)) := by rw [← hW6]; exact alloc_newV w5 _
        have HK6 := hide ((hb6.block cb (Array.getElem?_eq_some_iff.1 HK5.out).1).trans HK5.out)
        have HA6 := hide hk6
        have HT6 := hide (HT5.out.later hb6)
        have HB6 := hide (HB5.out.trans (hb6.mono HB5.out.size))
        have HAG : Hid (¬ G2 w5.heap.size) := hide (fun hf => by have := (HT5.out.y.fb _ hf).2; omega)
        clear hb6 hk6
        obtain ⟨b0, b1, b2, b3, b4, b5⟩ := clc_cells HK6.out
        clear HT5 HB5 HK5
        have HJ7 := hide (HJb.out.both (fun j => HT1.out.y.ris j) d H57.out H7A.out)
        have HQ := hide (ask_any d w.heap.size sc 3 (ky + 1) Y2 G2 W6 (hide (fun w' hb => HE.out.below (HB6.out.trans hb))) HT6.out.y hkd.1 hkd.2.1 hkd.2.2 (by have := HJb.out.few; omega))
        go_wp2_with fail
        obtain ⟨ab, hab⟩ : ∃ ab, ab = w5.heap.size := ⟨_, rfl⟩
        rw [← hab] at HA6 HAG ⊢
        clear hab hW6
        refine HQ.out.mono ?_
        rintro e w7 ⟨⟨s7, x7, t7, rfl, a7⟩, hS7, hF7⟩
        have HT7 := hide (HT6.out.onY hS7 hF7)
        have HB7 := hide (HB6.out.trans ((HT6.out.belowY hF7)))
        have HK7 := hide ((hF7.block cb (Array.getElem?_eq_some_iff.1 HK6.out).1 HCG.out).trans HK6.out)
        have HA7 := hide ((hF7.block ab (Array.getElem?_eq_some_iff.1 HA6.out).1 HAG.out).trans HA6.out)
        clear hS7 hF7 HQ b0 b1 b2 b3 b4 b5
        obtain ⟨rfl, rfl, rfl⟩ := a7 HKD.out
        rw [← HPE.out]
        generalize peR d.N (X2.K d.k) = pn at *
        obtain ⟨W8, hW8⟩ : ∃ W8, w7.alloc (.cells #[.string ⟨#[]⟩, .int .i64 pn, .bool true] 33) = W8 := ⟨_, rfl⟩
        have hb8 : Below w7.heap.size w7 W8 := by rw [← hW8]; exact (Below.refl _ _).alloc (Nat.le_refl _) _
        have hk8 : W8.heap[w7.heap.size]? = some (.cells #[.string ⟨#[]⟩, .int .i64 pn, .bool true] 33 (0, 0)) := by rw [← hW8]; exact alloc_newV w7 _
        have HK8 := hide ((hb8.block cb (Array.getElem?_eq_some_iff.1 HK7.out).1).trans HK7.out)
        have ha8 := (hb8.block ab (Array.getElem?_eq_some_iff.1 HA7.out).1).trans HA7.out
        have HT8 := hide (HT7.out.later hb8)
        have HB8 := hide (HB7.out.trans (hb8.mono HB7.out.size))
        have b1 := (clc_cells HK8.out).2.1
        have r0 : W8.cell? ⟨ab, 0, none⟩ = some (.string ⟨#[]⟩) := by rw [cell_of_row _ _ 0 _ _ _ ha8]; rfl
        have r1 : W8.cell? ⟨ab, 1, none⟩ = some (.int .i64 pn) := by rw [cell_of_row _ _ 1 _ _ _ ha8]; rfl
        have r2 : W8.cell? ⟨ab, 2, none⟩ = some (.bool true) := by rw [cell_of_row _ _ 2 _ _ _ ha8]; rfl
        have r3 : W8.cell? ⟨w7.heap.size, 0, none⟩ = some (.string ⟨#[]⟩) := by rw [cell_of_row _ _ 0 _ _ _ hk8]; rfl
        have r4 : W8.cell? ⟨w7.heap.size, 1, none⟩ = some (.int .i64 pn) := by rw [cell_of_row _ _ 1 _ _ _ hk8]; rfl
        have r5 : W8.cell? ⟨w7.heap.size, 2, none⟩ = some (.bool true) := by rw [cell_of_row _ _ 2 _ _ _ hk8]; rfl
        have rq := Tryd.neqS pn W8
        clear hb8 hk8 ha8
        have HSE := hide (sees_any _ ps q W8 w.heap.size sa sc 3 ((kx + 1) + 1) ((ky + 1) + 1) (X2.ask d) (Y2.ask d) _ _ (HRC.out.below HB8.out) HT8.out.x HT8.out.y (fun p hp => (HK.out p hp).1) (by omega) (by have := (HJ7.out.high (by omega)).2.1; omega) (by have := (HJ7.out.high (by omega)).2.2; omega) (HJ7.out.seen (fun j => HT8.out.y.ris j) (by omega)))
        go_wp2_with fail
        refine HSE.out.mono ?_
        rintro e w9 ⟨rfl, hb9⟩
        have HT9 := hide (HT8.out.later hb9)
        have HB9 := hide (HB8.out.trans (hb9.mono HB8.out.size))
        clear hb9 HSE
        go_wp2_with fail
        go_roundw
        case rel => exact ⟨k + 1, own2, (X2.ask d), (Y2.ask d), _, _, ((kx + 1) + 1), ((ky + 1) + 1), by omega, by go_num, rfl, HB9, HT9, HJ7⟩
        case measure => simp [intOf]; omega
      have p3 : (d.kind == 3) = false := by simpa using n3
      have p5 : (d.kind == 5) = false := by simpa using n5
      have p7 : (d.kind == 7) = false := by simpa using n7
      have p0 : (d.kind == 0) = false := by simpa using n0
      have H57 : Hid (¬ (d.kind = 5 ∧ d.N = own2)) := hide (by omega)
      have H7A : Hid (d.kind = 7 → k < k) := hide (by omega)
      skip
      obtain ⟨W1, hW1⟩ : ∃ W1, w6.alloc (.cells #[.int .i64 d.on, .int .i64 d.kind, .int .i64 d.k.1, .int .i64 d.k.2, .int .i64 d.N, .string ⟨d.V.toArray⟩] 31) = W1 := ⟨_, rfl⟩
      have hb1 : Below w6.heap.size w6 W1 := by rw [← hW1]; exact (Below.refl _ _).alloc (Nat.le_refl _) _
      have hk1 : W1.heap[w6.heap.size]? = some (.cells (clc d) 31 (0, 0)) := by rw [← hW1]; exact alloc_newV w6 _
      obtain ⟨b0, b1, b2, b3, b4, b5⟩ := clc_cells hk1
      have HT1 := hide (HTb.out.later hb1)
      have HB1 := hide (HBb.out.trans (hb1.mono HBb.out.size))
      have HK1 := hide hk1
      have HCF : Hid (¬ F2 w6.heap.size) := hide (fun hf => by have := (HTb.out.x.fb _ hf).2; omega)
      have HCG : Hid (¬ G2 w6.heap.size) := hide (fun hf => by have := (HTb.out.y.fb _ hf).2; omega)
      clear hb1 hk1
      have HQ := hide (ask_any d w.heap.size sa 3 (kx + 1) X2 F2 W1 (hide (fun w' hb => HE.out.below (HB1.out.trans hb))) HT1.out.x hkd.1 hkd.2.1 hkd.2.2 (by have := HJb.out.few; omega))
      go_wp2_with fail
      obtain ⟨cb, hcb⟩ : ∃ cb, cb = w6.heap.size := ⟨_, rfl⟩
      rw [← hcb] at HCF HCG HK1 b0 b1 b2 b3 b4 b5 ⊢
      clear hcb hW1
      refine HQ.out.mono ?_
      rintro e w5 ⟨⟨s5, x5, t5, rfl, a5⟩, hS5, hF5⟩
      have HT5 := hide (HT1.out.onX hS5 hF5)
      have HB5 := hide (HB1.out.trans ((HT1.out.belowX hF5)))
      have HK5 := hide ((hF5.block cb (Array.getElem?_eq_some_iff.1 HK1.out).1 HCF.out).trans HK1.out)
      clear hS5 hF5 HQ b0 b1 b2 b3 b4 b5
      clear a5
      obtain ⟨W6, hW6⟩ : ∃ W6, w5.alloc (.cells #[.string s5, .int .i64 x5, .bool t5] 33) = W6 := ⟨_, rfl⟩
      have hb6 : Below w5.heap.size w5 W6 := by rw [← hW6]; exact (Below.refl _ _).alloc (Nat.le_refl _) _
      have hk6 : W6.heap[w5.heap.size]? = some (.cells #[.string s5, .int .i64 x5, .bool t5] 33 (0, 0)) := by rw [← hW6]; exact alloc_newV w5 _
      have HK6 := hide ((hb6.block cb (Array.getElem?_eq_some_iff.1 HK5.out).1).trans HK5.out)
      have HA6 := hide hk6
      have HT6 := hide (HT5.out.later hb6)
      have HB6 := hide (HB5.out.trans (hb6.mono HB5.out.size))
      have HAG : Hid (¬ G2 w5.heap.size) := hide (fun hf => by have := (HT5.out.y.fb _ hf).2; omega)
      clear hb6 hk6
      obtain ⟨b0, b1, b2, b3, b4, b5⟩ := clc_cells HK6.out
      clear HT5 HB5 HK5
      have HJ7 := hide (HJb.out.both (fun j => HT1.out.y.ris j) d H57.out H7A.out)
      have HQ := hide (ask_any d w.heap.size sc 3 (ky + 1) Y2 G2 W6 (hide (fun w' hb => HE.out.below (HB6.out.trans hb))) HT6.out.y hkd.1 hkd.2.1 hkd.2.2 (by have := HJb.out.few; omega))
      go_wp2_with fail
      obtain ⟨ab, hab⟩ : ∃ ab, ab = w5.heap.size := ⟨_, rfl⟩
      rw [← hab] at HA6 HAG ⊢
      clear hab hW6
      refine HQ.out.mono ?_
      rintro e w7 ⟨⟨s7, x7, t7, rfl, a7⟩, hS7, hF7⟩
      have HT7 := hide (HT6.out.onY hS7 hF7)
      have HB7 := hide (HB6.out.trans ((HT6.out.belowY hF7)))
      have HK7 := hide ((hF7.block cb (Array.getElem?_eq_some_iff.1 HK6.out).1 HCG.out).trans HK6.out)
      have HA7 := hide ((hF7.block ab (Array.getElem?_eq_some_iff.1 HA6.out).1 HAG.out).trans HA6.out)
      clear hS7 hF7 HQ b0 b1 b2 b3 b4 b5
      clear a7
      obtain ⟨W8, hW8⟩ : ∃ W8, w7.alloc (.cells #[.string s7, .int .i64 x7, .bool t7] 33) = W8 := ⟨_, rfl⟩
      have hb8 : Below w7.heap.size w7 W8 := by rw [← hW8]; exact (Below.refl _ _).alloc (Nat.le_refl _) _
      have hk8 : W8.heap[w7.heap.size]? = some (.cells #[.string s7, .int .i64 x7, .bool t7] 33 (0, 0)) := by rw [← hW8]; exact alloc_newV w7 _
      have HK8 := hide ((hb8.block cb (Array.getElem?_eq_some_iff.1 HK7.out).1).trans HK7.out)
      have ha8 := (hb8.block ab (Array.getElem?_eq_some_iff.1 HA7.out).1).trans HA7.out
      have HT8 := hide (HT7.out.later hb8)
      have HB8 := hide (HB7.out.trans (hb8.mono HB7.out.size))
      have b1 := (clc_cells HK8.out).2.1
      clear hb8 hk8 ha8
      have HSE := hide (sees_any _ ps q W8 w.heap.size sa sc 3 ((kx + 1) + 1) ((ky + 1) + 1) (X2.ask d) (Y2.ask d) _ _ (HRC.out.below HB8.out) HT8.out.x HT8.out.y (fun p hp => (HK.out p hp).1) (by omega) (by have := (HJ7.out.high (by omega)).2.1; omega) (by have := (HJ7.out.high (by omega)).2.2; omega) (HJ7.out.seen (fun j => HT8.out.y.ris j) (by omega)))
      go_wp2_with fail
      refine HSE.out.mono ?_
      rintro e w9 ⟨rfl, hb9⟩
      have HT9 := hide (HT8.out.later hb9)
      have HB9 := hide (HB8.out.trans (hb9.mono HB8.out.size))
      clear hb9 HSE
      go_wp2_with fail
      go_roundw
      case rel => exact ⟨k + 1, own2, (X2.ask d), (Y2.ask d), _, _, ((kx + 1) + 1), ((ky + 1) + 1), by omega, by go_num, rfl, HB9, HT9, HJ7⟩
      case measure => simp [intOf]; omega
    have HJb := hide (HJ.out.mid hkA)
    have hbk : ((k : Int) == (A : Int)) = false := by simp; omega
    have hbn : ¬ ((k : Int) = (A : Int)) := by omega
    by_cases hkl : k < A
    · have hlk : decide ((k : Int) < (A : Int)) = true := by rw [decide_eq_true_eq]; omega
      have hge : decide ((A : Int) ≤ (k : Int)) = false := by rw [decide_eq_false_iff_not]; omega
      by_cases hlt : k < ps.length
      rotate_left
      · exact absurd hlt (by omega)
      have hd2 : decide ((k : Int) < (ps.length : Int)) = true := by rw [decide_eq_true_eq]; omega
      have k1 : (k : Int) < (ps.length : Int) := by omega
      obtain ⟨d, hd⟩ : ∃ d, ps[k]? = some d := ⟨_, List.getElem?_eq_getElem hlt⟩
      have hkd := HK.out d (List.mem_of_getElem? hd)
      obtain ⟨g, off, rfl, c0, c1, c2, c3, c4, c5⟩ := HC.out k d hd
      have hgl : g < w.heap.size := World.block_lt_of_cell? _ _ c0
      have e0 : wr.cell? ⟨g, off + k * 6, none⟩ = some (.int .i64 d.on) := (HB.out.cell (p := ⟨g, _, none⟩) hgl).trans c0
      have e1 : wr.cell? ⟨g, off + k * 6 + 1, none⟩ = some (.int .i64 d.kind) := (HB.out.cell (p := ⟨g, _, none⟩) hgl).trans c1
      have e2 : wr.cell? ⟨g, off + k * 6 + 2, none⟩ = some (.int .i64 d.k.1) := (HB.out.cell (p := ⟨g, _, none⟩) hgl).trans c2
      have e3 : wr.cell? ⟨g, off + k * 6 + 3, none⟩ = some (.int .i64 d.k.2) := (HB.out.cell (p := ⟨g, _, none⟩) hgl).trans c3
      have e4 : wr.cell? ⟨g, off + k * 6 + 4, none⟩ = some (.int .i64 d.N) := (HB.out.cell (p := ⟨g, _, none⟩) hgl).trans c4
      have e5 : wr.cell? ⟨g, off + k * 6 + 5, none⟩ = some (.string ⟨d.V.toArray⟩) := (HB.out.cell (p := ⟨g, _, none⟩) hgl).trans c5
      clear c0 c1 c2 c3 c4 c5 hgl
      by_cases n3 : d.kind = 3
      · have hkd0 := n3
        have p3 : (d.kind == 3) = true := by rw [hkd0]; rfl
        have p5 : (d.kind == 5) = false := by rw [hkd0]; rfl
        have p7 : (d.kind == 7) = false := by rw [hkd0]; rfl
        have p0 : (d.kind == 0) = false := by rw [hkd0]; rfl
        have HKD := hide hkd0
        clear hkd0 n3
        obtain ⟨W1, hW1⟩ : ∃ W1, wr.alloc (.cells #[.int .i64 d.on, .int .i64 d.kind, .int .i64 d.k.1, .int .i64 d.k.2, .int .i64 d.N, .string ⟨d.V.toArray⟩] 31) = W1 := ⟨_, rfl⟩
        have hb1 : Below wr.heap.size wr W1 := by rw [← hW1]; exact (Below.refl _ _).alloc (Nat.le_refl _) _
        have hk1 : W1.heap[wr.heap.size]? = some (.cells (clc d) 31 (0, 0)) := by rw [← hW1]; exact alloc_newV wr _
        obtain ⟨b0, b1, b2, b3, b4, b5⟩ := clc_cells hk1
        have HT1 := hide (HT.out.later hb1)
        have HB1 := hide (HB.out.trans (hb1.mono HB.out.size))
        have HK1 := hide hk1
        have HCF : Hid (¬ F wr.heap.size) := hide (fun hf => by have := (HT.out.x.fb _ hf).2; omega)
        have HCG : Hid (¬ G wr.heap.size) := hide (fun hf => by have := (HT.out.y.fb _ hf).2; omega)
        clear hb1 hk1
        go_wp2_with fail
        go_roundw
        case rel => exact ⟨k + 1, own, X, Y, F, G, kx, ky, by omega, by go_num, rfl, HB1, HT1, (hide HJb.out.skip)⟩
        case measure => simp [intOf]; omega
      by_cases n5 : d.kind = 5
      · have hkd0 := n5
        by_cases no : d.N = own
        · have po : (d.N == own) = true := by rw [no]; exact beq_self_eq_true _
          have p3 : (d.kind == 3) = false := by rw [hkd0]; rfl
          have p5 : (d.kind == 5) = true := by rw [hkd0]; rfl
          have p7 : (d.kind == 7) = false := by rw [hkd0]; rfl
          have p0 : (d.kind == 0) = false := by rw [hkd0]; rfl
          have HKD := hide hkd0
          clear hkd0 n5 no
          obtain ⟨W1, hW1⟩ : ∃ W1, wr.alloc (.cells #[.int .i64 d.on, .int .i64 d.kind, .int .i64 d.k.1, .int .i64 d.k.2, .int .i64 d.N, .string ⟨d.V.toArray⟩] 31) = W1 := ⟨_, rfl⟩
          have hb1 : Below wr.heap.size wr W1 := by rw [← hW1]; exact (Below.refl _ _).alloc (Nat.le_refl _) _
          have hk1 : W1.heap[wr.heap.size]? = some (.cells (clc d) 31 (0, 0)) := by rw [← hW1]; exact alloc_newV wr _
          obtain ⟨b0, b1, b2, b3, b4, b5⟩ := clc_cells hk1
          have HT1 := hide (HT.out.later hb1)
          have HB1 := hide (HB.out.trans (hb1.mono HB.out.size))
          have HK1 := hide hk1
          have HCF : Hid (¬ F wr.heap.size) := hide (fun hf => by have := (HT.out.x.fb _ hf).2; omega)
          have HCG : Hid (¬ G wr.heap.size) := hide (fun hf => by have := (HT.out.y.fb _ hf).2; omega)
          clear hb1 hk1
          go_wp2_with fail
          go_roundw
          case rel => exact ⟨k + 1, own, X, Y, F, G, kx, ky, by omega, by go_num, rfl, HB1, HT1, (hide HJb.out.skip)⟩
          case measure => simp [intOf]; omega
        have po : (d.N == own) = false := by simpa using no
        have p3 : (d.kind == 3) = false := by rw [hkd0]; rfl
        have p5 : (d.kind == 5) = true := by rw [hkd0]; rfl
        have p7 : (d.kind == 7) = false := by rw [hkd0]; rfl
        have p0 : (d.kind == 0) = false := by rw [hkd0]; rfl
        have n7 : ¬ d.kind = 7 := by omega
        have n0 : ¬ d.kind = 0 := by omega
        have HKD := hide hkd0
        have H57 : Hid (¬ (d.kind = 5 ∧ d.N = own)) := hide (by omega)
        have H7A : Hid (d.kind = 7 → k < A) := hide (by omega)
        clear hkd0 n5
        obtain ⟨W1, hW1⟩ : ∃ W1, wr.alloc (.cells #[.int .i64 d.on, .int .i64 d.kind, .int .i64 d.k.1, .int .i64 d.k.2, .int .i64 d.N, .string ⟨d.V.toArray⟩] 31) = W1 := ⟨_, rfl⟩
        have hb1 : Below wr.heap.size wr W1 := by rw [← hW1]; exact (Below.refl _ _).alloc (Nat.le_refl _) _
        have hk1 : W1.heap[wr.heap.size]? = some (.cells (clc d) 31 (0, 0)) := by rw [← hW1]; exact alloc_newV wr _
        obtain ⟨b0, b1, b2, b3, b4, b5⟩ := clc_cells hk1
        have HT1 := hide (HT.out.later hb1)
        have HB1 := hide (HB.out.trans (hb1.mono HB.out.size))
        have HK1 := hide hk1
        have HCF : Hid (¬ F wr.heap.size) := hide (fun hf => by have := (HT.out.x.fb _ hf).2; omega)
        have HCG : Hid (¬ G wr.heap.size) := hide (fun hf => by have := (HT.out.y.fb _ hf).2; omega)
        clear hb1 hk1
        have HQ := hide (ask_any d w.heap.size sa 3 kx X F W1 (hide (fun w' hb => HE.out.below (HB1.out.trans hb))) HT1.out.x hkd.1 hkd.2.1 hkd.2.2 (by have := HJb.out.few; omega))
        go_wp2_with fail
        obtain ⟨cb, hcb⟩ : ∃ cb, cb = wr.heap.size := ⟨_, rfl⟩
        rw [← hcb] at HCF HCG HK1 b0 b1 b2 b3 b4 b5 ⊢
        clear hcb hW1
        refine HQ.out.mono ?_
        rintro e w5 ⟨⟨s5, x5, t5, rfl, a5⟩, hS5, hF5⟩
        have HT5 := hide (HT1.out.onX hS5 hF5)
        have HB5 := hide (HB1.out.trans ((HT1.out.belowX hF5)))
        have HK5 := hide ((hF5.block cb (Array.getElem?_eq_some_iff.1 HK1.out).1 HCF.out).trans HK1.out)
        clear hS5 hF5 HQ b0 b1 b2 b3 b4 b5
        clear a5
        obtain ⟨W6, hW6⟩ : ∃ W6, w5.alloc (.cells #[.string s5, .int .i64 x5, .bool t5] 33) = W6 := ⟨_, rfl⟩
        have hb6 : Below w5.heap.size w5 W6 := by rw [← hW6]; exact (Below.refl _ _).alloc (Nat.le_refl _) _
        have hk6 : W6.heap[w5.heap.size]? = some (.cells #[.string s5, .int .i64 x5, .bool t5] 33 (0, 0)) := by rw [← hW6]; exact alloc_newV w5 _
        have HK6 := hide ((hb6.block cb (Array.getElem?_eq_some_iff.1 HK5.out).1).trans HK5.out)
        have HA6 := hide hk6
        have HT6 := hide (HT5.out.later hb6)
        have HB6 := hide (HB5.out.trans (hb6.mono HB5.out.size))
        have HAG : Hid (¬ G w5.heap.size) := hide (fun hf => by have := (HT5.out.y.fb _ hf).2; omega)
        clear hb6 hk6
        obtain ⟨b0, b1, b2, b3, b4, b5⟩ := clc_cells HK6.out
        clear HT5 HB5 HK5
        have HJ7 := hide (HJb.out.both (fun j => HT1.out.y.ris j) d H57.out H7A.out)
        have HQ := hide (ask_any d w.heap.size sc 3 ky Y G W6 (hide (fun w' hb => HE.out.below (HB6.out.trans hb))) HT6.out.y hkd.1 hkd.2.1 hkd.2.2 (by have := HJb.out.few; omega))
        go_wp2_with fail
        obtain ⟨ab, hab⟩ : ∃ ab, ab = w5.heap.size := ⟨_, rfl⟩
        rw [← hab] at HA6 HAG ⊢
        clear hab hW6
        refine HQ.out.mono ?_
        rintro e w7 ⟨⟨s7, x7, t7, rfl, a7⟩, hS7, hF7⟩
        have HT7 := hide (HT6.out.onY hS7 hF7)
        have HB7 := hide (HB6.out.trans ((HT6.out.belowY hF7)))
        have HK7 := hide ((hF7.block cb (Array.getElem?_eq_some_iff.1 HK6.out).1 HCG.out).trans HK6.out)
        have HA7 := hide ((hF7.block ab (Array.getElem?_eq_some_iff.1 HA6.out).1 HAG.out).trans HA6.out)
        clear hS7 hF7 HQ b0 b1 b2 b3 b4 b5
        clear a7
        obtain ⟨W8, hW8⟩ : ∃ W8, w7.alloc (.cells #[.string s7, .int .i64 x7, .bool t7] 33) = W8 := ⟨_, rfl⟩
        have hb8 : Below w7.heap.size w7 W8 := by rw [← hW8]; exact (Below.refl _ _).alloc (Nat.le_refl _) _
        have hk8 : W8.heap[w7.heap.size]? = some (.cells #[.string s7, .int .i64 x7, .bool t7] 33 (0, 0)) := by rw [← hW8]; exact alloc_newV w7 _
        have HK8 := hide ((hb8.block cb (Array.getElem?_eq_some_iff.1 HK7.out).1).trans HK7.out)
        have ha8 := (hb8.block ab (Array.getElem?_eq_some_iff.1 HA7.out).1).trans HA7.out
        have HT8 := hide (HT7.out.later hb8)
        have HB8 := hide (HB7.out.trans (hb8.mono HB7.out.size))
        have b1 := (clc_cells HK8.out).2.1
        clear hb8 hk8 ha8
        go_wp2_with fail
        go_roundw
        case rel => exact ⟨k + 1, own, (X.ask d), (Y.ask d), _, _, (kx + 1), (ky + 1), by omega, by go_num, rfl, HB8, HT8, HJ7⟩
        case measure => simp [intOf]; omega
      by_cases n7 : d.kind = 7
      · have hkd0 := n7
        have p3 : (d.kind == 3) = false := by rw [hkd0]; rfl
        have p5 : (d.kind == 5) = false := by rw [hkd0]; rfl
        have p7 : (d.kind == 7) = true := by rw [hkd0]; rfl
        have p0 : (d.kind == 0) = false := by rw [hkd0]; rfl
        have n5' : ¬ d.kind = 5 := n5
        have n0 : ¬ d.kind = 0 := by omega
        have z1 : (d.kind != 7) = false := by rw [hkd0]; rfl
        have z5 : decide (d.kind = 7) = true := decide_eq_true hkd0
        have z4 : decide (¬ d.kind = 7) = false := by rw [hkd0]; rfl
        have HKD := hide hkd0
        have H57 : Hid (¬ (d.kind = 5 ∧ d.N = own)) := hide (by omega)
        have H7A : Hid (d.kind = 7 → k < A) := hide (by omega)
        clear hkd0 n7
        obtain ⟨W1, hW1⟩ : ∃ W1, wr.alloc (.cells #[.int .i64 d.on, .int .i64 d.kind, .int .i64 d.k.1, .int .i64 d.k.2, .int .i64 d.N, .string ⟨d.V.toArray⟩] 31) = W1 := ⟨_, rfl⟩
        have hb1 : Below wr.heap.size wr W1 := by rw [← hW1]; exact (Below.refl _ _).alloc (Nat.le_refl _) _
        have hk1 : W1.heap[wr.heap.size]? = some (.cells (clc d) 31 (0, 0)) := by rw [← hW1]; exact alloc_newV wr _
        obtain ⟨b0, b1, b2, b3, b4, b5⟩ := clc_cells hk1
        have HT1 := hide (HT.out.later hb1)
        have HB1 := hide (HB.out.trans (hb1.mono HB.out.size))
        have HK1 := hide hk1
        have HCF : Hid (¬ F wr.heap.size) := hide (fun hf => by have := (HT.out.x.fb _ hf).2; omega)
        have HCG : Hid (¬ G wr.heap.size) := hide (fun hf => by have := (HT.out.y.fb _ hf).2; omega)
        clear hb1 hk1
        have HQ := hide (ask_any d w.heap.size sa 3 kx X F W1 (hide (fun w' hb => HE.out.below (HB1.out.trans hb))) HT1.out.x hkd.1 hkd.2.1 hkd.2.2 (by have := HJb.out.few; omega))
        go_wp2_with fail
        obtain ⟨cb, hcb⟩ : ∃ cb, cb = wr.heap.size := ⟨_, rfl⟩
        rw [← hcb] at HCF HCG HK1 b0 b1 b2 b3 b4 b5 ⊢
        clear hcb hW1
        refine HQ.out.mono ?_
        rintro e w5 ⟨⟨s5, x5, t5, rfl, a5⟩, hS5, hF5⟩
        have HT5 := hide (HT1.out.onX hS5 hF5)
        have HB5 := hide (HB1.out.trans ((HT1.out.belowX hF5)))
        have HK5 := hide ((hF5.block cb (Array.getElem?_eq_some_iff.1 HK1.out).1 HCF.out).trans HK1.out)
        clear hS5 hF5 HQ b0 b1 b2 b3 b4 b5
        clear a5
        obtain ⟨W6, hW6⟩ : ∃ W6, w5.alloc (.cells #[.string s5, .int .i64 x5, .bool t5] 33) = W6 := ⟨_, rfl⟩
        have hb6 : Below w5.heap.size w5 W6 := by rw [← hW6]; exact (Below.refl _ _).alloc (Nat.le_refl _) _
        have hk6 : W6.heap[w5.heap.size]? = some (.cells #[.string s5, .int .i64 x5, .bool t5] 33 (0, 0)) := by rw [← hW6]; exact alloc_newV w5 _
        have HK6 := hide ((hb6.block cb (Array.getElem?_eq_some_iff.1 HK5.out).1).trans HK5.out)
        have HA6 := hide hk6
        have HT6 := hide (HT5.out.later hb6)
        have HB6 := hide (HB5.out.trans (hb6.mono HB5.out.size))
        have HAG : Hid (¬ G w5.heap.size) := hide (fun hf => by have := (HT5.out.y.fb _ hf).2; omega)
        clear hb6 hk6
        obtain ⟨b0, b1, b2, b3, b4, b5⟩ := clc_cells HK6.out
        clear HT5 HB5 HK5
        have HJ7 := hide (HJb.out.both (fun j => HT1.out.y.ris j) d H57.out H7A.out)
        have HQ := hide (ask_any d w.heap.size sc 3 ky Y G W6 (hide (fun w' hb => HE.out.below (HB6.out.trans hb))) HT6.out.y hkd.1 hkd.2.1 hkd.2.2 (by have := HJb.out.few; omega))
        go_wp2_with fail
        obtain ⟨ab, hab⟩ : ∃ ab, ab = w5.heap.size := ⟨_, rfl⟩
        rw [← hab] at HA6 HAG ⊢
        clear hab hW6
        refine HQ.out.mono ?_
        rintro e w7 ⟨⟨s7, x7, t7, rfl, a7⟩, hS7, hF7⟩
        have HT7 := hide (HT6.out.onY hS7 hF7)
        have HB7 := hide (HB6.out.trans ((HT6.out.belowY hF7)))
        have HK7 := hide ((hF7.block cb (Array.getElem?_eq_some_iff.1 HK6.out).1 HCG.out).trans HK6.out)
        have HA7 := hide ((hF7.block ab (Array.getElem?_eq_some_iff.1 HA6.out).1 HAG.out).trans HA6.out)
        clear hS7 hF7 HQ b0 b1 b2 b3 b4 b5
        clear a7
        obtain ⟨W8, hW8⟩ : ∃ W8, w7.alloc (.cells #[.string s7, .int .i64 x7, .bool t7] 33) = W8 := ⟨_, rfl⟩
        have hb8 : Below w7.heap.size w7 W8 := by rw [← hW8]; exact (Below.refl _ _).alloc (Nat.le_refl _) _
        have hk8 : W8.heap[w7.heap.size]? = some (.cells #[.string s7, .int .i64 x7, .bool t7] 33 (0, 0)) := by rw [← hW8]; exact alloc_newV w7 _
        have HK8 := hide ((hb8.block cb (Array.getElem?_eq_some_iff.1 HK7.out).1).trans HK7.out)
        have ha8 := (hb8.block ab (Array.getElem?_eq_some_iff.1 HA7.out).1).trans HA7.out
        have HT8 := hide (HT7.out.later hb8)
        have HB8 := hide (HB7.out.trans (hb8.mono HB7.out.size))
        have b1 := (clc_cells HK8.out).2.1
        clear hb8 hk8 ha8
        go_wp2_with fail
        go_roundw
        case rel => exact ⟨k + 1, own, (X.ask d), (Y.ask d), _, _, (kx + 1), (ky + 1), by omega, by go_num, rfl, HB8, HT8, HJ7⟩
        case measure => simp [intOf]; omega
      by_cases n0 : d.kind = 0
      · have hkd0 := n0
        have p3 : (d.kind == 3) = false := by rw [hkd0]; rfl
        have p5 : (d.kind == 5) = false := by rw [hkd0]; rfl
        have p7 : (d.kind == 7) = false := by rw [hkd0]; rfl
        have p0 : (d.kind == 0) = true := by rw [hkd0]; rfl
        have HKD := hide hkd0
        have H57 : Hid (¬ (d.kind = 5 ∧ d.N = own)) := hide (by omega)
        have H7A : Hid (d.kind = 7 → k < A) := hide (by omega)
        clear hkd0 n0
        obtain ⟨W1, hW1⟩ : ∃ W1, wr.alloc (.cells #[.int .i64 d.on, .int .i64 d.kind, .int .i64 d.k.1, .int .i64 d.k.2, .int .i64 d.N, .string ⟨d.V.toArray⟩] 31) = W1 := ⟨_, rfl⟩
        have hb1 : Below wr.heap.size wr W1 := by rw [← hW1]; exact (Below.refl _ _).alloc (Nat.le_refl _) _
        have hk1 : W1.heap[wr.heap.size]? = some (.cells (clc d) 31 (0, 0)) := by rw [← hW1]; exact alloc_newV wr _
        obtain ⟨b0, b1, b2, b3, b4, b5⟩ := clc_cells hk1
        have HT1 := hide (HT.out.later hb1)
        have HB1 := hide (HB.out.trans (hb1.mono HB.out.size))
        have HK1 := hide hk1
        have HCF : Hid (¬ F wr.heap.size) := hide (fun hf => by have := (HT.out.x.fb _ hf).2; omega)
        have HCG : Hid (¬ G wr.heap.size) := hide (fun hf => by have := (HT.out.y.fb _ hf).2; omega)
        clear hb1 hk1
        have HQ := hide (ask_any d w.heap.size sa 3 kx X F W1 (hide (fun w' hb => HE.out.below (HB1.out.trans hb))) HT1.out.x hkd.1 hkd.2.1 hkd.2.2 (by have := HJb.out.few; omega))
        go_wp2_with fail
        obtain ⟨cb, hcb⟩ : ∃ cb, cb = wr.heap.size := ⟨_, rfl⟩
        rw [← hcb] at HCF HCG HK1 b0 b1 b2 b3 b4 b5 ⊢
        clear hcb hW1
        refine HQ.out.mono ?_
        rintro e w5 ⟨⟨s5, x5, t5, rfl, a5⟩, hS5, hF5⟩
        have HT5 := hide (HT1.out.onX hS5 hF5)
        have HB5 := hide (HB1.out.trans ((HT1.out.belowX hF5)))
        have HK5 := hide ((hF5.block cb (Array.getElem?_eq_some_iff.1 HK1.out).1 HCF.out).trans HK1.out)
        clear hS5 hF5 HQ b0 b1 b2 b3 b4 b5
        obtain ⟨rfl, rfl, rfl⟩ := a5 HKD.out
        have HPE := hide (HJb.out.same d.N d.k)
        obtain ⟨W6, hW6⟩ : ∃ W6, w5.alloc (.cells #[.string ⟨#[]⟩, .int .i64 (peR d.N (X.K d.k)), .bool true] 33) = W6 := ⟨_, rfl⟩
        have hb6 : Below w5.heap.size w5 W6 := by rw [← hW6]; exact (Below.refl _ _).alloc (Nat.le_refl _) _
        have hk6 : W6.heap[w5.heap.size]? = some (.cells #[.string ⟨#[]⟩, .int .i64 (peR d.N (X.K d.k)), .bool true] 33 (0, 0)) := by rw [← hW6]; exact alloc_newV w5 _
        have HK6 := hide ((hb6.block cb (Array.getElem?_eq_some_iff.1 HK5.out).1).trans HK5.out)
        have HA6 := hide hk6
        have HT6 := hide (HT5.out.later hb6)
        have HB6 := hide (HB5.out.trans (hb6.mono HB5.out.size))
        have HAG : Hid (¬ G w5.heap.size) := hide (fun hf => by have := (HT5.out.y.fb _ hf).2; omega)
        clear hb6 hk6
        obtain ⟨b0, b1, b2, b3, b4, b5⟩ := clc_cells HK6.out
        clear HT5 HB5 HK5
        have HJ7 := hide (HJb.out.both (fun j => HT1.out.y.ris j) d H57.out H7A.out)
        have HQ := hide (ask_any d w.heap.size sc 3 ky Y G W6 (hide (fun w' hb => HE.out.below (HB6.out.trans hb))) HT6.out.y hkd.1 hkd.2.1 hkd.2.2 (by have := HJb.out.few; omega))
        go_wp2_with fail
        obtain ⟨ab, hab⟩ : ∃ ab, ab = w5.heap.size := ⟨_, rfl⟩
        rw [← hab] at HA6 HAG ⊢
        clear hab hW6
        refine HQ.out.mono ?_
        rintro e w7 ⟨⟨s7, x7, t7, rfl, a7⟩, hS7, hF7⟩
        have HT7 := hide (HT6.out.onY hS7 hF7)
        have HB7 := hide (HB6.out.trans ((HT6.out.belowY hF7)))
        have HK7 := hide ((hF7.block cb (Array.getElem?_eq_some_iff.1 HK6.out).1 HCG.out).trans HK6.out)
        have HA7 := hide ((hF7.block ab (Array.getElem?_eq_some_iff.1 HA6.out).1 HAG.out).trans HA6.out)
        clear hS7 hF7 HQ b0 b1 b2 b3 b4 b5
        obtain ⟨rfl, rfl, rfl⟩ := a7 HKD.out
        rw [← HPE.out]
        generalize peR d.N (X.K d.k) = pn at *
        obtain ⟨W8, hW8⟩ : ∃ W8, w7.alloc (.cells #[.string ⟨#[]⟩, .int .i64 pn, .bool true] 33) = W8 := ⟨_, rfl⟩
        have hb8 : Below w7.heap.size w7 W8 := by rw [← hW8]; exact (Below.refl _ _).alloc (Nat.le_refl _) _
        have hk8 : W8.heap[w7.heap.size]? = some (.cells #[.string ⟨#[]⟩, .int .i64 pn, .bool true] 33 (0, 0)) := by rw [← hW8]; exact alloc_newV w7 _
        have HK8 := hide ((hb8.block cb (Array.getElem?_eq_some_iff.1 HK7.out).1).trans HK7.out)
        have ha8 := (hb8.block ab (Array.getElem?_eq_some_iff.1 HA7.out).1).trans HA7.out
        have HT8 := hide (HT7.out.later hb8)
        have HB8 := hide (HB7.out.trans (hb8.mono HB7.out.size))
        have b1 := (clc_cells HK8.out).2.1
        have r0 : W8.cell? ⟨ab, 0, none⟩ = some (.string ⟨#[]⟩) := by rw [cell_of_row _ _ 0 _ _ _ ha8]; rfl
        have r1 : W8.cell? ⟨ab, 1, none⟩ = some (.int .i64 pn) := by rw [cell_of_row _ _ 1 _ _ _ ha8]; rfl
        have r2 : W8.cell? ⟨ab, 2, none⟩ = some (.bool true) := by rw [cell_of_row _ _ 2 _ _ _ ha8]; rfl
        have r3 : W8.cell? ⟨w7.heap.size, 0, none⟩ = some (.string ⟨#[]⟩) := by rw [cell_of_row _ _ 0 _ _ _ hk8]; rfl
        have r4 : W8.cell? ⟨w7.heap.size, 1, none⟩ = some (.int .i64 pn) := by rw [cell_of_row _ _ 1 _ _ _ hk8]; rfl
        have r5 : W8.cell? ⟨w7.heap.size, 2, none⟩ = some (.bool true) := by rw [cell_of_row _ _ 2 _ _ _ hk8]; rfl
        have rq := Tryd.neqS pn W8
        clear hb8 hk8 ha8
        go_wp2_with fail
        go_roundw
        case rel => exact ⟨k + 1, own, (X.ask d), (Y.ask d), _, _, (kx + 1), (ky + 1), by omega, by go_num, rfl, HB8, HT8, HJ7⟩
        case measure => simp [intOf]; omega
      have p3 : (d.kind == 3) = false := by simpa using n3
      have p5 : (d.kind == 5) = false := by simpa using n5
      have p7 : (d.kind == 7) = false := by simpa using n7
      have p0 : (d.kind == 0) = false := by simpa using n0
      have H57 : Hid (¬ (d.kind = 5 ∧ d.N = own)) := hide (by omega)
      have H7A : Hid (d.kind = 7 → k < A) := hide (by omega)
      skip
      obtain ⟨W1, hW1⟩ : ∃ W1, wr.alloc (.cells #[.int .i64 d.on, .int .i64 d.kind, .int .i64 d.k.1, .int .i64 d.k.2, .int .i64 d.N, .string ⟨d.V.toArray⟩] 31) = W1 := ⟨_, rfl⟩
      have hb1 : Below wr.heap.size wr W1 := by rw [← hW1]; exact (Below.refl _ _).alloc (Nat.le_refl _) _
      have hk1 : W1.heap[wr.heap.size]? = some (.cells (clc d) 31 (0, 0)) := by rw [← hW1]; exact alloc_newV wr _
      obtain ⟨b0, b1, b2, b3, b4, b5⟩ := clc_cells hk1
      have HT1 := hide (HT.out.later hb1)
      have HB1 := hide (HB.out.trans (hb1.mono HB.out.size))
      have HK1 := hide hk1
      have HCF : Hid (¬ F wr.heap.size) := hide (fun hf => by have := (HT.out.x.fb _ hf).2; omega)
      have HCG : Hid (¬ G wr.heap.size) := hide (fun hf => by have := (HT.out.y.fb _ hf).2; omega)
      clear hb1 hk1
      have HQ := hide (ask_any d w.heap.size sa 3 kx X F W1 (hide (fun w' hb => HE.out.below (HB1.out.trans hb))) HT1.out.x hkd.1 hkd.2.1 hkd.2.2 (by have := HJb.out.few; omega))
      go_wp2_with fail
      obtain ⟨cb, hcb⟩ : ∃ cb, cb = wr.heap.size := ⟨_, rfl⟩
      rw [← hcb] at HCF HCG HK1 b0 b1 b2 b3 b4 b5 ⊢
      clear hcb hW1
      refine HQ.out.mono ?_
      rintro e w5 ⟨⟨s5, x5, t5, rfl, a5⟩, hS5, hF5⟩
      have HT5 := hide (HT1.out.onX hS5 hF5)
      have HB5 := hide (HB1.out.trans ((HT1.out.belowX hF5)))
      have HK5 := hide ((hF5.block cb (Array.getElem?_eq_some_iff.1 HK1.out).1 HCF.out).trans HK1.out)
      clear hS5 hF5 HQ b0 b1 b2 b3 b4 b5
      clear a5
      obtain ⟨W6, hW6⟩ : ∃ W6, w5.alloc (.cells #[.string s5, .int .i64 x5, .bool t5] 33) = W6 := ⟨_, rfl⟩
      have hb6 : Below w5.heap.size w5 W6 := by rw [← hW6]; exact (Below.refl _ _).alloc (Nat.le_refl _) _
      have hk6 : W6.heap[w5.heap.size]? = some (.cells #[.string s5, .int .i64 x5, .bool t5] 33 (0, 0)) := by rw [← hW6]; exact alloc_newV w5 _
      have HK6 := hide ((hb6.block cb (Array.getElem?_eq_some_iff.1 HK5.out).1).trans HK5.out)
      have HA6 := hide hk6
      have HT6 := hide (HT5.out.later hb6)
      have HB6 := hide (HB5.out.trans (hb6.mono HB5.out.size))
      have HAG : Hid (¬ G w5.heap.size) := hide (fun hf => by have := (HT5.out.y.fb _ hf).2; omega)
      clear hb6 hk6
      obtain ⟨b0, b1, b2, b3, b4, b5⟩ := clc_cells HK6.out
      clear HT5 HB5 HK5
      have HJ7 := hide (HJb.out.both (fun j => HT1.out.y.ris j) d H57.out H7A.out)
      have HQ := hide (ask_any d w.heap.size sc 3 ky Y G W6 (hide (fun w' hb => HE.out.below (HB6.out.trans hb))) HT6.out.y hkd.1 hkd.2.1 hkd.2.2 (by have := HJb.out.few; omega))
      go_wp2_with fail
      obtain ⟨ab, hab⟩ : ∃ ab, ab = w5.heap.size := ⟨_, rfl⟩
      rw [← hab] at HA6 HAG ⊢
      clear hab hW6
      refine HQ.out.mono ?_
      rintro e w7 ⟨⟨s7, x7, t7, rfl, a7⟩, hS7, hF7⟩
      have HT7 := hide (HT6.out.onY hS7 hF7)
      have HB7 := hide (HB6.out.trans ((HT6.out.belowY hF7)))
      have HK7 := hide ((hF7.block cb (Array.getElem?_eq_some_iff.1 HK6.out).1 HCG.out).trans HK6.out)
      have HA7 := hide ((hF7.block ab (Array.getElem?_eq_some_iff.1 HA6.out).1 HAG.out).trans HA6.out)
      clear hS7 hF7 HQ b0 b1 b2 b3 b4 b5
      clear a7
      obtain ⟨W8, hW8⟩ : ∃ W8, w7.alloc (.cells #[.string s7, .int .i64 x7, .bool t7] 33) = W8 := ⟨_, rfl⟩
      have hb8 : Below w7.heap.size w7 W8 := by rw [← hW8]; exact (Below.refl _ _).alloc (Nat.le_refl _) _
      have hk8 : W8.heap[w7.heap.size]? = some (.cells #[.string s7, .int .i64 x7, .bool t7] 33 (0, 0)) := by rw [← hW8]; exact alloc_newV w7 _
      have HK8 := hide ((hb8.block cb (Array.getElem?_eq_some_iff.1 HK7.out).1).trans HK7.out)
      have ha8 := (hb8.block ab (Array.getElem?_eq_some_iff.1 HA7.out).1).trans HA7.out
      have HT8 := hide (HT7.out.later hb8)
      have HB8 := hide (HB7.out.trans (hb8.mono HB7.out.size))
      have b1 := (clc_cells HK8.out).2.1
      clear hb8 hk8 ha8
      go_wp2_with fail
      go_roundw
      case rel => exact ⟨k + 1, own, (X.ask d), (Y.ask d), _, _, (kx + 1), (ky + 1), by omega, by go_num, rfl, HB8, HT8, HJ7⟩
      case measure => simp [intOf]; omega
    have hlk : decide ((k : Int) < (A : Int)) = false := by rw [decide_eq_false_iff_not]; omega
    have hge : decide ((A : Int) ≤ (k : Int)) = true := by rw [decide_eq_true_eq]; omega
    by_cases hlt : k < ps.length
    rotate_left
    · have hd2 : decide ((k : Int) < (ps.length : Int)) = false := by rw [decide_eq_false_iff_not]; omega
      have HJ9 := hide HJb.out.skip
      have HSE := hide (sees_any _ ps q wr w.heap.size sa sc 3 kx ky X Y F G (HRC.out.below HB.out) HT.out.x HT.out.y (fun p hp => (HK.out p hp).1) (by omega) (by have := (HJ9.out.high (by omega)).2.1; omega) (by have := (HJ9.out.high (by omega)).2.2; omega) (HJ9.out.seen (fun j => HT.out.y.ris j) (by omega)))
      go_wp2_with fail
      refine HSE.out.mono ?_
      rintro e w9 ⟨rfl, hb9⟩
      have HT9 := hide (HT.out.later hb9)
      have HB9 := hide (HB.out.trans (hb9.mono HB.out.size))
      clear hb9 HSE
      go_wp2_with fail
      go_roundw
      case rel => exact ⟨k + 1, own, X, Y, F, G, kx, ky, by omega, by go_num, rfl, HB9, HT9, HJ9⟩
      case measure => simp [intOf]; omega
    have hd2 : decide ((k : Int) < (ps.length : Int)) = true := by rw [decide_eq_true_eq]; omega
    have k1 : (k : Int) < (ps.length : Int) := by omega
    obtain ⟨d, hd⟩ : ∃ d, ps[k]? = some d := ⟨_, List.getElem?_eq_getElem hlt⟩
    have hkd := HK.out d (List.mem_of_getElem? hd)
    obtain ⟨g, off, rfl, c0, c1, c2, c3, c4, c5⟩ := HC.out k d hd
    have hgl : g < w.heap.size := World.block_lt_of_cell? _ _ c0
    have e0 : wr.cell? ⟨g, off + k * 6, none⟩ = some (.int .i64 d.on) := (HB.out.cell (p := ⟨g, _, none⟩) hgl).trans c0
    have e1 : wr.cell? ⟨g, off + k * 6 + 1, none⟩ = some (.int .i64 d.kind) := (HB.out.cell (p := ⟨g, _, none⟩) hgl).trans c1
    have e2 : wr.cell? ⟨g, off + k * 6 + 2, none⟩ = some (.int .i64 d.k.1) := (HB.out.cell (p := ⟨g, _, none⟩) hgl).trans c2
    have e3 : wr.cell? ⟨g, off + k * 6 + 3, none⟩ = some (.int .i64 d.k.2) := (HB.out.cell (p := ⟨g, _, none⟩) hgl).trans c3
    have e4 : wr.cell? ⟨g, off + k * 6 + 4, none⟩ = some (.int .i64 d.N) := (HB.out.cell (p := ⟨g, _, none⟩) hgl).trans c4
    have e5 : wr.cell? ⟨g, off + k * 6 + 5, none⟩ = some (.string ⟨d.V.toArray⟩) := (HB.out.cell (p := ⟨g, _, none⟩) hgl).trans c5
    clear c0 c1 c2 c3 c4 c5 hgl
    by_cases n3 : d.kind = 3
    · have hkd0 := n3
      have p3 : (d.kind == 3) = true := by rw [hkd0]; rfl
      have p5 : (d.kind == 5) = false := by rw [hkd0]; rfl
      have p7 : (d.kind == 7) = false := by rw [hkd0]; rfl
      have p0 : (d.kind == 0) = false := by rw [hkd0]; rfl
      have HKD := hide hkd0
      clear hkd0 n3
      obtain ⟨W1, hW1⟩ : ∃ W1, wr.alloc (.cells #[.int .i64 d.on, .int .i64 d.kind, .int .i64 d.k.1, .int .i64 d.k.2, .int .i64 d.N, .string ⟨d.V.toArray⟩] 31) = W1 := ⟨_, rfl⟩
      have hb1 : Below wr.heap.size wr W1 := by rw [← hW1]; exact (Below.refl _ _).alloc (Nat.le_refl _) _
      have hk1 : W1.heap[wr.heap.size]? = some (.cells (clc d) 31 (0, 0)) := by rw [← hW1]; exact alloc_newV wr _
      obtain ⟨b0, b1, b2, b3, b4, b5⟩ := clc_cells hk1
      have HT1 := hide (HT.out.later hb1)
      have HB1 := hide (HB.out.trans (hb1.mono HB.out.size))
      have HK1 := hide hk1
      have HCF : Hid (¬ F wr.heap.size) := hide (fun hf => by have := (HT.out.x.fb _ hf).2; omega)
      have HCG : Hid (¬ G wr.heap.size) := hide (fun hf => by have := (HT.out.y.fb _ hf).2; omega)
      clear hb1 hk1
      go_wp2_with fail
      go_roundw
      case rel => exact ⟨k + 1, own, X, Y, F, G, kx, ky, by omega, by go_num, rfl, HB1, HT1, (hide HJb.out.skip)⟩
      case measure => simp [intOf]; omega
    by_cases n5 : d.kind = 5
    · have hkd0 := n5
      by_cases no : d.N = own
      · have po : (d.N == own) = true := by rw [no]; exact beq_self_eq_true _
        have p3 : (d.kind == 3) = false := by rw [hkd0]; rfl
        have p5 : (d.kind == 5) = true := by rw [hkd0]; rfl
        have p7 : (d.kind == 7) = false := by rw [hkd0]; rfl
        have p0 : (d.kind == 0) = false := by rw [hkd0]; rfl
        have HKD := hide hkd0
        clear hkd0 n5 no
        obtain ⟨W1, hW1⟩ : ∃ W1, wr.alloc (.cells #[.int .i64 d.on, .int .i64 d.kind, .int .i64 d.k.1, .int .i64 d.k.2, .int .i64 d.N, .string ⟨d.V.toArray⟩] 31) = W1 := ⟨_, rfl⟩
        have hb1 : Below wr.heap.size wr W1 := by rw [← hW1]; exact (Below.refl _ _).alloc (Nat.le_refl _) _
        have hk1 : W1.heap[wr.heap.size]? = some (.cells (clc d) 31 (0, 0)) := by rw [← hW1]; exact alloc_newV wr _
        obtain ⟨b0, b1, b2, b3, b4, b5⟩ := clc_cells hk1
        have HT1 := hide (HT.out.later hb1)
        have HB1 := hide (HB.out.trans (hb1.mono HB.out.size))
        have HK1 := hide hk1
        have HCF : Hid (¬ F wr.heap.size) := hide (fun hf => by have := (HT.out.x.fb _ hf).2; omega)
        have HCG : Hid (¬ G wr.heap.size) := hide (fun hf => by have := (HT.out.y.fb _ hf).2; omega)
        clear hb1 hk1
        go_wp2_with fail
        go_roundw
        case rel => exact ⟨k + 1, own, X, Y, F, G, kx, ky, by omega, by go_num, rfl, HB1, HT1, (hide HJb.out.skip)⟩
        case measure => simp [intOf]; omega
      have po : (d.N == own) = false := by simpa using no
      have p3 : (d.kind == 3) = false := by rw [hkd0]; rfl
      have p5 : (d.kind == 5) = true := by rw [hkd0]; rfl
      have p7 : (d.kind == 7) = false := by rw [hkd0]; rfl
      have p0 : (d.kind == 0) = false := by rw [hkd0]; rfl
      have n7 : ¬ d.kind = 7 := by omega
      have n0 : ¬ d.kind = 0 := by omega
      have HKD := hide hkd0
      have H57 : Hid (¬ (d.kind = 5 ∧ d.N = own)) := hide (by omega)
      have H7A : Hid (d.kind = 7 → k < A) := hide (by omega)
      clear hkd0 n5
      obtain ⟨W1, hW1⟩ : ∃ W1, wr.alloc (.cells #[.int .i64 d.on, .int .i64 d.kind, .int .i64 d.k.1, .int .i64 d.k.2, .int .i64 d.N, .string ⟨d.V.toArray⟩] 31) = W1 := ⟨_, rfl⟩
      have hb1 : Below wr.heap.size wr W1 := by rw [← hW1]; exact (Below.refl _ _).alloc (Nat.le_refl _) _
      have hk1 : W1.heap[wr.heap.size]? = some (.cells (clc d) 31 (0, 0)) := by rw [← hW1]; exact alloc_newV wr _
      obtain ⟨b0, b1, b2, b3, b4, b5⟩ := clc_cells hk1
      have HT1 := hide (HT.out.later hb1)
      have HB1 := hide (HB.out.trans (hb1.mono HB.out.size))
      have HK1 := hide hk1
      have HCF : Hid (¬ F wr.heap.size) := hide (fun hf => by have := (HT.out.x.fb _ hf).2; omega)
      have HCG : Hid (¬ G wr.heap.size) := hide (fun hf => by have := (HT.out.y.fb _ hf).2; omega)
      clear hb1 hk1
      have HQ := hide (ask_any d w.heap.size sa 3 kx X F W1 (hide (fun w' hb => HE.out.below (HB1.out.trans hb))) HT1.out.x hkd.1 hkd.2.1 hkd.2.2 (by have := HJb.out.few; omega))
      go_wp2_with fail
      obtain ⟨cb, hcb⟩ : ∃ cb, cb = wr.heap.size := ⟨_, rfl⟩
      rw [← hcb] at HCF HCG HK1 b0 b1 b2 b3 b4 b5 ⊢
      clear hcb hW1
      refine HQ.out.mono ?_
      rintro e w5 ⟨⟨s5, x5, t5, rfl, a5⟩, hS5, hF5⟩
      have HT5 := hide (HT1.out.onX hS5 hF5)
      have HB5 := hide (HB1.out.trans ((HT1.out.belowX hF5)))
      have HK5 := hide ((hF5.block cb (Array.getElem?_eq_some_iff.1 HK1.out).1 HCF.out).trans HK1.out)
      clear hS5 hF5 HQ b0 b1 b2 b3 b4 b5
      clear a5
      obtain ⟨W6, hW6⟩ : ∃ W6, w5.alloc (.cells #[.string s5, .int .i64 x5, .bool t5] 33) = W6 := ⟨_, rfl⟩
      have hb6 : Below w5.heap.size w5 W6 := by rw [← hW6]; exact (Below.refl _ _).alloc (Nat.le_refl _) _
      have hk6 : W6.heap[w5.heap.size]? = some (.cells #[.string s5, .int .i64 x5, .bool t5] 33 (0, 0)) := by rw [← hW6]; exact alloc_newV w5 _
      have HK6 := hide ((hb6.block cb (Array.getElem?_eq_some_iff.1 HK5.out).1).trans HK5.out)
      have HA6 := hide hk6
      have HT6 := hide (HT5.out.later hb6)
      have HB6 := hide (HB5.out.trans (hb6.mono HB5.out.size))
      have HAG : Hid (¬ G w5.heap.size) := hide (fun hf => by have := (HT5.out.y.fb _ hf).2; omega)
      clear hb6 hk6
      obtain ⟨b0, b1, b2, b3, b4, b5⟩ := clc_cells HK6.out
      clear HT5 HB5 HK5
      have HJ7 := hide (HJb.out.both (fun j => HT1.out.y.ris j) d H57.out H7A.out)
      have HQ := hide (ask_any d w.heap.size sc 3 ky Y G W6 (hide (fun w' hb => HE.out.below (HB6.out.trans hb))) HT6.out.y hkd.1 hkd.2.1 hkd.2.2 (by have := HJb.out.few; omega))
      go_wp2_with fail
      obtain ⟨ab, hab⟩ : ∃ ab, ab = w5.heap.size := ⟨_, rfl⟩
      rw [← hab] at HA6 HAG ⊢
      clear hab hW6
      refine HQ.out.mono ?_
      rintro e w7 ⟨⟨s7, x7, t7, rfl, a7⟩, hS7, hF7⟩
      have HT7 := hide (HT6.out.onY hS7 hF7)
      have HB7 := hide (HB6.out.trans ((HT6.out.belowY hF7)))
      have HK7 := hide ((hF7.block cb (Array.getElem?_eq_some_iff.1 HK6.out).1 HCG.out).trans HK6.out)
      have HA7 := hide ((hF7.block ab (Array.getElem?_eq_some_iff.1 HA6.out).1 HAG.out).trans HA6.out)
      clear hS7 hF7 HQ b0 b1 b2 b3 b4 b5
      clear a7
      obtain ⟨W8, hW8⟩ : ∃ W8, w7.alloc (.cells #[.string s7, .int .i64 x7, .bool t7] 33) = W8 := ⟨_, rfl⟩
      have hb8 : Below w7.heap.size w7 W8 := by rw [← hW8]; exact (Below.refl _ _).alloc (Nat.le_refl _) _
      have hk8 : W8.heap[w7.heap.size]? = some (.cells #[.string s7, .int .i64 x7, .bool t7] 33 (0, 0)) := by rw [← hW8]; exact alloc_newV w7 _
      have HK8 := hide ((hb8.block cb (Array.getElem?_eq_some_iff.1 HK7.out).1).trans HK7.out)
      have ha8 := (hb8.block ab (Array.getElem?_eq_some_iff.1 HA7.out).1).trans HA7.out
      have HT8 := hide (HT7.out.later hb8)
      have HB8 := hide (HB7.out.trans (hb8.mono HB7.out.size))
      have b1 := (clc_cells HK8.out).2.1
      clear hb8 hk8 ha8
      have HSE := hide (sees_any _ ps q W8 w.heap.size sa sc 3 (kx + 1) (ky + 1) (X.ask d) (Y.ask d) _ _ (HRC.out.below HB8.out) HT8.out.x HT8.out.y (fun p hp => (HK.out p hp).1) (by omega) (by have := (HJ7.out.high (by omega)).2.1; omega) (by have := (HJ7.out.high (by omega)).2.2; omega) (HJ7.out.seen (fun j => HT8.out.y.ris j) (by omega)))
      go_wp2_with fail
      refine HSE.out.mono ?_
      rintro e w9 ⟨rfl, hb9⟩
      have HT9 := hide (HT8.out.later hb9)
      have HB9 := hide (HB8.out.trans (hb9.mono HB8.out.size))
      clear hb9 HSE
      go_wp2_with fail
      go_roundw
      case rel => exact ⟨k + 1, own, (X.ask d), (Y.ask d), _, _, (kx + 1), (ky + 1), by omega, by go_num, rfl, HB9, HT9, HJ7⟩
      case measure => simp [intOf]; omega
    by_cases n7 : d.kind = 7
    · have hkd0 := n7
      have p3 : (d.kind == 3) = false := by rw [hkd0]; rfl
      have p5 : (d.kind == 5) = false := by rw [hkd0]; rfl
      have p7 : (d.kind == 7) = true := by rw [hkd0]; rfl
      have p0 : (d.kind == 0) = false := by rw [hkd0]; rfl
      have n5' : ¬ d.kind = 5 := n5
      have n0 : ¬ d.kind = 0 := by omega
      have z1 : (d.kind != 7) = false := by rw [hkd0]; rfl
      have z5 : decide (d.kind = 7) = true := decide_eq_true hkd0
      have z4 : decide (¬ d.kind = 7) = false := by rw [hkd0]; rfl
      have HKD := hide hkd0
      have H57 : Hid (¬ (d.kind = 5 ∧ d.N = own)) := hide (by omega)
      clear hkd0 n7
      obtain ⟨W1, hW1⟩ : ∃ W1, wr.alloc (.cells #[.int .i64 d.on, .int .i64 d.kind, .int .i64 d.k.1, .int .i64 d.k.2, .int .i64 d.N, .string ⟨d.V.toArray⟩] 31) = W1 := ⟨_, rfl⟩
      have hb1 : Below wr.heap.size wr W1 := by rw [← hW1]; exact (Below.refl _ _).alloc (Nat.le_refl _) _
      have hk1 : W1.heap[wr.heap.size]? = some (.cells (clc d) 31 (0, 0)) := by rw [← hW1]; exact alloc_newV wr _
      obtain ⟨b0, b1, b2, b3, b4, b5⟩ := clc_cells hk1
      have HT1 := hide (HT.out.later hb1)
      have HB1 := hide (HB.out.trans (hb1.mono HB.out.size))
      have HK1 := hide hk1
      have HCF : Hid (¬ F wr.heap.size) := hide (fun hf => by have := (HT.out.x.fb _ hf).2; omega)
      have HCG : Hid (¬ G wr.heap.size) := hide (fun hf => by have := (HT.out.y.fb _ hf).2; omega)
      clear hb1 hk1
      have HQ := hide (ask_any d w.heap.size sa 3 kx X F W1 (hide (fun w' hb => HE.out.below (HB1.out.trans hb))) HT1.out.x hkd.1 hkd.2.1 hkd.2.2 (by have := HJb.out.few; omega))
      go_wp2_with fail
      obtain ⟨cb, hcb⟩ : ∃ cb, cb = wr.heap.size := ⟨_, rfl⟩
      rw [← hcb] at HCF HCG HK1 b0 b1 b2 b3 b4 b5 ⊢
      clear hcb hW1
      refine HQ.out.mono ?_
      rintro e w5 ⟨⟨s5, x5, t5, rfl, a5⟩, hS5, hF5⟩
      have HT5 := hide (HT1.out.onX hS5 hF5)
      have HB5 := hide (HB1.out.trans ((HT1.out.belowX hF5)))
      have HK5 := hide ((hF5.block cb (Array.getElem?_eq_some_iff.1 HK1.out).1 HCF.out).trans HK1.out)
      clear hS5 hF5 HQ b0 b1 b2 b3 b4 b5
      clear a5
      obtain ⟨W6, hW6⟩ : ∃ W6, w5.alloc (.cells #[.string s5, .int .i64 x5, .bool t5] 33) = W6 := ⟨_, rfl⟩
      have hb6 : Below w5.heap.size w5 W6 := by rw [← hW6]; exact (Below.refl _ _).alloc (Nat.le_refl _) _
      have hk6 : W6.heap[w5.heap.size]? = some (.cells #[.string s5, .int .i64 x5, .bool t5] 33 (0, 0)) := by rw [← hW6]; exact alloc_newV w5 _
      have HK6 := hide ((hb6.block cb (Array.getElem?_eq_some_iff.1 HK5.out).1).trans HK5.out)
      have HA6 := hide hk6
      have HT6 := hide (HT5.out.later hb6)
      have HB6 := hide (HB5.out.trans (hb6.mono HB5.out.size))
      have HAG : Hid (¬ G w5.heap.size) := hide (fun hf => by have := (HT5.out.y.fb _ hf).2; omega)
      clear hb6 hk6
      obtain ⟨b0, b1, b2, b3, b4, b5⟩ := clc_cells HK6.out
      clear HT5 HB5 HK5
      have HJ7 := hide (HJb.out.one HT1.out.x.rs (fun j => HT1.out.y.ris j) d HKD.out (by omega))
      have HSE := hide (sees_any _ ps q W6 w.heap.size sa sc 3 (kx + 1) ky (X.ask d) Y _ G (HRC.out.below HB6.out) HT6.out.x HT6.out.y (fun p hp => (HK.out p hp).1) (by omega) (by have := (HJ7.out.high (by omega)).2.1; omega) (by have := (HJ7.out.high (by omega)).2.2; omega) (HJ7.out.seen (fun j => HT6.out.y.ris j) (by omega)))
      go_wp2_with fail
      refine HSE.out.mono ?_
      rintro e w9 ⟨rfl, hb9⟩
      have HT9 := hide (HT6.out.later hb9)
      have HB9 := hide (HB6.out.trans (hb9.mono HB6.out.size))
      clear hb9 HSE
      go_wp2_with fail
      go_roundw
      case rel => exact ⟨k + 1, own, (X.ask d), Y, _, G, (kx + 1), ky, by omega, by go_num, rfl, HB9, HT9, HJ7⟩
      case measure => simp [intOf]; omega
    by_cases n0 : d.kind = 0
    · have hkd0 := n0
      have p3 : (d.kind == 3) = false := by rw [hkd0]; rfl
      have p5 : (d.kind == 5) = false := by rw [hkd0]; rfl
      have p7 : (d.kind == 7) = false := by rw [hkd0]; rfl
      have p0 : (d.kind == 0) = true := by rw [hkd0]; rfl
      have HKD := hide hkd0
      have H57 : Hid (¬ (d.kind = 5 ∧ d.N = own)) := hide (by omega)
      have H7A : Hid (d.kind = 7 → k < A) := hide (by omega)
      clear hkd0 n0
      obtain ⟨W1, hW1⟩ : ∃ W1, wr.alloc (.cells #[.int .i64 d.on, .int .i64 d.kind, .int .i64 d.k.1, .int .i64 d.k.2, .int .i64 d.N, .string ⟨d.V.toArray⟩] 31) = W1 := ⟨_, rfl⟩
      have hb1 : Below wr.heap.size wr W1 := by rw [← hW1]; exact (Below.refl _ _).alloc (Nat.le_refl _) _
      have hk1 : W1.heap[wr.heap.size]? = some (.cells (clc d) 31 (0, 0)) := by rw [← hW1]; exact alloc_newV wr _
      obtain ⟨b0, b1, b2, b3, b4, b5⟩ := clc_cells hk1
      have HT1 := hide (HT.out.later hb1)
      have HB1 := hide (HB.out.trans (hb1.mono HB.out.size))
      have HK1 := hide hk1
      have HCF : Hid (¬ F wr.heap.size) := hide (fun hf => by have := (HT.out.x.fb _ hf).2; omega)
      have HCG : Hid (¬ G wr.heap.size) := hide (fun hf => by have := (HT.out.y.fb _ hf).2; omega)
      clear hb1 hk1
      have HQ := hide (ask_any d w.heap.size sa 3 kx X F W1 (hide (fun w' hb => HE.out.below (HB1.out.trans hb))) HT1.out.x hkd.1 hkd.2.1 hkd.2.2 (by have := HJb.out.few; omega))
      go_wp2_with fail
      obtain ⟨cb, hcb⟩ : ∃ cb, cb = wr.heap.size := ⟨_, rfl⟩
      rw [← hcb] at HCF HCG HK1 b0 b1 b2 b3 b4 b5 ⊢
      clear hcb hW1
      refine HQ.out.mono ?_
      rintro e w5 ⟨⟨s5, x5, t5, rfl, a5⟩, hS5, hF5⟩
      have HT5 := hide (HT1.out.onX hS5 hF5)
      have HB5 := hide (HB1.out.trans ((HT1.out.belowX hF5)))
      have HK5 := hide ((hF5.block cb (Array.getElem?_eq_some_iff.1 HK1.out).1 HCF.out).trans HK1.out)
      clear hS5 hF5 HQ b0 b1 b2 b3 b4 b5
      obtain ⟨rfl, rfl, rfl⟩ := a5 HKD.out
      have HPE := hide (HJb.out.same d.N d.k)
      obtain ⟨W6, hW6⟩ : ∃ W6, w5.alloc (.cells #[.string ⟨#[]⟩, .int .i64 (peR d.N (X.K d.k)), .bool true] 33) = W6 := ⟨_, rfl⟩
      have hb6 : Below w5.heap.size w5 W6 := by rw [← hW6]; exact (Below.refl _ _).alloc (Nat.le_refl _) _
      have hk6 : W6.heap[w5.heap.size]? = some (.cells #[.string ⟨#[]⟩, .int .i64 (peR d.N (X.K d.k)), .bool true] 33 (0, 0)) := by rw [← hW6]; exact alloc_newV w5 _
      have HK6 := hide ((hb6.block cb (Array.getElem?_eq_some_iff.1 HK5.out).1).trans HK5.out)
      have HA6 := hide hk6
      have HT6 := hide (HT5.out.later hb6)
      have HB6 := hide (HB5.out.trans (hb6.mono HB5.out.size))
      have HAG : Hid (¬ G w5.heap.size) := hide (fun hf => by have := (HT5.out.y.fb _ hf).2; omega)
      clear hb6 hk6
      obtain ⟨b0, b1, b2, b3, b4, b5⟩ := clc_cells HK6.out
      clear HT5 HB5 HK5
      have HJ7 := hide (HJb.out.both (fun j => HT1.out.y.ris j) d H57.out H7A.out)
      have HQ := hide (ask_any d w.heap.size sc 3 ky Y G W6 (hide (fun w' hb => HE.out.below (HB6.out.trans hb))) HT6.out.y hkd.1 hkd.2.1 hkd.2.2 (by have := HJb.out.few; omega))
      go_wp2_with fail
      obtain ⟨ab, hab⟩ : ∃ ab, ab = w5.heap.size := ⟨_, rfl⟩
      rw [← hab] at HA6 HAG ⊢
      clear hab hW6
      refine HQ.out.mono ?_
      rintro e w7 ⟨⟨s7, x7, t7, rfl, a7⟩, hS7, hF7⟩
      have HT7 := hide (HT6.out.onY hS7 hF7)
      have HB7 := hide (HB6.out.trans ((HT6.out.belowY hF7)))
      have HK7 := hide ((hF7.block cb (Array.getElem?_eq_some_iff.1 HK6.out).1 HCG.out).trans HK6.out)
      have HA7 := hide ((hF7.block ab (Array.getElem?_eq_some_iff.1 HA6.out).1 HAG.out).trans HA6.out)
      clear hS7 hF7 HQ b0 b1 b2 b3 b4 b5
      obtain ⟨rfl, rfl, rfl⟩ := a7 HKD.out
      rw [← HPE.out]
      generalize peR d.N (X.K d.k) = pn at *
      obtain ⟨W8, hW8⟩ : ∃ W8, w7.alloc (.cells #[.string ⟨#[]⟩, .int .i64 pn, .bool true] 33) = W8 := ⟨_, rfl⟩
      have hb8 : Below w7.heap.size w7 W8 := by rw [← hW8]; exact (Below.refl _ _).alloc (Nat.le_refl _) _
      have hk8 : W8.heap[w7.heap.size]? = some (.cells #[.string ⟨#[]⟩, .int .i64 pn, .bool true] 33 (0, 0)) := by rw [← hW8]; exact alloc_newV w7 _
      have HK8 := hide ((hb8.block cb (Array.getElem?_eq_some_iff.1 HK7.out).1).trans HK7.out)
      have ha8 := (hb8.block ab (Array.getElem?_eq_some_iff.1 HA7.out).1).trans HA7.out
      have HT8 := hide (HT7.out.later hb8)
      have HB8 := hide (HB7.out.trans (hb8.mono HB7.out.size))
      have b1 := (clc_cells HK8.out).2.1
      have r0 : W8.cell? ⟨ab, 0, none⟩ = some (.string ⟨#[]⟩) := by rw [cell_of_row _ _ 0 _ _ _ ha8]; rfl
      have r1 : W8.cell? ⟨ab, 1, none⟩ = some (.int .i64 pn) := by rw [cell_of_row _ _ 1 _ _ _ ha8]; rfl
      have r2 : W8.cell? ⟨ab, 2, none⟩ = some (.bool true) := by rw [cell_of_row _ _ 2 _ _ _ ha8]; rfl
      have r3 : W8.cell? ⟨w7.heap.size, 0, none⟩ = some (.string ⟨#[]⟩) := by rw [cell_of_row _ _ 0 _ _ _ hk8]; rfl
      have r4 : W8.cell? ⟨w7.heap.size, 1, none⟩ = some (.int .i64 pn) := by rw [cell_of_row _ _ 1 _ _ _ hk8]; rfl
      have r5 : W8.cell? ⟨w7.heap.size, 2, none⟩ = some (.bool true) := by rw [cell_of_row _ _ 2 _ _ _ hk8]; rfl
      have rq := Tryd.neqS pn W8
      clear hb8 hk8 ha8
      have HSE := hide (sees_any _ ps q W8 w.heap.size sa sc 3 (kx + 1) (ky + 1) (X.ask d) (Y.ask d) _ _ (HRC.out.below HB8.out) HT8.out.x HT8.out.y (fun p hp => (HK.out p hp).1) (by omega) (by have := (HJ7.out.high (by omega)).2.1; omega) (by have := (HJ7.out.high (by omega)).2.2; omega) (HJ7.out.seen (fun j => HT8.out.y.ris j) (by omega)))
      go_wp2_with fail
      refine HSE.out.mono ?_
      rintro e w9 ⟨rfl, hb9⟩
      have HT9 := hide (HT8.out.later hb9)
      have HB9 := hide (HB8.out.trans (hb9.mono HB8.out.size))
      clear hb9 HSE
      go_wp2_with fail
      go_roundw
      case rel => exact ⟨k + 1, own, (X.ask d), (Y.ask d), _, _, (kx + 1), (ky + 1), by omega, by go_num, rfl, HB9, HT9, HJ7⟩
      case measure => simp [intOf]; omega
    have p3 : (d.kind == 3) = false := by simpa using n3
    have p5 : (d.kind == 5) = false := by simpa using n5
    have p7 : (d.kind == 7) = false := by simpa using n7
    have p0 : (d.kind == 0) = false := by simpa using n0
    have H57 : Hid (¬ (d.kind = 5 ∧ d.N = own)) := hide (by omega)
    have H7A : Hid (d.kind = 7 → k < A) := hide (by omega)
    skip
    obtain ⟨W1, hW1⟩ : ∃ W1, wr.alloc (.cells #[.int .i64 d.on, .int .i64 d.kind, .int .i64 d.k.1, .int .i64 d.k.2, .int .i64 d.N, .string ⟨d.V.toArray⟩] 31) = W1 := ⟨_, rfl⟩
    have hb1 : Below wr.heap.size wr W1 := by rw [← hW1]; exact (Below.refl _ _).alloc (Nat.le_refl _) _
    have hk1 : W1.heap[wr.heap.size]? = some (.cells (clc d) 31 (0, 0)) := by rw [← hW1]; exact alloc_newV wr _
    obtain ⟨b0, b1, b2, b3, b4, b5⟩ := clc_cells hk1
    have HT1 := hide (HT.out.later hb1)
    have HB1 := hide (HB.out.trans (hb1.mono HB.out.size))
    have HK1 := hide hk1
    have HCF : Hid (¬ F wr.heap.size) := hide (fun hf => by have := (HT.out.x.fb _ hf).2; omega)
    have HCG : Hid (¬ G wr.heap.size) := hide (fun hf => by have := (HT.out.y.fb _ hf).2; omega)
    clear hb1 hk1
    have HQ := hide (ask_any d w.heap.size sa 3 kx X F W1 (hide (fun w' hb => HE.out.below (HB1.out.trans hb))) HT1.out.x hkd.1 hkd.2.1 hkd.2.2 (by have := HJb.out.few; omega))
    go_wp2_with fail
    obtain ⟨cb, hcb⟩ : ∃ cb, cb = wr.heap.size := ⟨_, rfl⟩
    rw [← hcb] at HCF HCG HK1 b0 b1 b2 b3 b4 b5 ⊢
    clear hcb hW1
    refine HQ.out.mono ?_
    rintro e w5 ⟨⟨s5, x5, t5, rfl, a5⟩, hS5, hF5⟩
    have HT5 := hide (HT1.out.onX hS5 hF5)
    have HB5 := hide (HB1.out.trans ((HT1.out.belowX hF5)))
    have HK5 := hide ((hF5.block cb (Array.getElem?_eq_some_iff.1 HK1.out).1 HCF.out).trans HK1.out)
    clear hS5 hF5 HQ b0 b1 b2 b3 b4 b5
    clear a5
    obtain ⟨W6, hW6⟩ : ∃ W6, w5.alloc (.cells #[.string s5, .int .i64 x5, .bool t5] 33) = W6 := ⟨_, rfl⟩
    have hb6 : Below w5.heap.size w5 W6 := by rw [← hW6]; exact (Below.refl _ _).alloc (Nat.le_refl _) _
    have hk6 : W6.heap[w5.heap.size]? = some (.cells #[.string s5, .int .i64 x5, .bool t5] 33 (0, 0)) := by rw [← hW6]; exact alloc_newV w5 _
    have HK6 := hide ((hb6.block cb (Array.getElem?_eq_some_iff.1 HK5.out).1).trans HK5.out)
    have HA6 := hide hk6
    have HT6 := hide (HT5.out.later hb6)
    have HB6 := hide (HB5.out.trans (hb6.mono HB5.out.size))
    have HAG : Hid (¬ G w5.heap.size) := hide (fun hf => by have := (HT5.out.y.fb _ hf).2; omega)
    clear hb6 hk6
    obtain ⟨b0, b1, b2, b3, b4, b5⟩ := clc_cells HK6.out
    clear HT5 HB5 HK5
    have HJ7 := hide (HJb.out.both (fun j => HT1.out.y.ris j) d H57.out H7A.out)
    have HQ := hide (ask_any d w.heap.size sc 3 ky Y G W6 (hide (fun w' hb => HE.out.below (HB6.out.trans hb))) HT6.out.y hkd.1 hkd.2.1 hkd.2.2 (by have := HJb.out.few; omega))
    go_wp2_with fail
    obtain ⟨ab, hab⟩ : ∃ ab, ab = w5.heap.size := ⟨_, rfl⟩
    rw [← hab] at HA6 HAG ⊢
    clear hab hW6
    refine HQ.out.mono ?_
    rintro e w7 ⟨⟨s7, x7, t7, rfl, a7⟩, hS7, hF7⟩
    have HT7 := hide (HT6.out.onY hS7 hF7)
    have HB7 := hide (HB6.out.trans ((HT6.out.belowY hF7)))
    have HK7 := hide ((hF7.block cb (Array.getElem?_eq_some_iff.1 HK6.out).1 HCG.out).trans HK6.out)
    have HA7 := hide ((hF7.block ab (Array.getElem?_eq_some_iff.1 HA6.out).1 HAG.out).trans HA6.out)
    clear hS7 hF7 HQ b0 b1 b2 b3 b4 b5
    clear a7
    obtain ⟨W8, hW8⟩ : ∃ W8, w7.alloc (.cells #[.string s7, .int .i64 x7, .bool t7] 33) = W8 := ⟨_, rfl⟩
    have hb8 : Below w7.heap.size w7 W8 := by rw [← hW8]; exact (Below.refl _ _).alloc (Nat.le_refl _) _
    have hk8 : W8.heap[w7.heap.size]? = some (.cells #[.string s7, .int .i64 x7, .bool t7] 33 (0, 0)) := by rw [← hW8]; exact alloc_newV w7 _
    have HK8 := hide ((hb8.block cb (Array.getElem?_eq_some_iff.1 HK7.out).1).trans HK7.out)
    have ha8 := (hb8.block ab (Array.getElem?_eq_some_iff.1 HA7.out).1).trans HA7.out
    have HT8 := hide (HT7.out.later hb8)
    have HB8 := hide (HB7.out.trans (hb8.mono HB7.out.size))
    have b1 := (clc_cells HK8.out).2.1
    clear hb8 hk8 ha8
    have HSE := hide (sees_any _ ps q W8 w.heap.size sa sc 3 (kx + 1) (ky + 1) (X.ask d) (Y.ask d) _ _ (HRC.out.below HB8.out) HT8.out.x HT8.out.y (fun p hp => (HK.out p hp).1) (by omega) (by have := (HJ7.out.high (by omega)).2.1; omega) (by have := (HJ7.out.high (by omega)).2.2; omega) (HJ7.out.seen (fun j => HT8.out.y.ris j) (by omega)))
    go_wp2_with fail
    refine HSE.out.mono ?_
    rintro e w9 ⟨rfl, hb9⟩
    have HT9 := hide (HT8.out.later hb9)
    have HB9 := hide (HB8.out.trans (hb9.mono HB8.out.size))
    clear hb9 HSE
    go_wp2_with fail
    go_roundw
    case rel => exact ⟨k + 1, own, (X.ask d), (Y.ask d), _, _, (kx + 1), (ky + 1), by omega, by go_num, rfl, HB9, HT9, HJ7⟩
    case measure => simp [intOf]; omega
end Go.Proofs.YtnjjehlfgoggfaaDoor
