/-
  My own text: LO3, LV5, LV6 in one.
-/
import Derived.Test.YtcdhblfefpkjgaaDoorLO2
import Derived.Test.YtcdhblfefpkjgaaDoorQRz
import Derived.Test.YtcdhblfefpkjgaaDoorLK4
import Derived.Test.YtcdhblfefpkjgaaDoorLV2
import Derived.Test.YtcdhblfefpkjgaaDoorLS2
namespace Go.Proofs.YtcdhblfefpkjgaaDoor
open Go.RowKit

theorem gb_over {w4 W W' : World} {P : Nat} {r : Option Nat} (h : w4.grownBy W (some P)) (k : W.grownBy W' r) (hr : ∀ g, r = some g → w4.heap.size ≤ g) : w4.grownBy W' (some P) :=
  ⟨k.os.trans h.os, k.tape.trans h.tape, k.output.trans h.output, Nat.le_trans h.size k.size, fun b hb hn => (k.block b (Nat.lt_of_lt_of_le hb h.size) (fun e => by have := hr b e.symm; omega)).trans (h.block b hb hn)⟩
theorem gb_alloc {w4 W : World} {P : Nat} (h : w4.grownBy W (some P)) (o : Obj) : w4.grownBy (W.alloc o) (some P) := gb_over h (grown_alloc W o) (fun g q => by cases q)
def lenV : Value → Nat
  | .slice _ l _ => l
  | _ => 0
theorem meas_row {n a b q : Nat} (hb : b = a + 1) (hbn : b ≤ n) (q2 : Nat) (hq : q ≤ n) : (n - b) * (n + 1) + (n - q2) < (n - a) * (n + 1) + (n - q) := by
  subst hb
  obtain ⟨m, hm⟩ : ∃ m, n - a = m + 1 := ⟨n - a - 1, by omega⟩
  have h2 : n - (a + 1) = m := by omega
  rw [hm, h2, Nat.add_mul]
  omega
theorem iv_succ {j : Nat} (h : wrap64 ((j : Int) + 1) = (j : Int) + 1) : Value.int .i64 (wrap64 ((j : Int) + 1)) = Value.int .i64 (((j + 1 : Nat)) : Int) := by rw [h]; rfl
theorem meas_j {m j : Nat} (h : wrap64 ((j : Int) + 1) = (j : Int) + 1) (hl : j < m) : m - (intOf (Value.int .i64 (wrap64 ((j : Int) + 1)))).toNat < m - (intOf (Value.int .i64 (j : Int))).toNat := by
  rw [h]
  simp [intOf]
  omega
set_option maxRecDepth 100000 in
set_option maxHeartbeats 8000000 in
theorem order_any (B0 : Nat) (w0 : World) (n : Nat) (v : Value) (pr : Nat → Int) (G : Bool → Nat) (V : Bool → Nat → Value) (E : List (Nat × Nat)) (w : World) (hW : WV B0 w0 w G n V (XX E)) (hB0 : B0 ≤ w.heap.size) (hv : PB w v n pr) (hn : n ≤ 4096) (hE : E.length ≤ 8796093022200) (hlt : ∀ p ∈ E, p.1 < n ∧ p.2 < n) (hso : SortOk n) :
    Calls Tryd.prog 29 #[.agg #[.slice (some ⟨G false, 0, none⟩) n n, .slice (some ⟨G true, 0, none⟩) n n], v] w fun e w' => ∃ (row : List Nat) (vr : Value), e = .returned (.tuple #[vr, .bool (decide (row.length = n))]) ∧ IN.OM w' w.heap.size vr (ni row) ∧ Gr' n E pr row ∧ (∀ y, ¬ Av n E row y) ∧ Below w.heap.size w w' := by
  have HN := hide hn
  have HE := hide hE
  have HLT := hide hlt
  obtain ⟨w1, hw1⟩ : ∃ x, w.alloc (.cells #[.slice (some ⟨G false, 0, none⟩) n n, .slice (some ⟨G true, 0, none⟩) n n] 67) = x := ⟨_, rfl⟩
  have hb1 : Below w.heap.size w w1 := by rw [← hw1]; exact (Below.refl _ _).alloc (Nat.le_refl _) _
  have HBX : Hid (w1.heap[w.heap.size]? = some (.cells #[.slice (some ⟨G false, 0, none⟩) n n, .slice (some ⟨G true, 0, none⟩) n n] 67 (0, 0))) := hide (by rw [← hw1]; exact alloc_new w _)
  have hs1 : w1.heap.size = w.heap.size + 1 := by rw [← hw1]; simp
  have HS1 := hide hs1
  have HW1 := hide (hW.later hb1 hB0)
  have HB1 := hide hb1
  have HLO : Hid (∀ s, G s < w.heap.size) := hide hW.lt
  have HRO : Hid (∀ s x, x < n → ∀ g, (V s x).ownBlock = some g → g < w.heap.size) := hide (fun s x hx g hg => by
    obtain ⟨c, f, hk⟩ := IN.OM.kind (hW.own s x hx) g hg
    exact (Array.getElem?_eq_some_iff.1 hk).1)
  have HR := hide (ranked_any n v pr w1 (hv.later hb1) hn hso)
  have hmk := run_make_row' (P := Tryd.prog) 41 3 (.int .i64 0) 8 Tryd.underlying41 Tryd.infoIn rfl .i64 .i64 n (by omega) (by omega)
  have hB0 := hide hB0
  obtain ⟨a, c, rfl, hnc, _⟩ := hv.is
  clear hn hE hlt hso hW hb1 hs1 hv
  go_enter Tryd.func29, Tryd.ntmps29
  go_wp2_with fail
  refine HR.out.mono ?_
  rintro e w2 ⟨U, K, L, M, rfl, h1, h2, h3, h4, h5, h6, h7, h8, h9, h10⟩
  have HU := hide h1
  have HK := hide h2
  have HSI := hide h3
  have HSR := hide h4
  have HML := hide h5
  have HRK := hide h6
  have HUK := hide (And.intro h7 (And.intro h8 h9))
  have HB2 := hide (HB1.out.trans (h10.mono HB1.out.size))
  have HW2 := hide (HW1.out.later h10 (by have := HB1.out.size; have := hB0.out; omega))
  have HBX2 := hide (blk_later HBX.out h10)
  clear h1 h2 h3 h4 h5 h6 h7 h8 h9 h10 HR hw1 HBX HW1
  go_wp2_with fail
  have HZ := hide (IZ.made w2 n)
  have hb3 : Below w2.heap.size w2 (w2.alloc (.cells (madeCells #[.int .i64 0] n) 3)) := (Below.refl _ _).alloc (Nat.le_refl _) _
  obtain ⟨P, hP⟩ : ∃ P, w2.heap.size = P := ⟨_, rfl⟩
  have HPs := hide hP
  rw [hP] at HZ
  have HW3 := hide (HW2.out.later hb3 (by have := HB2.out.size; have := hB0.out; omega))
  have HBX3 := hide (blk_later HBX2.out hb3)
  have HU3 := hide (HU.out.later hb3)
  have HK3 := hide (HK.out.later hb3)
  have HB3 := hide (HB2.out.trans (hb3.mono HB2.out.size))
  have HUP : Hid (U ≠ P ∧ K ≠ P ∧ w.heap.size < P) := hide (by have := HU.out.lt; have := HK.out.lt; have := HB2.out.size; have := (Array.getElem?_eq_some_iff.1 HBX2.out).1; omega)
  clear hb3 HU HK HBX2 HW2
  rw [hP]
  generalize (w2.alloc (.cells (madeCells #[.int .i64 0] n) 3)) = w3 at *
  clear hP hmk
  have HOX : Hid (∀ W, w3.grownBy W (some P) → OX w3 P n w.heap.size U K G V E L M W) := hide (fun W h => ox_of HW3.out (fun s => by have := HLO.out s; have := HUP.out; omega) (fun s x hx g hg => by have := HRO.out s x hx g hg; have := HUP.out; omega) HBX3.out (by have := HUP.out; omega) HU3.out HUP.out.1 HK3.out HUP.out.2.1 h)
  go_loopw [26] (fun i wr => ∃ (k : Nat) (A : List Int), k ≤ n ∧ i = .int .i64 (k : Int) ∧ Hid (A.length = n ∧ ∀ j, j < k → A[j]? = some (aF E [] j)) ∧ Hid (IZ wr P A) ∧ Hid (w3.grownBy wr (some P))) (fun i _ => n - (intOf i).toNat)
  case atStart => exact ⟨0, _, Nat.zero_le _, rfl, hide ⟨List.length_replicate, fun j hj => by omega⟩, HZ, hide (gb_refl _ _)⟩
  case round =>
    clear HZ
    obtain ⟨k, A, hk, rfl, HA, HZ, HG⟩ := hrel
    by_cases hltk : k < n
    · have hd1 : decide ((k : Int) < (n : Int)) = true := by rw [decide_eq_true_eq]; omega
      have hd1' : decide (k < n) = true := decide_eq_true hltk
      have k0 : (0 : Int) ≤ (k : Int) := by omega
      have k1 : (k : Int) < (n : Int) := by omega
      have wk : wrap64 ((k : Int) + 1) = (k : Int) + 1 := by have := HN.out; unfold wrap64; omega
      have ox := HOX.out wr HG.out
      have b1 := ox.b1
      have g1 := ox.g true k hltk
      obtain ⟨ra, rc, hv1⟩ := HW3.out.sl true hltk
      rw [hv1] at g1
      obtain ⟨m, hm⟩ : ∃ m, Hid ((XX E true k).length = m) := ⟨_, hide rfl⟩
      rw [hm.out] at g1
      have HM : Hid ((m : Int) = aF E [] k) := hide (by rw [aF_nil, ← hm.out]; unfold XX bk; simp)
      have f0 := HZ.out.frozen k
      have hkm : k < A.length := by have := HA.out.1; omega
      have c0 := HZ.out.cell (List.getElem?_eq_getElem hkm)
      obtain ⟨q, hq⟩ : ∃ q : Int, A[k] = q := ⟨_, rfl⟩
      rw [hq] at c0
      obtain ⟨w5, hw5⟩ : ∃ x, wr.setCell ⟨P, k, none⟩ (.int .i64 (m : Int)) = x := ⟨_, rfl⟩
      have HZ2 : Hid (IZ w5 P (A.set k (m : Int))) := hide (by rw [← hw5]; exact HZ.out.set k _)
      have HG2 : Hid (w3.grownBy w5 (some P)) := hide (by rw [← hw5]; exact gb_trans HG.out (gb_set wr P k _))
      clear hkm hq ox hv1
      go_wp2_with fail
      go_roundw
      case rel =>
        refine ⟨k + 1, A.set k (m : Int), by omega, by go_num, hide ⟨by rw [List.length_set]; exact HA.out.1, fun j hj => ?_⟩, HZ2, HG2⟩
        by_cases e : k = j
        · subst e; rw [List.getElem?_set_self (by have := HA.out.1; omega), HM.out]
        · rw [List.getElem?_set_ne e]; exact HA.out.2 j (by omega)
      case measure => first | (rw [wk]; simp [intOf]; omega) | (simp [intOf]; omega)
    · have e : k = n := by omega
      subst e
      have hd1 : decide ((k : Int) < (k : Int)) = false := by simp
      have hd1' : decide (k < k) = false := by simp
      have HAW : Hid (AW k A (aF E [])) := hide ⟨HA.out.1, HA.out.2⟩
      clear HA
      generalize hw4 : wr = w4 at *
      clear hw4
      go_wp2_with fail
      have HOX4 : Hid (∀ W, w4.grownBy W (some P) → OX w3 P k w.heap.size U K G V E L M W) := hide (fun W h => HOX.out W (gb_trans HG.out h))
      have HPL : Hid (P < w4.heap.size) := hide HZ.out.lt
      have HB4 : Hid (Below w.heap.size w w4) := hide (gb_below HB3.out HG.out (by have := HUP.out; omega) HB3.out.size)
      have HPw : Hid (w.heap.size ≤ P) := hide (by have := HUP.out; omega)
      obtain ⟨i0, hi, hz0, hz1, hz2⟩ := info_parts Tryd.infoIn
      have HWS : Hid (∀ s x, x < k → ∃ a c, V s x = .slice a (XX E s x).length c) := hide (fun s x hx => HW3.out.sl s hx)
      clear HOX HG HU3 HK3 HW3 HBX3 HB3 HUP HRO HLO
      go_loopw [11, 12] (fun vr ai wr => ∃ (q : Nat) (row : List Nat) (A : List Int) (ao : Option Addr) (co : Nat), ai = .int .i64 (q : Int) ∧ vr = .slice ao row.length co ∧ Hid (q ≤ k) ∧ Hid (IN.OM wr w4.heap.size (.slice ao row.length co) (ni row)) ∧ Hid (IZ wr P A) ∧ Hid (AW k A (aF E row)) ∧ Hid (AtOk L (aF E row) q) ∧ Hid (Gr' k E pr row) ∧ Hid (w4.grownBy wr (some P))) (fun vr ai _ => (k - lenV vr) * (k + 1) + (k - (intOf ai).toNat))
      case atStart => exact ⟨0, [], A, none, 0, rfl, rfl, hide (Nat.zero_le _), hide (IN.OM.nil _ _), HZ, HAW, hide (fun j x hj => by omega), hide Gr'.nil, hide (gb_refl _ _)⟩
      case round =>
        clear HZ HAW
        obtain ⟨q, row, A, ao, co, rfl, rfl, HQ, HR, HZ, HAW, HAT, HGR, HG⟩ := hrel
        by_cases hlq : q < k
        · have hd1 : decide ((q : Int) < (k : Int)) = true := by rw [decide_eq_true_eq]; omega
          have hd1' : decide (q < k) = true := decide_eq_true hlq
          have k0 : (0 : Int) ≤ (q : Int) := by omega
          have k1 : (q : Int) < (k : Int) := by omega
          have wk : wrap64 ((q : Int) + 1) = ((q + 1 : Nat) : Int) := by have := HN.out; unfold wrap64; omega
          have wk2 : IntKind.i64.wrap ((q : Int) + 1) = ((q + 1 : Nat) : Int) := by have := HN.out; rw [IntKind.wrap_i64]; omega
          obtain ⟨q1, hq1⟩ : ∃ q1, Hid (q + 1 = q1) := ⟨_, hide rfl⟩
          rw [hq1.out] at wk wk2
          obtain ⟨x, hx⟩ : ∃ x, L[q]? = some x := ⟨_, List.getElem?_eq_getElem (by rw [HSI.out.len]; exact hlq)⟩
          have hxk := HSI.out.lt _ _ hx
          have ox := HOX4.out wr HG.out
          have u1 := ox.u q x hx
          have c1 := HZ.out.cell (HAW.out.at_ x hxk)
          have x0 : (0 : Int) ≤ (x : Int) := by omega
          have x1 : (x : Int) < (k : Int) := by omega
          have HX := hide hx
          have HRL : Hid (row.length ≤ k) := hide (by have h := HGR.out.low; exact pigeon k row h.1 h.2)
          by_cases h0 : aF E row x = 0
          · have HNX := hide (HAT.out.nxt HSI.out HSR.out hx h0)
            have HAT0 := hide (HAT.out.stand hx)
            rw [h0] at c1
            have hne : ((0 : Int) != 0) = false := by decide
            have f0 := HZ.out.frozen x
            obtain ⟨w5, hw5⟩ : ∃ w5, wr.setCell ⟨P, x, none⟩ (.int .i64 (-1)) = w5 := ⟨_, rfl⟩
            have HZ5 : Hid (IZ w5 P (A.set x (-1))) := hide (by rw [← hw5]; exact HZ.out.set x _)
            have HG5 : Hid (w4.grownBy w5 (some P)) := hide (by rw [← hw5]; exact gb_trans HG.out (gb_set wr P x _))
            have HA5 : Hid (AW k (A.set x (-1)) (cF E row x 0)) := hide (HAW.out.set (cF_self E row x 0) (fun y hy => cF_zero hy))
            have HR5 : Hid (IN.OM w5 w4.heap.size (.slice ao row.length co) (ni row)) := hide (by
              rw [← hw5]
              refine owns_blk HR.out fun g hg => Below.heap_setCell _ _ _ _ (fun e => ?_)
              have e : g = P := e
              have := (World.ownsRow.lt HR.out g hg).1
              have := HPL.out
              omega)
            have hown := HR5.out
            have HBS : Hid (w4.heap.size ≤ w5.heap.size) := hide HG5.out.size
            have hrl : row.length ≤ 4096 := by have := HRL.out; have := HN.out; omega
            have HT : Hid (IN.mc (ni (row ++ [x])) = IN.mc (ni row) ++ [.int .i64 (x : Int)]) := hide (by rw [ni_app, IN.mc_app]; rfl)
            unfold IN.OM at hown
            rw [ni_len] at hown
            clear HAW HAT HR HZ hx h0 ox HG
            go_wp2_with (first
              | (at_builtin; refine wpList_append_own _ rfl _ _ 41 rfl w4.heap.size 3 i0 (.int .i64 0) 1 8 Tryd.underlying41 hi hz0 hz1 hz2 rfl (by decide) _ _ _ rfl (hown.alloc _) ⟨_, 0, none⟩ 1 1 [.int .i64 (x : Int)] rfl rfl ?c1 ?c2 ?c3 ?c4 ?c5 ?_)
              | fail)
            case c1 =>
              intro j u hj
              match j, hj with
              | 0, hj => simp at hj; subst hj; simp [Addr.add]
            case c2 => intro u hu; simp at hu; subst hu; rfl
            case c3 => unfold maxLen; omega
            case c4 => omega
            case c5 => have := HBS.out; simp; omega
            intro v' w6 hown' hgrow _
            have hown6 : IN.OM w6 w4.heap.size v' (ni (row ++ [x])) := by
              unfold IN.OM
              rw [HT.out, ni_len, List.length_append]
              exact hown'
            obtain ⟨a6, c6, hv6⟩ : ∃ a c, v' = .slice a (row ++ [x]).length c := by
              obtain ⟨a, c, e⟩ := IN.OM.slice hown6
              rw [ni_len] at e
              exact ⟨a, c, e⟩
            subst hv6
            have HR6 := hide hown6
            have hbw : ∀ g, (Value.slice ao row.length co).ownBlock = some g → w4.heap.size ≤ g := fun g hg => (World.ownsRow.lt hown g hg).1
            have HG6 : Hid (w4.grownBy w6 (some P)) := hide (gb_over (gb_alloc HG5.out _) hgrow hbw)
            have HZ6 : Hid (IZ w6 P (A.set x (-1))) := hide ((HZ5.out.later ((Below.refl w5.heap.size w5).alloc (Nat.le_refl _) (.cells #[.int .i64 (x : Int)] 3))).block (hgrow.block P (by have := HPL.out; have := HBS.out; simp; omega) (fun e => by have := hbw P e.symm; have := HPL.out; omega)))
            have ox := HOX4.out w6 HG6.out
            have b0 := ox.b0
            have g0 := ox.g false x hxk
            obtain ⟨m, hm⟩ : ∃ m, Hid ((nx E x).length = m) := ⟨_, hide rfl⟩
            have HML2 : Hid (m ≤ 8796093022200) := hide (by rw [← hm.out]; unfold nx; rw [List.length_map]; exact Nat.le_trans (List.length_filter_le _ _) HE.out)
            obtain ⟨ra, rc, hvx⟩ := HWS.out false x hxk
            have hvx2 : V false x = .slice ra m rc := by rw [hvx, ← hm.out]; rfl
            rw [hvx2] at g0
            have HVX := hide hvx2
            rw [hq1.out] at HAT0
            have HQQ : Hid (q1 ≤ k) := hide (by have := hq1.out; omega)
            clear hown' hgrow hown6 hown hbw HR5 HZ5 HG5 ox hw5 f0 c1 hvx hvx2 HT u1
            go_wp2_with fail
            go_loopw [66, 12] (fun ji ai wr => ∃ (j q2 : Nat) (A : List Int), j ≤ m ∧ ji = .int .i64 (j : Int) ∧ ai = .int .i64 (q2 : Int) ∧ Hid (q2 ≤ k) ∧ Hid (IN.OM wr w4.heap.size (.slice a6 (row ++ [x]).length c6) (ni (row ++ [x]))) ∧ Hid (IZ wr P A) ∧ Hid (AW k A (cF E row x j)) ∧ Hid (AtOk L (cF E row x j) q2) ∧ Hid (w4.grownBy wr (some P))) (fun ji _ _ => m - (intOf ji).toNat)
            case atStart => exact ⟨0, q1, _, Nat.zero_le _, rfl, rfl, HQQ, HR6, HZ6, HA5, HAT0, HG6⟩
            case round =>
              clear HR6 HZ6 HA5 HAT0 HG6
              obtain ⟨j, q2, A, hj, rfl, rfl, HQ2, HR, HZ, HAW, HAT, HG⟩ := hrel
              by_cases hlj : j < m
              · have hd2 : decide ((j : Int) < (m : Int)) = true := by rw [decide_eq_true_eq]; omega
                have hd2' : decide (j < m) = true := decide_eq_true hlj
                have j0 : (0 : Int) ≤ (j : Int) := by omega
                have j1 : (j : Int) < (m : Int) := by omega
                have wj : wrap64 ((j : Int) + 1) = (j : Int) + 1 := by have := HML2.out; unfold wrap64; omega
                obtain ⟨tg, htg⟩ : ∃ t, (nx E x)[j]? = some t := ⟨_, List.getElem?_eq_getElem (by rw [hm.out]; exact hlj)⟩
                have htk : tg < k := (HLT.out (x, tg) (mem_nx.1 (List.mem_of_getElem? htg))).2
                have ox := HOX4.out wr HG.out
                obtain ⟨b, off, c9, hvb, r0⟩ := ox.r x j tg hxk htg
                have e9 := HVX.out
                rw [hvb] at e9
                injection e9 with e9 _ _
                obtain ⟨h1, h2, h3, h4, h5⟩ := cF_to HGR.out HNX.out.1 htg
                obtain ⟨cv, hcv⟩ : ∃ cv, Hid (cF E row x j tg = cv) := ⟨_, hide rfl⟩
                rw [hcv.out] at h2 h3 h4
                have c1 := HZ.out.cell (HAW.out.at_ tg htk)
                rw [hcv.out] at c1
                obtain ⟨d, hd⟩ : ∃ d, Hid (cv - 1 = d) := ⟨_, hide rfl⟩
                have wc : wrap64 (cv - 1) = d := by have := HE.out; have := hd.out; unfold wrap64; omega
                have wc2 : IntKind.i64.wrap (cv - 1) = d := by have := HE.out; have := hd.out; rw [IntKind.wrap_i64]; omega
                rw [hd.out] at h4
                have f0 := HZ.out.frozen tg
                have t0 : (0 : Int) ≤ (tg : Int) := by omega
                have t1 : (tg : Int) < (k : Int) := by omega
                obtain ⟨w7, hw7⟩ : ∃ x, wr.setCell ⟨P, tg, none⟩ (.int .i64 d) = x := ⟨_, rfl⟩
                have HZ7 : Hid (IZ w7 P (A.set tg d)) := hide (by rw [← hw7]; exact HZ.out.set tg d)
                have HG7 : Hid (w4.grownBy w7 (some P)) := hide (by rw [← hw7]; exact gb_trans HG.out (gb_set wr P tg _))
                have HA7 : Hid (AW k (A.set tg d) (cF E row x (j + 1))) := hide (HAW.out.set h4 h5)
                have HR7 : Hid (IN.OM w7 w4.heap.size (.slice a6 (row ++ [x]).length c6) (ni (row ++ [x]))) := hide (by
                  rw [← hw7]
                  refine owns_blk HR.out fun g hg => Below.heap_setCell _ _ _ _ (fun e => ?_)
                  have e : g = P := e
                  have := (World.ownsRow.lt HR.out g hg).1
                  have := HPL.out
                  omega)
                have c7 := HZ7.out.cell (j := tg) (x := d) (List.getElem?_set_self (by rw [HAW.out.len]; exact htk))
                have HGO : Hid (∀ q3, q3 ≤ q2 → (d = 0 → ∀ i, L[i]? = some tg → q3 ≤ i) → AtOk L (cF E row x (j + 1)) q3) := hide (fun q3 hle hz => HAT.out.go h5 hle (fun h0 => hz (by rw [← h4]; exact h0)))
                have ox7 := HOX4.out w7 HG7.out
                have hra : ra = some ⟨b, off, none⟩ := e9.symm
                subst hra
                clear HAW HAT HR HZ h1 h2 h3 h4 h5 htg ox hvb HG
                by_cases hd0 : d = 0
                · obtain ⟨i, hik, hi2⟩ := HSI.out.all htk
                  have hMi := HRK.out i tg hi2
                  have k9 := ox7.k tg i hMi
                  have i0' : (0 : Int) ≤ (i : Int) := by omega
                  have HIT : Hid (∀ i', L[i']? = some tg → i' = i) := hide (fun i' hi' => HSI.out.inj hi' hi2)
                  have he0 : (d == 0) = true := by rw [beq_iff_eq]; exact hd0
                  clear hd0 hi2 hMi ox7
                  by_cases hqi : i < q2
                  · have m1 : (i : Int) < (q2 : Int) := by omega
                    have m2 : ¬ (q2 : Int) < (i : Int) := by omega
                    have HAT7 := hide (HGO.out i (by omega) (fun _ i' hi' => by rw [HIT.out i' hi']; exact Nat.le_refl _))
                    have HQ7 : Hid (i ≤ k) := hide (by omega)
                    go_wp2_with fail
                    go_roundw
                    case rel => exact ⟨j + 1, i, A.set tg d, hlj, iv_succ wj, rfl, HQ7, HR7, HZ7, HA7, HAT7, HG7⟩
                    case measure => exact meas_j wj hlj
                  · by_cases hqi2 : q2 < i
                    · have m1 : (q2 : Int) < (i : Int) := by omega
                      have m2 : ¬ (i : Int) < (q2 : Int) := by omega
                      have HAT7 := hide (HGO.out q2 (Nat.le_refl _) (fun _ i' hi' => by rw [HIT.out i' hi']; omega))
                      go_wp2_with fail
                      go_roundw
                      case rel => exact ⟨j + 1, q2, A.set tg d, hlj, iv_succ wj, rfl, HQ2, HR7, HZ7, HA7, HAT7, HG7⟩
                      case measure => exact meas_j wj hlj
                    · have e : q2 = i := by omega
                      have HAT7 := hide (HGO.out q2 (Nat.le_refl _) (fun _ i' hi' => by rw [HIT.out i' hi']; omega))
                      subst e
                      go_wp2_with fail
                      go_roundw
                      case rel => exact ⟨j + 1, q2, A.set tg d, hlj, iv_succ wj, rfl, HQ2, HR7, HZ7, HA7, HAT7, HG7⟩
                      case measure => exact meas_j wj hlj
                · have he0 : (d == 0) = false := by rw [beq_eq_false_iff_ne]; exact hd0
                  have HAT7 := hide (HGO.out q2 (Nat.le_refl _) (fun h => absurd h hd0))
                  clear hd0 ox7
                  go_wp2_with fail
                  go_roundw
                  case rel => exact ⟨j + 1, q2, A.set tg d, hlj, iv_succ wj, rfl, HQ2, HR7, HZ7, HA7, HAT7, HG7⟩
                  case measure => exact meas_j wj hlj
              · have e : j = m := by omega
                subst e
                have hd2 : decide ((j : Int) < (j : Int)) = false := by simp
                have hd2' : decide (j < j) = false := by simp
                have HCE : Hid (∀ y, cF E row x j y = aF E (row ++ [x]) y) := hide (fun y => by rw [← hm.out]; exact cF_end HNX.out.1.2.1 y)
                have HA8 : Hid (AW k A (aF E (row ++ [x]))) := hide ⟨HAW.out.len, fun y hy => by rw [← HCE.out]; exact HAW.out.at_ y hy⟩
                have HAT8 : Hid (AtOk L (aF E (row ++ [x])) q2) := hide (fun i y hi hy => by rw [← HCE.out]; exact HAT.out i y hi hy)
                have HGR8 := hide (Gr'.step HGR.out HNX.out)
                have HLL : Hid ((row ++ [x]).length ≤ k) := hide (by have h := HGR8.out.low; exact pigeon k _ h.1 h.2)
                clear HAW HAT HCE
                go_wp2_with fail
                go_roundw
                case rel => exact ⟨q2, row ++ [x], A, a6, c6, rfl, rfl, HQ2, HR, HZ, HA8, HAT8, HGR8, HG⟩
                case measure =>
                  simp only [lenV, intOf]
                  exact meas_row (by simp) HLL.out _ (by have := HQ.out; omega)
          · have hne : (aF E row x != 0) = true := by rw [bne_iff_ne]; exact h0
            have HAT1 := hide (HAT.out.skip hx h0)
            rw [hq1.out] at HAT1
            have HQ1 : Hid (q1 ≤ k) := hide (by have := hq1.out; omega)
            have HQ2 := hq1
            obtain ⟨av, hav⟩ : ∃ av, aF E row x = av := ⟨_, rfl⟩
            rw [hav] at hne c1
            clear h0 hx ox HAT hav
            go_wp2_with fail
            go_roundw
            case rel => exact ⟨q1, row, A, ao, co, rfl, rfl, HQ1, HR, HZ, HAW, HAT1, HGR, HG⟩
            case measure =>
              have := HQ2.out
              simp only [lenV, intOf]
              simp
              omega
        · have e : q = k := by have := HQ.out; omega
          subst e
          have hd1 : decide ((q : Int) < (q : Int)) = false := by simp
          have hd1' : decide (q < q) = false := by simp
          have HLA := hide (HAT.out.last HSI.out)
          have HRF : Hid (IN.OM wr w.heap.size (.slice ao row.length co) (ni row)) := hide (IN.OM.base HR.out (fun g hg => by have := (World.ownsRow.lt HR.out g hg).1; have := HB4.out.size; omega))
          have HBF : Hid (Below w.heap.size w wr) := hide (gb_below HB4.out HG.out HPw.out HB4.out.size)
          have hdl : ((row.length : Int) == (q : Int)) = decide (row.length = q) := by
            rw [Bool.eq_iff_iff, beq_iff_eq, decide_eq_true_eq]; omega
          clear HR HZ HAW HAT HG
          go_wp2_with fail
          go_ret2
          exact ⟨row, _, rfl, HRF.out, HGR.out, HLA.out, HBF.out⟩
end Go.Proofs.YtcdhblfefpkjgaaDoor
namespace Go.Proofs.YtcdhblfefpkjgaaDoor
open Go.RowKit

/-- A row of n notices of these priorities. -/
def NP (w : World) (v : Value) (n : Nat) (pr : Nat → Int) : Prop := ∃ a cap, v = .slice a n cap ∧ (n = 0 ∨ ∃ b off, a = some ⟨b, off, none⟩ ∧ b < w.heap.size ∧ ∀ x, x < n → w.cell? ⟨b, off + x * 27 + 25, none⟩ = some (.int .i64 (pr x)))
/-- A row of rows of places. -/
def LI (w : World) (v : Value) (T : List (List Nat)) : Prop := ∃ a cap, v = .slice a T.length cap ∧ (T = [] ∨ ∃ b off, a = some ⟨b, off, none⟩ ∧ b < w.heap.size ∧ ∀ (j : Nat) (l : List Nat), T[j]? = some l →
  ∃ la lc, w.cell? ⟨b, off + j, none⟩ = some (.slice la l.length lc) ∧ (l = [] ∨ ∃ b2 o2, la = some ⟨b2, o2, none⟩ ∧ b2 < w.heap.size ∧ ∀ (i x : Nat), l[i]? = some x → w.cell? ⟨b2, o2 + i, none⟩ = some (.int .i64 (x : Int))))
/-- The greatest of the first of a list. -/
def umT (pr : Nat → Int) (l : List Nat) (i : Nat) : Int := ((l.take i).map pr).foldl max (pr (l.headD 0))
def um (pr : Nat → Int) (l : List Nat) : Int := umT pr l l.length
theorem umT_succ {pr : Nat → Int} {l : List Nat} {i x : Nat} (h : l[i]? = some x) : umT pr l (i + 1) = max (umT pr l i) (pr x) := by
  unfold umT
  rw [List.take_add_one, h]
  simp
theorem umT_zero (pr : Nat → Int) (l : List Nat) : umT pr l 0 = pr (l.headD 0) := rfl
/-- A row of numbers that is written in place. -/
def PW (w : World) (g m : Nat) (A : Nat → Int) : Prop := w.rowIs g 3 m (fun k => .int .i64 (A k))
theorem PW.set {w : World} {g m : Nat} {A : Nat → Int} (h : PW w g m A) (j : Nat) (x : Int) : PW (w.setCell ⟨g, j, none⟩ (.int .i64 x)) g m (fun k => if k = j then x else A k) :=
  World.rowIs.congr (World.rowIs.set h j _) fun i _ => by
    show (if i = j then Value.int .i64 x else .int .i64 (A i)) = .int .i64 (if i = j then x else A i)
    by_cases e : i = j
    · rw [if_pos e, if_pos e]
    · rw [if_neg e, if_neg e]
theorem PW.congr {w : World} {g m : Nat} {A C : Nat → Int} (h : PW w g m A) (e : ∀ k, k < m → A k = C k) : PW w g m C := World.rowIs.congr h fun i hi => by rw [e i hi]
/-- The greatest so far. -/
def UA (pr : Nat → Int) (T : List (List Nat)) (j : Nat) (z : Int) (k : Nat) : Int := if k < j then um pr (T.getD k []) else if k = j then z else 0
theorem PW.up {w : World} {g m : Nat} {pr : Nat → Int} {T : List (List Nat)} {j : Nat} {z0 : Int} (h : PW w g m (UA pr T j z0)) (z : Int) : PW (w.setCell ⟨g, j, none⟩ (.int .i64 z)) g m (UA pr T j z) :=
  PW.congr (PW.set h j z) fun k _ => by
    unfold UA
    by_cases e : k = j
    · rw [if_pos e, if_neg (by omega), if_pos e]
    · rw [if_neg e, if_neg e, if_neg e]
theorem PW.next {w : World} {g m : Nat} {pr : Nat → Int} {T : List (List Nat)} {j : Nat} {l : List Nat} (h : PW w g m (UA pr T j (umT pr l l.length))) (hl : T.getD j [] = l) : PW w g m (UA pr T (j + 1) 0) :=
  PW.congr h fun k _ => by
    unfold UA
    by_cases e : k = j
    · subst e; rw [if_neg (by omega), if_pos rfl, if_pos (by omega), hl]; rfl
    · rw [if_neg e]
      by_cases e2 : k < j
      · rw [if_pos e2, if_pos (by omega)]
      · rw [if_neg e2, if_neg (by omega)]
        split <;> rfl
theorem PW.cell {w : World} {g m : Nat} {A : Nat → Int} (h : PW w g m A) {j : Nat} (hj : j < m) : w.cell? ⟨g, j, none⟩ = some (.int .i64 (A j)) := World.rowIs.cell h hj
theorem UA_at (pr : Nat → Int) (T : List (List Nat)) (j : Nat) (z : Int) : UA pr T j z j = z := by unfold UA; rw [if_neg (by omega), if_pos rfl]
set_option maxRecDepth 100000 in
set_option maxHeartbeats 4000000 in
theorem urgency_any (n : Nat) (v lv : Value) (pr : Nat → Int) (T : List (List Nat)) (w : World) (hv : NP w v n pr) (hT : LI w lv T) (hn : n ≤ 1000000) (hm : T.length ≤ 1000000) (hl : ∀ l ∈ T, 0 < l.length ∧ l.length ≤ 1000000 ∧ ∀ x ∈ l, x < n) :
    Calls Tryd.prog 30 #[v, lv] w fun e w' => ∃ g, e = .returned (.slice (some ⟨g, 0, none⟩) T.length T.length) ∧ w.heap.size ≤ g ∧ PW w' g T.length (fun k => um pr (T.getD k [])) ∧ Below w.heap.size w w' := by
  obtain ⟨a, cap, rfl, hr⟩ := hv
  obtain ⟨ta, tc, rfl, ht⟩ := hT
  have HR := hide hr
  have HT := hide ht
  have HN := hide (And.intro hn hm)
  have HL := hide hl
  have hmk := run_make_row' (P := Tryd.prog) 41 3 (.int .i64 0) 8 Tryd.underlying41 Tryd.infoIn rfl .i64 .i64 T.length (by omega) (by omega)
  obtain ⟨m, hm1⟩ : ∃ m, T.length = m := ⟨_, rfl⟩
  have HM := hide hm1
  have HE0 : Hid (PW (w.alloc (.cells (madeCells #[.int .i64 0] m) 3)) w.heap.size m (UA pr T 0 0)) := hide (World.rowIs.congr (World.rowIs_made w (.int .i64 0) m 3) fun i _ => by
    unfold UA
    rw [if_neg (by omega)]
    split <;> rfl)
  have HB0 := hide ((Below.refl w.heap.size w).alloc (Nat.le_refl _) (.cells (madeCells #[.int .i64 0] m) 3))
  rw [hm1] at hmk ⊢
  clear hr ht hn hm hl hm1
  go_enter Tryd.func30, Tryd.ntmps30
  go_wp2_with fail
  generalize (w.alloc (.cells (madeCells #[.int .i64 0] m) 3)) = w1 at *
  obtain ⟨g, hg⟩ : ∃ g, Hid (w.heap.size = g) := ⟨_, hide rfl⟩
  rw [hg.out] at HE0 HB0 ⊢
  clear hmk
  go_loopw [14] (fun i wr => ∃ j : Nat, j ≤ m ∧ i = .int .i64 (j : Int) ∧ Hid (PW wr g m (UA pr T j 0)) ∧ Hid (Below g w wr)) (fun i _ => m - (intOf i).toNat)
  case atStart => exact ⟨0, Nat.zero_le _, rfl, HE0, HB0⟩
  case round =>
    clear HE0 HB0
    obtain ⟨j, hj, rfl, HE0, HB0⟩ := hrel
    by_cases hlt : j < m
    · obtain ⟨l, hl⟩ : ∃ l, T[j]? = some l := ⟨_, List.getElem?_eq_getElem (by rw [HM.out]; exact hlt)⟩
      obtain ⟨l0, l1, l2⟩ := HL.out l (List.mem_of_getElem? hl)
      obtain ⟨tb, toff, rfl, htl, hc⟩ := HT.out.resolve_left (fun h => by rw [h] at hl; simp at hl)
      obtain ⟨la, lc, c0, hlr⟩ := hc j l hl
      obtain ⟨lb, lo, rfl, hlb, hlc⟩ := hlr.resolve_left (fun h => by rw [h] at l0; simp at l0)
      obtain ⟨x0, hx0⟩ : ∃ x, l[0]? = some x := ⟨_, List.getElem?_eq_getElem l0⟩
      have hxn := l2 x0 (List.mem_of_getElem? hx0)
      have hhd : l.headD 0 = x0 := by cases l with
        | nil => simp at l0
        | cons q t => simp at hx0; simpa using hx0
      obtain ⟨b, off, rfl, hgl, hcn⟩ := HR.out.resolve_left (by omega)
      have wk : wrap64 ((j : Int) + 1) = (j : Int) + 1 := by have := HN.out; have := HM.out; unfold wrap64; omega
      have HLB := hide (fun (W : World) (hb : Below g w W) => (hb.cell (p := ⟨tb, toff + j, none⟩) (by rw [← hg.out]; exact htl)).trans c0)
      have HLC := hide (fun (W : World) (hb : Below g w W) (i x : Nat) (h : l[i]? = some x) => (hb.cell (p := ⟨lb, lo + i, none⟩) (by rw [← hg.out]; exact hlb)).trans (hlc i x h))
      have HNC := hide (fun (W : World) (hb : Below g w W) (x : Nat) (h : x < n) => (hb.cell (p := ⟨b, off + x * 27 + 25, none⟩) (by rw [← hg.out]; exact hgl)).trans (hcn x h))
      have y0 := HLB.out _ HB0.out
      have y1 : wr.cell? ⟨lb, lo, none⟩ = some (.int .i64 (x0 : Int)) := HLC.out _ HB0.out 0 x0 hx0
      have i0 : (0 : Int) ≤ (x0 : Int) := by omega
      have i1 : (x0 : Int) < (n : Int) := by omega
      have y2 := HNC.out _ HB0.out x0 hxn
      have y3 := World.rowIs.cell HE0.out hlt
      have y4 := World.rowIs.frozen HE0.out j
      have k0 : (0 : Int) < (l.length : Int) := by omega
      have H2 := hide l2
      have H0 := hide (And.intro l0 l1)
      have HTJ : Hid (T.getD j [] = l) := hide (by rw [List.getD_eq_getElem?_getD, hl]; rfl)
      have HX0 := hide (And.intro hx0 hhd)
      obtain ⟨w2, hw2⟩ : ∃ V, wr.setCell ⟨g, j, none⟩ (.int .i64 (pr x0)) = V := ⟨_, rfl⟩
      have HE1 : Hid (PW w2 g m (UA pr T j (umT pr l 0))) := hide (by
        rw [← hw2, umT_zero, hhd]
        exact PW.up HE0.out (pr x0))
      have HB1 : Hid (Below g w w2) := hide (by rw [← hw2]; exact gb_below HB0.out (gb_set wr g _ _) (Nat.le_refl _) (Nat.le_of_lt (World.rowIs.lt HE0.out)))
      have y5 := HLB.out _ HB1.out
      clear hc hlr hlc hcn hx0 hhd htl hlb hgl c0 l0 l1 l2 hl HE0 HB0
      go_wp2_with fail
      clear y0 y1 y2 y3 y4 y5 hw2
      go_loopw [35] (fun i wq => ∃ k : Nat, k ≤ l.length ∧ i = .int .i64 (k : Int) ∧ Hid (PW wq g m (UA pr T j (umT pr l k))) ∧ Hid (Below g w wq)) (fun i _ => l.length - (intOf i).toNat)
      case atStart => exact ⟨0, Nat.zero_le _, rfl, HE1, HB1⟩
      case round =>
        clear HE1 HB1
        obtain ⟨k, hk, rfl, HE1, HB1⟩ := hrel
        by_cases hkl : k < l.length
        · obtain ⟨x, hx⟩ : ∃ x, l[k]? = some x := ⟨_, List.getElem?_eq_getElem hkl⟩
          have hxn2 := H2.out x (List.mem_of_getElem? hx)
          have z0 := HLC.out _ HB1.out k x hx
          have wk3 : wrap64 ((k : Int) + 1) = (k : Int) + 1 := by have := H0.out; unfold wrap64; omega
          have HS := hide (umT_succ (pr := pr) hx)
          have HK := hide (And.intro hkl hx)
          have e0 : (0 : Int) ≤ (x : Int) := by omega
          have e1 : (x : Int) < (n : Int) := by omega
          clear hx
          go_wp2_with fail
          obtain ⟨D, hD⟩ : ∃ D, wr.drew = D := ⟨_, rfl⟩
          obtain ⟨a0, ha0⟩ : ∃ a0, Hid (umT pr l k = a0) := ⟨_, hide rfl⟩
          obtain ⟨a1, ha1⟩ : ∃ a1, Hid (pr x = a1) := ⟨_, hide rfl⟩
          have HED : Hid (PW D g m (UA pr T j a0)) := hide (by rw [← hD, ← ha0.out]; exact World.rowIs.drew HE1.out)
          have HBD : Hid (Below g w D) := hide (by rw [← hD]; exact HB1.out.drew)
          have hHeld : Hid (D.cell? ⟨g, j, none⟩ = some (.int .i64 a0) ∧ D.cell? ⟨b, off + x * 27 + 25, none⟩ = some (.int .i64 a1)) := hide (by
            have h1 := HED.out.cell hlt
            rw [UA_at] at h1
            have h2 := HNC.out _ HBD.out x hxn2
            rw [ha1.out] at h2
            exact ⟨h1, h2⟩)
          have z2 := hHeld.out.1
          have z3 := World.rowIs.frozen HED.out j
          obtain ⟨a2, ha2⟩ : ∃ a2, Hid (max a0 a1 = a2) := ⟨_, hide rfl⟩
          obtain ⟨D2, hD2⟩ : ∃ V, D.setCell ⟨g, j, none⟩ (.int .i64 a2) = V := ⟨_, rfl⟩
          have HE2 : Hid (PW D2 g m (UA pr T j (umT pr l (k + 1)))) := hide (by rw [← hD2, HS.out, ha0.out, ha1.out, ha2.out]; exact PW.up HED.out a2)
          have HB2 : Hid (Below g w D2) := hide (by rw [← hD2]; exact gb_below HBD.out (gb_set D g _ _) (Nat.le_refl _) (Nat.le_of_lt (World.rowIs.lt HED.out)))
          clear HE1 HB1 z0 HED HBD HS
          by_cases hq : a0 < a1
          · obtain rfl : a1 = a2 := by rw [← ha2.out]; exact (Int.max_eq_right (Int.le_of_lt hq)).symm
            refine s_begins (S := fun W : World => W.cell? ⟨g, j, none⟩ = some (.int .i64 a0) ∧ W.cell? ⟨b, off + x * 27 + 25, none⟩ = some (.int .i64 a1)) [13] 14 #[false, false, false, false, false, false, false, false, false, false, false, false, false, false] (by kernel_rfl) (by kernel_rfl) (by kernel_rfl) ?_
            rw [hD]
            clear hD
            refine sk0 (v := ?_) 0 39 #[true, false, false, false, false, false, false, false, false, false, false, false, false, false] rfl rfl (by kernel_rfl) (by kernel_rfl) (by kernel_rfl) (by kernel_rfl) (fun _ _ _ h => h) (by kernel_rfl) (by rfl) ?hy (fun _ => hHeld.out) ?_
            case hy => intro W; first | (go_simp; done) | (go_simp; with_reducible rfl)
            simp only [List.setIfInBounds_toArray, List.set_cons_zero, List.set_cons_succ]
            refine sk0 (v := ?_) 1 40 #[true, true, false, false, false, false, false, false, false, false, false, false, false, false] rfl rfl (by kernel_rfl) (by kernel_rfl) (by kernel_rfl) (by kernel_rfl) (fun _ _ _ h => h) (by kernel_rfl) (by rfl) ?hy (fun _ => hHeld.out) ?_
            case hy => intro W; first | (go_simp; done) | (go_simp; with_reducible rfl)
            simp only [List.setIfInBounds_toArray, List.set_cons_zero, List.set_cons_succ]
            refine sk0 (v := ?_) 2 41 #[true, true, true, false, false, false, false, false, false, false, false, false, false, false] rfl rfl (by kernel_rfl) (by kernel_rfl) (by kernel_rfl) (by kernel_rfl) (fun _ _ _ h => h) (by kernel_rfl) (by rfl) ?hy (fun _ => hHeld.out) ?_
            case hy => intro W; first | (go_simp; done) | (go_simp; with_reducible rfl)
            simp only [List.setIfInBounds_toArray, List.set_cons_zero, List.set_cons_succ]
            refine sk0 (v := ?_) 3 42 #[true, true, true, true, false, false, false, false, false, false, false, false, false, false] rfl rfl (by kernel_rfl) (by kernel_rfl) (by kernel_rfl) (by kernel_rfl) (fun _ _ _ h => h) (by kernel_rfl) (by rfl) ?hy (fun _ => hHeld.out) ?_
            case hy => intro W; first | (go_simp; done) | (go_simp; with_reducible rfl)
            simp only [List.setIfInBounds_toArray, List.set_cons_zero, List.set_cons_succ]
            refine sk0 (v := ?_) 4 43 #[true, true, true, true, true, false, false, false, false, false, false, false, false, false] rfl rfl (by kernel_rfl) (by kernel_rfl) (by kernel_rfl) (by kernel_rfl) (fun _ _ _ h => h) (by kernel_rfl) (by rfl) ?hy (fun _ => hHeld.out) ?_
            case hy => intro W; first | (go_simp; done) | (go_simp; with_reducible rfl)
            simp only [List.setIfInBounds_toArray, List.set_cons_zero, List.set_cons_succ]
            refine sk1 (v := ?_) 5 44 #[true, true, true, true, true, true, false, false, false, false, false, false, false, false] rfl rfl (by kernel_rfl) (by kernel_rfl) (by kernel_rfl) (by kernel_rfl) (by kernel_rfl) (by kernel_rfl) (fun _ _ _ h => h) (by kernel_rfl) (by rfl) ?hy hHeld.out ?_
            case hy => rintro W ⟨s1, s2⟩; first | (go_simp; done) | (go_simp; with_reducible rfl)
            simp only [List.setIfInBounds_toArray, List.set_cons_zero, List.set_cons_succ]
            refine sk0 (v := ?_) 6 45 #[true, true, true, true, true, true, true, false, false, false, false, false, false, false] rfl rfl (by kernel_rfl) (by kernel_rfl) (by kernel_rfl) (by kernel_rfl) (fun _ _ _ h => h) (by kernel_rfl) (by rfl) ?hy (fun _ => hHeld.out) ?_
            case hy => intro W; first | (go_simp; done) | (go_simp; with_reducible rfl)
            simp only [List.setIfInBounds_toArray, List.set_cons_zero, List.set_cons_succ]
            refine sk0 (v := ?_) 7 46 #[true, true, true, true, true, true, true, true, false, false, false, false, false, false] rfl rfl (by kernel_rfl) (by kernel_rfl) (by kernel_rfl) (by kernel_rfl) (fun _ _ _ h => h) (by kernel_rfl) (by rfl) ?hy (fun _ => hHeld.out) ?_
            case hy => intro W; first | (go_simp; done) | (go_simp; with_reducible rfl)
            simp only [List.setIfInBounds_toArray, List.set_cons_zero, List.set_cons_succ]
            refine sk0 (v := ?_) 8 47 #[true, true, true, true, true, true, true, true, true, false, false, false, false, false] rfl rfl (by kernel_rfl) (by kernel_rfl) (by kernel_rfl) (by kernel_rfl) (fun _ _ _ h => h) (by kernel_rfl) (by rfl) ?hy (fun _ => hHeld.out) ?_
            case hy => intro W; first | (go_simp; done) | (go_simp; with_reducible rfl)
            simp only [List.setIfInBounds_toArray, List.set_cons_zero, List.set_cons_succ]
            refine sk0 (v := ?_) 9 48 #[true, true, true, true, true, true, true, true, true, true, false, false, false, false] rfl rfl (by kernel_rfl) (by kernel_rfl) (by kernel_rfl) (by kernel_rfl) (fun _ _ _ h => h) (by kernel_rfl) (by rfl) ?hy (fun _ => hHeld.out) ?_
            case hy => intro W; first | (go_simp; done) | (go_simp; with_reducible rfl)
            simp only [List.setIfInBounds_toArray, List.set_cons_zero, List.set_cons_succ]
            refine sk1 (v := ?_) 10 49 #[true, true, true, true, true, true, true, true, true, true, true, false, false, false] rfl rfl (by kernel_rfl) (by kernel_rfl) (by kernel_rfl) (by kernel_rfl) (by kernel_rfl) (by kernel_rfl) (fun _ _ _ h => h) (by kernel_rfl) (by rfl) ?hy hHeld.out ?_
            case hy => rintro W ⟨s1, s2⟩; first | (go_simp; done) | (go_simp; with_reducible rfl)
            simp only [List.setIfInBounds_toArray, List.set_cons_zero, List.set_cons_succ]
            refine sk0 (v := ?_) 11 50 #[true, true, true, true, true, true, true, true, true, true, true, true, false, false] rfl rfl (by kernel_rfl) (by kernel_rfl) (by kernel_rfl) (by kernel_rfl) (fun _ _ _ h => h) (by kernel_rfl) (by rfl) ?hy (fun _ => hHeld.out) ?_
            case hy => intro W; first | (go_simp; done) | (go_simp; with_reducible rfl)
            simp only [List.setIfInBounds_toArray, List.set_cons_zero, List.set_cons_succ]
            refine sk0 (v := ?_) 12 51 #[true, true, true, true, true, true, true, true, true, true, true, true, true, false] rfl rfl (by kernel_rfl) (by kernel_rfl) (by kernel_rfl) (by kernel_rfl) (fun _ _ _ h => h) (by kernel_rfl) (by rfl) ?hy (fun _ => hHeld.out) ?_
            case hy => intro W; first | (go_simp; done) | (go_simp; with_reducible rfl)
            simp only [List.setIfInBounds_toArray, List.set_cons_zero, List.set_cons_succ]
            refine s_ready 13 #[true, true, true, true, true, true, true, true, true, true, true, true, true, true] rfl (by kernel_rfl) (by kernel_rfl) (by rfl) (fun K hK => ?_)
            go_simp
            refine hK.out _ _ (fun h => absurd h (by decide)) ?_
            clear hK K
            refine s_done (by kernel_rfl) ?_ _
            go_wp2_with fail
            go_roundw
            case rel => exact ⟨k + 1, hkl, by go_num, HE2, HB2⟩
            case measure => first | (rw [wk3]; simp [intOf]; omega) | (simp [intOf]; omega)
          · obtain rfl : a0 = a2 := by rw [← ha2.out]; exact (Int.max_eq_left (Int.not_lt.1 hq)).symm
            refine s_begins (S := fun W : World => W.cell? ⟨g, j, none⟩ = some (.int .i64 a0) ∧ W.cell? ⟨b, off + x * 27 + 25, none⟩ = some (.int .i64 a1)) [13] 14 #[false, false, false, false, false, false, false, false, false, false, false, false, false, false] (by kernel_rfl) (by kernel_rfl) (by kernel_rfl) ?_
            rw [hD]
            clear hD
            refine sk0 (v := ?_) 0 39 #[true, false, false, false, false, false, false, false, false, false, false, false, false, false] rfl rfl (by kernel_rfl) (by kernel_rfl) (by kernel_rfl) (by kernel_rfl) (fun _ _ _ h => h) (by kernel_rfl) (by rfl) ?hy (fun _ => hHeld.out) ?_
            case hy => intro W; first | (go_simp; done) | (go_simp; with_reducible rfl)
            simp only [List.setIfInBounds_toArray, List.set_cons_zero, List.set_cons_succ]
            refine sk0 (v := ?_) 1 40 #[true, true, false, false, false, false, false, false, false, false, false, false, false, false] rfl rfl (by kernel_rfl) (by kernel_rfl) (by kernel_rfl) (by kernel_rfl) (fun _ _ _ h => h) (by kernel_rfl) (by rfl) ?hy (fun _ => hHeld.out) ?_
            case hy => intro W; first | (go_simp; done) | (go_simp; with_reducible rfl)
            simp only [List.setIfInBounds_toArray, List.set_cons_zero, List.set_cons_succ]
            refine sk0 (v := ?_) 2 41 #[true, true, true, false, false, false, false, false, false, false, false, false, false, false] rfl rfl (by kernel_rfl) (by kernel_rfl) (by kernel_rfl) (by kernel_rfl) (fun _ _ _ h => h) (by kernel_rfl) (by rfl) ?hy (fun _ => hHeld.out) ?_
            case hy => intro W; first | (go_simp; done) | (go_simp; with_reducible rfl)
            simp only [List.setIfInBounds_toArray, List.set_cons_zero, List.set_cons_succ]
            refine sk0 (v := ?_) 3 42 #[true, true, true, true, false, false, false, false, false, false, false, false, false, false] rfl rfl (by kernel_rfl) (by kernel_rfl) (by kernel_rfl) (by kernel_rfl) (fun _ _ _ h => h) (by kernel_rfl) (by rfl) ?hy (fun _ => hHeld.out) ?_
            case hy => intro W; first | (go_simp; done) | (go_simp; with_reducible rfl)
            simp only [List.setIfInBounds_toArray, List.set_cons_zero, List.set_cons_succ]
            refine sk0 (v := ?_) 4 43 #[true, true, true, true, true, false, false, false, false, false, false, false, false, false] rfl rfl (by kernel_rfl) (by kernel_rfl) (by kernel_rfl) (by kernel_rfl) (fun _ _ _ h => h) (by kernel_rfl) (by rfl) ?hy (fun _ => hHeld.out) ?_
            case hy => intro W; first | (go_simp; done) | (go_simp; with_reducible rfl)
            simp only [List.setIfInBounds_toArray, List.set_cons_zero, List.set_cons_succ]
            refine sk1 (v := ?_) 5 44 #[true, true, true, true, true, true, false, false, false, false, false, false, false, false] rfl rfl (by kernel_rfl) (by kernel_rfl) (by kernel_rfl) (by kernel_rfl) (by kernel_rfl) (by kernel_rfl) (fun _ _ _ h => h) (by kernel_rfl) (by rfl) ?hy hHeld.out ?_
            case hy => rintro W ⟨s1, s2⟩; first | (go_simp; done) | (go_simp; with_reducible rfl)
            simp only [List.setIfInBounds_toArray, List.set_cons_zero, List.set_cons_succ]
            refine sk0 (v := ?_) 6 45 #[true, true, true, true, true, true, true, false, false, false, false, false, false, false] rfl rfl (by kernel_rfl) (by kernel_rfl) (by kernel_rfl) (by kernel_rfl) (fun _ _ _ h => h) (by kernel_rfl) (by rfl) ?hy (fun _ => hHeld.out) ?_
            case hy => intro W; first | (go_simp; done) | (go_simp; with_reducible rfl)
            simp only [List.setIfInBounds_toArray, List.set_cons_zero, List.set_cons_succ]
            refine sk0 (v := ?_) 7 46 #[true, true, true, true, true, true, true, true, false, false, false, false, false, false] rfl rfl (by kernel_rfl) (by kernel_rfl) (by kernel_rfl) (by kernel_rfl) (fun _ _ _ h => h) (by kernel_rfl) (by rfl) ?hy (fun _ => hHeld.out) ?_
            case hy => intro W; first | (go_simp; done) | (go_simp; with_reducible rfl)
            simp only [List.setIfInBounds_toArray, List.set_cons_zero, List.set_cons_succ]
            refine sk0 (v := ?_) 8 47 #[true, true, true, true, true, true, true, true, true, false, false, false, false, false] rfl rfl (by kernel_rfl) (by kernel_rfl) (by kernel_rfl) (by kernel_rfl) (fun _ _ _ h => h) (by kernel_rfl) (by rfl) ?hy (fun _ => hHeld.out) ?_
            case hy => intro W; first | (go_simp; done) | (go_simp; with_reducible rfl)
            simp only [List.setIfInBounds_toArray, List.set_cons_zero, List.set_cons_succ]
            refine sk0 (v := ?_) 9 48 #[true, true, true, true, true, true, true, true, true, true, false, false, false, false] rfl rfl (by kernel_rfl) (by kernel_rfl) (by kernel_rfl) (by kernel_rfl) (fun _ _ _ h => h) (by kernel_rfl) (by rfl) ?hy (fun _ => hHeld.out) ?_
            case hy => intro W; first | (go_simp; done) | (go_simp; with_reducible rfl)
            simp only [List.setIfInBounds_toArray, List.set_cons_zero, List.set_cons_succ]
            refine sk1 (v := ?_) 10 49 #[true, true, true, true, true, true, true, true, true, true, true, false, false, false] rfl rfl (by kernel_rfl) (by kernel_rfl) (by kernel_rfl) (by kernel_rfl) (by kernel_rfl) (by kernel_rfl) (fun _ _ _ h => h) (by kernel_rfl) (by rfl) ?hy hHeld.out ?_
            case hy => rintro W ⟨s1, s2⟩; first | (go_simp; done) | (go_simp; with_reducible rfl)
            simp only [List.setIfInBounds_toArray, List.set_cons_zero, List.set_cons_succ]
            refine sk0 (v := ?_) 11 50 #[true, true, true, true, true, true, true, true, true, true, true, true, false, false] rfl rfl (by kernel_rfl) (by kernel_rfl) (by kernel_rfl) (by kernel_rfl) (fun _ _ _ h => h) (by kernel_rfl) (by rfl) ?hy (fun _ => hHeld.out) ?_
            case hy => intro W; first | (go_simp; done) | (go_simp; with_reducible rfl)
            simp only [List.setIfInBounds_toArray, List.set_cons_zero, List.set_cons_succ]
            refine sk0 (v := ?_) 12 51 #[true, true, true, true, true, true, true, true, true, true, true, true, true, false] rfl rfl (by kernel_rfl) (by kernel_rfl) (by kernel_rfl) (by kernel_rfl) (fun _ _ _ h => h) (by kernel_rfl) (by rfl) ?hy (fun _ => hHeld.out) ?_
            case hy => intro W; first | (go_simp; done) | (go_simp; with_reducible rfl)
            simp only [List.setIfInBounds_toArray, List.set_cons_zero, List.set_cons_succ]
            refine s_ready 13 #[true, true, true, true, true, true, true, true, true, true, true, true, true, true] rfl (by kernel_rfl) (by kernel_rfl) (by rfl) (fun K hK => ?_)
            go_simp
            refine hK.out _ _ (fun h => absurd h (by decide)) ?_
            clear hK K
            refine s_done (by kernel_rfl) ?_ _
            go_wp2_with fail
            go_roundw
            case rel => exact ⟨k + 1, hkl, by go_num, HE2, HB2⟩
            case measure => first | (rw [wk3]; simp [intOf]; omega) | (simp [intOf]; omega)
        · obtain rfl : k = l.length := by omega
          have HE2 := hide (HE1.out.next HTJ.out)
          go_wp2_with fail
          go_roundw
          case rel => exact ⟨j + 1, hlt, by go_num, HE2, HB1⟩
          case measure => first | (rw [wk]; simp [intOf]; omega) | (simp [intOf]; omega)
    · obtain rfl : j = m := by omega
      have HO : Hid (PW wr g j (fun k => um pr (T.getD k []))) := hide (PW.congr HE0.out fun k hk => by unfold UA; rw [if_pos hk])
      rw [← hg.out] at HO HB0 ⊢
      go_wp2_with fail
      go_ret
      exact ⟨_, rfl, Nat.le_refl _, HO.out, HB0.out⟩
end Go.Proofs.YtcdhblfefpkjgaaDoor
namespace Go.Proofs.YtcdhblfefpkjgaaDoor
open Go.RowKit

/-- The numbers of all things' groups. -/
def nuL (hd : Nat → Nat) (n : Nat) : List Nat := (List.range n).map (nuT hd n)
theorem nuL_len (hd : Nat → Nat) (n : Nat) : (nuL hd n).length = n := by simp [nuL]
theorem nuL_at {hd : Nat → Nat} {n x : Nat} (h : x < n) : (nuL hd n).getD x 0 = nuT hd n x := by
  rw [List.getD_eq_getElem?_getD]
  unfold nuL
  rw [List.getElem?_map, List.getElem?_range h]; rfl
/-- Edges between groups are edges between numbers. -/
theorem pn_btw {hd : Nat → Nat} {n : Nat} {L : List (Int × Int)} (hall : ∀ (j : Nat) (p : Int × Int), L[j]? = some p → namB (n : Int) p = true) :
    pn (btw (nuL hd n) L) = (pn L).map fun p => (nuT hd n p.1, nuT hd n p.2) := by
  unfold pn btw
  rw [List.map_map, List.map_map]
  refine List.map_congr_left fun p hp => ?_
  obtain ⟨j, hj⟩ := List.getElem?_of_mem hp
  have h := namB_iff.1 (hall j p hj)
  simp only [Function.comp, Int.toNat_natCast]
  rw [nuL_at (by omega), nuL_at (by omega)]
theorem nam_btw {hd : Nat → Nat} {n : Nat} (h : HdOk hd n) {L : List (Int × Int)} (hall : ∀ (j : Nat) (p : Int × Int), L[j]? = some p → namB (n : Int) p = true) :
    ∀ (j : Nat) (p : Int × Int), (btw (nuL hd n) L)[j]? = some p → namB (((hsT hd n).length : Nat) : Int) p = true := by
  intro j p hp
  unfold btw at hp
  rw [List.getElem?_map] at hp
  obtain ⟨q, hq, rfl⟩ := Option.map_eq_some_iff.1 hp
  have h1 := namB_iff.1 (hall j q hq)
  have e1 := nu_lt h (x := q.1.toNat) (by omega)
  have e2 := nu_lt h (x := q.2.toNat) (by omega)
  rw [nuL_at (by omega), nuL_at (by omega), namB_iff]
  exact ⟨⟨Int.natCast_nonneg _, Int.natCast_nonneg _⟩, Int.ofNat_lt.2 e1, Int.ofNat_lt.2 e2⟩
/-- The priorities as the order takes them. -/
theorem PW.pb {w : World} {g m : Nat} {A : Nat → Int} (h : PW w g m A) : PB w (.slice (some ⟨g, 0, none⟩) m m) m A :=
  ⟨_, _, rfl, Nat.le_refl _, fun x hx => ⟨g, 0, rfl, World.rowIs.lt h, by rw [Nat.zero_add]; exact h.cell hx⟩⟩
theorem um_up (pr : Nat → Int) (l : List Nat) : um pr l = upT pr l (pr (l.headD 0)) := by
  unfold um umT upT
  rw [List.take_length, List.foldl_map]
theorem up_ge (pr : Nat → Int) : ∀ (l : List Nat) (z : Int), z ≤ upT pr l z ∧ ∀ x ∈ l, pr x ≤ upT pr l z
  | [], z => ⟨Int.le_refl _, fun _ h => by cases h⟩
  | y :: t, z => by
    have ih := up_ge pr t (max z (pr y))
    have e : upT pr (y :: t) z = upT pr t (max z (pr y)) := rfl
    rw [e]
    refine ⟨Int.le_trans (Int.le_max_left _ _) ih.1, fun x hx => ?_⟩
    rcases List.mem_cons.1 hx with rfl | hx
    · exact Int.le_trans (Int.le_max_right _ _) ih.1
    · exact ih.2 x hx
theorem up_is (pr : Nat → Int) : ∀ (l : List Nat) (z : Int), upT pr l z = z ∨ ∃ x ∈ l, upT pr l z = pr x
  | [], _ => .inl rfl
  | y :: t, z => by
    have e : upT pr (y :: t) z = upT pr t (max z (pr y)) := rfl
    rw [e]
    rcases up_is pr t (max z (pr y)) with h | ⟨x, hx, h⟩
    · rw [h]
      rcases Int.le_total z (pr y) with q | q
      · exact .inr ⟨y, List.mem_cons_self, Int.max_eq_right q⟩
      · exact .inl (Int.max_eq_left q)
    · exact .inr ⟨x, List.mem_cons_of_mem _ hx, h⟩
theorem um_ge {pr : Nat → Int} {l : List Nat} {x : Nat} (hx : x ∈ l) : pr x ≤ um pr l := by rw [um_up]; exact (up_ge pr l _).2 x hx
theorem um_is {pr : Nat → Int} {l : List Nat} (hl : l ≠ []) : ∃ x ∈ l, um pr l = pr x := by
  rw [um_up]
  rcases up_is pr l (pr (l.headD 0)) with h | h
  · cases l with
    | nil => exact absurd rfl hl
    | cons y t => exact ⟨y, List.mem_cons_self, h⟩
  · exact h
/-- A greatest is one number. -/
theorem um_one {pr : Nat → Int} {l k : List Nat} (hl : l ≠ []) (h : ∀ x, x ∈ l ↔ x ∈ k) : um pr l = um pr k := by
  have hk : k ≠ [] := by
    intro e
    obtain ⟨x, hx⟩ := List.exists_mem_of_ne_nil l hl
    rw [h, e] at hx
    cases hx
  obtain ⟨x, hx, ex⟩ := um_is (pr := pr) hl
  obtain ⟨y, hy, ey⟩ := um_is (pr := pr) hk
  have h1 := um_ge (pr := pr) ((h x).1 hx)
  have h2 := um_ge (pr := pr) ((h y).2 hy)
  omega
/-- The heads below k come first among the heads. -/
theorem hsT_pre (hd : Nat → Nat) {k n : Nat} (h : k ≤ n) : ∃ t, hsT hd n = hsT hd k ++ t := by
  obtain ⟨d, rfl⟩ := Nat.le.dest h
  induction d with
  | zero => exact ⟨[], (List.append_nil _).symm⟩
  | succ d ih =>
    obtain ⟨t, ht⟩ := ih (by omega)
    rw [← Nat.add_assoc, hsT_succ]
    by_cases e : hd (k + d) = k + d
    · rw [if_pos e, ht]; exact ⟨t ++ [k + d], List.append_assoc _ _ _⟩
    · rw [if_neg e]; exact ⟨t, ht⟩
/-- A number that is told stays. -/
theorem nu_grow {hd : Nat → Nat} {k n x : Nat} (h : HdOk hd n) (hk : k ≤ n) (hx : x < k) : nuT hd k x = nuT hd n x := by
  obtain ⟨t, ht⟩ := hsT_pre hd hk
  have hm : hd x ∈ hsT hd k := mem_hsT.2 ⟨Nat.lt_of_le_of_lt (h.le x (by omega)) hx, h.hh x (by omega)⟩
  unfold nuT iT
  rw [ht, List.idxOf_append, if_pos hm]
/-- A head's number is how many heads came before it. -/
theorem nu_head {hd : Nat → Nat} {n x : Nat} (hx : x < n) (he : hd x = x) : nuT hd n x = (hsT hd x).length := by
  obtain ⟨t, ht⟩ := hsT_pre hd (show x + 1 ≤ n by omega)
  unfold nuT iT
  rw [ht, hsT_succ, if_pos he, he, List.append_assoc]
  have hn : x ∉ hsT hd x := fun q => absurd (hsT_lt x q) (Nat.lt_irrefl x)
  rw [List.idxOf_append, if_neg hn]
  simp
/-- A thing's number is its head's. -/
theorem nu_lead {hd : Nat → Nat} {n x : Nat} (h : HdOk hd n) (hx : x < n) : nuT hd n (hd x) = nuT hd n x := by
  unfold nuT
  rw [h.hh x hx]
end Go.Proofs.YtcdhblfefpkjgaaDoor
