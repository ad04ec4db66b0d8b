/-
  My own text: layer 23: (web).order, its walk.
-/
import Derived.Test.YtfhimhjeilnkaaaDoorLO2
namespace Go.Proofs.YtfhimhjeilnkaaaDoor
open Go.RowKit

theorem gb_over {w4 W W' : World} {P : Nat} {r : Option Nat} (h : w4.grownBy W (some P)) (k : W.grownBy W' r) (hr : ∀ g, r = some g → w4.heap.size ≤ g) : w4.grownBy W' (some P) :=
  ⟨k.os.trans h.os, k.tape.trans h.tape, k.output.trans h.output, Nat.le_trans h.size k.size, fun b hb hn => (k.block b (Nat.lt_of_lt_of_le hb h.size) (fun e => by have := hr b e.symm; omega)).trans (h.block b hb hn)⟩
theorem gb_alloc {w4 W : World} {P : Nat} (h : w4.grownBy W (some P)) (o : Obj) : w4.grownBy (W.alloc o) (some P) := gb_over h (grown_alloc W o) (fun g q => by cases q)
def lenV : Value → Nat
  | .slice _ l _ => l
  | _ => 0
theorem meas_row {n a b q : Nat} (hb : b = a + 1) (hbn : b ≤ n) (q2 : Nat) (hq : q ≤ n) : (n - b) * (n + 1) + (n - q2) < (n - a) * (n + 1) + (n - q) := by
  subst hb
  obtain ⟨m, hm⟩ : ∃ m, n - a = m + 1 := ⟨n - a - 1, by omega⟩
  have h2 : n - (a + 1) = m := by omega
  rw [hm, h2, Nat.add_mul]
  omega
theorem iv_succ {j : Nat} (h : wrap64 ((j : Int) + 1) = (j : Int) + 1) : Value.int .i64 (wrap64 ((j : Int) + 1)) = Value.int .i64 (((j + 1 : Nat)) : Int) := by rw [h]; rfl
theorem meas_j {m j : Nat} (h : wrap64 ((j : Int) + 1) = (j : Int) + 1) (hl : j < m) : m - (intOf (Value.int .i64 (wrap64 ((j : Int) + 1)))).toNat < m - (intOf (Value.int .i64 (j : Int))).toNat := by
  rw [h]
  simp [intOf]
  omega
set_option maxRecDepth 100000 in
set_option maxHeartbeats 8000000 in
theorem order_any (B0 : Nat) (w0 : World) (n : Nat) (v : Value) (pr : Nat → Int) (G : Bool → Nat) (V : Bool → Nat → Value) (E : List (Nat × Nat)) (w : World) (hW : WV B0 w0 w G n V (XX E)) (hB0 : B0 ≤ w.heap.size) (hv : PB w v n pr) (hn : n ≤ 4096) (hE : E.length ≤ 8796093022200) (hlt : ∀ p ∈ E, p.1 < n ∧ p.2 < n) (hso : SortOk n) :
    Calls Tryd.prog 24 #[.agg #[.slice (some ⟨G false, 0, none⟩) n n, .slice (some ⟨G true, 0, none⟩) n n], v] w fun e w' => ∃ (row : List Nat) (vr : Value), e = .returned (.tuple #[vr, .bool (decide (row.length = n))]) ∧ IN.OM w' w.heap.size vr (ni row) ∧ Gr' n E pr row ∧ (∀ y, ¬ Av n E row y) ∧ Below w.heap.size w w' := by
  have HN := hide hn
  have HE := hide hE
  have HLT := hide hlt
  obtain ⟨w1, hw1⟩ : ∃ x, w.alloc (.cells #[.slice (some ⟨G false, 0, none⟩) n n, .slice (some ⟨G true, 0, none⟩) n n] 59) = x := ⟨_, rfl⟩
  have hb1 : Below w.heap.size w w1 := by rw [← hw1]; exact (Below.refl _ _).alloc (Nat.le_refl _) _
  have HBX : Hid (w1.heap[w.heap.size]? = some (.cells #[.slice (some ⟨G false, 0, none⟩) n n, .slice (some ⟨G true, 0, none⟩) n n] 59 (0, 0))) := hide (by rw [← hw1]; exact alloc_new w _)
  have hs1 : w1.heap.size = w.heap.size + 1 := by rw [← hw1]; simp
  have HS1 := hide hs1
  have HW1 := hide (hW.later hb1 hB0)
  have HB1 := hide hb1
  have HLO : Hid (∀ s, G s < w.heap.size) := hide hW.lt
  have HRO : Hid (∀ s x, x < n → ∀ g, (V s x).ownBlock = some g → g < w.heap.size) := hide (fun s x hx g hg => by
    obtain ⟨c, f, hk⟩ := IN.OM.kind (hW.own s x hx) g hg
    exact (Array.getElem?_eq_some_iff.1 hk).1)
  have HR := hide (ranked_any n v pr w1 (hv.later hb1) hn hso)
  have hmk := run_make_row' (P := Tryd.prog) 35 3 (.int .i64 0) 8 Tryd.underlying35 Tryd.infoIn rfl .i64 .i64 n (by omega) (by omega)
  have hB0 := hide hB0
  obtain ⟨a, c, rfl, hnc, _⟩ := hv.is
  clear hn hE hlt hso hW hb1 hs1 hv
  go_enter Tryd.func24, Tryd.ntmps24
  go_wp2_with fail
  refine HR.out.mono ?_
  rintro e w2 ⟨U, K, L, M, rfl, h1, h2, h3, h4, h5, h6, h7, h8, h9, h10⟩
  have HU := hide h1
  have HK := hide h2
  have HSI := hide h3
  have HSR := hide h4
  have HML := hide h5
  have HRK := hide h6
  have HUK := hide (And.intro h7 (And.intro h8 h9))
  have HB2 := hide (HB1.out.trans (h10.mono HB1.out.size))
  have HW2 := hide (HW1.out.later h10 (by have := HB1.out.size; have := hB0.out; omega))
  have HBX2 := hide (blk_later HBX.out h10)
  clear h1 h2 h3 h4 h5 h6 h7 h8 h9 h10 HR hw1 HBX HW1
  go_wp2_with fail
  have HZ := hide (IZ.made w2 n)
  have hb3 : Below w2.heap.size w2 (w2.alloc (.cells (madeCells #[.int .i64 0] n) 3)) := (Below.refl _ _).alloc (Nat.le_refl _) _
  obtain ⟨P, hP⟩ : ∃ P, w2.heap.size = P := ⟨_, rfl⟩
  have HPs := hide hP
  rw [hP] at HZ
  have HW3 := hide (HW2.out.later hb3 (by have := HB2.out.size; have := hB0.out; omega))
  have HBX3 := hide (blk_later HBX2.out hb3)
  have HU3 := hide (HU.out.later hb3)
  have HK3 := hide (HK.out.later hb3)
  have HB3 := hide (HB2.out.trans (hb3.mono HB2.out.size))
  have HUP : Hid (U ≠ P ∧ K ≠ P ∧ w.heap.size < P) := hide (by have := HU.out.lt; have := HK.out.lt; have := HB2.out.size; have := (Array.getElem?_eq_some_iff.1 HBX2.out).1; omega)
  clear hb3 HU HK HBX2 HW2
  rw [hP]
  generalize (w2.alloc (.cells (madeCells #[.int .i64 0] n) 3)) = w3 at *
  clear hP hmk
  have HOX : Hid (∀ W, w3.grownBy W (some P) → OX w3 P n w.heap.size U K G V E L M W) := hide (fun W h => ox_of HW3.out (fun s => by have := HLO.out s; have := HUP.out; omega) (fun s x hx g hg => by have := HRO.out s x hx g hg; have := HUP.out; omega) HBX3.out (by have := HUP.out; omega) HU3.out HUP.out.1 HK3.out HUP.out.2.1 h)
  go_loopw [26] (fun i wr => ∃ (k : Nat) (A : List Int), k ≤ n ∧ i = .int .i64 (k : Int) ∧ Hid (A.length = n ∧ ∀ j, j < k → A[j]? = some (aF E [] j)) ∧ Hid (IZ wr P A) ∧ Hid (w3.grownBy wr (some P))) (fun i _ => n - (intOf i).toNat)
  case atStart => exact ⟨0, _, Nat.zero_le _, rfl, hide ⟨List.length_replicate, fun j hj => by omega⟩, HZ, hide (gb_refl _ _)⟩
  case round =>
    clear HZ
    obtain ⟨k, A, hk, rfl, HA, HZ, HG⟩ := hrel
    by_cases hltk : k < n
    · have hd1 : decide ((k : Int) < (n : Int)) = true := by rw [decide_eq_true_eq]; omega
      have hd1' : decide (k < n) = true := decide_eq_true hltk
      have k0 : (0 : Int) ≤ (k : Int) := by omega
      have k1 : (k : Int) < (n : Int) := by omega
      have wk : wrap64 ((k : Int) + 1) = (k : Int) + 1 := by have := HN.out; unfold wrap64; omega
      have ox := HOX.out wr HG.out
      have b1 := ox.b1
      have g1 := ox.g true k hltk
      obtain ⟨ra, rc, hv1⟩ := HW3.out.sl true hltk
      rw [hv1] at g1
      obtain ⟨m, hm⟩ : ∃ m, Hid ((XX E true k).length = m) := ⟨_, hide rfl⟩
      rw [hm.out] at g1
      have HM : Hid ((m : Int) = aF E [] k) := hide (by rw [aF_nil, ← hm.out]; unfold XX bk; simp)
      have f0 := HZ.out.frozen k
      have hkm : k < A.length := by have := HA.out.1; omega
      have c0 := HZ.out.cell (List.getElem?_eq_getElem hkm)
      obtain ⟨q, hq⟩ : ∃ q : Int, A[k] = q := ⟨_, rfl⟩
      rw [hq] at c0
      obtain ⟨w5, hw5⟩ : ∃ x, wr.setCell ⟨P, k, none⟩ (.int .i64 (m : Int)) = x := ⟨_, rfl⟩
      have HZ2 : Hid (IZ w5 P (A.set k (m : Int))) := hide (by rw [← hw5]; exact HZ.out.set k _)
      have HG2 : Hid (w3.grownBy w5 (some P)) := hide (by rw [← hw5]; exact gb_trans HG.out (gb_set wr P k _))
      clear hkm hq ox hv1
      go_wp2_with fail
      go_roundw
      case rel =>
        refine ⟨k + 1, A.set k (m : Int), by omega, by go_num, hide ⟨by rw [List.length_set]; exact HA.out.1, fun j hj => ?_⟩, HZ2, HG2⟩
        by_cases e : k = j
        · subst e; rw [List.getElem?_set_self (by have := HA.out.1; omega), HM.out]
        · rw [List.getElem?_set_ne e]; exact HA.out.2 j (by omega)
      case measure => first | (rw [wk]; simp [intOf]; omega) | (simp [intOf]; omega)
    · have e : k = n := by omega
      subst e
      have hd1 : decide ((k : Int) < (k : Int)) = false := by simp
      have hd1' : decide (k < k) = false := by simp
      have HAW : Hid (AW k A (aF E [])) := hide ⟨HA.out.1, HA.out.2⟩
      clear HA
      generalize hw4 : wr = w4 at *
      clear hw4
      go_wp2_with fail
      have HOX4 : Hid (∀ W, w4.grownBy W (some P) → OX w3 P k w.heap.size U K G V E L M W) := hide (fun W h => HOX.out W (gb_trans HG.out h))
      have HPL : Hid (P < w4.heap.size) := hide HZ.out.lt
      have HB4 : Hid (Below w.heap.size w w4) := hide (gb_below HB3.out HG.out (by have := HUP.out; omega) HB3.out.size)
      have HPw : Hid (w.heap.size ≤ P) := hide (by have := HUP.out; omega)
      obtain ⟨i0, hi, hz0, hz1, hz2⟩ := info_parts Tryd.infoIn
      have HWS : Hid (∀ s x, x < k → ∃ a c, V s x = .slice a (XX E s x).length c) := hide (fun s x hx => HW3.out.sl s hx)
      clear HOX HG HU3 HK3 HW3 HBX3 HB3 HUP HRO HLO
      go_loopw [11, 12] (fun vr ai wr => ∃ (q : Nat) (row : List Nat) (A : List Int) (ao : Option Addr) (co : Nat), ai = .int .i64 (q : Int) ∧ vr = .slice ao row.length co ∧ Hid (q ≤ k) ∧ Hid (IN.OM wr w4.heap.size (.slice ao row.length co) (ni row)) ∧ Hid (IZ wr P A) ∧ Hid (AW k A (aF E row)) ∧ Hid (AtOk L (aF E row) q) ∧ Hid (Gr' k E pr row) ∧ Hid (w4.grownBy wr (some P))) (fun vr ai _ => (k - lenV vr) * (k + 1) + (k - (intOf ai).toNat))
      case atStart => exact ⟨0, [], A, none, 0, rfl, rfl, hide (Nat.zero_le _), hide (IN.OM.nil _ _), HZ, HAW, hide (fun j x hj => by omega), hide Gr'.nil, hide (gb_refl _ _)⟩
      case round =>
        clear HZ HAW
        obtain ⟨q, row, A, ao, co, rfl, rfl, HQ, HR, HZ, HAW, HAT, HGR, HG⟩ := hrel
        by_cases hlq : q < k
        · have hd1 : decide ((q : Int) < (k : Int)) = true := by rw [decide_eq_true_eq]; omega
          have hd1' : decide (q < k) = true := decide_eq_true hlq
          have k0 : (0 : Int) ≤ (q : Int) := by omega
          have k1 : (q : Int) < (k : Int) := by omega
          have wk : wrap64 ((q : Int) + 1) = ((q + 1 : Nat) : Int) := by have := HN.out; unfold wrap64; omega
          have wk2 : IntKind.i64.wrap ((q : Int) + 1) = ((q + 1 : Nat) : Int) := by have := HN.out; rw [IntKind.wrap_i64]; omega
          obtain ⟨q1, hq1⟩ : ∃ q1, Hid (q + 1 = q1) := ⟨_, hide rfl⟩
          rw [hq1.out] at wk wk2
          obtain ⟨x, hx⟩ : ∃ x, L[q]? = some x := ⟨_, List.getElem?_eq_getElem (by rw [HSI.out.len]; exact hlq)⟩
          have hxk := HSI.out.lt _ _ hx
          have ox := HOX4.out wr HG.out
          have u1 := ox.u q x hx
          have c1 := HZ.out.cell (HAW.out.at_ x hxk)
          have x0 : (0 : Int) ≤ (x : Int) := by omega
          have x1 : (x : Int) < (k : Int) := by omega
          have HX := hide hx
          have HRL : Hid (row.length ≤ k) := hide (by have h := HGR.out.low; exact pigeon k row h.1 h.2)
          by_cases h0 : aF E row x = 0
          · have HNX := hide (HAT.out.nxt HSI.out HSR.out hx h0)
            have HAT0 := hide (HAT.out.stand hx)
            rw [h0] at c1
            have hne : ((0 : Int) != 0) = false := by decide
            have f0 := HZ.out.frozen x
            obtain ⟨w5, hw5⟩ : ∃ w5, wr.setCell ⟨P, x, none⟩ (.int .i64 (-1)) = w5 := ⟨_, rfl⟩
            have HZ5 : Hid (IZ w5 P (A.set x (-1))) := hide (by rw [← hw5]; exact HZ.out.set x _)
            have HG5 : Hid (w4.grownBy w5 (some P)) := hide (by rw [← hw5]; exact gb_trans HG.out (gb_set wr P x _))
            have HA5 : Hid (AW k (A.set x (-1)) (cF E row x 0)) := hide (HAW.out.set (cF_self E row x 0) (fun y hy => cF_zero hy))
            have HR5 : Hid (IN.OM w5 w4.heap.size (.slice ao row.length co) (ni row)) := hide (by
              rw [← hw5]
              refine owns_blk HR.out fun g hg => Below.heap_setCell _ _ _ _ (fun e => ?_)
              have e : g = P := e
              have := (World.ownsRow.lt HR.out g hg).1
              have := HPL.out
              omega)
            have hown := HR5.out
            have HBS : Hid (w4.heap.size ≤ w5.heap.size) := hide HG5.out.size
            have hrl : row.length ≤ 4096 := by have := HRL.out; have := HN.out; omega
            have HT : Hid (IN.mc (ni (row ++ [x])) = IN.mc (ni row) ++ [.int .i64 (x : Int)]) := hide (by rw [ni_app, IN.mc_app]; rfl)
            unfold IN.OM at hown
            rw [ni_len] at hown
            clear HAW HAT HR HZ hx h0 ox HG
            go_wp2_with (first
              | (at_builtin; refine wpList_append_own _ rfl _ _ 35 rfl w4.heap.size 3 i0 (.int .i64 0) 1 8 Tryd.underlying35 hi hz0 hz1 hz2 rfl (by decide) _ _ _ rfl (hown.alloc _) ⟨_, 0, none⟩ 1 1 [.int .i64 (x : Int)] rfl rfl ?c1 ?c2 ?c3 ?c4 ?c5 ?_)
              | fail)
            case c1 =>
              intro j u hj
              match j, hj with
              | 0, hj => simp at hj; subst hj; simp [Addr.add]
            case c2 => intro u hu; simp at hu; subst hu; rfl
            case c3 => unfold maxLen; omega
            case c4 => omega
            case c5 => have := HBS.out; simp; omega
            intro v' w6 hown' hgrow _
            have hown6 : IN.OM w6 w4.heap.size v' (ni (row ++ [x])) := by
              unfold IN.OM
              rw [HT.out, ni_len, List.length_append]
              exact hown'
            obtain ⟨a6, c6, hv6⟩ : ∃ a c, v' = .slice a (row ++ [x]).length c := by
              obtain ⟨a, c, e⟩ := IN.OM.slice hown6
              rw [ni_len] at e
              exact ⟨a, c, e⟩
            subst hv6
            have HR6 := hide hown6
            have hbw : ∀ g, (Value.slice ao row.length co).ownBlock = some g → w4.heap.size ≤ g := fun g hg => (World.ownsRow.lt hown g hg).1
            have HG6 : Hid (w4.grownBy w6 (some P)) := hide (gb_over (gb_alloc HG5.out _) hgrow hbw)
            have HZ6 : Hid (IZ w6 P (A.set x (-1))) := hide ((HZ5.out.later ((Below.refl w5.heap.size w5).alloc (Nat.le_refl _) (.cells #[.int .i64 (x : Int)] 3))).block (hgrow.block P (by have := HPL.out; have := HBS.out; simp; omega) (fun e => by have := hbw P e.symm; have := HPL.out; omega)))
            have ox := HOX4.out w6 HG6.out
            have b0 := ox.b0
            have g0 := ox.g false x hxk
            obtain ⟨m, hm⟩ : ∃ m, Hid ((nx E x).length = m) := ⟨_, hide rfl⟩
            have HML2 : Hid (m ≤ 8796093022200) := hide (by rw [← hm.out]; unfold nx; rw [List.length_map]; exact Nat.le_trans (List.length_filter_le _ _) HE.out)
            obtain ⟨ra, rc, hvx⟩ := HWS.out false x hxk
            have hvx2 : V false x = .slice ra m rc := by rw [hvx, ← hm.out]; rfl
            rw [hvx2] at g0
            have HVX := hide hvx2
            rw [hq1.out] at HAT0
            have HQQ : Hid (q1 ≤ k) := hide (by have := hq1.out; omega)
            clear hown' hgrow hown6 hown hbw HR5 HZ5 HG5 ox hw5 f0 c1 hvx hvx2 HT u1
            go_wp2_with fail
            go_loopw [66, 12] (fun ji ai wr => ∃ (j q2 : Nat) (A : List Int), j ≤ m ∧ ji = .int .i64 (j : Int) ∧ ai = .int .i64 (q2 : Int) ∧ Hid (q2 ≤ k) ∧ Hid (IN.OM wr w4.heap.size (.slice a6 (row ++ [x]).length c6) (ni (row ++ [x]))) ∧ Hid (IZ wr P A) ∧ Hid (AW k A (cF E row x j)) ∧ Hid (AtOk L (cF E row x j) q2) ∧ Hid (w4.grownBy wr (some P))) (fun ji _ _ => m - (intOf ji).toNat)
            case atStart => exact ⟨0, q1, _, Nat.zero_le _, rfl, rfl, HQQ, HR6, HZ6, HA5, HAT0, HG6⟩
            case round =>
              clear HR6 HZ6 HA5 HAT0 HG6
              obtain ⟨j, q2, A, hj, rfl, rfl, HQ2, HR, HZ, HAW, HAT, HG⟩ := hrel
              by_cases hlj : j < m
              · have hd2 : decide ((j : Int) < (m : Int)) = true := by rw [decide_eq_true_eq]; omega
                have hd2' : decide (j < m) = true := decide_eq_true hlj
                have j0 : (0 : Int) ≤ (j : Int) := by omega
                have j1 : (j : Int) < (m : Int) := by omega
                have wj : wrap64 ((j : Int) + 1) = (j : Int) + 1 := by have := HML2.out; unfold wrap64; omega
                obtain ⟨tg, htg⟩ : ∃ t, (nx E x)[j]? = some t := ⟨_, List.getElem?_eq_getElem (by rw [hm.out]; exact hlj)⟩
                have htk : tg < k := (HLT.out (x, tg) (mem_nx.1 (List.mem_of_getElem? htg))).2
                have ox := HOX4.out wr HG.out
                obtain ⟨b, off, c9, hvb, r0⟩ := ox.r x j tg hxk htg
                have e9 := HVX.out
                rw [hvb] at e9
                injection e9 with e9 _ _
                obtain ⟨h1, h2, h3, h4, h5⟩ := cF_to HGR.out HNX.out.1 htg
                obtain ⟨cv, hcv⟩ : ∃ cv, Hid (cF E row x j tg = cv) := ⟨_, hide rfl⟩
                rw [hcv.out] at h2 h3 h4
                have c1 := HZ.out.cell (HAW.out.at_ tg htk)
                rw [hcv.out] at c1
                obtain ⟨d, hd⟩ : ∃ d, Hid (cv - 1 = d) := ⟨_, hide rfl⟩
                have wc : wrap64 (cv - 1) = d := by have := HE.out; have := hd.out; unfold wrap64; omega
                have wc2 : IntKind.i64.wrap (cv - 1) = d := by have := HE.out; have := hd.out; rw [IntKind.wrap_i64]; omega
                rw [hd.out] at h4
                have f0 := HZ.out.frozen tg
                have t0 : (0 : Int) ≤ (tg : Int) := by omega
                have t1 : (tg : Int) < (k : Int) := by omega
                obtain ⟨w7, hw7⟩ : ∃ x, wr.setCell ⟨P, tg, none⟩ (.int .i64 d) = x := ⟨_, rfl⟩
                have HZ7 : Hid (IZ w7 P (A.set tg d)) := hide (by rw [← hw7]; exact HZ.out.set tg d)
                have HG7 : Hid (w4.grownBy w7 (some P)) := hide (by rw [← hw7]; exact gb_trans HG.out (gb_set wr P tg _))
                have HA7 : Hid (AW k (A.set tg d) (cF E row x (j + 1))) := hide (HAW.out.set h4 h5)
                have HR7 : Hid (IN.OM w7 w4.heap.size (.slice a6 (row ++ [x]).length c6) (ni (row ++ [x]))) := hide (by
                  rw [← hw7]
                  refine owns_blk HR.out fun g hg => Below.heap_setCell _ _ _ _ (fun e => ?_)
                  have e : g = P := e
                  have := (World.ownsRow.lt HR.out g hg).1
                  have := HPL.out
                  omega)
                have c7 := HZ7.out.cell (j := tg) (x := d) (List.getElem?_set_self (by rw [HAW.out.len]; exact htk))
                have HGO : Hid (∀ q3, q3 ≤ q2 → (d = 0 → ∀ i, L[i]? = some tg → q3 ≤ i) → AtOk L (cF E row x (j + 1)) q3) := hide (fun q3 hle hz => HAT.out.go h5 hle (fun h0 => hz (by rw [← h4]; exact h0)))
                have ox7 := HOX4.out w7 HG7.out
                have hra : ra = some ⟨b, off, none⟩ := e9.symm
                subst hra
                clear HAW HAT HR HZ h1 h2 h3 h4 h5 htg ox hvb HG
                by_cases hd0 : d = 0
                · obtain ⟨i, hik, hi2⟩ := HSI.out.all htk
                  have hMi := HRK.out i tg hi2
                  have k9 := ox7.k tg i hMi
                  have i0' : (0 : Int) ≤ (i : Int) := by omega
                  have HIT : Hid (∀ i', L[i']? = some tg → i' = i) := hide (fun i' hi' => HSI.out.inj hi' hi2)
                  have he0 : (d == 0) = true := by rw [beq_iff_eq]; exact hd0
                  clear hd0 hi2 hMi ox7
                  by_cases hqi : i < q2
                  · have m1 : (i : Int) < (q2 : Int) := by omega
                    have m2 : ¬ (q2 : Int) < (i : Int) := by omega
                    have HAT7 := hide (HGO.out i (by omega) (fun _ i' hi' => by rw [HIT.out i' hi']; exact Nat.le_refl _))
                    have HQ7 : Hid (i ≤ k) := hide (by omega)
                    go_wp2_with fail
                    go_roundw
                    case rel => exact ⟨j + 1, i, A.set tg d, hlj, iv_succ wj, rfl, HQ7, HR7, HZ7, HA7, HAT7, HG7⟩
                    case measure => exact meas_j wj hlj
                  · by_cases hqi2 : q2 < i
                    · have m1 : (q2 : Int) < (i : Int) := by omega
                      have m2 : ¬ (i : Int) < (q2 : Int) := by omega
                      have HAT7 := hide (HGO.out q2 (Nat.le_refl _) (fun _ i' hi' => by rw [HIT.out i' hi']; omega))
                      go_wp2_with fail
                      go_roundw
                      case rel => exact ⟨j + 1, q2, A.set tg d, hlj, iv_succ wj, rfl, HQ2, HR7, HZ7, HA7, HAT7, HG7⟩
                      case measure => exact meas_j wj hlj
                    · have e : q2 = i := by omega
                      have HAT7 := hide (HGO.out q2 (Nat.le_refl _) (fun _ i' hi' => by rw [HIT.out i' hi']; omega))
                      subst e
                      go_wp2_with fail
                      go_roundw
                      case rel => exact ⟨j + 1, q2, A.set tg d, hlj, iv_succ wj, rfl, HQ2, HR7, HZ7, HA7, HAT7, HG7⟩
                      case measure => exact meas_j wj hlj
                · have he0 : (d == 0) = false := by rw [beq_eq_false_iff_ne]; exact hd0
                  have HAT7 := hide (HGO.out q2 (Nat.le_refl _) (fun h => absurd h hd0))
                  clear hd0 ox7
                  go_wp2_with fail
                  go_roundw
                  case rel => exact ⟨j + 1, q2, A.set tg d, hlj, iv_succ wj, rfl, HQ2, HR7, HZ7, HA7, HAT7, HG7⟩
                  case measure => exact meas_j wj hlj
              · have e : j = m := by omega
                subst e
                have hd2 : decide ((j : Int) < (j : Int)) = false := by simp
                have hd2' : decide (j < j) = false := by simp
                have HCE : Hid (∀ y, cF E row x j y = aF E (row ++ [x]) y) := hide (fun y => by rw [← hm.out]; exact cF_end HNX.out.1.2.1 y)
                have HA8 : Hid (AW k A (aF E (row ++ [x]))) := hide ⟨HAW.out.len, fun y hy => by rw [← HCE.out]; exact HAW.out.at_ y hy⟩
                have HAT8 : Hid (AtOk L (aF E (row ++ [x])) q2) := hide (fun i y hi hy => by rw [← HCE.out]; exact HAT.out i y hi hy)
                have HGR8 := hide (Gr'.step HGR.out HNX.out)
                have HLL : Hid ((row ++ [x]).length ≤ k) := hide (by have h := HGR8.out.low; exact pigeon k _ h.1 h.2)
                clear HAW HAT HCE
                go_wp2_with fail
                go_roundw
                case rel => exact ⟨q2, row ++ [x], A, a6, c6, rfl, rfl, HQ2, HR, HZ, HA8, HAT8, HGR8, HG⟩
                case measure =>
                  simp only [lenV, intOf]
                  exact meas_row (by simp) HLL.out _ (by have := HQ.out; omega)
          · have hne : (aF E row x != 0) = true := by rw [bne_iff_ne]; exact h0
            have HAT1 := hide (HAT.out.skip hx h0)
            rw [hq1.out] at HAT1
            have HQ1 : Hid (q1 ≤ k) := hide (by have := hq1.out; omega)
            have HQ2 := hq1
            obtain ⟨av, hav⟩ : ∃ av, aF E row x = av := ⟨_, rfl⟩
            rw [hav] at hne c1
            clear h0 hx ox HAT hav
            go_wp2_with fail
            go_roundw
            case rel => exact ⟨q1, row, A, ao, co, rfl, rfl, HQ1, HR, HZ, HAW, HAT1, HGR, HG⟩
            case measure =>
              have := HQ2.out
              simp only [lenV, intOf]
              simp
              omega
        · have e : q = k := by have := HQ.out; omega
          subst e
          have hd1 : decide ((q : Int) < (q : Int)) = false := by simp
          have hd1' : decide (q < q) = false := by simp
          have HLA := hide (HAT.out.last HSI.out)
          have HRF : Hid (IN.OM wr w.heap.size (.slice ao row.length co) (ni row)) := hide (IN.OM.base HR.out (fun g hg => by have := (World.ownsRow.lt HR.out g hg).1; have := HB4.out.size; omega))
          have HBF : Hid (Below w.heap.size w wr) := hide (gb_below HB4.out HG.out HPw.out HB4.out.size)
          have hdl : ((row.length : Int) == (q : Int)) = decide (row.length = q) := by
            rw [Bool.eq_iff_iff, beq_iff_eq, decide_eq_true_eq]; omega
          clear HR HZ HAW HAT HG
          go_wp2_with fail
          go_ret2
          exact ⟨row, _, rfl, HRF.out, HGR.out, HLA.out, HBF.out⟩
end Go.Proofs.YtfhimhjeilnkaaaDoor
