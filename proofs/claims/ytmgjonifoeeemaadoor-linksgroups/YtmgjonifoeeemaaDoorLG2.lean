/-
  My own text: layer 23: the document's groups, Groups.
-/
import Derived.Test.YtmgjonifoeeemaaDoorLG1
namespace Go.Proofs.YtmgjonifoeeemaaDoor
open Go.RowKit

/-- A place of a row of one's own is written. -/
theorem om_set {w : World} {B g n cap : Nat} {l : List Nat} (h : IN.OM w B (.slice (some ⟨g, 0, none⟩) n cap) (ni l)) (k x : Nat) : IN.OM (w.setCell ⟨g, k, none⟩ (.int .i64 (x : Int))) B (.slice (some ⟨g, 0, none⟩) n cap) (ni (l.set k x)) := by
  obtain ⟨a, c, e⟩ := IN.OM.slice h
  injection e with e1 e2 e3
  subst e2
  unfold IN.OM at h ⊢
  have h2 := (World.ownsRow.stored h k (.int .i64 (x : Int))).1
  have e4 : ni (l.set k x) = (ni l).set k (x : Int) := by unfold ni; rw [List.map_set]
  rw [e4, IN.mc_set, List.length_set]
  exact h2
theorem om_cell {w : World} {B g n cap : Nat} {l : List Nat} (h : IN.OM w B (.slice (some ⟨g, 0, none⟩) n cap) (ni l)) {k x : Nat} (hk : l[k]? = some x) : w.cell? ⟨g, k, none⟩ = some (.int .i64 (x : Int)) := by
  obtain ⟨a, c, e⟩ := IN.OM.slice h
  injection e with e1 e2 e3
  subst e2
  unfold IN.OM at h
  rw [World.ownsRow.cellAt h k (by rw [ni_len]; have := (List.getElem?_eq_some_iff.1 hk).1; omega)]
  exact IN.mc_at (ni_at hk)
theorem ni_froz {w : World} {B g n cap : Nat} {l : List Nat} (h : IN.OM w B (.slice (some ⟨g, 0, none⟩) n cap) (ni l)) (k : Nat) : w.frozen? ⟨g, k, none⟩ = false := by
  obtain ⟨a, c, e⟩ := IN.OM.slice h
  injection e with e1 e2 e3
  subst e2
  unfold IN.OM at h
  exact World.ownsRow.frozenAt h k
theorem om_lo {w : World} {B g n cap : Nat} {l : List Nat} (h : IN.OM w B (.slice (some ⟨g, 0, none⟩) n cap) (ni l)) : B ≤ g ∧ g < w.heap.size := World.ownsRow.lt h g rfl
def boV : Value → Bool
  | .bool b => b
  | _ => false
theorem ms_same (s : Nat) : (2 * s + if boV (.bool false) = true then 1 else 0) < 2 * s + if boV (.bool true) = true then 1 else 0 := by simp [boV]
theorem ms_less {s t : Nat} (h : s + 1 ≤ t) : (2 * s + if boV (.bool true) = true then 1 else 0) < 2 * t + if boV (.bool true) = true then 1 else 0 := by simp [boV]; omega
def gOf : Option Addr → Nat
  | some a => a.block
  | none => 0
/-- What the places of a row are together. -/
def sumW (w : World) (a : Option Addr) (n : Nat) : Nat := ((List.range n).map fun j => (intOf ((w.cell? ⟨gOf a, j, none⟩).getD (.int .i64 0))).toNat).sum
theorem sumW_eq {w : World} {B g n cap : Nat} {l : List Nat} (h : IN.OM w B (.slice (some ⟨g, 0, none⟩) n cap) (ni l)) (hn : l.length = n) : sumW w (some ⟨g, 0, none⟩) n = l.sum := by
  unfold sumW
  have : ((List.range n).map fun j => (intOf ((w.cell? ⟨gOf (some ⟨g, 0, none⟩), j, none⟩).getD (.int .i64 0))).toNat) = l := by
    apply List.ext_getElem?
    intro j
    by_cases hj : j < n
    · obtain ⟨x, hx⟩ : ∃ x, l[j]? = some x := ⟨_, List.getElem?_eq_getElem (by omega)⟩
      rw [List.getElem?_map, List.getElem?_range hj, hx]
      simp only [Option.map_some, gOf]
      rw [om_cell h hx]
      simp [intOf]
    · rw [List.getElem?_eq_none (by simp; omega), List.getElem?_eq_none (by omega)]
  rw [this]
set_option maxRecDepth 100000 in
set_option maxHeartbeats 8000000 in
theorem rgroups_any (n : Nat) (v : Value) (L : List (Int × Int)) (w : World) (hv : TW.RM w v L) (hl : L.length ≤ 8796093022200) (hn : n ≤ 4096) (hall : ∀ (j : Nat) (p : Int × Int), L[j]? = some p → namB n p = true) :
    Calls Tryd.prog 14 #[.int .i64 (n : Int), v] w fun e w' => ∃ v', e = .returned v' ∧ IN.OM w' w.heap.size v' (ni (grp n (pn L))) ∧ Below w.heap.size w w' := by
  obtain ⟨a, cap, rfl, _, hr⟩ := hv
  have HR := hide hr
  have HL := hide hl
  have HN := hide hn
  have HA := hide hall
  obtain ⟨i0, hi, hz0, hz1, hz2⟩ := info_parts Tryd.infoIn
  clear hr hl hn hall
  go_enter Tryd.func14, Tryd.ntmps14
  go_wp2_with fail
  go_loopw [5, 6] (fun o i wr => ∃ (k : Nat) (ao : Option Addr) (co : Nat), k ≤ n ∧ i = .int .i64 (k : Int) ∧ o = .slice ao k co ∧ Hid (IN.OM wr w.heap.size (.slice ao k co) (ni (List.range k))) ∧ Hid (Below w.heap.size w wr)) (fun _ i _ => n - (intOf i).toNat)
  case atStart => exact ⟨0, none, 0, Nat.zero_le _, rfl, rfl, hide (IN.OM.nil _ _), hide (Below.refl _ _)⟩
  case round =>
    obtain ⟨k, ao, co, hk, rfl, rfl, HO, HB⟩ := hrel
    by_cases hlt : k < n
    · have hd1 : decide ((k : Int) < (n : Int)) = true := by rw [decide_eq_true_eq]; omega
      have hd1' : decide (k < n) = true := decide_eq_true hlt
      have wk : wrap64 ((k : Int) + 1) = (k : Int) + 1 := by have := HN.out; unfold wrap64; omega
      have hown := HO.out
      unfold IN.OM at hown
      rw [ni_len, List.length_range] at hown
      have hkn : k ≤ 4096 := by have := HN.out; omega
      have HT : Hid (IN.mc (ni (List.range (k + 1))) = IN.mc (ni (List.range k)) ++ [.int .i64 (k : Int)]) := hide (by rw [List.range_succ, ni_app, IN.mc_app]; rfl)
      have hbs := HB.out.size
      clear HO
      go_wp2_with (first
        | (at_builtin; refine wpList_append_own _ rfl _ _ 23 rfl w.heap.size 3 i0 (.int .i64 0) 1 8 Tryd.underlying23 hi hz0 hz1 hz2 rfl (by decide) _ _ _ rfl (hown.alloc _) ⟨_, 0, none⟩ 1 1 [.int .i64 (k : Int)] rfl rfl ?c1 ?c2 ?c3 ?c4 ?c5 ?_)
        | fail)
      case c1 =>
        intro j u hj
        match j, hj with
        | 0, hj => simp at hj; subst hj; simp [Addr.add]
      case c2 => intro u hu; simp at hu; subst hu; rfl
      case c3 => unfold maxLen; omega
      case c4 => omega
      case c5 => simp; omega
      intro v' w6 hown' hgrow _
      have HO6 : Hid (IN.OM w6 w.heap.size v' (ni (List.range (k + 1)))) := hide (by unfold IN.OM; rw [HT.out, ni_len, List.length_range]; exact hown')
      have HB6 : Hid (Below w.heap.size w w6) := hide ((HB.out.alloc HB.out.size _).grown hgrow (by simp; omega) (fun g hg => (World.ownsRow.lt hown g hg).1))
      obtain ⟨a6, c6, hv6⟩ := IN.OM.slice HO6.out
      rw [ni_len, List.length_range] at hv6
      subst hv6
      clear hown' hgrow hown HT HB hbs
      go_wp2_with fail
      go_roundw
      case rel => exact ⟨k + 1, a6, c6, hlt, by first | exact iv_succ wk | rfl, rfl, HO6, HB6⟩
      case measure => first | exact meas_j wk hlt | (simp [intOf]; omega)
    · have e : k = n := by omega
      subst e
      have hd1 : decide ((k : Int) < (k : Int)) = false := by simp
      have hd1' : decide (k < k) = false := by simp
      obtain ⟨R, hR⟩ : ∃ R, Hid (rk (pn L) = R) := ⟨_, hide rfl⟩
      have HD := hide (Dl.start k R)
      have HNL : Hid (∀ (j : Nat) (p : Int × Int), L[j]? = some p → ∃ g, ao = some ⟨g, 0, none⟩) := hide (fun j p hp => by
        have h1 := namB_iff.1 (HA.out j p hp)
        rcases HO.out.2 with ⟨h2, h3⟩ | ⟨g, cap', cur, h2, _⟩
        · rw [ni_len, List.length_range] at h3
          omega
        · injection h2 with h2 _ _
          exact ⟨g, h2⟩)
      clear hd1 hd1' hlt
      go_wp2_with fail
      go_loopw [7] (fun ag wr => ∃ (b : Bool) (l : List Nat), ag = .bool b ∧ Hid (IN.OM wr w.heap.size (.slice ao k co) (ni l)) ∧ Hid (Dl k l R) ∧ Hid (b = false → ∀ p ∈ pn L, l[p.1]? = l[p.2]?) ∧ Hid (Below w.heap.size w wr)) (fun ag wr => 2 * sumW wr ao k + (if boV ag = true then 1 else 0))
      case atStart => exact ⟨true, _, rfl, HO, HD, hide (fun h => by cases h), HB⟩
      case round =>
        clear HO HB HD
        obtain ⟨b, l, rfl, HO, HD, HC, HB⟩ := hrel
        cases b with
        | true =>
          have HS0 : Hid (L = [] ∨ sumW wr ao k = l.sum) := hide (by
            cases hL : L with
            | nil => exact .inl rfl
            | cons p t =>
              obtain ⟨g, hg⟩ := HNL.out 0 p (by rw [hL]; rfl)
              subst hg
              exact .inr (sumW_eq HO.out HD.out.len))
          obtain ⟨W0, hW0⟩ : ∃ W, W = wr := ⟨_, rfl⟩
          rw [← hW0] at HS0
          have HW0 := hide hW0
          clear hW0 HC
          go_wp2_with fail
          go_loopw [7, 8] (fun ag i wr => ∃ (b : Bool) (j : Nat) (m : List Nat), ag = .bool b ∧ j ≤ L.length ∧ i = .int .i64 (j : Int) ∧ Hid (IN.OM wr w.heap.size (.slice ao k co) (ni m)) ∧ Hid (Dl k m R) ∧ Hid (j = 0 → b = false ∧ wr = W0) ∧ Hid (b = true → m.sum + 1 ≤ l.sum) ∧ Hid (b = false → m = l ∧ ∀ (i : Nat) (p : Nat × Nat), i < j → (pn L)[i]? = some p → l[p.1]? = l[p.2]?) ∧ Hid (Below w.heap.size w wr)) (fun _ i _ => L.length - (intOf i).toNat)
          case atStart => exact ⟨false, 0, l, rfl, Nat.zero_le _, rfl, HO, HD, hide (fun _ => ⟨rfl, HW0.out.symm⟩), hide (fun h => by cases h), hide (fun _ => ⟨rfl, fun i p hi => by omega⟩), HB⟩
          case round =>
            clear HO HB HD
            obtain ⟨b, j, m, rfl, hj, rfl, HO, HD, HJ0, HC1, HC0, HB⟩ := hrel
            by_cases hlt : j < L.length
            · have hd2 : decide ((j : Int) < (L.length : Int)) = true := by rw [decide_eq_true_eq]; omega
              have hd2' : decide (j < L.length) = true := decide_eq_true hlt
              have j0 : (0 : Int) ≤ (j : Int) := by omega
              have j1 : (j : Int) < (L.length : Int) := by omega
              have wj : wrap64 ((j : Int) + 1) = (j : Int) + 1 := by have := HL.out; unfold wrap64; omega
              obtain ⟨⟨q0, q1⟩, hp⟩ : ∃ p, L[j]? = some p := ⟨_, List.getElem?_eq_getElem hlt⟩
              obtain ⟨g, hg⟩ := HNL.out j _ hp
              subst hg
              obtain ⟨b', off, rfl, hgl, hc⟩ := HR.out.resolve_left (fun h => by rw [h] at hlt; simp at hlt)
              have hnm := namB_iff.1 (HA.out j _ hp)
              dsimp only at hnm
              have hpn : (pn L)[j]? = some (q0.toNat, q1.toNat) := by unfold pn; rw [List.getElem?_map, hp]; rfl
              obtain ⟨x, rfl⟩ : ∃ x : Nat, q0 = (x : Int) := ⟨q0.toNat, by omega⟩
              obtain ⟨y, rfl⟩ : ∃ y : Nat, q1 = (y : Int) := ⟨q1.toNat, by omega⟩
              have hxk : x < k := by omega
              have hyk : y < k := by omega
              simp only [Int.toNat_natCast] at hpn
              have hRxy : R x = R y := by rw [← hR.out]; exact rk_pair (pn L) _ (List.mem_of_getElem? hpn)
              have z0 : wr.cell? ⟨b', off + j * 2, none⟩ = some (.int .i64 (x : Int)) := (HB.out.cell (p := ⟨b', _, none⟩) hgl).trans (hc j _ hp).1
              have z1 : wr.cell? ⟨b', off + j * 2 + 1, none⟩ = some (.int .i64 (y : Int)) := (HB.out.cell (p := ⟨b', _, none⟩) hgl).trans (hc j _ hp).2
              have z1' : wr.cell? ⟨b', off + (j * 2 + 1), none⟩ = some (.int .i64 (y : Int)) := z1
              obtain ⟨lx, hlx⟩ : ∃ lx, m[x]? = some lx := ⟨_, List.getElem?_eq_getElem (by rw [HD.out.len]; exact hxk)⟩
              obtain ⟨ly, hly⟩ : ∃ ly, m[y]? = some ly := ⟨_, List.getElem?_eq_getElem (by rw [HD.out.len]; exact hyk)⟩
              have c1 := om_cell HO.out hlx
              have c2 := om_cell HO.out hly
              have x0 : (0 : Int) ≤ (x : Int) := by omega
              have x1 : (x : Int) < (k : Int) := by omega
              have y0 : (0 : Int) ≤ (y : Int) := by omega
              have y1 : (y : Int) < (k : Int) := by omega
              have HX := hide hlx
              have HY := hide hly
              have HPN := hide hpn
              have HRX := hide hRxy
              have HOd : ∀ q, Hid (IN.OM (wr.drewN q) w.heap.size (.slice (some ⟨g, 0, none⟩) k co) (ni m)) := fun q => hide HO.out
              have HBd : ∀ q, Hid (Below w.heap.size w (wr.drewN q)) := fun q => hide (below_dN HB.out q)
              have HOd := hide HOd
              have HBd := hide HBd
              clear hp hc hnm hlx hly hpn hRxy HO HB
              by_cases hlt3 : lx < ly
              · skip
                have HMS : Hid (m.sum ≤ l.sum) := hide (by cases b with | true => have := HC1.out rfl; omega | false => rw [(HC0.out rfl).1]; exact Nat.le_refl _)
                have e1 : decide ((lx : Int) < (ly : Int)) = true := by rw [decide_eq_true_eq]; omega
                have e1' : decide (lx < ly) = true := decide_eq_true hlt3
                have e2 : decide ((lx : Int) < (lx : Int)) = false := by simp
                have e2' : decide (lx < lx) = false := by simp
                have HNE : Hid (x ≠ y) := hide (fun q => by have h1 := HX.out; have h2 := HY.out; rw [q] at h1; rw [h1] at h2; injection h2 with h2; omega)
                have HSU : Hid ((m.set y lx).sum + 1 ≤ l.sum) := hide (by have := sum_set HY.out hlt3; have := HMS.out; omega)
                have HDS : Hid (Dl k (m.set y lx) R) := hide (HD.out.take HX.out HY.out HRX.out hlt3)
                clear HMS hlt3
                go_wp2_with fail
                go_quiet (fail)
                obtain ⟨w5, hw5⟩ : ∃ z, wr.drewN nq = z := ⟨_, rfl⟩
                have HO5 := HOd.out nq
                have HB5 := HBd.out nq
                rw [hw5] at HO5 HB5
                rw [hw5]
                clear hw5
                have d1 := om_cell HO5.out HX.out
                have d2 := om_cell HO5.out HY.out
                have f5 := ni_froz HO5.out y
                obtain ⟨w6, hw6⟩ : ∃ z, w5.setCell ⟨g, y, none⟩ (.int .i64 (lx : Int)) = z := ⟨_, rfl⟩
                have HO6 : Hid (IN.OM w6 w.heap.size (.slice (some ⟨g, 0, none⟩) k co) (ni (m.set y lx))) := hide (by rw [← hw6]; exact om_set HO5.out y lx)
                have HB6 : Hid (Below w.heap.size w w6) := hide (by rw [← hw6]; exact gb_below HB5.out (gb_set w5 g y _) (om_lo HO5.out).1 HB5.out.size)
                have c5 := om_cell HO6.out (k := x) (x := lx) (by rw [List.getElem?_set_ne (fun q => HNE.out q.symm)]; exact HX.out)
                have c6 := om_cell HO6.out (k := y) (x := lx) (List.getElem?_set_self (by rw [HD.out.len]; exact hyk))
                have HOe : ∀ q, Hid (IN.OM (w6.drewN q) w.heap.size (.slice (some ⟨g, 0, none⟩) k co) (ni (m.set y lx))) := fun q => hide HO6.out
                have HBe : ∀ q, Hid (Below w.heap.size w (w6.drewN q)) := fun q => hide (below_dN HB6.out q)
                have HOe := hide HOe
                have HBe := hide HBe
                clear HO5 HB5 HO6 HB6
                go_wp2_with fail
                go_quiet (fail)
                have HO7 := HOe.out nq
                have HB7 := HBe.out nq
                go_wp2_with fail
                go_roundw
                case rel => exact ⟨true, j + 1, m.set y lx, rfl, hlt, iv_succ wj, HO7, HDS, hide (fun h => by omega), hide (fun _ => HSU.out), hide (fun h => by cases h), HB7⟩
                case measure => exact meas_j wj hlt
              · have hlt2 := hlt3
                clear hlt3
                by_cases hlt3 : ly < lx
                · skip
                  have HMS : Hid (m.sum ≤ l.sum) := hide (by cases b with | true => have := HC1.out rfl; omega | false => rw [(HC0.out rfl).1]; exact Nat.le_refl _)
                  have e1 : decide ((lx : Int) < (ly : Int)) = false := by rw [decide_eq_false_iff_not]; omega
                  have e1' : decide (lx < ly) = false := decide_eq_false hlt2
                  have e2 : decide ((ly : Int) < (lx : Int)) = true := by rw [decide_eq_true_eq]; omega
                  have e2' : decide (ly < lx) = true := decide_eq_true hlt3
                  have HNE : Hid (y ≠ x) := hide (fun q => by have h1 := HX.out; have h2 := HY.out; rw [← q] at h1; rw [h1] at h2; injection h2 with h2; omega)
                  have HSU : Hid ((m.set x ly).sum + 1 ≤ l.sum) := hide (by have := sum_set HX.out hlt3; have := HMS.out; omega)
                  have HDS : Hid (Dl k (m.set x ly) R) := hide (HD.out.take HY.out HX.out HRX.out.symm hlt3)
                  clear HMS hlt2 hlt3
                  go_wp2_with fail
                  go_quiet (fail)
                  go_wp2_with fail
                  obtain ⟨v5, hv5⟩ : ∃ z, wr.drewN nq = z := ⟨_, rfl⟩
                  have HO4 := HOd.out nq
                  have HB4 := HBd.out nq
                  rw [hv5] at HO4 HB4
                  rw [hv5]
                  clear hv5
                  have g1 := om_cell HO4.out HX.out
                  have g2 := om_cell HO4.out HY.out
                  have HOe : ∀ q, Hid (IN.OM (v5.drewN q) w.heap.size (.slice (some ⟨g, 0, none⟩) k co) (ni m)) := fun q => hide HO4.out
                  have HBe : ∀ q, Hid (Below w.heap.size w (v5.drewN q)) := fun q => hide (below_dN HB4.out q)
                  have HOe := hide HOe
                  have HBe := hide HBe
                  clear HO4 HB4
                  go_quiet (fail)
                  obtain ⟨w5, hw5⟩ : ∃ z, v5.drewN nq = z := ⟨_, rfl⟩
                  have HO5 := HOe.out nq
                  have HB5 := HBe.out nq
                  rw [hw5] at HO5 HB5
                  rw [hw5]
                  clear hw5
                  have d1 := om_cell HO5.out HX.out
                  have d2 := om_cell HO5.out HY.out
                  have f5 := ni_froz HO5.out x
                  obtain ⟨w6, hw6⟩ : ∃ z, w5.setCell ⟨g, x, none⟩ (.int .i64 (ly : Int)) = z := ⟨_, rfl⟩
                  have HO6 : Hid (IN.OM w6 w.heap.size (.slice (some ⟨g, 0, none⟩) k co) (ni (m.set x ly))) := hide (by rw [← hw6]; exact om_set HO5.out x ly)
                  have HB6 : Hid (Below w.heap.size w w6) := hide (by rw [← hw6]; exact gb_below HB5.out (gb_set w5 g x _) (om_lo HO5.out).1 HB5.out.size)
                  clear HO5 HB5
                  go_wp2_with fail
                  go_roundw
                  case rel => exact ⟨true, j + 1, m.set x ly, rfl, hlt, iv_succ wj, HO6, HDS, hide (fun h => by omega), hide (fun _ => HSU.out), hide (fun h => by cases h), HB6⟩
                  case measure => exact meas_j wj hlt
                · have e : lx = ly := by omega
                  subst e
                  have e2 : decide ((lx : Int) < (lx : Int)) = false := by simp
                  have e2' : decide (lx < lx) = false := by simp
                  have HC0n : Hid (b = false → m = l ∧ ∀ (i : Nat) (p : Nat × Nat), i < j + 1 → (pn L)[i]? = some p → l[p.1]? = l[p.2]?) := hide (fun h => by
                    obtain ⟨h1, h2⟩ := HC0.out h
                    refine ⟨h1, fun i p hi hp => ?_⟩
                    by_cases q : i = j
                    · subst q
                      rw [HPN.out] at hp
                      cases hp
                      have a1 := HX.out
                      have a2 := HY.out
                      rw [h1] at a1 a2
                      rw [a1, a2]
                    · exact h2 i p (by omega) hp)
                  clear hlt2 hlt3
                  go_wp2_with fail
                  go_quiet (fail)
                  go_wp2_with fail
                  obtain ⟨v5, hv5⟩ : ∃ z, wr.drewN nq = z := ⟨_, rfl⟩
                  have HO4 := HOd.out nq
                  have HB4 := HBd.out nq
                  rw [hv5] at HO4 HB4
                  rw [hv5]
                  clear hv5
                  have g1 := om_cell HO4.out HX.out
                  have g2 := om_cell HO4.out HY.out
                  have HOe : ∀ q, Hid (IN.OM (v5.drewN q) w.heap.size (.slice (some ⟨g, 0, none⟩) k co) (ni m)) := fun q => hide HO4.out
                  have HBe : ∀ q, Hid (Below w.heap.size w (v5.drewN q)) := fun q => hide (below_dN HB4.out q)
                  have HOe := hide HOe
                  have HBe := hide HBe
                  clear HO4 HB4
                  go_quiet (fail)
                  have HO7 := HOe.out nq
                  have HB7 := HBe.out nq
                  go_wp2_with fail
                  go_roundw
                  case rel => exact ⟨b, j + 1, m, rfl, hlt, iv_succ wj, HO7, HD, hide (fun h => by omega), HC1, HC0n, HB7⟩
                  case measure => exact meas_j wj hlt
            · have e : j = L.length := by omega
              subst e
              have hd2 : decide ((L.length : Int) < (L.length : Int)) = false := by simp
              have hd2' : decide (L.length < L.length) = false := by simp
              have HCF : Hid (b = false → ∀ p ∈ pn L, m[p.1]? = m[p.2]?) := hide (fun h p hp => by
                obtain ⟨h1, h2⟩ := HC0.out h
                obtain ⟨i, hi⟩ := List.getElem?_of_mem hp
                rw [h1]
                exact h2 i p (by have := (List.getElem?_eq_some_iff.1 hi).1; rw [pn_len] at this; exact this) hi)
              have HME : Hid (2 * sumW wr ao k + (if boV (.bool b) = true then 1 else 0) < 2 * sumW W0 ao k + (if boV (.bool true) = true then 1 else 0)) := hide (by
                rcases HS0.out with h0 | h0
                · obtain ⟨h1, h2⟩ := HJ0.out (by rw [h0]; rfl)
                  subst h1
                  rw [h2]
                  exact ms_same _
                · cases hL : L with
                  | nil =>
                    obtain ⟨h1, h2⟩ := HJ0.out (by rw [hL]; rfl)
                    subst h1
                    rw [h2]
                    exact ms_same _
                  | cons p t =>
                    obtain ⟨g, hg⟩ := HNL.out 0 p (by rw [hL]; rfl)
                    have h3 := HO.out
                    rw [hg] at h3
                    have h4 := sumW_eq h3 HD.out.len
                    rw [← hg] at h4
                    rw [h0, h4]
                    cases b with
                    | true => exact ms_less (HC1.out rfl)
                    | false => rw [(HC0.out rfl).1]; exact ms_same _)
              rw [HW0.out] at HME
              clear HC0 HC1 HJ0
              go_wp2_with fail
              go_roundw
              case rel => exact ⟨b, m, rfl, HO, HD, HCF, HB⟩
              case measure => exact HME.out
        | false =>
          have hD := HD.out
          rw [← hR.out] at hD
          have e2 := hD.closed (HC.out rfl)
          have HOF : Hid (IN.OM wr w.heap.size (.slice ao k co) (ni (grp k (pn L)))) := hide (by rw [← e2]; exact HO.out)
          clear hD e2
          go_wp2_with fail
          go_ret
          exact ⟨_, rfl, HOF.out, HB.out⟩
end Go.Proofs.YtmgjonifoeeemaaDoor
