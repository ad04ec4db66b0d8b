/-
  My own text: LG1, LG2, LVG in one.
-/
import Derived.Test.YtcdhblfefpkjgaaDoorQRz
import Derived.Test.YtcdhblfefpkjgaaDoorQIL
import Derived.Test.YtcdhblfefpkjgaaDoorLV6
import Derived.Test.YtcdhblfefpkjgaaDoorLS5
namespace Go.Proofs.YtcdhblfefpkjgaaDoor
open Go.RowKit

def lostI (n : Int) (L : List (Int × Int)) : Int := match lostP n L with | none => -1 | some k => (k : Int)
end Go.Proofs.YtcdhblfefpkjgaaDoor
namespace Go.Proofs.YtcdhblfefpkjgaaDoor
open Go.RowKit

/-- A place of a row of one's own is written. -/
theorem om_set {w : World} {B g n cap : Nat} {l : List Nat} (h : IN.OM w B (.slice (some ⟨g, 0, none⟩) n cap) (ni l)) (k x : Nat) : IN.OM (w.setCell ⟨g, k, none⟩ (.int .i64 (x : Int))) B (.slice (some ⟨g, 0, none⟩) n cap) (ni (l.set k x)) := by
  obtain ⟨a, c, e⟩ := IN.OM.slice h
  injection e with e1 e2 e3
  subst e2
  unfold IN.OM at h ⊢
  have h2 := (World.ownsRow.stored h k (.int .i64 (x : Int))).1
  have e4 : ni (l.set k x) = (ni l).set k (x : Int) := by unfold ni; rw [List.map_set]
  rw [e4, IN.mc_set, List.length_set]
  exact h2
theorem om_cell {w : World} {B g n cap : Nat} {l : List Nat} (h : IN.OM w B (.slice (some ⟨g, 0, none⟩) n cap) (ni l)) {k x : Nat} (hk : l[k]? = some x) : w.cell? ⟨g, k, none⟩ = some (.int .i64 (x : Int)) := by
  obtain ⟨a, c, e⟩ := IN.OM.slice h
  injection e with e1 e2 e3
  subst e2
  unfold IN.OM at h
  rw [World.ownsRow.cellAt h k (by rw [ni_len]; have := (List.getElem?_eq_some_iff.1 hk).1; omega)]
  exact IN.mc_at (ni_at hk)
theorem ni_froz {w : World} {B g n cap : Nat} {l : List Nat} (h : IN.OM w B (.slice (some ⟨g, 0, none⟩) n cap) (ni l)) (k : Nat) : w.frozen? ⟨g, k, none⟩ = false := by
  obtain ⟨a, c, e⟩ := IN.OM.slice h
  injection e with e1 e2 e3
  subst e2
  unfold IN.OM at h
  exact World.ownsRow.frozenAt h k
theorem om_lo {w : World} {B g n cap : Nat} {l : List Nat} (h : IN.OM w B (.slice (some ⟨g, 0, none⟩) n cap) (ni l)) : B ≤ g ∧ g < w.heap.size := World.ownsRow.lt h g rfl
def boV : Value → Bool
  | .bool b => b
  | _ => false
theorem ms_same (s : Nat) : (2 * s + if boV (.bool false) = true then 1 else 0) < 2 * s + if boV (.bool true) = true then 1 else 0 := by simp [boV]
theorem ms_less {s t : Nat} (h : s + 1 ≤ t) : (2 * s + if boV (.bool true) = true then 1 else 0) < 2 * t + if boV (.bool true) = true then 1 else 0 := by simp [boV]; omega
def gOf : Option Addr → Nat
  | some a => a.block
  | none => 0
/-- What the places of a row are together. -/
def sumW (w : World) (a : Option Addr) (n : Nat) : Nat := ((List.range n).map fun j => (intOf ((w.cell? ⟨gOf a, j, none⟩).getD (.int .i64 0))).toNat).sum
theorem sumW_eq {w : World} {B g n cap : Nat} {l : List Nat} (h : IN.OM w B (.slice (some ⟨g, 0, none⟩) n cap) (ni l)) (hn : l.length = n) : sumW w (some ⟨g, 0, none⟩) n = l.sum := by
  unfold sumW
  have : ((List.range n).map fun j => (intOf ((w.cell? ⟨gOf (some ⟨g, 0, none⟩), j, none⟩).getD (.int .i64 0))).toNat) = l := by
    apply List.ext_getElem?
    intro j
    by_cases hj : j < n
    · obtain ⟨x, hx⟩ : ∃ x, l[j]? = some x := ⟨_, List.getElem?_eq_getElem (by omega)⟩
      rw [List.getElem?_map, List.getElem?_range hj, hx]
      simp only [Option.map_some, gOf]
      rw [om_cell h hx]
      simp [intOf]
    · rw [List.getElem?_eq_none (by simp; omega), List.getElem?_eq_none (by omega)]
  rw [this]
set_option maxRecDepth 100000 in
set_option maxHeartbeats 8000000 in
theorem rgroups_any (n : Nat) (v : Value) (L : List (Int × Int)) (w : World) (hv : TW.RM w v L) (hl : L.length ≤ 8796093022200) (hn : n ≤ 4096) (hall : ∀ (j : Nat) (p : Int × Int), L[j]? = some p → namB n p = true) :
    Calls Tryd.prog 19 #[.int .i64 (n : Int), v] w fun e w' => ∃ v', e = .returned v' ∧ IN.OM w' w.heap.size v' (ni (grp n (pn L))) ∧ Below w.heap.size w w' := by
  obtain ⟨a, cap, rfl, _, hr⟩ := hv
  have HR := hide hr
  have HL := hide hl
  have HN := hide hn
  have HA := hide hall
  obtain ⟨i0, hi, hz0, hz1, hz2⟩ := info_parts Tryd.infoIn
  clear hr hl hn hall
  go_enter Tryd.func19, Tryd.ntmps19
  go_wp2_with fail
  go_loopw [5, 6] (fun o i wr => ∃ (k : Nat) (ao : Option Addr) (co : Nat), k ≤ n ∧ i = .int .i64 (k : Int) ∧ o = .slice ao k co ∧ Hid (IN.OM wr w.heap.size (.slice ao k co) (ni (List.range k))) ∧ Hid (Below w.heap.size w wr)) (fun _ i _ => n - (intOf i).toNat)
  case atStart => exact ⟨0, none, 0, Nat.zero_le _, rfl, rfl, hide (IN.OM.nil _ _), hide (Below.refl _ _)⟩
  case round =>
    obtain ⟨k, ao, co, hk, rfl, rfl, HO, HB⟩ := hrel
    by_cases hlt : k < n
    · have hd1 : decide ((k : Int) < (n : Int)) = true := by rw [decide_eq_true_eq]; omega
      have hd1' : decide (k < n) = true := decide_eq_true hlt
      have wk : wrap64 ((k : Int) + 1) = (k : Int) + 1 := by have := HN.out; unfold wrap64; omega
      have hown := HO.out
      unfold IN.OM at hown
      rw [ni_len, List.length_range] at hown
      have hkn : k ≤ 4096 := by have := HN.out; omega
      have HT : Hid (IN.mc (ni (List.range (k + 1))) = IN.mc (ni (List.range k)) ++ [.int .i64 (k : Int)]) := hide (by rw [List.range_succ, ni_app, IN.mc_app]; rfl)
      have hbs := HB.out.size
      clear HO
      go_wp2_with (first
        | (at_builtin; refine wpList_append_own _ rfl _ _ 41 rfl w.heap.size 3 i0 (.int .i64 0) 1 8 Tryd.underlying41 hi hz0 hz1 hz2 rfl (by decide) _ _ _ rfl (hown.alloc _) ⟨_, 0, none⟩ 1 1 [.int .i64 (k : Int)] rfl rfl ?c1 ?c2 ?c3 ?c4 ?c5 ?_)
        | fail)
      case c1 =>
        intro j u hj
        match j, hj with
        | 0, hj => simp at hj; subst hj; simp [Addr.add]
      case c2 => intro u hu; simp at hu; subst hu; rfl
      case c3 => unfold maxLen; omega
      case c4 => omega
      case c5 => simp; omega
      intro v' w6 hown' hgrow _
      have HO6 : Hid (IN.OM w6 w.heap.size v' (ni (List.range (k + 1)))) := hide (by unfold IN.OM; rw [HT.out, ni_len, List.length_range]; exact hown')
      have HB6 : Hid (Below w.heap.size w w6) := hide ((HB.out.alloc HB.out.size _).grown hgrow (by simp; omega) (fun g hg => (World.ownsRow.lt hown g hg).1))
      obtain ⟨a6, c6, hv6⟩ := IN.OM.slice HO6.out
      rw [ni_len, List.length_range] at hv6
      subst hv6
      clear hown' hgrow hown HT HB hbs
      go_wp2_with fail
      go_roundw
      case rel => exact ⟨k + 1, a6, c6, hlt, by first | exact iv_succ wk | rfl, rfl, HO6, HB6⟩
      case measure => first | exact meas_j wk hlt | (simp [intOf]; omega)
    · have e : k = n := by omega
      subst e
      have hd1 : decide ((k : Int) < (k : Int)) = false := by simp
      have hd1' : decide (k < k) = false := by simp
      obtain ⟨R, hR⟩ : ∃ R, Hid (rk (pn L) = R) := ⟨_, hide rfl⟩
      have HD := hide (Dl.start k R)
      have HNL : Hid (∀ (j : Nat) (p : Int × Int), L[j]? = some p → ∃ g, ao = some ⟨g, 0, none⟩) := hide (fun j p hp => by
        have h1 := namB_iff.1 (HA.out j p hp)
        rcases HO.out.2 with ⟨h2, h3⟩ | ⟨g, cap', cur, h2, _⟩
        · rw [ni_len, List.length_range] at h3
          omega
        · injection h2 with h2 _ _
          exact ⟨g, h2⟩)
      clear hd1 hd1' hlt
      go_wp2_with fail
      go_loopw [7] (fun ag wr => ∃ (b : Bool) (l : List Nat), ag = .bool b ∧ Hid (IN.OM wr w.heap.size (.slice ao k co) (ni l)) ∧ Hid (Dl k l R) ∧ Hid (b = false → ∀ p ∈ pn L, l[p.1]? = l[p.2]?) ∧ Hid (Below w.heap.size w wr)) (fun ag wr => 2 * sumW wr ao k + (if boV ag = true then 1 else 0))
      case atStart => exact ⟨true, _, rfl, HO, HD, hide (fun h => by cases h), HB⟩
      case round =>
        clear HO HB HD
        obtain ⟨b, l, rfl, HO, HD, HC, HB⟩ := hrel
        cases b with
        | true =>
          have HS0 : Hid (L = [] ∨ sumW wr ao k = l.sum) := hide (by
            cases hL : L with
            | nil => exact .inl rfl
            | cons p t =>
              obtain ⟨g, hg⟩ := HNL.out 0 p (by rw [hL]; rfl)
              subst hg
              exact .inr (sumW_eq HO.out HD.out.len))
          obtain ⟨W0, hW0⟩ : ∃ W, W = wr := ⟨_, rfl⟩
          rw [← hW0] at HS0
          have HW0 := hide hW0
          clear hW0 HC
          go_wp2_with fail
          go_loopw [7, 8] (fun ag i wr => ∃ (b : Bool) (j : Nat) (m : List Nat), ag = .bool b ∧ j ≤ L.length ∧ i = .int .i64 (j : Int) ∧ Hid (IN.OM wr w.heap.size (.slice ao k co) (ni m)) ∧ Hid (Dl k m R) ∧ Hid (j = 0 → b = false ∧ wr = W0) ∧ Hid (b = true → m.sum + 1 ≤ l.sum) ∧ Hid (b = false → m = l ∧ ∀ (i : Nat) (p : Nat × Nat), i < j → (pn L)[i]? = some p → l[p.1]? = l[p.2]?) ∧ Hid (Below w.heap.size w wr)) (fun _ i _ => L.length - (intOf i).toNat)
          case atStart => exact ⟨false, 0, l, rfl, Nat.zero_le _, rfl, HO, HD, hide (fun _ => ⟨rfl, HW0.out.symm⟩), hide (fun h => by cases h), hide (fun _ => ⟨rfl, fun i p hi => by omega⟩), HB⟩
          case round =>
            clear HO HB HD
            obtain ⟨b, j, m, rfl, hj, rfl, HO, HD, HJ0, HC1, HC0, HB⟩ := hrel
            by_cases hlt : j < L.length
            · have hd2 : decide ((j : Int) < (L.length : Int)) = true := by rw [decide_eq_true_eq]; omega
              have hd2' : decide (j < L.length) = true := decide_eq_true hlt
              have j0 : (0 : Int) ≤ (j : Int) := by omega
              have j1 : (j : Int) < (L.length : Int) := by omega
              have wj : wrap64 ((j : Int) + 1) = (j : Int) + 1 := by have := HL.out; unfold wrap64; omega
              obtain ⟨⟨q0, q1⟩, hp⟩ : ∃ p, L[j]? = some p := ⟨_, List.getElem?_eq_getElem hlt⟩
              obtain ⟨g, hg⟩ := HNL.out j _ hp
              subst hg
              obtain ⟨b', off, rfl, hgl, hc⟩ := HR.out.resolve_left (fun h => by rw [h] at hlt; simp at hlt)
              have hnm := namB_iff.1 (HA.out j _ hp)
              dsimp only at hnm
              have hpn : (pn L)[j]? = some (q0.toNat, q1.toNat) := by unfold pn; rw [List.getElem?_map, hp]; rfl
              obtain ⟨x, rfl⟩ : ∃ x : Nat, q0 = (x : Int) := ⟨q0.toNat, by omega⟩
              obtain ⟨y, rfl⟩ : ∃ y : Nat, q1 = (y : Int) := ⟨q1.toNat, by omega⟩
              have hxk : x < k := by omega
              have hyk : y < k := by omega
              simp only [Int.toNat_natCast] at hpn
              have hRxy : R x = R y := by rw [← hR.out]; exact rk_pair (pn L) _ (List.mem_of_getElem? hpn)
              have z0 : wr.cell? ⟨b', off + j * 2, none⟩ = some (.int .i64 (x : Int)) := (HB.out.cell (p := ⟨b', _, none⟩) hgl).trans (hc j _ hp).1
              have z1 : wr.cell? ⟨b', off + j * 2 + 1, none⟩ = some (.int .i64 (y : Int)) := (HB.out.cell (p := ⟨b', _, none⟩) hgl).trans (hc j _ hp).2
              have z1' : wr.cell? ⟨b', off + (j * 2 + 1), none⟩ = some (.int .i64 (y : Int)) := z1
              obtain ⟨lx, hlx⟩ : ∃ lx, m[x]? = some lx := ⟨_, List.getElem?_eq_getElem (by rw [HD.out.len]; exact hxk)⟩
              obtain ⟨ly, hly⟩ : ∃ ly, m[y]? = some ly := ⟨_, List.getElem?_eq_getElem (by rw [HD.out.len]; exact hyk)⟩
              have c1 := om_cell HO.out hlx
              have c2 := om_cell HO.out hly
              have x0 : (0 : Int) ≤ (x : Int) := by omega
              have x1 : (x : Int) < (k : Int) := by omega
              have y0 : (0 : Int) ≤ (y : Int) := by omega
              have y1 : (y : Int) < (k : Int) := by omega
              have HX := hide hlx
              have HY := hide hly
              have HPN := hide hpn
              have HRX := hide hRxy
              have HOd : ∀ q, Hid (IN.OM (wr.drewN q) w.heap.size (.slice (some ⟨g, 0, none⟩) k co) (ni m)) := fun q => hide HO.out
              have HBd : ∀ q, Hid (Below w.heap.size w (wr.drewN q)) := fun q => hide (below_dN HB.out q)
              have HOd := hide HOd
              have HBd := hide HBd
              clear hp hc hnm hlx hly hpn hRxy HO HB
              by_cases hlt3 : lx < ly
              · skip
                have HMS : Hid (m.sum ≤ l.sum) := hide (by cases b with | true => have := HC1.out rfl; omega | false => rw [(HC0.out rfl).1]; exact Nat.le_refl _)
                have e1 : decide ((lx : Int) < (ly : Int)) = true := by rw [decide_eq_true_eq]; omega
                have e1' : decide (lx < ly) = true := decide_eq_true hlt3
                have e2 : decide ((lx : Int) < (lx : Int)) = false := by simp
                have e2' : decide (lx < lx) = false := by simp
                have HNE : Hid (x ≠ y) := hide (fun q => by have h1 := HX.out; have h2 := HY.out; rw [q] at h1; rw [h1] at h2; injection h2 with h2; omega)
                have HSU : Hid ((m.set y lx).sum + 1 ≤ l.sum) := hide (by have := sum_set HY.out hlt3; have := HMS.out; omega)
                have HDS : Hid (Dl k (m.set y lx) R) := hide (HD.out.take HX.out HY.out HRX.out hlt3)
                clear HMS hlt3
                go_wp2_with fail
                go_quiet (fail)
                obtain ⟨w5, hw5⟩ : ∃ z, wr.drewN nq = z := ⟨_, rfl⟩
                have HO5 := HOd.out nq
                have HB5 := HBd.out nq
                rw [hw5] at HO5 HB5
                rw [hw5]
                clear hw5
                have d1 := om_cell HO5.out HX.out
                have d2 := om_cell HO5.out HY.out
                have f5 := ni_froz HO5.out y
                obtain ⟨w6, hw6⟩ : ∃ z, w5.setCell ⟨g, y, none⟩ (.int .i64 (lx : Int)) = z := ⟨_, rfl⟩
                have HO6 : Hid (IN.OM w6 w.heap.size (.slice (some ⟨g, 0, none⟩) k co) (ni (m.set y lx))) := hide (by rw [← hw6]; exact om_set HO5.out y lx)
                have HB6 : Hid (Below w.heap.size w w6) := hide (by rw [← hw6]; exact gb_below HB5.out (gb_set w5 g y _) (om_lo HO5.out).1 HB5.out.size)
                have c5 := om_cell HO6.out (k := x) (x := lx) (by rw [List.getElem?_set_ne (fun q => HNE.out q.symm)]; exact HX.out)
                have c6 := om_cell HO6.out (k := y) (x := lx) (List.getElem?_set_self (by rw [HD.out.len]; exact hyk))
                have HOe : ∀ q, Hid (IN.OM (w6.drewN q) w.heap.size (.slice (some ⟨g, 0, none⟩) k co) (ni (m.set y lx))) := fun q => hide HO6.out
                have HBe : ∀ q, Hid (Below w.heap.size w (w6.drewN q)) := fun q => hide (below_dN HB6.out q)
                have HOe := hide HOe
                have HBe := hide HBe
                clear HO5 HB5 HO6 HB6
                go_wp2_with fail
                go_quiet (fail)
                have HO7 := HOe.out nq
                have HB7 := HBe.out nq
                go_wp2_with fail
                go_roundw
                case rel => exact ⟨true, j + 1, m.set y lx, rfl, hlt, iv_succ wj, HO7, HDS, hide (fun h => by omega), hide (fun _ => HSU.out), hide (fun h => by cases h), HB7⟩
                case measure => exact meas_j wj hlt
              · have hlt2 := hlt3
                clear hlt3
                by_cases hlt3 : ly < lx
                · skip
                  have HMS : Hid (m.sum ≤ l.sum) := hide (by cases b with | true => have := HC1.out rfl; omega | false => rw [(HC0.out rfl).1]; exact Nat.le_refl _)
                  have e1 : decide ((lx : Int) < (ly : Int)) = false := by rw [decide_eq_false_iff_not]; omega
                  have e1' : decide (lx < ly) = false := decide_eq_false hlt2
                  have e2 : decide ((ly : Int) < (lx : Int)) = true := by rw [decide_eq_true_eq]; omega
                  have e2' : decide (ly < lx) = true := decide_eq_true hlt3
                  have HNE : Hid (y ≠ x) := hide (fun q => by have h1 := HX.out; have h2 := HY.out; rw [← q] at h1; rw [h1] at h2; injection h2 with h2; omega)
                  have HSU : Hid ((m.set x ly).sum + 1 ≤ l.sum) := hide (by have := sum_set HX.out hlt3; have := HMS.out; omega)
                  have HDS : Hid (Dl k (m.set x ly) R) := hide (HD.out.take HY.out HX.out HRX.out.symm hlt3)
                  clear HMS hlt2 hlt3
                  go_wp2_with fail
                  go_quiet (fail)
                  go_wp2_with fail
                  obtain ⟨v5, hv5⟩ : ∃ z, wr.drewN nq = z := ⟨_, rfl⟩
                  have HO4 := HOd.out nq
                  have HB4 := HBd.out nq
                  rw [hv5] at HO4 HB4
                  rw [hv5]
                  clear hv5
                  have g1 := om_cell HO4.out HX.out
                  have g2 := om_cell HO4.out HY.out
                  have HOe : ∀ q, Hid (IN.OM (v5.drewN q) w.heap.size (.slice (some ⟨g, 0, none⟩) k co) (ni m)) := fun q => hide HO4.out
                  have HBe : ∀ q, Hid (Below w.heap.size w (v5.drewN q)) := fun q => hide (below_dN HB4.out q)
                  have HOe := hide HOe
                  have HBe := hide HBe
                  clear HO4 HB4
                  go_quiet (fail)
                  obtain ⟨w5, hw5⟩ : ∃ z, v5.drewN nq = z := ⟨_, rfl⟩
                  have HO5 := HOe.out nq
                  have HB5 := HBe.out nq
                  rw [hw5] at HO5 HB5
                  rw [hw5]
                  clear hw5
                  have d1 := om_cell HO5.out HX.out
                  have d2 := om_cell HO5.out HY.out
                  have f5 := ni_froz HO5.out x
                  obtain ⟨w6, hw6⟩ : ∃ z, w5.setCell ⟨g, x, none⟩ (.int .i64 (ly : Int)) = z := ⟨_, rfl⟩
                  have HO6 : Hid (IN.OM w6 w.heap.size (.slice (some ⟨g, 0, none⟩) k co) (ni (m.set x ly))) := hide (by rw [← hw6]; exact om_set HO5.out x ly)
                  have HB6 : Hid (Below w.heap.size w w6) := hide (by rw [← hw6]; exact gb_below HB5.out (gb_set w5 g x _) (om_lo HO5.out).1 HB5.out.size)
                  clear HO5 HB5
                  go_wp2_with fail
                  go_roundw
                  case rel => exact ⟨true, j + 1, m.set x ly, rfl, hlt, iv_succ wj, HO6, HDS, hide (fun h => by omega), hide (fun _ => HSU.out), hide (fun h => by cases h), HB6⟩
                  case measure => exact meas_j wj hlt
                · have e : lx = ly := by omega
                  subst e
                  have e2 : decide ((lx : Int) < (lx : Int)) = false := by simp
                  have e2' : decide (lx < lx) = false := by simp
                  have HC0n : Hid (b = false → m = l ∧ ∀ (i : Nat) (p : Nat × Nat), i < j + 1 → (pn L)[i]? = some p → l[p.1]? = l[p.2]?) := hide (fun h => by
                    obtain ⟨h1, h2⟩ := HC0.out h
                    refine ⟨h1, fun i p hi hp => ?_⟩
                    by_cases q : i = j
                    · subst q
                      rw [HPN.out] at hp
                      cases hp
                      have a1 := HX.out
                      have a2 := HY.out
                      rw [h1] at a1 a2
                      rw [a1, a2]
                    · exact h2 i p (by omega) hp)
                  clear hlt2 hlt3
                  go_wp2_with fail
                  go_quiet (fail)
                  go_wp2_with fail
                  obtain ⟨v5, hv5⟩ : ∃ z, wr.drewN nq = z := ⟨_, rfl⟩
                  have HO4 := HOd.out nq
                  have HB4 := HBd.out nq
                  rw [hv5] at HO4 HB4
                  rw [hv5]
                  clear hv5
                  have g1 := om_cell HO4.out HX.out
                  have g2 := om_cell HO4.out HY.out
                  have HOe : ∀ q, Hid (IN.OM (v5.drewN q) w.heap.size (.slice (some ⟨g, 0, none⟩) k co) (ni m)) := fun q => hide HO4.out
                  have HBe : ∀ q, Hid (Below w.heap.size w (v5.drewN q)) := fun q => hide (below_dN HB4.out q)
                  have HOe := hide HOe
                  have HBe := hide HBe
                  clear HO4 HB4
                  go_quiet (fail)
                  have HO7 := HOe.out nq
                  have HB7 := HBe.out nq
                  go_wp2_with fail
                  go_roundw
                  case rel => exact ⟨b, j + 1, m, rfl, hlt, iv_succ wj, HO7, HD, hide (fun h => by omega), HC1, HC0n, HB7⟩
                  case measure => exact meas_j wj hlt
            · have e : j = L.length := by omega
              subst e
              have hd2 : decide ((L.length : Int) < (L.length : Int)) = false := by simp
              have hd2' : decide (L.length < L.length) = false := by simp
              have HCF : Hid (b = false → ∀ p ∈ pn L, m[p.1]? = m[p.2]?) := hide (fun h p hp => by
                obtain ⟨h1, h2⟩ := HC0.out h
                obtain ⟨i, hi⟩ := List.getElem?_of_mem hp
                rw [h1]
                exact h2 i p (by have := (List.getElem?_eq_some_iff.1 hi).1; rw [pn_len] at this; exact this) hi)
              have HME : Hid (2 * sumW wr ao k + (if boV (.bool b) = true then 1 else 0) < 2 * sumW W0 ao k + (if boV (.bool true) = true then 1 else 0)) := hide (by
                rcases HS0.out with h0 | h0
                · obtain ⟨h1, h2⟩ := HJ0.out (by rw [h0]; rfl)
                  subst h1
                  rw [h2]
                  exact ms_same _
                · cases hL : L with
                  | nil =>
                    obtain ⟨h1, h2⟩ := HJ0.out (by rw [hL]; rfl)
                    subst h1
                    rw [h2]
                    exact ms_same _
                  | cons p t =>
                    obtain ⟨g, hg⟩ := HNL.out 0 p (by rw [hL]; rfl)
                    have h3 := HO.out
                    rw [hg] at h3
                    have h4 := sumW_eq h3 HD.out.len
                    rw [← hg] at h4
                    rw [h0, h4]
                    cases b with
                    | true => exact ms_less (HC1.out rfl)
                    | false => rw [(HC0.out rfl).1]; exact ms_same _)
              rw [HW0.out] at HME
              clear HC0 HC1 HJ0
              go_wp2_with fail
              go_roundw
              case rel => exact ⟨b, m, rfl, HO, HD, HCF, HB⟩
              case measure => exact HME.out
        | false =>
          have hD := HD.out
          rw [← hR.out] at hD
          have e2 := hD.closed (HC.out rfl)
          have HOF : Hid (IN.OM wr w.heap.size (.slice ao k co) (ni (grp k (pn L)))) := hide (by rw [← e2]; exact HO.out)
          clear hD e2
          go_wp2_with fail
          go_ret
          exact ⟨_, rfl, HOF.out, HB.out⟩
end Go.Proofs.YtcdhblfefpkjgaaDoor
namespace Go.Proofs.YtcdhblfefpkjgaaDoor
open Go.RowKit

theorem owns_slice {w : World} {B : Nat} {e : TypeId} {v : Value} {n : Nat} {xs : List Value} (h : w.ownsRow B e 1 v n xs) : ∃ a c, v = .slice a n c := by
  rcases h.2 with ⟨rfl, h0⟩ | ⟨g, cap, cur, rfl, _⟩
  · exact ⟨none, 0, by rw [h0]⟩
  · exact ⟨_, _, rfl⟩
theorem GT.li {B : Nat} {w0 w : World} {P : Nat} {NUM : List Nat} {v : Value} {k : Nat} {V : Nat → Value} {X : Nat → List Nat} (h : GT B w0 w P NUM v k V X) : LI w v ((List.range k).map X) := by
  have hlen : ((List.range k).map X).length = k := by simp
  obtain ⟨a, c, hv⟩ := owns_slice h.out
  refine ⟨a, c, by rw [hlen]; exact hv, ?_⟩
  by_cases hk : k = 0
  · left; subst hk; rfl
  · right
    obtain ⟨g, rfl⟩ : ∃ g, a = some ⟨g, 0, none⟩ := by rw [hv] at h; exact h.base (by omega)
    refine ⟨g, 0, rfl, ?_, fun j l hj => ?_⟩
    · exact (World.ownsRow.lt h.out g (by rw [hv]; rfl)).2
    · have hjk : j < k := by have := (List.getElem?_eq_some_iff.1 hj).1; omega
      have e : l = X j := by rw [List.getElem?_map, List.getElem?_range hjk] at hj; exact (Option.some.inj hj).symm
      subst e
      obtain ⟨la, lc, hs⟩ := h.sl hjk
      refine ⟨la, lc, by rw [Nat.zero_add, h.cell (by rw [hv]; rfl) hjk, hs], ?_⟩
      have hO := h.own j hjk
      by_cases hx : X j = []
      · exact .inl hx
      · right
        obtain ⟨b2, rfl⟩ : ∃ b2, la = some ⟨b2, 0, none⟩ := by
          rw [hs] at hO
          rcases hO.2 with ⟨e1, e2⟩ | ⟨g2, cap, cur, e1, _⟩
          · rw [ni_len] at e2; exact (hx (List.length_eq_zero_iff.1 e2)).elim
          · injection e1 with e1 _ _; exact ⟨g2, e1⟩
        refine ⟨b2, 0, rfl, (World.ownsRow.lt hO b2 (by rw [hs]; rfl)).2, fun i x hi => ?_⟩
        rw [hs] at hO
        rw [Nat.zero_add]
        exact om_cell hO hi
/-- The answer's row, written in place. -/
def OutW (w : World) (g m : Nat) (V : Nat → Value) (row : List Nat) (k : Nat) : Prop := w.rowIs g 41 m (fun j => if j < k then V (row.getD j 0) else .slice none 0 0)
theorem OutW.made (w : World) (m : Nat) (V : Nat → Value) (row : List Nat) : OutW (w.alloc (.cells (madeCells #[.slice none 0 0] m) 41)) w.heap.size m V row 0 :=
  World.rowIs.congr (World.rowIs_made w (.slice none 0 0) m 41) fun i _ => by rw [if_neg (Nat.not_lt_zero _)]
theorem OutW.set {w : World} {g m k x : Nat} {V : Nat → Value} {row : List Nat} (h : OutW w g m V row k) (hx : row[k]? = some x) : OutW (w.setCell ⟨g, k, none⟩ (V x)) g m V row (k + 1) :=
  World.rowIs.congr (World.rowIs.set h k (V x)) fun i hi => by
    by_cases e : i = k
    · subst e; rw [if_pos rfl, if_pos (by omega), List.getD_eq_getElem?_getD, hx]; rfl
    · rw [if_neg e]
      by_cases h2 : i < k
      · rw [if_pos h2, if_pos (by omega)]
      · rw [if_neg h2, if_neg (by omega)]
theorem OutW.owns {w : World} {g m B : Nat} {V : Nat → Value} {row : List Nat} (h : OutW w g m V row m) (hl : row.length = m) (hB : B ≤ g) (hm : m ≤ 4096) : w.ownsRow B 41 1 (.slice (some ⟨g, 0, none⟩) m m) m (row.map V) := by
  obtain ⟨c, hb, hs, hc⟩ := h
  have hmx : (4096 : Nat) ≤ maxLen := by decide
  refine ⟨by rw [List.length_map, hl, Nat.mul_one], .inr ⟨g, m, c, rfl, hB, hb, Nat.le_refl _, Nat.le_trans hm hmx, by rw [hs, Nat.mul_one], ?_⟩⟩
  rw [Nat.mul_one]
  apply List.ext_getElem?
  intro i
  by_cases hi : i < m
  · rw [List.getElem?_take, if_pos hi, Array.getElem?_toList, hc i hi]
    dsimp only
    rw [if_pos hi, List.getElem?_map, List.getD_eq_getElem?_getD, List.getElem?_eq_getElem (by omega : i < row.length)]
    rfl
  · rw [List.getElem?_eq_none (by rw [List.length_take]; omega), List.getElem?_eq_none (by rw [List.length_map]; omega)]
theorem gather_rw {B B' : Nat} {w0 w w' : World} {P g m : Nat} {NUM : List Nat} {v : Value} {V : Nat → Value} {X : Nat → List Nat} {row : List Nat} (h : GT B w0 w P NUM v m V X) (hb : Below w.heap.size w w') (hO : OutW w' g row.length V row row.length) (hr : row.Nodup) (hm : ∀ x ∈ row, x < m) (hB : B' ≤ B) (hg : B' ≤ g) (hl : row.length ≤ 4096) (hX : ∀ x, x < m → (X x).length ≤ 4096) :
    RW w' B' (.slice (some ⟨g, 0, none⟩) row.length row.length) (row.map fun k => (V k, ni (X k))) := by
  have hat : ∀ (i : Nat) (u : Value × List Int), (row.map fun k => (V k, ni (X k)))[i]? = some u → ∃ x, row[i]? = some x ∧ x < m ∧ u = (V x, ni (X x)) := fun i u hi => by
    rw [List.getElem?_map] at hi
    obtain ⟨x, hx, rfl⟩ := Option.map_eq_some_iff.1 hi
    exact ⟨x, hx, hm x (List.mem_of_getElem? hx), rfl⟩
  refine ⟨?_, fun u hu => ?_, fun i j u u' q hi hj h1 h2 => ?_, fun u hu => ?_⟩
  · have := hO.owns rfl hg hl
    rw [List.length_map, List.map_map]
    exact this
  · obtain ⟨i, hi⟩ := List.getElem?_of_mem hu
    obtain ⟨x, _, hx, rfl⟩ := hat i u hi
    exact (IN.OM.base (h.own x hx) (fun q hq => Nat.le_trans hB (World.ownsRow.lt (h.own x hx) q hq).1)).later hb
  · obtain ⟨x, hx, hxm, rfl⟩ := hat i u hi
    obtain ⟨y, hy, hym, rfl⟩ := hat j u' hj
    by_cases e : x = y
    · subst e
      exact (List.getElem?_inj (List.getElem?_eq_some_iff.1 hx).1 hr).1 (hx.trans hy.symm)
    · exact (h.ap x y hxm hym e q h1 h2).elim
  · obtain ⟨i, hi⟩ := List.getElem?_of_mem hu
    obtain ⟨x, _, hx, rfl⟩ := hat i u hi
    rw [ni_len]; exact hX x hx
theorem tU_nam {f : Nat → Lk → List (Int × Int)} {R : List (List UInt8)} {T : List (List Lk)} (hl : T.length = R.length) (hf : ∀ x q, x < R.length → q.2 ∈ R → ∀ p ∈ f x q, namB (R.length : Int) p = true) (hr : Rgt R T T.length 0) :
    ∀ (j : Nat) (p : Int × Int), (tU f T T.length)[j]? = some p → namB (R.length : Int) p = true := by
  intro j p hj
  have hm := List.mem_of_getElem? hj
  unfold tU at hm
  obtain ⟨y, hy, h2⟩ := List.mem_flatMap.1 hm
  have hy2 := List.mem_range.1 hy
  rw [List.getD_eq_getElem?_getD, List.getElem?_eq_getElem hy2] at h2
  obtain ⟨q, hq, h3⟩ := List.mem_flatMap.1 h2
  exact hf y q (by omega) (hr.1 y _ hy2 (List.getElem?_eq_getElem hy2) q hq).2 p h3
set_option maxRecDepth 100000 in
set_option maxHeartbeats 4000000 in
theorem resolve_any (v : Value) (R : List (List UInt8)) (T : List (List Lk)) (pr : Nat → Int) (w : World) (hv : NA w v R T pr) (hn : R.length ≤ 1000000) (hK : ∀ l ∈ T, l.length ≤ 1000000) (hk : ∀ k ∈ R, TOK k) (hq : ∀ l ∈ T, ∀ q ∈ l, TOK q.2) :
    Calls Tryd.prog 7 #[v] w fun e w' => Below w.heap.size w w' ∧ ∃ (X : List (List Nat)) (b : Int × Int × Int) (v' : Value) (TL : List (Value × List Int)), e = .returned (.tuple #[v', erR b]) ∧ AnsR R T pr X b ∧ RW w' w.heap.size v' TL ∧ TL.map (·.2) = X.map ni := by
  have H1 := hide (tooMuch_any R.length v (KT T) w (hv.len ▸ hv.ln.nk) hn (fun x hx => by
    rw [KT_at (List.getElem?_eq_getElem (by rw [hv.len]; exact hx : x < T.length))]; exact hK _ (List.getElem_mem _)))
  have H2 := hide (places_any v R w hv.rf hn hk)
  obtain ⟨a0, c0, hav, _⟩ := hv.rf
  have HV := hide hv
  have HQ := hide hq
  subst hav
  clear hv hn hK hk hq
  go_enter Tryd.func7, Tryd.ntmps7
  go_wp2_with fail
  refine H1.out.mono ?_
  rintro e w1 ⟨rfl, hw⟩
  obtain rfl := hw.symm
  cases ht : tooB R.length (KT T) with
  | true =>
    have HT := hide ht
    clear ht H2 HQ H1
    go_wp2_with fail
    go_ret2
    exact ⟨Below.refl _ _, [], (5, 0, 0), .slice none 0 0, [], rfl, .many HT.out, RW.nil _ _, rfl⟩
  | false =>
    have HT := hide ht
    have HS := hide (tooB_no ht)
    clear ht H1
    go_wp2_with fail
    refine H2.out.mono ?_
    rintro e w2 ⟨hb2, hc⟩
    have HB2 := hide hb2
    clear H2 hb2
    rcases hc with ⟨x, p, rfl, hx, hm, ho⟩ | ⟨m, rfl, hm, hM, ho⟩
    · have HX := hide (And.intro hx (And.intro hm ho))
      clear hx hm ho
      unfold ltV
      go_wp2_with fail
      go_ret2
      exact ⟨HB2.out, [], (11, 0, (x : Int)), .slice none 0 0, [], rfl, .twice HT.out x p HX.out.1 HX.out.2.1 HX.out.2.2, RW.nil _ _, rfl⟩
    · have HM := hide hM
      have HO := hide ho
      have H3 := hide (ties_any m _ R T w2 (HV.out.ln.later HB2.out) hM HS.out.1 (by rw [HV.out.len]; exact HS.out.1) (fun l hl => by
        obtain ⟨x, hx⟩ := List.getElem?_of_mem hl
        have := HS.out.2 x (by rw [← HV.out.len]; exact (List.getElem?_eq_some_iff.1 hx).1)
        rw [KT_at hx] at this; exact this) HQ.out)
      clear hm hM ho
      go_wp2_with fail
      refine H3.out.mono ?_
      rintro e w3 ⟨hb3, hc⟩
      have HB3 := hide (HB2.out.trans (hb3.mono HB2.out.size))
      have HSZ := hide HB2.out.size
      clear H3 hb3 HM
      rcases hc with ⟨x, i, l, q, no, rfl, hl, hq, hr, hw⟩ | ⟨v1, v2, rfl, ho1, ho2, hap, hr⟩
      · have HX := hide (And.intro hl (And.intro hq (And.intro hr hw)))
        have hno : no = 10 ∨ no = 24 := by rcases hw with ⟨_, e⟩ | ⟨_, _, e⟩ <;> simp [e]
        have HNO := hide hno
        clear hl hq hr hw hno
        go_wp2_with fail
        go_ret2
        refine ⟨HB3.out, [], (no, (x : Int), (i : Int)), .slice none 0 0, [], ?_, .link HT.out HO.out x i l q no HX.out.1 HX.out.2.1 HX.out.2.2.1 HX.out.2.2.2, RW.nil _ _, rfl⟩
        unfold erR
        rw [if_pos (by rcases HNO.out with e | e <;> simp [e])]
        rfl
      · have HR := hide hr
        have HN1 := hide (tU_nam HV.out.len (fun x q hx hq => wOf_nam (R := R) hx hq) hr)
        have HN2 := hide (tU_nam HV.out.len (fun x q hx hq => bOf_nam (R := R) hx hq) hr)
        have h16 : ∀ l ∈ T, l.length ≤ 16 := fun l hl => by
          obtain ⟨x, hx⟩ := List.getElem?_of_mem hl
          have := HS.out.2 x (by rw [← HV.out.len]; exact (List.getElem?_eq_some_iff.1 hx).1)
          rw [KT_at hx] at this; exact this
        have HL : Hid ((tU (wOf R) T T.length).length ≤ 65536 ∧ (tU (bOf R) T T.length).length ≤ 65536) := hide (by
          have h1 := tU_len (f := wOf R) (wOf_len R) h16 T.length
          have h2 := tU_len (f := bOf R) (bOf_len R) h16 T.length
          have h3 := HS.out.1
          have h4 := HV.out.len
          omega)
        have HO2 := hide (TW.OM.rm ho2)
        have H4 := hide (groups_any R.length v1 (tU (wOf R) T T.length) w3 (TW.OM.rm ho1) (by have := HL.out.1; omega) HS.out.1 HN1.out)
        obtain ⟨a1, c1, hv1⟩ := TW.rm_lt (TW.OM.rm ho1)
        obtain ⟨a2, c2, hv2⟩ := TW.rm_lt (TW.OM.rm ho2)
        obtain ⟨m1, hm1⟩ : ∃ m1, (tU (wOf R) T T.length).length = m1 := ⟨_, rfl⟩
        obtain ⟨m2, hm2⟩ : ∃ m2, (tU (bOf R) T T.length).length = m2 := ⟨_, rfl⟩
        rw [hm1] at hv1
        rw [hm2] at hv2
        subst hv1
        subst hv2
        clear ho1 ho2 hap hr h16 hm1 hm2
        go_wp2_with fail
        refine H4.out.mono ?_
        rintro e w4 ⟨P, rfl, hP, hV4, hb4⟩
        have HB4 := hide (HB3.out.trans (hb4.mono HB3.out.size))
        have HV4 := hide hV4
        have H5 := hide (gathered_any R.length P (grp R.length (pn (tU (wOf R) T T.length))) (hdR R T) w4 hV4 (grp_len _ _) HS.out.1 (fun x hx => grp_at _ hx) (hdR_ok R T _))
        have HO3 := hide (HO2.out.later hb4)
        clear hP hV4 hb4 H4 HO2
        go_wp2_with fail
        refine H5.out.mono ?_
        rintro e w5 ⟨P2, lv, V, rfl, hG⟩
        have HB5 := hide (HB4.out.trans (hG.low.mono HB4.out.size))
        have HG := hide hG
        obtain ⟨la, lc, hlv⟩ := owns_slice hG.out
        obtain ⟨K, hKe⟩ : ∃ K, Hid ((hsT (hdR R T) R.length).length = K) := ⟨_, hide rfl⟩
        rw [hKe.out] at hlv
        subst hlv
        have H6 := hide (between_any P2 R.length _ (nuL (hdR R T) R.length) (tU (bOf R) T T.length) w5 (HO3.out.later hG.low) hG.num (nuL_len _ _) (by have := HL.out.2; omega) HN2.out)
        have HNP2 := hide (nuL_len (hdR R T) R.length)
        clear hG H5
        have hEE : (btw (nuL (hdR R T) R.length) (tU (bOf R) T T.length)).length ≤ 65536 := by rw [btw_len]; exact HL.out.2
        have HEL := hide hEE
        have hK4 : K ≤ 4096 := by rw [← hKe.out]; exact Nat.le_trans (hsT_len _ _) HS.out.1
        have HK4 := hide hK4
        have HNE : Hid (∀ (j : Nat) (p : Int × Int), (btw (nuL (hdR R T) R.length) (tU (bOf R) T T.length))[j]? = some p → namB (K : Int) p = true) := hide (by rw [← hKe.out]; exact nam_btw (hdR_ok R T _) HN2.out)
        clear hEE hK4
        go_wp2_with fail
        refine H6.out.mono ?_
        rintro e w6 ⟨v3, rfl, hO6, hb6⟩
        have HB6 := hide (HB5.out.trans (hb6.mono HB5.out.size))
        have HG6 := hide (HG.out.later hb6)
        have H7 := hide (weave_any K v3 _ w6 (TW.OM.rm hO6) (by have := HEL.out; omega) HK4.out HNE.out)
        obtain ⟨a3, c3, hv3⟩ := TW.rm_lt (TW.OM.rm hO6)
        subst hv3
        clear hb6 hO6 H6 HG
        go_wp2_with fail
        refine H7.out.mono ?_
        rintro e w7 ⟨G, V2, rfl, hW⟩
        have HB7 := hide (HB6.out.trans (hW.low.mono HB6.out.size))
        have HG7 := hide (HG6.out.later hW.low)
        have HW7 := hide hW
        have hT : (List.range K).map (gX (hdR R T) R.length R.length) = (hsR R T).map (memT (hdR R T) R.length) := by rw [← hKe.out]; exact gX_all _ _
        have hTl : ((hsR R T).map (memT (hdR R T) R.length)).length = K := by rw [List.length_map]; exact hKe.out
        have H8 : Hid (Calls Tryd.prog 30 #[.slice a0 R.length c0, .slice la K lc] w7 fun e w' => ∃ g, e = .returned (.slice (some ⟨g, 0, none⟩) K K) ∧ w7.heap.size ≤ g ∧ PW w' g K (prR R T pr) ∧ Below w7.heap.size w7 w') := hide (by
          have hLI := HG7.out.li
          rw [hKe.out, hT] at hLI
          have h := urgency_any R.length _ _ pr ((hsR R T).map (memT (hdR R T) R.length)) w7 (HV.out.later HB7.out).pz hLI (by have := HS.out.1; omega) (by rw [hTl]; have := HK4.out; omega) (fun l hl => by
            obtain ⟨x, hx, rfl⟩ := List.mem_map.1 hl
            have hxx := mem_hsT.1 hx
            refine ⟨List.length_pos_of_mem (a := x) ?_, ?_, fun y hy => ?_⟩
            · unfold memT; rw [List.mem_filter, decide_eq_true_eq]; exact ⟨List.mem_range.2 hxx.1, hxx.2⟩
            · unfold memT; have := List.length_filter_le (fun k => decide (hdR R T k = x)) (List.range R.length); rw [List.length_range] at this; have := HS.out.1; omega
            · unfold memT at hy; rw [List.mem_filter] at hy; exact List.mem_range.1 hy.1)
          rw [hTl] at h
          exact h)
        have HXL : Hid (∀ x, x < K → (gX (hdR R T) R.length R.length x).length ≤ 4096) := hide (fun x _ => by
          unfold gX memT
          have := List.length_filter_le (fun k => decide (hdR R T k = gT (hsT (hdR R T) R.length) x)) (List.range R.length)
          rw [List.length_range] at this; have := HS.out.1; omega)
        clear hT hTl
        go_wp2_with fail
        refine H8.out.mono ?_
        rintro e w8 ⟨g8, rfl, hg8, hPW, hb8⟩
        have HB8 := hide (HB7.out.trans (hb8.mono HB7.out.size))
        have HG8 := hide (HG7.out.later hb8)
        have H9 := hide (order_any w6.heap.size w6 K (.slice (some ⟨g8, 0, none⟩) K K) (prR R T pr) G V2 (eR R T) w8 (HW7.out.later hb8 HW7.out.low.size) (Nat.le_trans HW7.out.low.size hb8.size) hPW.pb HK4.out (by unfold eR; rw [pn_len]; have := HEL.out; omega) (pn_mem HNE.out) (sortOk HK4.out))
        clear hg8 hPW hb8 H8 HG7 HW7
        go_wp2_with fail
        refine H9.out.mono ?_
        rintro e w9 ⟨row, vr, rfl, hOr, hGr, hAv, hb9⟩
        have HB9 := hide (HB8.out.trans (hb9.mono HB8.out.size))
        have HG9 := hide (HG8.out.later hb9)
        have HOR := hide hOr
        have HGR := hide hGr
        have HAV := hide hAv
        clear hb9 H9 hOr hGr hAv HG8
        by_cases hrl : row.length = K
        · have hd : decide (row.length = K) = true := decide_eq_true hrl
          have HRL := hide hrl
          rw [hd]
          clear hd hrl
          obtain ⟨ra, rc, hvr⟩ := IN.OM.slice HOR.out
          rw [ni_len, HRL.out] at hvr
          subst hvr
          have hmk := run_make_row' (P := Tryd.prog) 29 41 (.slice none 0 0) 24 Tryd.underlying29 Tryd.infoRow rfl .i64 .i64 K (by have := HK4.out; omega) (by have := HK4.out; omega)
          have HE0 := hide (OutW.made w9 K V row)
          have HB0 := hide ((Below.refl w9.heap.size w9).alloc (Nat.le_refl _) (.cells (madeCells #[.slice none 0 0] K) 41))
          go_wp2_with fail
          generalize (w9.alloc (.cells (madeCells #[.slice none 0 0] K) 41)) = wA at *
          obtain ⟨g, hg⟩ : ∃ g, Hid (w9.heap.size = g) := ⟨_, hide rfl⟩
          rw [hg.out] at HE0 HB0 ⊢
          clear hmk
          go_loopw [64] (fun i wr => ∃ j : Nat, j ≤ K ∧ i = .int .i64 (j : Int) ∧ Hid (OutW wr g K V row j) ∧ Hid (Below g w9 wr)) (fun i _ => K - (intOf i).toNat)
          case atStart => exact ⟨0, Nat.zero_le _, rfl, HE0, HB0⟩
          case round =>
            clear HE0 HB0
            obtain ⟨j, hj, rfl, HE0, HB0⟩ := hrel
            by_cases hlt : j < K
            · obtain ⟨x, hx⟩ : ∃ x, row[j]? = some x := ⟨_, List.getElem?_eq_getElem (by rw [HRL.out]; exact hlt)⟩
              have hxK : x < K := HGR.out.low.2 x (List.mem_of_getElem? hx)
              obtain ⟨rb, rfl⟩ : ∃ rb, ra = some ⟨rb, 0, none⟩ := by
                rcases HOR.out.2 with ⟨e1, e2⟩ | ⟨g2, cap, cur, e1, _⟩
                · rw [ni_len, HRL.out] at e2; omega
                · injection e1 with e1 _ _; exact ⟨g2, e1⟩
              have HG9' := HG9.out
              rw [hKe.out] at HG9'
              obtain ⟨g5, rfl⟩ := HG9'.base (by omega)
              obtain ⟨sa, sc, hVx⟩ := HG9'.sl hxK
              obtain ⟨sn, hsn⟩ : ∃ sn, (gX (hdR R T) R.length R.length x).length = sn := ⟨_, rfl⟩
              rw [hsn] at hVx
              have p0 := om_cell HOR.out hx
              have p1 := HG9'.cell rfl hxK
              have q0 := (World.ownsRow.lt HOR.out rb rfl).2
              have q1 := (World.ownsRow.lt HG9'.out g5 rfl).2
              rw [hg.out] at q0 q1
              rw [hVx] at p1
              have CS : Hid (wr.cell? ⟨rb, j, none⟩ = some (.int .i64 (x : Int)) ∧ wr.cell? ⟨g5, x, none⟩ = some (.slice sa sn sc)) := hide ⟨(HB0.out.cell (p := ⟨rb, j, none⟩) q0).trans p0, (HB0.out.cell (p := ⟨g5, x, none⟩) q1).trans p1⟩
              have HX := hide (And.intro hx hVx)
              have i0 : (0 : Int) ≤ (x : Int) := by omega
              have i1 : (x : Int) < (K : Int) := by omega
              have k0 : (0 : Int) ≤ (j : Int) := by omega
              have k1 : (j : Int) < (K : Int) := by omega
              have wk : wrap64 ((j : Int) + 1) = (j : Int) + 1 := by have := HK4.out; unfold wrap64; omega
              clear p0 p1 q0 q1 HG9' hx hVx hsn
              obtain ⟨s1, s2⟩ := CS.out
              have z2 : wr.cell? ⟨g, j, none⟩ = some (.slice none 0 0) := by
                rw [World.rowIs.cell HE0.out (i := j) hlt, if_neg (by omega)]
              have z3 := World.rowIs.frozen HE0.out j
              obtain ⟨D2, hD2⟩ : ∃ V, wr.setCell ⟨g, j, none⟩ (.slice sa sn sc) = V := ⟨_, rfl⟩
              have HE2 : Hid (OutW D2 g K V row (j + 1)) := hide (by rw [← hD2, ← HX.out.2]; exact OutW.set HE0.out HX.out.1)
              have HB2 : Hid (Below g w9 D2) := hide (by rw [← hD2]; exact gb_below HB0.out (gb_set wr g _ _) (Nat.le_refl _) (Nat.le_of_lt (World.rowIs.lt HE0.out)))
              clear HE0 HB0 CS
              go_wp2_with fail
              go_roundw
              case rel => exact ⟨j + 1, by omega, by go_num, HE2, HB2⟩
              case measure => first | (rw [wk]; simp [intOf]; omega) | (simp [intOf]; omega)
            · obtain rfl : j = K := by omega
              have HE1 : Hid (OutW wr g row.length V row row.length) := hide (by rw [HRL.out]; exact HE0.out)
              have HRW := hide (gather_rw HG9.out (HB0.out.mono (Nat.le_of_eq hg.out)) HE1.out HGR.out.low.1 (by rw [hKe.out]; exact HGR.out.low.2) (B' := w.heap.size) HB4.out.size (by rw [← hg.out]; exact HB9.out.size) (by rw [HRL.out]; exact HK4.out) (by rw [hKe.out]; exact HXL.out))
              rw [HRL.out] at HRW
              go_wp2_with fail
              go_ret2
              refine ⟨HB9.out.trans (HB0.out.mono (by rw [← hg.out]; exact HB9.out.size)), _, (0, 0, 0), _, _, rfl, .good HT.out HO.out HR.out row (by unfold hsR; rw [hKe.out]; exact HGR.out) (by unfold hsR; rw [hKe.out]; exact HAV.out) (by unfold hsR; rw [hKe.out]; exact HRL.out), HRW.out, ?_⟩
              rw [List.map_map, List.map_map]; rfl
        · have hd : decide (row.length = K) = false := decide_eq_false hrl
          have HRL := hide hrl
          rw [hd]
          clear hd hrl
          go_wp2_with fail
          go_ret2
          exact ⟨HB9.out, [], (12, 0, 0), .slice none 0 0, [], rfl, .loop HT.out HO.out HR.out row (by unfold hsR; rw [hKe.out]; exact HGR.out) (by unfold hsR; rw [hKe.out]; exact HAV.out) (by unfold hsR; rw [hKe.out]; exact HRL.out), RW.nil _ _, rfl⟩
end Go.Proofs.YtcdhblfefpkjgaaDoor
