/-
  My own text: edged() of BalanceKnown (printed by mkbn4.py).
-/
import Derived.Test.YtmebomifakmkbaaDoorBN3
import Derived.Test.YtmebomifakmkbaaDoorBX
import Derived.Test.YtmebomifakmkbaaDoorBS
namespace Go.Proofs.YtmebomifakmkbaaDoor
open Go.RowKit

abbrev qtA : Array Value := #[.int .i64 (-9223372036854775808), .int .i64 (-1), .int .i64 0, .int .i64 1, .int .i64 2, .int .i64 3, .int .i64 4, .int .i64 5, .int .i64 9223372036854775804, .int .i64 9223372036854775805, .int .i64 9223372036854775806, .int .i64 9223372036854775807]
abbrev nmA : Array Value := #[.int .i64 (-1), .int .i64 0, .int .i64 1, .int .i64 6, .int .i64 7, .int .i64 8, .int .i64 9, .int .i64 10, .int .i64 65536, .int .i64 65537]
theorem qt_at {W : World} {g : Nat} (h : W.heap[g]? = some (.cells qtA 2 (0, 0))) {i : Nat} (hi : i < 12) : ∃ x : Int, x ≤ top ∧ W.cell? ⟨g, i, none⟩ = some (.int .i64 x) := by
  match i, hi with
  | 0, _ => exact ⟨(-9223372036854775808), by decide, by rw [cell_of_row _ _ 0 _ _ _ h]; rfl⟩
  | 1, _ => exact ⟨(-1), by decide, by rw [cell_of_row _ _ 1 _ _ _ h]; rfl⟩
  | 2, _ => exact ⟨0, by decide, by rw [cell_of_row _ _ 2 _ _ _ h]; rfl⟩
  | 3, _ => exact ⟨1, by decide, by rw [cell_of_row _ _ 3 _ _ _ h]; rfl⟩
  | 4, _ => exact ⟨2, by decide, by rw [cell_of_row _ _ 4 _ _ _ h]; rfl⟩
  | 5, _ => exact ⟨3, by decide, by rw [cell_of_row _ _ 5 _ _ _ h]; rfl⟩
  | 6, _ => exact ⟨4, by decide, by rw [cell_of_row _ _ 6 _ _ _ h]; rfl⟩
  | 7, _ => exact ⟨5, by decide, by rw [cell_of_row _ _ 7 _ _ _ h]; rfl⟩
  | 8, _ => exact ⟨9223372036854775804, by decide, by rw [cell_of_row _ _ 8 _ _ _ h]; rfl⟩
  | 9, _ => exact ⟨9223372036854775805, by decide, by rw [cell_of_row _ _ 9 _ _ _ h]; rfl⟩
  | 10, _ => exact ⟨9223372036854775806, by decide, by rw [cell_of_row _ _ 10 _ _ _ h]; rfl⟩
  | 11, _ => exact ⟨9223372036854775807, by decide, by rw [cell_of_row _ _ 11 _ _ _ h]; rfl⟩
theorem nm_at {W : World} {g : Nat} (h : W.heap[g]? = some (.cells nmA 3 (0, 0))) {i : Nat} (hi : i < 10) : ∃ x : Int, W.cell? ⟨g, i, none⟩ = some (.int .i64 x) := by
  match i, hi with
  | 0, _ => exact ⟨(-1), by rw [cell_of_row _ _ 0 _ _ _ h]; rfl⟩
  | 1, _ => exact ⟨0, by rw [cell_of_row _ _ 1 _ _ _ h]; rfl⟩
  | 2, _ => exact ⟨1, by rw [cell_of_row _ _ 2 _ _ _ h]; rfl⟩
  | 3, _ => exact ⟨6, by rw [cell_of_row _ _ 3 _ _ _ h]; rfl⟩
  | 4, _ => exact ⟨7, by rw [cell_of_row _ _ 4 _ _ _ h]; rfl⟩
  | 5, _ => exact ⟨8, by rw [cell_of_row _ _ 5 _ _ _ h]; rfl⟩
  | 6, _ => exact ⟨9, by rw [cell_of_row _ _ 6 _ _ _ h]; rfl⟩
  | 7, _ => exact ⟨10, by rw [cell_of_row _ _ 7 _ _ _ h]; rfl⟩
  | 8, _ => exact ⟨65536, by rw [cell_of_row _ _ 8 _ _ _ h]; rfl⟩
  | 9, _ => exact ⟨65537, by rw [cell_of_row _ _ 9 _ _ _ h]; rfl⟩
theorem wrap_sm {n : Nat} (h : n < 1000) : IntKind.i64.wrap (n : Int) = (n : Int) := by rw [IntKind.wrap_i64]; omega
theorem wrap_sm64 {n : Nat} (h : n < 1000) : wrap64 (n : Int) = (n : Int) := by unfold wrap64; omega
theorem tmod_sm (R : Nat) : ((R : Int)).tmod 160 = ((R % 160 : Nat) : Int) := by rw [Int.tmod_eq_emod_of_nonneg (by omega)]; rfl
theorem emod_sm (R : Nat) : ((R : Int)) % 160 = ((R % 160 : Nat) : Int) := rfl
/-- What edged has laid. -/
structure EP (w : World) (qb cq b1 b2 : Nat) (ps : List (Int × Value)) (W : World) : Prop where
  low : Below w.heap.size w W
  row : W.ownsRow w.heap.size 24 2 (.slice (some ⟨qb, 0, none⟩) 160 cq) 160 (pc ps)
  len : ps.length = 160
  good : ∀ p ∈ ps, p.1 ≤ top ∧ Gd w.heap.size W p.2
  q : W.heap[b1]? = some (.cells qtA 2 (0, 0))
  n : W.heap[b2]? = some (.cells nmA 3 (0, 0))
theorem EP.later {w : World} {qb cq b1 b2 : Nat} {ps : List (Int × Value)} {W W' : World} (h : EP w qb cq b1 b2 ps W) (hb : Below W.heap.size W W') : EP w qb cq b1 b2 ps W' :=
  ⟨h.low.trans (hb.mono h.low.size), owns_later h.row hb, h.len, fun p hp => ⟨(h.good p hp).1, (h.good p hp).2.later hb⟩, blk_later h.q hb, blk_later h.n hb⟩
theorem EP.pos {w : World} {qb cq b1 b2 : Nat} {ps : List (Int × Value)} {W : World} (h : EP w qb cq b1 b2 ps W) {j : Nat} (hj : j < 160) :
    ∃ (av : Int) (a : Option Addr) (c : Nat) (L : List Mk), W.cell? ⟨qb, j * 2, none⟩ = some (.int .i64 av) ∧ W.cell? ⟨qb, j * 2 + 1, none⟩ = some (.slice a L.length c) ∧ av ≤ top ∧ RM W (.slice a L.length c) L ∧ MOk L ∧ L.length ≤ 11 := by
  obtain ⟨p, hp, hm⟩ := mem_at (l := ps) (k := j) (by rw [h.len]; exact hj)
  obtain ⟨e0, e1⟩ := pc_at hp
  obtain ⟨h1, L, h2, h3, h4⟩ := h.good p hm
  obtain ⟨a, c, e⟩ := OM.slice h2
  rw [e] at e1 h2
  exact ⟨p.1, a, c, L, (h.row.cellAt (j * 2) (by omega)).trans e0, (h.row.cellAt (j * 2 + 1) (by omega)).trans e1, h1, OM.rm h2, h3, h4⟩
set_option maxRecDepth 100000 in
set_option maxHeartbeats 8000000 in
theorem edged_any (w : World) (hE : ErrType w) :
    Calls Tryd.prog 27 #[] w fun e w' => e = .returned (.bool true) ∧ Below w.heap.size w w' := by
  have HE := hide hE
  have HSM := hide (some_any w)
  clear hE
  go_enter Tryd.func27, Tryd.ntmps27
  go_wp2_with fail
  refine HSM.out.mono ?_
  rintro e w1 ⟨v, ps, rfl, hrow, hlen, hgd, hlow⟩
  obtain ⟨qb, cq, hv, _, _⟩ := World.ownsRow.form hrow (by omega)
  subst hv
  have z1 : (w1.alloc (.cells #[.int .i64 (-9223372036854775808), .int .i64 (-1), .int .i64 0, .int .i64 1, .int .i64 2, .int .i64 3, .int .i64 4, .int .i64 5, .int .i64 9223372036854775804, .int .i64 9223372036854775805, .int .i64 9223372036854775806, .int .i64 9223372036854775807] 2)).heap.size = w1.heap.size + 1 := by simp
  have b1 : Below w1.heap.size w1 (w1.alloc (.cells #[.int .i64 (-9223372036854775808), .int .i64 (-1), .int .i64 0, .int .i64 1, .int .i64 2, .int .i64 3, .int .i64 4, .int .i64 5, .int .i64 9223372036854775804, .int .i64 9223372036854775805, .int .i64 9223372036854775806, .int .i64 9223372036854775807] 2)) := (Below.refl _ _).alloc (Nat.le_refl _) _
  have n1 := alloc_new w1 (.cells #[.int .i64 (-9223372036854775808), .int .i64 (-1), .int .i64 0, .int .i64 1, .int .i64 2, .int .i64 3, .int .i64 4, .int .i64 5, .int .i64 9223372036854775804, .int .i64 9223372036854775805, .int .i64 9223372036854775806, .int .i64 9223372036854775807] 2)
  have b2 : Below (w1.alloc (.cells #[.int .i64 (-9223372036854775808), .int .i64 (-1), .int .i64 0, .int .i64 1, .int .i64 2, .int .i64 3, .int .i64 4, .int .i64 5, .int .i64 9223372036854775804, .int .i64 9223372036854775805, .int .i64 9223372036854775806, .int .i64 9223372036854775807] 2)).heap.size (w1.alloc (.cells #[.int .i64 (-9223372036854775808), .int .i64 (-1), .int .i64 0, .int .i64 1, .int .i64 2, .int .i64 3, .int .i64 4, .int .i64 5, .int .i64 9223372036854775804, .int .i64 9223372036854775805, .int .i64 9223372036854775806, .int .i64 9223372036854775807] 2)) ((w1.alloc (.cells #[.int .i64 (-9223372036854775808), .int .i64 (-1), .int .i64 0, .int .i64 1, .int .i64 2, .int .i64 3, .int .i64 4, .int .i64 5, .int .i64 9223372036854775804, .int .i64 9223372036854775805, .int .i64 9223372036854775806, .int .i64 9223372036854775807] 2)).alloc (.cells #[.int .i64 (-1), .int .i64 0, .int .i64 1, .int .i64 6, .int .i64 7, .int .i64 8, .int .i64 9, .int .i64 10, .int .i64 65536, .int .i64 65537] 3)) := (Below.refl _ _).alloc (Nat.le_refl _) _
  have n2 := alloc_new (w1.alloc (.cells #[.int .i64 (-9223372036854775808), .int .i64 (-1), .int .i64 0, .int .i64 1, .int .i64 2, .int .i64 3, .int .i64 4, .int .i64 5, .int .i64 9223372036854775804, .int .i64 9223372036854775805, .int .i64 9223372036854775806, .int .i64 9223372036854775807] 2)) (.cells #[.int .i64 (-1), .int .i64 0, .int .i64 1, .int .i64 6, .int .i64 7, .int .i64 8, .int .i64 9, .int .i64 10, .int .i64 65536, .int .i64 65537] 3)
  rw [z1] at n2
  have bb := b1.trans (b2.mono b1.size)
  have HP0 : Hid (EP w qb cq w1.heap.size (w1.heap.size + 1) ps ((w1.alloc (.cells #[.int .i64 (-9223372036854775808), .int .i64 (-1), .int .i64 0, .int .i64 1, .int .i64 2, .int .i64 3, .int .i64 4, .int .i64 5, .int .i64 9223372036854775804, .int .i64 9223372036854775805, .int .i64 9223372036854775806, .int .i64 9223372036854775807] 2)).alloc (.cells #[.int .i64 (-1), .int .i64 0, .int .i64 1, .int .i64 6, .int .i64 7, .int .i64 8, .int .i64 9, .int .i64 10, .int .i64 65536, .int .i64 65537] 3))) := hide ⟨hlow.trans (bb.mono hlow.size), owns_later hrow bb, hlen, fun p hp => ⟨(hgd p hp).1, (hgd p hp).2.later bb⟩, blk_later n1 b2, n2⟩
  clear hrow hlen hgd hlow z1 b1 n1 b2 n2 bb HSM
  go_wp2_with fail
  generalize ((w1.alloc (.cells #[.int .i64 (-9223372036854775808), .int .i64 (-1), .int .i64 0, .int .i64 1, .int .i64 2, .int .i64 3, .int .i64 4, .int .i64 5, .int .i64 9223372036854775804, .int .i64 9223372036854775805, .int .i64 9223372036854775806, .int .i64 9223372036854775807] 2)).alloc (.cells #[.int .i64 (-1), .int .i64 0, .int .i64 1, .int .i64 6, .int .i64 7, .int .i64 8, .int .i64 9, .int .i64 10, .int .i64 65536, .int .i64 65537] 3)) = W0 at *
  go_loopw [5] (fun i wr => ∃ k : Nat, k ≤ 160 ∧ i = .int .i64 (k : Int) ∧ Hid (EP w qb cq w1.heap.size (w1.heap.size + 1) ps wr)) (fun i _ => 160 - (intOf i).toNat)
  case atStart => exact ⟨0, by omega, rfl, HP0⟩
  case round =>
    clear HP0
    obtain ⟨i, hi, rfl, HP⟩ := hrel
    by_cases hlt : i < 160
    · have hd : decide ((i : Int) < 160) = true := by rw [decide_eq_true_eq]; omega
      go_wp2_with fail
      go_loopw [6] (fun j wr => ∃ k : Nat, k ≤ 10 ∧ j = .int .i64 (k : Int) ∧ Hid (EP w qb cq w1.heap.size (w1.heap.size + 1) ps wr)) (fun i _ => 10 - (intOf i).toNat)
      case atStart => exact ⟨0, by omega, rfl, HP⟩
      case round =>
        clear HP
        obtain ⟨n, hn, rfl, HP⟩ := hrel
        by_cases hltn : n < 10
        · have hdn : decide ((n : Int) < 10) = true := by rw [decide_eq_true_eq]; omega
          obtain ⟨R, hR⟩ : ∃ R : Nat, R = i + 1 := ⟨_, rfl⟩
          obtain ⟨r, hr⟩ : ∃ r : Nat, r = R % 160 := ⟨_, rfl⟩
          have hr160 : r < 160 := by rw [hr]; exact Nat.mod_lt _ (by decide)
          have hR1 : R < 1000 := by omega
          obtain ⟨av, a, ca, L, x0, x1, hav, hrm, hok, hl⟩ := HP.out.pos hlt
          obtain ⟨av2, a2, ca2, L2, y0, y1, hav2, hrm2, hok2, hl2⟩ := HP.out.pos hr160
          obtain ⟨nv, hnv⟩ := nm_at HP.out.n hltn
          have HX0 := hide x0
          have HX1 := hide x1
          have HY0 := hide y0
          have HY1 := hide y1
          have HNV := hide hnv
          have HEr := hide (HE.out.below HP.out.low)
          have HCK := hide (fun x : Gr wr => checks_law av nv _ L x.1 (hrm.later x.2) hok hav (by omega) (HEr.out.below x.2))
          have HSA := hide (fun x : Gr wr => same_law av av2 _ _ L L2 x.1 (hrm.later x.2) (hrm2.later x.2) (by omega) (by omega) (HEr.out.below x.2))
          have z0 : ∀ x : Gr wr, x.1.cell? ⟨qb, i * 2, none⟩ = some (.int .i64 av) := fun x => (x.2.cell (p := ⟨qb, i * 2, none⟩) (World.block_lt_of_cell? _ _ HX0.out)).trans HX0.out
          have z1 : ∀ x : Gr wr, x.1.cell? ⟨qb, i * 2 + 1, none⟩ = some (.slice a L.length ca) := fun x => (x.2.cell (p := ⟨qb, i * 2 + 1, none⟩) (World.block_lt_of_cell? _ _ HX1.out)).trans HX1.out
          have z2 : ∀ x : Gr wr, x.1.cell? ⟨qb, r * 2, none⟩ = some (.int .i64 av2) := fun x => (x.2.cell (p := ⟨qb, r * 2, none⟩) (World.block_lt_of_cell? _ _ HY0.out)).trans HY0.out
          have z3 : ∀ x : Gr wr, x.1.cell? ⟨qb, r * 2 + 1, none⟩ = some (.slice a2 L2.length ca2) := fun x => (x.2.cell (p := ⟨qb, r * 2 + 1, none⟩) (World.block_lt_of_cell? _ _ HY1.out)).trans HY1.out
          have z4 : ∀ x : Gr wr, x.1.cell? ⟨w1.heap.size + 1, n, none⟩ = some (.int .i64 nv) := fun x => (x.2.cell (p := ⟨w1.heap.size + 1, n, none⟩) (World.block_lt_of_cell? _ _ HNV.out)).trans HNV.out
          have k0 : (0 : Int) ≤ (i : Int) := by omega
          have k1 : (i : Int) < 160 := by omega
          have k2 : (0 : Int) ≤ (n : Int) := by omega
          have k3 : (n : Int) < 10 := by omega
          have k4 : (0 : Int) ≤ (r : Int) := by omega
          have k5 : (r : Int) < 160 := by omega
          have f0 : (i : Int) + 1 = (R : Int) := by rw [hR]; rfl
          have f1 : ((R : Int)).tmod 160 = (r : Int) := by rw [hr]; exact tmod_sm R
          have f2 : ((R : Int)) % 160 = (r : Int) := by rw [hr]; exact emod_sm R
          have f3 : IntKind.i64.wrap (R : Int) = (R : Int) := wrap_sm hR1
          have f4 : wrap64 (R : Int) = (R : Int) := wrap_sm64 hR1
          have f5 : IntKind.i64.wrap (r : Int) = (r : Int) := wrap_sm (Nat.lt_of_lt_of_le hr160 (by decide))
          clear x0 x1 y0 y1 hnv hrm hrm2 hok hok2 hav hav2 hR hr HX0 HX1 HY0 HY1
          go_wp2_with fail
          have HG0 := hide ((Below.refl wr.heap.size wr).drew)
          haveI : Nonempty (Gr wr) := ⟨⟨_, HG0.out⟩⟩
          refine region_class (C := fun w' => ∃ x : Gr wr, w' = x.1) (by kernel_rfl) (by kernel_rfl) ⟨⟨_, HG0.out⟩, rfl⟩ ?_
          repeat (first
            | go_big_quiet_skip
            | (go_big_quiet_want; (go_big_quiet_op; first
                | go_big_quiet_on
                | (apply Exists.intro; refine ⟨fun x => ?_, ?_⟩; (first
                    | (go_at_call 3; exact x.call (HCK.out x))
                    | (go_at_call 5; exact x.call (HSA.out x))); go_big_quiet_on))))
          refine wpQuiet_nil ?_
          rintro w8 ⟨x, rfl⟩
          obtain ⟨w8, hx8⟩ := x
          dsimp only
          have HP8 := hide (HP.out.later hx8)
          clear z0 z1 z2 z3 z4 hx8 HCK HSA HG0 this HP f0 f1 f2 f3 f4 f5 k4 k5 hr160 hR1 HNV HEr
          go_wp2_with fail
          go_loopw [7] (fun j wr => ∃ k : Nat, k ≤ 12 ∧ j = .int .i64 (k : Int) ∧ Hid (EP w qb cq w1.heap.size (w1.heap.size + 1) ps wr)) (fun i _ => 12 - (intOf i).toNat)
          case atStart => exact ⟨0, by omega, rfl, HP8⟩
          case round =>
            clear HP8
            obtain ⟨q, hq, rfl, HP⟩ := hrel
            by_cases hltq : q < 12
            · have hdq : decide ((q : Int) < 12) = true := by rw [decide_eq_true_eq]; omega
              go_wp2_with fail
              go_loopw [8] (fun j wr => ∃ k : Nat, k ≤ 4 ∧ j = .int .i64 (k : Int) ∧ Hid (EP w qb cq w1.heap.size (w1.heap.size + 1) ps wr)) (fun i _ => 4 - (intOf i).toNat)
              case atStart => exact ⟨0, by omega, rfl, HP⟩
              case round =>
                clear HP
                obtain ⟨kd, hkd, rfl, HP⟩ := hrel
                by_cases hltk : kd < 4
                · have hdk : decide ((kd : Int) < 4) = true := by rw [decide_eq_true_eq]; omega
                  obtain ⟨av, a, ca, L, x0, x1, hav, hrm, hok, hl⟩ := HP.out.pos hlt
                  obtain ⟨nv, hnv⟩ := nm_at HP.out.n hltn
                  obtain ⟨qv, hqt, hqv⟩ := qt_at HP.out.q hltq
                  have HX0 := hide x0
                  have HX1 := hide x1
                  have HNV := hide hnv
                  have HQV := hide hqv
                  have HEr := hide (HE.out.below HP.out.low)
                  have HMV := hide (fun x : Gr wr => moves_law av (kd : Int) qv nv _ L x.1 (hrm.later x.2) hok hav hqt (by omega) (HEr.out.below x.2))
                  have z0 : ∀ x : Gr wr, x.1.cell? ⟨qb, i * 2, none⟩ = some (.int .i64 av) := fun x => (x.2.cell (p := ⟨qb, i * 2, none⟩) (World.block_lt_of_cell? _ _ HX0.out)).trans HX0.out
                  have z1 : ∀ x : Gr wr, x.1.cell? ⟨qb, i * 2 + 1, none⟩ = some (.slice a L.length ca) := fun x => (x.2.cell (p := ⟨qb, i * 2 + 1, none⟩) (World.block_lt_of_cell? _ _ HX1.out)).trans HX1.out
                  have z4 : ∀ x : Gr wr, x.1.cell? ⟨w1.heap.size + 1, n, none⟩ = some (.int .i64 nv) := fun x => (x.2.cell (p := ⟨w1.heap.size + 1, n, none⟩) (World.block_lt_of_cell? _ _ HNV.out)).trans HNV.out
                  have z5 : ∀ x : Gr wr, x.1.cell? ⟨w1.heap.size, q, none⟩ = some (.int .i64 qv) := fun x => (x.2.cell (p := ⟨w1.heap.size, q, none⟩) (World.block_lt_of_cell? _ _ HQV.out)).trans HQV.out
                  have k4 : (0 : Int) ≤ (q : Int) := by omega
                  have k5 : (q : Int) < 12 := by omega
                  clear x0 x1 hnv hqv hrm hok hav hqt HX0 HX1
                  go_wp2_with fail
                  have HG0 := hide ((Below.refl wr.heap.size wr).drew)
                  haveI : Nonempty (Gr wr) := ⟨⟨_, HG0.out⟩⟩
                  refine region_class (C := fun w' => ∃ x : Gr wr, w' = x.1) (by kernel_rfl) (by kernel_rfl) ⟨⟨_, HG0.out⟩, rfl⟩ ?_
                  repeat (first
                    | go_big_quiet_skip
                    | (go_big_quiet_want; (go_big_quiet_op; first
                        | go_big_quiet_on
                        | (apply Exists.intro; refine ⟨fun x => ?_, ?_⟩; (go_at_call 4; exact x.call (HMV.out x)); go_big_quiet_on))))
                  refine wpQuiet_nil ?_
                  rintro w8 ⟨x, rfl⟩
                  obtain ⟨w8, hx8⟩ := x
                  dsimp only
                  have HP8 := hide (HP.out.later hx8)
                  clear z0 z1 z4 z5 hx8 HMV HG0 this HP HNV HQV HEr
                  go_wp2_with fail
                  go_roundw
                  case rel => exact ⟨kd + 1, by omega, by go_num, HP8⟩
                  case measure => simp [intOf]; omega
                · have hdk : decide ((kd : Int) < 4) = false := by rw [decide_eq_false_iff_not]; omega
                  go_wp2_with fail
                  go_roundw
                  case rel => exact ⟨q + 1, by omega, by go_num, HP⟩
                  case measure => simp [intOf]; omega
            · have hdq : decide ((q : Int) < 12) = false := by rw [decide_eq_false_iff_not]; omega
              go_wp2_with fail
              go_roundw
              case rel => exact ⟨n + 1, by omega, by go_num, HP⟩
              case measure => simp [intOf]; omega
        · have hdn : decide ((n : Int) < 10) = false := by rw [decide_eq_false_iff_not]; omega
          go_wp2_with fail
          go_roundw
          case rel => exact ⟨i + 1, by omega, by go_num, HP⟩
          case measure => simp [intOf]; omega
    · have hd : decide ((i : Int) < 160) = false := by rw [decide_eq_false_iff_not]; omega
      go_wp2_with fail
      go_ret
      exact ⟨rfl, HP.out.low⟩
end Go.Proofs.YtmebomifakmkbaaDoor
