/-
  My own text: layer 11: StoreKnown: few, edged (printed by mkkn2.py).
-/
import Derived.Test.YtgeholiagcckoaaGreatDoorKN1
import Derived.Test.YtgeholiagcckoaaGreatDoorQRs
import Derived.Test.YtgeholiagcckoaaGreatDoorKNo
namespace Go.Proofs.YtgeholiagcckoaaGreatDoor
open Go.RowKit Go.Extern Go.MapKept Go.ChangeMaps

/-- The keys of few, in memory. -/
def KF (W : World) (kg : Nat) : Prop := W.heap[kg]? = some (.cells #[.int .i64 0, .int .i64 0, .int .i64 0, .int .i64 1, .int .i64 1, .int .i64 0, .int .i64 1, .int .i64 2, .int .i64 (-1), .int .i64 7, .int .i64 (-1), .int .i64 1099511627776, .int .i64 9223372036854775807, .int .i64 (-9223372036854775808), .int .i64 (-9223372036854775808), .int .i64 9223372036854775807, .int .i64 0, .int .i64 256, .int .i64 256, .int .i64 0] 26 (0, 0))
theorem KF.later {W W' : World} {kg : Nat} (h : KF W kg) (hb : Below W.heap.size W W') : KF W' kg := (hb.block kg (Array.getElem?_eq_some_iff.1 h).1).trans h
theorem KF.at {W : World} {kg : Nat} (h : KF W kg) {i : Nat} (hi : i < 10) : ∃ x y : Int, KOK (x, y) ∧ W.cell? ⟨kg, i * 2, none⟩ = some (.int .i64 x) ∧ W.cell? ⟨kg, i * 2 + 1, none⟩ = some (.int .i64 y) := by
  have c : ∀ j : Nat, W.cell? ⟨kg, j, none⟩ = (#[.int .i64 0, .int .i64 0, .int .i64 0, .int .i64 1, .int .i64 1, .int .i64 0, .int .i64 1, .int .i64 2, .int .i64 (-1), .int .i64 7, .int .i64 (-1), .int .i64 1099511627776, .int .i64 9223372036854775807, .int .i64 (-9223372036854775808), .int .i64 (-9223372036854775808), .int .i64 9223372036854775807, .int .i64 0, .int .i64 256, .int .i64 256, .int .i64 0] : Array Value)[j]? := fun j => cell_of_row _ _ _ _ _ _ h
  match i, hi with
  | 0, _ => exact ⟨0, 0, ⟨by decide, by decide⟩, by rw [c]; rfl, by rw [c]; rfl⟩
  | 1, _ => exact ⟨0, 1, ⟨by decide, by decide⟩, by rw [c]; rfl, by rw [c]; rfl⟩
  | 2, _ => exact ⟨1, 0, ⟨by decide, by decide⟩, by rw [c]; rfl, by rw [c]; rfl⟩
  | 3, _ => exact ⟨1, 2, ⟨by decide, by decide⟩, by rw [c]; rfl, by rw [c]; rfl⟩
  | 4, _ => exact ⟨(-1), 7, ⟨by decide, by decide⟩, by rw [c]; rfl, by rw [c]; rfl⟩
  | 5, _ => exact ⟨(-1), 1099511627776, ⟨by decide, by decide⟩, by rw [c]; rfl, by rw [c]; rfl⟩
  | 6, _ => exact ⟨9223372036854775807, (-9223372036854775808), ⟨by decide, by decide⟩, by rw [c]; rfl, by rw [c]; rfl⟩
  | 7, _ => exact ⟨(-9223372036854775808), 9223372036854775807, ⟨by decide, by decide⟩, by rw [c]; rfl, by rw [c]; rfl⟩
  | 8, _ => exact ⟨0, 256, ⟨by decide, by decide⟩, by rw [c]; rfl, by rw [c]; rfl⟩
  | 9, _ => exact ⟨256, 0, ⟨by decide, by decide⟩, by rw [c]; rfl, by rw [c]; rfl⟩
  | _ + 10, hi => omega
/-- A row of numbers that may be asked, in memory. -/
def IF (W : World) (g n : Nat) (xs : Array Value) : Prop := W.heap[g]? = some (.cells xs 3 (0, 0)) ∧ ∀ i, i < n → ∃ x : Int, (IOK x ∧ x ≤ 9223372036854775807) ∧ xs[i]? = some (.int .i64 x)
theorem IF.later {W W' : World} {g n : Nat} {xs : Array Value} (h : IF W g n xs) (hb : Below W.heap.size W W') : IF W' g n xs := ⟨(hb.block g (Array.getElem?_eq_some_iff.1 h.1).1).trans h.1, h.2⟩
theorem IF.at {W : World} {g n : Nat} {xs : Array Value} (h : IF W g n xs) {i : Nat} (hi : i < n) : ∃ x : Int, (IOK x ∧ x ≤ 9223372036854775807) ∧ W.cell? ⟨g, i, none⟩ = some (.int .i64 x) := by
  obtain ⟨x, h1, h2⟩ := h.2 i hi
  exact ⟨x, h1, (cell_of_row _ _ _ _ _ _ h.1).trans h2⟩
theorem shs : ∀ i, i < 11 → ∃ x : Int, (IOK x ∧ x ≤ 9223372036854775807) ∧ (#[.int .i64 (-9223372036854775808), .int .i64 (-1), .int .i64 0, .int .i64 1, .int .i64 2, .int .i64 3, .int .i64 4, .int .i64 63, .int .i64 64, .int .i64 65, .int .i64 9223372036854775807] : Array Value)[i]? = some (.int .i64 x)
  | 0, _ => ⟨(-9223372036854775808), ⟨iok_of (by decide) (by decide), by decide⟩, rfl⟩
  | 1, _ => ⟨(-1), ⟨iok_of (by decide) (by decide), by decide⟩, rfl⟩
  | 2, _ => ⟨0, ⟨iok_of (by decide) (by decide), by decide⟩, rfl⟩
  | 3, _ => ⟨1, ⟨iok_of (by decide) (by decide), by decide⟩, rfl⟩
  | 4, _ => ⟨2, ⟨iok_of (by decide) (by decide), by decide⟩, rfl⟩
  | 5, _ => ⟨3, ⟨iok_of (by decide) (by decide), by decide⟩, rfl⟩
  | 6, _ => ⟨4, ⟨iok_of (by decide) (by decide), by decide⟩, rfl⟩
  | 7, _ => ⟨63, ⟨iok_of (by decide) (by decide), by decide⟩, rfl⟩
  | 8, _ => ⟨64, ⟨iok_of (by decide) (by decide), by decide⟩, rfl⟩
  | 9, _ => ⟨65, ⟨iok_of (by decide) (by decide), by decide⟩, rfl⟩
  | 10, _ => ⟨9223372036854775807, ⟨iok_of (by decide) (by decide), by decide⟩, rfl⟩
  | _ + 11, hi => by omega
theorem nss : ∀ i, i < 8 → ∃ x : Int, (IOK x ∧ x ≤ 9223372036854775807) ∧ (#[.int .i64 (-9223372036854775808), .int .i64 (-1), .int .i64 0, .int .i64 1, .int .i64 2, .int .i64 3, .int .i64 9223372036854775806, .int .i64 9223372036854775807] : Array Value)[i]? = some (.int .i64 x)
  | 0, _ => ⟨(-9223372036854775808), ⟨iok_of (by decide) (by decide), by decide⟩, rfl⟩
  | 1, _ => ⟨(-1), ⟨iok_of (by decide) (by decide), by decide⟩, rfl⟩
  | 2, _ => ⟨0, ⟨iok_of (by decide) (by decide), by decide⟩, rfl⟩
  | 3, _ => ⟨1, ⟨iok_of (by decide) (by decide), by decide⟩, rfl⟩
  | 4, _ => ⟨2, ⟨iok_of (by decide) (by decide), by decide⟩, rfl⟩
  | 5, _ => ⟨3, ⟨iok_of (by decide) (by decide), by decide⟩, rfl⟩
  | 6, _ => ⟨9223372036854775806, ⟨iok_of (by decide) (by decide), by decide⟩, rfl⟩
  | 7, _ => ⟨9223372036854775807, ⟨iok_of (by decide) (by decide), by decide⟩, rfl⟩
  | _ + 8, hi => by omega
theorem few_any (w : World) : Calls Tryz.prog 21 #[] w fun e w' => ∃ kg, e = .returned (.slice (some ⟨kg, 0, none⟩) 10 10) ∧ KF w' kg ∧ Below w.heap.size w w' := by
  go_enter Tryz.func21, Tryz.ntmps21
  go_wp2_with fail
  go_ret
  exact ⟨_, rfl, alloc_newV w _, (Below.refl _ _).alloc (Nat.le_refl _) _⟩
theorem rcl_new (w : World) (ps : List Cl) (xs : Array Value) (n cap : Nat) (hn : ps.length = n) (h : xs.toList = cc ps) : RCl (w.alloc (.cells xs 47)) (.slice (some ⟨w.heap.size, 0, none⟩) n cap) ps := by
  refine ⟨some ⟨w.heap.size, 0, none⟩, cap, by rw [hn], fun i p hp => ⟨w.heap.size, 0, rfl, ?_⟩⟩
  have hc : ∀ (j : Nat) (u : Value), (cc ps)[j]? = some u → (w.alloc (.cells xs 47)).cell? ⟨w.heap.size, 0 + j, none⟩ = some u := fun j u hj => by
    have := cells_new w xs 47 (cc ps) h j u hj
    rw [Addr.add_lit] at this
    exact this
  obtain ⟨e0, e1, e2, e3, e4, e5⟩ := cc_at ps i p hp
  exact ⟨hc _ _ e0, by rw [Nat.add_assoc]; exact hc _ _ e1, by rw [Nat.add_assoc]; exact hc _ _ e2, by rw [Nat.add_assoc]; exact hc _ _ e3, by rw [Nat.add_assoc]; exact hc _ _ e4, by rw [Nat.add_assoc]; exact hc _ _ e5⟩
theorem co0 {on kind : Int} {V : List UInt8} : KOK ((0 : Int), (0 : Int)) ∧ IOK (⟨on, kind, (0, 0), 0, V⟩ : Cl).N ∧ (⟨on, kind, (0, 0), 0, V⟩ : Cl).N ≤ 9223372036854775807 := ⟨kok0, iok_of (by show (-9223372036854775808 : Int) ≤ 0; decide) (by show (0 : Int) ≤ 9223372036854775807; decide), by show (0 : Int) ≤ 9223372036854775807; decide⟩
theorem zeroN : IOK (0 : Int) ∧ (0 : Int) ≤ 9223372036854775807 := ⟨iok_of (by decide) (by decide), by decide⟩
theorem ixK {n m : Nat} (h : n < m) (hm : m ≤ 100) : decide ((n : Int) < (m : Int)) = true ∧ (0 : Int) ≤ (n : Int) ∧ (n : Int) < (m : Int) ∧ wrap64 ((n : Int) + 1) = (n : Int) + 1 :=
  ⟨decide_eq_true (by omega), by omega, by omega, by unfold wrap64; omega⟩
set_option maxRecDepth 100000 in
set_option maxHeartbeats 16000000 in
theorem edged_any (w : World) (hET : ErrType w) : Calls Tryz.prog 5 #[] w fun e w' => e = .returned (.bool true) ∧ Below w.heap.size w w' := by
  have HE0 := hide hET
  clear hET
  have HF := hide (few_any w)
  go_enter Tryz.func5, Tryz.ntmps5
  go_wp2_with fail
  refine HF.out.mono ?_
  rintro e w1 ⟨kg, rfl, hkf, hb1⟩
  obtain ⟨w2, hw2⟩ : ∃ W, w1.alloc (.cells #[.int .i64 (-9223372036854775808), .int .i64 (-1), .int .i64 0, .int .i64 1, .int .i64 2, .int .i64 3, .int .i64 4, .int .i64 63, .int .i64 64, .int .i64 65, .int .i64 9223372036854775807] 3) = W := ⟨_, rfl⟩
  have hb2 : Below w1.heap.size w1 w2 := by rw [← hw2]; exact (Below.refl _ _).alloc (Nat.le_refl _) _
  have HKF := hide (hkf.later hb2)
  have HIF : Hid (IF w2 w1.heap.size 11 #[.int .i64 (-9223372036854775808), .int .i64 (-1), .int .i64 0, .int .i64 1, .int .i64 2, .int .i64 3, .int .i64 4, .int .i64 63, .int .i64 64, .int .i64 65, .int .i64 9223372036854775807]) := hide ⟨by rw [← hw2]; exact alloc_newV w1 _, shs⟩
  have HB2 := hide (hb1.trans (hb2.mono hb1.size))
  have HET := hide (HE0.out.below HB2.out)
  clear hkf hb1 hb2 HF
  go_wp2_with fail
  obtain ⟨sg, hsg⟩ : ∃ sg, w1.heap.size = sg := ⟨_, rfl⟩
  rw [hsg] at HIF ⊢
  clear hsg hw2
  go_loopw [3] (fun v wr => ∃ i : Nat, i ≤ 10 ∧ v = .int .i64 (i : Int) ∧ Hid (Below w2.heap.size w2 wr)) (fun v _ => 10 - (intOf v).toNat)
  case atStart => exact ⟨0, Nat.zero_le _, rfl, hide (Below.refl _ _)⟩
  case round =>
    obtain ⟨i, hi', rfl, HB⟩ := hrel
    by_cases hi : i < 10
    · have hdi : decide ((i : Int) < 10) = true := decide_eq_true (by omega)
      have wki : wrap64 ((i : Int) + 1) = (i : Int) + 1 := by unfold wrap64; omega
      go_wp2_with fail
      go_loopw [4] (fun v wr => ∃ k : Nat, k ≤ 11 ∧ v = .int .i64 (k : Int) ∧ Hid (Below w2.heap.size w2 wr)) (fun v _ => 11 - (intOf v).toNat)
      case atStart => exact ⟨0, Nat.zero_le _, rfl, HB⟩
      case round =>
        clear HB
        obtain ⟨k, hk', rfl, HB⟩ := hrel
        by_cases hk : k < 11
        · skip
          as_aux_lemma =>
            have i0 : (0 : Int) ≤ (i : Int) := by omega
            have i1 : (i : Int) < 10 := by omega
            have k0 : (0 : Int) ≤ (k : Int) := by omega
            have k1 : (k : Int) < 11 := by omega
            have hd2 : decide ((k : Int) < 11) = true := decide_eq_true k1
            have wk2 : wrap64 ((k : Int) + 1) = (k : Int) + 1 := by unfold wrap64; omega
            obtain ⟨x, y, hxy, hx, hy⟩ := HKF.out.at hi
            obtain ⟨s1, hs1, hc1⟩ := HIF.out.at hk
            obtain ⟨s2, hs2, hc2⟩ := HIF.out.at (i := 10 - k) (by omega)
            have hkl : kg < w2.heap.size := World.block_lt_of_cell? _ _ hx
            have hsl : sg < w2.heap.size := World.block_lt_of_cell? _ _ hc1
            have HX : Hid (∀ W, Below w2.heap.size w2 W → (fun W : World => W.cell? ⟨kg, i * 2, none⟩ = some (.int .i64 x) ∧ W.cell? ⟨kg, i * 2 + 1, none⟩ = some (.int .i64 y) ∧ W.cell? ⟨sg, k, none⟩ = some (.int .i64 s1) ∧ W.cell? ⟨sg, 10 - k, none⟩ = some (.int .i64 s2)) W) := hide (fun W hb => ⟨(hb.cell (p := ⟨kg, _, none⟩) hkl).trans hx, (hb.cell (p := ⟨kg, _, none⟩) hkl).trans hy, (hb.cell (p := ⟨sg, _, none⟩) hsl).trans hc1, (hb.cell (p := ⟨sg, _, none⟩) hsl).trans hc2⟩)
            have HH : Hid (∀ W, Below w2.heap.size w2 W → Calls Tryz.prog 22 #[.agg #[.int .i64 x, .int .i64 y], .int .i64 s1] W fun e w' => e = .returned (.bool true) ∧ Below W.heap.size W w') := hide (fun W hb => storeHash_law x y s1 W (hide (HET.out.below hb)))
            have HSC : Hid (∀ (W : World) (xs : Array Value), Below w2.heap.size w2 W → xs.toList = cc [⟨0, 9, (0, 0), 0, []⟩, ⟨1, 9, (0, 0), 0, []⟩, ⟨0, 0, (x, y), 0, [118]⟩, ⟨0, 3, (0, 0), 0, []⟩] → Calls Tryz.prog 23 #[.int .i64 s1, .int .i64 s2, .slice (some ⟨W.heap.size, 0, none⟩) 4 4] (W.alloc (.cells xs 47)) fun e w' => e = .returned (.bool true) ∧ Below (W.alloc (.cells xs 47)).heap.size (W.alloc (.cells xs 47)) w') := hide (fun W xs hb hx => script_law s1 s2 _ [⟨0, 9, (0, 0), 0, []⟩, ⟨1, 9, (0, 0), 0, []⟩, ⟨0, 0, (x, y), 0, [118]⟩, ⟨0, 3, (0, 0), 0, []⟩] _ (HET.out.below (hb.alloc hb.size _)) (rcl_new W [⟨0, 9, (0, 0), 0, []⟩, ⟨1, 9, (0, 0), 0, []⟩, ⟨0, 0, (x, y), 0, [118]⟩, ⟨0, 3, (0, 0), 0, []⟩] xs 4 4 rfl hx) (by
              intro p hp
              simp only [List.mem_cons, List.not_mem_nil, or_false] at hp
              rcases hp with rfl | rfl | rfl | rfl
              · exact co0
              · exact co0
              · exact ⟨hxy, zeroN⟩
              · exact co0) (by show (4 : Nat) ≤ 2600000000000; decide))
            have j1 : (0 : Int) ≤ 10 - (k : Int) := by omega
            have j2 : 10 - (k : Int) < 11 := by omega
            have j5 : wrap64 (10 - (k : Int)) = 10 - (k : Int) := by unfold wrap64; omega
            have j3 : IntKind.i64.wrap (10 - (k : Int)) = 10 - (k : Int) := by rw [IntKind.wrap_i64]; omega
            have j6 : (k : Int) ≤ 10 := by omega
            have j4 : IntKind.i64.wrap 10 = 10 := by decide
            have HPd := hide (HB.out.trans (((Below.refl wr.heap.size wr).drew).mono HB.out.size))
            have hHeld := hide (HX.out _ HPd.out)
            have HK := hide hk
            clear hx hy hc1 hc2 hxy hs1 hs2 hi hk hkl hsl
            go_wp2_with fail
            refine s_begins (S := (fun W : World => W.cell? ⟨kg, i * 2, none⟩ = some (.int .i64 x) ∧ W.cell? ⟨kg, i * 2 + 1, none⟩ = some (.int .i64 y) ∧ W.cell? ⟨sg, k, none⟩ = some (.int .i64 s1) ∧ W.cell? ⟨sg, 10 - k, none⟩ = some (.int .i64 s2))) [] 35 #[false, false, false, false, false, false, false, false, false, false, false, false, false, false, false, false, false, false, false, false, false, false, false, false, false, false, false, false, false, false, false, false, false, false, false] (by kernel_rfl) (by kernel_rfl) (by kernel_rfl) ?_
            refine sk0 (v := ?_) 0 25 #[true, false, false, false, false, false, false, false, false, false, false, false, false, false, false, false, false, false, false, false, false, false, false, false, false, false, false, false, false, false, false, false, false, false, false] rfl rfl (by kernel_rfl) (by kernel_rfl) (by kernel_rfl) (by kernel_rfl) (fun _ _ _ h => h) (by kernel_rfl) (by rfl) ?hy (fun _ => hHeld.out) ?_
            case hy => intro W; first | (go_simp; done) | (go_simp; with_reducible rfl)
            simp only [List.setIfInBounds_toArray, List.set_cons_zero, List.set_cons_succ]
            refine sk0 (v := ?_) 1 26 #[true, true, false, false, false, false, false, false, false, false, false, false, false, false, false, false, false, false, false, false, false, false, false, false, false, false, false, false, false, false, false, false, false, false, false] rfl rfl (by kernel_rfl) (by kernel_rfl) (by kernel_rfl) (by kernel_rfl) (fun _ _ _ h => h) (by kernel_rfl) (by rfl) ?hy (fun _ => hHeld.out) ?_
            case hy => intro W; first | (go_simp; done) | (go_simp; with_reducible rfl)
            simp only [List.setIfInBounds_toArray, List.set_cons_zero, List.set_cons_succ]
            refine sk0 (v := ?_) 2 27 #[true, true, true, false, false, false, false, false, false, false, false, false, false, false, false, false, false, false, false, false, false, false, false, false, false, false, false, false, false, false, false, false, false, false, false] rfl rfl (by kernel_rfl) (by kernel_rfl) (by kernel_rfl) (by kernel_rfl) (fun _ _ _ h => h) (by kernel_rfl) (by rfl) ?hy (fun _ => hHeld.out) ?_
            case hy => intro W; first | (go_simp; done) | (go_simp; with_reducible rfl)
            simp only [List.setIfInBounds_toArray, List.set_cons_zero, List.set_cons_succ]
            refine sk1 (v := ?_) 3 28 #[true, true, true, true, false, false, false, false, false, false, false, false, false, false, false, false, false, false, false, false, false, false, false, false, false, false, false, false, false, false, false, false, false, false, false] rfl rfl (by kernel_rfl) (by kernel_rfl) (by kernel_rfl) (by kernel_rfl) (by kernel_rfl) (by kernel_rfl) (fun _ _ _ h => h) (by kernel_rfl) (by rfl) ?hy hHeld.out ?_
            case hy => rintro W ⟨r0, r1, r2, r3⟩; first | (go_simp; done) | (go_simp; with_reducible rfl)
            simp only [List.setIfInBounds_toArray, List.set_cons_zero, List.set_cons_succ]
            refine sk0 (v := ?_) 4 29 #[true, true, true, true, true, false, false, false, false, false, false, false, false, false, false, false, false, false, false, false, false, false, false, false, false, false, false, false, false, false, false, false, false, false, false] rfl rfl (by kernel_rfl) (by kernel_rfl) (by kernel_rfl) (by kernel_rfl) (fun _ _ _ h => h) (by kernel_rfl) (by rfl) ?hy (fun _ => hHeld.out) ?_
            case hy => intro W; first | (go_simp; done) | (go_simp; with_reducible rfl)
            simp only [List.setIfInBounds_toArray, List.set_cons_zero, List.set_cons_succ]
            refine sk0 (v := ?_) 5 30 #[true, true, true, true, true, true, false, false, false, false, false, false, false, false, false, false, false, false, false, false, false, false, false, false, false, false, false, false, false, false, false, false, false, false, false] rfl rfl (by kernel_rfl) (by kernel_rfl) (by kernel_rfl) (by kernel_rfl) (fun _ _ _ h => h) (by kernel_rfl) (by rfl) ?hy (fun _ => hHeld.out) ?_
            case hy => intro W; first | (go_simp; done) | (go_simp; with_reducible rfl)
            simp only [List.setIfInBounds_toArray, List.set_cons_zero, List.set_cons_succ]
            refine sk0 (v := ?_) 6 31 #[true, true, true, true, true, true, true, false, false, false, false, false, false, false, false, false, false, false, false, false, false, false, false, false, false, false, false, false, false, false, false, false, false, false, false] rfl rfl (by kernel_rfl) (by kernel_rfl) (by kernel_rfl) (by kernel_rfl) (fun _ _ _ h => h) (by kernel_rfl) (by rfl) ?hy (fun _ => hHeld.out) ?_
            case hy => intro W; first | (go_simp; done) | (go_simp; with_reducible rfl)
            simp only [List.setIfInBounds_toArray, List.set_cons_zero, List.set_cons_succ]
            refine sk1 (v := ?_) 7 32 #[true, true, true, true, true, true, true, true, false, false, false, false, false, false, false, false, false, false, false, false, false, false, false, false, false, false, false, false, false, false, false, false, false, false, false] rfl rfl (by kernel_rfl) (by kernel_rfl) (by kernel_rfl) (by kernel_rfl) (by kernel_rfl) (by kernel_rfl) (fun _ _ _ h => h) (by kernel_rfl) (by rfl) ?hy hHeld.out ?_
            case hy => rintro W ⟨r0, r1, r2, r3⟩; first | (go_simp; done) | (go_simp; with_reducible rfl)
            simp only [List.setIfInBounds_toArray, List.set_cons_zero, List.set_cons_succ]
            refine s_ready 8 #[true, true, true, true, true, true, true, true, true, false, false, false, false, false, false, false, false, false, false, false, false, false, false, false, false, false, false, false, false, false, false, false, false, false, false] rfl (by kernel_rfl) (by kernel_rfl) (by rfl) (fun K hK => ?_)
            go_simp
            refine (HH.out _ HPd.out).mono ?_
            rintro e w5 ⟨rfl, hb5⟩
            have HB5 := hide (HPd.out.trans (hb5.mono HPd.out.size))
            clear hb5
            refine hK.out _ _ (fun _ => HX.out _ HB5.out) ?_
            clear hK K
            replace hHeld := hide (HX.out _ HB5.out)
            refine sk0 (v := ?_) 9 34 #[true, true, true, true, true, true, true, true, true, true, false, false, false, false, false, false, false, false, false, false, false, false, false, false, false, false, false, false, false, false, false, false, false, false, false] rfl rfl (by kernel_rfl) (by kernel_rfl) (by kernel_rfl) (by kernel_rfl) (fun _ _ _ h => h) (by kernel_rfl) (by rfl) ?hy (fun _ => hHeld.out) ?_
            case hy => intro W; first | (go_simp; done) | (go_simp; with_reducible rfl)
            simp only [List.setIfInBounds_toArray, List.set_cons_zero, List.set_cons_succ]
            refine sk0 (v := ?_) 10 35 #[true, true, true, true, true, true, true, true, true, true, true, false, false, false, false, false, false, false, false, false, false, false, false, false, false, false, false, false, false, false, false, false, false, false, false] rfl rfl (by kernel_rfl) (by kernel_rfl) (by kernel_rfl) (by kernel_rfl) (fun _ _ _ h => h) (by kernel_rfl) (by rfl) ?hy (fun _ => hHeld.out) ?_
            case hy => intro W; first | (go_simp; done) | (go_simp; with_reducible rfl)
            simp only [List.setIfInBounds_toArray, List.set_cons_zero, List.set_cons_succ]
            refine sk0 (v := ?_) 11 36 #[true, true, true, true, true, true, true, true, true, true, true, true, false, false, false, false, false, false, false, false, false, false, false, false, false, false, false, false, false, false, false, false, false, false, false] rfl rfl (by kernel_rfl) (by kernel_rfl) (by kernel_rfl) (by kernel_rfl) (fun _ _ _ h => h) (by kernel_rfl) (by rfl) ?hy (fun _ => hHeld.out) ?_
            case hy => intro W; first | (go_simp; done) | (go_simp; with_reducible rfl)
            simp only [List.setIfInBounds_toArray, List.set_cons_zero, List.set_cons_succ]
            refine sk0 (v := ?_) 12 37 #[true, true, true, true, true, true, true, true, true, true, true, true, true, false, false, false, false, false, false, false, false, false, false, false, false, false, false, false, false, false, false, false, false, false, false] rfl rfl (by kernel_rfl) (by kernel_rfl) (by kernel_rfl) (by kernel_rfl) (fun _ _ _ h => h) (by kernel_rfl) (by rfl) ?hy (fun _ => hHeld.out) ?_
            case hy => intro W; first | (go_simp; done) | (go_simp; with_reducible rfl)
            simp only [List.setIfInBounds_toArray, List.set_cons_zero, List.set_cons_succ]
            refine sk0 (v := ?_) 13 38 #[true, true, true, true, true, true, true, true, true, true, true, true, true, true, false, false, false, false, false, false, false, false, false, false, false, false, false, false, false, false, false, false, false, false, false] rfl rfl (by kernel_rfl) (by kernel_rfl) (by kernel_rfl) (by kernel_rfl) (fun _ _ _ h => h) (by kernel_rfl) (by rfl) ?hy (fun _ => hHeld.out) ?_
            case hy => intro W; first | (go_simp; done) | (go_simp; with_reducible rfl)
            simp only [List.setIfInBounds_toArray, List.set_cons_zero, List.set_cons_succ]
            refine sk1 (v := ?_) 14 39 #[true, true, true, true, true, true, true, true, true, true, true, true, true, true, true, false, false, false, false, false, false, false, false, false, false, false, false, false, false, false, false, false, false, false, false] rfl rfl (by kernel_rfl) (by kernel_rfl) (by kernel_rfl) (by kernel_rfl) (by kernel_rfl) (by kernel_rfl) (fun _ _ _ h => h) (by kernel_rfl) (by rfl) ?hy hHeld.out ?_
            case hy => rintro W ⟨r0, r1, r2, r3⟩; first | (go_simp; done) | (go_simp; with_reducible rfl)
            simp only [List.setIfInBounds_toArray, List.set_cons_zero, List.set_cons_succ]
            refine sk0 (v := ?_) 15 40 #[true, true, true, true, true, true, true, true, true, true, true, true, true, true, true, true, false, false, false, false, false, false, false, false, false, false, false, false, false, false, false, false, false, false, false] rfl rfl (by kernel_rfl) (by kernel_rfl) (by kernel_rfl) (by kernel_rfl) (fun _ _ _ h => h) (by kernel_rfl) (by rfl) ?hy (fun _ => hHeld.out) ?_
            case hy => intro W; first | (go_simp; done) | (go_simp; with_reducible rfl)
            simp only [List.setIfInBounds_toArray, List.set_cons_zero, List.set_cons_succ]
            refine sk0 (v := ?_) 16 41 #[true, true, true, true, true, true, true, true, true, true, true, true, true, true, true, true, true, false, false, false, false, false, false, false, false, false, false, false, false, false, false, false, false, false, false] rfl rfl (by kernel_rfl) (by kernel_rfl) (by kernel_rfl) (by kernel_rfl) (fun _ _ _ h => h) (by kernel_rfl) (by rfl) ?hy (fun _ => hHeld.out) ?_
            case hy => intro W; first | (go_simp; done) | (go_simp; with_reducible rfl)
            simp only [List.setIfInBounds_toArray, List.set_cons_zero, List.set_cons_succ]
            refine sk0 (v := ?_) 17 42 #[true, true, true, true, true, true, true, true, true, true, true, true, true, true, true, true, true, true, false, false, false, false, false, false, false, false, false, false, false, false, false, false, false, false, false] rfl rfl (by kernel_rfl) (by kernel_rfl) (by kernel_rfl) (by kernel_rfl) (fun _ _ _ h => h) (by kernel_rfl) (by rfl) ?hy (fun _ => hHeld.out) ?_
            case hy => intro W; first | (go_simp; done) | (go_simp; with_reducible rfl)
            simp only [List.setIfInBounds_toArray, List.set_cons_zero, List.set_cons_succ]
            refine sk0 (v := ?_) 18 43 #[true, true, true, true, true, true, true, true, true, true, true, true, true, true, true, true, true, true, true, false, false, false, false, false, false, false, false, false, false, false, false, false, false, false, false] rfl rfl (by kernel_rfl) (by kernel_rfl) (by kernel_rfl) (by kernel_rfl) (fun _ _ _ h => h) (by kernel_rfl) (by rfl) ?hy (fun _ => hHeld.out) ?_
            case hy => intro W; first | (go_simp; done) | (go_simp; with_reducible rfl)
            simp only [List.setIfInBounds_toArray, List.set_cons_zero, List.set_cons_succ]
            refine sk0 (v := ?_) 19 44 #[true, true, true, true, true, true, true, true, true, true, true, true, true, true, true, true, true, true, true, true, false, false, false, false, false, false, false, false, false, false, false, false, false, false, false] rfl rfl (by kernel_rfl) (by kernel_rfl) (by kernel_rfl) (by kernel_rfl) (fun _ _ _ h => h) (by kernel_rfl) (by rfl) ?hy (fun _ => hHeld.out) ?_
            case hy => intro W; first | (go_simp; done) | (go_simp; with_reducible rfl)
            simp only [List.setIfInBounds_toArray, List.set_cons_zero, List.set_cons_succ]
            refine sk0 (v := ?_) 20 45 #[true, true, true, true, true, true, true, true, true, true, true, true, true, true, true, true, true, true, true, true, true, false, false, false, false, false, false, false, false, false, false, false, false, false, false] rfl rfl (by kernel_rfl) (by kernel_rfl) (by kernel_rfl) (by kernel_rfl) (fun _ _ _ h => h) (by kernel_rfl) (by rfl) ?hy (fun _ => hHeld.out) ?_
            case hy => intro W; first | (go_simp; done) | (go_simp; with_reducible rfl)
            simp only [List.setIfInBounds_toArray, List.set_cons_zero, List.set_cons_succ]
            refine sk0 (v := ?_) 21 46 #[true, true, true, true, true, true, true, true, true, true, true, true, true, true, true, true, true, true, true, true, true, true, false, false, false, false, false, false, false, false, false, false, false, false, false] rfl rfl (by kernel_rfl) (by kernel_rfl) (by kernel_rfl) (by kernel_rfl) (fun _ _ _ h => h) (by kernel_rfl) (by rfl) ?hy (fun _ => hHeld.out) ?_
            case hy => intro W; first | (go_simp; done) | (go_simp; with_reducible rfl)
            simp only [List.setIfInBounds_toArray, List.set_cons_zero, List.set_cons_succ]
            refine sk1 (v := ?_) 22 47 #[true, true, true, true, true, true, true, true, true, true, true, true, true, true, true, true, true, true, true, true, true, true, true, false, false, false, false, false, false, false, false, false, false, false, false] rfl rfl (by kernel_rfl) (by kernel_rfl) (by kernel_rfl) (by kernel_rfl) (by kernel_rfl) (by kernel_rfl) (fun _ _ _ h => h) (by kernel_rfl) (by rfl) ?hy hHeld.out ?_
            case hy => rintro W ⟨r0, r1, r2, r3⟩; first | (go_simp; done) | (go_simp; with_reducible rfl)
            simp only [List.setIfInBounds_toArray, List.set_cons_zero, List.set_cons_succ]
            refine sk0 (v := ?_) 23 48 #[true, true, true, true, true, true, true, true, true, true, true, true, true, true, true, true, true, true, true, true, true, true, true, true, false, false, false, false, false, false, false, false, false, false, false] rfl rfl (by kernel_rfl) (by kernel_rfl) (by kernel_rfl) (by kernel_rfl) (fun _ _ _ h => h) (by kernel_rfl) (by rfl) ?hy (fun _ => hHeld.out) ?_
            case hy => intro W; first | (go_simp; done) | (go_simp; with_reducible rfl)
            simp only [List.setIfInBounds_toArray, List.set_cons_zero, List.set_cons_succ]
            refine sk0 (v := ?_) 24 49 #[true, true, true, true, true, true, true, true, true, true, true, true, true, true, true, true, true, true, true, true, true, true, true, true, true, false, false, false, false, false, false, false, false, false, false] rfl rfl (by kernel_rfl) (by kernel_rfl) (by kernel_rfl) (by kernel_rfl) (fun _ _ _ h => h) (by kernel_rfl) (by rfl) ?hy (fun _ => hHeld.out) ?_
            case hy => intro W; first | (go_simp; done) | (go_simp; with_reducible rfl)
            simp only [List.setIfInBounds_toArray, List.set_cons_zero, List.set_cons_succ]
            refine sk0 (v := ?_) 25 50 #[true, true, true, true, true, true, true, true, true, true, true, true, true, true, true, true, true, true, true, true, true, true, true, true, true, true, false, false, false, false, false, false, false, false, false] rfl rfl (by kernel_rfl) (by kernel_rfl) (by kernel_rfl) (by kernel_rfl) (fun _ _ _ h => h) (by kernel_rfl) (by rfl) ?hy (fun _ => hHeld.out) ?_
            case hy => intro W; first | (go_simp; done) | (go_simp; with_reducible rfl)
            simp only [List.setIfInBounds_toArray, List.set_cons_zero, List.set_cons_succ]
            refine sk0 (v := ?_) 26 51 #[true, true, true, true, true, true, true, true, true, true, true, true, true, true, true, true, true, true, true, true, true, true, true, true, true, true, true, false, false, false, false, false, false, false, false] rfl rfl (by kernel_rfl) (by kernel_rfl) (by kernel_rfl) (by kernel_rfl) (fun _ _ _ h => h) (by kernel_rfl) (by rfl) ?hy (fun _ => hHeld.out) ?_
            case hy => intro W; first | (go_simp; done) | (go_simp; with_reducible rfl)
            simp only [List.setIfInBounds_toArray, List.set_cons_zero, List.set_cons_succ]
            refine sk0 (v := ?_) 27 52 #[true, true, true, true, true, true, true, true, true, true, true, true, true, true, true, true, true, true, true, true, true, true, true, true, true, true, true, true, false, false, false, false, false, false, false] rfl rfl (by kernel_rfl) (by kernel_rfl) (by kernel_rfl) (by kernel_rfl) (fun _ _ _ h => h) (by kernel_rfl) (by rfl) ?hy (fun _ => hHeld.out) ?_
            case hy => intro W; first | (go_simp; done) | (go_simp; with_reducible rfl)
            simp only [List.setIfInBounds_toArray, List.set_cons_zero, List.set_cons_succ]
            refine sk1 (v := ?_) 28 53 #[true, true, true, true, true, true, true, true, true, true, true, true, true, true, true, true, true, true, true, true, true, true, true, true, true, true, true, true, true, false, false, false, false, false, false] rfl rfl (by kernel_rfl) (by kernel_rfl) (by kernel_rfl) (by kernel_rfl) (by kernel_rfl) (by kernel_rfl) (fun _ _ _ h => h) (by kernel_rfl) (by rfl) ?hy hHeld.out ?_
            case hy => rintro W ⟨r0, r1, r2, r3⟩; first | (go_simp; done) | (go_simp; with_reducible rfl)
            simp only [List.setIfInBounds_toArray, List.set_cons_zero, List.set_cons_succ]
            refine sk0 (v := ?_) 29 54 #[true, true, true, true, true, true, true, true, true, true, true, true, true, true, true, true, true, true, true, true, true, true, true, true, true, true, true, true, true, true, false, false, false, false, false] rfl rfl (by kernel_rfl) (by kernel_rfl) (by kernel_rfl) (by kernel_rfl) (fun _ _ _ h => h) (by kernel_rfl) (by rfl) ?hy (fun _ => hHeld.out) ?_
            case hy => intro W; first | (go_simp; done) | (go_simp; with_reducible rfl)
            simp only [List.setIfInBounds_toArray, List.set_cons_zero, List.set_cons_succ]
            refine sk0 (v := ?_) 30 55 #[true, true, true, true, true, true, true, true, true, true, true, true, true, true, true, true, true, true, true, true, true, true, true, true, true, true, true, true, true, true, true, false, false, false, false] rfl rfl (by kernel_rfl) (by kernel_rfl) (by kernel_rfl) (by kernel_rfl) (fun _ _ _ h => h) (by kernel_rfl) (by rfl) ?hy (fun _ => hHeld.out) ?_
            case hy => intro W; first | (go_simp; done) | (go_simp; with_reducible rfl)
            simp only [List.setIfInBounds_toArray, List.set_cons_zero, List.set_cons_succ]
            refine s_ready 31 #[true, true, true, true, true, true, true, true, true, true, true, true, true, true, true, true, true, true, true, true, true, true, true, true, true, true, true, true, true, true, true, true, false, false, false] rfl (by kernel_rfl) (by kernel_rfl) (by rfl) (fun K hK => ?_)
            refine op_calls4 _ _ _ _ rfl ⟨0, 9, (0, 0), 0, []⟩ ⟨1, 9, (0, 0), 0, []⟩ ⟨0, 0, (x, y), 0, [118]⟩ ⟨0, 3, (0, 0), 0, []⟩ rfl rfl rfl rfl ?_
            simp only [Act.put, List.setIfInBounds_toArray]
            refine hK.out _ _ (fun _ => HX.out _ (HB5.out.alloc HB5.out.size _)) ?_
            clear hK K
            refine s_ready 32 #[true, true, true, true, true, true, true, true, true, true, true, true, true, true, true, true, true, true, true, true, true, true, true, true, true, true, true, true, true, true, true, true, true, false, false] rfl (by kernel_rfl) (by kernel_rfl) (by rfl) (fun K hK => ?_)
            go_simp
            refine (HSC.out _ _ HB5.out rfl).mono ?_
            rintro e w6 ⟨rfl, hb6⟩
            have HB6 := hide ((HB5.out.alloc HB5.out.size _).trans (hb6.mono (HB5.out.alloc HB5.out.size _).size))
            clear hb6
            refine hK.out _ _ (fun _ => HX.out _ HB6.out) ?_
            clear hK K
            replace hHeld := hide (HX.out _ HB6.out)
            refine sk0 (v := ?_) 33 58 #[true, true, true, true, true, true, true, true, true, true, true, true, true, true, true, true, true, true, true, true, true, true, true, true, true, true, true, true, true, true, true, true, true, true, false] rfl rfl (by kernel_rfl) (by kernel_rfl) (by kernel_rfl) (by kernel_rfl) (fun _ _ _ h => h) (by kernel_rfl) (by rfl) ?hy (fun _ => hHeld.out) ?_
            case hy => intro W; first | (go_simp; done) | (go_simp; with_reducible rfl)
            simp only [List.setIfInBounds_toArray, List.set_cons_zero, List.set_cons_succ]
            refine sk0 (v := ?_) 34 59 #[true, true, true, true, true, true, true, true, true, true, true, true, true, true, true, true, true, true, true, true, true, true, true, true, true, true, true, true, true, true, true, true, true, true, true] rfl rfl (by kernel_rfl) (by kernel_rfl) (by kernel_rfl) (by kernel_rfl) (fun _ _ _ h => h) (by kernel_rfl) (by rfl) ?hy (fun _ => hHeld.out) ?_
            case hy => intro W; first | (go_simp; done) | (go_simp; with_reducible rfl)
            simp only [List.setIfInBounds_toArray, List.set_cons_zero, List.set_cons_succ]
            refine s_done (by kernel_rfl) ?_ _
            clear HH HSC HX hHeld HB5 HPd HB
            go_wp2_with fail
            go_roundw
            case rel => exact ⟨k + 1, HK.out, by first | exact congrArg (Value.int .i64) wk2 | rfl, HB6⟩
            case measure => first | (rw [wk2]; simp [intOf]; omega) | (simp [intOf]; have := HK.out; omega)
        · have e : k = 11 := by omega
          subst e
          have hd1 : decide (((11 : Nat) : Int) < 11) = false := by decide
          rw [show ((11 : Nat) : Int) = 11 from rfl] at hd1 ⊢
          go_wp2_with fail
          go_roundw
          case rel => exact ⟨i + 1, hi, by first | exact congrArg (Value.int .i64) wki | rfl, HB⟩
          case measure => first | (rw [wki]; simp [intOf]; omega) | (simp [intOf]; omega)
    · have e : i = 10 := by omega
      subst e
      have hd1 : decide (((10 : Nat) : Int) < 10) = false := by decide
      rw [show ((10 : Nat) : Int) = 10 from rfl] at hd1 ⊢
      obtain ⟨w3, hw3⟩ : ∃ W, wr.alloc (.cells #[.int .i64 (-9223372036854775808), .int .i64 (-1), .int .i64 0, .int .i64 1, .int .i64 2, .int .i64 3, .int .i64 9223372036854775806, .int .i64 9223372036854775807] 3) = W := ⟨_, rfl⟩
      have hb3 : Below wr.heap.size wr w3 := by rw [← hw3]; exact (Below.refl _ _).alloc (Nat.le_refl _) _
      have HNF : Hid (IF w3 wr.heap.size 8 #[.int .i64 (-9223372036854775808), .int .i64 (-1), .int .i64 0, .int .i64 1, .int .i64 2, .int .i64 3, .int .i64 9223372036854775806, .int .i64 9223372036854775807]) := hide ⟨by rw [← hw3]; exact alloc_newV wr _, nss⟩
      have HB3 := hide (HB.out.trans (hb3.mono HB.out.size))
      replace HKF := hide (HKF.out.later HB3.out)
      have HE3 := hide (HET.out.below HB3.out)
      replace HB3 := hide (HB2.out.trans (HB3.out.mono HB2.out.size))
      clear hb3 HB HIF HB2 HET hi hi'
      go_wp2_with fail
      obtain ⟨ng, hng⟩ : ∃ ng, wr.heap.size = ng := ⟨_, rfl⟩
      rw [hng] at HNF ⊢
      clear hng hw3 hd1
      go_loopw [6] (fun v wr => ∃ a : Nat, a ≤ 8 ∧ v = .int .i64 (a : Int) ∧ Hid (Below w3.heap.size w3 wr)) (fun v _ => 8 - (intOf v).toNat)
      case atStart => exact ⟨0, Nat.zero_le _, rfl, hide (Below.refl _ _)⟩
      case round =>
        obtain ⟨a, ha', rfl, HB⟩ := hrel
        by_cases ha : a < 8
        · have hda : decide ((a : Int) < 8) = true := decide_eq_true (by omega)
          have wka' : wrap64 ((a : Int) + 1) = (a : Int) + 1 := by unfold wrap64; omega
          go_wp2_with fail
          go_loopw [7] (fun v wr => ∃ b : Nat, b ≤ 8 ∧ v = .int .i64 (b : Int) ∧ Hid (Below w3.heap.size w3 wr)) (fun v _ => 8 - (intOf v).toNat)
          case atStart => exact ⟨0, Nat.zero_le _, rfl, HB⟩
          case round =>
            clear HB
            obtain ⟨b, hb', rfl, HB⟩ := hrel
            by_cases hb : b < 8
            · have hdb : decide ((b : Int) < 8) = true := decide_eq_true (by omega)
              have wkb' : wrap64 ((b : Int) + 1) = (b : Int) + 1 := by unfold wrap64; omega
              go_wp2_with fail
              go_loopw [8] (fun v wr => ∃ c : Nat, c ≤ 8 ∧ v = .int .i64 (c : Int) ∧ Hid (Below w3.heap.size w3 wr)) (fun v _ => 8 - (intOf v).toNat)
              case atStart => exact ⟨0, Nat.zero_le _, rfl, HB⟩
              case round =>
                clear HB
                obtain ⟨c, hc', rfl, HB⟩ := hrel
                by_cases hc : c < 8
                · skip
                  as_aux_lemma =>
                    have a0 : (0 : Int) ≤ (a : Int) := by omega
                    have a1 : (a : Int) < 8 := by omega
                    have b0 : (0 : Int) ≤ (b : Int) := by omega
                    have b1 : (b : Int) < 8 := by omega
                    have c0 : (0 : Int) ≤ (c : Int) := by omega
                    have c1 : (c : Int) < 8 := by omega
                    have hdc : decide ((c : Int) < 8) = true := decide_eq_true c1
                    have wkc : wrap64 ((c : Int) + 1) = (c : Int) + 1 := by unfold wrap64; omega
                    obtain ⟨q, hq⟩ : ∃ q : Nat, ((a : Int) + (b : Int) + (c : Int)) % 10 = (q : Int) := ⟨(((a : Int) + (b : Int) + (c : Int)) % 10).toNat, by omega⟩
                    have hq10 : q < 10 := by omega
                    have q0 : (0 : Int) ≤ (q : Int) := by omega
                    have q1 : (q : Int) < 10 := by omega
                    obtain ⟨x, y, hxy, hx, hy⟩ := HKF.out.at hq10
                    obtain ⟨na, hna, hca⟩ := HNF.out.at ha
                    obtain ⟨nb, hnb, hcb⟩ := HNF.out.at hb
                    obtain ⟨nc, hnc, hcc⟩ := HNF.out.at hc
                    have hkl : kg < w3.heap.size := World.block_lt_of_cell? _ _ hx
                    have hnl : ng < w3.heap.size := World.block_lt_of_cell? _ _ hca
                    have kx : wr.cell? ⟨kg, q * 2, none⟩ = some (.int .i64 x) := (HB.out.cell (p := ⟨kg, _, none⟩) hkl).trans hx
                    have ky : wr.cell? ⟨kg, q * 2 + 1, none⟩ = some (.int .i64 y) := (HB.out.cell (p := ⟨kg, _, none⟩) hkl).trans hy
                    obtain ⟨W8, hW8⟩ : ∃ W, wr.alloc (.cells #[.int .i64 0, .int .i64 0] 26) = W := ⟨_, rfl⟩
                    have hn8 : W8.heap[wr.heap.size]? = some (.cells #[.int .i64 0, .int .i64 0] 26 (0, 0)) := by rw [← hW8]; exact alloc_newV wr _
                    have x0 : W8.cell? ⟨wr.heap.size, 0, none⟩ = some (.int .i64 0) := by rw [cell_of_row _ _ 0 _ _ _ hn8]; rfl
                    have x1 : W8.cell? ⟨wr.heap.size, 1, none⟩ = some (.int .i64 0) := by rw [cell_of_row _ _ 1 _ _ _ hn8]; rfl
                    have y0 : W8.frozen? ⟨wr.heap.size, 0, none⟩ = false := by simp [World.frozen?, hn8]
                    have y1 : W8.frozen? ⟨wr.heap.size, 1, none⟩ = false := by simp [World.frozen?, hn8]
                    have hB8 : Below w3.heap.size w3 W8 := by rw [← hW8]; exact HB.out.alloc HB.out.size _
                    obtain ⟨W9, hW9⟩ : ∃ W, (W8.setCell ⟨wr.heap.size, 0, none⟩ (.int .i64 x)).setCell ⟨wr.heap.size, 1, none⟩ (.int .i64 y) = W := ⟨_, rfl⟩
                    have hn9 : W9.heap[wr.heap.size]? = some (.cells #[.int .i64 x, .int .i64 y] 26 (0, 0)) := by rw [← hW9]; exact set_blkS (set_blkS hn8 0 _ rfl) 1 _ rfl
                    have z0 : W9.cell? ⟨wr.heap.size, 0, none⟩ = some (.int .i64 x) := by rw [cell_of_row _ _ 0 _ _ _ hn9]; rfl
                    have z1 : W9.cell? ⟨wr.heap.size, 1, none⟩ = some (.int .i64 y) := by rw [cell_of_row _ _ 1 _ _ _ hn9]; rfl
                    have hB9 : Below w3.heap.size w3 W9 := by rw [← hW9]; exact (hB8.setCell (p := ⟨wr.heap.size, 0, none⟩) HB.out.size _).setCell (p := ⟨wr.heap.size, 1, none⟩) HB.out.size _
                    have ca : W9.cell? ⟨ng, a, none⟩ = some (.int .i64 na) := (hB9.cell (p := ⟨ng, _, none⟩) hnl).trans hca
                    have cb : W9.cell? ⟨ng, b, none⟩ = some (.int .i64 nb) := (hB9.cell (p := ⟨ng, _, none⟩) hnl).trans hcb
                    have cc' : W9.cell? ⟨ng, c, none⟩ = some (.int .i64 nc) := (hB9.cell (p := ⟨ng, _, none⟩) hnl).trans hcc
                    have hB9d : Below w3.heap.size w3 W9.drew := hB9.trans (((Below.refl W9.heap.size W9).drew).mono hB9.size)
                    have HB9 := hide hB9d
                    have hHeld : Hid (((fun W : World => W.cell? ⟨wr.heap.size, 0, none⟩ = some (.int .i64 x) ∧ W.cell? ⟨wr.heap.size, 1, none⟩ = some (.int .i64 y) ∧ W.cell? ⟨ng, a, none⟩ = some (.int .i64 na) ∧ W.cell? ⟨ng, b, none⟩ = some (.int .i64 nb) ∧ W.cell? ⟨ng, c, none⟩ = some (.int .i64 nc))) W9.drew) := hide ⟨z0, z1, ca, cb, cc'⟩
                    have hkl9 : wr.heap.size < W9.heap.size := World.block_lt_of_cell? _ _ z0
                    have hnl9 : ng < W9.heap.size := World.block_lt_of_cell? _ _ ca
                    have HX : Hid (∀ W : World, Below W9.heap.size W9 W → (fun W : World => W.cell? ⟨wr.heap.size, 0, none⟩ = some (.int .i64 x) ∧ W.cell? ⟨wr.heap.size, 1, none⟩ = some (.int .i64 y) ∧ W.cell? ⟨ng, a, none⟩ = some (.int .i64 na) ∧ W.cell? ⟨ng, b, none⟩ = some (.int .i64 nb) ∧ W.cell? ⟨ng, c, none⟩ = some (.int .i64 nc)) W) := hide (fun W hb => ⟨(hb.cell (p := ⟨wr.heap.size, _, none⟩) hkl9).trans z0, (hb.cell (p := ⟨wr.heap.size, _, none⟩) hkl9).trans z1, (hb.cell (p := ⟨ng, _, none⟩) hnl9).trans ca, (hb.cell (p := ⟨ng, _, none⟩) hnl9).trans cb, (hb.cell (p := ⟨ng, _, none⟩) hnl9).trans cc'⟩)
                    have HD9 := hide ((Below.refl W9.heap.size W9).drew)
                    clear hkl9 hnl9
                    have HSC : Hid (∀ (xs : Array Value), xs.toList = cc [⟨0, 0, (x, y), na, [97]⟩, ⟨0, 0, (x, y), nb, [98]⟩, ⟨0, 0, (x, y), nc, [99]⟩, ⟨0, 4, (0, 0), nb, []⟩, ⟨0, 6, (0, 0), nc, []⟩, ⟨0, 7, (x, y), nc, []⟩, ⟨0, 1, (x, y), na, []⟩, ⟨0, 1, (x, y), nb, []⟩, ⟨0, 5, (0, 0), na, []⟩, ⟨0, 5, (0, 0), 1, []⟩, ⟨0, 5, (0, 0), 1, []⟩, ⟨0, 7, (x, y), nb, []⟩, ⟨0, 8, (0, 0), 0, []⟩, ⟨0, 1, (x, y), nc, []⟩, ⟨0, 2, (x, y), 0, []⟩, ⟨0, 7, (0, 0), nc, []⟩] → Calls Tryz.prog 23 #[.int .i64 3, .int .i64 1, .slice (some ⟨W9.drew.heap.size, 0, none⟩) 16 16] (W9.drew.alloc (.cells xs 47)) fun e w' => e = .returned (.bool true) ∧ Below (W9.drew.alloc (.cells xs 47)).heap.size (W9.drew.alloc (.cells xs 47)) w') := hide (fun xs hx => script_law 3 1 _ [⟨0, 0, (x, y), na, [97]⟩, ⟨0, 0, (x, y), nb, [98]⟩, ⟨0, 0, (x, y), nc, [99]⟩, ⟨0, 4, (0, 0), nb, []⟩, ⟨0, 6, (0, 0), nc, []⟩, ⟨0, 7, (x, y), nc, []⟩, ⟨0, 1, (x, y), na, []⟩, ⟨0, 1, (x, y), nb, []⟩, ⟨0, 5, (0, 0), na, []⟩, ⟨0, 5, (0, 0), 1, []⟩, ⟨0, 5, (0, 0), 1, []⟩, ⟨0, 7, (x, y), nb, []⟩, ⟨0, 8, (0, 0), 0, []⟩, ⟨0, 1, (x, y), nc, []⟩, ⟨0, 2, (x, y), 0, []⟩, ⟨0, 7, (0, 0), nc, []⟩] _ (HE3.out.below (hB9d.alloc hB9d.size _)) (rcl_new W9.drew [⟨0, 0, (x, y), na, [97]⟩, ⟨0, 0, (x, y), nb, [98]⟩, ⟨0, 0, (x, y), nc, [99]⟩, ⟨0, 4, (0, 0), nb, []⟩, ⟨0, 6, (0, 0), nc, []⟩, ⟨0, 7, (x, y), nc, []⟩, ⟨0, 1, (x, y), na, []⟩, ⟨0, 1, (x, y), nb, []⟩, ⟨0, 5, (0, 0), na, []⟩, ⟨0, 5, (0, 0), 1, []⟩, ⟨0, 5, (0, 0), 1, []⟩, ⟨0, 7, (x, y), nb, []⟩, ⟨0, 8, (0, 0), 0, []⟩, ⟨0, 1, (x, y), nc, []⟩, ⟨0, 2, (x, y), 0, []⟩, ⟨0, 7, (0, 0), nc, []⟩] xs 16 16 rfl hx) (by
                      intro p hp
                      simp only [List.mem_cons, List.not_mem_nil, or_false] at hp
                      rcases hp with rfl | rfl | rfl | rfl | rfl | rfl | rfl | rfl | rfl | rfl | rfl | rfl | rfl | rfl | rfl | rfl
                      · exact ⟨hxy, hna⟩
                      · exact ⟨hxy, hnb⟩
                      · exact ⟨hxy, hnc⟩
                      · exact ⟨kok0, hnb⟩
                      · exact ⟨kok0, hnc⟩
                      · exact ⟨hxy, hnc⟩
                      · exact ⟨hxy, hna⟩
                      · exact ⟨hxy, hnb⟩
                      · exact ⟨kok0, hna⟩
                      · exact ⟨kok0, iok_of (by decide) (by decide), by decide⟩
                      · exact ⟨kok0, iok_of (by decide) (by decide), by decide⟩
                      · exact ⟨hxy, hnb⟩
                      · exact co0
                      · exact ⟨hxy, hnc⟩
                      · exact ⟨hxy, zeroN⟩
                      · exact ⟨kok0, hnc⟩) (by show (16 : Nat) ≤ 2600000000000; decide))
                    have HCL := hide hc
                    clear hx hy hca hcb hcc hxy hna hnb hnc ha hb hc hn8 hn9 hB8 hB9 hB9d hq10 hkl hnl
                    go_wp2_with fail
                    try simp only [List.append_eq, List.cons_append, List.nil_append]
                    clear x0 x1 y0 y1 z0 z1 ca cb cc' kx ky hW8 hW9
                    refine s_begins (S := (fun W : World => W.cell? ⟨wr.heap.size, 0, none⟩ = some (.int .i64 x) ∧ W.cell? ⟨wr.heap.size, 1, none⟩ = some (.int .i64 y) ∧ W.cell? ⟨ng, a, none⟩ = some (.int .i64 na) ∧ W.cell? ⟨ng, b, none⟩ = some (.int .i64 nb) ∧ W.cell? ⟨ng, c, none⟩ = some (.int .i64 nc))) [] 75 #[false, false, false, false, false, false, false, false, false, false, false, false, false, false, false, false, false, false, false, false, false, false, false, false, false, false, false, false, false, false, false, false, false, false, false, false, false, false, false, false, false, false, false, false, false, false, false, false, false, false, false, false, false, false, false, false, false, false, false, false, false, false, false, false, false, false, false, false, false, false, false, false, false, false, false] (by kernel_rfl) (by kernel_rfl) (by kernel_rfl) ?_
                    refine sk1 (v := ?_) 0 90 #[true, false, false, false, false, false, false, false, false, false, false, false, false, false, false, false, false, false, false, false, false, false, false, false, false, false, false, false, false, false, false, false, false, false, false, false, false, false, false, false, false, false, false, false, false, false, false, false, false, false, false, false, false, false, false, false, false, false, false, false, false, false, false, false, false, false, false, false, false, false, false, false, false, false, false] rfl rfl (by kernel_rfl) (by kernel_rfl) (by kernel_rfl) (by kernel_rfl) (by kernel_rfl) (by kernel_rfl) (fun _ _ _ h => h) (by kernel_rfl) (by rfl) ?hy hHeld.out ?_
                    case hy => rintro W ⟨r0, r1, r2, r3, r4⟩; first | (go_simp; done) | (go_simp; with_reducible rfl)
                    simp only [List.setIfInBounds_toArray, List.set_cons_zero, List.set_cons_succ]
                    refine sk0 (v := ?_) 1 91 #[true, true, false, false, false, false, false, false, false, false, false, false, false, false, false, false, false, false, false, false, false, false, false, false, false, false, false, false, false, false, false, false, false, false, false, false, false, false, false, false, false, false, false, false, false, false, false, false, false, false, false, false, false, false, false, false, false, false, false, false, false, false, false, false, false, false, false, false, false, false, false, false, false, false, false] rfl rfl (by kernel_rfl) (by kernel_rfl) (by kernel_rfl) (by kernel_rfl) (fun _ _ _ h => h) (by kernel_rfl) (by rfl) ?hy (fun _ => hHeld.out) ?_
                    case hy => intro W; first | (go_simp; done) | (go_simp; with_reducible rfl)
                    simp only [List.setIfInBounds_toArray, List.set_cons_zero, List.set_cons_succ]
                    refine sk0 (v := ?_) 2 92 #[true, true, true, false, false, false, false, false, false, false, false, false, false, false, false, false, false, false, false, false, false, false, false, false, false, false, false, false, false, false, false, false, false, false, false, false, false, false, false, false, false, false, false, false, false, false, false, false, false, false, false, false, false, false, false, false, false, false, false, false, false, false, false, false, false, false, false, false, false, false, false, false, false, false, false] rfl rfl (by kernel_rfl) (by kernel_rfl) (by kernel_rfl) (by kernel_rfl) (fun _ _ _ h => h) (by kernel_rfl) (by rfl) ?hy (fun _ => hHeld.out) ?_
                    case hy => intro W; first | (go_simp; done) | (go_simp; with_reducible rfl)
                    simp only [List.setIfInBounds_toArray, List.set_cons_zero, List.set_cons_succ]
                    refine sk0 (v := ?_) 3 93 #[true, true, true, true, false, false, false, false, false, false, false, false, false, false, false, false, false, false, false, false, false, false, false, false, false, false, false, false, false, false, false, false, false, false, false, false, false, false, false, false, false, false, false, false, false, false, false, false, false, false, false, false, false, false, false, false, false, false, false, false, false, false, false, false, false, false, false, false, false, false, false, false, false, false, false] rfl rfl (by kernel_rfl) (by kernel_rfl) (by kernel_rfl) (by kernel_rfl) (fun _ _ _ h => h) (by kernel_rfl) (by rfl) ?hy (fun _ => hHeld.out) ?_
                    case hy => intro W; first | (go_simp; done) | (go_simp; with_reducible rfl)
                    simp only [List.setIfInBounds_toArray, List.set_cons_zero, List.set_cons_succ]
                    refine sk1 (v := ?_) 4 94 #[true, true, true, true, true, false, false, false, false, false, false, false, false, false, false, false, false, false, false, false, false, false, false, false, false, false, false, false, false, false, false, false, false, false, false, false, false, false, false, false, false, false, false, false, false, false, false, false, false, false, false, false, false, false, false, false, false, false, false, false, false, false, false, false, false, false, false, false, false, false, false, false, false, false, false] rfl rfl (by kernel_rfl) (by kernel_rfl) (by kernel_rfl) (by kernel_rfl) (by kernel_rfl) (by kernel_rfl) (fun _ _ _ h => h) (by kernel_rfl) (by rfl) ?hy hHeld.out ?_
                    case hy => rintro W ⟨r0, r1, r2, r3, r4⟩; first | (go_simp; done) | (go_simp; with_reducible rfl)
                    simp only [List.setIfInBounds_toArray, List.set_cons_zero, List.set_cons_succ]
                    refine sk0 (v := ?_) 5 95 #[true, true, true, true, true, true, false, false, false, false, false, false, false, false, false, false, false, false, false, false, false, false, false, false, false, false, false, false, false, false, false, false, false, false, false, false, false, false, false, false, false, false, false, false, false, false, false, false, false, false, false, false, false, false, false, false, false, false, false, false, false, false, false, false, false, false, false, false, false, false, false, false, false, false, false] rfl rfl (by kernel_rfl) (by kernel_rfl) (by kernel_rfl) (by kernel_rfl) (fun _ _ _ h => h) (by kernel_rfl) (by rfl) ?hy (fun _ => hHeld.out) ?_
                    case hy => intro W; first | (go_simp; done) | (go_simp; with_reducible rfl)
                    simp only [List.setIfInBounds_toArray, List.set_cons_zero, List.set_cons_succ]
                    refine sk1 (v := ?_) 6 96 #[true, true, true, true, true, true, true, false, false, false, false, false, false, false, false, false, false, false, false, false, false, false, false, false, false, false, false, false, false, false, false, false, false, false, false, false, false, false, false, false, false, false, false, false, false, false, false, false, false, false, false, false, false, false, false, false, false, false, false, false, false, false, false, false, false, false, false, false, false, false, false, false, false, false, false] rfl rfl (by kernel_rfl) (by kernel_rfl) (by kernel_rfl) (by kernel_rfl) (by kernel_rfl) (by kernel_rfl) (fun _ _ _ h => h) (by kernel_rfl) (by rfl) ?hy hHeld.out ?_
                    case hy => rintro W ⟨r0, r1, r2, r3, r4⟩; first | (go_simp; done) | (go_simp; with_reducible rfl)
                    simp only [List.setIfInBounds_toArray, List.set_cons_zero, List.set_cons_succ]
                    refine sk0 (v := ?_) 7 97 #[true, true, true, true, true, true, true, true, false, false, false, false, false, false, false, false, false, false, false, false, false, false, false, false, false, false, false, false, false, false, false, false, false, false, false, false, false, false, false, false, false, false, false, false, false, false, false, false, false, false, false, false, false, false, false, false, false, false, false, false, false, false, false, false, false, false, false, false, false, false, false, false, false, false, false] rfl rfl (by kernel_rfl) (by kernel_rfl) (by kernel_rfl) (by kernel_rfl) (fun _ _ _ h => h) (by kernel_rfl) (by rfl) ?hy (fun _ => hHeld.out) ?_
                    case hy => intro W; first | (go_simp; done) | (go_simp; with_reducible rfl)
                    simp only [List.setIfInBounds_toArray, List.set_cons_zero, List.set_cons_succ]
                    refine sk0 (v := ?_) 8 98 #[true, true, true, true, true, true, true, true, true, false, false, false, false, false, false, false, false, false, false, false, false, false, false, false, false, false, false, false, false, false, false, false, false, false, false, false, false, false, false, false, false, false, false, false, false, false, false, false, false, false, false, false, false, false, false, false, false, false, false, false, false, false, false, false, false, false, false, false, false, false, false, false, false, false, false] rfl rfl (by kernel_rfl) (by kernel_rfl) (by kernel_rfl) (by kernel_rfl) (fun _ _ _ h => h) (by kernel_rfl) (by rfl) ?hy (fun _ => hHeld.out) ?_
                    case hy => intro W; first | (go_simp; done) | (go_simp; with_reducible rfl)
                    simp only [List.setIfInBounds_toArray, List.set_cons_zero, List.set_cons_succ]
                    refine sk0 (v := ?_) 9 99 #[true, true, true, true, true, true, true, true, true, true, false, false, false, false, false, false, false, false, false, false, false, false, false, false, false, false, false, false, false, false, false, false, false, false, false, false, false, false, false, false, false, false, false, false, false, false, false, false, false, false, false, false, false, false, false, false, false, false, false, false, false, false, false, false, false, false, false, false, false, false, false, false, false, false, false] rfl rfl (by kernel_rfl) (by kernel_rfl) (by kernel_rfl) (by kernel_rfl) (fun _ _ _ h => h) (by kernel_rfl) (by rfl) ?hy (fun _ => hHeld.out) ?_
                    case hy => intro W; first | (go_simp; done) | (go_simp; with_reducible rfl)
                    simp only [List.setIfInBounds_toArray, List.set_cons_zero, List.set_cons_succ]
                    refine sk1 (v := ?_) 10 100 #[true, true, true, true, true, true, true, true, true, true, true, false, false, false, false, false, false, false, false, false, false, false, false, false, false, false, false, false, false, false, false, false, false, false, false, false, false, false, false, false, false, false, false, false, false, false, false, false, false, false, false, false, false, false, false, false, false, false, false, false, false, false, false, false, false, false, false, false, false, false, false, false, false, false, false] rfl rfl (by kernel_rfl) (by kernel_rfl) (by kernel_rfl) (by kernel_rfl) (by kernel_rfl) (by kernel_rfl) (fun _ _ _ h => h) (by kernel_rfl) (by rfl) ?hy hHeld.out ?_
                    case hy => rintro W ⟨r0, r1, r2, r3, r4⟩; first | (go_simp; done) | (go_simp; with_reducible rfl)
                    simp only [List.setIfInBounds_toArray, List.set_cons_zero, List.set_cons_succ]
                    refine sk0 (v := ?_) 11 101 #[true, true, true, true, true, true, true, true, true, true, true, true, false, false, false, false, false, false, false, false, false, false, false, false, false, false, false, false, false, false, false, false, false, false, false, false, false, false, false, false, false, false, false, false, false, false, false, false, false, false, false, false, false, false, false, false, false, false, false, false, false, false, false, false, false, false, false, false, false, false, false, false, false, false, false] rfl rfl (by kernel_rfl) (by kernel_rfl) (by kernel_rfl) (by kernel_rfl) (fun _ _ _ h => h) (by kernel_rfl) (by rfl) ?hy (fun _ => hHeld.out) ?_
                    case hy => intro W; first | (go_simp; done) | (go_simp; with_reducible rfl)
                    simp only [List.setIfInBounds_toArray, List.set_cons_zero, List.set_cons_succ]
                    refine sk1 (v := ?_) 12 102 #[true, true, true, true, true, true, true, true, true, true, true, true, true, false, false, false, false, false, false, false, false, false, false, false, false, false, false, false, false, false, false, false, false, false, false, false, false, false, false, false, false, false, false, false, false, false, false, false, false, false, false, false, false, false, false, false, false, false, false, false, false, false, false, false, false, false, false, false, false, false, false, false, false, false, false] rfl rfl (by kernel_rfl) (by kernel_rfl) (by kernel_rfl) (by kernel_rfl) (by kernel_rfl) (by kernel_rfl) (fun _ _ _ h => h) (by kernel_rfl) (by rfl) ?hy hHeld.out ?_
                    case hy => rintro W ⟨r0, r1, r2, r3, r4⟩; first | (go_simp; done) | (go_simp; with_reducible rfl)
                    simp only [List.setIfInBounds_toArray, List.set_cons_zero, List.set_cons_succ]
                    refine sk0 (v := ?_) 13 103 #[true, true, true, true, true, true, true, true, true, true, true, true, true, true, false, false, false, false, false, false, false, false, false, false, false, false, false, false, false, false, false, false, false, false, false, false, false, false, false, false, false, false, false, false, false, false, false, false, false, false, false, false, false, false, false, false, false, false, false, false, false, false, false, false, false, false, false, false, false, false, false, false, false, false, false] rfl rfl (by kernel_rfl) (by kernel_rfl) (by kernel_rfl) (by kernel_rfl) (fun _ _ _ h => h) (by kernel_rfl) (by rfl) ?hy (fun _ => hHeld.out) ?_
                    case hy => intro W; first | (go_simp; done) | (go_simp; with_reducible rfl)
                    simp only [List.setIfInBounds_toArray, List.set_cons_zero, List.set_cons_succ]
                    refine sk0 (v := ?_) 14 104 #[true, true, true, true, true, true, true, true, true, true, true, true, true, true, true, false, false, false, false, false, false, false, false, false, false, false, false, false, false, false, false, false, false, false, false, false, false, false, false, false, false, false, false, false, false, false, false, false, false, false, false, false, false, false, false, false, false, false, false, false, false, false, false, false, false, false, false, false, false, false, false, false, false, false, false] rfl rfl (by kernel_rfl) (by kernel_rfl) (by kernel_rfl) (by kernel_rfl) (fun _ _ _ h => h) (by kernel_rfl) (by rfl) ?hy (fun _ => hHeld.out) ?_
                    case hy => intro W; first | (go_simp; done) | (go_simp; with_reducible rfl)
                    simp only [List.setIfInBounds_toArray, List.set_cons_zero, List.set_cons_succ]
                    refine sk0 (v := ?_) 15 105 #[true, true, true, true, true, true, true, true, true, true, true, true, true, true, true, true, false, false, false, false, false, false, false, false, false, false, false, false, false, false, false, false, false, false, false, false, false, false, false, false, false, false, false, false, false, false, false, false, false, false, false, false, false, false, false, false, false, false, false, false, false, false, false, false, false, false, false, false, false, false, false, false, false, false, false] rfl rfl (by kernel_rfl) (by kernel_rfl) (by kernel_rfl) (by kernel_rfl) (fun _ _ _ h => h) (by kernel_rfl) (by rfl) ?hy (fun _ => hHeld.out) ?_
                    case hy => intro W; first | (go_simp; done) | (go_simp; with_reducible rfl)
                    simp only [List.setIfInBounds_toArray, List.set_cons_zero, List.set_cons_succ]
                    refine sk1 (v := ?_) 16 106 #[true, true, true, true, true, true, true, true, true, true, true, true, true, true, true, true, true, false, false, false, false, false, false, false, false, false, false, false, false, false, false, false, false, false, false, false, false, false, false, false, false, false, false, false, false, false, false, false, false, false, false, false, false, false, false, false, false, false, false, false, false, false, false, false, false, false, false, false, false, false, false, false, false, false, false] rfl rfl (by kernel_rfl) (by kernel_rfl) (by kernel_rfl) (by kernel_rfl) (by kernel_rfl) (by kernel_rfl) (fun _ _ _ h => h) (by kernel_rfl) (by rfl) ?hy hHeld.out ?_
                    case hy => rintro W ⟨r0, r1, r2, r3, r4⟩; first | (go_simp; done) | (go_simp; with_reducible rfl)
                    simp only [List.setIfInBounds_toArray, List.set_cons_zero, List.set_cons_succ]
                    refine sk0 (v := ?_) 17 107 #[true, true, true, true, true, true, true, true, true, true, true, true, true, true, true, true, true, true, false, false, false, false, false, false, false, false, false, false, false, false, false, false, false, false, false, false, false, false, false, false, false, false, false, false, false, false, false, false, false, false, false, false, false, false, false, false, false, false, false, false, false, false, false, false, false, false, false, false, false, false, false, false, false, false, false] rfl rfl (by kernel_rfl) (by kernel_rfl) (by kernel_rfl) (by kernel_rfl) (fun _ _ _ h => h) (by kernel_rfl) (by rfl) ?hy (fun _ => hHeld.out) ?_
                    case hy => intro W; first | (go_simp; done) | (go_simp; with_reducible rfl)
                    simp only [List.setIfInBounds_toArray, List.set_cons_zero, List.set_cons_succ]
                    refine sk0 (v := ?_) 18 108 #[true, true, true, true, true, true, true, true, true, true, true, true, true, true, true, true, true, true, true, false, false, false, false, false, false, false, false, false, false, false, false, false, false, false, false, false, false, false, false, false, false, false, false, false, false, false, false, false, false, false, false, false, false, false, false, false, false, false, false, false, false, false, false, false, false, false, false, false, false, false, false, false, false, false, false] rfl rfl (by kernel_rfl) (by kernel_rfl) (by kernel_rfl) (by kernel_rfl) (fun _ _ _ h => h) (by kernel_rfl) (by rfl) ?hy (fun _ => hHeld.out) ?_
                    case hy => intro W; first | (go_simp; done) | (go_simp; with_reducible rfl)
                    simp only [List.setIfInBounds_toArray, List.set_cons_zero, List.set_cons_succ]
                    refine sk0 (v := ?_) 19 109 #[true, true, true, true, true, true, true, true, true, true, true, true, true, true, true, true, true, true, true, true, false, false, false, false, false, false, false, false, false, false, false, false, false, false, false, false, false, false, false, false, false, false, false, false, false, false, false, false, false, false, false, false, false, false, false, false, false, false, false, false, false, false, false, false, false, false, false, false, false, false, false, false, false, false, false] rfl rfl (by kernel_rfl) (by kernel_rfl) (by kernel_rfl) (by kernel_rfl) (fun _ _ _ h => h) (by kernel_rfl) (by rfl) ?hy (fun _ => hHeld.out) ?_
                    case hy => intro W; first | (go_simp; done) | (go_simp; with_reducible rfl)
                    simp only [List.setIfInBounds_toArray, List.set_cons_zero, List.set_cons_succ]
                    refine sk0 (v := ?_) 20 110 #[true, true, true, true, true, true, true, true, true, true, true, true, true, true, true, true, true, true, true, true, true, false, false, false, false, false, false, false, false, false, false, false, false, false, false, false, false, false, false, false, false, false, false, false, false, false, false, false, false, false, false, false, false, false, false, false, false, false, false, false, false, false, false, false, false, false, false, false, false, false, false, false, false, false, false] rfl rfl (by kernel_rfl) (by kernel_rfl) (by kernel_rfl) (by kernel_rfl) (fun _ _ _ h => h) (by kernel_rfl) (by rfl) ?hy (fun _ => hHeld.out) ?_
                    case hy => intro W; first | (go_simp; done) | (go_simp; with_reducible rfl)
                    simp only [List.setIfInBounds_toArray, List.set_cons_zero, List.set_cons_succ]
                    refine sk1 (v := ?_) 21 111 #[true, true, true, true, true, true, true, true, true, true, true, true, true, true, true, true, true, true, true, true, true, true, false, false, false, false, false, false, false, false, false, false, false, false, false, false, false, false, false, false, false, false, false, false, false, false, false, false, false, false, false, false, false, false, false, false, false, false, false, false, false, false, false, false, false, false, false, false, false, false, false, false, false, false, false] rfl rfl (by kernel_rfl) (by kernel_rfl) (by kernel_rfl) (by kernel_rfl) (by kernel_rfl) (by kernel_rfl) (fun _ _ _ h => h) (by kernel_rfl) (by rfl) ?hy hHeld.out ?_
                    case hy => rintro W ⟨r0, r1, r2, r3, r4⟩; first | (go_simp; done) | (go_simp; with_reducible rfl)
                    simp only [List.setIfInBounds_toArray, List.set_cons_zero, List.set_cons_succ]
                    refine sk0 (v := ?_) 22 112 #[true, true, true, true, true, true, true, true, true, true, true, true, true, true, true, true, true, true, true, true, true, true, true, false, false, false, false, false, false, false, false, false, false, false, false, false, false, false, false, false, false, false, false, false, false, false, false, false, false, false, false, false, false, false, false, false, false, false, false, false, false, false, false, false, false, false, false, false, false, false, false, false, false, false, false] rfl rfl (by kernel_rfl) (by kernel_rfl) (by kernel_rfl) (by kernel_rfl) (fun _ _ _ h => h) (by kernel_rfl) (by rfl) ?hy (fun _ => hHeld.out) ?_
                    case hy => intro W; first | (go_simp; done) | (go_simp; with_reducible rfl)
                    simp only [List.setIfInBounds_toArray, List.set_cons_zero, List.set_cons_succ]
                    refine sk0 (v := ?_) 23 113 #[true, true, true, true, true, true, true, true, true, true, true, true, true, true, true, true, true, true, true, true, true, true, true, true, false, false, false, false, false, false, false, false, false, false, false, false, false, false, false, false, false, false, false, false, false, false, false, false, false, false, false, false, false, false, false, false, false, false, false, false, false, false, false, false, false, false, false, false, false, false, false, false, false, false, false] rfl rfl (by kernel_rfl) (by kernel_rfl) (by kernel_rfl) (by kernel_rfl) (fun _ _ _ h => h) (by kernel_rfl) (by rfl) ?hy (fun _ => hHeld.out) ?_
                    case hy => intro W; first | (go_simp; done) | (go_simp; with_reducible rfl)
                    simp only [List.setIfInBounds_toArray, List.set_cons_zero, List.set_cons_succ]
                    refine sk0 (v := ?_) 24 114 #[true, true, true, true, true, true, true, true, true, true, true, true, true, true, true, true, true, true, true, true, true, true, true, true, true, false, false, false, false, false, false, false, false, false, false, false, false, false, false, false, false, false, false, false, false, false, false, false, false, false, false, false, false, false, false, false, false, false, false, false, false, false, false, false, false, false, false, false, false, false, false, false, false, false, false] rfl rfl (by kernel_rfl) (by kernel_rfl) (by kernel_rfl) (by kernel_rfl) (fun _ _ _ h => h) (by kernel_rfl) (by rfl) ?hy (fun _ => hHeld.out) ?_
                    case hy => intro W; first | (go_simp; done) | (go_simp; with_reducible rfl)
                    simp only [List.setIfInBounds_toArray, List.set_cons_zero, List.set_cons_succ]
                    refine sk0 (v := ?_) 25 115 #[true, true, true, true, true, true, true, true, true, true, true, true, true, true, true, true, true, true, true, true, true, true, true, true, true, true, false, false, false, false, false, false, false, false, false, false, false, false, false, false, false, false, false, false, false, false, false, false, false, false, false, false, false, false, false, false, false, false, false, false, false, false, false, false, false, false, false, false, false, false, false, false, false, false, false] rfl rfl (by kernel_rfl) (by kernel_rfl) (by kernel_rfl) (by kernel_rfl) (fun _ _ _ h => h) (by kernel_rfl) (by rfl) ?hy (fun _ => hHeld.out) ?_
                    case hy => intro W; first | (go_simp; done) | (go_simp; with_reducible rfl)
                    simp only [List.setIfInBounds_toArray, List.set_cons_zero, List.set_cons_succ]
                    refine sk1 (v := ?_) 26 116 #[true, true, true, true, true, true, true, true, true, true, true, true, true, true, true, true, true, true, true, true, true, true, true, true, true, true, true, false, false, false, false, false, false, false, false, false, false, false, false, false, false, false, false, false, false, false, false, false, false, false, false, false, false, false, false, false, false, false, false, false, false, false, false, false, false, false, false, false, false, false, false, false, false, false, false] rfl rfl (by kernel_rfl) (by kernel_rfl) (by kernel_rfl) (by kernel_rfl) (by kernel_rfl) (by kernel_rfl) (fun _ _ _ h => h) (by kernel_rfl) (by rfl) ?hy hHeld.out ?_
                    case hy => rintro W ⟨r0, r1, r2, r3, r4⟩; first | (go_simp; done) | (go_simp; with_reducible rfl)
                    simp only [List.setIfInBounds_toArray, List.set_cons_zero, List.set_cons_succ]
                    refine sk0 (v := ?_) 27 117 #[true, true, true, true, true, true, true, true, true, true, true, true, true, true, true, true, true, true, true, true, true, true, true, true, true, true, true, true, false, false, false, false, false, false, false, false, false, false, false, false, false, false, false, false, false, false, false, false, false, false, false, false, false, false, false, false, false, false, false, false, false, false, false, false, false, false, false, false, false, false, false, false, false, false, false] rfl rfl (by kernel_rfl) (by kernel_rfl) (by kernel_rfl) (by kernel_rfl) (fun _ _ _ h => h) (by kernel_rfl) (by rfl) ?hy (fun _ => hHeld.out) ?_
                    case hy => intro W; first | (go_simp; done) | (go_simp; with_reducible rfl)
                    simp only [List.setIfInBounds_toArray, List.set_cons_zero, List.set_cons_succ]
                    refine sk1 (v := ?_) 28 118 #[true, true, true, true, true, true, true, true, true, true, true, true, true, true, true, true, true, true, true, true, true, true, true, true, true, true, true, true, true, false, false, false, false, false, false, false, false, false, false, false, false, false, false, false, false, false, false, false, false, false, false, false, false, false, false, false, false, false, false, false, false, false, false, false, false, false, false, false, false, false, false, false, false, false, false] rfl rfl (by kernel_rfl) (by kernel_rfl) (by kernel_rfl) (by kernel_rfl) (by kernel_rfl) (by kernel_rfl) (fun _ _ _ h => h) (by kernel_rfl) (by rfl) ?hy hHeld.out ?_
                    case hy => rintro W ⟨r0, r1, r2, r3, r4⟩; first | (go_simp; done) | (go_simp; with_reducible rfl)
                    simp only [List.setIfInBounds_toArray, List.set_cons_zero, List.set_cons_succ]
                    refine sk0 (v := ?_) 29 119 #[true, true, true, true, true, true, true, true, true, true, true, true, true, true, true, true, true, true, true, true, true, true, true, true, true, true, true, true, true, true, false, false, false, false, false, false, false, false, false, false, false, false, false, false, false, false, false, false, false, false, false, false, false, false, false, false, false, false, false, false, false, false, false, false, false, false, false, false, false, false, false, false, false, false, false] rfl rfl (by kernel_rfl) (by kernel_rfl) (by kernel_rfl) (by kernel_rfl) (fun _ _ _ h => h) (by kernel_rfl) (by rfl) ?hy (fun _ => hHeld.out) ?_
                    case hy => intro W; first | (go_simp; done) | (go_simp; with_reducible rfl)
                    simp only [List.setIfInBounds_toArray, List.set_cons_zero, List.set_cons_succ]
                    refine sk0 (v := ?_) 30 120 #[true, true, true, true, true, true, true, true, true, true, true, true, true, true, true, true, true, true, true, true, true, true, true, true, true, true, true, true, true, true, true, false, false, false, false, false, false, false, false, false, false, false, false, false, false, false, false, false, false, false, false, false, false, false, false, false, false, false, false, false, false, false, false, false, false, false, false, false, false, false, false, false, false, false, false] rfl rfl (by kernel_rfl) (by kernel_rfl) (by kernel_rfl) (by kernel_rfl) (fun _ _ _ h => h) (by kernel_rfl) (by rfl) ?hy (fun _ => hHeld.out) ?_
                    case hy => intro W; first | (go_simp; done) | (go_simp; with_reducible rfl)
                    simp only [List.setIfInBounds_toArray, List.set_cons_zero, List.set_cons_succ]
                    refine sk0 (v := ?_) 31 121 #[true, true, true, true, true, true, true, true, true, true, true, true, true, true, true, true, true, true, true, true, true, true, true, true, true, true, true, true, true, true, true, true, false, false, false, false, false, false, false, false, false, false, false, false, false, false, false, false, false, false, false, false, false, false, false, false, false, false, false, false, false, false, false, false, false, false, false, false, false, false, false, false, false, false, false] rfl rfl (by kernel_rfl) (by kernel_rfl) (by kernel_rfl) (by kernel_rfl) (fun _ _ _ h => h) (by kernel_rfl) (by rfl) ?hy (fun _ => hHeld.out) ?_
                    case hy => intro W; first | (go_simp; done) | (go_simp; with_reducible rfl)
                    simp only [List.setIfInBounds_toArray, List.set_cons_zero, List.set_cons_succ]
                    refine sk1 (v := ?_) 32 122 #[true, true, true, true, true, true, true, true, true, true, true, true, true, true, true, true, true, true, true, true, true, true, true, true, true, true, true, true, true, true, true, true, true, false, false, false, false, false, false, false, false, false, false, false, false, false, false, false, false, false, false, false, false, false, false, false, false, false, false, false, false, false, false, false, false, false, false, false, false, false, false, false, false, false, false] rfl rfl (by kernel_rfl) (by kernel_rfl) (by kernel_rfl) (by kernel_rfl) (by kernel_rfl) (by kernel_rfl) (fun _ _ _ h => h) (by kernel_rfl) (by rfl) ?hy hHeld.out ?_
                    case hy => rintro W ⟨r0, r1, r2, r3, r4⟩; first | (go_simp; done) | (go_simp; with_reducible rfl)
                    simp only [List.setIfInBounds_toArray, List.set_cons_zero, List.set_cons_succ]
                    refine sk0 (v := ?_) 33 123 #[true, true, true, true, true, true, true, true, true, true, true, true, true, true, true, true, true, true, true, true, true, true, true, true, true, true, true, true, true, true, true, true, true, true, false, false, false, false, false, false, false, false, false, false, false, false, false, false, false, false, false, false, false, false, false, false, false, false, false, false, false, false, false, false, false, false, false, false, false, false, false, false, false, false, false] rfl rfl (by kernel_rfl) (by kernel_rfl) (by kernel_rfl) (by kernel_rfl) (fun _ _ _ h => h) (by kernel_rfl) (by rfl) ?hy (fun _ => hHeld.out) ?_
                    case hy => intro W; first | (go_simp; done) | (go_simp; with_reducible rfl)
                    simp only [List.setIfInBounds_toArray, List.set_cons_zero, List.set_cons_succ]
                    refine sk1 (v := ?_) 34 124 #[true, true, true, true, true, true, true, true, true, true, true, true, true, true, true, true, true, true, true, true, true, true, true, true, true, true, true, true, true, true, true, true, true, true, true, false, false, false, false, false, false, false, false, false, false, false, false, false, false, false, false, false, false, false, false, false, false, false, false, false, false, false, false, false, false, false, false, false, false, false, false, false, false, false, false] rfl rfl (by kernel_rfl) (by kernel_rfl) (by kernel_rfl) (by kernel_rfl) (by kernel_rfl) (by kernel_rfl) (fun _ _ _ h => h) (by kernel_rfl) (by rfl) ?hy hHeld.out ?_
                    case hy => rintro W ⟨r0, r1, r2, r3, r4⟩; first | (go_simp; done) | (go_simp; with_reducible rfl)
                    simp only [List.setIfInBounds_toArray, List.set_cons_zero, List.set_cons_succ]
                    refine sk0 (v := ?_) 35 125 #[true, true, true, true, true, true, true, true, true, true, true, true, true, true, true, true, true, true, true, true, true, true, true, true, true, true, true, true, true, true, true, true, true, true, true, true, false, false, false, false, false, false, false, false, false, false, false, false, false, false, false, false, false, false, false, false, false, false, false, false, false, false, false, false, false, false, false, false, false, false, false, false, false, false, false] rfl rfl (by kernel_rfl) (by kernel_rfl) (by kernel_rfl) (by kernel_rfl) (fun _ _ _ h => h) (by kernel_rfl) (by rfl) ?hy (fun _ => hHeld.out) ?_
                    case hy => intro W; first | (go_simp; done) | (go_simp; with_reducible rfl)
                    simp only [List.setIfInBounds_toArray, List.set_cons_zero, List.set_cons_succ]
                    refine sk0 (v := ?_) 36 126 #[true, true, true, true, true, true, true, true, true, true, true, true, true, true, true, true, true, true, true, true, true, true, true, true, true, true, true, true, true, true, true, true, true, true, true, true, true, false, false, false, false, false, false, false, false, false, false, false, false, false, false, false, false, false, false, false, false, false, false, false, false, false, false, false, false, false, false, false, false, false, false, false, false, false, false] rfl rfl (by kernel_rfl) (by kernel_rfl) (by kernel_rfl) (by kernel_rfl) (fun _ _ _ h => h) (by kernel_rfl) (by rfl) ?hy (fun _ => hHeld.out) ?_
                    case hy => intro W; first | (go_simp; done) | (go_simp; with_reducible rfl)
                    simp only [List.setIfInBounds_toArray, List.set_cons_zero, List.set_cons_succ]
                    refine sk0 (v := ?_) 37 127 #[true, true, true, true, true, true, true, true, true, true, true, true, true, true, true, true, true, true, true, true, true, true, true, true, true, true, true, true, true, true, true, true, true, true, true, true, true, true, false, false, false, false, false, false, false, false, false, false, false, false, false, false, false, false, false, false, false, false, false, false, false, false, false, false, false, false, false, false, false, false, false, false, false, false, false] rfl rfl (by kernel_rfl) (by kernel_rfl) (by kernel_rfl) (by kernel_rfl) (fun _ _ _ h => h) (by kernel_rfl) (by rfl) ?hy (fun _ => hHeld.out) ?_
                    case hy => intro W; first | (go_simp; done) | (go_simp; with_reducible rfl)
                    simp only [List.setIfInBounds_toArray, List.set_cons_zero, List.set_cons_succ]
                    refine sk1 (v := ?_) 38 128 #[true, true, true, true, true, true, true, true, true, true, true, true, true, true, true, true, true, true, true, true, true, true, true, true, true, true, true, true, true, true, true, true, true, true, true, true, true, true, true, false, false, false, false, false, false, false, false, false, false, false, false, false, false, false, false, false, false, false, false, false, false, false, false, false, false, false, false, false, false, false, false, false, false, false, false] rfl rfl (by kernel_rfl) (by kernel_rfl) (by kernel_rfl) (by kernel_rfl) (by kernel_rfl) (by kernel_rfl) (fun _ _ _ h => h) (by kernel_rfl) (by rfl) ?hy hHeld.out ?_
                    case hy => rintro W ⟨r0, r1, r2, r3, r4⟩; first | (go_simp; done) | (go_simp; with_reducible rfl)
                    simp only [List.setIfInBounds_toArray, List.set_cons_zero, List.set_cons_succ]
                    refine sk0 (v := ?_) 39 129 #[true, true, true, true, true, true, true, true, true, true, true, true, true, true, true, true, true, true, true, true, true, true, true, true, true, true, true, true, true, true, true, true, true, true, true, true, true, true, true, true, false, false, false, false, false, false, false, false, false, false, false, false, false, false, false, false, false, false, false, false, false, false, false, false, false, false, false, false, false, false, false, false, false, false, false] rfl rfl (by kernel_rfl) (by kernel_rfl) (by kernel_rfl) (by kernel_rfl) (fun _ _ _ h => h) (by kernel_rfl) (by rfl) ?hy (fun _ => hHeld.out) ?_
                    case hy => intro W; first | (go_simp; done) | (go_simp; with_reducible rfl)
                    simp only [List.setIfInBounds_toArray, List.set_cons_zero, List.set_cons_succ]
                    refine sk1 (v := ?_) 40 130 #[true, true, true, true, true, true, true, true, true, true, true, true, true, true, true, true, true, true, true, true, true, true, true, true, true, true, true, true, true, true, true, true, true, true, true, true, true, true, true, true, true, false, false, false, false, false, false, false, false, false, false, false, false, false, false, false, false, false, false, false, false, false, false, false, false, false, false, false, false, false, false, false, false, false, false] rfl rfl (by kernel_rfl) (by kernel_rfl) (by kernel_rfl) (by kernel_rfl) (by kernel_rfl) (by kernel_rfl) (fun _ _ _ h => h) (by kernel_rfl) (by rfl) ?hy hHeld.out ?_
                    case hy => rintro W ⟨r0, r1, r2, r3, r4⟩; first | (go_simp; done) | (go_simp; with_reducible rfl)
                    simp only [List.setIfInBounds_toArray, List.set_cons_zero, List.set_cons_succ]
                    refine sk0 (v := ?_) 41 131 #[true, true, true, true, true, true, true, true, true, true, true, true, true, true, true, true, true, true, true, true, true, true, true, true, true, true, true, true, true, true, true, true, true, true, true, true, true, true, true, true, true, true, false, false, false, false, false, false, false, false, false, false, false, false, false, false, false, false, false, false, false, false, false, false, false, false, false, false, false, false, false, false, false, false, false] rfl rfl (by kernel_rfl) (by kernel_rfl) (by kernel_rfl) (by kernel_rfl) (fun _ _ _ h => h) (by kernel_rfl) (by rfl) ?hy (fun _ => hHeld.out) ?_
                    case hy => intro W; first | (go_simp; done) | (go_simp; with_reducible rfl)
                    simp only [List.setIfInBounds_toArray, List.set_cons_zero, List.set_cons_succ]
                    refine sk0 (v := ?_) 42 132 #[true, true, true, true, true, true, true, true, true, true, true, true, true, true, true, true, true, true, true, true, true, true, true, true, true, true, true, true, true, true, true, true, true, true, true, true, true, true, true, true, true, true, true, false, false, false, false, false, false, false, false, false, false, false, false, false, false, false, false, false, false, false, false, false, false, false, false, false, false, false, false, false, false, false, false] rfl rfl (by kernel_rfl) (by kernel_rfl) (by kernel_rfl) (by kernel_rfl) (fun _ _ _ h => h) (by kernel_rfl) (by rfl) ?hy (fun _ => hHeld.out) ?_
                    case hy => intro W; first | (go_simp; done) | (go_simp; with_reducible rfl)
                    simp only [List.setIfInBounds_toArray, List.set_cons_zero, List.set_cons_succ]
                    refine sk0 (v := ?_) 43 133 #[true, true, true, true, true, true, true, true, true, true, true, true, true, true, true, true, true, true, true, true, true, true, true, true, true, true, true, true, true, true, true, true, true, true, true, true, true, true, true, true, true, true, true, true, false, false, false, false, false, false, false, false, false, false, false, false, false, false, false, false, false, false, false, false, false, false, false, false, false, false, false, false, false, false, false] rfl rfl (by kernel_rfl) (by kernel_rfl) (by kernel_rfl) (by kernel_rfl) (fun _ _ _ h => h) (by kernel_rfl) (by rfl) ?hy (fun _ => hHeld.out) ?_
                    case hy => intro W; first | (go_simp; done) | (go_simp; with_reducible rfl)
                    simp only [List.setIfInBounds_toArray, List.set_cons_zero, List.set_cons_succ]
                    refine sk1 (v := ?_) 44 134 #[true, true, true, true, true, true, true, true, true, true, true, true, true, true, true, true, true, true, true, true, true, true, true, true, true, true, true, true, true, true, true, true, true, true, true, true, true, true, true, true, true, true, true, true, true, false, false, false, false, false, false, false, false, false, false, false, false, false, false, false, false, false, false, false, false, false, false, false, false, false, false, false, false, false, false] rfl rfl (by kernel_rfl) (by kernel_rfl) (by kernel_rfl) (by kernel_rfl) (by kernel_rfl) (by kernel_rfl) (fun _ _ _ h => h) (by kernel_rfl) (by rfl) ?hy hHeld.out ?_
                    case hy => rintro W ⟨r0, r1, r2, r3, r4⟩; first | (go_simp; done) | (go_simp; with_reducible rfl)
                    simp only [List.setIfInBounds_toArray, List.set_cons_zero, List.set_cons_succ]
                    refine sk0 (v := ?_) 45 135 #[true, true, true, true, true, true, true, true, true, true, true, true, true, true, true, true, true, true, true, true, true, true, true, true, true, true, true, true, true, true, true, true, true, true, true, true, true, true, true, true, true, true, true, true, true, true, false, false, false, false, false, false, false, false, false, false, false, false, false, false, false, false, false, false, false, false, false, false, false, false, false, false, false, false, false] rfl rfl (by kernel_rfl) (by kernel_rfl) (by kernel_rfl) (by kernel_rfl) (fun _ _ _ h => h) (by kernel_rfl) (by rfl) ?hy (fun _ => hHeld.out) ?_
                    case hy => intro W; first | (go_simp; done) | (go_simp; with_reducible rfl)
                    simp only [List.setIfInBounds_toArray, List.set_cons_zero, List.set_cons_succ]
                    refine sk0 (v := ?_) 46 136 #[true, true, true, true, true, true, true, true, true, true, true, true, true, true, true, true, true, true, true, true, true, true, true, true, true, true, true, true, true, true, true, true, true, true, true, true, true, true, true, true, true, true, true, true, true, true, true, false, false, false, false, false, false, false, false, false, false, false, false, false, false, false, false, false, false, false, false, false, false, false, false, false, false, false, false] rfl rfl (by kernel_rfl) (by kernel_rfl) (by kernel_rfl) (by kernel_rfl) (fun _ _ _ h => h) (by kernel_rfl) (by rfl) ?hy (fun _ => hHeld.out) ?_
                    case hy => intro W; first | (go_simp; done) | (go_simp; with_reducible rfl)
                    simp only [List.setIfInBounds_toArray, List.set_cons_zero, List.set_cons_succ]
                    refine sk0 (v := ?_) 47 137 #[true, true, true, true, true, true, true, true, true, true, true, true, true, true, true, true, true, true, true, true, true, true, true, true, true, true, true, true, true, true, true, true, true, true, true, true, true, true, true, true, true, true, true, true, true, true, true, true, false, false, false, false, false, false, false, false, false, false, false, false, false, false, false, false, false, false, false, false, false, false, false, false, false, false, false] rfl rfl (by kernel_rfl) (by kernel_rfl) (by kernel_rfl) (by kernel_rfl) (fun _ _ _ h => h) (by kernel_rfl) (by rfl) ?hy (fun _ => hHeld.out) ?_
                    case hy => intro W; first | (go_simp; done) | (go_simp; with_reducible rfl)
                    simp only [List.setIfInBounds_toArray, List.set_cons_zero, List.set_cons_succ]
                    refine sk0 (v := ?_) 48 138 #[true, true, true, true, true, true, true, true, true, true, true, true, true, true, true, true, true, true, true, true, true, true, true, true, true, true, true, true, true, true, true, true, true, true, true, true, true, true, true, true, true, true, true, true, true, true, true, true, true, false, false, false, false, false, false, false, false, false, false, false, false, false, false, false, false, false, false, false, false, false, false, false, false, false, false] rfl rfl (by kernel_rfl) (by kernel_rfl) (by kernel_rfl) (by kernel_rfl) (fun _ _ _ h => h) (by kernel_rfl) (by rfl) ?hy (fun _ => hHeld.out) ?_
                    case hy => intro W; first | (go_simp; done) | (go_simp; with_reducible rfl)
                    simp only [List.setIfInBounds_toArray, List.set_cons_zero, List.set_cons_succ]
                    refine sk1 (v := ?_) 49 139 #[true, true, true, true, true, true, true, true, true, true, true, true, true, true, true, true, true, true, true, true, true, true, true, true, true, true, true, true, true, true, true, true, true, true, true, true, true, true, true, true, true, true, true, true, true, true, true, true, true, true, false, false, false, false, false, false, false, false, false, false, false, false, false, false, false, false, false, false, false, false, false, false, false, false, false] rfl rfl (by kernel_rfl) (by kernel_rfl) (by kernel_rfl) (by kernel_rfl) (by kernel_rfl) (by kernel_rfl) (fun _ _ _ h => h) (by kernel_rfl) (by rfl) ?hy hHeld.out ?_
                    case hy => rintro W ⟨r0, r1, r2, r3, r4⟩; first | (go_simp; done) | (go_simp; with_reducible rfl)
                    simp only [List.setIfInBounds_toArray, List.set_cons_zero, List.set_cons_succ]
                    refine sk0 (v := ?_) 50 140 #[true, true, true, true, true, true, true, true, true, true, true, true, true, true, true, true, true, true, true, true, true, true, true, true, true, true, true, true, true, true, true, true, true, true, true, true, true, true, true, true, true, true, true, true, true, true, true, true, true, true, true, false, false, false, false, false, false, false, false, false, false, false, false, false, false, false, false, false, false, false, false, false, false, false, false] rfl rfl (by kernel_rfl) (by kernel_rfl) (by kernel_rfl) (by kernel_rfl) (fun _ _ _ h => h) (by kernel_rfl) (by rfl) ?hy (fun _ => hHeld.out) ?_
                    case hy => intro W; first | (go_simp; done) | (go_simp; with_reducible rfl)
                    simp only [List.setIfInBounds_toArray, List.set_cons_zero, List.set_cons_succ]
                    refine sk0 (v := ?_) 51 141 #[true, true, true, true, true, true, true, true, true, true, true, true, true, true, true, true, true, true, true, true, true, true, true, true, true, true, true, true, true, true, true, true, true, true, true, true, true, true, true, true, true, true, true, true, true, true, true, true, true, true, true, true, false, false, false, false, false, false, false, false, false, false, false, false, false, false, false, false, false, false, false, false, false, false, false] rfl rfl (by kernel_rfl) (by kernel_rfl) (by kernel_rfl) (by kernel_rfl) (fun _ _ _ h => h) (by kernel_rfl) (by rfl) ?hy (fun _ => hHeld.out) ?_
                    case hy => intro W; first | (go_simp; done) | (go_simp; with_reducible rfl)
                    simp only [List.setIfInBounds_toArray, List.set_cons_zero, List.set_cons_succ]
                    refine sk0 (v := ?_) 52 142 #[true, true, true, true, true, true, true, true, true, true, true, true, true, true, true, true, true, true, true, true, true, true, true, true, true, true, true, true, true, true, true, true, true, true, true, true, true, true, true, true, true, true, true, true, true, true, true, true, true, true, true, true, true, false, false, false, false, false, false, false, false, false, false, false, false, false, false, false, false, false, false, false, false, false, false] rfl rfl (by kernel_rfl) (by kernel_rfl) (by kernel_rfl) (by kernel_rfl) (fun _ _ _ h => h) (by kernel_rfl) (by rfl) ?hy (fun _ => hHeld.out) ?_
                    case hy => intro W; first | (go_simp; done) | (go_simp; with_reducible rfl)
                    simp only [List.setIfInBounds_toArray, List.set_cons_zero, List.set_cons_succ]
                    refine sk1 (v := ?_) 53 143 #[true, true, true, true, true, true, true, true, true, true, true, true, true, true, true, true, true, true, true, true, true, true, true, true, true, true, true, true, true, true, true, true, true, true, true, true, true, true, true, true, true, true, true, true, true, true, true, true, true, true, true, true, true, true, false, false, false, false, false, false, false, false, false, false, false, false, false, false, false, false, false, false, false, false, false] rfl rfl (by kernel_rfl) (by kernel_rfl) (by kernel_rfl) (by kernel_rfl) (by kernel_rfl) (by kernel_rfl) (fun _ _ _ h => h) (by kernel_rfl) (by rfl) ?hy hHeld.out ?_
                    case hy => rintro W ⟨r0, r1, r2, r3, r4⟩; first | (go_simp; done) | (go_simp; with_reducible rfl)
                    simp only [List.setIfInBounds_toArray, List.set_cons_zero, List.set_cons_succ]
                    refine sk0 (v := ?_) 54 144 #[true, true, true, true, true, true, true, true, true, true, true, true, true, true, true, true, true, true, true, true, true, true, true, true, true, true, true, true, true, true, true, true, true, true, true, true, true, true, true, true, true, true, true, true, true, true, true, true, true, true, true, true, true, true, true, false, false, false, false, false, false, false, false, false, false, false, false, false, false, false, false, false, false, false, false] rfl rfl (by kernel_rfl) (by kernel_rfl) (by kernel_rfl) (by kernel_rfl) (fun _ _ _ h => h) (by kernel_rfl) (by rfl) ?hy (fun _ => hHeld.out) ?_
                    case hy => intro W; first | (go_simp; done) | (go_simp; with_reducible rfl)
                    simp only [List.setIfInBounds_toArray, List.set_cons_zero, List.set_cons_succ]
                    refine sk0 (v := ?_) 55 145 #[true, true, true, true, true, true, true, true, true, true, true, true, true, true, true, true, true, true, true, true, true, true, true, true, true, true, true, true, true, true, true, true, true, true, true, true, true, true, true, true, true, true, true, true, true, true, true, true, true, true, true, true, true, true, true, true, false, false, false, false, false, false, false, false, false, false, false, false, false, false, false, false, false, false, false] rfl rfl (by kernel_rfl) (by kernel_rfl) (by kernel_rfl) (by kernel_rfl) (fun _ _ _ h => h) (by kernel_rfl) (by rfl) ?hy (fun _ => hHeld.out) ?_
                    case hy => intro W; first | (go_simp; done) | (go_simp; with_reducible rfl)
                    simp only [List.setIfInBounds_toArray, List.set_cons_zero, List.set_cons_succ]
                    refine sk0 (v := ?_) 56 146 #[true, true, true, true, true, true, true, true, true, true, true, true, true, true, true, true, true, true, true, true, true, true, true, true, true, true, true, true, true, true, true, true, true, true, true, true, true, true, true, true, true, true, true, true, true, true, true, true, true, true, true, true, true, true, true, true, true, false, false, false, false, false, false, false, false, false, false, false, false, false, false, false, false, false, false] rfl rfl (by kernel_rfl) (by kernel_rfl) (by kernel_rfl) (by kernel_rfl) (fun _ _ _ h => h) (by kernel_rfl) (by rfl) ?hy (fun _ => hHeld.out) ?_
                    case hy => intro W; first | (go_simp; done) | (go_simp; with_reducible rfl)
                    simp only [List.setIfInBounds_toArray, List.set_cons_zero, List.set_cons_succ]
                    refine sk1 (v := ?_) 57 147 #[true, true, true, true, true, true, true, true, true, true, true, true, true, true, true, true, true, true, true, true, true, true, true, true, true, true, true, true, true, true, true, true, true, true, true, true, true, true, true, true, true, true, true, true, true, true, true, true, true, true, true, true, true, true, true, true, true, true, false, false, false, false, false, false, false, false, false, false, false, false, false, false, false, false, false] rfl rfl (by kernel_rfl) (by kernel_rfl) (by kernel_rfl) (by kernel_rfl) (by kernel_rfl) (by kernel_rfl) (fun _ _ _ h => h) (by kernel_rfl) (by rfl) ?hy hHeld.out ?_
                    case hy => rintro W ⟨r0, r1, r2, r3, r4⟩; first | (go_simp; done) | (go_simp; with_reducible rfl)
                    simp only [List.setIfInBounds_toArray, List.set_cons_zero, List.set_cons_succ]
                    refine sk0 (v := ?_) 58 148 #[true, true, true, true, true, true, true, true, true, true, true, true, true, true, true, true, true, true, true, true, true, true, true, true, true, true, true, true, true, true, true, true, true, true, true, true, true, true, true, true, true, true, true, true, true, true, true, true, true, true, true, true, true, true, true, true, true, true, true, false, false, false, false, false, false, false, false, false, false, false, false, false, false, false, false] rfl rfl (by kernel_rfl) (by kernel_rfl) (by kernel_rfl) (by kernel_rfl) (fun _ _ _ h => h) (by kernel_rfl) (by rfl) ?hy (fun _ => hHeld.out) ?_
                    case hy => intro W; first | (go_simp; done) | (go_simp; with_reducible rfl)
                    simp only [List.setIfInBounds_toArray, List.set_cons_zero, List.set_cons_succ]
                    refine sk0 (v := ?_) 59 149 #[true, true, true, true, true, true, true, true, true, true, true, true, true, true, true, true, true, true, true, true, true, true, true, true, true, true, true, true, true, true, true, true, true, true, true, true, true, true, true, true, true, true, true, true, true, true, true, true, true, true, true, true, true, true, true, true, true, true, true, true, false, false, false, false, false, false, false, false, false, false, false, false, false, false, false] rfl rfl (by kernel_rfl) (by kernel_rfl) (by kernel_rfl) (by kernel_rfl) (fun _ _ _ h => h) (by kernel_rfl) (by rfl) ?hy (fun _ => hHeld.out) ?_
                    case hy => intro W; first | (go_simp; done) | (go_simp; with_reducible rfl)
                    simp only [List.setIfInBounds_toArray, List.set_cons_zero, List.set_cons_succ]
                    refine sk1 (v := ?_) 60 150 #[true, true, true, true, true, true, true, true, true, true, true, true, true, true, true, true, true, true, true, true, true, true, true, true, true, true, true, true, true, true, true, true, true, true, true, true, true, true, true, true, true, true, true, true, true, true, true, true, true, true, true, true, true, true, true, true, true, true, true, true, true, false, false, false, false, false, false, false, false, false, false, false, false, false, false] rfl rfl (by kernel_rfl) (by kernel_rfl) (by kernel_rfl) (by kernel_rfl) (by kernel_rfl) (by kernel_rfl) (fun _ _ _ h => h) (by kernel_rfl) (by rfl) ?hy hHeld.out ?_
                    case hy => rintro W ⟨r0, r1, r2, r3, r4⟩; first | (go_simp; done) | (go_simp; with_reducible rfl)
                    simp only [List.setIfInBounds_toArray, List.set_cons_zero, List.set_cons_succ]
                    refine sk0 (v := ?_) 61 151 #[true, true, true, true, true, true, true, true, true, true, true, true, true, true, true, true, true, true, true, true, true, true, true, true, true, true, true, true, true, true, true, true, true, true, true, true, true, true, true, true, true, true, true, true, true, true, true, true, true, true, true, true, true, true, true, true, true, true, true, true, true, true, false, false, false, false, false, false, false, false, false, false, false, false, false] rfl rfl (by kernel_rfl) (by kernel_rfl) (by kernel_rfl) (by kernel_rfl) (fun _ _ _ h => h) (by kernel_rfl) (by rfl) ?hy (fun _ => hHeld.out) ?_
                    case hy => intro W; first | (go_simp; done) | (go_simp; with_reducible rfl)
                    simp only [List.setIfInBounds_toArray, List.set_cons_zero, List.set_cons_succ]
                    refine sk0 (v := ?_) 62 152 #[true, true, true, true, true, true, true, true, true, true, true, true, true, true, true, true, true, true, true, true, true, true, true, true, true, true, true, true, true, true, true, true, true, true, true, true, true, true, true, true, true, true, true, true, true, true, true, true, true, true, true, true, true, true, true, true, true, true, true, true, true, true, true, false, false, false, false, false, false, false, false, false, false, false, false] rfl rfl (by kernel_rfl) (by kernel_rfl) (by kernel_rfl) (by kernel_rfl) (fun _ _ _ h => h) (by kernel_rfl) (by rfl) ?hy (fun _ => hHeld.out) ?_
                    case hy => intro W; first | (go_simp; done) | (go_simp; with_reducible rfl)
                    simp only [List.setIfInBounds_toArray, List.set_cons_zero, List.set_cons_succ]
                    refine sk0 (v := ?_) 63 153 #[true, true, true, true, true, true, true, true, true, true, true, true, true, true, true, true, true, true, true, true, true, true, true, true, true, true, true, true, true, true, true, true, true, true, true, true, true, true, true, true, true, true, true, true, true, true, true, true, true, true, true, true, true, true, true, true, true, true, true, true, true, true, true, true, false, false, false, false, false, false, false, false, false, false, false] rfl rfl (by kernel_rfl) (by kernel_rfl) (by kernel_rfl) (by kernel_rfl) (fun _ _ _ h => h) (by kernel_rfl) (by rfl) ?hy (fun _ => hHeld.out) ?_
                    case hy => intro W; first | (go_simp; done) | (go_simp; with_reducible rfl)
                    simp only [List.setIfInBounds_toArray, List.set_cons_zero, List.set_cons_succ]
                    refine sk1 (v := ?_) 64 154 #[true, true, true, true, true, true, true, true, true, true, true, true, true, true, true, true, true, true, true, true, true, true, true, true, true, true, true, true, true, true, true, true, true, true, true, true, true, true, true, true, true, true, true, true, true, true, true, true, true, true, true, true, true, true, true, true, true, true, true, true, true, true, true, true, true, false, false, false, false, false, false, false, false, false, false] rfl rfl (by kernel_rfl) (by kernel_rfl) (by kernel_rfl) (by kernel_rfl) (by kernel_rfl) (by kernel_rfl) (fun _ _ _ h => h) (by kernel_rfl) (by rfl) ?hy hHeld.out ?_
                    case hy => rintro W ⟨r0, r1, r2, r3, r4⟩; first | (go_simp; done) | (go_simp; with_reducible rfl)
                    simp only [List.setIfInBounds_toArray, List.set_cons_zero, List.set_cons_succ]
                    refine sk0 (v := ?_) 65 155 #[true, true, true, true, true, true, true, true, true, true, true, true, true, true, true, true, true, true, true, true, true, true, true, true, true, true, true, true, true, true, true, true, true, true, true, true, true, true, true, true, true, true, true, true, true, true, true, true, true, true, true, true, true, true, true, true, true, true, true, true, true, true, true, true, true, true, false, false, false, false, false, false, false, false, false] rfl rfl (by kernel_rfl) (by kernel_rfl) (by kernel_rfl) (by kernel_rfl) (fun _ _ _ h => h) (by kernel_rfl) (by rfl) ?hy (fun _ => hHeld.out) ?_
                    case hy => intro W; first | (go_simp; done) | (go_simp; with_reducible rfl)
                    simp only [List.setIfInBounds_toArray, List.set_cons_zero, List.set_cons_succ]
                    refine sk1 (v := ?_) 66 156 #[true, true, true, true, true, true, true, true, true, true, true, true, true, true, true, true, true, true, true, true, true, true, true, true, true, true, true, true, true, true, true, true, true, true, true, true, true, true, true, true, true, true, true, true, true, true, true, true, true, true, true, true, true, true, true, true, true, true, true, true, true, true, true, true, true, true, true, false, false, false, false, false, false, false, false] rfl rfl (by kernel_rfl) (by kernel_rfl) (by kernel_rfl) (by kernel_rfl) (by kernel_rfl) (by kernel_rfl) (fun _ _ _ h => h) (by kernel_rfl) (by rfl) ?hy hHeld.out ?_
                    case hy => rintro W ⟨r0, r1, r2, r3, r4⟩; first | (go_simp; done) | (go_simp; with_reducible rfl)
                    simp only [List.setIfInBounds_toArray, List.set_cons_zero, List.set_cons_succ]
                    refine sk0 (v := ?_) 67 157 #[true, true, true, true, true, true, true, true, true, true, true, true, true, true, true, true, true, true, true, true, true, true, true, true, true, true, true, true, true, true, true, true, true, true, true, true, true, true, true, true, true, true, true, true, true, true, true, true, true, true, true, true, true, true, true, true, true, true, true, true, true, true, true, true, true, true, true, true, false, false, false, false, false, false, false] rfl rfl (by kernel_rfl) (by kernel_rfl) (by kernel_rfl) (by kernel_rfl) (fun _ _ _ h => h) (by kernel_rfl) (by rfl) ?hy (fun _ => hHeld.out) ?_
                    case hy => intro W; first | (go_simp; done) | (go_simp; with_reducible rfl)
                    simp only [List.setIfInBounds_toArray, List.set_cons_zero, List.set_cons_succ]
                    refine sk0 (v := ?_) 68 158 #[true, true, true, true, true, true, true, true, true, true, true, true, true, true, true, true, true, true, true, true, true, true, true, true, true, true, true, true, true, true, true, true, true, true, true, true, true, true, true, true, true, true, true, true, true, true, true, true, true, true, true, true, true, true, true, true, true, true, true, true, true, true, true, true, true, true, true, true, true, false, false, false, false, false, false] rfl rfl (by kernel_rfl) (by kernel_rfl) (by kernel_rfl) (by kernel_rfl) (fun _ _ _ h => h) (by kernel_rfl) (by rfl) ?hy (fun _ => hHeld.out) ?_
                    case hy => intro W; first | (go_simp; done) | (go_simp; with_reducible rfl)
                    simp only [List.setIfInBounds_toArray, List.set_cons_zero, List.set_cons_succ]
                    refine sk0 (v := ?_) 69 159 #[true, true, true, true, true, true, true, true, true, true, true, true, true, true, true, true, true, true, true, true, true, true, true, true, true, true, true, true, true, true, true, true, true, true, true, true, true, true, true, true, true, true, true, true, true, true, true, true, true, true, true, true, true, true, true, true, true, true, true, true, true, true, true, true, true, true, true, true, true, true, false, false, false, false, false] rfl rfl (by kernel_rfl) (by kernel_rfl) (by kernel_rfl) (by kernel_rfl) (fun _ _ _ h => h) (by kernel_rfl) (by rfl) ?hy (fun _ => hHeld.out) ?_
                    case hy => intro W; first | (go_simp; done) | (go_simp; with_reducible rfl)
                    simp only [List.setIfInBounds_toArray, List.set_cons_zero, List.set_cons_succ]
                    refine sk0 (v := ?_) 70 160 #[true, true, true, true, true, true, true, true, true, true, true, true, true, true, true, true, true, true, true, true, true, true, true, true, true, true, true, true, true, true, true, true, true, true, true, true, true, true, true, true, true, true, true, true, true, true, true, true, true, true, true, true, true, true, true, true, true, true, true, true, true, true, true, true, true, true, true, true, true, true, true, false, false, false, false] rfl rfl (by kernel_rfl) (by kernel_rfl) (by kernel_rfl) (by kernel_rfl) (fun _ _ _ h => h) (by kernel_rfl) (by rfl) ?hy (fun _ => hHeld.out) ?_
                    case hy => intro W; first | (go_simp; done) | (go_simp; with_reducible rfl)
                    simp only [List.setIfInBounds_toArray, List.set_cons_zero, List.set_cons_succ]
                    refine sk1 (v := ?_) 71 161 #[true, true, true, true, true, true, true, true, true, true, true, true, true, true, true, true, true, true, true, true, true, true, true, true, true, true, true, true, true, true, true, true, true, true, true, true, true, true, true, true, true, true, true, true, true, true, true, true, true, true, true, true, true, true, true, true, true, true, true, true, true, true, true, true, true, true, true, true, true, true, true, true, false, false, false] rfl rfl (by kernel_rfl) (by kernel_rfl) (by kernel_rfl) (by kernel_rfl) (by kernel_rfl) (by kernel_rfl) (fun _ _ _ h => h) (by kernel_rfl) (by rfl) ?hy hHeld.out ?_
                    case hy => rintro W ⟨r0, r1, r2, r3, r4⟩; first | (go_simp; done) | (go_simp; with_reducible rfl)
                    simp only [List.setIfInBounds_toArray, List.set_cons_zero, List.set_cons_succ]
                    refine sk0 (v := ?_) 72 162 #[true, true, true, true, true, true, true, true, true, true, true, true, true, true, true, true, true, true, true, true, true, true, true, true, true, true, true, true, true, true, true, true, true, true, true, true, true, true, true, true, true, true, true, true, true, true, true, true, true, true, true, true, true, true, true, true, true, true, true, true, true, true, true, true, true, true, true, true, true, true, true, true, true, false, false] rfl rfl (by kernel_rfl) (by kernel_rfl) (by kernel_rfl) (by kernel_rfl) (fun _ _ _ h => h) (by kernel_rfl) (by rfl) ?hy (fun _ => hHeld.out) ?_
                    case hy => intro W; first | (go_simp; done) | (go_simp; with_reducible rfl)
                    simp only [List.setIfInBounds_toArray, List.set_cons_zero, List.set_cons_succ]
                    refine s_ready 73 #[true, true, true, true, true, true, true, true, true, true, true, true, true, true, true, true, true, true, true, true, true, true, true, true, true, true, true, true, true, true, true, true, true, true, true, true, true, true, true, true, true, true, true, true, true, true, true, true, true, true, true, true, true, true, true, true, true, true, true, true, true, true, true, true, true, true, true, true, true, true, true, true, true, true, false] rfl (by kernel_rfl) (by kernel_rfl) (by rfl) (fun K hK => ?_)
                    refine op_calls16 _ _ _ _ _ _ _ _ _ _ _ _ _ _ _ _ rfl ⟨0, 0, (x, y), na, [97]⟩ ⟨0, 0, (x, y), nb, [98]⟩ ⟨0, 0, (x, y), nc, [99]⟩ ⟨0, 4, (0, 0), nb, []⟩ ⟨0, 6, (0, 0), nc, []⟩ ⟨0, 7, (x, y), nc, []⟩ ⟨0, 1, (x, y), na, []⟩ ⟨0, 1, (x, y), nb, []⟩ ⟨0, 5, (0, 0), na, []⟩ ⟨0, 5, (0, 0), 1, []⟩ ⟨0, 5, (0, 0), 1, []⟩ ⟨0, 7, (x, y), nb, []⟩ ⟨0, 8, (0, 0), 0, []⟩ ⟨0, 1, (x, y), nc, []⟩ ⟨0, 2, (x, y), 0, []⟩ ⟨0, 7, (0, 0), nc, []⟩ rfl rfl rfl rfl rfl rfl rfl rfl rfl rfl rfl rfl rfl rfl rfl rfl ?_
                    simp only [Act.put, List.setIfInBounds_toArray]
                    refine hK.out _ _ (fun _ => HX.out _ (HD9.out.alloc HD9.out.size _)) ?_
                    clear hK K
                    refine s_ready 74 #[true, true, true, true, true, true, true, true, true, true, true, true, true, true, true, true, true, true, true, true, true, true, true, true, true, true, true, true, true, true, true, true, true, true, true, true, true, true, true, true, true, true, true, true, true, true, true, true, true, true, true, true, true, true, true, true, true, true, true, true, true, true, true, true, true, true, true, true, true, true, true, true, true, true, true] rfl (by kernel_rfl) (by kernel_rfl) (by rfl) (fun K hK => ?_)
                    go_simp
                    refine hK.out _ _ (fun _ => HX.out _ (HD9.out.alloc HD9.out.size _)) ?_
                    clear hK K
                    refine s_done (by kernel_rfl) ?_ _
                    go_wp2_with fail
                    refine (HSC.out _ rfl).mono ?_
                    rintro e w6 ⟨rfl, hb6⟩
                    have HB6 := hide ((HB9.out.alloc HB9.out.size _).trans (hb6.mono (HB9.out.alloc HB9.out.size _).size))
                    clear hb6 HSC HB9 HB HX HD9 hHeld
                    go_wp2_with fail
                    go_roundw
                    case rel => exact ⟨c + 1, HCL.out, by first | exact congrArg (Value.int .i64) wkc | rfl, HB6⟩
                    case measure => first | (rw [wkc]; simp [intOf]; have := HCL.out; omega) | (simp [intOf]; have := HCL.out; omega)
                · have e : c = 8 := by omega
                  subst e
                  have hd1 : decide (((8 : Nat) : Int) < 8) = false := by decide
                  rw [show ((8 : Nat) : Int) = 8 from rfl] at hd1 ⊢
                  go_wp2_with fail
                  go_roundw
                  case rel => exact ⟨b + 1, hb, by first | exact congrArg (Value.int .i64) wkb' | rfl, HB⟩
                  case measure => first | (rw [wkb']; simp [intOf]; omega) | (simp [intOf]; omega)
            · have e : b = 8 := by omega
              subst e
              have hd1 : decide (((8 : Nat) : Int) < 8) = false := by decide
              rw [show ((8 : Nat) : Int) = 8 from rfl] at hd1 ⊢
              go_wp2_with fail
              go_roundw
              case rel => exact ⟨a + 1, ha, by first | exact congrArg (Value.int .i64) wka' | rfl, HB⟩
              case measure => first | (rw [wka']; simp [intOf]; omega) | (simp [intOf]; omega)
        · have e : a = 8 := by omega
          subst e
          have hd1 : decide (((8 : Nat) : Int) < 8) = false := by decide
          rw [show ((8 : Nat) : Int) = 8 from rfl] at hd1 ⊢
          have HM := hide (many_any wr (HE3.out.below HB.out))
          go_wp2_with fail
          refine HM.out.mono ?_
          rintro e w9 ⟨rfl, hb9⟩
          have HB9 := hide (HB3.out.trans ((HB.out.trans (hb9.mono HB.out.size)).mono HB3.out.size))
          clear hb9 HM
          go_wp2_with fail
          go_ret
          exact ⟨rfl, HB9.out⟩
end Go.Proofs.YtgeholiagcckoaaGreatDoor
