/-
  My own text: layer 17: cells lent and copied (printed by mkvw3.py).
-/
import Derived.Test.YtdjhbecbbmdimaaGreatDoorVS2
import Derived.Test.YtdjhbecbbmdimaaGreatDoorVQ
import Derived.Test.YtdjhbecbbmdimaaGreatDoorBK1
import Derived.Test.YtdjhbecbbmdimaaGreatDoorGLL
import Derived.Test.YtdjhbecbbmdimaaGreatDoorGLS
namespace Go.Proofs.YtdjhbecbbmdimaaGreatDoor.BL
open Go.RowKit

set_option maxRecDepth 100000 in
set_option maxHeartbeats 1000000 in
theorem copyM_any (v : Value) (l : List Mk) (w : World) (hv : RM w v l) (hl : l.length ≤ 8796093022000) :
    Calls Tryz.prog 158 #[v] w fun e w' => ∃ v', e = .returned v' ∧ OM w' w.heap.size v' l ∧ Below w.heap.size w w' := by
  obtain ⟨a, cap, rfl, _, hr⟩ := hv
  obtain ⟨i0, hi, hz0, hz1, hz2⟩ := info_parts Tryz.infoMk
  go_enter Tryz.func158, Tryz.ntmps158
  go_wp2_with fail
  go_loopw [3, 4] (fun o i wr => ∃ k : Nat, k ≤ l.length ∧ i = .int .i64 k ∧ wr.ownsRow w.heap.size 142 2 o k (mc (l.take k)) ∧ Below w.heap.size w wr) (fun _ i _ => l.length - (intOf i).toNat)
  case atStart => exact ⟨0, Nat.zero_le _, rfl, World.ownsRow_nil w w.heap.size 142 2, Below.refl _ _⟩
  case round =>
    obtain ⟨k, hk, rfl, hown, hB⟩ := hrel
    by_cases hlt : k < l.length
    · obtain ⟨⟨kd, r⟩, hx⟩ : ∃ p, l[k]? = some p := ⟨_, List.getElem?_eq_getElem hlt⟩
      rcases hr with h0 | ⟨b, off, rfl, hbl, hc⟩
      · rw [h0] at hlt; simp at hlt
      have c0 : wr.cell? ⟨b, off + k * 2, none⟩ = some (.int .i64 kd) := (hB.cell (p := ⟨b, _, none⟩) hbl).trans (hc k _ hx).1
      have c1 : wr.cell? ⟨b, off + k * 2 + 1, none⟩ = some (.int .i64 r) := (hB.cell (p := ⟨b, _, none⟩) hbl).trans (hc k _ hx).2
      have c1' : wr.cell? ⟨b, off + (k * 2 + 1), none⟩ = some (.int .i64 r) := c1
      have HT := hide (mc_take hx)
      clear hc hx
      go_wp2_with (first
        | (at_builtin; refine wpList_append_own_wide _ rfl _ _ 58 rfl w.heap.size 142 i0 (.agg #[.int .i64 0, .int .i64 0]) 2 16 Tryz.underlying58 hi hz0 hz1 hz2 rfl (by decide) _ _ _ rfl (hown.alloc _) ⟨_, 0, none⟩ 1 1 [.int .i64 kd, .int .i64 r] rfl rfl ?c1 ?c2 ?c3 ?c4 ?c5 ?_)
        | go_in)
      case c2 => exact ⟨rfl, rfl⟩
      case c3 => unfold maxLen; omega
      case c4 => omega
      case c5 => have := hB.size; simp; omega
      intro v' w1 hown' hgrow _
      have hB1 : Below w.heap.size w w1 := (hB.alloc hB.size _).grown hgrow (by have := hB.size; simp; omega) (fun k hk => (hown.lt k hk).1)
      clear hown hgrow
      go_wp2_with fail
      go_roundw
      case rel => exact ⟨k + 1, by omega, by go_num, by rw [HT.out]; exact hown', hB1⟩
      case measure => simp [intOf]; omega
    · have hk' : k = l.length := by omega
      subst hk'
      rw [List.take_length] at hown
      clear hr
      go_wp2_with fail
      go_ret
      exact ⟨_, rfl, hown, hB⟩
end Go.Proofs.YtdjhbecbbmdimaaGreatDoor.BL
namespace Go.Proofs.YtdjhbecbbmdimaaGreatDoor
open Go.RowKit

theorem owns_dn {B C : Nat} {e : TypeId} {k : Nat} {v : Value} {n : Nat} {xs : List Value} {w : World} (h : w.ownsRow B e k v n xs) (hc : ∀ g, v.ownBlock = some g → C ≤ g) : w.ownsRow C e k v n xs := by
  refine ⟨h.1, ?_⟩
  rcases h.2 with h0 | ⟨g, cap, cur, hv, h1, h2⟩
  · exact .inl h0
  · exact .inr ⟨g, cap, cur, hv, hc g (by rw [hv]; rfl), h2⟩
set_option maxRecDepth 100000 in
set_option maxHeartbeats 4000000 in
theorem lent_any (av st : Int) (mv lv : Value) (ml : List BL.Mk) (ll : List LG.El) (w : World) (h1 : BL.RM w mv ml) (h2 : LG.RM w lv ll) (hm : ml.length ≤ 1000000) (hl : ll.length ≤ 1000000) :
    Calls Tryz.prog 152 #[.agg #[.int .i64 av, mv, .int .i64 st, lv]] w fun e w' => ∃ gm cm gl cl, e = .returned (.agg #[.int .i64 av, .slice (some ⟨gm, 0, none⟩) ml.length cm, .int .i64 st, .slice (some ⟨gl, 0, none⟩) ll.length cl]) ∧ BL.LentM w' w.heap.size gm cm ml ∧ LG.LentM w' w.heap.size gl cl ll ∧ Below w.heap.size w w' := by
  obtain ⟨ma, mc, hmv⟩ := BL.rm_lt h1
  subst hmv
  obtain ⟨la, lc, hlv⟩ := LG.rm_lt h2
  subst hlv
  have HLN : Hid (ml.length ≤ 8796093022000 ∧ ll.length ≤ 3518437208800) := hide ⟨by omega, by omega⟩
  have B0 := hide (two_below w (.cells #[.int .i64 av, .slice ma ml.length mc, .int .i64 st, .slice la ll.length lc] 64) (.cells #[.int .i64 0, .slice none 0 0, .int .i64 0, .slice none 0 0] 64))
  have N0 := hide (two_new w (.cells #[.int .i64 av, .slice ma ml.length mc, .int .i64 st, .slice la ll.length lc] 64) (.cells #[.int .i64 0, .slice none 0 0, .int .i64 0, .slice none 0 0] 64))
  have HM0 := hide h1
  have HL0 := hide h2
  clear h1 h2 hm hl
  go_enter Tryz.func152, Tryz.ntmps152
  go_wp2_with fail
  generalize (w.alloc (.cells #[.int .i64 av, .slice ma ml.length mc, .int .i64 st, .slice la ll.length lc] 64)).alloc (.cells #[.int .i64 0, .slice none 0 0, .int .i64 0, .slice none 0 0] 64) = V0 at B0 N0 ⊢
  have HS0 := hide (four_cells N0.out.1 rfl)
  have HBd : Hid (Below w.heap.size w V0.drew) := hide B0.out.drew
  have NOd : Hid (V0.drew.heap[w.heap.size]? = some (.cells #[.int .i64 av, .slice ma ml.length mc, .int .i64 st, .slice la ll.length lc] 64 (0, 0)) ∧ V0.drew.heap[w.heap.size + 1]? = some (.cells #[.int .i64 0, .slice none 0 0, .int .i64 0, .slice none 0 0] 64 (0, 0))) := hide N0.out
  have HMd : Hid (BL.RM V0.drew (.slice ma ml.length mc) ml) := hide (HM0.out.later HBd.out)
  have HLd : Hid (LG.RM V0.drew (.slice la ll.length lc) ll) := hide (HL0.out.later HBd.out)
  refine z_begins (S := fun W : World => W.cell? ⟨w.heap.size, 0, none⟩ = some (.int .i64 av) ∧ W.cell? ⟨w.heap.size, 1, none⟩ = some (.slice ma ml.length mc) ∧ W.cell? ⟨w.heap.size, 2, none⟩ = some (.int .i64 st) ∧ W.cell? ⟨w.heap.size, 3, none⟩ = some (.slice la ll.length lc)) 12 13 #[false, false, false, false, false, false, false, false, false, false, false, false, false] (by kernel_rfl) (by kernel_rfl) (by kernel_rfl) HS0.out (fun hHeld => ?_)
  refine zk (v := ?_) 0 3 #[true, false, false, false, false, false, false, false, false, false, false, false, false] rfl rfl (by kernel_rfl) (by kernel_rfl) (by kernel_rfl) (by kernel_rfl) (fun _ _ _ h => h) (by kernel_rfl) (by rfl) ?hy hHeld ?_
  case hy => rintro W ⟨s0, s1, s2, s3⟩; first | (go_simp; done) | (go_simp; with_reducible rfl)
  simp only [List.setIfInBounds_toArray, List.set_cons_zero, List.set_cons_succ]
  refine zk (v := ?_) 1 4 #[true, true, false, false, false, false, false, false, false, false, false, false, false] rfl rfl (by kernel_rfl) (by kernel_rfl) (by kernel_rfl) (by kernel_rfl) (fun _ _ _ h => h) (by kernel_rfl) (by rfl) ?hy hHeld ?_
  case hy => rintro W ⟨s0, s1, s2, s3⟩; first | (go_simp; done) | (go_simp; with_reducible rfl)
  simp only [List.setIfInBounds_toArray, List.set_cons_zero, List.set_cons_succ]
  refine zk (v := ?_) 3 6 #[true, true, false, true, false, false, false, false, false, false, false, false, false] rfl rfl (by kernel_rfl) (by kernel_rfl) (by kernel_rfl) (by kernel_rfl) (fun _ _ _ h => h) (by kernel_rfl) (by rfl) ?hy hHeld ?_
  case hy => rintro W ⟨s0, s1, s2, s3⟩; first | (go_simp; done) | (go_simp; with_reducible rfl)
  simp only [List.setIfInBounds_toArray, List.set_cons_zero, List.set_cons_succ]
  refine zk (v := ?_) 4 7 #[true, true, false, true, true, false, false, false, false, false, false, false, false] rfl rfl (by kernel_rfl) (by kernel_rfl) (by kernel_rfl) (by kernel_rfl) (fun _ _ _ h => h) (by kernel_rfl) (by rfl) ?hy hHeld ?_
  case hy => rintro W ⟨s0, s1, s2, s3⟩; first | (go_simp; done) | (go_simp; with_reducible rfl)
  simp only [List.setIfInBounds_toArray, List.set_cons_zero, List.set_cons_succ]
  refine zk (v := ?_) 5 8 #[true, true, false, true, true, true, false, false, false, false, false, false, false] rfl rfl (by kernel_rfl) (by kernel_rfl) (by kernel_rfl) (by kernel_rfl) (fun _ _ _ h => h) (by kernel_rfl) (by rfl) ?hy hHeld ?_
  case hy => rintro W ⟨s0, s1, s2, s3⟩; first | (go_simp; done) | (go_simp; with_reducible rfl)
  simp only [List.setIfInBounds_toArray, List.set_cons_zero, List.set_cons_succ]
  refine zk (v := ?_) 6 9 #[true, true, false, true, true, true, true, false, false, false, false, false, false] rfl rfl (by kernel_rfl) (by kernel_rfl) (by kernel_rfl) (by kernel_rfl) (fun _ _ _ h => h) (by kernel_rfl) (by rfl) ?hy hHeld ?_
  case hy => rintro W ⟨s0, s1, s2, s3⟩; first | (go_simp; done) | (go_simp; with_reducible rfl)
  simp only [List.setIfInBounds_toArray, List.set_cons_zero, List.set_cons_succ]
  refine zk (v := ?_) 7 10 #[true, true, false, true, true, true, true, true, false, false, false, false, false] rfl rfl (by kernel_rfl) (by kernel_rfl) (by kernel_rfl) (by kernel_rfl) (fun _ _ _ h => h) (by kernel_rfl) (by rfl) ?hy hHeld ?_
  case hy => rintro W ⟨s0, s1, s2, s3⟩; first | (go_simp; done) | (go_simp; with_reducible rfl)
  simp only [List.setIfInBounds_toArray, List.set_cons_zero, List.set_cons_succ]
  refine zk (v := ?_) 8 11 #[true, true, false, true, true, true, true, true, true, false, false, false, false] rfl rfl (by kernel_rfl) (by kernel_rfl) (by kernel_rfl) (by kernel_rfl) (fun _ _ _ h => h) (by kernel_rfl) (by rfl) ?hy hHeld ?_
  case hy => rintro W ⟨s0, s1, s2, s3⟩; first | (go_simp; done) | (go_simp; with_reducible rfl)
  simp only [List.setIfInBounds_toArray, List.set_cons_zero, List.set_cons_succ]
  refine z_ready 2 #[true, true, true, true, true, true, true, true, true, false, false, false, false] rfl (by kernel_rfl) (by kernel_rfl) (by rfl) (fun K hK => ?_)
  refine op_call_fn 154 #[.agg #[.int .i64 av, .slice ma ml.length mc]] (by kernel_rfl) ?_
  refine (BL.lentPos_any av _ ml _ (HMd.out) HLN.out.1).mono ?_
  rintro e w1 ⟨gm, cm, rfl, hm1, hb1⟩
  refine ⟨_, rfl, ?_⟩
  go_simp
  have HB1 := hide (HBd.out.trans (hb1.mono HBd.out.size))
  have N1 := hide (And.intro (blk_later NOd.out.1 hb1) (blk_later NOd.out.2 hb1))
  have HM1 := hide hm1
  have HGM : Hid (w.heap.size + 2 ≤ gm) := hide (by have := hm1.base; have := (Array.getElem?_eq_some_iff.1 NOd.out.2).1; omega)
  have HL1 := hide (HLd.out.later hb1)
  clear hb1 hm1
  refine hK.out _ _ (fun _ => four_cells N1.out.1 rfl) (fun hHeld => ?_)
  clear hK K
  refine z_ready 9 #[true, true, true, true, true, true, true, true, true, true, false, false, false] rfl (by kernel_rfl) (by kernel_rfl) (by rfl) (fun K hK => ?_)
  refine op_call_fn 5 #[.slice la ll.length lc] (by kernel_rfl) ?_
  refine (LG.lentMarks_any _ ll _ (HL1.out) HLN.out.2).mono ?_
  rintro e w2 ⟨gl, cl, rfl, hl2, hb2⟩
  refine ⟨_, rfl, ?_⟩
  go_simp
  have HB2 := hide (HB1.out.trans (hb2.mono HB1.out.size))
  have N2 := hide (And.intro (blk_later N1.out.1 hb2) (blk_later N1.out.2 hb2))
  have HM2 := hide (HM1.out.later hb2)
  have HL2 := hide hl2
  have HGL : Hid (w.heap.size + 2 ≤ gl) := hide (by have := hl2.base; have := (Array.getElem?_eq_some_iff.1 N1.out.2).1; omega)
  clear hb2 hl2
  refine hK.out _ _ (fun _ => four_cells N2.out.1 rfl) (fun hHeld => ?_)
  clear hK K
  refine z_ready 10 #[true, true, true, true, true, true, true, true, true, true, true, false, false] rfl (by kernel_rfl) (by kernel_rfl) (by rfl) (fun K hK => ?_)
  go_simp
  refine hK.out _ _ (fun _ => four_cells N2.out.1 rfl) (fun hHeld => ?_)
  clear hK K
  refine z_ready 11 #[true, true, true, true, true, true, true, true, true, true, true, true, false] rfl (by kernel_rfl) (by kernel_rfl) (by rfl) (fun K hK => ?_)
  go_simp
  refine hK.out _ _ (fun _ => four_cells N2.out.1 rfl) (fun hHeld => ?_)
  clear hK K
  have N2r := N2.out.2
  obtain ⟨U0, hU0⟩ : ∃ x, World.setCell w2 ⟨w.heap.size + 1, 0, none⟩ (.int .i64 av) = x := ⟨_, rfl⟩
  have MU0 := setB N2r 0 (.int .i64 av) rfl
  have EU0 : ∀ b, b ≠ w.heap.size + 1 → (World.setCell w2 ⟨w.heap.size + 1, 0, none⟩ (.int .i64 av)).heap[b]? = w2.heap[b]? := fun b hb => Below.heap_setCell w2 ⟨w.heap.size + 1, 0, none⟩ (.int .i64 av) b hb
  have BU0 := (Below.refl (w.heap.size + 1) w2).setCell (p := ⟨w.heap.size + 1, 0, none⟩) (Nat.le_refl _) (.int .i64 av)
  have fU0 := nofz N2r 0
  have cU0 := four_cells N2r rfl
  rw [hU0] at MU0 EU0 BU0
  obtain ⟨U1, hU1⟩ : ∃ x, World.setCell U0 ⟨w.heap.size + 1, 1, none⟩ (.slice (some ⟨gm, 0, none⟩) ml.length cm) = x := ⟨_, rfl⟩
  have MU1 := setB MU0 1 (.slice (some ⟨gm, 0, none⟩) ml.length cm) rfl
  have EU1 : ∀ b, b ≠ w.heap.size + 1 → (World.setCell U0 ⟨w.heap.size + 1, 1, none⟩ (.slice (some ⟨gm, 0, none⟩) ml.length cm)).heap[b]? = U0.heap[b]? := fun b hb => Below.heap_setCell U0 ⟨w.heap.size + 1, 1, none⟩ (.slice (some ⟨gm, 0, none⟩) ml.length cm) b hb
  have BU1 := (Below.refl (w.heap.size + 1) U0).setCell (p := ⟨w.heap.size + 1, 1, none⟩) (Nat.le_refl _) (.slice (some ⟨gm, 0, none⟩) ml.length cm)
  have fU1 := nofz MU0 1
  have cU1 := four_cells MU0 rfl
  rw [hU1] at MU1 EU1 BU1
  obtain ⟨U2, hU2⟩ : ∃ x, World.setCell U1 ⟨w.heap.size + 1, 2, none⟩ (.int .i64 st) = x := ⟨_, rfl⟩
  have MU2 := setB MU1 2 (.int .i64 st) rfl
  have EU2 : ∀ b, b ≠ w.heap.size + 1 → (World.setCell U1 ⟨w.heap.size + 1, 2, none⟩ (.int .i64 st)).heap[b]? = U1.heap[b]? := fun b hb => Below.heap_setCell U1 ⟨w.heap.size + 1, 2, none⟩ (.int .i64 st) b hb
  have BU2 := (Below.refl (w.heap.size + 1) U1).setCell (p := ⟨w.heap.size + 1, 2, none⟩) (Nat.le_refl _) (.int .i64 st)
  have fU2 := nofz MU1 2
  have cU2 := four_cells MU1 rfl
  rw [hU2] at MU2 EU2 BU2
  obtain ⟨U3, hU3⟩ : ∃ x, World.setCell U2 ⟨w.heap.size + 1, 3, none⟩ (.slice (some ⟨gl, 0, none⟩) ll.length cl) = x := ⟨_, rfl⟩
  have MU3 := setB MU2 3 (.slice (some ⟨gl, 0, none⟩) ll.length cl) rfl
  have EU3 : ∀ b, b ≠ w.heap.size + 1 → (World.setCell U2 ⟨w.heap.size + 1, 3, none⟩ (.slice (some ⟨gl, 0, none⟩) ll.length cl)).heap[b]? = U2.heap[b]? := fun b hb => Below.heap_setCell U2 ⟨w.heap.size + 1, 3, none⟩ (.slice (some ⟨gl, 0, none⟩) ll.length cl) b hb
  have BU3 := (Below.refl (w.heap.size + 1) U2).setCell (p := ⟨w.heap.size + 1, 3, none⟩) (Nat.le_refl _) (.slice (some ⟨gl, 0, none⟩) ll.length cl)
  have fU3 := nofz MU2 3
  have cU3 := four_cells MU2 rfl
  rw [hU3] at MU3 EU3 BU3
  have cU4 := four_cells MU3 rfl
  have HEU : Hid (∀ b, b ≠ w.heap.size + 1 → U3.heap[b]? = w2.heap[b]?) := hide (fun b hb => (EU3 b hb).trans ((EU2 b hb).trans ((EU1 b hb).trans ((EU0 b hb)))))
  have HMU := hide MU3
  have HBU := hide ((((BU0).trans BU1).trans BU2).trans BU3)
  clear MU0 EU0 BU0 MU1 EU1 BU1 MU2 EU2 BU2 MU3 EU3 BU3
  obtain ⟨cU00, cU01, cU02, cU03⟩ := cU0
  obtain ⟨cU10, cU11, cU12, cU13⟩ := cU1
  obtain ⟨cU20, cU21, cU22, cU23⟩ := cU2
  obtain ⟨cU30, cU31, cU32, cU33⟩ := cU3
  obtain ⟨cU40, cU41, cU42, cU43⟩ := cU4
  clear N2r
  refine z_ready 12 #[true, true, true, true, true, true, true, true, true, true, true, true, true] rfl (by kernel_rfl) (by kernel_rfl) (by rfl) (fun K hK => ?_)
  go_simp
  refine hK.out _ _ (fun h => absurd rfl h) (fun _ => ?_)
  clear hK K
  refine z_done (by kernel_rfl) ?_ _

  have HBW := hide (HB2.out.trans (HBU.out.mono (Nat.le_succ _)))
  have HMW : Hid (BL.LentM U3 w.heap.size gm cm ml) := hide ⟨by have := HGM.out; omega, owns_dn (owns_blk HM2.out.own (fun b hb => HEU.out b (by cases hb; have : w.heap.size + 2 ≤ gm := HGM.out; show gm ≠ w.heap.size + 1; omega))) (fun b hb => by cases hb; have : w.heap.size + 2 ≤ gm := HGM.out; show w.heap.size ≤ gm; omega)⟩
  have HLW : Hid (LG.LentM U3 w.heap.size gl cl ll) := hide ⟨by have := HGL.out; omega, owns_dn (owns_blk HL2.out.own (fun b hb => HEU.out b (by cases hb; have : w.heap.size + 2 ≤ gl := HGL.out; show gl ≠ w.heap.size + 1; omega))) (fun b hb => by cases hb; have : w.heap.size + 2 ≤ gl := HGL.out; show w.heap.size ≤ gl; omega)⟩
  go_wp2_with fail
  exact bodyPost_ret (v := .agg #[.int .i64 av, .slice (some ⟨gm, 0, none⟩) ml.length cm, .int .i64 st, .slice (some ⟨gl, 0, none⟩) ll.length cl]) (by simp [results, Tryz.results152, go_sem, cU40, cU41, cU42, cU43]) rfl ⟨gm, cm, gl, cl, rfl, HMW.out, HLW.out, HBW.out⟩
set_option maxRecDepth 100000 in
set_option maxHeartbeats 1000000 in
theorem copyPos_any (av : Int) (v : Value) (ml : List BL.Mk) (w : World) (h : BL.RM w v ml) (hl : ml.length ≤ 8796093022000) :
    Calls Tryz.prog 155 #[.agg #[.int .i64 av, v]] w fun e w' => ∃ v', e = .returned (.agg #[.int .i64 av, v']) ∧ BL.OM w' w.heap.size v' ml ∧ Below w.heap.size w w' := by
  obtain ⟨ma, mc, hmv⟩ := BL.rm_lt h
  subst hmv
  have B0 := hide (two_below w (.cells #[.int .i64 av, .slice ma ml.length mc] 60) (.cells #[.int .i64 0, .slice none 0 0] 60))
  have N0 := hide (two_new w (.cells #[.int .i64 av, .slice ma ml.length mc] 60) (.cells #[.int .i64 0, .slice none 0 0] 60))
  have HC := hide (BL.copyM_any _ ml _ (h.later B0.out) hl)
  obtain ⟨x0, x1⟩ := pair_cells N0.out.1 rfl
  clear h hl
  go_enter Tryz.func155, Tryz.ntmps155
  go_wp2_with fail
  refine HC.out.mono ?_
  rintro e w1 ⟨v1, rfl, hO, hb⟩
  have B1 := hide (B0.out.trans (hb.mono B0.out.size))
  have N1 := hide (And.intro (blk_later N0.out.1 hb) (blk_later N0.out.2 hb))
  have HO := hide hO
  have HG : Hid (∀ b, v1.ownBlock = some b → w.heap.size + 2 ≤ b) := hide (fun b hb => by have := (World.ownsRow.lt hO b hb).1; simp at this; omega)
  obtain ⟨na, nc, hv⟩ := BL.rm_lt (BL.OM.rm hO)
  subst hv
  clear hO hb HC x0 x1
  obtain ⟨x0, x1⟩ := pair_cells N1.out.1 rfl
  have N1r := N1.out.2
  obtain ⟨U0, hU0⟩ : ∃ x, World.setCell w1 ⟨w.heap.size + 1, 0, none⟩ (.int .i64 av) = x := ⟨_, rfl⟩
  have MU0 := setB N1r 0 (.int .i64 av) rfl
  have EU0 : ∀ b, b ≠ w.heap.size + 1 → (World.setCell w1 ⟨w.heap.size + 1, 0, none⟩ (.int .i64 av)).heap[b]? = w1.heap[b]? := fun b hb => Below.heap_setCell w1 ⟨w.heap.size + 1, 0, none⟩ (.int .i64 av) b hb
  have BU0 := (Below.refl (w.heap.size + 1) w1).setCell (p := ⟨w.heap.size + 1, 0, none⟩) (Nat.le_refl _) (.int .i64 av)
  have fU0 := nofz N1r 0
  have cU0 := pair_cells N1r rfl
  rw [hU0] at MU0 EU0 BU0
  obtain ⟨U1, hU1⟩ : ∃ x, World.setCell U0 ⟨w.heap.size + 1, 1, none⟩ (.slice na ml.length nc) = x := ⟨_, rfl⟩
  have MU1 := setB MU0 1 (.slice na ml.length nc) rfl
  have EU1 : ∀ b, b ≠ w.heap.size + 1 → (World.setCell U0 ⟨w.heap.size + 1, 1, none⟩ (.slice na ml.length nc)).heap[b]? = U0.heap[b]? := fun b hb => Below.heap_setCell U0 ⟨w.heap.size + 1, 1, none⟩ (.slice na ml.length nc) b hb
  have BU1 := (Below.refl (w.heap.size + 1) U0).setCell (p := ⟨w.heap.size + 1, 1, none⟩) (Nat.le_refl _) (.slice na ml.length nc)
  have fU1 := nofz MU0 1
  have cU1 := pair_cells MU0 rfl
  rw [hU1] at MU1 EU1 BU1
  have cU2 := pair_cells MU1 rfl
  have HEU : Hid (∀ b, b ≠ w.heap.size + 1 → U1.heap[b]? = w1.heap[b]?) := hide (fun b hb => (EU1 b hb).trans ((EU0 b hb)))
  have HMU := hide MU1
  have HBU := hide ((BU0).trans BU1)
  clear MU0 EU0 BU0 MU1 EU1 BU1
  obtain ⟨cU00, cU01⟩ := cU0
  obtain ⟨cU10, cU11⟩ := cU1
  obtain ⟨cU20, cU21⟩ := cU2
  clear N1r
  have HBW := hide (B1.out.trans (HBU.out.mono (Nat.le_succ _)))
  have HOW : Hid (BL.OM U1 w.heap.size (.slice na ml.length nc) ml) := hide (owns_dn (owns_blk HO.out (fun b hb => HEU.out b (by have := HG.out b hb; omega))) (fun b hb => by have := HG.out b hb; omega))
  go_wp2_with fail
  exact bodyPost_ret (v := .agg #[.int .i64 av, .slice na ml.length nc]) (by simp [results, Tryz.results155, go_sem, cU20, cU21]) rfl ⟨_, rfl, HOW.out, HBW.out⟩
set_option maxRecDepth 100000 in
set_option maxHeartbeats 1000000 in
theorem copyRec_any (st : Int) (v : Value) (ll : List LG.El) (w : World) (h : LG.RM w v ll) (hl : ll.length ≤ 3518437208800) :
    Calls Tryz.prog 156 #[.agg #[.int .i64 st, v]] w fun e w' => ∃ v', e = .returned (.agg #[.int .i64 st, v']) ∧ LG.OM w' w.heap.size v' ll ∧ Below w.heap.size w w' := by
  obtain ⟨ma, mc, hmv⟩ := LG.rm_lt h
  subst hmv
  have B0 := hide (two_below w (.cells #[.int .i64 st, .slice ma ll.length mc] 62) (.cells #[.int .i64 0, .slice none 0 0] 62))
  have N0 := hide (two_new w (.cells #[.int .i64 st, .slice ma ll.length mc] 62) (.cells #[.int .i64 0, .slice none 0 0] 62))
  have HC := hide (LG.copyM_any _ ll _ (h.later B0.out) hl)
  obtain ⟨x0, x1⟩ := pair_cells N0.out.1 rfl
  clear h hl
  go_enter Tryz.func156, Tryz.ntmps156
  go_wp2_with fail
  refine HC.out.mono ?_
  rintro e w1 ⟨v1, rfl, hO, hb⟩
  have B1 := hide (B0.out.trans (hb.mono B0.out.size))
  have N1 := hide (And.intro (blk_later N0.out.1 hb) (blk_later N0.out.2 hb))
  have HO := hide hO
  have HG : Hid (∀ b, v1.ownBlock = some b → w.heap.size + 2 ≤ b) := hide (fun b hb => by have := (World.ownsRow.lt hO b hb).1; simp at this; omega)
  obtain ⟨na, nc, hv⟩ := LG.rm_lt (LG.OM.rm hO)
  subst hv
  clear hO hb HC x0 x1
  obtain ⟨x0, x1⟩ := pair_cells N1.out.1 rfl
  have N1r := N1.out.2
  obtain ⟨U0, hU0⟩ : ∃ x, World.setCell w1 ⟨w.heap.size + 1, 0, none⟩ (.int .i64 st) = x := ⟨_, rfl⟩
  have MU0 := setB N1r 0 (.int .i64 st) rfl
  have EU0 : ∀ b, b ≠ w.heap.size + 1 → (World.setCell w1 ⟨w.heap.size + 1, 0, none⟩ (.int .i64 st)).heap[b]? = w1.heap[b]? := fun b hb => Below.heap_setCell w1 ⟨w.heap.size + 1, 0, none⟩ (.int .i64 st) b hb
  have BU0 := (Below.refl (w.heap.size + 1) w1).setCell (p := ⟨w.heap.size + 1, 0, none⟩) (Nat.le_refl _) (.int .i64 st)
  have fU0 := nofz N1r 0
  have cU0 := pair_cells N1r rfl
  rw [hU0] at MU0 EU0 BU0
  obtain ⟨U1, hU1⟩ : ∃ x, World.setCell U0 ⟨w.heap.size + 1, 1, none⟩ (.slice na ll.length nc) = x := ⟨_, rfl⟩
  have MU1 := setB MU0 1 (.slice na ll.length nc) rfl
  have EU1 : ∀ b, b ≠ w.heap.size + 1 → (World.setCell U0 ⟨w.heap.size + 1, 1, none⟩ (.slice na ll.length nc)).heap[b]? = U0.heap[b]? := fun b hb => Below.heap_setCell U0 ⟨w.heap.size + 1, 1, none⟩ (.slice na ll.length nc) b hb
  have BU1 := (Below.refl (w.heap.size + 1) U0).setCell (p := ⟨w.heap.size + 1, 1, none⟩) (Nat.le_refl _) (.slice na ll.length nc)
  have fU1 := nofz MU0 1
  have cU1 := pair_cells MU0 rfl
  rw [hU1] at MU1 EU1 BU1
  have cU2 := pair_cells MU1 rfl
  have HEU : Hid (∀ b, b ≠ w.heap.size + 1 → U1.heap[b]? = w1.heap[b]?) := hide (fun b hb => (EU1 b hb).trans ((EU0 b hb)))
  have HMU := hide MU1
  have HBU := hide ((BU0).trans BU1)
  clear MU0 EU0 BU0 MU1 EU1 BU1
  obtain ⟨cU00, cU01⟩ := cU0
  obtain ⟨cU10, cU11⟩ := cU1
  obtain ⟨cU20, cU21⟩ := cU2
  clear N1r
  have HBW := hide (B1.out.trans (HBU.out.mono (Nat.le_succ _)))
  have HOW : Hid (LG.OM U1 w.heap.size (.slice na ll.length nc) ll) := hide (owns_dn (owns_blk HO.out (fun b hb => HEU.out b (by have := HG.out b hb; omega))) (fun b hb => by have := HG.out b hb; omega))
  go_wp2_with fail
  exact bodyPost_ret (v := .agg #[.int .i64 st, .slice na ll.length nc]) (by simp [results, Tryz.results156, go_sem, cU20, cU21]) rfl ⟨_, rfl, HOW.out, HBW.out⟩
set_option maxRecDepth 100000 in
set_option maxHeartbeats 4000000 in
theorem copyCell_any (av st : Int) (mv lv : Value) (ml : List BL.Mk) (ll : List LG.El) (w : World) (h1 : BL.RM w mv ml) (h2 : LG.RM w lv ll) (hm : ml.length ≤ 1000000) (hl : ll.length ≤ 1000000) :
    Calls Tryz.prog 153 #[.agg #[.int .i64 av, mv, .int .i64 st, lv]] w fun e w' => ∃ mv' lv', e = .returned (.agg #[.int .i64 av, mv', .int .i64 st, lv']) ∧ BL.OM w' w.heap.size mv' ml ∧ LG.OM w' w.heap.size lv' ll ∧ Below w.heap.size w w' := by
  obtain ⟨ma, mc, hmv⟩ := BL.rm_lt h1
  subst hmv
  obtain ⟨la, lc, hlv⟩ := LG.rm_lt h2
  subst hlv
  have B0 := hide (two_below w (.cells #[.int .i64 av, .slice ma ml.length mc, .int .i64 st, .slice la ll.length lc] 64) (.cells #[.int .i64 0, .slice none 0 0, .int .i64 0, .slice none 0 0] 64))
  have N0 := hide (two_new w (.cells #[.int .i64 av, .slice ma ml.length mc, .int .i64 st, .slice la ll.length lc] 64) (.cells #[.int .i64 0, .slice none 0 0, .int .i64 0, .slice none 0 0] 64))
  have HCP := hide (copyPos_any av _ ml _ (h1.later B0.out) (by omega))
  have HCR := hide (fun (W : World) (hb : Below w.heap.size w W) => copyRec_any st _ ll W (h2.later hb) (by omega))
  obtain ⟨x0, x1, x2, x3⟩ := four_cells N0.out.1 rfl
  clear h1 h2 hm hl
  go_enter Tryz.func153, Tryz.ntmps153
  go_wp2_with fail
  refine HCP.out.mono ?_
  rintro e w1 ⟨v1, rfl, hO, hb⟩
  have hbP := (Below.refl w1.heap.size w1).alloc (Nat.le_refl _) (.cells #[.int .i64 av, v1] 60)
  have hb' := hb.trans (hbP.mono hb.size)
  have B1 := hide (B0.out.trans (hb'.mono B0.out.size))
  have N1 := hide (And.intro (blk_later N0.out.1 hb') (blk_later N0.out.2 hb'))
  have NP := hide (alloc_new w1 (.cells #[.int .i64 av, v1] 60))
  have HO1 : Hid (BL.OM (w1.alloc (.cells #[.int .i64 av, v1] 60)) (w.heap.size + 2) v1 ml) := hide (owns_dn (owns_lat hO hbP) (fun b hb => by have := (World.ownsRow.lt hO b hb).1; simp at this; omega))
  have HSZ : Hid (w.heap.size + 2 ≤ w1.heap.size) := hide (by have := hb.size; simp at this; omega)
  obtain ⟨na, nc, hv⟩ := BL.rm_lt (BL.OM.rm hO)
  subst hv
  clear hO hb hb' hbP HCP x0 x1 x2 x3
  generalize hWP : w1.alloc (.cells #[.int .i64 av, .slice na ml.length nc] 60) = WP at B1 N1 NP HO1
  obtain ⟨x0, x1, x2, x3⟩ := four_cells N1.out.1 rfl
  obtain ⟨p0, p1⟩ := pair_cells NP.out rfl
  have HCR1 := hide (HCR.out WP B1.out)
  clear HCR
  go_wp2_with fail
  try rw [hWP]
  go_wp2_with fail
  refine HCR1.out.mono ?_
  rintro e w2 ⟨v2, rfl, hO, hb⟩
  have hbP := (Below.refl w2.heap.size w2).alloc (Nat.le_refl _) (.cells #[.int .i64 st, v2] 62)
  have hb' := hb.trans (hbP.mono hb.size)
  have B2 := hide (B1.out.trans (hb'.mono B1.out.size))
  have N2 := hide (And.intro (blk_later N1.out.1 hb') (blk_later N1.out.2 hb'))
  have NP2 := hide (blk_later NP.out hb')
  have NR2 := hide (alloc_new w2 (.cells #[.int .i64 st, v2] 62))
  have HO2 : Hid (BL.OM _ (w.heap.size + 2) (.slice na ml.length nc) ml) := hide (owns_lat HO1.out hb')
  have HL2 : Hid (LG.OM (w2.alloc (.cells #[.int .i64 st, v2] 62)) (w.heap.size + 2) v2 ll) := hide (owns_dn (owns_lat hO hbP) (fun b hb => by have := (World.ownsRow.lt hO b hb).1; have h3 := (Array.getElem?_eq_some_iff.1 NP.out).1; have := HSZ.out; omega))
  obtain ⟨oa, oc, hv⟩ := LG.rm_lt (LG.OM.rm hO)
  subst hv
  clear hO hb hb' hbP HCR1 x0 x1 x2 x3 p0 p1 hWP
  generalize hWR : w2.alloc (.cells #[.int .i64 st, .slice oa ll.length oc] 62) = WR at B2 N2 NP2 NR2 HO2 HL2
  obtain ⟨x0, x1, x2, x3⟩ := four_cells N2.out.1 rfl
  obtain ⟨p0, p1⟩ := pair_cells NP2.out rfl
  obtain ⟨o0, o1⟩ := pair_cells NR2.out rfl
  have N2r := N2.out.2
  obtain ⟨U0, hU0⟩ : ∃ x, World.setCell WR ⟨w.heap.size + 1, 0, none⟩ (.int .i64 av) = x := ⟨_, rfl⟩
  have MU0 := setB N2r 0 (.int .i64 av) rfl
  have EU0 : ∀ b, b ≠ w.heap.size + 1 → (World.setCell WR ⟨w.heap.size + 1, 0, none⟩ (.int .i64 av)).heap[b]? = WR.heap[b]? := fun b hb => Below.heap_setCell WR ⟨w.heap.size + 1, 0, none⟩ (.int .i64 av) b hb
  have BU0 := (Below.refl (w.heap.size + 1) WR).setCell (p := ⟨w.heap.size + 1, 0, none⟩) (Nat.le_refl _) (.int .i64 av)
  have fU0 := nofz N2r 0
  have cU0 := four_cells N2r rfl
  rw [hU0] at MU0 EU0 BU0
  obtain ⟨U1, hU1⟩ : ∃ x, World.setCell U0 ⟨w.heap.size + 1, 1, none⟩ (.slice na ml.length nc) = x := ⟨_, rfl⟩
  have MU1 := setB MU0 1 (.slice na ml.length nc) rfl
  have EU1 : ∀ b, b ≠ w.heap.size + 1 → (World.setCell U0 ⟨w.heap.size + 1, 1, none⟩ (.slice na ml.length nc)).heap[b]? = U0.heap[b]? := fun b hb => Below.heap_setCell U0 ⟨w.heap.size + 1, 1, none⟩ (.slice na ml.length nc) b hb
  have BU1 := (Below.refl (w.heap.size + 1) U0).setCell (p := ⟨w.heap.size + 1, 1, none⟩) (Nat.le_refl _) (.slice na ml.length nc)
  have fU1 := nofz MU0 1
  have cU1 := four_cells MU0 rfl
  rw [hU1] at MU1 EU1 BU1
  obtain ⟨U2, hU2⟩ : ∃ x, World.setCell U1 ⟨w.heap.size + 1, 2, none⟩ (.int .i64 st) = x := ⟨_, rfl⟩
  have MU2 := setB MU1 2 (.int .i64 st) rfl
  have EU2 : ∀ b, b ≠ w.heap.size + 1 → (World.setCell U1 ⟨w.heap.size + 1, 2, none⟩ (.int .i64 st)).heap[b]? = U1.heap[b]? := fun b hb => Below.heap_setCell U1 ⟨w.heap.size + 1, 2, none⟩ (.int .i64 st) b hb
  have BU2 := (Below.refl (w.heap.size + 1) U1).setCell (p := ⟨w.heap.size + 1, 2, none⟩) (Nat.le_refl _) (.int .i64 st)
  have fU2 := nofz MU1 2
  have cU2 := four_cells MU1 rfl
  rw [hU2] at MU2 EU2 BU2
  obtain ⟨U3, hU3⟩ : ∃ x, World.setCell U2 ⟨w.heap.size + 1, 3, none⟩ (.slice oa ll.length oc) = x := ⟨_, rfl⟩
  have MU3 := setB MU2 3 (.slice oa ll.length oc) rfl
  have EU3 : ∀ b, b ≠ w.heap.size + 1 → (World.setCell U2 ⟨w.heap.size + 1, 3, none⟩ (.slice oa ll.length oc)).heap[b]? = U2.heap[b]? := fun b hb => Below.heap_setCell U2 ⟨w.heap.size + 1, 3, none⟩ (.slice oa ll.length oc) b hb
  have BU3 := (Below.refl (w.heap.size + 1) U2).setCell (p := ⟨w.heap.size + 1, 3, none⟩) (Nat.le_refl _) (.slice oa ll.length oc)
  have fU3 := nofz MU2 3
  have cU3 := four_cells MU2 rfl
  rw [hU3] at MU3 EU3 BU3
  have cU4 := four_cells MU3 rfl
  have HEU : Hid (∀ b, b ≠ w.heap.size + 1 → U3.heap[b]? = WR.heap[b]?) := hide (fun b hb => (EU3 b hb).trans ((EU2 b hb).trans ((EU1 b hb).trans ((EU0 b hb)))))
  have HMU := hide MU3
  have HBU := hide ((((BU0).trans BU1).trans BU2).trans BU3)
  clear MU0 EU0 BU0 MU1 EU1 BU1 MU2 EU2 BU2 MU3 EU3 BU3
  obtain ⟨cU00, cU01, cU02, cU03⟩ := cU0
  obtain ⟨cU10, cU11, cU12, cU13⟩ := cU1
  obtain ⟨cU20, cU21, cU22, cU23⟩ := cU2
  obtain ⟨cU30, cU31, cU32, cU33⟩ := cU3
  obtain ⟨cU40, cU41, cU42, cU43⟩ := cU4
  clear N2r
  have HBW := hide (B2.out.trans (HBU.out.mono (Nat.le_succ _)))
  have HOW : Hid (BL.OM U3 w.heap.size (.slice na ml.length nc) ml) := hide (owns_dn (owns_blk HO2.out (fun b hb => HEU.out b (by have := (World.ownsRow.lt HO2.out b hb).1; omega))) (fun b hb => by have := (World.ownsRow.lt HO2.out b hb).1; omega))
  have HLW : Hid (LG.OM U3 w.heap.size (.slice oa ll.length oc) ll) := hide (owns_dn (owns_blk HL2.out (fun b hb => HEU.out b (by have := (World.ownsRow.lt HL2.out b hb).1; omega))) (fun b hb => by have := (World.ownsRow.lt HL2.out b hb).1; omega))
  go_wp2_with fail
  try rw [hWR]
  go_wp2_with fail
  exact bodyPost_ret (v := .agg #[.int .i64 av, .slice na ml.length nc, .int .i64 st, .slice oa ll.length oc]) (by simp [results, Tryz.results153, go_sem, cU40, cU41, cU42, cU43]) rfl ⟨_, _, rfl, HOW.out, HLW.out, HBW.out⟩
end Go.Proofs.YtdjhbecbbmdimaaGreatDoor
