/-
  My own text: VA1, VA2 in one.
-/
import Derived.Test.YtdjhbecbbmdimaaGreatDoorGKL
import Derived.Test.YtdjhbecbbmdimaaGreatDoorGLL
import Derived.Test.YtdjhbecbbmdimaaGreatDoorGAM
import Derived.Test.YtdjhbecbbmdimaaGreatDoorVS2
import Derived.Test.YtdjhbecbbmdimaaGreatDoorVW3
import Derived.Test.YtdjhbecbbmdimaaGreatDoorVW9
import Derived.Test.YtdjhbecbbmdimaaGreatDoorVWS
import Derived.Test.YtdjhbecbbmdimaaGreatDoorGKA
namespace Go.Proofs.YtdjhbecbbmdimaaGreatDoor
open Go.RowKit

theorem three_blw (w : World) (a b c : Obj) : Below w.heap.size w (((w.alloc a).alloc b).alloc c) := (two_below w a b).alloc (by simp; omega) c
theorem three_nw (w : World) (a b c : Obj) : (((w.alloc a).alloc b).alloc c).heap[w.heap.size]? = some a ∧ (((w.alloc a).alloc b).alloc c).heap[w.heap.size + 1]? = some b ∧ (((w.alloc a).alloc b).alloc c).heap[w.heap.size + 2]? = some c :=
  ⟨alloc_block (two_new w a b).1, alloc_block (two_new w a b).2, by rw [show w.heap.size + 2 = ((w.alloc a).alloc b).heap.size by simp]; exact alloc_new _ _⟩
set_option maxRecDepth 100000 in
set_option maxHeartbeats 4000000 in
theorem lentOp_any (cd ac as_ qt nm id : Int) (lv pv : Value) (L : List LG.El) (P : List KY.El) (w : World) (hL : LG.RM w lv L) (hP : KY.RM w pv P) (hl : L.length ≤ 3518437208800) (hp : P.length ≤ 8796093022000) :
    Calls Tryz.prog 4 #[.agg #[.int .i64 cd, .int .i64 ac, .int .i64 as_, .int .i64 qt, .int .i64 nm, .int .i64 id, lv, pv]] w fun e w' => ∃ gl cl gk ck, e = .returned (.agg #[.int .i64 cd, .int .i64 ac, .int .i64 as_, .int .i64 qt, .int .i64 nm, .int .i64 id, .slice (some ⟨gl, 0, none⟩) L.length cl, .slice (some ⟨gk, 0, none⟩) P.length ck]) ∧ LG.LentM w' w.heap.size gl cl L ∧ KY.LentM w' w.heap.size gk ck P ∧ Below w.heap.size w w' := by
  obtain ⟨la, lc, hlv⟩ := LG.rm_lt hL
  subst hlv
  obtain ⟨pa, pc, hpv⟩ := KY.rm_lt hP
  subst hpv
  have B0 := three_blw w (.cells #[.int .i64 cd, .int .i64 ac, .int .i64 as_, .int .i64 qt, .int .i64 nm, .int .i64 id, .slice la L.length lc, .slice pa P.length pc] 25) (.cells #[.int .i64 0, .int .i64 0, .int .i64 0, .int .i64 0, .int .i64 0, .int .i64 0, .slice none 0 0, .slice none 0 0] 25) (.cells #[.int .i64 cd, .int .i64 ac, .int .i64 as_, .int .i64 qt, .int .i64 nm, .int .i64 id, .slice la L.length lc, .slice pa P.length pc] 25)
  have N0 := three_nw w (.cells #[.int .i64 cd, .int .i64 ac, .int .i64 as_, .int .i64 qt, .int .i64 nm, .int .i64 id, .slice la L.length lc, .slice pa P.length pc] 25) (.cells #[.int .i64 0, .int .i64 0, .int .i64 0, .int .i64 0, .int .i64 0, .int .i64 0, .slice none 0 0, .slice none 0 0] 25) (.cells #[.int .i64 cd, .int .i64 ac, .int .i64 as_, .int .i64 qt, .int .i64 nm, .int .i64 id, .slice la L.length lc, .slice pa P.length pc] 25)
  have HS0 : w.heap.size + 3 ≤ (((w.alloc (.cells #[.int .i64 cd, .int .i64 ac, .int .i64 as_, .int .i64 qt, .int .i64 nm, .int .i64 id, .slice la L.length lc, .slice pa P.length pc] 25)).alloc (.cells #[.int .i64 0, .int .i64 0, .int .i64 0, .int .i64 0, .int .i64 0, .int .i64 0, .slice none 0 0, .slice none 0 0] 25)).alloc (.cells #[.int .i64 cd, .int .i64 ac, .int .i64 as_, .int .i64 qt, .int .i64 nm, .int .i64 id, .slice la L.length lc, .slice pa P.length pc] 25)).heap.size := by simp
  have HLL := hide (LG.lentMarks_any _ L _ (hL.later B0) hl)
  have HPP := hide (fun (W : World) (hb : Below w.heap.size w W) => KY.lentMarks_any _ P W (hP.later hb) hp)
  obtain ⟨x0, x1, x2, x3, x4, x5, x6, x7⟩ := eight_cells N0.1 rfl
  have HB0 := hide B0
  have HN0 := hide N0
  have HSZ := hide HS0
  clear hL hP hl hp B0 N0 HS0
  go_enter Tryz.func4, Tryz.ntmps4
  go_wp2_with fail
  refine HLL.out.mono ?_
  rintro e w1 ⟨gl, cl, rfl, hl1, hb1⟩
  have hB1 := HB0.out.trans (hb1.mono HB0.out.size)
  have hA1 := blk_later HN0.out.1 hb1
  have hR1 := blk_later HN0.out.2.1 hb1
  have hX1 := blk_later HN0.out.2.2 hb1
  have hgl : w.heap.size + 3 ≤ gl := Nat.le_trans HSZ.out hl1.base
  have hfz := nofz hX1 6
  obtain ⟨_, _, _, _, _, _, hx6, _⟩ := eight_cells hX1 rfl
  obtain ⟨W1, hW1⟩ : ∃ xw, World.setCell w1 ⟨w.heap.size + 2, 6, none⟩ (.slice (some ⟨gl, 0, none⟩) L.length cl) = xw := ⟨_, rfl⟩
  have hX2 := setB hX1 6 (.slice (some ⟨gl, 0, none⟩) L.length cl) rfl
  have e1 : ∀ b, b ≠ w.heap.size + 2 → (World.setCell w1 ⟨w.heap.size + 2, 6, none⟩ (.slice (some ⟨gl, 0, none⟩) L.length cl)).heap[b]? = w1.heap[b]? := fun b hb => Below.heap_setCell w1 ⟨w.heap.size + 2, 6, none⟩ _ b hb
  have hB2 := hB1.setCell (p := ⟨w.heap.size + 2, 6, none⟩) (by show w.heap.size ≤ w.heap.size + 2; omega) (.slice (some ⟨gl, 0, none⟩) L.length cl)
  rw [hW1] at hX2 e1 hB2
  have HA2 := hide ((e1 w.heap.size (by omega)).trans hA1)
  have HR2 := hide ((e1 (w.heap.size + 1) (by omega)).trans hR1)
  have HX2 : Hid (W1.heap[w.heap.size + 2]? = some (.cells #[.int .i64 cd, .int .i64 ac, .int .i64 as_, .int .i64 qt, .int .i64 nm, .int .i64 id, .slice (some ⟨gl, 0, none⟩) L.length cl, .slice pa P.length pc] 25 (0, 0))) := hide hX2
  have HB2 := hide hB2
  have HL2 : Hid (LG.LentM W1 w.heap.size gl cl L) := hide ⟨by omega, owns_dn (owns_blk hl1.own (fun b hb => e1 b (by cases hb; show gl ≠ w.heap.size + 2; omega))) (fun b hb => by cases hb; show w.heap.size ≤ gl; omega)⟩
  have HGL := hide hgl
  have HPP1 := hide (HPP.out W1 hB2)
  obtain ⟨y0, y1, y2, y3, y4, y5, y6, y7⟩ := eight_cells HA2.out rfl
  clear hB1 hA1 hR1 hX1 hgl hX2 e1 hB2 hl1 hb1 HPP HLL x0 x1 x2 x3 x4 x5 x6 x7
  go_wp2_with fail
  refine HPP1.out.mono ?_
  rintro e w2 ⟨gk, ck, rfl, hk2, hb2⟩
  clear hW1 hfz hx6
  have hB3 := HB2.out.trans (hb2.mono HB2.out.size)
  have hR3 := blk_later HR2.out hb2
  have hX3 := blk_later HX2.out hb2
  have hl3 := HL2.out.later hb2
  have hgk : w.heap.size + 3 ≤ gk := Nat.le_trans (Array.getElem?_eq_some_iff.1 HX2.out).1 hk2.base
  have hfz := nofz hX3 7
  obtain ⟨_, _, _, _, _, _, _, hx7⟩ := eight_cells hX3 rfl
  obtain ⟨W2, hW2⟩ : ∃ xw, World.setCell w2 ⟨w.heap.size + 2, 7, none⟩ (.slice (some ⟨gk, 0, none⟩) P.length ck) = xw := ⟨_, rfl⟩
  have hX4 := setB hX3 7 (.slice (some ⟨gk, 0, none⟩) P.length ck) rfl
  have e1 : ∀ b, b ≠ w.heap.size + 2 → (World.setCell w2 ⟨w.heap.size + 2, 7, none⟩ (.slice (some ⟨gk, 0, none⟩) P.length ck)).heap[b]? = w2.heap[b]? := fun b hb => Below.heap_setCell w2 ⟨w.heap.size + 2, 7, none⟩ _ b hb
  have hB4 := hB3.setCell (p := ⟨w.heap.size + 2, 7, none⟩) (by show w.heap.size ≤ w.heap.size + 2; omega) (.slice (some ⟨gk, 0, none⟩) P.length ck)
  rw [hW2] at hX4 e1 hB4
  have NRq := (e1 (w.heap.size + 1) (by omega)).trans hR3
  have HX4 : Hid (W2.heap[w.heap.size + 2]? = some (.cells #[.int .i64 cd, .int .i64 ac, .int .i64 as_, .int .i64 qt, .int .i64 nm, .int .i64 id, .slice (some ⟨gl, 0, none⟩) L.length cl, .slice (some ⟨gk, 0, none⟩) P.length ck] 25 (0, 0))) := hide hX4
  obtain ⟨z0, z1, z2, z3, z4, z5, z6, z7⟩ := eight_cells HX4.out rfl
  obtain ⟨U0, hU0⟩ : ∃ x, World.setCell W2 ⟨w.heap.size + 1, 0, none⟩ (.int .i64 cd) = x := ⟨_, rfl⟩
  have MU0 := setB NRq 0 (.int .i64 cd) rfl
  have EU0 : ∀ b, b ≠ w.heap.size + 1 → (World.setCell W2 ⟨w.heap.size + 1, 0, none⟩ (.int .i64 cd)).heap[b]? = W2.heap[b]? := fun b hb => Below.heap_setCell W2 ⟨w.heap.size + 1, 0, none⟩ (.int .i64 cd) b hb
  have BU0 := (Below.refl (w.heap.size + 1) W2).setCell (p := ⟨w.heap.size + 1, 0, none⟩) (Nat.le_refl _) (.int .i64 cd)
  have fU0 := nofz NRq 0
  have cU0 := eight_cells NRq rfl
  rw [hU0] at MU0 EU0 BU0
  obtain ⟨U1, hU1⟩ : ∃ x, World.setCell U0 ⟨w.heap.size + 1, 1, none⟩ (.int .i64 ac) = x := ⟨_, rfl⟩
  have MU1 := setB MU0 1 (.int .i64 ac) rfl
  have EU1 : ∀ b, b ≠ w.heap.size + 1 → (World.setCell U0 ⟨w.heap.size + 1, 1, none⟩ (.int .i64 ac)).heap[b]? = U0.heap[b]? := fun b hb => Below.heap_setCell U0 ⟨w.heap.size + 1, 1, none⟩ (.int .i64 ac) b hb
  have BU1 := (Below.refl (w.heap.size + 1) U0).setCell (p := ⟨w.heap.size + 1, 1, none⟩) (Nat.le_refl _) (.int .i64 ac)
  have fU1 := nofz MU0 1
  have cU1 := eight_cells MU0 rfl
  rw [hU1] at MU1 EU1 BU1
  obtain ⟨U2, hU2⟩ : ∃ x, World.setCell U1 ⟨w.heap.size + 1, 2, none⟩ (.int .i64 as_) = x := ⟨_, rfl⟩
  have MU2 := setB MU1 2 (.int .i64 as_) rfl
  have EU2 : ∀ b, b ≠ w.heap.size + 1 → (World.setCell U1 ⟨w.heap.size + 1, 2, none⟩ (.int .i64 as_)).heap[b]? = U1.heap[b]? := fun b hb => Below.heap_setCell U1 ⟨w.heap.size + 1, 2, none⟩ (.int .i64 as_) b hb
  have BU2 := (Below.refl (w.heap.size + 1) U1).setCell (p := ⟨w.heap.size + 1, 2, none⟩) (Nat.le_refl _) (.int .i64 as_)
  have fU2 := nofz MU1 2
  have cU2 := eight_cells MU1 rfl
  rw [hU2] at MU2 EU2 BU2
  obtain ⟨U3, hU3⟩ : ∃ x, World.setCell U2 ⟨w.heap.size + 1, 3, none⟩ (.int .i64 qt) = x := ⟨_, rfl⟩
  have MU3 := setB MU2 3 (.int .i64 qt) rfl
  have EU3 : ∀ b, b ≠ w.heap.size + 1 → (World.setCell U2 ⟨w.heap.size + 1, 3, none⟩ (.int .i64 qt)).heap[b]? = U2.heap[b]? := fun b hb => Below.heap_setCell U2 ⟨w.heap.size + 1, 3, none⟩ (.int .i64 qt) b hb
  have BU3 := (Below.refl (w.heap.size + 1) U2).setCell (p := ⟨w.heap.size + 1, 3, none⟩) (Nat.le_refl _) (.int .i64 qt)
  have fU3 := nofz MU2 3
  have cU3 := eight_cells MU2 rfl
  rw [hU3] at MU3 EU3 BU3
  obtain ⟨U4, hU4⟩ : ∃ x, World.setCell U3 ⟨w.heap.size + 1, 4, none⟩ (.int .i64 nm) = x := ⟨_, rfl⟩
  have MU4 := setB MU3 4 (.int .i64 nm) rfl
  have EU4 : ∀ b, b ≠ w.heap.size + 1 → (World.setCell U3 ⟨w.heap.size + 1, 4, none⟩ (.int .i64 nm)).heap[b]? = U3.heap[b]? := fun b hb => Below.heap_setCell U3 ⟨w.heap.size + 1, 4, none⟩ (.int .i64 nm) b hb
  have BU4 := (Below.refl (w.heap.size + 1) U3).setCell (p := ⟨w.heap.size + 1, 4, none⟩) (Nat.le_refl _) (.int .i64 nm)
  have fU4 := nofz MU3 4
  have cU4 := eight_cells MU3 rfl
  rw [hU4] at MU4 EU4 BU4
  obtain ⟨U5, hU5⟩ : ∃ x, World.setCell U4 ⟨w.heap.size + 1, 5, none⟩ (.int .i64 id) = x := ⟨_, rfl⟩
  have MU5 := setB MU4 5 (.int .i64 id) rfl
  have EU5 : ∀ b, b ≠ w.heap.size + 1 → (World.setCell U4 ⟨w.heap.size + 1, 5, none⟩ (.int .i64 id)).heap[b]? = U4.heap[b]? := fun b hb => Below.heap_setCell U4 ⟨w.heap.size + 1, 5, none⟩ (.int .i64 id) b hb
  have BU5 := (Below.refl (w.heap.size + 1) U4).setCell (p := ⟨w.heap.size + 1, 5, none⟩) (Nat.le_refl _) (.int .i64 id)
  have fU5 := nofz MU4 5
  have cU5 := eight_cells MU4 rfl
  rw [hU5] at MU5 EU5 BU5
  obtain ⟨U6, hU6⟩ : ∃ x, World.setCell U5 ⟨w.heap.size + 1, 6, none⟩ (.slice (some ⟨gl, 0, none⟩) L.length cl) = x := ⟨_, rfl⟩
  have MU6 := setB MU5 6 (.slice (some ⟨gl, 0, none⟩) L.length cl) rfl
  have EU6 : ∀ b, b ≠ w.heap.size + 1 → (World.setCell U5 ⟨w.heap.size + 1, 6, none⟩ (.slice (some ⟨gl, 0, none⟩) L.length cl)).heap[b]? = U5.heap[b]? := fun b hb => Below.heap_setCell U5 ⟨w.heap.size + 1, 6, none⟩ (.slice (some ⟨gl, 0, none⟩) L.length cl) b hb
  have BU6 := (Below.refl (w.heap.size + 1) U5).setCell (p := ⟨w.heap.size + 1, 6, none⟩) (Nat.le_refl _) (.slice (some ⟨gl, 0, none⟩) L.length cl)
  have fU6 := nofz MU5 6
  have cU6 := eight_cells MU5 rfl
  rw [hU6] at MU6 EU6 BU6
  obtain ⟨U7, hU7⟩ : ∃ x, World.setCell U6 ⟨w.heap.size + 1, 7, none⟩ (.slice (some ⟨gk, 0, none⟩) P.length ck) = x := ⟨_, rfl⟩
  have MU7 := setB MU6 7 (.slice (some ⟨gk, 0, none⟩) P.length ck) rfl
  have EU7 : ∀ b, b ≠ w.heap.size + 1 → (World.setCell U6 ⟨w.heap.size + 1, 7, none⟩ (.slice (some ⟨gk, 0, none⟩) P.length ck)).heap[b]? = U6.heap[b]? := fun b hb => Below.heap_setCell U6 ⟨w.heap.size + 1, 7, none⟩ (.slice (some ⟨gk, 0, none⟩) P.length ck) b hb
  have BU7 := (Below.refl (w.heap.size + 1) U6).setCell (p := ⟨w.heap.size + 1, 7, none⟩) (Nat.le_refl _) (.slice (some ⟨gk, 0, none⟩) P.length ck)
  have fU7 := nofz MU6 7
  have cU7 := eight_cells MU6 rfl
  rw [hU7] at MU7 EU7 BU7
  have cU8 := eight_cells MU7 rfl
  have HEU : Hid (∀ b, b ≠ w.heap.size + 1 → U7.heap[b]? = W2.heap[b]?) := hide (fun b hb => (EU7 b hb).trans ((EU6 b hb).trans ((EU5 b hb).trans ((EU4 b hb).trans ((EU3 b hb).trans ((EU2 b hb).trans ((EU1 b hb).trans ((EU0 b hb)))))))))
  have HMU := hide MU7
  have HBU := hide ((((((((BU0).trans BU1).trans BU2).trans BU3).trans BU4).trans BU5).trans BU6).trans BU7)
  clear MU0 EU0 BU0 MU1 EU1 BU1 MU2 EU2 BU2 MU3 EU3 BU3 MU4 EU4 BU4 MU5 EU5 BU5 MU6 EU6 BU6 MU7 EU7 BU7
  obtain ⟨cU00, cU01, cU02, cU03, cU04, cU05, cU06, cU07⟩ := cU0
  obtain ⟨cU10, cU11, cU12, cU13, cU14, cU15, cU16, cU17⟩ := cU1
  obtain ⟨cU20, cU21, cU22, cU23, cU24, cU25, cU26, cU27⟩ := cU2
  obtain ⟨cU30, cU31, cU32, cU33, cU34, cU35, cU36, cU37⟩ := cU3
  obtain ⟨cU40, cU41, cU42, cU43, cU44, cU45, cU46, cU47⟩ := cU4
  obtain ⟨cU50, cU51, cU52, cU53, cU54, cU55, cU56, cU57⟩ := cU5
  obtain ⟨cU60, cU61, cU62, cU63, cU64, cU65, cU66, cU67⟩ := cU6
  obtain ⟨cU70, cU71, cU72, cU73, cU74, cU75, cU76, cU77⟩ := cU7
  obtain ⟨cU80, cU81, cU82, cU83, cU84, cU85, cU86, cU87⟩ := cU8
  clear NRq
  have HBW := hide (hB4.trans (HBU.out.mono (Nat.le_succ _)))
  have HLW : Hid (LG.LentM U7 w.heap.size gl cl L) := hide ⟨hl3.base, owns_blk hl3.own (fun b hb => by
    cases hb
    have h1 : w.heap.size + 3 ≤ gl := HGL.out
    exact (HEU.out gl (by omega)).trans (e1 gl (by omega)))⟩
  have HKW : Hid (KY.LentM U7 w.heap.size gk ck P) := hide ⟨by omega, owns_dn (owns_blk hk2.own (fun b hb => by
    cases hb
    exact (HEU.out gk (by omega)).trans (e1 gk (by omega)))) (fun b hb => by cases hb; show w.heap.size ≤ gk; omega)⟩
  clear hB3 hR3 hX3 hl3 hgk hX4 e1 hB4 hk2 hb2 HPP1 y0 y1 y2 y3 y4 y5 y6 y7
  go_wp2_with fail
  exact bodyPost_ret (v := .agg #[.int .i64 cd, .int .i64 ac, .int .i64 as_, .int .i64 qt, .int .i64 nm, .int .i64 id, .slice (some ⟨gl, 0, none⟩) L.length cl, .slice (some ⟨gk, 0, none⟩) P.length ck]) (by simp [results, Tryz.results4, go_sem, cU80, cU81, cU82, cU83, cU84, cU85, cU86, cU87]) rfl ⟨gl, cl, gk, ck, rfl, HLW.out, HKW.out, HBW.out⟩
set_option maxRecDepth 100000 in
set_option maxHeartbeats 4000000 in
theorem keptOp_any (cd ac as_ qt nm id : Int) (lv pv : Value) (L : List LG.El) (P : List KY.El) (B gl cl gk ck : Nat) (w : World) (hL : LG.RM w lv L) (hP : KY.RM w pv P) (hLk : LG.LentM w B gl cl L) (hPk : KY.LentM w B gk ck P) (hl : L.length ≤ 3518437208800) (hp : P.length ≤ 8796093022000) :
    Calls Tryz.prog 13 #[.agg #[.int .i64 cd, .int .i64 ac, .int .i64 as_, .int .i64 qt, .int .i64 nm, .int .i64 id, .slice (some ⟨gl, 0, none⟩) L.length cl, .slice (some ⟨gk, 0, none⟩) P.length ck], .agg #[.int .i64 cd, .int .i64 ac, .int .i64 as_, .int .i64 qt, .int .i64 nm, .int .i64 id, lv, pv]] w fun e w' => e = .returned (.bool true) ∧ Below w.heap.size w w' := by
  obtain ⟨la, lc, hlv⟩ := LG.rm_lt hL
  subst hlv
  obtain ⟨pa, pc, hpv⟩ := KY.rm_lt hP
  subst hpv
  have B0 := hide (two_below w (.cells #[.int .i64 cd, .int .i64 ac, .int .i64 as_, .int .i64 qt, .int .i64 nm, .int .i64 id, .slice (some ⟨gl, 0, none⟩) L.length cl, .slice (some ⟨gk, 0, none⟩) P.length ck] 25) (.cells #[.int .i64 cd, .int .i64 ac, .int .i64 as_, .int .i64 qt, .int .i64 nm, .int .i64 id, .slice la L.length lc, .slice pa P.length pc] 25))
  have N0 := hide (two_new w (.cells #[.int .i64 cd, .int .i64 ac, .int .i64 as_, .int .i64 qt, .int .i64 nm, .int .i64 id, .slice (some ⟨gl, 0, none⟩) L.length cl, .slice (some ⟨gk, 0, none⟩) P.length ck] 25) (.cells #[.int .i64 cd, .int .i64 ac, .int .i64 as_, .int .i64 qt, .int .i64 nm, .int .i64 id, .slice la L.length lc, .slice pa P.length pc] 25))
  have HLL := hide (LG.keptMarks_any _ L B gl cl _ (hL.later B0.out) (hLk.later B0.out) hl)
  have HPP := hide (fun (W : World) (hb : Below w.heap.size w W) => KY.keptMarks_any _ P B gk ck W (hP.later hb) (hPk.later hb) hp)
  obtain ⟨x0, x1, x2, x3, x4, x5, x6, x7⟩ := eight_cells N0.out.1 rfl
  obtain ⟨y0, y1, y2, y3, y4, y5, y6, y7⟩ := eight_cells N0.out.2 rfl
  clear hL hP hLk hPk hl hp
  go_enter Tryz.func13, Tryz.ntmps13
  go_wp2_with fail
  refine HLL.out.mono ?_
  rintro e w1 ⟨rfl, hb1⟩
  have HB1 := hide (B0.out.trans (hb1.mono B0.out.size))
  have HPP1 := hide (HPP.out w1 HB1.out)
  have N1 := hide (blk_later N0.out.1 hb1)
  have N2 := hide (blk_later N0.out.2 hb1)
  clear x0 x1 x2 x3 x4 x5 x6 x7 y0 y1 y2 y3 y4 y5 y6 y7 hb1 HLL HPP
  obtain ⟨x0, x1, x2, x3, x4, x5, x6, x7⟩ := eight_cells N1.out rfl
  obtain ⟨y0, y1, y2, y3, y4, y5, y6, y7⟩ := eight_cells N2.out rfl
  go_wp2_with fail
  refine HPP1.out.mono ?_
  rintro e w2 ⟨rfl, hb2⟩
  have HB2 := hide (HB1.out.trans (hb2.mono HB1.out.size))
  clear hb2 HPP1
  go_wp2_with fail
  go_ret
  exact ⟨rfl, HB2.out⟩
end Go.Proofs.YtdjhbecbbmdimaaGreatDoor
namespace Go.Proofs.YtdjhbecbbmdimaaGreatDoor
open Go.RowKit

theorem LG_lo {w : World} {B g c : Nat} {l : List LG.El} (h : LG.LentM w B g c l) : LG.LentM w 0 g c l := ⟨Nat.zero_le _, owns_dn h.own (fun _ _ => Nat.zero_le _)⟩
theorem KY_lo {w : World} {B g c : Nat} {l : List KY.El} (h : KY.LentM w B g c l) : KY.LentM w 0 g c l := ⟨Nat.zero_le _, owns_dn h.own (fun _ _ => Nat.zero_le _)⟩
theorem lk_long {id : Int} {M : List LG.El} (hm : M.length ≤ 3518437208800) : (lkK id M).length ≤ 8796093022000 := by
  have h := ks_len ((-1, id) :: lgK M)
  unfold lkK
  rw [List.length_cons, lgK_len] at h
  omega
theorem ky_long {cd ac as_ id : Int} {L : List LG.El} {P : List Ky} (hl : L.length ≤ 3518437208800) (hp : P.length ≤ 8796093022000) : (kyO cd ac as_ id L P).length ≤ 8796093022000 := by
  unfold kyO
  split
  · simp
  · split
    · exact lk_long hl
    · split
      · simp
      · split
        · have := ks_len P; omega
        · simp
def fourA (a b c d : Option Addr) (k : Nat) : Option Addr := if k = 0 then a else if k = 1 then b else if k = 2 then c else d
def fourN (a b c d : Nat) (k : Nat) : Nat := if k = 0 then a else if k = 1 then b else if k = 2 then c else d
theorem ky_four {W : World} {s1 s2 s3 s4 c1 c2 c3 c4 : Nat} {a1 a2 a3 a4 : Option Addr} {X Y : List KY.El} (h1 : KY.OM W s1 (.slice a1 X.length c1) X) (h2 : KY.OM W s2 (.slice a2 X.length c2) X) (h3 : KY.OM W s3 (.slice a3 Y.length c3) Y) (h4 : KY.OM W s4 (.slice a4 Y.length c4) Y)
    (l1 : ∀ b, (Value.slice a1 X.length c1).ownBlock = some b → b < s2) (l2 : ∀ b, (Value.slice a2 X.length c2).ownBlock = some b → b < s3) (l3 : ∀ b, (Value.slice a3 Y.length c3).ownBlock = some b → b < s4) (e1 : s1 ≤ s2) (e2 : s2 ≤ s3) (e3 : s3 ≤ s4) :
    KY.AllM (W.alloc (.cells #[.slice a1 X.length c1, .slice a2 X.length c2, .slice a3 Y.length c3, .slice a4 Y.length c4] 23)) s1 W.heap.size 4 (fourA a1 a2 a3 a4) (fun k => if k < 2 then X.length else Y.length) (fourN c1 c2 c3 c4) (fun k => if k < 2 then X else Y) := by
  have N := four_cells (alloc_new W (.cells #[.slice a1 X.length c1, .slice a2 X.length c2, .slice a3 Y.length c3, .slice a4 Y.length c4] 23)) rfl
  refine ⟨by simp, fun k hk => ?_, fun k hk => ?_, fun k hk => ?_, fun j k b hj hk q1 q2 => ?_⟩
  · match k, hk with
    | 0, _ => exact N.1
    | 1, _ => exact N.2.1
    | 2, _ => exact N.2.2.1
    | 3, _ => exact N.2.2.2
  · match k, hk with
    | 0, _ => exact World.ownsRow.alloc h1 _
    | 1, _ => exact World.ownsRow.alloc (World.ownsRow.mono h2 e1) _
    | 2, _ => exact World.ownsRow.alloc (World.ownsRow.mono h3 (Nat.le_trans e1 e2)) _
    | 3, _ => exact World.ownsRow.alloc (World.ownsRow.mono h4 (Nat.le_trans e1 (Nat.le_trans e2 e3))) _
  · match k, hk with
    | 0, _ => exact fun e => by have := (World.ownsRow.lt h1 _ e).2; omega
    | 1, _ => exact fun e => by have := (World.ownsRow.lt h2 _ e).2; omega
    | 2, _ => exact fun e => by have := (World.ownsRow.lt h3 _ e).2; omega
    | 3, _ => exact fun e => by have := (World.ownsRow.lt h4 _ e).2; omega
  · have g1 : ∀ b, (Value.slice a1 X.length c1).ownBlock = some b → b < s2 := l1
    have g2 : ∀ b, (Value.slice a2 X.length c2).ownBlock = some b → s2 ≤ b ∧ b < s3 := fun b k => ⟨(World.ownsRow.lt h2 b k).1, l2 b k⟩
    have g3 : ∀ b, (Value.slice a3 Y.length c3).ownBlock = some b → s3 ≤ b ∧ b < s4 := fun b k => ⟨(World.ownsRow.lt h3 b k).1, l3 b k⟩
    have g4 : ∀ b, (Value.slice a4 Y.length c4).ownBlock = some b → s4 ≤ b := fun b k => (World.ownsRow.lt h4 b k).1
    match j, hj, k, hk, q1, q2 with
    | 0, _, 0, _, _, _ => rfl
    | 1, _, 1, _, _, _ => rfl
    | 2, _, 2, _, _, _ => rfl
    | 3, _, 3, _, _, _ => rfl
    | 0, _, 1, _, q1, q2 => have := g1 b q1; have := g2 b q2; omega
    | 0, _, 2, _, q1, q2 => have := g1 b q1; have := g3 b q2; omega
    | 0, _, 3, _, q1, q2 => have := g1 b q1; have := g4 b q2; omega
    | 1, _, 0, _, q1, q2 => have := g2 b q1; have := g1 b q2; omega
    | 1, _, 2, _, q1, q2 => have := g2 b q1; have := g3 b q2; omega
    | 1, _, 3, _, q1, q2 => have := g2 b q1; have := g4 b q2; omega
    | 2, _, 0, _, q1, q2 => have := g3 b q1; have := g1 b q2; omega
    | 2, _, 1, _, q1, q2 => have := g3 b q1; have := g2 b q2; omega
    | 2, _, 3, _, q1, q2 => have := g3 b q1; have := g4 b q2; omega
    | 3, _, 0, _, q1, q2 => have := g4 b q1; have := g1 b q2; omega
    | 3, _, 1, _, q1, q2 => have := g4 b q1; have := g2 b q2; omega
    | 3, _, 2, _, q1, q2 => have := g4 b q1; have := g3 b q2; omega
set_option maxRecDepth 100000 in
set_option maxHeartbeats 8000000 in
theorem dvpKeys_law (cd ac as_ qt nm oi id : Int) (lv pv mv : Value) (L : List LG.El) (P : List Ky) (M : List LG.El) (w : World) (hE : ErrType w) (hL : LG.RM w lv L) (hP : KY.RM w pv P) (hM : LG.RM w mv M) (hl : L.length ≤ 3518437208800) (hp : P.length ≤ 8796093022000) (hm : M.length ≤ 3518437208800) :
    Calls Tryz.prog 3 #[.agg #[.int .i64 cd, .int .i64 ac, .int .i64 as_, .int .i64 qt, .int .i64 nm, .int .i64 oi, lv, pv], .int .i64 id, mv] w fun e w' => e = .returned (.bool true) ∧ Below w.heap.size w w' := by
  obtain ⟨la, lc, hlv⟩ := LG.rm_lt hL
  subst hlv
  obtain ⟨pa, pc, hpv⟩ := KY.rm_lt hP
  subst hpv
  obtain ⟨ma, mc, hmv⟩ := LG.rm_lt hM
  subst hmv
  have hbA := (Below.refl w.heap.size w).alloc (Nat.le_refl _) (.cells #[.int .i64 cd, .int .i64 ac, .int .i64 as_, .int .i64 qt, .int .i64 nm, .int .i64 oi, .slice la L.length lc, .slice pa P.length pc] 25)
  have hnA := alloc_new w (.cells #[.int .i64 cd, .int .i64 ac, .int .i64 as_, .int .i64 qt, .int .i64 nm, .int .i64 oi, .slice la L.length lc, .slice pa P.length pc] 25)
  have HB := hide hbA
  have NO := hide hnA
  have HE := hide (hE.below hbA)
  clear hbA hnA hE
  obtain ⟨x0, x1, x2, x3, x4, x5, x6, x7⟩ := eight_cells NO.out rfl
  obtain ⟨X, hX⟩ : ∃ X, kyO cd ac as_ oi L P = X := ⟨_, rfl⟩
  obtain ⟨Y, hY⟩ : ∃ Y, lkK id M = Y := ⟨_, rfl⟩
  have HXL : Hid (X.length ≤ 8796093022000) := hide (by rw [← hX]; exact ky_long hl hp)
  have HYL : Hid (Y.length ≤ 8796093022000) := hide (by rw [← hY]; exact lk_long hm)
  have HXX := hide hX
  have HYY := hide hY
  have HLR := hide hL
  have HPR := hide hP
  have HMR := hide hM
  have HLN := hide (And.intro hl (And.intro hp hm))
  clear hX hY hL hP hM hl hp hm
  have HC := hide (lentOp_any cd ac as_ qt nm oi _ _ L P _ (HLR.out.later HB.out) (HPR.out.later HB.out) HLN.out.1 HLN.out.2.1)
  go_enter Tryz.func3, Tryz.ntmps3
  go_wp2_with fail
  refine HC.out.mono ?_
  rintro e w1 ⟨gl, cl, gk, ck, rfl, hLx, hPx, hb⟩
  clear HC x0 x1 x2 x3 x4 x5 x6 x7
  have HB' := hide (HB.out.trans (hb.mono HB.out.size))
  clear HB
  have HB := HB'
  clear HB'
  have NO' := hide (blk_later NO.out hb)
  clear NO
  have NO := NO'
  clear NO'
  have HE' := hide (HE.out.below hb)
  clear HE
  have HE := HE'
  clear HE'
  have HLx := hide (LG_lo hLx)
  have HPx := hide (KY_lo hPx)
  clear hLx hPx hb
  have hbA := (Below.refl w1.heap.size w1).alloc (Nat.le_refl _) (.cells #[.int .i64 cd, .int .i64 ac, .int .i64 as_, .int .i64 qt, .int .i64 nm, .int .i64 oi, .slice (some ⟨gl, 0, none⟩) L.length cl, .slice (some ⟨gk, 0, none⟩) P.length ck] 25)
  have hnA := alloc_new w1 (.cells #[.int .i64 cd, .int .i64 ac, .int .i64 as_, .int .i64 qt, .int .i64 nm, .int .i64 oi, .slice (some ⟨gl, 0, none⟩) L.length cl, .slice (some ⟨gk, 0, none⟩) P.length ck] 25)
  have HB' := hide (HB.out.trans (hbA.mono HB.out.size))
  clear HB
  have HB := HB'
  clear HB'
  have NO' := hide (blk_later NO.out hbA)
  clear NO
  have NO := NO'
  clear NO'
  have HE' := hide (HE.out.below hbA)
  clear HE
  have HE := HE'
  clear HE'
  have HLx' := hide (HLx.out.later hbA)
  clear HLx
  have HLx := HLx'
  clear HLx'
  have HPx' := hide (HPx.out.later hbA)
  clear HPx
  have HPx := HPx'
  clear HPx'
  have NX := hide hnA
  clear hbA hnA
  have HC := hide (LG.lentMarks_any _ M (w1.alloc (.cells #[.int .i64 cd, .int .i64 ac, .int .i64 as_, .int .i64 qt, .int .i64 nm, .int .i64 oi, .slice (some ⟨gl, 0, none⟩) L.length cl, .slice (some ⟨gk, 0, none⟩) P.length ck] 25)) (HMR.out.later HB.out) HLN.out.2.2)
  go_wp2_with fail
  refine HC.out.mono ?_
  rintro e w2 ⟨gm, cm, rfl, hLl, hb⟩
  clear HC
  have HB' := hide (HB.out.trans (hb.mono HB.out.size))
  clear HB
  have HB := HB'
  clear HB'
  have NO' := hide (blk_later NO.out hb)
  clear NO
  have NO := NO'
  clear NO'
  have HE' := hide (HE.out.below hb)
  clear HE
  have HE := HE'
  clear HE'
  have HLx' := hide (HLx.out.later hb)
  clear HLx
  have HLx := HLx'
  clear HLx'
  have HPx' := hide (HPx.out.later hb)
  clear HPx
  have HPx := HPx'
  clear HPx'
  have NX' := hide (blk_later NX.out hb)
  clear NX
  have NX := NX'
  clear NX'
  have HLl := hide (LG_lo hLl)
  clear hLl hb
  have HS2 : Hid (w.heap.size < w2.heap.size ∧ w1.heap.size < w2.heap.size) := hide ⟨(Array.getElem?_eq_some_iff.1 NO.out).1, (Array.getElem?_eq_some_iff.1 NX.out).1⟩
  have HG2 : Hid (gl < w2.heap.size ∧ gk < w2.heap.size ∧ gm < w2.heap.size) := hide ⟨HLx.out.parts.1, HPx.out.parts.1, HLl.out.parts.1⟩
  have HZ := hide (Nat.le_refl w2.heap.size)
  obtain ⟨x0, x1, x2, x3, x4, x5, x6, x7⟩ := eight_cells NX.out rfl
  obtain ⟨y0, y1, y2, y3, y4, y5, y6, y7⟩ := eight_cells NO.out rfl
  have HC := hide (keys_any cd ac as_ qt nm oi _ _ L P w2 HLx.out.rm HPx.out.rm HLN.out.1 HLN.out.2.1)
  rw [HXX.out] at HC
  go_wp2_with fail
  refine HC.out.mono ?_
  rintro e w3 ⟨va, rfl, hOa, hb⟩
  clear HC x0 x1 x2 x3 x4 x5 x6 x7 y0 y1 y2 y3 y4 y5 y6 y7
  have HB' := hide (HB.out.trans (hb.mono HB.out.size))
  clear HB
  have HB := HB'
  clear HB'
  have NO' := hide (blk_later NO.out hb)
  clear NO
  have NO := NO'
  clear NO'
  have HE' := hide (HE.out.below hb)
  clear HE
  have HE := HE'
  clear HE'
  have HLx' := hide (HLx.out.later hb)
  clear HLx
  have HLx := HLx'
  clear HLx'
  have HPx' := hide (HPx.out.later hb)
  clear HPx
  have HPx := HPx'
  clear HPx'
  have NX' := hide (blk_later NX.out hb)
  clear NX
  have NX := NX'
  clear NX'
  have HLl' := hide (HLl.out.later hb)
  clear HLl
  have HLl := HLl'
  clear HLl'
  have HZ' := hide (Nat.le_trans HZ.out hb.size)
  clear HZ
  have HZ := HZ'
  clear HZ'
  have HOa := hide hOa
  have HLTa : Hid (∀ b, va.ownBlock = some b → b < w3.heap.size) := hide (fun b k => (World.ownsRow.lt hOa b k).2)
  have HSZa : Hid (w2.heap.size ≤ w3.heap.size) := hide hb.size
  obtain ⟨raa, rca, hva⟩ := KY.OM.slice hOa
  subst hva
  clear hOa hb
  obtain ⟨x0, x1, x2, x3, x4, x5, x6, x7⟩ := eight_cells NX.out rfl
  obtain ⟨y0, y1, y2, y3, y4, y5, y6, y7⟩ := eight_cells NO.out rfl
  have HC := hide (keys_any cd ac as_ qt nm oi _ _ L P w3 HLx.out.rm HPx.out.rm HLN.out.1 HLN.out.2.1)
  rw [HXX.out] at HC
  go_wp2_with fail
  refine HC.out.mono ?_
  rintro e w4 ⟨vb, rfl, hOb, hb⟩
  clear HC x0 x1 x2 x3 x4 x5 x6 x7 y0 y1 y2 y3 y4 y5 y6 y7
  have HB' := hide (HB.out.trans (hb.mono HB.out.size))
  clear HB
  have HB := HB'
  clear HB'
  have NO' := hide (blk_later NO.out hb)
  clear NO
  have NO := NO'
  clear NO'
  have HE' := hide (HE.out.below hb)
  clear HE
  have HE := HE'
  clear HE'
  have HLx' := hide (HLx.out.later hb)
  clear HLx
  have HLx := HLx'
  clear HLx'
  have HPx' := hide (HPx.out.later hb)
  clear HPx
  have HPx := HPx'
  clear HPx'
  have NX' := hide (blk_later NX.out hb)
  clear NX
  have NX := NX'
  clear NX'
  have HLl' := hide (HLl.out.later hb)
  clear HLl
  have HLl := HLl'
  clear HLl'
  have HZ' := hide (Nat.le_trans HZ.out hb.size)
  clear HZ
  have HZ := HZ'
  clear HZ'
  have HOa' := hide (HOa.out.later hb)
  clear HOa
  have HOa := HOa'
  clear HOa'
  have HOb := hide hOb
  have HLTb : Hid (∀ b, vb.ownBlock = some b → b < w4.heap.size) := hide (fun b k => (World.ownsRow.lt hOb b k).2)
  have HSZb : Hid (w3.heap.size ≤ w4.heap.size) := hide hb.size
  obtain ⟨rab, rcb, hvb⟩ := KY.OM.slice hOb
  subst hvb
  clear hOb hb
  obtain ⟨x0, x1, x2, x3, x4, x5, x6, x7⟩ := eight_cells NX.out rfl
  obtain ⟨y0, y1, y2, y3, y4, y5, y6, y7⟩ := eight_cells NO.out rfl
  have HC := hide (legKeys_any id _ M w4 HLl.out.rm HLN.out.2.2)
  rw [HYY.out] at HC
  go_wp2_with fail
  refine HC.out.mono ?_
  rintro e w5 ⟨vc, rfl, hOc, hb⟩
  clear HC x0 x1 x2 x3 x4 x5 x6 x7 y0 y1 y2 y3 y4 y5 y6 y7
  have HB' := hide (HB.out.trans (hb.mono HB.out.size))
  clear HB
  have HB := HB'
  clear HB'
  have NO' := hide (blk_later NO.out hb)
  clear NO
  have NO := NO'
  clear NO'
  have HE' := hide (HE.out.below hb)
  clear HE
  have HE := HE'
  clear HE'
  have HLx' := hide (HLx.out.later hb)
  clear HLx
  have HLx := HLx'
  clear HLx'
  have HPx' := hide (HPx.out.later hb)
  clear HPx
  have HPx := HPx'
  clear HPx'
  have NX' := hide (blk_later NX.out hb)
  clear NX
  have NX := NX'
  clear NX'
  have HLl' := hide (HLl.out.later hb)
  clear HLl
  have HLl := HLl'
  clear HLl'
  have HZ' := hide (Nat.le_trans HZ.out hb.size)
  clear HZ
  have HZ := HZ'
  clear HZ'
  have HOa' := hide (HOa.out.later hb)
  clear HOa
  have HOa := HOa'
  clear HOa'
  have HOb' := hide (HOb.out.later hb)
  clear HOb
  have HOb := HOb'
  clear HOb'
  have HOc := hide hOc
  have HLTc : Hid (∀ b, vc.ownBlock = some b → b < w5.heap.size) := hide (fun b k => (World.ownsRow.lt hOc b k).2)
  have HSZc : Hid (w4.heap.size ≤ w5.heap.size) := hide hb.size
  obtain ⟨rac, rcc, hvc⟩ := KY.OM.slice hOc
  subst hvc
  clear hOc hb
  obtain ⟨x0, x1, x2, x3, x4, x5, x6, x7⟩ := eight_cells NX.out rfl
  obtain ⟨y0, y1, y2, y3, y4, y5, y6, y7⟩ := eight_cells NO.out rfl
  have HC := hide (legKeys_any id _ M w5 HLl.out.rm HLN.out.2.2)
  rw [HYY.out] at HC
  go_wp2_with fail
  refine HC.out.mono ?_
  rintro e w6 ⟨vd, rfl, hOd, hb⟩
  clear HC x0 x1 x2 x3 x4 x5 x6 x7 y0 y1 y2 y3 y4 y5 y6 y7
  have HB' := hide (HB.out.trans (hb.mono HB.out.size))
  clear HB
  have HB := HB'
  clear HB'
  have NO' := hide (blk_later NO.out hb)
  clear NO
  have NO := NO'
  clear NO'
  have HE' := hide (HE.out.below hb)
  clear HE
  have HE := HE'
  clear HE'
  have HLx' := hide (HLx.out.later hb)
  clear HLx
  have HLx := HLx'
  clear HLx'
  have HPx' := hide (HPx.out.later hb)
  clear HPx
  have HPx := HPx'
  clear HPx'
  have NX' := hide (blk_later NX.out hb)
  clear NX
  have NX := NX'
  clear NX'
  have HLl' := hide (HLl.out.later hb)
  clear HLl
  have HLl := HLl'
  clear HLl'
  have HZ' := hide (Nat.le_trans HZ.out hb.size)
  clear HZ
  have HZ := HZ'
  clear HZ'
  have HOa' := hide (HOa.out.later hb)
  clear HOa
  have HOa := HOa'
  clear HOa'
  have HOb' := hide (HOb.out.later hb)
  clear HOb
  have HOb := HOb'
  clear HOb'
  have HOc' := hide (HOc.out.later hb)
  clear HOc
  have HOc := HOc'
  clear HOc'
  have HOd := hide hOd
  have HLTd : Hid (∀ b, vd.ownBlock = some b → b < w6.heap.size) := hide (fun b k => (World.ownsRow.lt hOd b k).2)
  have HSZd : Hid (w5.heap.size ≤ w6.heap.size) := hide hb.size
  obtain ⟨rad, rcd, hvd⟩ := KY.OM.slice hOd
  subst hvd
  clear hOd hb
  obtain ⟨x0, x1, x2, x3, x4, x5, x6, x7⟩ := eight_cells NX.out rfl
  obtain ⟨y0, y1, y2, y3, y4, y5, y6, y7⟩ := eight_cells NO.out rfl
  have HC := hide (rkeys_any cd ac as_ qt nm oi _ _ L P w6 (HLR.out.later HB.out) (HPR.out.later HB.out) HLN.out.1 HLN.out.2.1)
  rw [HXX.out] at HC
  go_wp2_with fail
  refine HC.out.mono ?_
  rintro e w7 ⟨ve, rfl, hOe, hb⟩
  clear HC x0 x1 x2 x3 x4 x5 x6 x7 y0 y1 y2 y3 y4 y5 y6 y7
  have HB' := hide (HB.out.trans (hb.mono HB.out.size))
  clear HB
  have HB := HB'
  clear HB'
  have NO' := hide (blk_later NO.out hb)
  clear NO
  have NO := NO'
  clear NO'
  have HE' := hide (HE.out.below hb)
  clear HE
  have HE := HE'
  clear HE'
  have HLx' := hide (HLx.out.later hb)
  clear HLx
  have HLx := HLx'
  clear HLx'
  have HPx' := hide (HPx.out.later hb)
  clear HPx
  have HPx := HPx'
  clear HPx'
  have NX' := hide (blk_later NX.out hb)
  clear NX
  have NX := NX'
  clear NX'
  have HLl' := hide (HLl.out.later hb)
  clear HLl
  have HLl := HLl'
  clear HLl'
  have HZ' := hide (Nat.le_trans HZ.out hb.size)
  clear HZ
  have HZ := HZ'
  clear HZ'
  have HOa' := hide (HOa.out.later hb)
  clear HOa
  have HOa := HOa'
  clear HOa'
  have HOb' := hide (HOb.out.later hb)
  clear HOb
  have HOb := HOb'
  clear HOb'
  have HOc' := hide (HOc.out.later hb)
  clear HOc
  have HOc := HOc'
  clear HOc'
  have HOd' := hide (HOd.out.later hb)
  clear HOd
  have HOd := HOd'
  clear HOd'
  have HOe := hide hOe
  have HLTe : Hid (∀ b, ve.ownBlock = some b → b < w7.heap.size) := hide (fun b k => (World.ownsRow.lt hOe b k).2)
  have HSZe : Hid (w6.heap.size ≤ w7.heap.size) := hide hb.size
  obtain ⟨rae, rce, hve⟩ := KY.OM.slice hOe
  subst hve
  clear hOe hb
  obtain ⟨x0, x1, x2, x3, x4, x5, x6, x7⟩ := eight_cells NX.out rfl
  obtain ⟨y0, y1, y2, y3, y4, y5, y6, y7⟩ := eight_cells NO.out rfl
  have HC := hide (rlegKeys_any id _ M w7 (HMR.out.later HB.out) HLN.out.2.2)
  rw [HYY.out] at HC
  go_wp2_with fail
  refine HC.out.mono ?_
  rintro e w8 ⟨vf, rfl, hOf, hb⟩
  clear HC x0 x1 x2 x3 x4 x5 x6 x7 y0 y1 y2 y3 y4 y5 y6 y7
  have HB' := hide (HB.out.trans (hb.mono HB.out.size))
  clear HB
  have HB := HB'
  clear HB'
  have NO' := hide (blk_later NO.out hb)
  clear NO
  have NO := NO'
  clear NO'
  have HE' := hide (HE.out.below hb)
  clear HE
  have HE := HE'
  clear HE'
  have HLx' := hide (HLx.out.later hb)
  clear HLx
  have HLx := HLx'
  clear HLx'
  have HPx' := hide (HPx.out.later hb)
  clear HPx
  have HPx := HPx'
  clear HPx'
  have NX' := hide (blk_later NX.out hb)
  clear NX
  have NX := NX'
  clear NX'
  have HLl' := hide (HLl.out.later hb)
  clear HLl
  have HLl := HLl'
  clear HLl'
  have HZ' := hide (Nat.le_trans HZ.out hb.size)
  clear HZ
  have HZ := HZ'
  clear HZ'
  have HOa' := hide (HOa.out.later hb)
  clear HOa
  have HOa := HOa'
  clear HOa'
  have HOb' := hide (HOb.out.later hb)
  clear HOb
  have HOb := HOb'
  clear HOb'
  have HOc' := hide (HOc.out.later hb)
  clear HOc
  have HOc := HOc'
  clear HOc'
  have HOd' := hide (HOd.out.later hb)
  clear HOd
  have HOd := HOd'
  clear HOd'
  have HOe' := hide (HOe.out.later hb)
  clear HOe
  have HOe := HOe'
  clear HOe'
  have HOf := hide hOf
  have HLTf : Hid (∀ b, vf.ownBlock = some b → b < w8.heap.size) := hide (fun b k => (World.ownsRow.lt hOf b k).2)
  have HSZf : Hid (w7.heap.size ≤ w8.heap.size) := hide hb.size
  obtain ⟨raf, rcf, hvf⟩ := KY.OM.slice hOf
  subst hvf
  clear hOf hb
  have HC := hide (KY.sameM_any _ _ X X w8 HOa.out.rm HOe.out.rm (by have := HXL.out; omega) (by have := HXL.out; omega))
  rw [decide_eq_true rfl] at HC
  go_wp2_with fail
  refine HC.out.mono ?_
  rintro e w9 ⟨rfl, hb⟩
  clear HC
  have HB' := hide (HB.out.trans (hb.mono HB.out.size))
  clear HB
  have HB := HB'
  clear HB'
  have NO' := hide (blk_later NO.out hb)
  clear NO
  have NO := NO'
  clear NO'
  have HE' := hide (HE.out.below hb)
  clear HE
  have HE := HE'
  clear HE'
  have HLx' := hide (HLx.out.later hb)
  clear HLx
  have HLx := HLx'
  clear HLx'
  have HPx' := hide (HPx.out.later hb)
  clear HPx
  have HPx := HPx'
  clear HPx'
  have NX' := hide (blk_later NX.out hb)
  clear NX
  have NX := NX'
  clear NX'
  have HLl' := hide (HLl.out.later hb)
  clear HLl
  have HLl := HLl'
  clear HLl'
  have HZ' := hide (Nat.le_trans HZ.out hb.size)
  clear HZ
  have HZ := HZ'
  clear HZ'
  have HOa' := hide (HOa.out.later hb)
  clear HOa
  have HOa := HOa'
  clear HOa'
  have HOb' := hide (HOb.out.later hb)
  clear HOb
  have HOb := HOb'
  clear HOb'
  have HOc' := hide (HOc.out.later hb)
  clear HOc
  have HOc := HOc'
  clear HOc'
  have HOd' := hide (HOd.out.later hb)
  clear HOd
  have HOd := HOd'
  clear HOd'
  have HOe' := hide (HOe.out.later hb)
  clear HOe
  have HOe := HOe'
  clear HOe'
  have HOf' := hide (HOf.out.later hb)
  clear HOf
  have HOf := HOf'
  clear HOf'
  clear hb
  have HC := hide (KY.sameM_any _ _ X X w9 HOb.out.rm HOe.out.rm (by have := HXL.out; omega) (by have := HXL.out; omega))
  rw [decide_eq_true rfl] at HC
  go_wp2_with fail
  refine HC.out.mono ?_
  rintro e w10 ⟨rfl, hb⟩
  clear HC
  have HB' := hide (HB.out.trans (hb.mono HB.out.size))
  clear HB
  have HB := HB'
  clear HB'
  have NO' := hide (blk_later NO.out hb)
  clear NO
  have NO := NO'
  clear NO'
  have HE' := hide (HE.out.below hb)
  clear HE
  have HE := HE'
  clear HE'
  have HLx' := hide (HLx.out.later hb)
  clear HLx
  have HLx := HLx'
  clear HLx'
  have HPx' := hide (HPx.out.later hb)
  clear HPx
  have HPx := HPx'
  clear HPx'
  have NX' := hide (blk_later NX.out hb)
  clear NX
  have NX := NX'
  clear NX'
  have HLl' := hide (HLl.out.later hb)
  clear HLl
  have HLl := HLl'
  clear HLl'
  have HZ' := hide (Nat.le_trans HZ.out hb.size)
  clear HZ
  have HZ := HZ'
  clear HZ'
  have HOa' := hide (HOa.out.later hb)
  clear HOa
  have HOa := HOa'
  clear HOa'
  have HOb' := hide (HOb.out.later hb)
  clear HOb
  have HOb := HOb'
  clear HOb'
  have HOc' := hide (HOc.out.later hb)
  clear HOc
  have HOc := HOc'
  clear HOc'
  have HOd' := hide (HOd.out.later hb)
  clear HOd
  have HOd := HOd'
  clear HOd'
  have HOe' := hide (HOe.out.later hb)
  clear HOe
  have HOe := HOe'
  clear HOe'
  have HOf' := hide (HOf.out.later hb)
  clear HOf
  have HOf := HOf'
  clear HOf'
  clear hb
  have HC := hide (KY.sameM_any _ _ Y Y w10 HOc.out.rm HOf.out.rm (by have := HYL.out; omega) (by have := HYL.out; omega))
  rw [decide_eq_true rfl] at HC
  go_wp2_with fail
  refine HC.out.mono ?_
  rintro e w11 ⟨rfl, hb⟩
  clear HC
  have HB' := hide (HB.out.trans (hb.mono HB.out.size))
  clear HB
  have HB := HB'
  clear HB'
  have NO' := hide (blk_later NO.out hb)
  clear NO
  have NO := NO'
  clear NO'
  have HE' := hide (HE.out.below hb)
  clear HE
  have HE := HE'
  clear HE'
  have HLx' := hide (HLx.out.later hb)
  clear HLx
  have HLx := HLx'
  clear HLx'
  have HPx' := hide (HPx.out.later hb)
  clear HPx
  have HPx := HPx'
  clear HPx'
  have NX' := hide (blk_later NX.out hb)
  clear NX
  have NX := NX'
  clear NX'
  have HLl' := hide (HLl.out.later hb)
  clear HLl
  have HLl := HLl'
  clear HLl'
  have HZ' := hide (Nat.le_trans HZ.out hb.size)
  clear HZ
  have HZ := HZ'
  clear HZ'
  have HOa' := hide (HOa.out.later hb)
  clear HOa
  have HOa := HOa'
  clear HOa'
  have HOb' := hide (HOb.out.later hb)
  clear HOb
  have HOb := HOb'
  clear HOb'
  have HOc' := hide (HOc.out.later hb)
  clear HOc
  have HOc := HOc'
  clear HOc'
  have HOd' := hide (HOd.out.later hb)
  clear HOd
  have HOd := HOd'
  clear HOd'
  have HOe' := hide (HOe.out.later hb)
  clear HOe
  have HOe := HOe'
  clear HOe'
  have HOf' := hide (HOf.out.later hb)
  clear HOf
  have HOf := HOf'
  clear HOf'
  clear hb
  have HC := hide (KY.sameM_any _ _ Y Y w11 HOd.out.rm HOf.out.rm (by have := HYL.out; omega) (by have := HYL.out; omega))
  rw [decide_eq_true rfl] at HC
  go_wp2_with fail
  refine HC.out.mono ?_
  rintro e w12 ⟨rfl, hb⟩
  clear HC
  have HB' := hide (HB.out.trans (hb.mono HB.out.size))
  clear HB
  have HB := HB'
  clear HB'
  have NO' := hide (blk_later NO.out hb)
  clear NO
  have NO := NO'
  clear NO'
  have HE' := hide (HE.out.below hb)
  clear HE
  have HE := HE'
  clear HE'
  have HLx' := hide (HLx.out.later hb)
  clear HLx
  have HLx := HLx'
  clear HLx'
  have HPx' := hide (HPx.out.later hb)
  clear HPx
  have HPx := HPx'
  clear HPx'
  have NX' := hide (blk_later NX.out hb)
  clear NX
  have NX := NX'
  clear NX'
  have HLl' := hide (HLl.out.later hb)
  clear HLl
  have HLl := HLl'
  clear HLl'
  have HZ' := hide (Nat.le_trans HZ.out hb.size)
  clear HZ
  have HZ := HZ'
  clear HZ'
  have HOa' := hide (HOa.out.later hb)
  clear HOa
  have HOa := HOa'
  clear HOa'
  have HOb' := hide (HOb.out.later hb)
  clear HOb
  have HOb := HOb'
  clear HOb'
  have HOc' := hide (HOc.out.later hb)
  clear HOc
  have HOc := HOc'
  clear HOc'
  have HOd' := hide (HOd.out.later hb)
  clear HOd
  have HOd := HOd'
  clear HOd'
  have HOe' := hide (HOe.out.later hb)
  clear HOe
  have HOe := HOe'
  clear HOe'
  have HOf' := hide (HOf.out.later hb)
  clear HOf
  have HOf := HOf'
  clear HOf'
  clear hb
  have HC := hide (works_any w12 HE.out)
  go_wp2_with fail
  refine HC.out.mono ?_
  rintro e w13 ⟨rfl, hb⟩
  clear HC
  have HB' := hide (HB.out.trans (hb.mono HB.out.size))
  clear HB
  have HB := HB'
  clear HB'
  have NO' := hide (blk_later NO.out hb)
  clear NO
  have NO := NO'
  clear NO'
  have HE' := hide (HE.out.below hb)
  clear HE
  have HE := HE'
  clear HE'
  have HLx' := hide (HLx.out.later hb)
  clear HLx
  have HLx := HLx'
  clear HLx'
  have HPx' := hide (HPx.out.later hb)
  clear HPx
  have HPx := HPx'
  clear HPx'
  have NX' := hide (blk_later NX.out hb)
  clear NX
  have NX := NX'
  clear NX'
  have HLl' := hide (HLl.out.later hb)
  clear HLl
  have HLl := HLl'
  clear HLl'
  have HZ' := hide (Nat.le_trans HZ.out hb.size)
  clear HZ
  have HZ := HZ'
  clear HZ'
  have HOa' := hide (HOa.out.later hb)
  clear HOa
  have HOa := HOa'
  clear HOa'
  have HOb' := hide (HOb.out.later hb)
  clear HOb
  have HOb := HOb'
  clear HOb'
  have HOc' := hide (HOc.out.later hb)
  clear HOc
  have HOc := HOc'
  clear HOc'
  have HOd' := hide (HOd.out.later hb)
  clear HOd
  have HOd := HOd'
  clear HOd'
  have HOe' := hide (HOe.out.later hb)
  clear HOe
  have HOe := HOe'
  clear HOe'
  have HOf' := hide (HOf.out.later hb)
  clear HOf
  have HOf := HOf'
  clear HOf'
  clear hb
  have hbA := (Below.refl w13.heap.size w13).alloc (Nat.le_refl _) (.cells #[.slice raa X.length rca, .slice rab X.length rcb, .slice rac Y.length rcc, .slice rad Y.length rcd] 23)
  have HW13 : Hid (w2.heap.size ≤ w13.heap.size) := hide (HZ.out)
  have hAll := ky_four HOa.out HOb.out HOc.out HOd.out HLTa.out HLTb.out HLTc.out HSZa.out HSZb.out HSZc.out
  have HC := hide (KY.apartMarks_sp w2.heap.size w13.heap.size 4 4 _ _ _ _ _ hAll (fun k => by show (if k < 2 then X.length else Y.length) ≤ 8796093022000; split; exact HXL.out; exact HYL.out) (by decide) (by decide) (by have := hbA.size; have h3 := HW13.out; omega))
  have HB' := hide (HB.out.trans (hbA.mono HB.out.size))
  clear HB
  have HB := HB'
  clear HB'
  have NO' := hide (blk_later NO.out hbA)
  clear NO
  have NO := NO'
  clear NO'
  have HE' := hide (HE.out.below hbA)
  clear HE
  have HE := HE'
  clear HE'
  have HLx' := hide (HLx.out.later hbA)
  clear HLx
  have HLx := HLx'
  clear HLx'
  have HPx' := hide (HPx.out.later hbA)
  clear HPx
  have HPx := HPx'
  clear HPx'
  have NX' := hide (blk_later NX.out hbA)
  clear NX
  have NX := NX'
  clear NX'
  have HLl' := hide (HLl.out.later hbA)
  clear HLl
  have HLl := HLl'
  clear HLl'
  have HZ' := hide (Nat.le_trans HZ.out hbA.size)
  clear HZ
  have HZ := HZ'
  clear HZ'
  have HOa' := hide (HOa.out.later hbA)
  clear HOa
  have HOa := HOa'
  clear HOa'
  have HOb' := hide (HOb.out.later hbA)
  clear HOb
  have HOb := HOb'
  clear HOb'
  have HOc' := hide (HOc.out.later hbA)
  clear HOc
  have HOc := HOc'
  clear HOc'
  have HOd' := hide (HOd.out.later hbA)
  clear HOd
  have HOd := HOd'
  clear HOd'
  have HOe' := hide (HOe.out.later hbA)
  clear HOe
  have HOe := HOe'
  clear HOe'
  have HOf' := hide (HOf.out.later hbA)
  clear HOf
  have HOf := HOf'
  clear HOf'
  have hS0 : ∀ k, k < 4 → ∀ b, (Value.slice (fourA raa rab rac rad k) (if k < 2 then X.length else Y.length) (fourN rca rcb rcc rcd k)).ownBlock = some b → w2.heap.size ≤ b := fun k hk b hb => (World.ownsRow.lt (hAll.own k hk) b hb).1
  have HS0 := hide hS0
  clear hAll hbA hS0
  go_wp2_with fail
  refine HC.out.mono ?_
  rintro e w14 ⟨rfl, hsp⟩
  clear HC
  have hbS : Below w2.heap.size (w13.alloc (.cells #[.slice raa X.length rca, .slice rab X.length rcb, .slice rac Y.length rcc, .slice rad Y.length rcd] 23)) w14 := ⟨hsp.os, hsp.tape, hsp.output, hsp.size, fun b hb => hsp.block b (Nat.lt_of_lt_of_le hb (Nat.le_trans HW13.out (by simp))) (fun k hk e => by have := HS0.out k hk b e; omega)⟩
  have HB' := hide (HB.out.trans (hbS.mono (Nat.le_of_lt HS2.out.1)))
  have NO' := hide ((hbS.block w.heap.size HS2.out.1).trans NO.out)
  have NX' := hide ((hbS.block w1.heap.size HS2.out.2).trans NX.out)
  have HLx' : Hid (LG.LentM w14 0 gl cl L) := hide ⟨Nat.zero_le _, owns_blk HLx.out.own (fun b hb => by cases hb; exact hbS.block gl HG2.out.1)⟩
  have HPx' : Hid (KY.LentM w14 0 gk ck P) := hide ⟨Nat.zero_le _, owns_blk HPx.out.own (fun b hb => by cases hb; exact hbS.block gk HG2.out.2.1)⟩
  have HLl' : Hid (LG.LentM w14 0 gm cm M) := hide ⟨Nat.zero_le _, owns_blk HLl.out.own (fun b hb => by cases hb; exact hbS.block gm HG2.out.2.2)⟩
  clear HB NO NX HLx HPx HLl hbS hsp
  have HB := HB'
  have NO := NO'
  have NX := NX'
  have HLx := HLx'
  have HPx := HPx'
  have HLl := HLl'
  clear HB' NO' NX' HLx' HPx' HLl'
  obtain ⟨x0, x1, x2, x3, x4, x5, x6, x7⟩ := eight_cells NX.out rfl
  obtain ⟨y0, y1, y2, y3, y4, y5, y6, y7⟩ := eight_cells NO.out rfl
  have HC := hide (keptOp_any cd ac as_ qt nm oi _ _ L P 0 gl cl gk ck w14 (HLR.out.later HB.out) (HPR.out.later HB.out) HLx.out HPx.out HLN.out.1 HLN.out.2.1)
  go_wp2_with fail
  refine HC.out.mono ?_
  rintro e w15 ⟨rfl, hb⟩
  clear HC x0 x1 x2 x3 x4 x5 x6 x7 y0 y1 y2 y3 y4 y5 y6 y7
  have HB' := hide (HB.out.trans (hb.mono HB.out.size))
  clear HB
  have HB := HB'
  clear HB'
  have NO' := hide (blk_later NO.out hb)
  clear NO
  have NO := NO'
  clear NO'
  have HLx' := hide (HLx.out.later hb)
  clear HLx
  have HLx := HLx'
  clear HLx'
  have HPx' := hide (HPx.out.later hb)
  clear HPx
  have HPx := HPx'
  clear HPx'
  have NX' := hide (blk_later NX.out hb)
  clear NX
  have NX := NX'
  clear NX'
  have HLl' := hide (HLl.out.later hb)
  clear HLl
  have HLl := HLl'
  clear HLl'
  clear hb
  have HC := hide (LG.keptMarks_any _ M 0 gm cm w15 (HMR.out.later HB.out) HLl.out HLN.out.2.2)
  go_wp2_with fail
  refine HC.out.mono ?_
  rintro e w16 ⟨rfl, hb⟩
  clear HC
  have HB' := hide (HB.out.trans (hb.mono HB.out.size))
  clear HB
  have HB := HB'
  clear HB'
  have NO' := hide (blk_later NO.out hb)
  clear NO
  have NO := NO'
  clear NO'
  have HLx' := hide (HLx.out.later hb)
  clear HLx
  have HLx := HLx'
  clear HLx'
  have HPx' := hide (HPx.out.later hb)
  clear HPx
  have HPx := HPx'
  clear HPx'
  have NX' := hide (blk_later NX.out hb)
  clear NX
  have NX := NX'
  clear NX'
  have HLl' := hide (HLl.out.later hb)
  clear HLl
  have HLl := HLl'
  clear HLl'
  clear hb
  go_wp2_with fail
  go_ret
  exact ⟨rfl, HB.out⟩
end Go.Proofs.YtdjhbecbbmdimaaGreatDoor
