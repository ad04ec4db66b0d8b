/-
  My own text: there and back between operations and rows; are two operations the same? (printed by mkg26.py).
-/
import Derived.Test.YtdiamlajmcikhaaGreatDoorG22
import Derived.Test.YtdiamlajmcikhaaGreatDoorG13
import Derived.Test.YtdiamlajmcikhaaGreatDoorGIS
namespace Go.Proofs.YtdiamlajmcikhaaGreatDoor
open Go.RowKit

theorem legsOf_cons5 (a b c d e : Int) (M : List Int) : legsOf (a :: b :: c :: d :: e :: M) = (a, b, c, d, e) :: legsOf M := by
  unfold legsOf
  have h : (a :: b :: c :: d :: e :: M).length / 5 = M.length / 5 + 1 := by simp; omega
  rw [h, List.range_succ_eq_map, List.map_cons, List.map_map]
  rfl
theorem legsOf_row : ∀ L : List LG.El, legsOf (rowLG L) = L
  | [] => rfl
  | (a, b, c, d, e) :: t => by
    show legsOf (a :: b :: c :: d :: e :: rowLG t) = _
    rw [legsOf_cons5, legsOf_row t]
theorem rowLG_of : ∀ M : List Int, M.length % 5 = 0 → rowLG (legsOf M) = M
  | [], _ => rfl
  | [_], h => by simp at h
  | [_, _], h => by simp at h
  | [_, _, _], h => by simp at h
  | [_, _, _, _], h => by simp at h
  | a :: b :: c :: d :: e :: M, h => by
    rw [legsOf_cons5]
    show a :: b :: c :: d :: e :: rowLG (legsOf M) = _
    rw [rowLG_of M (by simp at h; omega)]
theorem keysOf_cons2 (a b : Int) (M : List Int) : keysOf (a :: b :: M) = (a, b) :: keysOf M := by
  unfold keysOf
  have h : (a :: b :: M).length / 2 = M.length / 2 + 1 := by simp; omega
  rw [h, List.range_succ_eq_map, List.map_cons, List.map_map]
  rfl
theorem keysOf_row : ∀ L : List KY.El, keysOf (rowKY L) = L
  | [] => rfl
  | (a, b) :: t => by
    show keysOf (a :: b :: rowKY t) = _
    rw [keysOf_cons2, keysOf_row t]
theorem rowKY_of : ∀ M : List Int, M.length % 2 = 0 → rowKY (keysOf M) = M
  | [], _ => rfl
  | [_], h => by simp at h
  | a :: b :: M, h => by
    rw [keysOf_cons2]
    show a :: b :: rowKY (keysOf M) = _
    rw [rowKY_of M (by simp at h; omega)]
theorem dc_enc (o : OpX) (hc : 1 ≤ o.code ∧ o.code ≤ 8) : dcE (encL o) = 0 ∧ dcO (encL o) = ownO o := by
  obtain ⟨cd, ac, as_, qt, nm, id, L, P⟩ := o
  dsimp only at hc
  obtain e | e | e | e | e | e | e | e : cd = 1 ∨ cd = 2 ∨ cd = 3 ∨ cd = 4 ∨ cd = 5 ∨ cd = 6 ∨ cd = 7 ∨ cd = 8 := by omega
  all_goals subst e
  · exact ⟨by rw [encL_1 rfl]; simp [dcE, fxE_1], by rw [encL_1 rfl]; simp [dcO, fxE_1, rdO_1, ownO, nth]⟩
  · exact ⟨by rw [encL_2 rfl]; simp [dcE, fxE_2], by rw [encL_2 rfl]; simp [dcO, fxE_2, rdO_2, ownO, nth]⟩
  · exact ⟨by rw [encL_3 rfl]; simp [dcE, fxE_3], by rw [encL_3 rfl]; simp [dcO, fxE_3, rdO_3, ownO, nth]⟩
  · exact ⟨by rw [encL_4 rfl]; simp [dcE, fxE_4], by rw [encL_4 rfl]; simp [dcO, fxE_4, rdO_4, ownO, nth]⟩
  · have h : fxE 5 (id :: rowLG L).length = 0 := by rw [fxE_5, if_pos]; simp [rowLG_len]
    rw [encL_5 rfl]
    refine ⟨h, (dcO_ok h).trans ?_⟩
    rw [rdO_5]
    simp [ownO, nth, legsOf_row]
  · exact ⟨by rw [encL_6 rfl]; simp [dcE, fxE_6], by rw [encL_6 rfl]; simp [dcO, fxE_6, rdO_6, ownO, nth]⟩
  · exact ⟨by rw [encL_7 rfl]; simp [dcE, fxE_7], by rw [encL_7 rfl]; simp [dcO, fxE_7, rdO_7, ownO, nth]⟩
  · have h : fxE 8 (rowKY P).length = 0 := by rw [fxE_8, if_pos]; simp [rowKY_len]
    rw [encL_8 rfl]
    refine ⟨h, (dcO_ok h).trans ?_⟩
    rw [rdO_8]
    simp [ownO, keysOf_row]
theorem len3 {N : List Int} (h : N.length = 3) : ∃ a b c, N = [a, b, c] := by
  match N, h with
  | [a, b, c], _ => exact ⟨a, b, c, rfl⟩
theorem len4 {N : List Int} (h : N.length = 4) : ∃ a b c d, N = [a, b, c, d] := by
  match N, h with
  | [a, b, c, d], _ => exact ⟨a, b, c, d, rfl⟩
theorem len1 {N : List Int} (h : N.length = 1) : ∃ a, N = [a] := by
  match N, h with
  | [a], _ => exact ⟨a, rfl⟩
theorem enc_dc : ∀ (raw : List Int), dcE raw = 0 → encE (dcO raw) = 0 ∧ encL (dcO raw) = raw
  | [], h => by exact absurd h (by decide)
  | c :: N, h => by
    have h : fxE c N.length = 0 := h
    rw [dcO_ok h]
    by_cases hc : 1 ≤ c ∧ c ≤ 8
    · obtain e | e | e | e | e | e | e | e : c = 1 ∨ c = 2 ∨ c = 3 ∨ c = 4 ∨ c = 5 ∨ c = 6 ∨ c = 7 ∨ c = 8 := by omega
      all_goals subst e
      · rw [fxE_1] at h
        obtain ⟨x, y, z, rfl⟩ := len3 (N := N) (by split at h <;> (try split at h) <;> omega)
        rw [rdO_1]; exact ⟨rfl, by rw [encL_1 rfl]; rfl⟩
      · rw [fxE_2] at h
        obtain ⟨x, y, z, rfl⟩ := len3 (N := N) (by split at h <;> (try split at h) <;> omega)
        rw [rdO_2]; exact ⟨rfl, by rw [encL_2 rfl]; rfl⟩
      · rw [fxE_3] at h
        obtain ⟨x, y, z, u, rfl⟩ := len4 (N := N) (by split at h <;> (try split at h) <;> omega)
        rw [rdO_3]; exact ⟨rfl, by rw [encL_3 rfl]; rfl⟩
      · rw [fxE_4] at h
        obtain ⟨x, y, z, u, rfl⟩ := len4 (N := N) (by split at h <;> (try split at h) <;> omega)
        rw [rdO_4]; exact ⟨rfl, by rw [encL_4 rfl]; rfl⟩
      · rw [fxE_5] at h
        have hN : 1 ≤ N.length ∧ (N.length - 1) % 5 = 0 := by
          split at h
          · assumption
          · omega
        obtain ⟨x, M, rfl⟩ : ∃ x M, N = x :: M := by
          match N, hN.1 with
          | x :: M, _ => exact ⟨x, M, rfl⟩
        rw [rdO_5]
        refine ⟨rfl, ?_⟩
        rw [encL_5 rfl]
        show 5 :: x :: rowLG (legsOf M) = _
        rw [rowLG_of M (by have := hN.2; simp at this; omega)]
      · rw [fxE_6] at h
        obtain ⟨x, rfl⟩ := len1 (N := N) (by split at h <;> (try split at h) <;> omega)
        rw [rdO_6]; exact ⟨rfl, by rw [encL_6 rfl]; rfl⟩
      · rw [fxE_7] at h
        obtain ⟨x, rfl⟩ := len1 (N := N) (by split at h <;> (try split at h) <;> omega)
        rw [rdO_7]; exact ⟨rfl, by rw [encL_7 rfl]; rfl⟩
      · rw [fxE_8] at h
        have hN : N.length % 2 = 0 := by
          split at h
          · rename_i h2; have := h2.2; omega
          · omega
        rw [rdO_8]
        refine ⟨rfl, ?_⟩
        rw [encL_8 rfl]
        show 8 :: rowKY (keysOf N) = _
        rw [rowKY_of N hN]
    · rw [fxE_0 hc] at h; omega
theorem own_code (o : OpX) : (ownO o).code = o.code := by unfold ownO; (repeat' split) <;> rfl
theorem encL_own (o : OpX) : encL (ownO o) = encL o := by
  by_cases hc : 1 ≤ o.code ∧ o.code ≤ 8
  · obtain e | e | e | e | e | e | e | e : o.code = 1 ∨ o.code = 2 ∨ o.code = 3 ∨ o.code = 4 ∨ o.code = 5 ∨ o.code = 6 ∨ o.code = 7 ∨ o.code = 8 := by omega
    all_goals simp [ownO, encL, e]
  · rw [encL_0 hc, encL_0 (by rw [own_code]; exact hc)]
theorem encE_ok {o : OpX} : encE o = 0 ↔ 1 ≤ o.code ∧ o.code ≤ 8 := by unfold encE; split <;> simp [*]
theorem alike_own (o p : OpX) (hc : 1 ≤ o.code ∧ o.code ≤ 8) : (encE p = 0 ∧ encL o = encL p) ↔ ownO o = ownO p := by
  constructor
  · rintro ⟨h1, h2⟩
    rw [← (dc_enc o hc).2, ← (dc_enc p (encE_ok.1 h1)).2, h2]
  · intro h
    refine ⟨encE_ok.2 ?_, ?_⟩
    · rw [← own_code p, ← h, own_code]; exact hc
    · rw [← encL_own o, h, encL_own]
theorem ownO_len (o : OpX) (hl : o.legs.length ≤ 3518437208800) (hp : o.pairs.length ≤ 8796093022000) : (ownO o).legs.length ≤ 3518437208800 ∧ (ownO o).pairs.length ≤ 8796093022000 := by
  unfold ownO; (repeat' split) <;> (constructor <;> first | (simp; done) | omega | (simp; omega))
theorem dcO_lenB (raw : List Int) (h : raw.length ≤ 17592186044000) : (dcO raw).legs.length ≤ 3518437208800 ∧ (dcO raw).pairs.length ≤ 8796093022000 := by
  match raw, h with
  | [], _ => exact ⟨by simp [dcO, opZ], by simp [dcO, opZ]⟩
  | c :: N, h =>
    have hN : N.length ≤ 17592186044000 := by simp at h; omega
    by_cases h0 : fxE c N.length = 0
    · rw [dcO_ok h0]
      unfold rdO
      (repeat' split) <;> (constructor <;> first | (simp; done) | (rw [legsOf_len, List.length_drop]; omega) | (rw [keysOf_len]; omega))
    · rw [dcO_err h0]
      exact ⟨by simp [opZ], by simp [opZ]⟩
set_option maxRecDepth 100000 in
set_option maxHeartbeats 4000000 in
theorem sameOp_any (o p : OpX) (l1 p1 l2 p2 : Value) (w : World) (h1 : LG.RM w l1 o.legs) (h2 : LG.RM w l2 p.legs) (h3 : KY.RM w p1 o.pairs) (h4 : KY.RM w p2 p.pairs) (hl : o.legs.length ≤ 3518437208800) (hp : o.pairs.length ≤ 8796093022000) (hl2 : p.legs.length ≤ 3518437208800) (hp2 : p.pairs.length ≤ 8796093022000) :
    Calls Tryz.prog 27 #[opV o l1 p1, opV p l2 p2] w fun e w' => ∃ b, e = .returned (.bool b) ∧ (b = true ↔ o = p) ∧ Below w.heap.size w w' := by
  have HL := hide (fun (W : World) (hb : Below w.heap.size w W) => LG.sameM_any l1 l2 o.legs p.legs W (h1.later hb) (h2.later hb) (by omega) (by omega))
  have HP := hide (fun (W : World) (hb : Below w.heap.size w W) => KY.sameM_any p1 p2 o.pairs p.pairs W (h3.later hb) (h4.later hb) (by omega) (by omega))
  clear h1 h2 h3 h4 hl hp hl2 hp2
  unfold opV
  obtain ⟨cd, ac, as_, qt, nm, id, L, P⟩ := o
  obtain ⟨cd2, ac2, as2, qt2, nm2, id2, L2, P2⟩ := p
  dsimp only at *
  by_cases e0 : ¬ (cd = cd2)
  · have f0 : (cd != cd2) = true := by rw [bne_iff_ne]; exact e0
    have HNE : Hid (¬ (OpX.mk cd ac as_ qt nm id L P = OpX.mk cd2 ac2 as2 qt2 nm2 id2 L2 P2)) := hide (fun h => e0 (by injection h))
    clear e0
    have B0 := hide (two_below w (.cells #[.int .i64 cd, .int .i64 ac, .int .i64 as_, .int .i64 qt, .int .i64 nm, .int .i64 id, l1, p1] 26) (.cells #[.int .i64 cd2, .int .i64 ac2, .int .i64 as2, .int .i64 qt2, .int .i64 nm2, .int .i64 id2, l2, p2] 26))
    have X0 := hide (two_new w (.cells #[.int .i64 cd, .int .i64 ac, .int .i64 as_, .int .i64 qt, .int .i64 nm, .int .i64 id, l1, p1] 26) (.cells #[.int .i64 cd2, .int .i64 ac2, .int .i64 as2, .int .i64 qt2, .int .i64 nm2, .int .i64 id2, l2, p2] 26))
    obtain ⟨x0, x1, x2, x3, x4, x5, x6, x7⟩ := eight_cells X0.out.1 rfl
    obtain ⟨y0, y1, y2, y3, y4, y5, y6, y7⟩ := eight_cells X0.out.2 rfl
    go_enter Tryz.func27, Tryz.ntmps27
    go_wp2_with fail
    go_ret
    exact ⟨_, rfl, ⟨fun h => (by cases h), fun h => absurd h HNE.out⟩, B0.out⟩
  replace e0 := Decidable.not_not.1 e0
  subst e0
  have g0 : (cd != cd) = false := by simp
  by_cases e1 : ¬ (ac = ac2)
  · have f1 : (ac != ac2) = true := by rw [bne_iff_ne]; exact e1
    have HNE : Hid (¬ (OpX.mk cd ac as_ qt nm id L P = OpX.mk cd ac2 as2 qt2 nm2 id2 L2 P2)) := hide (fun h => e1 (by injection h))
    clear e1
    have B0 := hide (two_below w (.cells #[.int .i64 cd, .int .i64 ac, .int .i64 as_, .int .i64 qt, .int .i64 nm, .int .i64 id, l1, p1] 26) (.cells #[.int .i64 cd, .int .i64 ac2, .int .i64 as2, .int .i64 qt2, .int .i64 nm2, .int .i64 id2, l2, p2] 26))
    have X0 := hide (two_new w (.cells #[.int .i64 cd, .int .i64 ac, .int .i64 as_, .int .i64 qt, .int .i64 nm, .int .i64 id, l1, p1] 26) (.cells #[.int .i64 cd, .int .i64 ac2, .int .i64 as2, .int .i64 qt2, .int .i64 nm2, .int .i64 id2, l2, p2] 26))
    obtain ⟨x0, x1, x2, x3, x4, x5, x6, x7⟩ := eight_cells X0.out.1 rfl
    obtain ⟨y0, y1, y2, y3, y4, y5, y6, y7⟩ := eight_cells X0.out.2 rfl
    go_enter Tryz.func27, Tryz.ntmps27
    go_wp2_with fail
    go_ret
    exact ⟨_, rfl, ⟨fun h => (by cases h), fun h => absurd h HNE.out⟩, B0.out⟩
  replace e1 := Decidable.not_not.1 e1
  subst e1
  have g1 : (ac != ac) = false := by simp
  by_cases e2 : ¬ (as_ = as2)
  · have f2 : (as_ != as2) = true := by rw [bne_iff_ne]; exact e2
    have HNE : Hid (¬ (OpX.mk cd ac as_ qt nm id L P = OpX.mk cd ac as2 qt2 nm2 id2 L2 P2)) := hide (fun h => e2 (by injection h))
    clear e2
    have B0 := hide (two_below w (.cells #[.int .i64 cd, .int .i64 ac, .int .i64 as_, .int .i64 qt, .int .i64 nm, .int .i64 id, l1, p1] 26) (.cells #[.int .i64 cd, .int .i64 ac, .int .i64 as2, .int .i64 qt2, .int .i64 nm2, .int .i64 id2, l2, p2] 26))
    have X0 := hide (two_new w (.cells #[.int .i64 cd, .int .i64 ac, .int .i64 as_, .int .i64 qt, .int .i64 nm, .int .i64 id, l1, p1] 26) (.cells #[.int .i64 cd, .int .i64 ac, .int .i64 as2, .int .i64 qt2, .int .i64 nm2, .int .i64 id2, l2, p2] 26))
    obtain ⟨x0, x1, x2, x3, x4, x5, x6, x7⟩ := eight_cells X0.out.1 rfl
    obtain ⟨y0, y1, y2, y3, y4, y5, y6, y7⟩ := eight_cells X0.out.2 rfl
    go_enter Tryz.func27, Tryz.ntmps27
    go_wp2_with fail
    go_ret
    exact ⟨_, rfl, ⟨fun h => (by cases h), fun h => absurd h HNE.out⟩, B0.out⟩
  replace e2 := Decidable.not_not.1 e2
  subst e2
  have g2 : (as_ != as_) = false := by simp
  by_cases e3 : ¬ (qt = qt2)
  · have f3 : (qt != qt2) = true := by rw [bne_iff_ne]; exact e3
    have HNE : Hid (¬ (OpX.mk cd ac as_ qt nm id L P = OpX.mk cd ac as_ qt2 nm2 id2 L2 P2)) := hide (fun h => e3 (by injection h))
    clear e3
    have B0 := hide (two_below w (.cells #[.int .i64 cd, .int .i64 ac, .int .i64 as_, .int .i64 qt, .int .i64 nm, .int .i64 id, l1, p1] 26) (.cells #[.int .i64 cd, .int .i64 ac, .int .i64 as_, .int .i64 qt2, .int .i64 nm2, .int .i64 id2, l2, p2] 26))
    have X0 := hide (two_new w (.cells #[.int .i64 cd, .int .i64 ac, .int .i64 as_, .int .i64 qt, .int .i64 nm, .int .i64 id, l1, p1] 26) (.cells #[.int .i64 cd, .int .i64 ac, .int .i64 as_, .int .i64 qt2, .int .i64 nm2, .int .i64 id2, l2, p2] 26))
    obtain ⟨x0, x1, x2, x3, x4, x5, x6, x7⟩ := eight_cells X0.out.1 rfl
    obtain ⟨y0, y1, y2, y3, y4, y5, y6, y7⟩ := eight_cells X0.out.2 rfl
    go_enter Tryz.func27, Tryz.ntmps27
    go_wp2_with fail
    go_ret
    exact ⟨_, rfl, ⟨fun h => (by cases h), fun h => absurd h HNE.out⟩, B0.out⟩
  replace e3 := Decidable.not_not.1 e3
  subst e3
  have g3 : (qt != qt) = false := by simp
  by_cases e4 : ¬ (nm = nm2)
  · have f4 : (nm != nm2) = true := by rw [bne_iff_ne]; exact e4
    have HNE : Hid (¬ (OpX.mk cd ac as_ qt nm id L P = OpX.mk cd ac as_ qt nm2 id2 L2 P2)) := hide (fun h => e4 (by injection h))
    clear e4
    have B0 := hide (two_below w (.cells #[.int .i64 cd, .int .i64 ac, .int .i64 as_, .int .i64 qt, .int .i64 nm, .int .i64 id, l1, p1] 26) (.cells #[.int .i64 cd, .int .i64 ac, .int .i64 as_, .int .i64 qt, .int .i64 nm2, .int .i64 id2, l2, p2] 26))
    have X0 := hide (two_new w (.cells #[.int .i64 cd, .int .i64 ac, .int .i64 as_, .int .i64 qt, .int .i64 nm, .int .i64 id, l1, p1] 26) (.cells #[.int .i64 cd, .int .i64 ac, .int .i64 as_, .int .i64 qt, .int .i64 nm2, .int .i64 id2, l2, p2] 26))
    obtain ⟨x0, x1, x2, x3, x4, x5, x6, x7⟩ := eight_cells X0.out.1 rfl
    obtain ⟨y0, y1, y2, y3, y4, y5, y6, y7⟩ := eight_cells X0.out.2 rfl
    go_enter Tryz.func27, Tryz.ntmps27
    go_wp2_with fail
    go_ret
    exact ⟨_, rfl, ⟨fun h => (by cases h), fun h => absurd h HNE.out⟩, B0.out⟩
  replace e4 := Decidable.not_not.1 e4
  subst e4
  have g4 : (nm != nm) = false := by simp
  by_cases e5 : ¬ (id = id2)
  · have f5 : (id != id2) = true := by rw [bne_iff_ne]; exact e5
    have HNE : Hid (¬ (OpX.mk cd ac as_ qt nm id L P = OpX.mk cd ac as_ qt nm id2 L2 P2)) := hide (fun h => e5 (by injection h))
    clear e5
    have B0 := hide (two_below w (.cells #[.int .i64 cd, .int .i64 ac, .int .i64 as_, .int .i64 qt, .int .i64 nm, .int .i64 id, l1, p1] 26) (.cells #[.int .i64 cd, .int .i64 ac, .int .i64 as_, .int .i64 qt, .int .i64 nm, .int .i64 id2, l2, p2] 26))
    have X0 := hide (two_new w (.cells #[.int .i64 cd, .int .i64 ac, .int .i64 as_, .int .i64 qt, .int .i64 nm, .int .i64 id, l1, p1] 26) (.cells #[.int .i64 cd, .int .i64 ac, .int .i64 as_, .int .i64 qt, .int .i64 nm, .int .i64 id2, l2, p2] 26))
    obtain ⟨x0, x1, x2, x3, x4, x5, x6, x7⟩ := eight_cells X0.out.1 rfl
    obtain ⟨y0, y1, y2, y3, y4, y5, y6, y7⟩ := eight_cells X0.out.2 rfl
    go_enter Tryz.func27, Tryz.ntmps27
    go_wp2_with fail
    go_ret
    exact ⟨_, rfl, ⟨fun h => (by cases h), fun h => absurd h HNE.out⟩, B0.out⟩
  replace e5 := Decidable.not_not.1 e5
  subst e5
  have g5 : (id != id) = false := by simp
  by_cases eL : ¬ (L = L2)
  · have HL2 := hide (fun (W : World) (hb : Below w.heap.size w W) => (HL.out W hb))
    simp only [decide_eq_false eL] at HL2
    clear HL
    have B0 := hide (two_below w (.cells #[.int .i64 cd, .int .i64 ac, .int .i64 as_, .int .i64 qt, .int .i64 nm, .int .i64 id, l1, p1] 26) (.cells #[.int .i64 cd, .int .i64 ac, .int .i64 as_, .int .i64 qt, .int .i64 nm, .int .i64 id, l2, p2] 26))
    have X0 := hide (two_new w (.cells #[.int .i64 cd, .int .i64 ac, .int .i64 as_, .int .i64 qt, .int .i64 nm, .int .i64 id, l1, p1] 26) (.cells #[.int .i64 cd, .int .i64 ac, .int .i64 as_, .int .i64 qt, .int .i64 nm, .int .i64 id, l2, p2] 26))
    obtain ⟨x0, x1, x2, x3, x4, x5, x6, x7⟩ := eight_cells X0.out.1 rfl
    obtain ⟨y0, y1, y2, y3, y4, y5, y6, y7⟩ := eight_cells X0.out.2 rfl
    go_enter Tryz.func27, Tryz.ntmps27
    go_wp2_with fail
    refine (HL2.out _ B0.out).mono ?_
    rintro e w1 ⟨rfl, hb⟩
    have B1 := hide (B0.out.trans (hb.mono B0.out.size))
    clear hb
    go_wp2_with fail
    go_ret
    exact ⟨_, rfl, ⟨fun h => (by cases h), fun h => (by injection h; exact absurd ‹L = L2› eL)⟩, B1.out⟩
  replace eL := Decidable.not_not.1 eL
  subst eL
  simp only [decide_true] at HL
  have HD : ∀ b, decide (P = P2) = b → (b = true ↔ OpX.mk cd ac as_ qt nm id L P = OpX.mk cd ac as_ qt nm id L P2) := fun b hb => by
    rw [← hb, decide_eq_true_eq]
    exact ⟨fun h => by rw [h], fun h => by injection h⟩
  have HD := hide HD
  obtain ⟨b, hbd⟩ : ∃ b, decide (P = P2) = b := ⟨_, rfl⟩
  simp only [hbd] at HP
  have B0 := hide (two_below w (.cells #[.int .i64 cd, .int .i64 ac, .int .i64 as_, .int .i64 qt, .int .i64 nm, .int .i64 id, l1, p1] 26) (.cells #[.int .i64 cd, .int .i64 ac, .int .i64 as_, .int .i64 qt, .int .i64 nm, .int .i64 id, l2, p2] 26))
  have X0 := hide (two_new w (.cells #[.int .i64 cd, .int .i64 ac, .int .i64 as_, .int .i64 qt, .int .i64 nm, .int .i64 id, l1, p1] 26) (.cells #[.int .i64 cd, .int .i64 ac, .int .i64 as_, .int .i64 qt, .int .i64 nm, .int .i64 id, l2, p2] 26))
  obtain ⟨x0, x1, x2, x3, x4, x5, x6, x7⟩ := eight_cells X0.out.1 rfl
  obtain ⟨y0, y1, y2, y3, y4, y5, y6, y7⟩ := eight_cells X0.out.2 rfl
  go_enter Tryz.func27, Tryz.ntmps27
  go_wp2_with fail
  refine (HL.out _ B0.out).mono ?_
  rintro e w1 ⟨rfl, hb⟩
  have B1 := hide (B0.out.trans (hb.mono B0.out.size))
  have X1 := hide (blk_later X0.out.1 hb)
  have Y1 := hide (blk_later X0.out.2 hb)
  clear hb x0 x1 x2 x3 x4 x5 x6 x7 y0 y1 y2 y3 y4 y5 y6 y7
  obtain ⟨x0, x1, x2, x3, x4, x5, x6, x7⟩ := eight_cells X1.out rfl
  obtain ⟨y0, y1, y2, y3, y4, y5, y6, y7⟩ := eight_cells Y1.out rfl
  go_wp2_with fail
  refine (HP.out _ B1.out).mono ?_
  rintro e w2 ⟨rfl, hb⟩
  have B2 := hide (B1.out.trans (hb.mono B1.out.size))
  clear hb
  go_wp2_with fail
  go_ret
  exact ⟨_, rfl, HD.out b hbd, B2.out⟩
end Go.Proofs.YtdiamlajmcikhaaGreatDoor
