/-
  My own text: the positions of BalanceKnown, laid by some() (printed by mkbn3.py).
-/
import Derived.Test.YtmebomifakmkbaaDoorBN2
import Derived.Test.YtmebomifakmkbaaDoorQRz
namespace Go.Proofs.YtmebomifakmkbaaDoor
open Go.RowKit

theorem Tryd.infoPo : (Tryd.prog.info? 24).map (fun i => (i.zero, i.size, i.bytes)) = some (some (.agg #[.int .i64 0, .slice none 0 0]), 2, 32) := by kernel_rfl
/-- Positions as cells. -/
def pc : List (Int × Value) → List Value
  | [] => []
  | p :: t => .int .i64 p.1 :: p.2 :: pc t
theorem pc_app (a b : List (Int × Value)) : pc (a ++ b) = pc a ++ pc b := by
  induction a with
  | nil => rfl
  | cons p t ih => show _ :: _ :: pc (t ++ b) = _; rw [ih]; rfl
theorem pc_len (a : List (Int × Value)) : (pc a).length = a.length * 2 := by
  induction a with
  | nil => rfl
  | cons p t ih => show (pc t).length + 1 + 1 = (t.length + 1) * 2; rw [ih]; omega
theorem pc_at : ∀ {a : List (Int × Value)} {j : Nat} {p : Int × Value}, a[j]? = some p → (pc a)[j * 2]? = some (.int .i64 p.1) ∧ (pc a)[j * 2 + 1]? = some p.2
  | q :: t, 0, p, h => by simp at h; subst h; exact ⟨rfl, rfl⟩
  | q :: t, j + 1, p, h => by
    have h' : t[j]? = some p := by simpa using h
    have ih := pc_at h'
    constructor
    · rw [show (j + 1) * 2 = j * 2 + 1 + 1 by omega]; exact ih.1
    · rw [show (j + 1) * 2 + 1 = j * 2 + 1 + 1 + 1 by omega]; exact ih.2
/-- The positions so far. -/
structure SPs (w : World) (v4 v2 : Value) (n : Nat) (W : World) : Prop where
  ms : SMk w v4 20 W
  row : ∃ ps : List (Int × Value), W.ownsRow w.heap.size 24 2 v2 n (pc ps) ∧ ps.length = n ∧ ∀ p ∈ ps, p.1 ≤ top ∧ Gd w.heap.size W p.2
theorem SPs.later {w : World} {v4 v2 : Value} {n : Nat} {W W' : World} (h : SPs w v4 v2 n W) (hb : Below W.heap.size W W') : SPs w v4 v2 n W' := by
  obtain ⟨ps, h1, h2, h3⟩ := h.row
  exact ⟨h.ms.later hb, ps, owns_later h1 hb, h2, fun p hp => ⟨(h3 p hp).1, (h3 p hp).2.later hb⟩⟩
theorem SPs.push {w : World} {v4 v2 v2' u : Value} {x : Int} {n : Nat} {W W' : World} {ps : List (Int × Value)} (h : SMk w v4 20 W) (hr : W.ownsRow w.heap.size 24 2 v2 n (pc ps)) (hl : ps.length = n) (hv : ∀ p ∈ ps, p.1 ≤ top ∧ Gd w.heap.size W p.2) (hx : x ≤ top) (hu : Gd w.heap.size W u)
    (hr' : W'.ownsRow w.heap.size 24 2 v2' (n + 1) (pc ps ++ [.int .i64 x, u])) (hg : (W.alloc (.cells #[.int .i64 x, u] 24)).grownBy W' v2.ownBlock) : SPs w v4 v2' (n + 1) W' := by
  have hb : Below W.heap.size W (W.alloc (.cells #[.int .i64 x, u] 24)) := (Below.refl _ _).alloc (Nat.le_refl _) _
  have hki : ∀ g, v2.ownBlock = some g → ∃ c fz, (W.alloc (.cells #[.int .i64 x, u] 24)).heap[g]? = some (.cells c 24 fz) := fun g e => ownsRow_kind (hr.alloc (.cells #[.int .i64 x, u] 24)) g e
  have hty : ∀ g, v2.ownBlock = some g → ∃ c fz t, (W.alloc (.cells #[.int .i64 x, u] 24)).heap[g]? = some (.cells c t fz) ∧ t ≠ 36 := fun g e => by
    obtain ⟨c, fz, h1⟩ := hki g e
    exact ⟨c, fz, _, h1, by decide⟩
  have hlow : Below w.heap.size w W' := (h.low.alloc h.low.size _).grown hg (by have := h.low.size; simp; omega) (fun k hk => (hr.lt k hk).1)
  obtain ⟨vs, g1, g2⟩ := (h.later hb).row
  refine ⟨⟨hlow, ?_, vs, ?_, fun y hy => (g2 y hy).kept hg hty⟩, ps ++ [(x, u)], by rw [pc_app]; exact hr', by simp [hl], fun p hp => ?_⟩
  · have h1 := blk_later h.av hb
    refine (hg.block _ (blk_lt h1) (fun e => ?_)).trans h1
    obtain ⟨c, fz, h2⟩ := hki _ e.symm
    rw [h1] at h2
    injection h2 with h2
    injection h2 with _ h2 _
    exact absurd h2 (by decide)
  · refine World.ownsRow.kept g1 hg ?_
    rcases e : v4.ownBlock with _ | b
    · exact .inl rfl
    · refine .inr fun e2 => ?_
      obtain ⟨c, fz, h1⟩ := hki b e2.symm
      obtain ⟨c2, fz2, h3⟩ := ownsRow_kind g1 b e
      rw [h1] at h3
      injection h3 with h3
      injection h3 with _ h4 _
      exact absurd h4 (by decide)
  · rcases List.mem_append.1 hp with hp | hp
    · exact ⟨(hv p hp).1, ((hv p hp).2.later hb).kept hg hty⟩
    · obtain rfl := List.mem_singleton.1 hp
      exact ⟨hx, (hu.later hb).kept hg hty⟩
theorem Gd.base {B C : Nat} {W : World} {u : Value} (h : Gd B W u) (hc : C ≤ B) : Gd C W u := by
  obtain ⟨L, h1, h2, h3⟩ := h
  exact ⟨L, OM.base h1 (fun g hg => Nat.le_trans hc (World.ownsRow.lt h1 g hg).1), h2, h3⟩
theorem op_append_gen {P : Program} {o : Oper} {a : Act} {K : Act → World → Prop} {Q : Exit → Act → World → Prop} {w : World} {t : TypeId} (s x : Operand) (ho : o.op = .call { callee := .builtin .append, args := #[s, x], argTypes := #[t, t] }) (v : Value) (b : Addr) (m c : Nat) (hs : a.eval s = v) (hx : a.eval x = .slice (some b) m c)
    (v' : Value) (w' : World) (hr : (Builtin.append_ #[t, t] o.type #[v, .slice (some b) m c]).run P w = .ok v' w') (h : K (a.put o.dst v') w') : o.wp P a w K Q := by
  unfold Oper.wp execOp
  simp only [ho, resolve, invoke, builtin, Sem.run_bind, Sem.run_pure, Result.andThen_ok, List.map_toArray, List.map_cons, List.map_nil, hs, hx, hr]
  exact h
theorem mem_at {α : Type} {l : List α} {k : Nat} (h : k < l.length) : ∃ u, l[k]? = some u ∧ u ∈ l := ⟨l[k], List.getElem?_eq_getElem h, List.getElem_mem h⟩
set_option maxRecDepth 100000 in
set_option maxHeartbeats 8000000 in
theorem some_any (w : World) :
    Calls Tryd.prog 49 #[] w fun e w' => ∃ v ps, e = .returned v ∧ w'.ownsRow w.heap.size 24 2 v 160 (pc ps) ∧ ps.length = 160 ∧ (∀ p ∈ ps, p.1 ≤ top ∧ Gd w.heap.size w' p.2) ∧ Below w.heap.size w w' := by
  obtain ⟨i0, hi, hz0, hz1, hz2⟩ := info_parts Tryd.infoMk
  obtain ⟨i2, hi2, hza2, hzb2, hzc2⟩ := info_parts Tryd.infoMS
  obtain ⟨i3, hi3, hza3, hzb3, hzc3⟩ := info_parts Tryd.infoPo
  have HS0 := hide (some_lit w)
  go_enter Tryd.func49, Tryd.ntmps49
  go_wp2_with fail
  generalize (((((((((((((w.alloc (.cells #[.int .i64 (-9223372036854775808), .int .i64 (-1), .int .i64 0, .int .i64 1, .int .i64 2, .int .i64 9223372036854775804, .int .i64 9223372036854775806, .int .i64 9223372036854775807] 2)).alloc (.cells #[.int .i64 7, .int .i64 3] 36)).alloc (.cells #[.int .i64 1, .int .i64 1, .int .i64 65536, .int .i64 1] 36)).alloc (.cells #[.int .i64 0, .int .i64 1] 36)).alloc (.cells #[.int .i64 65537, .int .i64 1] 36)).alloc (.cells #[.int .i64 7, .int .i64 0] 36)).alloc (.cells #[.int .i64 7, .int .i64 (-1)] 36)).alloc (.cells #[.int .i64 7, .int .i64 1, .int .i64 7, .int .i64 1] 36)).alloc (.cells #[.int .i64 7, .int .i64 1, .int .i64 6, .int .i64 9223372036854775807] 36)).alloc (.cells #[.int .i64 7, .int .i64 9223372036854775807] 36)).alloc (.cells #[.int .i64 7, .int .i64 9223372036854775806, .int .i64 8, .int .i64 1] 36)).alloc (.cells #[.int .i64 (-3), .int .i64 1] 36)).alloc (.cells #[.slice none 0 0, .slice (some ⟨w.heap.size + 1, 0, none⟩) 1 1, .slice (some ⟨w.heap.size + 1 + 1, 0, none⟩) 2 2, .slice (some ⟨w.heap.size + 1 + 1 + 1, 0, none⟩) 1 1, .slice (some ⟨w.heap.size + 1 + 1 + 1 + 1, 0, none⟩) 1 1, .slice (some ⟨w.heap.size + 1 + 1 + 1 + 1 + 1, 0, none⟩) 1 1, .slice (some ⟨w.heap.size + 1 + 1 + 1 + 1 + 1 + 1, 0, none⟩) 1 1, .slice (some ⟨w.heap.size + 1 + 1 + 1 + 1 + 1 + 1 + 1, 0, none⟩) 2 2, .slice (some ⟨w.heap.size + 1 + 1 + 1 + 1 + 1 + 1 + 1 + 1, 0, none⟩) 2 2, .slice (some ⟨w.heap.size + 1 + 1 + 1 + 1 + 1 + 1 + 1 + 1 + 1, 0, none⟩) 1 1, .slice (some ⟨w.heap.size + 1 + 1 + 1 + 1 + 1 + 1 + 1 + 1 + 1 + 1, 0, none⟩) 2 2, .slice (some ⟨w.heap.size + 1 + 1 + 1 + 1 + 1 + 1 + 1 + 1 + 1 + 1 + 1, 0, none⟩) 1 1] 22)) = W0 at *
  go_loopw [4, 5] (fun v4 i wr => ∃ m : Nat, 7 ≤ m ∧ m ≤ 11 ∧ i = .int .i64 (m : Int) ∧ Hid (SMk w v4 (m * 2 - 2) wr)) (fun _ i _ => 11 - (intOf i).toNat)
  case atStart => exact ⟨7, by omega, by omega, rfl, HS0⟩
  case round =>
    clear HS0
    obtain ⟨m, hm7, hm11, rfl, HS⟩ := hrel
    obtain ⟨w1, hw1⟩ : ∃ x, x = wr := ⟨_, rfl⟩
    subst hw1
    by_cases hlt : m < 11
    · have hd : decide ((m : Int) < 11) = true := by rw [decide_eq_true_eq]; omega
      go_wp2_with fail
      go_loopw [6, 7] (fun o i wr => ∃ k : Nat, k ≤ m ∧ i = .int .i64 (k : Int) ∧ Hid (wr.ownsRow w1.heap.size 36 2 o k (mc (upM k))) ∧ Hid (Below w1.heap.size w1 wr)) (fun _ i _ => m - (intOf i).toNat)
      case atStart => exact ⟨0, Nat.zero_le _, rfl, hide (World.ownsRow_nil w1 w1.heap.size 36 2), hide (Below.refl _ _)⟩
      case round =>
        obtain ⟨k, hk, rfl, HO, HB⟩ := hrel
        obtain ⟨w2, hw2⟩ : ∃ x, x = wr := ⟨_, rfl⟩
        subst hw2
        by_cases hlt2 : k < m
        · have hd2 : decide ((k : Int) < (m : Int)) = true := by rw [decide_eq_true_eq]; omega
          have hown := HO.out
          have HT : Hid (mc (upM (k + 1)) = mc (upM k) ++ [.int .i64 ((k : Int) + 1), .int .i64 2]) := hide (by rw [upM_succ, mc_app]; rfl)
          go_wp2_with (first
            | (at_builtin; refine wpList_append_own_wide _ rfl _ _ 22 rfl w1.heap.size 36 i0 (.agg #[.int .i64 0, .int .i64 0]) 2 16 Tryd.underlying22 hi hz0 hz1 hz2 rfl (by decide) _ _ _ rfl (hown.alloc _) ⟨_, 0, none⟩ 1 1 [.int .i64 ((k : Int) + 1), .int .i64 2] rfl rfl ?c1 ?c2 ?c3 ?c4 ?c5 ?_)
            | go_in)
          case c1 =>
            intro j u hj
            match j, hj with
            | 0, hj => simp at hj; subst hj; simp [Addr.add]
            | 1, hj => simp at hj; subst hj; simp [Addr.add]
          case c2 => intro u hu; simp at hu; rcases hu with rfl | rfl <;> rfl
          case c3 => unfold maxLen; omega
          case c4 => omega
          case c5 => have := HB.out.size; simp; omega
          intro v' w3 hown' hgrow _
          have HB3 := hide ((HB.out.alloc HB.out.size _).grown hgrow (by have := HB.out.size; simp; omega) (fun k hk => (hown.lt k hk).1))
          have HO3 : Hid (w3.ownsRow w1.heap.size 36 2 v' (k + 1) (mc (upM (k + 1)))) := hide (by rw [HT.out]; exact hown')
          clear hown hgrow hown' HO HB
          go_wp2_with fail
          go_roundw
          case rel => exact ⟨k + 1, by omega, by go_num, HO3, HB3⟩
          case measure => simp [intOf]; omega
        · have hk' : k = m := by omega
          subst hk'
          have HS2 := hide (HS.out.later HB.out)
          have HOM : Hid (OM w2 w1.heap.size u6 (upM k)) := hide (by unfold OM; rw [upM_len]; exact HO.out)
          obtain ⟨ao, co, hvo⟩ : ∃ a c, u6 = .slice a k c := by
            obtain ⟨a, c, e⟩ := OM.slice HOM.out
            rw [upM_len] at e
            exact ⟨a, c, e⟩
          subst hvo
          have HOW : Hid (OM w2 w.heap.size (.slice ao k co) (upM k)) := hide (OM.base HOM.out (fun g hg => Nat.le_trans HS.out.low.size (World.ownsRow.lt HOM.out g hg).1))
          have HGO : Hid (Gd w.heap.size w2 (.slice ao k co)) := hide ⟨upM k, HOW.out, upM_ok (by omega), by rw [upM_len]; omega⟩
          obtain ⟨vs, hrow, hgd⟩ := HS2.out.row
          have HGD := hide hgd
          have HRW := hide hrow
          have hsz := HS2.out.low.size
          clear HO HB HOM hgd
          go_wp2_with (first
            | (at_builtin; refine wpList_append_own _ rfl _ _ 46 rfl w.heap.size 22 i2 (.slice none 0 0) 1 24 Tryd.underlying46 hi2 hza2 hzb2 hzc2 rfl (by decide) _ _ _ rfl (hrow.alloc _) ⟨_, 0, none⟩ 1 1 [.slice ao k co] rfl rfl ?e1 ?e2 ?e3 ?e4 ?e5 ?_)
            | go_in)
          case e1 =>
            intro j u hj
            match j, hj with
            | 0, hj => simp at hj; subst hj; simp [Addr.add]
          case e2 => intro u hu; simp at hu; subst hu; rfl
          case e3 => unfold maxLen; omega
          case e4 => omega
          case e5 => simp; omega
          intro v5 w5 hO5 hg5 _
          obtain ⟨hs5, hgd5, hom5⟩ := HS2.out.push HRW.out HGD.out HGO.out hO5 hg5
          have HS5 := hide hs5
          have HCP := hide (copyM_any (.slice ao k co) (upM k) w5 (OM.rm (hom5 _ HOW.out)) (by rw [upM_len]; omega))
          clear hs5 hgd5 hom5 hO5 hg5 hrow HRW HGD HGO HOW HS2 hsz
          go_wp2_with fail
          refine HCP.out.mono ?_
          rintro e w6 ⟨vf, rfl, hof, hb6⟩
          have hofl := hof
          unfold OM at hofl
          rw [upM_len] at hofl
          obtain ⟨gf, cf, hvf, hgf1, hgf2⟩ := World.ownsRow.form hofl (by omega)
          subst hvf
          have HS6 := hide (HS5.out.later hb6)
          have HF6 := hide hof
          have HB6 := hide hb6
          have HG1 := hide hgf1
          have HP : Hid (∀ kk j, k = kk + 1 → j = kk * 2 → ∃ y : Int, w6.cell? ⟨gf, j, none⟩ = some (.int .i64 y) ∧ w6.frozen? ⟨gf, j, none⟩ = false ∧ Gd w.heap.size (w6.setCell ⟨gf, j, none⟩ (.int .i64 65536)) (.slice (some ⟨gf, 0, none⟩) k cf) ∧ SMk w v5 (k * 2 - 2 + 1) (w6.setCell ⟨gf, j, none⟩ (.int .i64 65536))) := hide (fun kk j h1 h2 => by
            subst h1 h2
            have hx : (upM (kk + 1))[kk]? = some ((kk : Int) + 1, 2) := by unfold upM; rw [List.getElem?_map, List.getElem?_range (by omega)]; rfl
            obtain ⟨f0, _⟩ := mc_at hx
            exact ⟨_, (hofl.cellAt (kk * 2) (by omega)).trans f0, om_froz hofl (kk * 2), (far_end (m := kk) (by omega) hof _ rfl).base (by have := HS5.out.low.size; omega), HS5.out.later (hb6.setCell (p := ⟨gf, kk * 2, none⟩) hgf1 _)⟩)
          have hsz6 : w.heap.size ≤ w6.heap.size := Nat.le_trans HS5.out.low.size hb6.size
          clear hof hofl hb6 hgf1 hgf2 HCP HS5 HS6 HF6 HB6 HG1 HS
          rcases (by omega : k = 7 ∨ k = 8 ∨ k = 9 ∨ k = 10) with rfl | rfl | rfl | rfl
          · obtain ⟨y, c0, z0, hgf, hsf⟩ := HP.out 6 12 rfl rfl
            have HSF := hide hsf
            have HGF := hide hgf
            obtain ⟨vs, hrow, hgd⟩ := hsf.row
            have HGD := hide hgd
            have HRW := hide hrow
            clear hsf hgf hgd HP
            go_wp2_with (first
              | (at_builtin; refine wpList_append_own _ rfl _ _ 46 rfl w.heap.size 22 i2 (.slice none 0 0) 1 24 Tryd.underlying46 hi2 hza2 hzb2 hzc2 rfl (by decide) _ _ _ rfl (hrow.alloc _) ⟨_, 0, none⟩ 1 1 [.slice (some ⟨gf, 0, none⟩) 7 cf] rfl rfl ?e1 ?e2 ?e3 ?e4 ?e5 ?_)
              | go_in)
            case e1 =>
              intro j u hj
              match j, hj with
              | 0, hj =>
                simp at hj
                subst hj
                have hN := alloc_new (w6.setCell ⟨gf, 12, none⟩ (.int .i64 65536)) (.cells #[.slice (some ⟨gf, 0, none⟩) 7 cf] 22)
                rw [show (w6.setCell ⟨gf, 12, none⟩ (.int .i64 65536)).heap.size = w6.heap.size by simp] at hN
                simp [Addr.add]
                rw [cell_of_row _ _ 0 _ _ _ hN]
                rfl
            case e2 => intro u hu; simp at hu; subst hu; rfl
            case e3 => unfold maxLen; omega
            case e4 => omega
            case e5 => simp; omega
            intro v7 w7 hO7 hg7 _
            have HS7 := hide (HSF.out.push HRW.out HGD.out HGF.out hO7 hg7).1
            clear hO7 hg7 hrow HRW HGD HGF HSF c0 z0
            go_wp2_with fail
            go_roundw
            case rel => exact ⟨8, by omega, by omega, by go_num, HS7⟩
            case measure => simp [intOf]
          · obtain ⟨y, c0, z0, hgf, hsf⟩ := HP.out 7 14 rfl rfl
            have HSF := hide hsf
            have HGF := hide hgf
            obtain ⟨vs, hrow, hgd⟩ := hsf.row
            have HGD := hide hgd
            have HRW := hide hrow
            clear hsf hgf hgd HP
            go_wp2_with (first
              | (at_builtin; refine wpList_append_own _ rfl _ _ 46 rfl w.heap.size 22 i2 (.slice none 0 0) 1 24 Tryd.underlying46 hi2 hza2 hzb2 hzc2 rfl (by decide) _ _ _ rfl (hrow.alloc _) ⟨_, 0, none⟩ 1 1 [.slice (some ⟨gf, 0, none⟩) 8 cf] rfl rfl ?e1 ?e2 ?e3 ?e4 ?e5 ?_)
              | go_in)
            case e1 =>
              intro j u hj
              match j, hj with
              | 0, hj =>
                simp at hj
                subst hj
                have hN := alloc_new (w6.setCell ⟨gf, 14, none⟩ (.int .i64 65536)) (.cells #[.slice (some ⟨gf, 0, none⟩) 8 cf] 22)
                rw [show (w6.setCell ⟨gf, 14, none⟩ (.int .i64 65536)).heap.size = w6.heap.size by simp] at hN
                simp [Addr.add]
                rw [cell_of_row _ _ 0 _ _ _ hN]
                rfl
            case e2 => intro u hu; simp at hu; subst hu; rfl
            case e3 => unfold maxLen; omega
            case e4 => omega
            case e5 => simp; omega
            intro v7 w7 hO7 hg7 _
            have HS7 := hide (HSF.out.push HRW.out HGD.out HGF.out hO7 hg7).1
            clear hO7 hg7 hrow HRW HGD HGF HSF c0 z0
            go_wp2_with fail
            go_roundw
            case rel => exact ⟨9, by omega, by omega, by go_num, HS7⟩
            case measure => simp [intOf]
          · obtain ⟨y, c0, z0, hgf, hsf⟩ := HP.out 8 16 rfl rfl
            have HSF := hide hsf
            have HGF := hide hgf
            obtain ⟨vs, hrow, hgd⟩ := hsf.row
            have HGD := hide hgd
            have HRW := hide hrow
            clear hsf hgf hgd HP
            go_wp2_with (first
              | (at_builtin; refine wpList_append_own _ rfl _ _ 46 rfl w.heap.size 22 i2 (.slice none 0 0) 1 24 Tryd.underlying46 hi2 hza2 hzb2 hzc2 rfl (by decide) _ _ _ rfl (hrow.alloc _) ⟨_, 0, none⟩ 1 1 [.slice (some ⟨gf, 0, none⟩) 9 cf] rfl rfl ?e1 ?e2 ?e3 ?e4 ?e5 ?_)
              | go_in)
            case e1 =>
              intro j u hj
              match j, hj with
              | 0, hj =>
                simp at hj
                subst hj
                have hN := alloc_new (w6.setCell ⟨gf, 16, none⟩ (.int .i64 65536)) (.cells #[.slice (some ⟨gf, 0, none⟩) 9 cf] 22)
                rw [show (w6.setCell ⟨gf, 16, none⟩ (.int .i64 65536)).heap.size = w6.heap.size by simp] at hN
                simp [Addr.add]
                rw [cell_of_row _ _ 0 _ _ _ hN]
                rfl
            case e2 => intro u hu; simp at hu; subst hu; rfl
            case e3 => unfold maxLen; omega
            case e4 => omega
            case e5 => simp; omega
            intro v7 w7 hO7 hg7 _
            have HS7 := hide (HSF.out.push HRW.out HGD.out HGF.out hO7 hg7).1
            clear hO7 hg7 hrow HRW HGD HGF HSF c0 z0
            go_wp2_with fail
            go_roundw
            case rel => exact ⟨10, by omega, by omega, by go_num, HS7⟩
            case measure => simp [intOf]
          · obtain ⟨y, c0, z0, hgf, hsf⟩ := HP.out 9 18 rfl rfl
            have HSF := hide hsf
            have HGF := hide hgf
            obtain ⟨vs, hrow, hgd⟩ := hsf.row
            have HGD := hide hgd
            have HRW := hide hrow
            clear hsf hgf hgd HP
            go_wp2_with (first
              | (at_builtin; refine wpList_append_own _ rfl _ _ 46 rfl w.heap.size 22 i2 (.slice none 0 0) 1 24 Tryd.underlying46 hi2 hza2 hzb2 hzc2 rfl (by decide) _ _ _ rfl (hrow.alloc _) ⟨_, 0, none⟩ 1 1 [.slice (some ⟨gf, 0, none⟩) 10 cf] rfl rfl ?e1 ?e2 ?e3 ?e4 ?e5 ?_)
              | go_in)
            case e1 =>
              intro j u hj
              match j, hj with
              | 0, hj =>
                simp at hj
                subst hj
                have hN := alloc_new (w6.setCell ⟨gf, 18, none⟩ (.int .i64 65536)) (.cells #[.slice (some ⟨gf, 0, none⟩) 10 cf] 22)
                rw [show (w6.setCell ⟨gf, 18, none⟩ (.int .i64 65536)).heap.size = w6.heap.size by simp] at hN
                simp [Addr.add]
                rw [cell_of_row _ _ 0 _ _ _ hN]
                rfl
            case e2 => intro u hu; simp at hu; subst hu; rfl
            case e3 => unfold maxLen; omega
            case e4 => omega
            case e5 => simp; omega
            intro v7 w7 hO7 hg7 _
            have HS7 := hide (HSF.out.push HRW.out HGD.out HGF.out hO7 hg7).1
            clear hO7 hg7 hrow HRW HGD HGF HSF c0 z0
            go_wp2_with fail
            go_roundw
            case rel => exact ⟨11, by omega, by omega, by go_num, HS7⟩
            case measure => simp [intOf]
    · have hd : decide ((m : Int) < 11) = false := by rw [decide_eq_false_iff_not]; omega
      have HS20 : Hid (SMk w u4 20 w1) := hide (by rw [show 20 = m * 2 - 2 by omega]; exact HS.out)
      have HSS : Hid (SPs w u4 (.slice none 0 0) 0 w1) := hide ⟨HS20.out, [], World.ownsRow_nil _ _ _ _, rfl, fun p hp => by cases hp⟩
      obtain ⟨vs0, hr0, hr00⟩ := HS20.out.row
      obtain ⟨q4, c4, hv4, _, hql⟩ := World.ownsRow.form hr0 (by omega)
      subst hv4
      clear hr0 hr00 HS HS20 hql hm7 hm11 hlt
      go_wp2_with fail
      go_loopw [2, 9] (fun v2 i wr => ∃ k : Nat, k ≤ 8 ∧ i = .int .i64 (k : Int) ∧ Hid (SPs w (.slice (some ⟨q4, 0, none⟩) 20 c4) v2 (20 * k) wr)) (fun _ i _ => 8 - (intOf i).toNat)
      case atStart => exact ⟨0, by omega, rfl, HSS⟩
      case round =>
        clear HSS
        obtain ⟨i, hi8, rfl, HSS⟩ := hrel
        by_cases hlti : i < 8
        · have hdi : decide ((i : Int) < 8) = true := by rw [decide_eq_true_eq]; omega
          go_wp2_with fail
          go_loopw [2, 10] (fun v2 j wr => ∃ k : Nat, k ≤ 20 ∧ j = .int .i64 (k : Int) ∧ Hid (SPs w (.slice (some ⟨q4, 0, none⟩) 20 c4) v2 (20 * i + k) wr)) (fun _ i _ => 20 - (intOf i).toNat)
          case atStart => exact ⟨0, by omega, rfl, HSS⟩
          case round =>
            clear HSS
            obtain ⟨k, hk20, rfl, HSS⟩ := hrel
            by_cases hltk : k < 20
            · have hdk : decide ((k : Int) < 20) = true := by rw [decide_eq_true_eq]; omega
              obtain ⟨x, hx, hcx⟩ := av_at HSS.out.ms.av hlti
              obtain ⟨vs, hrv, hgv⟩ := HSS.out.ms.row
              obtain ⟨u, huk, hum⟩ := mem_at (l := vs) (k := k) (by have := hrv.1; omega)
              obtain ⟨au, nu, cu, hu⟩ := (hgv u hum).slice
              subst hu
              have hcu := (hrv.cellAt k (by omega)).trans huk
              have HX := hide hx
              have HCX := hide hcx
              have HCU := hide hcu
              have HGU := hide (hgv _ hum)
              have k0 : (0 : Int) ≤ (i : Int) := by omega
              have k1 : (i : Int) < 8 := by omega
              have k2 : (0 : Int) ≤ (k : Int) := by omega
              have k3 : (k : Int) < 20 := by omega
              clear hx hcx hcu hrv hgv huk hum
              go_wp2_with fail
              refine z_begins (S := fun W => W.cell? ⟨w.heap.size, i, none⟩ = some (.int .i64 x) ∧ W.cell? ⟨q4, k, none⟩ = some (.slice au nu cu)) 12 13 #[false, false, false, false, false, false, false, false, false, false, false, false, false] (by kernel_rfl) (by kernel_rfl) (by kernel_rfl) ?hS0 (fun hHeld => ?_)
              case hS0 => exact ⟨HCX.out, HCU.out⟩
              refine zk (v := ?_) 0 90 #[true, false, false, false, false, false, false, false, false, false, false, false, false] rfl rfl (by kernel_rfl) (by kernel_rfl) (by kernel_rfl) (by kernel_rfl) (fun _ _ _ h => h) (by kernel_rfl) (by rfl) ?hy hHeld ?_
              case hy => rintro W ⟨e1, e2⟩; first | (go_simp; done) | (go_simp; with_reducible rfl)
              simp only [List.setIfInBounds_toArray, List.set_cons_zero, List.set_cons_succ]
              refine zk (v := ?_) 1 91 #[true, true, false, false, false, false, false, false, false, false, false, false, false] rfl rfl (by kernel_rfl) (by kernel_rfl) (by kernel_rfl) (by kernel_rfl) (fun _ _ _ h => h) (by kernel_rfl) (by rfl) ?hy hHeld ?_
              case hy => rintro W ⟨e1, e2⟩; first | (go_simp; done) | (go_simp; with_reducible rfl)
              simp only [List.setIfInBounds_toArray, List.set_cons_zero, List.set_cons_succ]
              refine zk (v := ?_) 2 92 #[true, true, true, false, false, false, false, false, false, false, false, false, false] rfl rfl (by kernel_rfl) (by kernel_rfl) (by kernel_rfl) (by kernel_rfl) (fun _ _ _ h => h) (by kernel_rfl) (by rfl) ?hy hHeld ?_
              case hy => rintro W ⟨e1, e2⟩; first | (go_simp; done) | (go_simp; with_reducible rfl)
              simp only [List.setIfInBounds_toArray, List.set_cons_zero, List.set_cons_succ]
              refine zk (v := ?_) 3 93 #[true, true, true, true, false, false, false, false, false, false, false, false, false] rfl rfl (by kernel_rfl) (by kernel_rfl) (by kernel_rfl) (by kernel_rfl) (fun _ _ _ h => h) (by kernel_rfl) (by rfl) ?hy hHeld ?_
              case hy => rintro W ⟨e1, e2⟩; first | (go_simp; done) | (go_simp; with_reducible rfl)
              simp only [List.setIfInBounds_toArray, List.set_cons_zero, List.set_cons_succ]
              refine zk (v := ?_) 4 94 #[true, true, true, true, true, false, false, false, false, false, false, false, false] rfl rfl (by kernel_rfl) (by kernel_rfl) (by kernel_rfl) (by kernel_rfl) (fun _ _ _ h => h) (by kernel_rfl) (by rfl) ?hy hHeld ?_
              case hy => rintro W ⟨e1, e2⟩; first | (go_simp; done) | (go_simp; with_reducible rfl)
              simp only [List.setIfInBounds_toArray, List.set_cons_zero, List.set_cons_succ]
              refine zk (v := ?_) 5 95 #[true, true, true, true, true, true, false, false, false, false, false, false, false] rfl rfl (by kernel_rfl) (by kernel_rfl) (by kernel_rfl) (by kernel_rfl) (fun _ _ _ h => h) (by kernel_rfl) (by rfl) ?hy hHeld ?_
              case hy => rintro W ⟨e1, e2⟩; first | (go_simp; done) | (go_simp; with_reducible rfl)
              simp only [List.setIfInBounds_toArray, List.set_cons_zero, List.set_cons_succ]
              refine zk (v := ?_) 6 96 #[true, true, true, true, true, true, true, false, false, false, false, false, false] rfl rfl (by kernel_rfl) (by kernel_rfl) (by kernel_rfl) (by kernel_rfl) (fun _ _ _ h => h) (by kernel_rfl) (by rfl) ?hy hHeld ?_
              case hy => rintro W ⟨e1, e2⟩; first | (go_simp; done) | (go_simp; with_reducible rfl)
              simp only [List.setIfInBounds_toArray, List.set_cons_zero, List.set_cons_succ]
              refine zk (v := ?_) 7 97 #[true, true, true, true, true, true, true, true, false, false, false, false, false] rfl rfl (by kernel_rfl) (by kernel_rfl) (by kernel_rfl) (by kernel_rfl) (fun _ _ _ h => h) (by kernel_rfl) (by rfl) ?hy hHeld ?_
              case hy => rintro W ⟨e1, e2⟩; first | (go_simp; done) | (go_simp; with_reducible rfl)
              simp only [List.setIfInBounds_toArray, List.set_cons_zero, List.set_cons_succ]
              refine zk (v := ?_) 8 98 #[true, true, true, true, true, true, true, true, true, false, false, false, false] rfl rfl (by kernel_rfl) (by kernel_rfl) (by kernel_rfl) (by kernel_rfl) (fun _ _ _ h => h) (by kernel_rfl) (by rfl) ?hy hHeld ?_
              case hy => rintro W ⟨e1, e2⟩; first | (go_simp; done) | (go_simp; with_reducible rfl)
              simp only [List.setIfInBounds_toArray, List.set_cons_zero, List.set_cons_succ]
              refine zk (v := ?_) 9 99 #[true, true, true, true, true, true, true, true, true, true, false, false, false] rfl rfl (by kernel_rfl) (by kernel_rfl) (by kernel_rfl) (by kernel_rfl) (fun _ _ _ h => h) (by kernel_rfl) (by rfl) ?hy hHeld ?_
              case hy => rintro W ⟨e1, e2⟩; first | (go_simp; done) | (go_simp; with_reducible rfl)
              simp only [List.setIfInBounds_toArray, List.set_cons_zero, List.set_cons_succ]
              have HS8 : Hid (SPs w (.slice (some ⟨q4, 0, none⟩) 20 c4) u2 (20 * i + k) wr.drew) := hide (HSS.out.later drew_below)
              have HG8 : Hid (Gd w.heap.size wr.drew (.slice au nu cu)) := hide (HGU.out.later drew_below)
              obtain ⟨ps, hps, hpl, hpg⟩ := HS8.out.row
              have hsz8 := HS8.out.ms.low.size
              obtain ⟨W3, hW3⟩ : ∃ W3, wr.drew.alloc (.cells #[.int .i64 x, .slice au nu cu] 24) = W3 := ⟨_, rfl⟩
              have b3 : Below wr.drew.heap.size wr.drew W3 := by rw [← hW3]; exact (Below.refl _ _).alloc (Nat.le_refl _) _
              have HO3 := hide (owns_later hps b3)
              have HN3 : Hid (∀ j u, ([.int .i64 x, .slice au nu cu] : List Value)[j]? = some u → W3.cell? ((⟨wr.heap.size, 0, none⟩ : Addr).add j) = some u) := hide (fun j u hj => by
                rw [← hW3, Addr.add_lit, show wr.heap.size = wr.drew.heap.size from rfl, cell_of_row _ wr.drew.heap.size _ _ _ _ (alloc_new wr.drew _)]
                match j, hj with
                | 0, hj => cases hj; rfl
                | 1, hj => cases hj; rfl)
              have HS3 : Hid (W3.cell? ⟨w.heap.size, i, none⟩ = some (.int .i64 x) ∧ W3.cell? ⟨q4, k, none⟩ = some (.slice au nu cu)) := hide ⟨(b3.cell (World.block_lt_of_cell? _ _ HCX.out)).trans HCX.out, (b3.cell (World.block_lt_of_cell? _ _ HCU.out)).trans HCU.out⟩
              refine z_ready 10 #[true, true, true, true, true, true, true, true, true, true, true, false, false] rfl (by kernel_rfl) (by kernel_rfl) (by rfl) (fun K hK => ?_)
              go_simp
              refine hK.out _ _ (fun _ => HS3.out) (fun hHeld => ?_)
              clear hK K
              obtain ⟨v9, w9, hrun, hO9, hg9, _⟩ := run_append_own (P := Tryd.prog) W3 w.heap.size 68 68 24 i3 _ 2 32 Tryd.underlying68 hi3 hza3 hzb3 hzc3 rfl (by decide) u2 (20 * i + k) (pc ps) HO3.out ⟨wr.heap.size, 0, none⟩ 1 1 [.int .i64 x, .slice au nu cu] rfl HN3.out (by intro u hu; simp at hu; rcases hu with rfl | rfl <;> rfl) (by unfold maxLen; omega) (by omega) (by have := b3.size; omega)
              have HS9 := hide (SPs.push HS8.out.ms hps hpl hpg HX.out HG8.out hO9 (by rw [hW3]; exact hg9))
              have HRUN := hide hrun
              refine z_ready 11 #[true, true, true, true, true, true, true, true, true, true, true, true, false] rfl (by kernel_rfl) (by kernel_rfl) (by rfl) (fun K hK => ?_)
              refine op_append_gen _ _ rfl u2 ⟨wr.heap.size, 0, none⟩ 1 1 rfl rfl _ w9 HRUN.out ?_
              simp only [Act.put, List.setIfInBounds_toArray]
              have hne1 : some w.heap.size ≠ u2.ownBlock := fun e => by
                obtain ⟨c5, fz5, h5⟩ := ownsRow_kind HO3.out _ e.symm
                have h6 := blk_later HS8.out.ms.av b3
                rw [h6] at h5
                injection h5 with h5
                injection h5 with _ h5 _
                exact absurd h5 (by decide)
              have hne2 : some q4 ≠ u2.ownBlock := fun e => by
                obtain ⟨c5, fz5, h5⟩ := ownsRow_kind HO3.out _ e.symm
                obtain ⟨vs2, hr2, _⟩ := (HS8.out.ms.later b3).row
                obtain ⟨c6, fz6, h6⟩ := ownsRow_kind hr2 q4 rfl
                rw [h6] at h5
                injection h5 with h5
                injection h5 with _ h5 _
                exact absurd h5 (by decide)
              refine hK.out _ _ (fun _ => ⟨hg9.cell HS3.out.1 hne1, hg9.cell HS3.out.2 hne2⟩) (fun hHeld => ?_)
              clear hK K
              refine z_ready 12 #[true, true, true, true, true, true, true, true, true, true, true, true, true] rfl (by kernel_rfl) (by kernel_rfl) (by rfl) (fun K hK => ?_)
              go_simp
              refine hK.out _ _ (fun h => absurd rfl h) (fun _ => ?_)
              clear hK K
              refine z_done (by kernel_rfl) ?_ _
              clear hO9 hg9 hps HS8 HG8 hsz8 hpl hpg HSS HGU HCX HCU HO3 HN3 HS3 hW3 b3 hrun HRUN hne1 hne2 hHeld
              go_wp2_with fail
              go_roundw
              case rel => exact ⟨k + 1, by omega, by go_num, HS9⟩
              case measure => simp [intOf]; omega
            · have hk' : k = 20 := by omega
              subst hk'
              go_wp2_with fail
              go_roundw
              case rel => exact ⟨i + 1, by omega, by go_num, hide (by rw [show 20 * (i + 1) = 20 * i + 20 by omega]; exact HSS.out)⟩
              case measure => simp [intOf]; omega
        · have hi' : i = 8 := by omega
          subst hi'
          obtain ⟨ps, hps, hpl, hpg⟩ := HSS.out.row
          have HPS := hide hps
          have HPL := hide hpl
          have HPG := hide hpg
          clear hps hpl hpg
          go_wp2_with fail
          go_ret
          exact ⟨_, ps, rfl, HPS.out, HPL.out, HPG.out, HSS.out.ms.low⟩
end Go.Proofs.YtmebomifakmkbaaDoor
