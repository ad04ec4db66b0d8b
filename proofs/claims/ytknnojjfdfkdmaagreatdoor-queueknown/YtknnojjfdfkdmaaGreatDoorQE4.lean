/-
  My own text: layer 19: QueueScript: step (printed by mkqe4.py).
-/
import Derived.Test.YtknnojjfdfkdmaaGreatDoorQE3
import Derived.Test.YtknnojjfdfkdmaaGreatDoorQK2
namespace Go.Proofs.YtknnojjfdfkdmaaGreatDoor
open Go.RowKit Go.Extern Go.MapKept Go.ChangeMaps

theorem four_cellsQ {w : World} {a b c d : Value} {t : TypeId} {g : Nat} (h : w.heap[g]? = some (.cells #[a, b, c, d] t (0, 0))) : w.cell? ⟨g, 0, none⟩ = some a ∧ w.cell? ⟨g, 1, none⟩ = some b ∧ w.cell? ⟨g, 2, none⟩ = some c ∧ w.cell? ⟨g, 3, none⟩ = some d :=
  ⟨by rw [cell_of_row _ _ 0 _ _ _ h]; rfl, by rw [cell_of_row _ _ 1 _ _ _ h]; rfl, by rw [cell_of_row _ _ 2 _ _ _ h]; rfl, by rw [cell_of_row _ _ 3 _ _ _ h]; rfl⟩
/-- Keys that are being written over. -/
def WCp (B g cap n : Nat) : Cp := ⟨fun y => y = g, fun w => ∃ M : List Ky, M.length = n ∧ w.ownsRow B 23 2 (.slice (some ⟨g, 0, none⟩) n cap) n (KY.mc M)⟩
theorem WCp.ok (B g cap n : Nat) : (WCp B g cap n).Ok := ⟨fun _ _ h _ hk => by
  obtain ⟨M, hM, h⟩ := h
  exact ⟨M, hM, owns_blk h (fun y hy => by
    have e : g = y := Option.some.inj hy
    rw [← e]; exact hk g rfl)⟩, fun _ h y hy => by
  obtain ⟨M, _, h⟩ := h
  rw [hy]; exact (World.ownsRow.lt h g rfl).2⟩
theorem app_a {base : List Cp} {c d : Cp} : (base ++ [c] ++ [d])[base.length]? = some c := by simp
theorem app_b {base : List Cp} {c d : Cp} : (base ++ [c] ++ [d])[base.length + 1]? = some d := by simp
theorem app_set {base : List Cp} {c d e : Cp} : (base ++ [c] ++ [d]).set (base.length + 1) e = base ++ [c] ++ [e] := by simp
theorem lent_low {w : World} {B C g cap : Nat} {K : List Ky} (h : KY.LentM w B g cap K) (hc : C ≤ B) : KY.LentM w C g cap K := ⟨Nat.le_trans hc h.base, low_row h.own hc⟩
theorem wcp_set {w : World} {B g cap n i : Nat} (h : (WCp B g cap n).P w) (hi : i < n) (a b : Int) : (∃ x y, w.cell? ⟨g, i * 2, none⟩ = some (.int .i64 x) ∧ w.cell? ⟨g, i * 2 + 1, none⟩ = some (.int .i64 y)) ∧ (∀ o, w.frozen? ⟨g, o, none⟩ = false) ∧ (WCp B g cap n).P ((w.setCell ⟨g, i * 2, none⟩ (.int .i64 a)).setCell ⟨g, i * 2 + 1, none⟩ (.int .i64 b)) := by
  obtain ⟨M, hM, h⟩ := h
  obtain ⟨s0, _⟩ := h.stored (i * 2) (.int .i64 a)
  obtain ⟨s1, _⟩ := s0.stored (i * 2 + 1) (.int .i64 b)
  obtain ⟨⟨x, y⟩, hx⟩ : ∃ p, M[i]? = some p := ⟨_, List.getElem?_eq_getElem (by omega)⟩
  have ff := KY.mc_at hx
  refine ⟨⟨x, y, (World.ownsRow.cellAt h (i * 2) (by omega)).trans ff.1, (World.ownsRow.cellAt h (i * 2 + 1) (by omega)).trans ff.2⟩, fun o => World.ownsRow.frozenAt h o, M.set i (a, b), by rw [List.length_set]; exact hM, ?_⟩
  rw [KY.mc_set]; exact s1
theorem full_dn (F : Nat → Prop) (q : Nat) (Z : Qx) (w : World) (h : QM F w q Z) :
    Calls Tryz.prog 24 #[.pointer (some ⟨q, 0, none⟩)] w fun r w' => r = .returned (.bool ((Z.A.length : Int) == Z.room)) ∧ ∃ n, w' = w.drewN n := by
  have q3 := h.cells.2.2.2.1
  have q0 := h.cells.1
  obtain ⟨av, cap, hva⟩ := h.all.slc
  rw [hva] at q3
  generalize Z.room = rm at *
  clear h hva
  go_enter Tryz.func24, Tryz.ntmps24
  go_wp2_with fail
  go_quiet (fail)
  go_wp2_with fail
  go_ret
  exact ⟨rfl, _, rfl⟩
set_option maxRecDepth 100000 in
set_option maxHeartbeats 16000000 in
theorem step_any (w0 w : World) (base : List Cp) (i j : Nat) (O : Nat → Prop) (q : Nat) (Z : Qx) (r : Nat) (room : Int) (vl : Value) (E : List De) (n : Nat) (p : Oq) (kd : Int) (h : SQ w0 w base i j O q Z r room vl E) (hS : SR Z room E n) (hn : n < 2932031007402) (hET : ErrType w0) (hp : OqOk w0 p) (hk : kd = 0 ∨ kd = 1 ∨ kd = 2 ∨ kd = 3 ∨ kd = 4 ∨ kd = 5) :
    Calls Tryz.prog 20 #[.pointer (some ⟨q, 0, none⟩), .pointer (some ⟨r, 0, none⟩), .agg #[.int .i64 p.on, .int .i64 p.kind, .int .i64 p.id, .slice p.ka p.ks.length p.kc], .int .i64 kd] w fun e w' => e = .returned (.bool true) ∧ ∃ O' Z' vl' E', Hid (SQ w0 w' base i j O' q Z' r room vl' E') ∧ Hid (SR Z' room E' (n + 1)) := by
  have HIJ := hide (And.intro h.il h.jl)
  have HS := hide hS
  have HOK := hide h.qs.ok
  have HN := hide hn
  have HET : Hid (∀ W, Below w0.heap.size w0 W → ErrType W) := hide (fun W hb => by unfold ErrType; rw [hb.cell (p := ⟨0, 0, none⟩) hET.lt]; exact hET)
  have HP := hide hp
  have HEL : Hid (E.length ≤ 2932031007402) := hide (by have := hS.nn; have := h.qs.ok.an; have := hS.rel.len; omega)
  obtain ⟨W1, hW1⟩ : ∃ W1, w.alloc (.cells #[.int .i64 p.on, .int .i64 p.kind, .int .i64 p.id, .slice p.ka p.ks.length p.kc] 26) = W1 := ⟨_, rfl⟩
  have h1 : SQ w0 W1 (base ++ [BCp w.heap.size #[.int .i64 p.on, .int .i64 p.kind, .int .i64 p.id, .slice p.ka p.ks.length p.kc] 26]) i j O q Z r room vl E := by
    rw [← hW1]; exact h.add ((Below.refl _ _).alloc (Nat.le_refl _) _) (BCp.ok _ _ _) (alloc_new w _) (fun g hg => by rw [hg]; exact Nat.le_refl _)
  obtain ⟨xb, hxb⟩ : ∃ xb, w.heap.size = xb := ⟨_, rfl⟩
  have H1 := hide h1
  have s := four_cellsQ (h1.at' (m := base.length) (c := BCp w.heap.size #[.int .i64 p.on, .int .i64 p.kind, .int .i64 p.id, .slice p.ka p.ks.length p.kc] 26) (by have := h.il; omega) (by have := h.jl; omega) (by simp))
  obtain ⟨s0, s1, s2, s3⟩ := s
  rw [hxb] at s0 s1 s2 s3
  have HLN := hide (KY.lentMarks_any p.kv p.ks W1 (hp.rm.later h1.bl) hp.kl)
  unfold Oq.kv at HLN
  clear h hS hn hET hp h1
  go_enter Tryz.func20, Tryz.ntmps20
  go_wp2_with fail
  refine HLN.out.mono ?_
  rintro e w2 ⟨g, cap, rfl, hl2, b2⟩
  have H2 : Hid (SQ w0 w2 (base ++ [BCp w.heap.size #[.int .i64 p.on, .int .i64 p.kind, .int .i64 p.id, .slice p.ka p.ks.length p.kc] 26] ++ [LCp w0.heap.size g cap p.ks]) i j O q Z r room vl E) := hide (H1.out.add b2 (LCp.ok _ _ _ _) (lent_low hl2 H1.out.bl.size) (fun y hy => by rw [hy]; exact hl2.base))
  rw [hxb] at H2
  have HM : Hid (base.length ≠ i ∧ base.length ≠ j ∧ base.length + 1 ≠ i ∧ base.length + 1 ≠ j) := hide (by have := HIJ.out; omega)
  have HBX : Hid (∀ (W : World) (O' : Nat → Prop) (Z' : Qx) (vl' : Value) (E' : List De), SQ w0 W (base ++ [BCp xb #[.int .i64 p.on, .int .i64 p.kind, .int .i64 p.id, .slice p.ka p.ks.length p.kc] 26] ++ [LCp w0.heap.size g cap p.ks]) i j O' q Z' r room vl' E' → W.cell? ⟨xb, 2, none⟩ = some (.int .i64 p.id) ∧ W.cell? ⟨xb, 3, none⟩ = some (.slice p.ka p.ks.length p.kc)) := hide (fun W O' Z' vl' E' h => by
    obtain ⟨_, _, a2, a3⟩ := four_cellsQ (h.at' (m := base.length) HM.out.1 HM.out.2.1 app_a)
    exact ⟨a2, a3⟩)
  have HLC : Hid (∀ (W : World) (O' : Nat → Prop) (Z' : Qx) (vl' : Value) (E' : List De), SQ w0 W (base ++ [BCp xb #[.int .i64 p.on, .int .i64 p.kind, .int .i64 p.id, .slice p.ka p.ks.length p.kc] 26] ++ [LCp w0.heap.size g cap p.ks]) i j O' q Z' r room vl' E' → KY.LentM W w0.heap.size g cap p.ks ∧ ¬ O' g) := hide (fun W O' Z' vl' E' h => ⟨h.at' (m := base.length + 1) HM.out.2.2.1 HM.out.2.2.2 app_b, h.notO (m := base.length + 1) HM.out.2.2.1 HM.out.2.2.2 app_b rfl⟩)
  have HKV : Hid (∀ W, Below w0.heap.size w0 W → KY.RM W (.slice p.ka p.ks.length p.kc) p.ks) := hide (fun W hb => HP.out.rm.later hb)
  have HDR : Hid (∀ (W : World) (O' : Nat → Prop) (Z' : Qx) (vl' : Value) (E' : List De), SQ w0 W (base ++ [BCp xb #[.int .i64 p.on, .int .i64 p.kind, .int .i64 p.id, .slice p.ka p.ks.length p.kc] 26] ++ [LCp w0.heap.size g cap p.ks]) i j O' q Z' r room vl' E' → SQ w0 W base i j O' q Z' r room vl' E') := hide (fun W O' Z' vl' E' h => SQ.drop (base := base) (ds := [_, _]) (by rw [List.append_assoc] at h; exact h) HIJ.out.1 HIJ.out.2)
  clear s0 s1 s2 s3 hxb hW1 H1 HLN hl2 b2
  obtain ⟨e2, e3⟩ := HBX.out _ _ _ _ _ H2.out
  rcases hk with rfl | rfl | rfl | rfl | rfl | rfl
  · skip
    as_aux_lemma =>
      obtain ⟨C, V, hpl, hboth⟩ := put_both HS.out HOK.out HN.out HP.out.id HP.out.kl HP.out.kk
      have HPL := hide hpl
      have HC1 := hide (hboth w0 w2 _ i j O q r vl (.slice p.ka p.ks.length p.kc) H2.out (HKV.out _ H2.out.bl))
      clear hpl hboth
      go_wp2_with fail
      refine HC1.out.mono ?_
      rintro e w3 ⟨rfl, vl3, E3, H3, HG⟩
      have HC2 := hide (HG.out w3 _ O (.slice (some ⟨g, 0, none⟩) p.ks.length cap) H3.out (HLC.out _ _ _ _ _ H3.out).1.rm)
      obtain ⟨t2, t3⟩ := HBX.out _ _ _ _ _ H3.out
      clear HC1 HG e2 e3 H2
      go_wp2_with fail
      refine HC2.out.mono ?_
      rintro e w4 ⟨rfl, O4, Z4, H4, HS4⟩
      have HPN := hide (HPL.out w4 (HET.out _ H4.out.bl))
      clear HC2 t2 t3 H3
      go_wp2_with fail
      refine HPN.out.mono ?_
      rintro e w5 ⟨rfl, b5⟩
      have H5 := hide (H4.out.later b5)
      clear b5 HPN H4

      obtain ⟨u2, u3⟩ := HBX.out _ _ _ _ _ H5.out
      have HKP := hide (KY.keptMarks_any (.slice p.ka p.ks.length p.kc) p.ks w0.heap.size g cap w5 (HKV.out _ H5.out.bl) (HLC.out _ _ _ _ _ H5.out).1 HP.out.kl)
      clear HPL
      go_wp2_with fail
      refine HKP.out.mono ?_
      rintro e w8 ⟨rfl, b8⟩
      have H8 := hide (H5.out.later b8)
      have HWC : Hid (SQ w0 w8 (base ++ [BCp xb #[.int .i64 p.on, .int .i64 p.kind, .int .i64 p.id, .slice p.ka p.ks.length p.kc] 26] ++ [WCp w0.heap.size g cap (p.ks.length + 16)]) i j O4 q Z4 r room vl3 E3) := hide (by
        have hl := (HLC.out _ _ _ _ _ H8.out).1
        have h9 := H8.out.other (m := base.length + 1) (c' := WCp w0.heap.size g cap (p.ks.length + 16)) HM.out.2.2.1 HM.out.2.2.2 app_b (FS.below (Below.refl _ _)) (WCp.ok _ _ _ _) ⟨p.ks ++ KY.marksM, by rw [List.length_append, KY.marksM_len], hl.own⟩ (fun y hy => .inl hy)
        rw [app_set] at h9; exact h9)
      have HKL : Hid (p.ks.length ≤ 8796093022000) := hide HP.out.kl
      clear HKP b8 u2 u3 H5 H8
      go_wp2_with fail
      go_loopw [19] (fun k wr => ∃ m : Nat, m ≤ p.ks.length ∧ k = .int .i64 (m : Int) ∧ Hid (SQ w0 wr (base ++ [BCp xb #[.int .i64 p.on, .int .i64 p.kind, .int .i64 p.id, .slice p.ka p.ks.length p.kc] 26] ++ [WCp w0.heap.size g cap (p.ks.length + 16)]) i j O4 q Z4 r room vl3 E3)) (fun k _ => p.ks.length - (intOf k).toNat)
      case atStart => exact ⟨0, Nat.zero_le _, rfl, HWC⟩
      case round =>
        clear HWC
        obtain ⟨m, hm, rfl, HWC⟩ := hrel
        by_cases hlt : m < p.ks.length
        · obtain ⟨hd1, i0, i1, wk⟩ := ix hlt HKL.out
          obtain ⟨⟨x, y, c0, c1⟩, hf, hw⟩ := wcp_set (HWC.out.at' (m := base.length + 1) HM.out.2.2.1 HM.out.2.2.2 app_b) (i := m) (by omega) (-3) (-3)
          have HW2 : Hid (SQ w0 ((wr.setCell ⟨g, m * 2, none⟩ (.int .i64 (-3))).setCell ⟨g, m * 2 + 1, none⟩ (.int .i64 (-3))) (base ++ [BCp xb #[.int .i64 p.on, .int .i64 p.kind, .int .i64 p.id, .slice p.ka p.ks.length p.kc] 26] ++ [WCp w0.heap.size g cap (p.ks.length + 16)]) i j O4 q Z4 r room vl3 E3) := hide (by
            have h9 := HWC.out.other (m := base.length + 1) (c' := WCp w0.heap.size g cap (p.ks.length + 16)) HM.out.2.2.1 HM.out.2.2.2 app_b (show FS (fun y => y = g) wr ((wr.setCell ⟨g, m * 2, none⟩ (.int .i64 (-3))).setCell ⟨g, m * 2 + 1, none⟩ (.int .i64 (-3))) from FS.trans (O := fun y => y = g) (FS.set (O := fun y => y = g) rfl) (FS.set (O := fun y => y = g) rfl)) (WCp.ok _ _ _ _) hw (fun y hy => .inl hy)
            rw [app_set] at h9; exact h9)
          have hf0 := hf (m * 2)
          have hf1 := hf (m * 2 + 1)
          have HLT := hide hlt
          clear hf hw hm HWC hlt
          go_wp2_with fail
          go_roundw
          case rel => exact ⟨m + 1, HLT.out, congrArg (Value.int .i64) wk, HW2⟩
          case measure => first | exact meas_up HLT.out | (rw [wk]; exact meas_up HLT.out)
        · have e : m = p.ks.length := by omega
          subst e
          have HF : Hid (SQ w0 wr base i j O4 q Z4 r room vl3 E3) := hide (SQ.drop (base := base) (ds := [_, _]) (by have h := HWC.out; rw [List.append_assoc] at h; exact h) HIJ.out.1 HIJ.out.2)
          clear HWC
          go_wp2_with fail
          go_ret
          exact ⟨rfl, _, _, _, _, HF, HS4⟩
  · skip
    as_aux_lemma =>
      have HC1 := hide (touch_both HS.out HOK.out HP.out.kl HP.out.kk w0 w2 _ i j O q r vl (.slice p.ka p.ks.length p.kc) H2.out (HKV.out _ H2.out.bl) (fun h0 y hy => rm_ltU HP.out.rm h0 y hy))
      obtain ⟨ct, hct⟩ : ∃ ct : Int, (ctD p.ks E E.length : Int) = ct := ⟨_, rfl⟩
      rw [hct] at HC1
      clear hct
      go_wp2_with fail
      refine HC1.out.mono ?_
      rintro e w3 ⟨rfl, H3, HG⟩
      have HC2 := hide (HG.out w3 _ O (.slice (some ⟨g, 0, none⟩) p.ks.length cap) H3.out (HLC.out _ _ _ _ _ H3.out).1.rm (fun _ y hy => by
        have e : g = y := Option.some.inj hy
        rw [← e]; exact (HLC.out _ _ _ _ _ H3.out).2))
      clear HC1 HG e2 e3 H2
      go_wp2_with fail
      refine HC2.out.mono ?_
      rintro e w4 ⟨rfl, O4, Z4, H4, HS4⟩
      clear HC2 H3

      obtain ⟨u2, u3⟩ := HBX.out _ _ _ _ _ H4.out
      have HKP := hide (KY.keptMarks_any (.slice p.ka p.ks.length p.kc) p.ks w0.heap.size g cap w4 (HKV.out _ H4.out.bl) (HLC.out _ _ _ _ _ H4.out).1 HP.out.kl)
      skip
      go_wp2_with fail
      refine HKP.out.mono ?_
      rintro e w8 ⟨rfl, b8⟩
      have H8 := hide (H4.out.later b8)
      have HWC : Hid (SQ w0 w8 (base ++ [BCp xb #[.int .i64 p.on, .int .i64 p.kind, .int .i64 p.id, .slice p.ka p.ks.length p.kc] 26] ++ [WCp w0.heap.size g cap (p.ks.length + 16)]) i j O4 q Z4 r room vl (E.map (tcD p.ks))) := hide (by
        have hl := (HLC.out _ _ _ _ _ H8.out).1
        have h9 := H8.out.other (m := base.length + 1) (c' := WCp w0.heap.size g cap (p.ks.length + 16)) HM.out.2.2.1 HM.out.2.2.2 app_b (FS.below (Below.refl _ _)) (WCp.ok _ _ _ _) ⟨p.ks ++ KY.marksM, by rw [List.length_append, KY.marksM_len], hl.own⟩ (fun y hy => .inl hy)
        rw [app_set] at h9; exact h9)
      have HKL : Hid (p.ks.length ≤ 8796093022000) := hide HP.out.kl
      clear HKP b8 u2 u3 H4 H8
      go_wp2_with fail
      go_loopw [19] (fun k wr => ∃ m : Nat, m ≤ p.ks.length ∧ k = .int .i64 (m : Int) ∧ Hid (SQ w0 wr (base ++ [BCp xb #[.int .i64 p.on, .int .i64 p.kind, .int .i64 p.id, .slice p.ka p.ks.length p.kc] 26] ++ [WCp w0.heap.size g cap (p.ks.length + 16)]) i j O4 q Z4 r room vl (E.map (tcD p.ks)))) (fun k _ => p.ks.length - (intOf k).toNat)
      case atStart => exact ⟨0, Nat.zero_le _, rfl, HWC⟩
      case round =>
        clear HWC
        obtain ⟨m, hm, rfl, HWC⟩ := hrel
        by_cases hlt : m < p.ks.length
        · obtain ⟨hd1, i0, i1, wk⟩ := ix hlt HKL.out
          obtain ⟨⟨x, y, c0, c1⟩, hf, hw⟩ := wcp_set (HWC.out.at' (m := base.length + 1) HM.out.2.2.1 HM.out.2.2.2 app_b) (i := m) (by omega) (-3) (-3)
          have HW2 : Hid (SQ w0 ((wr.setCell ⟨g, m * 2, none⟩ (.int .i64 (-3))).setCell ⟨g, m * 2 + 1, none⟩ (.int .i64 (-3))) (base ++ [BCp xb #[.int .i64 p.on, .int .i64 p.kind, .int .i64 p.id, .slice p.ka p.ks.length p.kc] 26] ++ [WCp w0.heap.size g cap (p.ks.length + 16)]) i j O4 q Z4 r room vl (E.map (tcD p.ks))) := hide (by
            have h9 := HWC.out.other (m := base.length + 1) (c' := WCp w0.heap.size g cap (p.ks.length + 16)) HM.out.2.2.1 HM.out.2.2.2 app_b (show FS (fun y => y = g) wr ((wr.setCell ⟨g, m * 2, none⟩ (.int .i64 (-3))).setCell ⟨g, m * 2 + 1, none⟩ (.int .i64 (-3))) from FS.trans (O := fun y => y = g) (FS.set (O := fun y => y = g) rfl) (FS.set (O := fun y => y = g) rfl)) (WCp.ok _ _ _ _) hw (fun y hy => .inl hy)
            rw [app_set] at h9; exact h9)
          have hf0 := hf (m * 2)
          have hf1 := hf (m * 2 + 1)
          have HLT := hide hlt
          clear hf hw hm HWC hlt
          go_wp2_with fail
          go_roundw
          case rel => exact ⟨m + 1, HLT.out, congrArg (Value.int .i64) wk, HW2⟩
          case measure => first | exact meas_up HLT.out | (rw [wk]; exact meas_up HLT.out)
        · have e : m = p.ks.length := by omega
          subst e
          have HF : Hid (SQ w0 wr base i j O4 q Z4 r room vl (E.map (tcD p.ks))) := hide (SQ.drop (base := base) (ds := [_, _]) (by have h := HWC.out; rw [List.append_assoc] at h; exact h) HIJ.out.1 HIJ.out.2)
          clear HWC
          go_wp2_with fail
          go_ret
          exact ⟨rfl, _, _, _, _, HF, hide (HS4.out.up (Nat.le_succ n))⟩
  · skip
    as_aux_lemma =>
      obtain ⟨I, b, hboth⟩ := take_both HS.out HOK.out
      have HC1 := hide (hboth w0 w2 _ i j O q r vl H2.out)
      clear hboth e2 e3
      go_wp2_with fail
      refine HC1.out.mono ?_
      rintro e w3 ⟨rfl, E3, H3, HG⟩
      have HC2 := hide (HG.out w3 _ O H3.out)
      clear HC1 HG H2
      go_wp2_with fail
      refine HC2.out.mono ?_
      rintro e w4 ⟨rfl, O4, Z4, H4, HS4⟩
      have HF := hide (HDR.out _ _ _ _ _ H4.out)
      have bb : (b == b) = true := by simp
      have II : (I == I) = true := by simp
      clear HC2 H3 H4
      go_wp2_with fail
      go_ret
      exact ⟨rfl, _, _, _, _, HF, hide (HS4.out.up (Nat.le_succ n))⟩
  · skip
    as_aux_lemma =>
      obtain ⟨b, hboth⟩ := back_both HS.out HOK.out HP.out.id
      have HC1 := hide (hboth w0 w2 _ i j O q r vl H2.out)
      clear hboth
      go_wp2_with fail
      refine HC1.out.mono ?_
      rintro e w3 ⟨rfl, E3, H3, HG⟩
      have HC2 := hide (HG.out w3 _ O H3.out)
      obtain ⟨t2, t3⟩ := HBX.out _ _ _ _ _ H3.out
      clear HC1 HG H2 e2 e3
      go_wp2_with fail
      refine HC2.out.mono ?_
      rintro e w4 ⟨rfl, O4, Z4, H4, HS4⟩
      have HF := hide (HDR.out _ _ _ _ _ H4.out)
      have bb : (b == b) = true := by simp
      clear HC2 H3 H4 t2 t3
      go_wp2_with fail
      go_ret
      exact ⟨rfl, _, _, _, _, HF, hide (HS4.out.up (Nat.le_succ n))⟩
  · skip
    as_aux_lemma =>
      obtain ⟨b, hboth⟩ := remove_both HS.out HOK.out HEL.out HP.out.id
      have HC1 := hide (hboth w0 w2 _ i j O q r vl H2.out)
      clear hboth
      go_wp2_with fail
      refine HC1.out.mono ?_
      rintro e w3 ⟨rfl, vl3, E3, H3, HG⟩
      have HC2 := hide (HG.out w3 _ O H3.out)
      obtain ⟨t2, t3⟩ := HBX.out _ _ _ _ _ H3.out
      clear HC1 HG H2 e2 e3
      go_wp2_with fail
      refine HC2.out.mono ?_
      rintro e w4 ⟨rfl, O4, Z4, H4, HS4⟩
      have HF := hide (HDR.out _ _ _ _ _ H4.out)
      have bb : (b == b) = true := by simp
      clear HC2 H3 H4 t2 t3
      go_wp2_with fail
      go_ret
      exact ⟨rfl, _, _, _, _, HF, hide (HS4.out.up (Nat.le_succ n))⟩
  · skip
    as_aux_lemma =>
      have HF := hide (HDR.out _ _ _ _ _ H2.out)
      have c1 := H2.out.dq.c1
      obtain ⟨va, vc, hva⟩ := H2.out.dq.sl
      subst hva
      have HLN2 : Hid (∀ m, Calls Tryz.prog 23 #[.pointer (some ⟨q, 0, none⟩)] (w2.drewN m) fun e w' => e = .returned (.int .i64 (E.length : Int)) ∧ w' = w2.drewN m) := hide (fun m => by
        have := lenQ_any O q Z (w2.drewN m) (H2.out.qs.later (below_dU (Below.refl _ _) m))
        rw [HS.out.rel.len] at this; exact this)
      obtain ⟨bF, hbF⟩ : ∃ bF, decide ((E.length : Int) ≥ room) = bF := ⟨_, rfl⟩
      have HFQ : Hid (∀ m, Calls Tryz.prog 24 #[.pointer (some ⟨q, 0, none⟩)] (w2.drewN m) fun e w' => e = .returned (.bool bF) ∧ ∃ k, w' = (w2.drewN m).drewN k) := hide (fun m => by
        have h := full_dn _ q Z (w2.drewN m) (H2.out.qs.later (below_dU (Below.refl _ _) m)).qm
        have e : ((Z.A.length : Int) == Z.room) = bF := by
          rw [← hbF]
          have a := HS.out.ar
          have b := HS.out.rel.len
          have c := HS.out.rm
          rw [c]
          by_cases hh : (Z.A.length : Int) = room
          · rw [beq_iff_eq.2 hh]; exact (decide_eq_true (by omega)).symm
          · rw [beq_eq_false_iff_ne.2 hh]; exact (decide_eq_false (by omega)).symm
        rw [e] at h; exact h)
      have HFR : Hid (∀ m, Calls Tryz.prog 25 #[.pointer (some ⟨r, 0, none⟩)] (w2.drewN m) fun e w' => e = .returned (.bool bF) ∧ ∃ k, w' = (w2.drewN m).drewN k) := hide (fun m => by
        have h := rfull_any _ r room _ E (w2.drewN m) (H2.out.later (below_dU (Below.refl _ _) m)).dq
        rw [hbF] at h; exact h)
      obtain ⟨el, hel⟩ : ∃ el : Nat, E.length = el := ⟨_, rfl⟩
      rw [hel] at c1 HLN2
      have ee : ((el : Int) == (el : Int)) = true := by simp
      have bb : (bF == bF) = true := by simp
      clear hbF e2 e3 H2 hel
      go_wp2_with fail
      go_quiet (first | (go_at_call 23; exact Calls.quiet_of_same (HLN2.out _)) | (go_at_call 24; exact Calls.quiet_of (HFQ.out _)) | (go_at_call 25; exact Calls.quiet_of (HFR.out _)))
      have HF3 := hide (HF.out.later (below_dU (Below.refl _ _) nq))
      clear HF c1 HLN2 HFQ HFR
      go_wp2_with fail
      go_ret
      exact ⟨rfl, _, _, _, _, HF3, hide (HS.out.up (Nat.le_succ n))⟩
end Go.Proofs.YtknnojjfdfkdmaaGreatDoor
