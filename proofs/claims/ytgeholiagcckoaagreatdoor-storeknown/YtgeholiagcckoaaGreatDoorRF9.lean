/-
  My own text: RF8, RF9 in one.
-/
import Derived.Test.YtgeholiagcckoaaGreatDoorRF7
namespace Go.Proofs.YtgeholiagcckoaaGreatDoor
open Go.RowKit

theorem RF.wide {B : Nat} {W : World} {rb : Nat} {sh : Int} {R : List Rw} {D : List (Int × Bool)} {vr vd : Value} {kk : Nat} {H H2 : Nat → Prop} (h : RF B W rb sh R D vr vd kk H) (hs : ∀ x, H x → H2 x) (hl : ∀ x, H2 x → B ≤ x ∧ x < W.heap.size) : RF B W rb sh R D vr vd kk H2 :=
  ⟨h.hdr, h.rows, h.rds, h.ver, h.nd, hs _ h.hb, fun g hg => hs g (h.hr g hg), fun g hg => hs g (h.hd g hg), fun p hp g hg => hs g (h.hv p hp g hg), hl, h.len⟩
theorem RF.moveR {B : Nat} {w w5 : World} {rb : Nat} {sh : Int} {R R' : List Rw} {D : List (Int × Bool)} {vr vd v' : Value} {kk : Nat} {H : Nat → Prop} {q : Rw} (h : RF B w rb sh R D vr vd kk H)
    (hdr : w5.heap[rb]? = some (.cells #[.int .i64 sh, v', vd] 92 (0, 0))) (keep : ∀ g, g < w.heap.size → g ≠ rb → vr.ownBlock ≠ some g → w5.heap[g]? = w.heap[g]?)
    (rows : OR w5 B 129 3 v' R'.length (rwc R')) (r3 : ∀ g, v'.ownBlock = some g → vr.ownBlock = some g ∨ w.heap.size ≤ g) (size : w.heap.size ≤ w5.heap.size) (len : R'.length ≤ kk + 1)
    (hR : ∀ p ∈ R', p ∈ R ∨ p = q) (hq : OR w B 180 2 q.2.2 q.2.1.length (vc q.2.1)) (hk : LK q.2.1 (kk + 1)) (hH : ∀ g, q.2.2.ownBlock = some g → H g) (nd : (R'.map (·.1)).Nodup) :
    RF B w5 rb sh R' D v' vd (kk + 1) (hN w w5 H) := by
  have hB := (h.lt rb h.hb).1
  have hrb := (h.lt rb h.hb).2
  have hver : ∀ p ∈ R', OR w B 180 2 p.2.2 p.2.1.length (vc p.2.1) ∧ LK p.2.1 (kk + 1) ∧ ∀ g, p.2.2.ownBlock = some g → H g := fun p hp => by
    rcases hR p hp with hp | rfl
    · exact ⟨(h.ver p hp).1, (h.ver p hp).2.up, h.hv p hp⟩
    · exact ⟨hq, hk, hH⟩
  refine ⟨hdr, rows, h.rds.kept (fun g hg => keep g (h.lt g (h.hd g hg)).2 (fun e => ?_) (or_ne h.rds h.rows (by decide) g hg)), fun p hp => ⟨(hver p hp).1.kept (fun g hg => keep g (h.lt g ((hver p hp).2.2 g hg)).2 (fun e => ?_) (or_ne (hver p hp).1 h.rows (by decide) g hg)), (hver p hp).2.1⟩, nd, Or.inl h.hb, fun g hg => ?_, fun g hg => Or.inl (h.hd g hg), fun p hp g hg => Or.inl ((hver p hp).2.2 g hg), fun x hx => ?_, by have := h.len; omega⟩
  · exact h.rds.row_ne h.hdr (by decide) (by rw [hg, e])
  · exact (hver p hp).1.row_ne h.hdr (by decide) (by rw [hg, e])
  · rcases r3 g hg with q | q
    · exact Or.inl (h.hr g q)
    · exact Or.inr ⟨q, (rows.lt hg).2⟩
  · rcases hx with hx | hx
    · exact ⟨(h.lt x hx).1, Nat.lt_of_lt_of_le (h.lt x hx).2 size⟩
    · exact ⟨by omega, hx.2⟩
/-- A key's versions are laid down. -/
def rset (R : List Rw) (k : Ky) (L : List Ver) (v : Value) : List Rw := match R.findIdx? fun p => decide (p.1 = k) with
  | some i => R.set i (k, L, v)
  | none => R ++ [(k, L, v)]
theorem rat_idx {R : List Rw} {k : Ky} : (rat R k = -1 → R.findIdx? (fun p => decide (p.1 = k)) = none) ∧ ∀ i : Nat, rat R k = (i : Int) → R.findIdx? (fun p => decide (p.1 = k)) = some i := by
  unfold rat
  cases R.findIdx? (fun p => decide (p.1 = k)) with
  | none => exact ⟨fun _ => rfl, fun i h => by simp at h⟩
  | some m => exact ⟨fun h => by simp at h, fun i h => by simp at h; rw [show m = i by omega]⟩
theorem rwc_set : ∀ (R : List Rw) (j : Nat) (p : Rw) (L : List Ver) (v : Value), R[j]? = some p → rwc (R.set j (p.1, L, v)) = (rwc R).set (j * 3 + 2) v
  | q :: r, 0, p, L, v, h => by
    obtain rfl : q = p := Option.some.inj h
    rfl
  | q :: r, j + 1, p, L, v, h => by
    have := rwc_set r j p L v h
    rw [show (j + 1) * 3 + 2 = j * 3 + 2 + 1 + 1 + 1 by omega]
    simp only [List.set_cons_succ, rwc, this]
theorem map_set_same : ∀ (R : List Rw) (j : Nat) (p : Rw) (L : List Ver) (v : Value), R[j]? = some p → (R.set j (p.1, L, v)).map (·.1) = R.map (·.1)
  | q :: r, 0, p, L, v, h => by
    obtain rfl : q = p := Option.some.inj h
    rfl
  | q :: r, j + 1, p, L, v, h => by
    have := map_set_same r j p L v h
    simp only [List.set_cons_succ, List.map_cons, this]
set_option maxRecDepth 100000 in
set_option maxHeartbeats 1000000 in
theorem rSetOld_any (k : Ky) (L : List Ver) (v : Value) (i : Nat) (B rb : Nat) (sh : Int) (R : List Rw) (D : List (Int × Bool)) (vr vd : Value) (kk : Nat) (H : Nat → Prop) (w : World) (h : RF B w rb sh R D vr vd kk H) (hl : kk < 5864062014804)
    (hv : OR w B 180 2 v L.length (vc L)) (hk : LK L (kk + 1)) (hH : ∀ g, v.ownBlock = some g → H g) (hi : rat R k = (i : Int)) :
    Calls Tryz.prog 101 #[.pointer (some ⟨rb, 0, none⟩), .agg #[.int .i64 k.1, .int .i64 k.2], v] w fun e w' => (∃ u, e = .returned u) ∧ RF B w' rb sh (rset R k L v) D vr vd (kk + 1) (hN w w' H) ∧ RFr w w' H (hN w w' H) := by
  have HA := hide (fun (W : World) (hb : Below w.heap.size w W) => rAt_any k B rb sh R D vr vd kk H W (h.later hb) (by omega))
  rw [hi] at HA
  have hf := rat_idx.2 i hi
  have hR : rset R k L v = R.set i (k, L, v) := by unfold rset; rw [hf]
  rw [hR]
  obtain ⟨p, hp, hpk⟩ : ∃ p, R[i]? = some p ∧ p.1 = k := by
    have := List.findIdx?_eq_some_iff_getElem.1 hf
    obtain ⟨q1, q2, _⟩ := this
    exact ⟨R[i], List.getElem?_eq_getElem q1, of_decide_eq_true q2⟩
  subst hpk
  have hlt := (List.getElem?_eq_some_iff.1 hp).1
  have hrl := h.len.1
  have HP := hide hp
  have HH := hide h
  have HV := hide (And.intro hv (And.intro hk hH))
  obtain ⟨va, vcap, rfl⟩ := hv.slc
  obtain ⟨⟨k1, k2⟩, L0, v0⟩ := p
  dsimp only at HA hR ⊢
  have i0 : (0 : Int) ≤ (i : Int) := by omega
  have i1 : (i : Int) < (R.length : Int) := by omega
  have d1 : decide ((i : Int) < 0) = false := decide_eq_false (by omega)
  obtain ⟨a, cap, rfl, hc⟩ := h.rows.rowAt
  obtain ⟨g, off, rfl, _, _, q3⟩ := hc i _ hp
  dsimp only at q3
  have HQ := hide q3
  clear h hv hk hH hi hf hR hp hc q3
  go_enter Tryz.func101, Tryz.ntmps101
  go_wp2_with fail
  refine (HA.out _ ((Below.refl _ _).alloc (Nat.le_refl _) _)).mono ?_
  rintro e w2 ⟨rfl, hb⟩
  have B2 := hide (((Below.refl _ _).alloc (Nat.le_refl _) _).trans (hb.mono (by simp)) : Below w.heap.size w w2)
  clear hb HA
  have H2 := hide (HH.out.later B2.out)
  have c0 : w2.cell? ⟨rb, 1, none⟩ = some (.slice (some ⟨g, off, none⟩) R.length cap) := by rw [cell_of_row _ _ 1 _ _ _ H2.out.hdr]; rfl
  have z1 := (B2.out.cell (World.block_lt_of_cell? _ _ HQ.out)).trans HQ.out
  obtain ⟨cur, hcur⟩ : ∃ cur, w2.heap[g]? = some (.cells cur 129 (0, 0)) := by
    rcases H2.out.rows.2 with ⟨q, _⟩ | ⟨g', _, _, cur, q, _, hh, _⟩
    · cases q
    · cases q; exact ⟨cur, hh⟩
  have hne : rb ≠ g := ne_type H2.out.hdr hcur (by decide)
  have f1 : w2.frozen? ⟨g, off + i * 3 + 2, none⟩ = false := by unfold World.frozen?; simp [hcur]
  obtain ⟨w5, hw5⟩ : ∃ w5, w2.setCell ⟨g, off + i * 3 + 2, none⟩ (.slice va L.length vcap) = w5 := ⟨_, rfl⟩
  have HE : Hid (RF B w5 rb sh (R.set i ((k1, k2), L, .slice va L.length vcap)) D (.slice (some ⟨g, off, none⟩) R.length cap) vd (kk + 1) (hN w w5 H) ∧ RFr w w5 H (hN w w5 H)) := hide (by
    have hsz : w5.heap.size = w2.heap.size := by rw [← hw5]; simp [World.setCell]
    have hk : ∀ x, x ≠ g → w5.heap[x]? = w2.heap[x]? := fun x hx => by rw [← hw5]; exact Below.heap_setCell _ _ _ x hx
    have hg := H2.out.hr g rfl
    refine ⟨(H2.out.moveR (q := ((k1, k2), L, .slice va L.length vcap)) ((hk rb hne).trans H2.out.hdr) (fun x _ _ hx => hk x (fun e => hx (by rw [e]; rfl))) ?_ (fun x hx => Or.inl hx) (Nat.le_of_eq hsz.symm) (by rw [List.length_set]; omega) (fun p hp => (List.mem_or_eq_of_mem_set hp)) (HV.out.1.later B2.out) HV.out.2.1 HV.out.2.2 ?_).wide (fun x hx => hx.imp id (fun q => ⟨Nat.le_trans B2.out.size q.1, q.2⟩)) (fun x hx => ?_), ⟨?_, ?_, ?_, by rw [hsz]; exact B2.out.size, fun x hx hnx => (hk x (fun e => hnx (e ▸ hg))).trans (B2.out.block x hx), fun x hx => hx.imp id And.left, fun x hx => Or.inl hx⟩⟩
    · rw [rwc_set R i _ L _ HP.out, List.length_set, ← hw5]
      have := OR.setAt (u := .slice va L.length vcap) H2.out.rows (i := i * 3 + 2) (by rw [rwc_len]; omega)
      rw [← Nat.add_assoc] at this
      exact this
    · rw [map_set_same R i _ L _ HP.out]; exact H2.out.nd
    · have hB := (HH.out.lt rb HH.out.hb)
      have := B2.out.size
      rcases hx with hx | hx
      · have := HH.out.lt x hx; exact ⟨this.1, by omega⟩
      · exact ⟨by omega, hx.2⟩
    · rw [← hw5]; exact B2.out.os
    · rw [← hw5]; exact B2.out.tape
    · rw [← hw5]; exact B2.out.output)
  clear hcur hne
  go_wp2_with fail
  go_end0
  exact ⟨⟨_, rfl⟩, HE.out⟩
end Go.Proofs.YtgeholiagcckoaaGreatDoor
namespace Go.Proofs.YtgeholiagcckoaaGreatDoor
open Go.RowKit

theorem Tryz.infoRow : (Tryz.prog.info? 129).map (fun i => (i.zero, i.size, i.bytes)) = some (some (.agg #[.int .i64 0, .int .i64 0, .slice none 0 0]), 3, 40) := by kernel_rfl
theorem setN_end {B : Nat} {w w2 W3 w4 : World} {rb : Nat} {sh : Int} {k : Ky} {L : List Ver} {v : Value} {R : List Rw} {D : List (Int × Bool)} {vr vd v' : Value} {kk : Nat} {H : Nat → Prop} (h0 : RF B w rb sh R D vr vd kk H)
    (hv : OR w B 180 2 v L.length (vc L)) (hk : LK L (kk + 1)) (hH : ∀ g, v.ownBlock = some g → H g) (hn : ∀ p ∈ R, p.1 ≠ k)
    (hb : Below w.heap.size w w2) (hA : Below w2.heap.size w2 W3) (r1 : OR w4 B 129 3 v' (R.length + 1) (rwc R ++ [.int .i64 k.1, .int .i64 k.2, v])) (r2 : W3.grownBy w4 vr.ownBlock) (r3 : ∀ g, v'.ownBlock = some g → vr.ownBlock = some g ∨ W3.heap.size ≤ g) :
    w4.heap[rb]? = some (.cells #[.int .i64 sh, vr, vd] 92 (0, 0)) ∧ RF B (w4.setCell ⟨rb, 1, none⟩ v') rb sh (R ++ [(k, L, v)]) D v' vd (kk + 1) (hN w (w4.setCell ⟨rb, 1, none⟩ v') H) ∧ RFr w (w4.setCell ⟨rb, 1, none⟩ v') H (hN w (w4.setCell ⟨rb, 1, none⟩ v') H) := by
  have h := h0.later hb
  have hrb := (h.lt rb h.hb).2
  have h4 : w4.heap[rb]? = some (.cells #[.int .i64 sh, vr, vd] 92 (0, 0)) := (r2.block rb (Nat.lt_of_lt_of_le hrb hA.size) (fun e => h.rows.row_ne h.hdr (by decide) e.symm)).trans ((hA.block rb hrb).trans h.hdr)
  have h5 := setCell_eq_setRow w4 rb 1 _ _ _ v' h4
  have h6 : (w4.setCell ⟨rb, 1, none⟩ v').heap[rb]? = some (.cells #[.int .i64 sh, v', vd] 92 (0, 0)) := by rw [h5]; exact setRow_heap w4 rb _ _ _ _ h4
  have hn' : v'.ownBlock ≠ some rb := r1.row_ne h4 (by decide)
  have hsz : (w4.setCell ⟨rb, 1, none⟩ v').heap.size = w4.heap.size := by simp [World.setCell]
  have hkeep : ∀ g, g < w2.heap.size → g ≠ rb → vr.ownBlock ≠ some g → (w4.setCell ⟨rb, 1, none⟩ v').heap[g]? = w2.heap[g]? := fun g hg hne hrow => by
    rw [Below.heap_setCell _ _ _ g hne, r2.block g (Nat.lt_of_lt_of_le hg hA.size) (fun e => hrow e.symm)]
    exact hA.block g hg
  have hsize : w2.heap.size ≤ (w4.setCell ⟨rb, 1, none⟩ v').heap.size := by rw [hsz]; exact Nat.le_trans hA.size r2.size
  have hB := (h0.lt rb h0.hb)
  refine ⟨h4, (h.moveR (q := (k, L, v)) h6 hkeep ?_ (fun g hg => (r3 g hg).imp id (fun q => Nat.le_trans hA.size q)) hsize (by rw [List.length_append]; have := h.len.1; simp; omega) (fun p hp => by simpa using hp) (hv.later hb) hk hH ?_).wide (fun x hx => hx.imp id (fun q => ⟨Nat.le_trans hb.size q.1, q.2⟩)) (fun x hx => ?_), ⟨(r2.os.trans hA.os).trans hb.os, (r2.tape.trans hA.tape).trans hb.tape, (r2.output.trans hA.output).trans hb.output, Nat.le_trans hb.size hsize, fun x hx hnx => (hkeep x (Nat.lt_of_lt_of_le hx hb.size) (fun e => hnx (e ▸ h.hb)) (fun e => hnx (h.hr x e))).trans (hb.block x hx), fun x hx => hx.imp id And.left, fun x hx => Or.inl hx⟩⟩
  · rw [rwc_app, List.length_append]
    exact r1.kept (fun g hg => Below.heap_setCell _ _ _ g (fun e => hn' (by have e' : g = rb := e; rw [← e']; exact hg)))
  · rw [List.map_append, List.nodup_append]
    refine ⟨h.nd, by simp, ?_⟩
    intro a ha b hb' e
    obtain ⟨p, hp, rfl⟩ := List.mem_map.1 ha
    simp at hb'
    exact hn p hp (e.trans hb')
  · rcases hx with hx | hx
    · have := h0.lt x hx; have := hb.size; exact ⟨by omega, by omega⟩
    · exact ⟨by omega, hx.2⟩
end Go.Proofs.YtgeholiagcckoaaGreatDoor
