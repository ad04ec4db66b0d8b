/-
  My own text: RF11, RF12, RF13, RF14 in one.
-/
import Derived.Test.YtgeholiagcckoaaGreatDoorRF10
namespace Go.Proofs.YtgeholiagcckoaaGreatDoor
open Go.RowKit

theorem rSet_any (k : Ky) (L : List Ver) (v : Value) (B rb : Nat) (sh : Int) (R : List Rw) (D : List (Int × Bool)) (vr vd : Value) (kk : Nat) (H : Nat → Prop) (w : World) (h : RF B w rb sh R D vr vd kk H) (hl : kk < 3518437208882)
    (hv : OR w B 180 2 v L.length (vc L)) (hk : LK L (kk + 1)) (hH : ∀ g, v.ownBlock = some g → H g) :
    Calls Tryz.prog 101 #[.pointer (some ⟨rb, 0, none⟩), .agg #[.int .i64 k.1, .int .i64 k.2], v] w fun e w' => (∃ u, e = .returned u) ∧ ∃ vr', RF B w' rb sh (rset R k L v) D vr' vd (kk + 1) (hN w w' H) ∧ RFr w w' H (hN w w' H) := by
  rcases rat_cases R k with ⟨r1, _, _⟩ | ⟨i, p, _, _, r3, _⟩
  · exact rSetNew_any k L v B rb sh R D vr vd kk H w h hl hv hk hH r1
  · refine (rSetOld_any k L v i B rb sh R D vr vd kk H w h (by omega) hv hk hH r3).mono ?_
    rintro e w' ⟨h1, h2⟩
    exact ⟨h1, _, h2⟩
theorem RF.up {B : Nat} {W : World} {rb : Nat} {sh : Int} {R : List Rw} {D : List (Int × Bool)} {vr vd : Value} {kk : Nat} {H : Nat → Prop} (h : RF B W rb sh R D vr vd kk H) : RF B W rb sh R D vr vd (kk + 1) H :=
  ⟨h.hdr, h.rows, h.rds, fun p hp => ⟨(h.ver p hp).1, (h.ver p hp).2.up⟩, h.nd, h.hb, h.hr, h.hd, h.hv, h.lt, by have := h.len; omega⟩
theorem RFr.below {w w' : World} {H : Nat → Prop} (hb : Below w.heap.size w w') : RFr w w' H (hN w w' H) :=
  ⟨hb.os, hb.tape, hb.output, hb.size, fun x hx _ => hb.block x hx, fun _ hx => hx.imp id And.left, fun _ hx => Or.inl hx⟩
theorem RFr.from {w w2 w' : World} {H : Nat → Prop} (hb : Below w.heap.size w w2) (hf : RFr w2 w' (hN w w2 H) (hN w2 w' (hN w w2 H))) : RFr w w' H (hN w w' H) :=
  ⟨hf.os.trans hb.os, hf.tape.trans hb.tape, hf.output.trans hb.output, Nat.le_trans hb.size hf.size, fun x hx hnx => (hf.block x (Nat.lt_of_lt_of_le hx hb.size) (fun q => q.elim hnx (fun q => by omega))).trans (hb.block x hx), fun x hx => hx.imp id And.left, fun x hx => Or.inl hx⟩
/-- The versions of a key behind set. -/
theorem rgo_set (R : List Rw) (k : Ky) (L : List Ver) (v : Value) : ∀ k', rgo (rset R k L v) k' = if k' = k then L else rgo R k' := by
  induction R with
  | nil =>
    intro k'
    by_cases h : k = k' <;> simp [rset, rgo, h]
    intro e; exact absurd e.symm h
  | cons q r ih =>
    intro k'
    by_cases hq : q.1 = k
    · have e : rset (q :: r) k L v = (k, L, v) :: r := by simp [rset, List.findIdx?_cons, hq]
      rw [e]
      by_cases h : k = k'
      · simp [rgo, h]
      · rw [if_neg (fun q => h q.symm)]; simp [rgo, h, hq]
    · have e : rset (q :: r) k L v = q :: rset r k L v := by
        unfold rset
        rw [List.findIdx?_cons]
        simp only [hq, decide_false]
        cases r.findIdx? (fun p => decide (p.1 = k)) <;> simp
      rw [e]
      have := ih k'
      by_cases h : q.1 = k'
      · rw [if_neg (fun e => hq (h.trans e))]; simp [rgo, h]
      · simpa [rgo, h] using this
end Go.Proofs.YtgeholiagcckoaaGreatDoor
namespace Go.Proofs.YtgeholiagcckoaaGreatDoor
open Go.RowKit

/-- The store behind a call that may lay down a key's versions. -/
abbrev RSet (B : Nat) (w w' : World) (rb : Nat) (sh : Int) (R : List Rw) (D : List (Int × Bool)) (vd : Value) (kk : Nat) (H : Nat → Prop) (k : Ky) (L : List Ver) (ch : Bool) : Prop :=
  ∃ R' vr', RF B w' rb sh R' D vr' vd (kk + 1) (hN w w' H) ∧ RFr w w' H (hN w w' H) ∧ (if ch then ∃ v, R' = rset R k L v else R' = R)
theorem RSet.of {B : Nat} {w w3 w' : World} {rb : Nat} {sh : Int} {R : List Rw} {D : List (Int × Bool)} {vr vd v : Value} {kk : Nat} {H : Nat → Prop} {k : Ky} {L : List Ver} (h : RF B w rb sh R D vr vd kk H) (hb : Below w.heap.size w w3)
    (hs : ∃ vr', RF B w' rb sh (rset R k L v) D vr' vd (kk + 1) (hN w3 w' (hN w w3 H)) ∧ RFr w3 w' (hN w w3 H) (hN w3 w' (hN w w3 H))) : RSet B w w' rb sh R D vd kk H k L true := by
  obtain ⟨vr', h1, h2⟩ := hs
  have hB := h.lt rb h.hb
  have s1 := hb.size
  have s2 := h2.size
  refine ⟨_, vr', h1.wide (fun x hx => ?_) (fun x hx => ?_), RFr.from hb h2, by rw [if_pos rfl]; exact ⟨v, rfl⟩⟩
  · rcases hx with (hx | hx) | hx
    · exact Or.inl hx
    · exact Or.inr ⟨hx.1, by omega⟩
    · exact Or.inr ⟨by omega, hx.2⟩
  · rcases hx with hx | hx
    · have := h.lt x hx; exact ⟨this.1, by omega⟩
    · exact ⟨by omega, hx.2⟩
theorem RSet.no {B : Nat} {w w3 : World} {rb : Nat} {sh : Int} {R : List Rw} {D : List (Int × Bool)} {vr vd : Value} {kk : Nat} {H : Nat → Prop} {k : Ky} {L : List Ver} (h : RF B w rb sh R D vr vd kk H) (hb : Below w.heap.size w w3) : RSet B w w3 rb sh R D vd kk H k L false := by
  have hB := h.lt rb h.hb
  have s1 := hb.size
  refine ⟨R, vr, ((h.later hb).up).wide (fun x hx => Or.inl hx) (fun x hx => ?_), RFr.below hb, by rw [if_neg (by simp)]⟩
  rcases hx with hx | hx
  · have := h.lt x hx; exact ⟨this.1, by omega⟩
  · exact ⟨by omega, hx.2⟩
theorem RF.nw {B : Nat} {w w3 : World} {rb : Nat} {sh : Int} {R : List Rw} {D : List (Int × Bool)} {vr vd : Value} {kk : Nat} {H : Nat → Prop} (h : RF B w rb sh R D vr vd kk H) (hb : Below w.heap.size w w3) : RF B w3 rb sh R D vr vd kk (hN w w3 H) :=
  (h.later hb).wide (fun x hx => Or.inl hx) (fun x hx => by
    have hB := h.lt rb h.hb
    have s1 := hb.size
    rcases hx with hx | hx
    · have := h.lt x hx; exact ⟨this.1, by omega⟩
    · exact ⟨by omega, hx.2⟩)
set_option maxRecDepth 100000 in
set_option maxHeartbeats 1000000 in
theorem rSPut_any (k : Ky) (n : Int) (s : List UInt8) (B rb : Nat) (sh : Int) (R : List Rw) (D : List (Int × Bool)) (vr vd : Value) (kk : Nat) (H : Nat → Prop) (w : World) (h : RF B w rb sh R D vr vd kk H) (hl : kk < 3518437208882) (hn : n ≤ 9223372036854775807) :
    Calls Tryz.prog 71 #[.pointer (some ⟨rb, 0, none⟩), .agg #[.int .i64 k.1, .int .i64 k.2], .int .i64 n, .string ⟨s.toArray⟩] w fun e w' => e = .returned (.int .i64 (ptE n (rgo R k))) ∧ RSet B w w' rb sh R D vd kk H k (ptL n s (rgo R k)) (decide (lastN (rgo R k) < n)) := by
  have HA := hide (fun (W : World) (hb : Below w.heap.size w W) => rRow_any k B rb sh R D vr vd kk H W (h.later hb) (by omega))
  have HL := hide (h.lk k)
  have HPL := hide (ptL_LK (h.lk k) n s hn)
  have HH := hide h
  obtain ⟨k1, k2⟩ := k
  dsimp only at HA ⊢
  obtain ⟨L, hL⟩ : ∃ L, rgo R (k1, k2) = L := ⟨_, rfl⟩
  rw [hL] at HA HL HPL ⊢
  clear h hL
  by_cases hc : lastN L < n
  · have e1 : ptE n L = 0 := by unfold ptE; rw [if_pos hc]
    rw [e1, decide_eq_true hc]
    go_enter Tryz.func71, Tryz.ntmps71
    go_wp2_with fail
    obtain ⟨w1, hw1⟩ : ∃ w1, w.alloc (Obj.cells #[.int .i64 k1, .int .i64 k2] 26) = w1 := ⟨_, rfl⟩
    have BW := hide (show Below w.heap.size w w1 by rw [← hw1]; exact (Below.refl _ _).alloc (Nat.le_refl _) _)
    have b0 : w1.heap[w.heap.size]? = some (.cells #[.int .i64 k1, .int .i64 k2] 26 (0, 0)) := by rw [← hw1]; exact alloc_newV w _
    rw [hw1]
    refine (HA.out w1 BW.out).mono ?_
    rintro e w2 ⟨⟨v, rfl, ho, hv⟩, hb⟩
    have HVH : Hid (∀ g, v.ownBlock = some g → H g) := hide (fun g hg => by
      rcases hv with ⟨_, rfl⟩ | ⟨i, p, q1, _, _, rfl⟩
      · cases hg
      · exact HH.out.hv p (List.mem_of_getElem? q1) g hg)
    have B2 := hide (BW.out.trans (hb.mono BW.out.size))
    have KK := hide ((hb.block w.heap.size (Array.getElem?_eq_some_iff.1 b0).1).trans b0)
    have HP := hide (refPut_any v L n s B kk w2 ho HL.out (by omega) (by have := HH.out.lt rb HH.out.hb; have := B2.out.size; omega))
    clear hb HA b0 hw1 hv ho
    go_wp2_with fail
    refine HP.out.mono ?_
    rintro e w3 ⟨v', rfl, ho3, hb3, hr3⟩
    have B3 := hide (B2.out.trans (hb3.mono B2.out.size))
    have K3 := (hb3.block w.heap.size (Array.getElem?_eq_some_iff.1 KK.out).1).trans KK.out
    have x0 : w3.cell? ⟨w.heap.size, 0, none⟩ = some (.int .i64 k1) := by rw [cell_of_row _ _ 0 _ _ _ K3]; rfl
    have x1 : w3.cell? ⟨w.heap.size, 1, none⟩ = some (.int .i64 k2) := by rw [cell_of_row _ _ 1 _ _ _ K3]; rfl
    have HS := hide (rSet_any (k1, k2) (ptL n s L) v' B rb sh R D vr vd kk (hN w w3 H) w3 (HH.out.nw B3.out) hl ho3 HPL.out (fun g hg => by
      rcases hr3 g hg with q | q
      · exact Or.inl (HVH.out g q)
      · exact Or.inr ⟨Nat.le_trans B2.out.size q, (ho3.lt hg).2⟩))
    dsimp only at HS
    obtain ⟨a3, cap3, rfl⟩ := ho3.slc
    clear hb3 hr3 K3 ho3 HP
    rw [e1]
    go_wp2_with fail
    refine HS.out.mono ?_
    rintro e w4 ⟨⟨u, rfl⟩, hs⟩
    have HE := hide (RSet.of HH.out B3.out hs)
    clear hs HS
    go_wp2_with fail
    go_ret
    exact ⟨rfl, HE.out⟩
  · have e1 : ptE n L = 1 := by unfold ptE; rw [if_neg hc]
    rw [e1, decide_eq_false hc]
    go_enter Tryz.func71, Tryz.ntmps71
    go_wp2_with fail
    obtain ⟨w1, hw1⟩ : ∃ w1, w.alloc (Obj.cells #[.int .i64 k1, .int .i64 k2] 26) = w1 := ⟨_, rfl⟩
    have BW := hide (show Below w.heap.size w w1 by rw [← hw1]; exact (Below.refl _ _).alloc (Nat.le_refl _) _)
    have b0 : w1.heap[w.heap.size]? = some (.cells #[.int .i64 k1, .int .i64 k2] 26 (0, 0)) := by rw [← hw1]; exact alloc_newV w _
    rw [hw1]
    refine (HA.out w1 BW.out).mono ?_
    rintro e w2 ⟨⟨v, rfl, ho, hv⟩, hb⟩
    have HVH : Hid (∀ g, v.ownBlock = some g → H g) := hide (fun g hg => by
      rcases hv with ⟨_, rfl⟩ | ⟨i, p, q1, _, _, rfl⟩
      · cases hg
      · exact HH.out.hv p (List.mem_of_getElem? q1) g hg)
    have B2 := hide (BW.out.trans (hb.mono BW.out.size))
    have KK := hide ((hb.block w.heap.size (Array.getElem?_eq_some_iff.1 b0).1).trans b0)
    have HP := hide (refPut_any v L n s B kk w2 ho HL.out (by omega) (by have := HH.out.lt rb HH.out.hb; have := B2.out.size; omega))
    clear hb HA b0 hw1 hv ho
    go_wp2_with fail
    refine HP.out.mono ?_
    rintro e w3 ⟨v', rfl, ho3, hb3, hr3⟩
    have B3 := hide (B2.out.trans (hb3.mono B2.out.size))
    have K3 := (hb3.block w.heap.size (Array.getElem?_eq_some_iff.1 KK.out).1).trans KK.out
    have x0 : w3.cell? ⟨w.heap.size, 0, none⟩ = some (.int .i64 k1) := by rw [cell_of_row _ _ 0 _ _ _ K3]; rfl
    have x1 : w3.cell? ⟨w.heap.size, 1, none⟩ = some (.int .i64 k2) := by rw [cell_of_row _ _ 1 _ _ _ K3]; rfl
    have HS := hide (rSet_any (k1, k2) (ptL n s L) v' B rb sh R D vr vd kk (hN w w3 H) w3 (HH.out.nw B3.out) hl ho3 HPL.out (fun g hg => by
      rcases hr3 g hg with q | q
      · exact Or.inl (HVH.out g q)
      · exact Or.inr ⟨Nat.le_trans B2.out.size q, (ho3.lt hg).2⟩))
    dsimp only at HS
    obtain ⟨a3, cap3, rfl⟩ := ho3.slc
    clear hb3 hr3 K3 ho3 HP
    clear HS
    rw [e1]
    go_wp2_with fail
    go_ret
    exact ⟨rfl, RSet.no HH.out B3.out⟩
end Go.Proofs.YtgeholiagcckoaaGreatDoor
namespace Go.Proofs.YtgeholiagcckoaaGreatDoor
open Go.RowKit

set_option maxRecDepth 100000 in
set_option maxHeartbeats 1000000 in
theorem rSPrune_any (k : Ky) (n : Int) (B rb : Nat) (sh : Int) (R : List Rw) (D : List (Int × Bool)) (vr vd : Value) (kk : Nat) (H : Nat → Prop) (w : World) (h : RF B w rb sh R D vr vd kk H) (hl : kk < 3518437208882) :
    Calls Tryz.prog 77 #[.pointer (some ⟨rb, 0, none⟩), .agg #[.int .i64 k.1, .int .i64 k.2], .int .i64 n] w fun e w' => e = .returned (.int .i64 ((ab (oldD n D) (rgo R k) - 1 : Nat) : Int)) ∧ RSet B w w' rb sh R D vd kk H k ((rgo R k).drop (ab (oldD n D) (rgo R k) - 1)) (decide (0 < ab (oldD n D) (rgo R k) - 1)) := by
  have HA := hide (fun (W : World) (hb : Below w.heap.size w W) => rRow_any k B rb sh R D vr vd kk H W (h.later hb) (by omega))
  have HOL := hide (fun (W : World) (hb : Below w.heap.size w W) => rOld_any n B rb sh R D vr vd kk H W (h.later hb) (by omega))
  have HL := hide (h.lk k)
  have HH := hide h
  obtain ⟨k1, k2⟩ := k
  dsimp only at HA ⊢
  obtain ⟨L, hL⟩ : ∃ L, rgo R (k1, k2) = L := ⟨_, rfl⟩
  obtain ⟨m, hm⟩ : ∃ m, oldD n D = m := ⟨_, rfl⟩
  rw [hL] at HA HL ⊢
  rw [hm]
  obtain ⟨gg, hgg⟩ : ∃ gg, ab m L - 1 = gg := ⟨_, rfl⟩
  rw [hgg]
  obtain ⟨L', hL'⟩ : ∃ L', L.drop gg = L' := ⟨_, rfl⟩
  rw [hL']
  have HPL : Hid (LK L' (kk + 1)) := hide (by rw [← hL']; exact (HL.out.drop _).up)
  clear h hL
  by_cases hc : 0 < gg
  · have d1 : decide ((0 : Int) < ((gg : Nat) : Int)) = true := by rw [decide_eq_true_eq]; omega
    rw [decide_eq_true hc]
    go_enter Tryz.func77, Tryz.ntmps77
    go_wp2_with fail
    obtain ⟨w1, hw1⟩ : ∃ w1, w.alloc (Obj.cells #[.int .i64 k1, .int .i64 k2] 26) = w1 := ⟨_, rfl⟩
    have BW := hide (show Below w.heap.size w w1 by rw [← hw1]; exact (Below.refl _ _).alloc (Nat.le_refl _) _)
    have b0 : w1.heap[w.heap.size]? = some (.cells #[.int .i64 k1, .int .i64 k2] 26 (0, 0)) := by rw [← hw1]; exact alloc_newV w _
    rw [hw1]
    refine (HA.out w1 BW.out).mono ?_
    rintro e w2 ⟨⟨v, rfl, ho, hv⟩, hb⟩
    have HVH : Hid (∀ g, v.ownBlock = some g → H g) := hide (fun g hg => by
      rcases hv with ⟨_, rfl⟩ | ⟨i, p, q1, _, _, rfl⟩
      · cases hg
      · exact HH.out.hv p (List.mem_of_getElem? q1) g hg)
    have B2 := hide (BW.out.trans (hb.mono BW.out.size))
    have KK := hide ((hb.block w.heap.size (Array.getElem?_eq_some_iff.1 b0).1).trans b0)
    have HOO := hide ho
    clear hb HA b0 hw1 hv ho
    go_wp2_with fail
    refine (HOL.out w2 B2.out).mono ?_
    rintro e w2b ⟨rfl, hb⟩
    rw [hm]
    have HP := hide (refPrune_any v L m B kk w2b (HOO.out.later hb) HL.out (by omega) (by have := HH.out.lt rb HH.out.hb; have := B2.out.size; have := hb.size; omega))
    rw [hgg] at HP
    replace B2 := hide (B2.out.trans (hb.mono B2.out.size))
    replace KK := hide ((hb.block w.heap.size (Array.getElem?_eq_some_iff.1 KK.out).1).trans KK.out)
    clear hb HOO HOL
    go_wp2_with fail
    refine HP.out.mono ?_
    rintro e w3 ⟨v', rfl, ho3, hb3, hr3⟩
    rw [hL'] at ho3
    have B3 := hide (B2.out.trans (hb3.mono B2.out.size))
    have K3 := (hb3.block w.heap.size (Array.getElem?_eq_some_iff.1 KK.out).1).trans KK.out
    have x0 : w3.cell? ⟨w.heap.size, 0, none⟩ = some (.int .i64 k1) := by rw [cell_of_row _ _ 0 _ _ _ K3]; rfl
    have x1 : w3.cell? ⟨w.heap.size, 1, none⟩ = some (.int .i64 k2) := by rw [cell_of_row _ _ 1 _ _ _ K3]; rfl
    have HS := hide (rSet_any (k1, k2) L' v' B rb sh R D vr vd kk (hN w w3 H) w3 (HH.out.nw B3.out) hl ho3 HPL.out (fun g hg => by
      rcases hr3 g hg with q | q
      · exact Or.inl (HVH.out g q)
      · exact Or.inr ⟨Nat.le_trans B2.out.size q, (ho3.lt hg).2⟩))
    dsimp only at HS
    obtain ⟨a3, cap3, rfl⟩ := ho3.slc
    clear hb3 hr3 K3 ho3 HP
    go_wp2_with fail
    refine HS.out.mono ?_
    rintro e w4 ⟨⟨u, rfl⟩, hs⟩
    have HE := hide (RSet.of HH.out B3.out hs)
    clear hs HS
    go_wp2_with fail
    go_ret
    exact ⟨rfl, HE.out⟩
  · have d1 : decide ((0 : Int) < ((gg : Nat) : Int)) = false := by rw [decide_eq_false_iff_not]; omega
    rw [decide_eq_false hc]
    go_enter Tryz.func77, Tryz.ntmps77
    go_wp2_with fail
    obtain ⟨w1, hw1⟩ : ∃ w1, w.alloc (Obj.cells #[.int .i64 k1, .int .i64 k2] 26) = w1 := ⟨_, rfl⟩
    have BW := hide (show Below w.heap.size w w1 by rw [← hw1]; exact (Below.refl _ _).alloc (Nat.le_refl _) _)
    have b0 : w1.heap[w.heap.size]? = some (.cells #[.int .i64 k1, .int .i64 k2] 26 (0, 0)) := by rw [← hw1]; exact alloc_newV w _
    rw [hw1]
    refine (HA.out w1 BW.out).mono ?_
    rintro e w2 ⟨⟨v, rfl, ho, hv⟩, hb⟩
    have HVH : Hid (∀ g, v.ownBlock = some g → H g) := hide (fun g hg => by
      rcases hv with ⟨_, rfl⟩ | ⟨i, p, q1, _, _, rfl⟩
      · cases hg
      · exact HH.out.hv p (List.mem_of_getElem? q1) g hg)
    have B2 := hide (BW.out.trans (hb.mono BW.out.size))
    have KK := hide ((hb.block w.heap.size (Array.getElem?_eq_some_iff.1 b0).1).trans b0)
    have HOO := hide ho
    clear hb HA b0 hw1 hv ho
    go_wp2_with fail
    refine (HOL.out w2 B2.out).mono ?_
    rintro e w2b ⟨rfl, hb⟩
    rw [hm]
    have HP := hide (refPrune_any v L m B kk w2b (HOO.out.later hb) HL.out (by omega) (by have := HH.out.lt rb HH.out.hb; have := B2.out.size; have := hb.size; omega))
    rw [hgg] at HP
    replace B2 := hide (B2.out.trans (hb.mono B2.out.size))
    replace KK := hide ((hb.block w.heap.size (Array.getElem?_eq_some_iff.1 KK.out).1).trans KK.out)
    clear hb HOO HOL
    go_wp2_with fail
    refine HP.out.mono ?_
    rintro e w3 ⟨v', rfl, ho3, hb3, hr3⟩
    rw [hL'] at ho3
    have B3 := hide (B2.out.trans (hb3.mono B2.out.size))
    have K3 := (hb3.block w.heap.size (Array.getElem?_eq_some_iff.1 KK.out).1).trans KK.out
    have x0 : w3.cell? ⟨w.heap.size, 0, none⟩ = some (.int .i64 k1) := by rw [cell_of_row _ _ 0 _ _ _ K3]; rfl
    have x1 : w3.cell? ⟨w.heap.size, 1, none⟩ = some (.int .i64 k2) := by rw [cell_of_row _ _ 1 _ _ _ K3]; rfl
    have HS := hide (rSet_any (k1, k2) L' v' B rb sh R D vr vd kk (hN w w3 H) w3 (HH.out.nw B3.out) hl ho3 HPL.out (fun g hg => by
      rcases hr3 g hg with q | q
      · exact Or.inl (HVH.out g q)
      · exact Or.inr ⟨Nat.le_trans B2.out.size q, (ho3.lt hg).2⟩))
    dsimp only at HS
    obtain ⟨a3, cap3, rfl⟩ := ho3.slc
    clear hb3 hr3 K3 ho3 HP
    clear HS
    go_wp2_with fail
    go_ret
    exact ⟨rfl, RSet.no HH.out B3.out⟩
end Go.Proofs.YtgeholiagcckoaaGreatDoor
namespace Go.Proofs.YtgeholiagcckoaaGreatDoor
open Go.RowKit

set_option maxRecDepth 100000 in
set_option maxHeartbeats 1000000 in
theorem rNew_any (s : Int) (w : World) :
    Calls Tryz.prog 44 #[.int .i64 s] w fun e w' => ∃ rb, e = .returned (.pointer (some ⟨rb, 0, none⟩)) ∧ w.heap.size ≤ rb ∧ RF w.heap.size w' rb (cnt s) [] [] (.slice none 0 0) (.slice none 0 0) 0 (fun x => x = rb) ∧ Below w.heap.size w w' := by
  have HK := hide (fun W => refCnt_any s W)
  go_enter Tryz.func44, Tryz.ntmps44
  go_wp2_with fail
  refine (HK.out w).mono ?_
  rintro e w2 ⟨rfl, hb⟩
  have B2 := hide hb
  clear hb HK
  obtain ⟨W3, hW3⟩ : ∃ W3, w2.alloc (.cells #[.int .i64 (cnt s), .slice none 0 0, .slice none 0 0] 92) = W3 := ⟨_, rfl⟩
  have HE : Hid (w.heap.size ≤ w2.heap.size ∧ RF w.heap.size W3 w2.heap.size (cnt s) [] [] (.slice none 0 0) (.slice none 0 0) 0 (fun x => x = w2.heap.size) ∧ Below w.heap.size w W3) := hide (by
    have hn : W3.heap[w2.heap.size]? = some (.cells #[.int .i64 (cnt s), .slice none 0 0, .slice none 0 0] 92 (0, 0)) := by rw [← hW3]; exact alloc_newV w2 _
    refine ⟨B2.out.size, ⟨hn, OR.nil _ _ _ _, OR.nil _ _ _ _, fun p hp => (by cases hp), List.nodup_nil, rfl, fun g hg => (by cases hg), fun g hg => (by cases hg), fun p hp => (by cases hp), fun x hx => ?_, Nat.le_refl _, Nat.le_refl _⟩, by rw [← hW3]; exact B2.out.alloc B2.out.size _⟩
    rw [hx]
    exact ⟨B2.out.size, (Array.getElem?_eq_some_iff.1 hn).1⟩)
  go_wp2_with fail
  go_ret
  exact ⟨_, rfl, HE.out⟩
end Go.Proofs.YtgeholiagcckoaaGreatDoor
