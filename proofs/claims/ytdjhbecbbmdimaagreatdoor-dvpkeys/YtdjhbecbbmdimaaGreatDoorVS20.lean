/-
  My own text: VS19, VS20 in one.
-/
import Derived.Test.YtdjhbecbbmdimaaGreatDoorVS18
namespace Go.Proofs.YtdjhbecbbmdimaaGreatDoor
open Go.RowKit

theorem FrB.belowN {F : Nat → Prop} {w W W' : World} (h : FrB F w W) {n : Nat} (k : Below n W W') (hn : w.heap.size ≤ n) : FrB F w W' := ⟨k.os.trans h.os, k.tape.trans h.tape, k.output.trans h.output, Nat.le_trans h.size k.size, fun b hb hf => (k.block b (by omega)).trans (h.block b hb hf)⟩
/-- What Apply answers. -/
structure APE {X : Type} (I : VI X) (y : X) (F : Nat → Prop) (w : World) (F' H' : Nat → Prop) (w' : World) : Prop where
  vw : I.V w' F' H' y
  fr : FrB F w w'
  up : ∀ b, F' b → F b ∨ w.heap.size ≤ b
set_option maxRecDepth 100000 in
set_option maxHeartbeats 8000000 in
theorem apply_bad {X : Type} (I : VI X) (x : X) (F H : Nat → Prop) (cd ac as_ qt nm id : Int) (lv pv : Value) (L : List LG.El) (P : List Ky) (room : Bool) (w : World) (hV : I.V w F H x) (hE : ErrType w) (hL : LG.RM w lv L) (hP : KY.RM w pv P) (hl : L.length ≤ 400000) (hp : P.length ≤ 400000) (k : Int) (hk : k = chk 65536 65536 ⟨cd, ac, as_, qt, nm, id, L, P⟩) (h0 : 1 ≤ k) :
    Calls Tryz.prog 24 #[.iface I.T I.p, .agg #[.int .i64 cd, .int .i64 ac, .int .i64 as_, .int .i64 qt, .int .i64 nm, .int .i64 id, lv, pv], .bool room] w fun r w' => r = .returned (.tuple #[.agg #[.int .i64 k, .int .i64 0, .slice none 0 0], .slice none 0 0]) ∧ APE I x F w F H w' := by
  obtain ⟨la, lc, hlv⟩ := LG.rm_lt hL
  subst hlv
  obtain ⟨pa, pc, hpv⟩ := KY.rm_lt hP
  subst hpv
  have HV := hide hV
  have HE := hide hE
  have HCH : Hid (∀ W, Below w.heap.size w W → Calls Tryz.prog 35 #[.agg #[.int .i64 65536, .int .i64 65536, .int .i64 0, .int .i64 0, .int .i64 0], .agg #[.int .i64 cd, .int .i64 ac, .int .i64 as_, .int .i64 qt, .int .i64 nm, .int .i64 id, .slice la L.length lc, .slice pa P.length pc]] W fun e w' => e = .returned (.iface 52 (.int .i64 k)) ∧ Below W.heap.size W w') := hide (fun W hb => by
    have h := check_any 65536 65536 0 0 0 ⟨cd, ac, as_, qt, nm, id, L, P⟩ _ _ W (hL.later hb) (hP.later hb) (by show L.length ≤ _; omega) (by show P.length ≤ _; omega)
    rw [← hk, errV_pos h0] at h
    exact h)
  have HB0 := hide (two_below w (.cells #[.int .i64 cd, .int .i64 ac, .int .i64 as_, .int .i64 qt, .int .i64 nm, .int .i64 id, .slice la L.length lc, .slice pa P.length pc] 25) (.cells #[.int .i64 0, .int .i64 0, .slice none 0 0] 55))
  have N0 := two_new w (.cells #[.int .i64 cd, .int .i64 ac, .int .i64 as_, .int .i64 qt, .int .i64 nm, .int .i64 id, .slice la L.length lc, .slice pa P.length pc] 25) (.cells #[.int .i64 0, .int .i64 0, .slice none 0 0] 55)
  have NO := hide N0.1
  have NA := hide N0.2
  clear hV hE hL hP hk N0 hl hp
  go_enter Tryz.func24, Tryz.ntmps24
  go_wp2_with fail
  generalize (w.alloc (.cells #[.int .i64 cd, .int .i64 ac, .int .i64 as_, .int .i64 qt, .int .i64 nm, .int .i64 id, .slice la L.length lc, .slice pa P.length pc] 25)).alloc (.cells #[.int .i64 0, .int .i64 0, .slice none 0 0] 55) = V0 at HB0 NO NA ⊢
  have HS0 := hide (eight_cells NO.out rfl)
  have HVd : Hid (Below w.heap.size w V0.drew) := hide HB0.out.drew
  have NOd : Hid (V0.drew.heap[w.heap.size]? = some (.cells #[.int .i64 cd, .int .i64 ac, .int .i64 as_, .int .i64 qt, .int .i64 nm, .int .i64 id, .slice la L.length lc, .slice pa P.length pc] 25 (0, 0))) := hide NO.out
  have NAd : Hid (V0.drew.heap[w.heap.size + 1]? = some (.cells #[.int .i64 0, .int .i64 0, .slice none 0 0] 55 (0, 0))) := hide NA.out
  clear HB0 NO NA
  refine z_begins (S := fun W : World => W.cell? ⟨w.heap.size, 0, none⟩ = some (.int .i64 cd) ∧ W.cell? ⟨w.heap.size, 1, none⟩ = some (.int .i64 ac) ∧ W.cell? ⟨w.heap.size, 2, none⟩ = some (.int .i64 as_) ∧ W.cell? ⟨w.heap.size, 3, none⟩ = some (.int .i64 qt) ∧ W.cell? ⟨w.heap.size, 4, none⟩ = some (.int .i64 nm) ∧ W.cell? ⟨w.heap.size, 5, none⟩ = some (.int .i64 id) ∧ W.cell? ⟨w.heap.size, 6, none⟩ = some (.slice la L.length lc) ∧ W.cell? ⟨w.heap.size, 7, none⟩ = some (.slice pa P.length pc)) 3 4 #[false, false, false, false] (by kernel_rfl) (by kernel_rfl) (by kernel_rfl) HS0.out (fun hHeld => ?_)
  refine zk (v := ?_) 1 13 #[false, true, false, false] rfl rfl (by kernel_rfl) (by kernel_rfl) (by kernel_rfl) (by kernel_rfl) (fun _ _ _ h => h) (by kernel_rfl) (by rfl) ?hy hHeld ?_
  case hy => rintro W ⟨s0, s1, s2, s3, s4, s5, s6, s7⟩; first | (go_simp; done) | (go_simp; with_reducible rfl)
  simp only [List.setIfInBounds_toArray, List.set_cons_zero, List.set_cons_succ]
  refine z_ready 0 #[true, true, false, false] rfl (by kernel_rfl) (by kernel_rfl) (by rfl) (fun K hK => ?_)
  refine op_call_fn 36 #[] (by kernel_rfl) ?_
  refine (widest_any _).mono ?_
  rintro e w1 ⟨rfl, hb1⟩
  refine ⟨_, rfl, ?_⟩
  go_simp
  have HV1 := hide (HVd.out.trans (hb1.mono HVd.out.size))
  have NO1 := hide (blk_later NOd.out hb1)
  have NA1 := hide (blk_later NAd.out hb1)
  clear hb1
  refine hK.out _ _ (fun _ => eight_cells NO1.out rfl) (fun hHeld => ?_)
  clear hK K
  refine z_ready 2 #[true, true, true, false] rfl (by kernel_rfl) (by kernel_rfl) (by rfl) (fun K hK => ?_)
  refine op_call_fn 35 #[.agg #[.int .i64 65536, .int .i64 65536, .int .i64 0, .int .i64 0, .int .i64 0], .agg #[.int .i64 cd, .int .i64 ac, .int .i64 as_, .int .i64 qt, .int .i64 nm, .int .i64 id, .slice la L.length lc, .slice pa P.length pc]] (by kernel_rfl) ?_
  refine (HCH.out w1 HV1.out).mono ?_
  rintro e w2 ⟨rfl, hb2⟩
  refine ⟨_, rfl, ?_⟩
  go_simp
  have HV2 := hide (HV1.out.trans (hb2.mono HV1.out.size))
  have NO2 := hide (blk_later NO1.out hb2)
  have NA2 := hide (blk_later NA1.out hb2)
  clear hb2
  refine hK.out _ _ (fun _ => eight_cells NO2.out rfl) (fun hHeld => ?_)
  clear hK K
  refine z_ready 3 #[true, true, true, true] rfl (by kernel_rfl) (by kernel_rfl) (by rfl) (fun K hK => ?_)
  go_simp
  refine hK.out _ _ (fun h => absurd rfl h) (fun _ => ?_)
  clear hK K
  refine z_done (by kernel_rfl) ?_ _
  clear hHeld
  have HRF := hide (refused_n k w2 (HE.out.below HV2.out))
  clear HE HV1 NO1 NA1 HVd NOd NAd HS0 HCH
  go_wp2_with fail
  refine HRF.out.mono ?_
  rintro r w3 ⟨rfl, hb3⟩
  have HV3 := hide (HV2.out.trans (hb3.mono HV2.out.size))
  have HNA := hide (blk_later NA2.out hb3)
  clear hb3 HRF NO2 NA2 HV2
  obtain ⟨a0, a1, a2⟩ := three_cells HNA.out rfl
  obtain ⟨V0, hV0⟩ : ∃ x, w3.setCell ⟨w.heap.size + 1, 0, none⟩ (.int .i64 k) = x := ⟨_, rfl⟩
  have M0 := setB HNA.out 0 (.int .i64 k) rfl
  have b0 := (Below.refl (w.heap.size + 1) w3).setCell (p := ⟨w.heap.size + 1, 0, none⟩) (Nat.le_refl _) (.int .i64 k)
  have e0 : ∀ b, b ≠ w.heap.size + 1 → (w3.setCell ⟨w.heap.size + 1, 0, none⟩ (.int .i64 k)).heap[b]? = w3.heap[b]? := fun b hb2 => Below.heap_setCell w3 ⟨w.heap.size + 1, 0, none⟩ (.int .i64 k) b hb2
  rw [hV0] at M0 b0 e0
  obtain ⟨V1, hV1⟩ : ∃ x, V0.setCell ⟨w.heap.size + 1, 1, none⟩ (.int .i64 0) = x := ⟨_, rfl⟩
  have M1 := setB M0 1 (.int .i64 0) rfl
  have b1 := b0.setCell (p := ⟨w.heap.size + 1, 1, none⟩) (Nat.le_refl _) (.int .i64 0)
  have e1 : ∀ b, b ≠ w.heap.size + 1 → (V0.setCell ⟨w.heap.size + 1, 1, none⟩ (.int .i64 0)).heap[b]? = V0.heap[b]? := fun b hb2 => Below.heap_setCell V0 ⟨w.heap.size + 1, 1, none⟩ (.int .i64 0) b hb2
  rw [hV1] at M1 b1 e1
  obtain ⟨V2, hV2⟩ : ∃ x, V1.setCell ⟨w.heap.size + 1, 2, none⟩ (.slice none 0 0) = x := ⟨_, rfl⟩
  have M2 := setB M1 2 (.slice none 0 0) rfl
  have b2 := b1.setCell (p := ⟨w.heap.size + 1, 2, none⟩) (Nat.le_refl _) (.slice none 0 0)
  have e2 : ∀ b, b ≠ w.heap.size + 1 → (V1.setCell ⟨w.heap.size + 1, 2, none⟩ (.slice none 0 0)).heap[b]? = V1.heap[b]? := fun b hb2 => Below.heap_setCell V1 ⟨w.heap.size + 1, 2, none⟩ (.slice none 0 0) b hb2
  rw [hV2] at M2 b2 e2
  obtain ⟨u0, u1, u2⟩ := three_cells M0 rfl
  obtain ⟨v0, v1, v2⟩ := three_cells M1 rfl
  obtain ⟨d0, d1, d2⟩ := three_cells M2 rfl
  have f0 := nofz HNA.out 0
  have f1 := nofz M0 1
  have f2 := nofz M1 2
  have HEQ : Hid (∀ b, b ≠ w.heap.size + 1 → V2.heap[b]? = w3.heap[b]?) := hide (fun b hb => (e2 b hb).trans ((e1 b hb).trans (e0 b hb)))
  have HBS : Hid (Below (w.heap.size + 1) w3 V2) := hide b2
  have HBF := hide (HV3.out.trans (b2.mono (by omega)))
  clear M0 M1 M2 b0 b1 b2 e0 e1 e2 HNA
  go_wp2_with fail
  exact bodyPost_ret (v := .tuple #[.agg #[.int .i64 k, .int .i64 0, .slice none 0 0], .slice none 0 0]) (by simp [results, Tryz.results24, go_sem, d0, d1, d2]) rfl (⟨rfl, I.keep HV.out HBF.out.size (fun b hb => HBF.out.block b (I.low HV.out b hb)), FrB.ofBelow HBF.out, fun b hb => .inl hb⟩)
  
end Go.Proofs.YtdjhbecbbmdimaaGreatDoor
namespace Go.Proofs.YtdjhbecbbmdimaaGreatDoor
open Go.RowKit

/-- The number that an error holds. -/
def NoK (k : Int) (t : TypeId) (e : Value) : Prop := (t = 52 ∧ e = .int .i64 k) ∨ (t = 197 ∧ ∃ s : List UInt8, e = .agg #[.string ⟨s.toArray⟩, .iface 52 (.int .i64 k)])
theorem NoX.k {t : TypeId} {x : Value} (h : NoX t x) : ∃ k, NoK k t x := by
  rcases h with ⟨h1, k, _, _, h2⟩ | ⟨h1, s, k, _, _, h2⟩
  · exact ⟨k, .inl ⟨h1, h2⟩⟩
  · exact ⟨k, .inr ⟨h1, s, h2⟩⟩
theorem refused_k {k : Int} {t : TypeId} {x : Value} (h : NoK k t x) (w : World) (hE : ErrType w) : Calls Tryz.prog 37 #[.iface t x] w fun r w' => r = .returned (.tuple #[.agg #[.int .i64 k, .int .i64 0, .slice none 0 0], .slice none 0 0]) ∧ Below w.heap.size w w' := by
  rcases h with ⟨rfl, rfl⟩ | ⟨rfl, s, rfl⟩
  · exact refused_n k w hE
  · exact refused_r s k w hE
def APG {X : Type} (I : VI X) (x : X) (F : Nat → Prop) (w : World) (K : List Ky) (o : DO) (r : Ending) (w' : World) : Prop := match o with
  | .no t e => ∃ k F' H', NoK k t e ∧ r = .returned (.tuple #[.agg #[.int .i64 k, .int .i64 0, .slice none 0 0], .slice none 0 0]) ∧ APE I (gxs I x K) F w F' H' w'
  | .ok st S' => ∃ v E' F' H', r = .returned (.tuple #[.agg #[.int .i64 0, .int .i64 st, .slice none 0 0], v]) ∧ KY.OM w' w.heap.size v (chg E') ∧ (∀ b, v.ownBlock = some b → ¬ H' b) ∧ eks E' = K ∧ SX E' S' ∧ (∀ e ∈ E', e.was.cx = I.bk x e.k) ∧ APE I (pxs I (gxs I x K) E') F w F' H' w'
theorem ErrType.blk {w w' : World} (h : ErrType w) (hb : w'.heap[0]? = w.heap[0]?) : ErrType w' := by
  unfold ErrType at h ⊢
  rw [World.cell?_of_block hb]; exact h
set_option maxRecDepth 100000 in
set_option maxHeartbeats 8000000 in
theorem apply_go {X : Type} (I : VI X) (x : X) (F H : Nat → Prop) (cd ac as_ qt nm id : Int) (lv pv : Value) (L : List LG.El) (P : List Ky) (room : Bool) (w : World) (hV : I.V w F H x) (hE : ErrType w) (hEF : ¬ F 0) (hL : LG.RM w lv L) (hlF : ∀ b, lv.ownBlock = some b → ¬ F b ∧ b < w.heap.size) (hP : KY.RM w pv P) (hl : L.length ≤ 400000) (hp : P.length ≤ 400000) (hk : chk 65536 65536 ⟨cd, ac, as_, qt, nm, id, L, P⟩ = 0) (hc1 : 1 ≤ cd) (hc8 : cd < 8)
    (hR : RP (psX (I.bk x)) (kyO cd ac as_ id L P)) (hq : qt ≤ BL.top) (hql : ∀ l ∈ L, l.2.2.2.1 ≤ BL.top) (hrmx : 2000000 ≤ I.rm x) :
    Calls Tryz.prog 24 #[.iface I.T I.p, .agg #[.int .i64 cd, .int .i64 ac, .int .i64 as_, .int .i64 qt, .int .i64 nm, .int .i64 id, lv, pv], .bool room] w fun r w' => APG I x F w (kyO cd ac as_ id L P) (doO (I.bk x) cd ac as_ qt nm id L room) r w' := by
  obtain ⟨la, lc, hlv⟩ := LG.rm_lt hL
  subst hlv
  obtain ⟨pa, pc, hpv⟩ := KY.rm_lt hP
  subst hpv
  have HRM := hide hrmx
  clear hrmx
  have HV := hide hV
  have HE := hide hE
  have HEF := hide hEF
  have HL := hide hL
  have HLF := hide hlF
  have HPR := hide hP
  have HR := hide hR
  have HQ := hide (And.intro hq hql)
  have HCH : Hid (∀ W, Below w.heap.size w W → Calls Tryz.prog 35 #[.agg #[.int .i64 65536, .int .i64 65536, .int .i64 0, .int .i64 0, .int .i64 0], .agg #[.int .i64 cd, .int .i64 ac, .int .i64 as_, .int .i64 qt, .int .i64 nm, .int .i64 id, .slice la L.length lc, .slice pa P.length pc]] W fun e w' => e = .returned .nilIface ∧ Below W.heap.size W w') := hide (fun W hb => by
    have h := check_any 65536 65536 0 0 0 ⟨cd, ac, as_, qt, nm, id, L, P⟩ _ _ W (hL.later hb) (hP.later hb) (by show L.length ≤ _; omega) (by show P.length ≤ _; omega)
    rw [hk] at h
    exact h)
  have HB0 := hide (two_below w (.cells #[.int .i64 cd, .int .i64 ac, .int .i64 as_, .int .i64 qt, .int .i64 nm, .int .i64 id, .slice la L.length lc, .slice pa P.length pc] 25) (.cells #[.int .i64 0, .int .i64 0, .slice none 0 0] 55))
  have N0 := two_new w (.cells #[.int .i64 cd, .int .i64 ac, .int .i64 as_, .int .i64 qt, .int .i64 nm, .int .i64 id, .slice la L.length lc, .slice pa P.length pc] 25) (.cells #[.int .i64 0, .int .i64 0, .slice none 0 0] 55)
  have NO := hide N0.1
  have NA := hide N0.2
  have HKL := hide (ky_len (ac := ac) (as_ := as_) (id := id) (P := P) hc1 hc8 hl)
  have HLL := hide (And.intro hl hp)
  have HC := hide (And.intro hc1 hc8)
  have h8 : ¬ cd = 8 := by omega
  clear hV hE hEF hL hlF hP hk N0 hR hq hql hl hp hc1 hc8
  go_enter Tryz.func24, Tryz.ntmps24
  go_wp2_with fail
  generalize (w.alloc (.cells #[.int .i64 cd, .int .i64 ac, .int .i64 as_, .int .i64 qt, .int .i64 nm, .int .i64 id, .slice la L.length lc, .slice pa P.length pc] 25)).alloc (.cells #[.int .i64 0, .int .i64 0, .slice none 0 0] 55) = V0 at HB0 NO NA ⊢
  have HS0 := hide (eight_cells NO.out rfl)
  have HVd : Hid (Below w.heap.size w V0.drew) := hide HB0.out.drew
  have NOd : Hid (V0.drew.heap[w.heap.size]? = some (.cells #[.int .i64 cd, .int .i64 ac, .int .i64 as_, .int .i64 qt, .int .i64 nm, .int .i64 id, .slice la L.length lc, .slice pa P.length pc] 25 (0, 0))) := hide NO.out
  have NAd : Hid (V0.drew.heap[w.heap.size + 1]? = some (.cells #[.int .i64 0, .int .i64 0, .slice none 0 0] 55 (0, 0))) := hide NA.out
  clear HB0 NO NA
  refine z_begins (S := fun W : World => W.cell? ⟨w.heap.size, 0, none⟩ = some (.int .i64 cd) ∧ W.cell? ⟨w.heap.size, 1, none⟩ = some (.int .i64 ac) ∧ W.cell? ⟨w.heap.size, 2, none⟩ = some (.int .i64 as_) ∧ W.cell? ⟨w.heap.size, 3, none⟩ = some (.int .i64 qt) ∧ W.cell? ⟨w.heap.size, 4, none⟩ = some (.int .i64 nm) ∧ W.cell? ⟨w.heap.size, 5, none⟩ = some (.int .i64 id) ∧ W.cell? ⟨w.heap.size, 6, none⟩ = some (.slice la L.length lc) ∧ W.cell? ⟨w.heap.size, 7, none⟩ = some (.slice pa P.length pc)) 3 4 #[false, false, false, false] (by kernel_rfl) (by kernel_rfl) (by kernel_rfl) HS0.out (fun hHeld => ?_)
  refine zk (v := ?_) 1 13 #[false, true, false, false] rfl rfl (by kernel_rfl) (by kernel_rfl) (by kernel_rfl) (by kernel_rfl) (fun _ _ _ h => h) (by kernel_rfl) (by rfl) ?hy hHeld ?_
  case hy => rintro W ⟨s0, s1, s2, s3, s4, s5, s6, s7⟩; first | (go_simp; done) | (go_simp; with_reducible rfl)
  simp only [List.setIfInBounds_toArray, List.set_cons_zero, List.set_cons_succ]
  refine z_ready 0 #[true, true, false, false] rfl (by kernel_rfl) (by kernel_rfl) (by rfl) (fun K hK => ?_)
  refine op_call_fn 36 #[] (by kernel_rfl) ?_
  refine (widest_any _).mono ?_
  rintro e w1 ⟨rfl, hb1⟩
  refine ⟨_, rfl, ?_⟩
  go_simp
  have HV1 := hide (HVd.out.trans (hb1.mono HVd.out.size))
  have NO1 := hide (blk_later NOd.out hb1)
  have NA1 := hide (blk_later NAd.out hb1)
  clear hb1
  refine hK.out _ _ (fun _ => eight_cells NO1.out rfl) (fun hHeld => ?_)
  clear hK K
  refine z_ready 2 #[true, true, true, false] rfl (by kernel_rfl) (by kernel_rfl) (by rfl) (fun K hK => ?_)
  refine op_call_fn 35 #[.agg #[.int .i64 65536, .int .i64 65536, .int .i64 0, .int .i64 0, .int .i64 0], .agg #[.int .i64 cd, .int .i64 ac, .int .i64 as_, .int .i64 qt, .int .i64 nm, .int .i64 id, .slice la L.length lc, .slice pa P.length pc]] (by kernel_rfl) ?_
  refine (HCH.out w1 HV1.out).mono ?_
  rintro e w2 ⟨rfl, hb2⟩
  refine ⟨_, rfl, ?_⟩
  go_simp
  have HV2 := hide (HV1.out.trans (hb2.mono HV1.out.size))
  have NO2 := hide (blk_later NO1.out hb2)
  have NA2 := hide (blk_later NA1.out hb2)
  clear hb2
  refine hK.out _ _ (fun _ => eight_cells NO2.out rfl) (fun hHeld => ?_)
  clear hK K
  refine z_ready 3 #[true, true, true, true] rfl (by kernel_rfl) (by kernel_rfl) (by rfl) (fun K hK => ?_)
  go_simp
  refine hK.out _ _ (fun h => absurd rfl h) (fun _ => ?_)
  clear hK K
  refine z_done (by kernel_rfl) ?_ _
  clear hHeld
  have HKY := hide (keys_any cd ac as_ qt nm id _ _ L P w2 (HL.out.later HV2.out) (HPR.out.later HV2.out) (by have := HLL.out.1; omega) (by have := HLL.out.2; omega))
  obtain ⟨y0, y1, y2, y3, y4, y5, y6, y7⟩ := eight_cells NO2.out rfl
  clear HV1 NO1 NA1 HVd NOd NAd HS0 HCH
  go_wp2_with fail
  refine HKY.out.mono ?_
  rintro r w3 ⟨kv, rfl, hKO, hb3⟩
  have hV3 := HV2.out.trans (hb3.mono HV2.out.size)
  have HFl : Hid (∀ b, H b → b < w.heap.size) := hide (I.low HV.out)
  have HRD := hide (read_any I kv (kyO cd ac as_ id L P) F H x w3 (I.keep HV.out hV3.size (fun b hb => hV3.block b (HFl.out b hb))) hKO.rm (fun b hb hf => by have h1 := (World.ownsRow.lt hKO b hb).1; have h2 := HFl.out b (I.sub HV.out b hf); have h3 := HV2.out.size; omega) HKL.out.1 HKL.out.2 (by have := HKL.out.2; have := HRM.out; omega))
  obtain ⟨ka, kc, hkv⟩ := KY.OM.slice hKO
  subst hkv
  have HV3 := hide hV3
  have NO3 := hide (blk_later NO2.out hb3)
  have NA3 := hide (blk_later NA2.out hb3)
  clear hKO hb3 hV3 HKY NO2 NA2 y0 y1 y2 y3 y4 y5 y6 y7
  go_wp2_with fail
  refine HRD.out.mono ?_
  rintro r w4 ⟨g, cap, E, F', H', rfl, hS4, hRD, hV4, hf4, hF4, hH4, hg4⟩
  have hlen := hS4.len
  rw [← hlen] at hS4 ⊢
  have hA3 : w.heap.size + 1 < w3.heap.size := (Array.getElem?_eq_some_iff.1 NA3.out).1
  have hFlow : ∀ b, F b → b < w.heap.size := fun b hb => HFl.out b (I.sub HV.out b hb)
  have HFR4 := hide ((FrB.ofBelow (F := F) HV3.out).trans hf4 (fun b _ h => h))
  have NO4 := hide ((hf4.block w.heap.size (by omega) (fun h => by have := hFlow _ h; omega)).trans NO3.out)
  have NA4 := hide ((hf4.block (w.heap.size + 1) hA3 (fun h => by have := hFlow _ h; omega)).trans NA3.out)
  have hL4 : LG.RM w4 (.slice la L.length lc) L := rmL_kept (HL.out.later HV3.out) hf4.size (fun b hb _ => hf4.block b (Nat.lt_of_lt_of_le (HLF.out b hb).2 HV3.out.size) (HLF.out b hb).1)
  have hgB : w3.heap.size ≤ g := (World.ownsRow.lt hS4.own g rfl).1
  have hkE : eks E = kyO cd ac as_ id L P := hRD.keys
  have hRt := hRD.rt HR.out
  have hEl : E.length ≤ 1000000 := by rw [hlen]; exact HKL.out.2
  have hE0 : 0 < E.length := by rw [hlen]; exact HKL.out.1
  have HDO := hide (do_any w3.heap.size g cap E (I.bk x) cd ac as_ qt nm id _ pa P.length pc L room w4 hS4 (by rw [hkE]; exact ky_inc _ _ _ _ _ _) hRD.sx hRt hE0 hEl hL4 (fun b hb e => by have := (HLF.out b hb).2; have := HV3.out.size; omega) (by have := HLL.out.1; omega) (fun h => by rw [hkE]; exact ky_rec h) (fun h l hl => by rw [hkE]; exact ⟨(ky_leg h hl).1, (ky_leg h hl).2, HQ.out.2 l hl⟩) (fun h => by rw [hkE]; exact ⟨ky_pos (by have := HC.out; omega), HQ.out.1⟩))
  obtain ⟨y0, y1, y2, y3, y4, y5, y6, y7⟩ := eight_cells NO4.out rfl
  have HLO : Hid (∀ a ∈ E, ∀ b, a.now.mv.ownBlock = some b ∨ a.now.lv.ownBlock = some b → b ≠ w.heap.size + 1) := hide (fun a hA b hb e => by have := hRD.lo a hA b hb; omega)
  have HX4 := hide (And.intro hS4 (And.intro hRD (And.intro hV4 (And.intro hF4 (And.intro hH4 (And.intro hg4 (And.intro hA3 (And.intro hFlow (And.intro hgB (And.intro hRt (And.intro hEl (And.intro hE0 hkE))))))))))))
  clear hlen hL4 HRD hS4 hRD hV4 hf4 hF4 hH4 hg4 hA3 hFlow hgB hRt hEl hE0 hkE NO3 NA3
  go_wp2_with fail
  refine HDO.out.mono ?_
  intro r w5 hD
  obtain ⟨hS4, hRD, hV4, hF4, hH4, hg4, hA3, hFlow, hgB, hRt, hEl, hE0, hkE⟩ := HX4.out
  have hET : ∀ W : World, w4.grownBy W (some g) → ErrType W := fun W hg => HE.out.blk ((hg.block _ (Nat.lt_of_lt_of_le HE.out.lt HFR4.out.size) (fun e => by injection e with e; have := HE.out.lt; have := HV3.out.size; omega)).trans (HFR4.out.block _ HE.out.lt HEF.out))
  have hA5 : ∀ W : World, w4.grownBy W (some g) → W.heap[w.heap.size + 1]? = some (.cells #[.int .i64 0, .int .i64 0, .slice none 0 0] 55 (0, 0)) := fun W hg => (hg.block _ (Array.getElem?_eq_some_iff.1 NA4.out).1 (fun e => by injection e with e; omega)).trans NA4.out
  have HUF : Hid (∀ b, F' b → F b ∨ w.heap.size ≤ b) := hide (fun b hb => (hF4 b hb).imp (fun k => k) (fun k => Nat.le_trans HV3.out.size k))
  have HNH : Hid (¬ H' (w.heap.size + 1)) := hide (fun hb => by
    rcases hH4 _ hb with k | k
    · have := HFl.out _ k; omega
    · omega)
  cases hdo : doO (I.bk x) cd ac as_ qt nm id L room with
  | no t e =>
    rw [hdo] at hD
    obtain ⟨rfl, hg5⟩ := hD
    have hex : ∃ k, NoK k t e := (doO_er (K := kyO cd ac as_ id L P) HR.out (fun h l hl => ky_leg h hl) (fun h => ky_pos (by have := HC.out; omega)) hdo).k
    obtain ⟨k, hk⟩ := hex
    have HNK := hide hk
    have HO := hide hdo
    have HRF := hide (refused_k hk w5 (hET w5 hg5))
    have HV5 := hide (I.keep hV4 hg5.size (fun b hb => hg5.block b (I.low hV4 b hb) (fun e => by injection e with e; exact hg4 (by rw [← e]; exact hb))))
    have HF5 := hide (FrB.grown HFR4.out hg5 (by have := HV3.out.size; omega))
    have NA5 := hide (hA5 w5 hg5)
    clear hdo hg5 hk HDO HX4 hS4 hRD hV4 hF4 hH4 hg4 hA3 hFlow hgB hRt hEl hE0 hkE hET hA5 NO4 NA4 y0 y1 y2 y3 y4 y5 y6 y7
    go_wp2_with fail
    refine HRF.out.mono ?_
    rintro r w6 ⟨rfl, hb6⟩
    have HV6 := hide (I.keep HV5.out hb6.size (fun b hb => hb6.block b (I.low HV5.out b hb)))
    have HF6 := hide (HF5.out.belowN hb6 HF5.out.size)
    have HNA := hide (blk_later NA5.out hb6)
    clear hb6 HRF NA5
    obtain ⟨a0, a1, a2⟩ := three_cells HNA.out rfl
    obtain ⟨V0, hV0⟩ : ∃ x, w6.setCell ⟨w.heap.size + 1, 0, none⟩ (.int .i64 k) = x := ⟨_, rfl⟩
    have M0 := setB HNA.out 0 (.int .i64 k) rfl
    have b0 := (Below.refl (w.heap.size + 1) w6).setCell (p := ⟨w.heap.size + 1, 0, none⟩) (Nat.le_refl _) (.int .i64 k)
    have e0 : ∀ b, b ≠ w.heap.size + 1 → (w6.setCell ⟨w.heap.size + 1, 0, none⟩ (.int .i64 k)).heap[b]? = w6.heap[b]? := fun b hb2 => Below.heap_setCell w6 ⟨w.heap.size + 1, 0, none⟩ (.int .i64 k) b hb2
    rw [hV0] at M0 b0 e0
    obtain ⟨V1, hV1⟩ : ∃ x, V0.setCell ⟨w.heap.size + 1, 1, none⟩ (.int .i64 0) = x := ⟨_, rfl⟩
    have M1 := setB M0 1 (.int .i64 0) rfl
    have b1 := b0.setCell (p := ⟨w.heap.size + 1, 1, none⟩) (Nat.le_refl _) (.int .i64 0)
    have e1 : ∀ b, b ≠ w.heap.size + 1 → (V0.setCell ⟨w.heap.size + 1, 1, none⟩ (.int .i64 0)).heap[b]? = V0.heap[b]? := fun b hb2 => Below.heap_setCell V0 ⟨w.heap.size + 1, 1, none⟩ (.int .i64 0) b hb2
    rw [hV1] at M1 b1 e1
    obtain ⟨V2, hV2⟩ : ∃ x, V1.setCell ⟨w.heap.size + 1, 2, none⟩ (.slice none 0 0) = x := ⟨_, rfl⟩
    have M2 := setB M1 2 (.slice none 0 0) rfl
    have b2 := b1.setCell (p := ⟨w.heap.size + 1, 2, none⟩) (Nat.le_refl _) (.slice none 0 0)
    have e2 : ∀ b, b ≠ w.heap.size + 1 → (V1.setCell ⟨w.heap.size + 1, 2, none⟩ (.slice none 0 0)).heap[b]? = V1.heap[b]? := fun b hb2 => Below.heap_setCell V1 ⟨w.heap.size + 1, 2, none⟩ (.slice none 0 0) b hb2
    rw [hV2] at M2 b2 e2
    obtain ⟨u0, u1, u2⟩ := three_cells M0 rfl
    obtain ⟨v0, v1, v2⟩ := three_cells M1 rfl
    obtain ⟨d0, d1, d2⟩ := three_cells M2 rfl
    have f0 := nofz HNA.out 0
    have f1 := nofz M0 1
    have f2 := nofz M1 2
    have HEQ : Hid (∀ b, b ≠ w.heap.size + 1 → V2.heap[b]? = w6.heap[b]?) := hide (fun b hb => (e2 b hb).trans ((e1 b hb).trans (e0 b hb)))
    have HBS : Hid (Below (w.heap.size + 1) w6 V2) := hide b2
    have HAP : Hid (APE I (gxs I x (kyO cd ac as_ id L P)) F w F' H' V2) := hide ⟨I.keep HV6.out HBS.out.size (fun b hb => HEQ.out b (fun e => HNH.out (by rw [← e]; exact hb))), HF6.out.belowN HBS.out (by omega), HUF.out⟩
    clear M0 M1 M2 b0 b1 b2 e0 e1 e2 HNA
    go_wp2_with fail
    exact bodyPost_ret (v := .tuple #[.agg #[.int .i64 k, .int .i64 0, .slice none 0 0], .slice none 0 0]) (by simp [results, Tryz.results24, go_sem, d0, d1, d2]) rfl (by rw [HO.out]; exact ⟨k, F', H', HNK.out, rfl, HAP.out⟩)
    
  | ok st S' =>
    rw [hdo] at hD
    obtain ⟨E', rfl, hS5, hKW, hSX, hNB, hg5⟩ := hD
    have hrp := doO_rt (K := kyO cd ac as_ id L P) HR.out (fun h => ky_rec h) (fun h l hl => ky_leg h hl) (fun h => ky_pos (by have := HC.out; omega)) hdo
    have HO := hide hdo
    have hV5 := I.keep hV4 hg5.size (fun b hb => hg5.block b (I.low hV4 b hb) (fun e => by injection e with e; exact hg4 (by rw [← e]; exact hb)))
    have hke : eks E' = kyO cd ac as_ id L P := hKW.keys.trans hkE
    have hws : ∀ e ∈ E', e.was.cx = I.bk x e.k ∧ ∃ a ∈ E, a.k = e.k ∧ e.was = a.was := fun e he => by
      obtain ⟨j, hj⟩ := List.mem_iff_getElem?.1 he
      have hl : j < E.length := by have := (List.getElem?_eq_some_iff.1 hj).1; rw [hKW.1] at this; exact this
      have ha : E[j]? = some E[j] := List.getElem?_eq_getElem hl
      have h1 := hKW.2 j _ e ha hj
      have h2 := hRD.is _ (List.mem_of_getElem? ha)
      exact ⟨by rw [h1.2, h2.1, h2.2, h1.1], _, List.mem_of_getElem? ha, h1.1.symm, h1.2⟩
    have hrt : ∀ e ∈ E', BL.Rt e.now.av e.now.ml := fun e he => by
      have hk : e.k ∈ kyO cd ac as_ id L P := by rw [← hke]; exact List.mem_map_of_mem he
      have h1 := hrp _ hk
      unfold psX at h1
      rw [← hSX e he] at h1
      exact h1
    have hlw : ∀ e ∈ E', ∀ b, e.now.mv.ownBlock = some b ∨ e.now.lv.ownBlock = some b → b ≠ w.heap.size + 1 := fun e he b hb hba => by
      subst hba
      rcases hNB e he _ hb with ⟨a, hA, hab⟩ | h2
      · have hm := hRD.is a hA
        exact HLO.out a hA _ (hab.elim (fun k => .inl k) (fun k => .inr k)) rfl
      · have := (Array.getElem?_eq_some_iff.1 NA4.out).1; omega
    have hg5l : g < w5.heap.size := (World.ownsRow.lt hS5.own g rfl).2
    have HPU := hide (put_any I (gxs I x (kyO cd ac as_ id L P)) (fun b => b ≠ w.heap.size + 1) F' H' w3.heap.size g E.length cap E' w5 hS5 hV5 (nf_done hRD.nf hKW hNB (fun b hb => I.low hV4 b (I.sub hV4 b hb))) (fun h => hg4 (I.sub hV4 g h)) hg5l hEl (fun e he => ⟨by
        obtain ⟨a, hA, _, hwa⟩ := (hws e he).2
        have h2 := hRD.is a hA
        have h3 := (hRt a hA).few
        rw [hwa, h2.1]
        omega, by have := (hrt e he).few; omega, by
        have h4 := I.few hV4 e.k
        rw [gxs_bk] at h4
        have h5 : e.now.ll = ((_ : Ky → CX) e.k).ll := congrArg CX.ll (hSX e he)
        rcases doO_ll HO.out e.k with h6 | h6
        · rw [h5, h6]; exact h4.2
        · rw [h5, h6]; have := HLL.out.1; omega⟩) (by have h := gxs_rm I x (kyO cd ac as_ id L P); have h2 := HRM.out; have h3 := HKL.out.2; omega) (fun b hb => fun e => HNH.out (by rw [← e]; exact hb)) (fun b hb => by have := HFR4.out.size; have := hg5.size; have := (Array.getElem?_eq_some_iff.1 NA4.out).1; omega) hlw)
    have HF5 := hide (FrB.grown HFR4.out hg5 (by have := HV3.out.size; omega))
    have NA5 := hide (hA5 w5 hg5)
    have HKE := hide hke
    have HSX := hide hSX
    have HWS : Hid (∀ e ∈ E', e.was.cx = I.bk x e.k) := hide (fun e he => (hws e he).1)
    have HA5 : Hid (w.heap.size + 1 < w5.heap.size) := hide ((Array.getElem?_eq_some_iff.1 NA5.out).1)
    have HF'A : Hid (¬ F' (w.heap.size + 1)) := hide (fun h => HNH.out (I.sub hV4 _ h))
    clear hdo hg5 HDO HX4 hS4 hRD hV4 hF4 hH4 hg4 hA3 hFlow hgB hRt hEl hE0 hkE hET hA5 NO4 NA4 y0 y1 y2 y3 y4 y5 y6 y7 hS5 hKW hSX hNB hrp hV5 hke hws hrt hlw hg5l
    go_wp2_with fail
    refine HPU.out.mono ?_
    rintro r w6 ⟨v, F2, H2, rfl, hPT⟩
    obtain ⟨va, vc, hv⟩ := KY.OM.slice hPT.row
    obtain ⟨vn, hvn⟩ : ∃ n, (chg E').length = n := ⟨_, rfl⟩
    rw [hvn] at hv
    subst hv
    have HPT := hide hPT
    have HNA := hide ((hPT.fr.block (w.heap.size + 1) HA5.out HF'A.out).trans NA5.out)
    have HF6 := hide (HF5.out.trans hPT.fr (fun b hb hf => (HUF.out b hf).resolve_right (by omega)))
    have HUF0 := HUF
    clear HUF
    have HUF : Hid (∀ b, F2 b → F b ∨ w.heap.size ≤ b) := hide (fun b hb => by
      rcases hPT.up b hb with k | k
      · exact HUF0.out b k
      · right; have := HA5.out; omega)
    clear hPT HPU hvn HUF0
    obtain ⟨a0, a1, a2⟩ := three_cells HNA.out rfl
    obtain ⟨V0, hV0⟩ : ∃ x, w6.setCell ⟨w.heap.size + 1, 0, none⟩ (.int .i64 0) = x := ⟨_, rfl⟩
    have M0 := setB HNA.out 0 (.int .i64 0) rfl
    have b0 := (Below.refl (w.heap.size + 1) w6).setCell (p := ⟨w.heap.size + 1, 0, none⟩) (Nat.le_refl _) (.int .i64 0)
    have e0 : ∀ b, b ≠ w.heap.size + 1 → (w6.setCell ⟨w.heap.size + 1, 0, none⟩ (.int .i64 0)).heap[b]? = w6.heap[b]? := fun b hb2 => Below.heap_setCell w6 ⟨w.heap.size + 1, 0, none⟩ (.int .i64 0) b hb2
    rw [hV0] at M0 b0 e0
    obtain ⟨V1, hV1⟩ : ∃ x, V0.setCell ⟨w.heap.size + 1, 1, none⟩ (.int .i64 st) = x := ⟨_, rfl⟩
    have M1 := setB M0 1 (.int .i64 st) rfl
    have b1 := b0.setCell (p := ⟨w.heap.size + 1, 1, none⟩) (Nat.le_refl _) (.int .i64 st)
    have e1 : ∀ b, b ≠ w.heap.size + 1 → (V0.setCell ⟨w.heap.size + 1, 1, none⟩ (.int .i64 st)).heap[b]? = V0.heap[b]? := fun b hb2 => Below.heap_setCell V0 ⟨w.heap.size + 1, 1, none⟩ (.int .i64 st) b hb2
    rw [hV1] at M1 b1 e1
    obtain ⟨V2, hV2⟩ : ∃ x, V1.setCell ⟨w.heap.size + 1, 2, none⟩ (.slice none 0 0) = x := ⟨_, rfl⟩
    have M2 := setB M1 2 (.slice none 0 0) rfl
    have b2 := b1.setCell (p := ⟨w.heap.size + 1, 2, none⟩) (Nat.le_refl _) (.slice none 0 0)
    have e2 : ∀ b, b ≠ w.heap.size + 1 → (V1.setCell ⟨w.heap.size + 1, 2, none⟩ (.slice none 0 0)).heap[b]? = V1.heap[b]? := fun b hb2 => Below.heap_setCell V1 ⟨w.heap.size + 1, 2, none⟩ (.slice none 0 0) b hb2
    rw [hV2] at M2 b2 e2
    obtain ⟨u0, u1, u2⟩ := three_cells M0 rfl
    obtain ⟨v0, v1, v2⟩ := three_cells M1 rfl
    obtain ⟨d0, d1, d2⟩ := three_cells M2 rfl
    have f0 := nofz HNA.out 0
    have f1 := nofz M0 1
    have f2 := nofz M1 2
    have HEQ : Hid (∀ b, b ≠ w.heap.size + 1 → V2.heap[b]? = w6.heap[b]?) := hide (fun b hb => (e2 b hb).trans ((e1 b hb).trans (e0 b hb)))
    have HBS : Hid (Below (w.heap.size + 1) w6 V2) := hide b2
    have HAP : Hid (APE I (pxs I (gxs I x (kyO cd ac as_ id L P)) E') F w F2 H2 V2) := hide ⟨I.keep HPT.out.vw HBS.out.size (fun b hb => HEQ.out b (HPT.out.uh b hb)), HF6.out.belowN HBS.out (by omega), HUF.out⟩
    have HOM : Hid (KY.OM V2 w.heap.size (.slice va vn vc) (chg E')) := hide (KY.OM.base (owns_blk HPT.out.row (fun b hb => HEQ.out b (fun e => by have := (World.ownsRow.lt HPT.out.row b hb).1; have := HA5.out; omega))) (fun b hb => by have := (World.ownsRow.lt HPT.out.row b hb).1; have := HA5.out; omega))
    clear M0 M1 M2 b0 b1 b2 e0 e1 e2 HNA
    go_wp2_with fail
    exact bodyPost_ret (v := .tuple #[.agg #[.int .i64 0, .int .i64 st, .slice none 0 0], .slice va vn vc]) (by simp [results, Tryz.results24, go_sem, d0, d1, d2]) rfl (by rw [HO.out]; exact ⟨_, E', F2, H2, rfl, HOM.out, HPT.out.ap, HKE.out, HSX.out, HWS.out, HAP.out⟩)
    
end Go.Proofs.YtdjhbecbbmdimaaGreatDoor
