/-
  My own text: layer 19: the document's Put (printed by mkqd5.py).
-/
import Derived.Test.YtknnojjfdfkdmaaGreatDoorQD4
import Derived.Test.YtknnojjfdfkdmaaGreatDoorQRs
import Derived.Test.YtknnojjfdfkdmaaGreatDoorGKS
namespace Go.Proofs.YtknnojjfdfkdmaaGreatDoor
open Go.RowKit Go.Extern Go.MapKept Go.ChangeMaps

theorem below_dU {B : Nat} {a w : World} (h : Below B a w) (n : Nat) : Below B a (w.drewN n) := h.trans ⟨rfl, rfl, rfl, Nat.le_refl _, fun _ _ => rfl⟩
/-- Behind the append: what the store will leave. -/
theorem DQ.put {w0 w w8 : World} {B r : Nat} {room id : Int} {vl v8 : Value} {E : List De} {K : List Ky} {ka : Option Addr} {kc : Nat} (h0 : DQ w0 B r room vl E) (hb : Below w0.heap.size w0 w) (hk : KY.OM w w0.heap.size (.slice ka K.length kc) K) (hl : K.length ≤ 8796093022000) (ho : w8.ownsRow B 79 4 v8 (E.length + 1) (dcl E ++ [.int .i64 id, .slice ka K.length kc, .int .i64 0, .bool false])) (hg : w.grownBy w8 vl.ownBlock) (hat : v8.ownBlock = vl.ownBlock ∨ v8.ownBlock = some w.heap.size) :
    (∃ a c, v8 = .slice a (E.length + 1) c) ∧ w8.cell? ⟨r, 1, none⟩ = some vl ∧ w8.frozen? ⟨r, 1, none⟩ = false ∧ DTo w0 (w8.setCell ⟨r, 1, none⟩ v8) B r room vl E v8 (E ++ [⟨id, K, ka, kc, 0, false⟩]) := by
  have h := h0.later hb
  obtain ⟨e1, e2, e3, e4, e5⟩ := hg
  have hg : w.grownBy w8 vl.ownBlock := ⟨e1, e2, e3, e4, e5⟩
  have key : ∀ (g : Nat) (c : Array Value) (t : TypeId) (f : Nat × Nat), w.heap[g]? = some (.cells c t f) → t ≠ 79 → w8.heap[g]? = w.heap[g]? := fun g c t f hh ht => e5 g (Array.getElem?_eq_some_iff.1 hh).1 (fun e => by
    have e' : vl.ownBlock = some g := by first | exact e | exact e.symm
    obtain ⟨c1, f1, h1⟩ := ownsRow_kind h.row g e'
    exact ht (blk_types hh h1))
  have hd8 := (key r _ _ _ h.hd (by decide)).trans h.hd
  have ok : ∀ (u : Value) (L : List Ky) (C : Nat), KY.OM w C u L → KY.OM w8 C u L := fun u L C hu => owns_blk hu (fun g hgu => by
    obtain ⟨c1, f1, h1⟩ := ownsRow_kind hu g hgu
    exact key g _ _ _ h1 (by decide))
  have hne : ∀ y, y ≠ r → (w8.setCell ⟨r, 1, none⟩ v8).heap[y]? = w8.heap[y]? := fun y hy => Below.heap_setCell _ _ _ y hy
  have kk : ∀ (u : Value) (L : List Ky) (C : Nat), KY.OM w8 C u L → KY.OM (w8.setCell ⟨r, 1, none⟩ v8) C u L := fun u L C hu => owns_blk hu (fun g hgu => hne g (fun e => by
    obtain ⟨c1, f1, h1⟩ := ownsRow_kind hu g hgu
    rw [e] at h1
    exact absurd (blk_types hd8 h1) (by decide)))
  have q1 := setCell_eq_setRow w8 r 1 _ _ _ v8 hd8
  have hoE : OD w8 B v8 (E ++ [⟨id, K, ka, kc, 0, false⟩]) := by unfold OD; rw [List.length_append, dcl_app]; exact ho
  refine ⟨?_, by rw [cell_of_row _ _ 1 _ _ _ hd8]; rfl, clr_row hd8 1, ⟨⟨by rw [q1]; exact setRow_heap w8 r _ _ _ _ hd8, owns_blk hoE (fun g hgu => hne g (fun e => ?_)), fun e he => ?_, h0.br, ?_⟩, ((FS.below hb).trans ⟨e1, e2, e3, e4, fun y hy hn => e5 y hy (fun e => hn (.inr (.inl (by first | exact e | exact e.symm))))⟩).trans (FS.set (.inl rfl)), fun g hgg => ?_⟩⟩
  · rcases ho.2 with ⟨_, h1⟩ | ⟨g, cap, cur, h1, _⟩
    · omega
    · exact ⟨_, _, h1⟩
  · obtain ⟨c1, f1, h1⟩ := ownsRow_kind ho g hgu
    rw [e] at h1
    exact absurd (blk_types hd8 h1) (by decide)
  · rcases List.mem_append.1 he with he | he
    · exact ⟨kk _ _ _ (ok _ _ _ (h.ks e he).1), (h.ks e he).2⟩
    · rw [List.mem_singleton.1 he]
      exact ⟨low_row (kk _ _ _ (ok _ _ _ hk)) h0.bw, hl⟩
  · have := h0.bw
    have := hb.size
    simp [World.setCell]; omega
  · rcases hgg with hgg | hgg | ⟨e, he, hgg⟩
    · exact .inl (.inl hgg)
    · rcases hat with q | q
      · exact .inl (.inr (.inl (by rw [← q]; exact hgg)))
      · rw [q] at hgg
        have := Option.some.inj hgg
        have := hb.size
        exact .inr (by omega)
    · rcases List.mem_append.1 he with he | he
      · exact .inl (.inr (.inr ⟨e, he, hgg⟩))
      · rw [List.mem_singleton.1 he] at hgg
        exact .inr (World.ownsRow.lt hk g hgg).1
set_option maxRecDepth 100000 in
set_option maxHeartbeats 8000000 in
theorem rput_any (B r : Nat) (room id : Int) (vl v : Value) (K : List Ky) (E : List De) (w : World) (h : DQ w B r room vl E) (hl : E.length < 2932031007402) (hv : KY.RM w v K) (hKl : K.length ≤ 8796093022000) :
    Calls Tryz.prog 37 #[.pointer (some ⟨r, 0, none⟩), .int .i64 id, v] w fun e w' =>
      ((∃ p ∈ E, p.id = id) ∧ e = .returned (.int .i64 11) ∧ Below w.heap.size w w') ∨
      ((∀ p ∈ E, p.id ≠ id) ∧ room ≤ (E.length : Int) ∧ e = .returned (.int .i64 20) ∧ Below w.heap.size w w') ∨
      ((∀ p ∈ E, p.id ≠ id) ∧ (E.length : Int) < room ∧ e = .returned (.int .i64 0) ∧ ∃ (vl' : Value) (ka : Option Addr) (kc : Nat), DTo w w' B r room vl E vl' (E ++ [⟨id, K, ka, kc, 0, false⟩])) := by
  obtain ⟨a, c, rfl⟩ := h.sl
  have k0 := h.c0
  have k1 := h.c1
  have HF := hide (rfind_any B r room id _ E w h (by omega))
  have HV := hide hv
  obtain ⟨va, vc, rfl⟩ := KY.rm_lt hv
  have HL := hide hl
  have HD := hide h
  have HKL := hide hKl
  clear h hl hv hKl
  rcases fdD_cases id E with ⟨h1, h2⟩ | ⟨kk, q, h1, hp, hid⟩
  · rw [h1] at HF
    have HNO := hide h2
    clear h1 h2
    by_cases hfl : room ≤ (E.length : Int)
    · have hd1 : decide ((E.length : Int) ≥ room) = true := decide_eq_true hfl
      have hd2 : decide (room ≤ (E.length : Int)) = true := decide_eq_true hfl
      have HFL := hide hfl
      clear hfl
      go_enter Tryz.func37, Tryz.ntmps37
      go_wp2_with fail
      refine HF.out.mono ?_
      rintro e w' ⟨rfl, e9⟩
      replace e9 := e9.symm
      subst e9
      go_wp2_with fail
      go_quiet (fail)
      go_wp2_with fail
      go_ret
      exact .inr (.inl ⟨HNO.out, HFL.out, rfl, below_dU (Below.refl _ _) _⟩)
    · have hd1 : decide ((E.length : Int) ≥ room) = false := decide_eq_false hfl
      have hd2 : decide (room ≤ (E.length : Int)) = false := decide_eq_false hfl
      have HRM : Hid ((E.length : Int) < room) := hide (by omega)
      clear hfl
      go_enter Tryz.func37, Tryz.ntmps37
      go_wp2_with fail
      refine HF.out.mono ?_
      rintro e w' ⟨rfl, e9⟩
      replace e9 := e9.symm
      subst e9
      go_wp2_with fail
      go_quiet (fail)
      have HBW := hide (below_dU (Below.refl w.heap.size w) nq)
      generalize w.drewN nq = W0 at HBW ⊢
      have HD0 := hide (HD.out.later HBW.out)
      have HDd := hide (HD0.out.later ((Below.refl W0.heap.size W0).drew))
      have HBD := hide ((Below.refl W0.heap.size W0).drew)
      have HCP := hide (KY.copyM_any (.slice va K.length vc) K W0.drew ((HV.out.later HBW.out).later HBD.out) HKL.out)
      clear k0 k1 HF
      go_wp2_with fail
      refine z_begins (S := (fun W : World => W.cell? ⟨r, 1, none⟩ = some (.slice a E.length c))) 13 14 #[false, false, false, false, false, false, false, false, false, false, false, false, false, false] (by kernel_rfl) (by kernel_rfl) (by kernel_rfl) HDd.out.c1 (fun hHeld => ?_)
      refine zk (v := ?_) 0 21 #[true, false, false, false, false, false, false, false, false, false, false, false, false, false] rfl rfl (by kernel_rfl) (by kernel_rfl) (by kernel_rfl) (by kernel_rfl) (fun _ _ _ h => h) (by kernel_rfl) (by rfl) ?hy hHeld ?_
      case hy => intro W _; first | (go_simp; done) | (go_simp; with_reducible rfl)
      simp only [List.setIfInBounds_toArray, List.set_cons_zero, List.set_cons_succ]
      refine zk (v := ?_) 1 22 #[true, true, false, false, false, false, false, false, false, false, false, false, false, false] rfl rfl (by kernel_rfl) (by kernel_rfl) (by kernel_rfl) (by kernel_rfl) (fun _ _ _ h => h) (by kernel_rfl) (by rfl) ?hy hHeld ?_
      case hy => intro W _; first | (go_simp; done) | (go_simp; with_reducible rfl)
      simp only [List.setIfInBounds_toArray, List.set_cons_zero, List.set_cons_succ]
      refine zk (v := ?_) 2 23 #[true, true, true, false, false, false, false, false, false, false, false, false, false, false] rfl rfl (by kernel_rfl) (by kernel_rfl) (by kernel_rfl) (by kernel_rfl) (fun _ _ _ h => h) (by kernel_rfl) (by rfl) ?hy hHeld ?_
      case hy => intro W _; first | (go_simp; done) | (go_simp; with_reducible rfl)
      simp only [List.setIfInBounds_toArray, List.set_cons_zero, List.set_cons_succ]
      refine zk (v := ?_) 3 24 #[true, true, true, true, false, false, false, false, false, false, false, false, false, false] rfl rfl (by kernel_rfl) (by kernel_rfl) (by kernel_rfl) (by kernel_rfl) (fun _ _ _ h => h) (by kernel_rfl) (by rfl) ?hy hHeld ?_
      case hy => intro W _; first | (go_simp; done) | (go_simp; with_reducible rfl)
      simp only [List.setIfInBounds_toArray, List.set_cons_zero, List.set_cons_succ]
      refine zk (v := ?_) 4 25 #[true, true, true, true, true, false, false, false, false, false, false, false, false, false] rfl rfl (by kernel_rfl) (by kernel_rfl) (by kernel_rfl) (by kernel_rfl) (fun _ _ _ h => h) (by kernel_rfl) (by rfl) ?hy hHeld ?_
      case hy => rintro W hr0; first | (go_simp; done) | (go_simp; with_reducible rfl)
      simp only [List.setIfInBounds_toArray, List.set_cons_zero, List.set_cons_succ]
      refine zk (v := ?_) 5 26 #[true, true, true, true, true, true, false, false, false, false, false, false, false, false] rfl rfl (by kernel_rfl) (by kernel_rfl) (by kernel_rfl) (by kernel_rfl) (fun _ _ _ h => h) (by kernel_rfl) (by rfl) ?hy hHeld ?_
      case hy => intro W _; first | (go_simp; done) | (go_simp; with_reducible rfl)
      simp only [List.setIfInBounds_toArray, List.set_cons_zero, List.set_cons_succ]
      refine zk (v := ?_) 6 27 #[true, true, true, true, true, true, true, false, false, false, false, false, false, false] rfl rfl (by kernel_rfl) (by kernel_rfl) (by kernel_rfl) (by kernel_rfl) (fun _ _ _ h => h) (by kernel_rfl) (by rfl) ?hy hHeld ?_
      case hy => intro W _; first | (go_simp; done) | (go_simp; with_reducible rfl)
      simp only [List.setIfInBounds_toArray, List.set_cons_zero, List.set_cons_succ]
      refine z_ready 7 #[true, true, true, true, true, true, true, true, false, false, false, false, false, false] rfl (by kernel_rfl) (by kernel_rfl) (by rfl) (fun K' hK => ?_)
      refine op_call_fn 60 #[.slice va K.length vc] (by kernel_rfl) ?_
      refine HCP.out.mono ?_
      rintro e w5 ⟨v5, rfl, o5, b5⟩
      refine ⟨_, rfl, ?_⟩
      obtain ⟨a5, c5, hv5⟩ := KY.OM.slice o5
      subst hv5
      have HD5 := hide (HDd.out.later b5)
      have HO5 := hide o5
      have HB5 := hide b5
      clear o5 b5
      go_simp
      refine hK.out _ _ (fun _ => HD5.out.c1) (fun hHeld => ?_)
      replace hHeld := hHeld (by decide)
      clear hK K'
      refine zk (v := ?_) 8 29 #[true, true, true, true, true, true, true, true, true, false, false, false, false, false] rfl rfl (by kernel_rfl) (by kernel_rfl) (by kernel_rfl) (by kernel_rfl) (fun _ _ _ h => h) (by kernel_rfl) (by rfl) ?hy hHeld ?_
      case hy => intro W _; first | (go_simp; done) | (go_simp; with_reducible rfl)
      simp only [List.setIfInBounds_toArray, List.set_cons_zero, List.set_cons_succ]
      have HD6 := hide (HD5.out.later ((Below.refl w5.heap.size w5).alloc (Nat.le_refl _) (.cells #[.int .i64 id, .slice a5 K.length c5, .int .i64 0, .bool false] 79)))
      refine z_ready 9 #[true, true, true, true, true, true, true, true, true, true, false, false, false, false] rfl (by kernel_rfl) (by kernel_rfl) (by rfl) (fun K' hK => ?_)
      go_simp
      refine hK.out _ _ (fun _ => HD6.out.c1) (fun hHeld => ?_)
      replace hHeld := hHeld (by decide)
      clear hK K'
      obtain ⟨it0, hit, hz0, hz1, hz2⟩ := info_parts Tryz.infoDe
      obtain ⟨v8, w8, hrun, ho8, hg8, _, hat8⟩ := run_append_own_at (P := Tryz.prog) (w5.alloc (.cells #[.int .i64 id, .slice a5 K.length c5, .int .i64 0, .bool false] 79)) B 54 54 79 it0 (.agg #[.int .i64 0, .slice none 0 0, .int .i64 0, .bool false]) 4 48 Tryz.underlying54 hit hz0 hz1 hz2 rfl (by decide) (.slice a E.length c) E.length (dcl E) HD6.out.row ⟨w5.heap.size, 0, none⟩ 1 1 [.int .i64 id, .slice a5 K.length c5, .int .i64 0, .bool false] rfl (fun j u hj => by rw [Addr.add_lit, cell_of_row _ _ _ _ _ _ (alloc_new w5 _), Nat.zero_add]; simpa using hj) (by intro u hu; simp at hu; rcases hu with rfl | rfl | rfl | rfl <;> rfl) (by have := HL.out; unfold maxLen; omega) (by have := HL.out; omega) HD6.out.bw
      have HTO := hide (HDd.out.put (id := id) (K := K) (ka := a5) (kc := c5) (HB5.out.alloc HB5.out.size (.cells #[.int .i64 id, .slice a5 K.length c5, .int .i64 0, .bool false] 79)) (owns_lat HO5.out ((Below.refl w5.heap.size w5).alloc (Nat.le_refl _) (.cells #[.int .i64 id, .slice a5 K.length c5, .int .i64 0, .bool false] 79))) HKL.out ho8 hg8 hat8)
      obtain ⟨a8, c8, hv8⟩ := HTO.out.1
      subst hv8
      have HRUN := hide hrun
      have k8 := HTO.out.2.1
      have f8 := HTO.out.2.2.1
      clear hrun ho8 hg8 hat8 hit hz0 hz1 hz2
      refine z_ready 10 #[true, true, true, true, true, true, true, true, true, true, true, false, false, false] rfl (by kernel_rfl) (by kernel_rfl) (by rfl) (fun K' hK => ?_)
      refine op_append_gen _ _ rfl _ ⟨w5.heap.size, 0, none⟩ 1 1 rfl rfl _ w8 HRUN.out ?_
      simp only [Act.put, List.setIfInBounds_toArray]
      refine hK.out _ _ (fun _ => k8) (fun hHeld => ?_)
      replace hHeld := hHeld (by decide)
      clear hK K'
      refine z_ready 11 #[true, true, true, true, true, true, true, true, true, true, true, true, false, false] rfl (by kernel_rfl) (by kernel_rfl) (by rfl) (fun K' hK => ?_)
      go_simp
      refine hK.out _ _ (fun _ => k8) (fun hHeld => ?_)
      replace hHeld := hHeld (by decide)
      clear hK K'
      refine z_ready 12 #[true, true, true, true, true, true, true, true, true, true, true, true, true, false] rfl (by kernel_rfl) (by kernel_rfl) (by rfl) (fun K' hK => ?_)
      go_simp
      refine hK.out _ _ (fun _ => k8) (fun hHeld => ?_)
      replace hHeld := hHeld (by decide)
      clear hK K'
      refine z_ready 13 #[true, true, true, true, true, true, true, true, true, true, true, true, true, true] rfl (by kernel_rfl) (by kernel_rfl) (by rfl) (fun K' hK => ?_)
      go_simp
      refine hK.out _ _ (fun h => absurd rfl h) (fun _ => ?_)
      clear hK K'
      refine z_done (by kernel_rfl) ?_ _
      go_wp2_with fail
      go_ret
      exact .inr (.inr ⟨HNO.out, HRM.out, rfl, _, a5, c5, ((DTo.same HD.out HBW.out).trans (DTo.same HD0.out HBD.out)).trans HTO.out.2.2.2⟩)
  · rw [h1] at HF
    have HIN : Hid (∃ p ∈ E, p.id = id) := hide ⟨q, List.mem_of_getElem? hp, hid⟩
    have hd2 : decide ((kk : Int) ≥ 0) = true := decide_eq_true (by omega)
    have hd3 : decide ((0 : Int) ≤ (kk : Int)) = true := decide_eq_true (by omega)
    clear h1 hp hid
    go_enter Tryz.func37, Tryz.ntmps37
    go_wp2_with fail
    refine HF.out.mono ?_
    rintro e w' ⟨rfl, e9⟩
    replace e9 := e9.symm
    subst e9
    go_wp2_with fail
    go_ret
    exact .inl ⟨HIN.out, rfl, Below.refl _ _⟩
end Go.Proofs.YtknnojjfdfkdmaaGreatDoor
