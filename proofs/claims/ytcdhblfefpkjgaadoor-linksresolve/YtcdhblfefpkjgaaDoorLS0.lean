/-
  My own text: LVD, LVE, LS0 in one.
-/
import Derived.Test.YtcdhblfefpkjgaaDoorLVC
import Derived.Test.YtcdhblfefpkjgaaDoorHeld
namespace Go.Proofs.YtcdhblfefpkjgaaDoor
open Go.RowKit

/-- Two rows of pairs of one's own. -/
structure TS (w W : World) (B : Nat) (v1 v2 : Value) (A1 A2 : List (Int × Int)) : Prop where
  o1 : TW.OM W B v1 A1
  o2 : TW.OM W B v2 A2
  ap : ∀ g, v1.ownBlock = some g → v2.ownBlock = some g → False
  low : Below B w W
  bs : B ≤ W.heap.size
theorem TS.later {w W W' : World} {B : Nat} {v1 v2 : Value} {A1 A2 : List (Int × Int)} (h : TS w W B v1 v2 A1 A2) (hb : Below W.heap.size W W') : TS w W' B v1 v2 A1 A2 :=
  ⟨h.o1.later hb, h.o2.later hb, h.ap, h.low.trans (hb.mono h.bs), Nat.le_trans h.bs hb.size⟩
theorem TS.one {w W W' : World} {B : Nat} {v1 v2 v' : Value} {A1 A2 A' : List (Int × Int)} (h : TS w W B v1 v2 A1 A2) (ho : TW.OM W' B v' A') (hg : Grew W v1 W' v') : TS w W' B v' v2 A' A2 :=
  ⟨ho, owns_blk h.o2 fun g hq => hg.grown.block g (World.ownsRow.lt h.o2 g hq).2 (fun e => h.ap g e.symm hq), fun g h1 h2 => by
    rcases hg.lies g h1 with q | q
    · exact h.ap g q h2
    · have := (World.ownsRow.lt h.o2 g h2).2; omega, h.low.grown hg.grown h.bs (fun g hq => (World.ownsRow.lt h.o1 g hq).1), Nat.le_trans h.bs hg.grown.size⟩
theorem TS.two {w W W' : World} {B : Nat} {v1 v2 v' : Value} {A1 A2 A' : List (Int × Int)} (h : TS w W B v1 v2 A1 A2) (ho : TW.OM W' B v' A') (hg : Grew W v2 W' v') : TS w W' B v1 v' A1 A' :=
  have s : TS w W B v2 v1 A2 A1 := ⟨h.o2, h.o1, fun g a b => h.ap g b a, h.low, h.bs⟩
  have r := s.one ho hg
  ⟨r.o2, r.o1, fun g a b => r.ap g b a, r.low, r.bs⟩
theorem TS.start (w : World) : TS w w w.heap.size (.slice none 0 0) (.slice none 0 0) [] [] := ⟨TW.OM.nil _ _, TW.OM.nil _ _, (fun g h => by cases h), Below.refl _ _, Nat.le_refl _⟩
end Go.Proofs.YtcdhblfefpkjgaaDoor
namespace Go.Proofs.YtcdhblfefpkjgaaDoor
open Go.RowKit

theorem fm_len {α β : Type} (g : α → List β) (h : ∀ a, (g a).length ≤ 1) : ∀ l : List α, (l.flatMap g).length ≤ l.length
  | [] => Nat.le_refl _
  | a :: t => by
    have h1 := h a
    have h2 := fm_len g h t
    rw [List.flatMap_cons, List.length_append, List.length_cons]
    omega
theorem tU_len {f : Nat → Lk → List (Int × Int)} {T : List (List Lk)} (hf : ∀ y q, (f y q).length ≤ 1) (hT : ∀ l ∈ T, l.length ≤ 16) : ∀ x, (tU f T x).length ≤ 16 * x
  | 0 => Nat.le_refl _
  | x + 1 => by
    have ih := tU_len hf hT x
    have e : tU f T (x + 1) = tU f T x ++ (T.getD x []).flatMap (f x) := by unfold tU; rw [List.range_succ, List.flatMap_append, List.flatMap_singleton]
    have h1 := fm_len (f x) (hf x) (T.getD x [])
    have h2 : (T.getD x []).length ≤ 16 := by
      rw [List.getD_eq_getElem?_getD]
      cases h : T[x]? with
      | none => simp
      | some l => exact hT l (List.mem_of_getElem? h)
    rw [e, List.length_append]
    omega
theorem tI_len {f : Nat → Lk → List (Int × Int)} {T : List (List Lk)} (hf : ∀ y q, (f y q).length ≤ 1) (hT : ∀ l ∈ T, l.length ≤ 16) (x i : Nat) : (tI f T x i).length ≤ 16 * x + i := by
  have h1 := tU_len hf hT x
  have h2 := fm_len (f x) (hf x) ((T.getD x []).take i)
  unfold tI
  rw [List.length_append]
  rw [List.length_take] at h2
  omega
set_option maxRecDepth 100000 in
set_option maxHeartbeats 4000000 in
theorem ties_any (m : Nat) (v : Value) (R : List (List UInt8)) (T : List (List Lk)) (w : World) (hv : NL w v T) (hm : MP tx TOK w m (plR R)) (hR : R.length ≤ 4096) (hT : T.length ≤ 4096) (h16 : ∀ l ∈ T, l.length ≤ 16) (hq : ∀ l ∈ T, ∀ q ∈ l, TOK q.2) :
    Calls Tryd.prog 24 #[v, .map (some m)] w fun e w' => Below w.heap.size w w' ∧
      ((∃ (x i : Nat) (l : List Lk) (q : Lk) (no : Int), e = .returned (.tuple #[.slice none 0 0, .slice none 0 0, .iface 80 (.agg #[.int .i64 no, .int .i64 (x : Int), .int .i64 (i : Int)])]) ∧ T[x]? = some l ∧ l[i]? = some q ∧ Rgt R T x i ∧ (¬ LkK q ∧ no = 24 ∨ LkK q ∧ q.2 ∉ R ∧ no = 10)) ∨
        (∃ v1 v2, e = .returned (.tuple #[v1, v2, .nilIface]) ∧ TW.OM w' w.heap.size v1 (tU (wOf R) T T.length) ∧ TW.OM w' w.heap.size v2 (tU (bOf R) T T.length) ∧ (∀ g, v1.ownBlock = some g → v2.ownBlock = some g → False) ∧ Rgt R T T.length 0)) := by
  obtain ⟨a, cap, rfl, hr⟩ := hv
  have HR := hide hr
  have HM := hide hm
  have HL := hide (And.intro hR (And.intro h16 hq))
  have HE0 := hide (TS.start w)
  obtain ⟨n, hnn⟩ : ∃ n, T.length = n := ⟨_, rfl⟩
  have HN := hide (And.intro hnn hT)
  rw [hnn]
  clear hr hm hR hT h16 hq hnn
  go_enter Tryd.func24, Tryd.ntmps24
  go_wp2_with fail
  go_loopw [4, 5, 14] (fun v1 v2 i wr => ∃ k : Nat, k ≤ n ∧ i = .int .i64 (k : Int) ∧ Hid (Rgt R T k 0) ∧ Hid (TS w wr w.heap.size v1 v2 (tU (wOf R) T k) (tU (bOf R) T k))) (fun _ _ i _ => n - (intOf i).toNat)
  case atStart => exact ⟨0, Nat.zero_le _, rfl, hide (Rgt.zero R T), HE0⟩
  case round =>
    clear HE0
    obtain ⟨k, hkle, rfl, HG, HE0⟩ := hrel
    by_cases hkn : k < n
    · obtain ⟨l, hl⟩ : ∃ l, T[k]? = some l := ⟨_, List.getElem?_eq_getElem (by rw [HN.out.1]; exact hkn)⟩
      obtain ⟨b, off, rfl, hgl, hc⟩ := HR.out.resolve_left (fun h => by rw [h] at hl; simp at hl)
      obtain ⟨la, lc, c0, hlr⟩ := hc k l hl
      have hll := HL.out.2.1 l (List.mem_of_getElem? hl)
      have hlt := HL.out.2.2 l (List.mem_of_getElem? hl)
      have wk : wrap64 ((k : Int) + 1) = (k : Int) + 1 := by have := HN.out.2; have := HN.out.1; unfold wrap64; omega
      have k0 : (0 : Int) ≤ (k : Int) := by omega
      have k1 : (k : Int) < (n : Int) := by omega
      have HC := hide (fun (W : World) (hb : Below w.heap.size w W) => (hb.cell (p := ⟨b, off + k * 27 + 26, none⟩) hgl).trans c0)
      have HLR := hide hlr
      have HTL := hide hl
      have HLL := hide (And.intro hll hlt)
      have y0 := HC.out _ HE0.out.low
      have HE1 : Hid (TS w wr w.heap.size u4 u5 (tI (wOf R) T k 0) (tI (bOf R) T k 0)) := hide (by rw [tI_zero, tI_zero]; exact HE0.out)
      clear hc c0 hlr hl hll hlt hgl HE0
      go_wp2_with fail
      clear y0
      go_loopw [4, 5, 23] (fun v1 v2 i wq => ∃ e : Nat, e ≤ l.length ∧ i = .int .i64 (e : Int) ∧ Hid (Rgt R T k e) ∧ Hid (TS w wq w.heap.size v1 v2 (tI (wOf R) T k e) (tI (bOf R) T k e))) (fun _ _ i _ => l.length - (intOf i).toNat)
      case atStart => exact ⟨0, Nat.zero_le _, rfl, HG, HE1⟩
      case round =>
        clear HG HE1
        obtain ⟨e, hel, rfl, HG, HE1⟩ := hrel
        by_cases hlt : e < l.length
        · obtain ⟨⟨kd, rf⟩, hq⟩ : ∃ q, l[e]? = some q := ⟨_, List.getElem?_eq_getElem hlt⟩
          obtain ⟨b2, o2, rfl, hg2, hc2⟩ := HLR.out.resolve_left (fun h => by rw [h] at hq; simp at hq)
          obtain ⟨p1, p2⟩ := hc2 e _ hq
          have hok := HLL.out.2 _ (List.mem_of_getElem? hq)
          have wk2 : wrap64 ((e : Int) + 1) = (e : Int) + 1 := by have := HLL.out.1; unfold wrap64; omega
          have e0 : (0 : Int) ≤ (e : Int) := by omega
          have e1 : (e : Int) < (l.length : Int) := by omega
          obtain ⟨sb, ht⟩ : ∃ sb, tx rf = .string sb := ⟨_, rfl⟩
          have z0 := (HE1.out.low.cell (p := ⟨b2, o2 + e * 2, none⟩) hg2).trans p1
          have z1 : wr.cell? ⟨b2, o2 + e * 2 + 1, none⟩ = some (.string sb) := by rw [← ht]; exact (HE1.out.low.cell (p := ⟨b2, o2 + e * 2 + 1, none⟩) hg2).trans p2
          have z1' : wr.cell? ⟨b2, o2 + (e * 2 + 1), none⟩ = some (.string sb) := z1
          have y0 := HC.out _ HE1.out.low
          dsimp only at z0
          have hbU := (Below.refl wr.heap.size wr).alloc (Nat.le_refl _) (.cells #[.int .i64 kd, .string sb] 53)
          have HEU := hide (HE1.out.later hbU)
          have hlk := tx_look (k := rf) (HM.out.later (HEU.out.low)) hok
          rw [ht] at hlk
          have N1 := alloc_new wr (.cells #[.int .i64 kd, .string sb] 53)
          obtain ⟨s0, s1⟩ := TW.cellsA N1 rfl
          have HQ := hide (And.intro hq (And.intro ht hok))
          clear p1 p2 hc2 hg2 hq ht hok hbU N1
          by_cases h1 : kd < 1
          · go_wp2_with fail
            go_ret3
            exact ⟨HEU.out.low, .inl ⟨k, e, l, kd, rf, 24, rfl, HTL.out, HQ.out.1, HG.out, .inl ⟨fun q => absurd q.1 (by dsimp only; omega), rfl⟩⟩⟩
          · by_cases h3 : 3 < kd
            · go_wp2_with fail
              go_ret3
              exact ⟨HEU.out.low, .inl ⟨k, e, l, kd, rf, 24, rfl, HTL.out, HQ.out.1, HG.out, .inl ⟨fun q => absurd q.2 (by dsimp only; omega), rfl⟩⟩⟩
            · have HKD : Hid (LkK (kd, rf)) := hide ⟨by dsimp only; omega, by dsimp only; omega⟩
              by_cases hin : rf ∈ R
              · rw [plR_in hin] at hlk
                dsimp only [Option.getD_some, Option.isSome_some] at hlk
                have HG2 := hide (HG.out.step HTL.out HQ.out.1 ⟨HKD.out, hin⟩)
                have HW := hide (tI_succ (f := wOf R) HTL.out HQ.out.1)
                have HB := hide (tI_succ (f := bOf R) HTL.out HQ.out.1)
                have HA : Hid ((tI (wOf R) T k e).length ≤ 65552 ∧ (tI (bOf R) T k e).length ≤ 65552) := hide (by
                  have h1 := tI_len (f := wOf R) (wOf_len R) HL.out.2.1 k e
                  have h2 := tI_len (f := bOf R) (bOf_len R) HL.out.2.1 k e
                  have h3 := HN.out
                  have h4 := HLL.out.1
                  omega)
                obtain ⟨A1, hA1⟩ : ∃ A, tI (wOf R) T k e = A := ⟨_, rfl⟩
                obtain ⟨A2, hA2⟩ : ∃ A, tI (bOf R) T k e = A := ⟨_, rfl⟩
                rw [hA1] at HW HA HEU
                rw [hA2] at HB HA HEU
                obtain ⟨o, ho⟩ : ∃ o, R.idxOf rf = o := ⟨_, rfl⟩
                rw [ho] at hlk
                clear hA1 hA2 hin HE1
                obtain rfl | rfl | rfl : kd = 1 ∨ kd = 2 ∨ kd = 3 := by omega
                · have HW : Hid (tI (wOf R) T k (e + 1) = A1 ++ [((k : Int), (o : Int))]) := hide (by rw [HW.out]; simp [wOf, ho])
                  have HB : Hid (tI (bOf R) T k (e + 1) = A2) := hide (by rw [HB.out]; simp [bOf])
                  clear ho
                  have HO1 := hide HEU.out.o1
                  go_wp2_with (at_builtin; refine TW.wp_append_kept rfl _ _ rfl w.heap.size _ A1 ((k : Int), (o : Int)) _ rfl rfl (World.ownsRow.alloc HO1.out _) ?x1 ?x1b ?x2 ?x3 ?_)
                  case x2 => have := HEU.out.bs; simp at this ⊢; omega
                  case x3 => have := HA.out; omega
                  intro v' w' hO' hg' _
                  have HE2 := hide ((HEU.out.later ((Below.refl _ _).alloc (Nat.le_refl _) _)).one hO' hg')
                  clear hO' hg' HO1 HEU z0 z1 z1' y0 s0 s1 hlk
                  go_wp2_with fail
                  go_roundw
                  case rel => exact ⟨e + 1, hlt, by go_num, HG2, hide (by rw [HW.out, HB.out]; exact HE2.out)⟩
                  case measure => first | (rw [wk2]; simp [intOf]; omega) | (simp [intOf]; omega)
                · have HW : Hid (tI (wOf R) T k (e + 1) = A1) := hide (by rw [HW.out]; simp [wOf])
                  have HB : Hid (tI (bOf R) T k (e + 1) = A2 ++ [((k : Int), (o : Int))]) := hide (by rw [HB.out]; simp [bOf, ho])
                  clear ho
                  have HO1 := hide HEU.out.o2
                  go_wp2_with (at_builtin; refine TW.wp_append_kept rfl _ _ rfl w.heap.size _ A2 ((k : Int), (o : Int)) _ rfl rfl (World.ownsRow.alloc HO1.out _) ?y1 ?y1b ?y2 ?y3 ?_)
                  case y2 => have := HEU.out.bs; simp at this ⊢; omega
                  case y3 => have := HA.out; omega
                  intro v' w' hO' hg' _
                  have HE2 := hide ((HEU.out.later ((Below.refl _ _).alloc (Nat.le_refl _) _)).two hO' hg')
                  clear hO' hg' HO1 HEU z0 z1 z1' y0 s0 s1 hlk
                  go_wp2_with fail
                  go_roundw
                  case rel => exact ⟨e + 1, hlt, by go_num, HG2, hide (by rw [HW.out, HB.out]; exact HE2.out)⟩
                  case measure => first | (rw [wk2]; simp [intOf]; omega) | (simp [intOf]; omega)
                · have HW : Hid (tI (wOf R) T k (e + 1) = A1) := hide (by rw [HW.out]; simp [wOf])
                  have HB : Hid (tI (bOf R) T k (e + 1) = A2 ++ [((o : Int), (k : Int))]) := hide (by rw [HB.out]; simp [bOf, ho])
                  clear ho
                  have HO1 := hide HEU.out.o2
                  go_wp2_with (at_builtin; refine TW.wp_append_kept rfl _ _ rfl w.heap.size _ A2 ((o : Int), (k : Int)) _ rfl rfl (World.ownsRow.alloc HO1.out _) ?z1 ?z1b ?z2 ?z3 ?_)
                  case z2 => have := HEU.out.bs; simp at this ⊢; omega
                  case z3 => have := HA.out; omega
                  intro v' w' hO' hg' _
                  have HE2 := hide ((HEU.out.later ((Below.refl _ _).alloc (Nat.le_refl _) _)).two hO' hg')
                  clear hO' hg' HO1 HEU z0 z1 z1' y0 s0 s1 hlk
                  go_wp2_with fail
                  go_roundw
                  case rel => exact ⟨e + 1, hlt, by go_num, HG2, hide (by rw [HW.out, HB.out]; exact HE2.out)⟩
                  case measure => first | (rw [wk2]; simp [intOf]; omega) | (simp [intOf]; omega)
              · rw [plR_out hin] at hlk
                dsimp only [Option.getD_none, Option.isSome_none] at hlk
                have HIN := hide hin
                clear hin
                go_wp2_with fail
                go_ret3
                exact ⟨HEU.out.low, .inl ⟨k, e, l, kd, rf, 10, rfl, HTL.out, HQ.out.1, HG.out, .inr ⟨HKD.out, HIN.out, rfl⟩⟩⟩
        · obtain rfl : e = l.length := by omega
          have HG2 := hide (HG.out.next HTL.out)
          have HE2 : Hid (TS w wr w.heap.size u4 u5 (tU (wOf R) T (k + 1)) (tU (bOf R) T (k + 1))) := hide (by rw [← tI_all HTL.out, ← tI_all HTL.out]; exact HE1.out)
          go_wp2_with fail
          go_roundw
          case rel => exact ⟨k + 1, hkn, by go_num, HG2, HE2⟩
          case measure => first | (rw [wk]; simp [intOf]; omega) | (simp [intOf]; omega)
    · obtain rfl : k = n := by omega
      go_wp2_with fail
      go_ret3
      exact ⟨HE0.out.low, .inr ⟨u4, u5, rfl, HE0.out.o1, HE0.out.o2, HE0.out.ap, HG.out⟩⟩
end Go.Proofs.YtcdhblfefpkjgaaDoor
namespace Go.Proofs.YtcdhblfefpkjgaaDoor
open Go.RowKit

/-- Places of things, each below n; of equal priority the lesser ahead. -/
structure SI (pr : Nat → Int) (n : Nat) (L : List Nat) : Prop where
  len : L.length = n
  lt : ∀ j x : Nat, L[j]? = some x → x < n
  st : ∀ u v x y : Nat, u < v → L[u]? = some x → L[v]? = some y → pr x = pr y → x < y
/-- From a up to b the priorities don't rise. -/
def Srt (pr : Nat → Int) (L : List Nat) (a b : Nat) : Prop := ∀ u v x y : Nat, a ≤ u → u < v → v < b → L[u]? = some x → L[v]? = some y → pr y ≤ pr x
/-- .. but for the one at j, which is above all behind it. -/
def JS (pr : Nat → Int) (L : List Nat) (a k j : Nat) : Prop := ∃ z, L[j]? = some z ∧ (∀ u v x y : Nat, a ≤ u → u < v → v < k + 1 → u ≠ j → v ≠ j → L[u]? = some x → L[v]? = some y → pr y ≤ pr x) ∧ (∀ v y : Nat, j < v → v < k + 1 → L[v]? = some y → pr y ≤ pr z)
/-- Two neighbours change places. -/
def swp (L : List Nat) (j x y : Nat) : List Nat := (L.set (j + 1) x).set j y
theorem swp_at {L : List Nat} {j x y : Nat} (hx : L[j]? = some x) (hy : L[j + 1]? = some y) (i : Nat) : (swp L j x y)[i]? = if i = j then some y else if i = j + 1 then some x else L[i]? := by
  have h1 := (List.getElem?_eq_some_iff.1 hx).1
  have h2 := (List.getElem?_eq_some_iff.1 hy).1
  unfold swp
  rw [List.getElem?_set, List.getElem?_set]
  by_cases e : j = i
  · subst e; rw [if_pos rfl, if_pos (by rw [List.length_set]; exact h1), if_pos rfl]
  · rw [if_neg e, if_neg (show ¬ i = j from fun q => e q.symm)]
    by_cases e2 : j + 1 = i
    · subst e2; rw [if_pos rfl, if_pos h2, if_pos rfl]
    · rw [if_neg e2, if_neg (show ¬ i = j + 1 from fun q => e2 q.symm)]
theorem SI.swap {pr : Nat → Int} {n : Nat} {L : List Nat} (h : SI pr n L) {j x y : Nat} (hx : L[j]? = some x) (hy : L[j + 1]? = some y) (hp : pr x < pr y) : SI pr n (swp L j x y) := by
  refine ⟨by unfold swp; rw [List.length_set, List.length_set]; exact h.len, fun i z hz => ?_, fun u v p q huv hu hv e => ?_⟩
  · rw [swp_at hx hy] at hz
    split at hz
    · cases hz; exact h.lt _ _ hy
    · split at hz
      · cases hz; exact h.lt _ _ hx
      · exact h.lt _ _ hz
  · rw [swp_at hx hy] at hu hv
    by_cases u1 : u = j
    · rw [if_pos u1] at hu
      cases hu
      by_cases v1 : v = j + 1
      · rw [if_neg (by omega), if_pos v1] at hv
        cases hv; omega
      · rw [if_neg (by omega), if_neg v1] at hv
        exact h.st (j + 1) v _ _ (by omega) hy hv e
    · rw [if_neg u1] at hu
      by_cases u2 : u = j + 1
      · rw [if_pos u2] at hu
        cases hu
        rw [if_neg (by omega), if_neg (by omega)] at hv
        exact h.st j v _ _ (by omega) hx hv e
      · rw [if_neg u2] at hu
        by_cases v1 : v = j
        · rw [if_pos v1] at hv
          cases hv
          exact h.st u (j + 1) _ _ (by omega) hu hy e
        · rw [if_neg v1] at hv
          by_cases v2 : v = j + 1
          · rw [if_pos v2] at hv
            cases hv
            exact h.st u j _ _ (by omega) hu hx e
          · rw [if_neg v2] at hv
            exact h.st u v _ _ huv hu hv e
theorem JS.start {pr : Nat → Int} {L : List Nat} {a k z : Nat} (h : Srt pr L a k) (hz : L[k]? = some z) : JS pr L a k k :=
  ⟨z, hz, fun u v x y h1 h2 h3 h4 h5 hx hy => h u v x y h1 h2 (by omega) hx hy, fun v y h1 h2 _ => by omega⟩
theorem JS.step {pr : Nat → Int} {L : List Nat} {a k j x z : Nat} (h : JS pr L a k (j + 1)) (ha : a ≤ j) (hjk : j + 1 ≤ k) (hx : L[j]? = some x) (hz : L[j + 1]? = some z) (hp : pr x < pr z) : JS pr (swp L j x z) a k j := by
  obtain ⟨z', hz', h1, h2⟩ := h
  rw [hz] at hz'
  cases hz'
  refine ⟨z, by rw [swp_at hx hz, if_pos rfl], fun u v p q a1 a2 a3 a4 a5 hu hv => ?_, fun v y b1 b2 hv => ?_⟩
  · rw [swp_at hx hz, if_neg a4] at hu
    rw [swp_at hx hz, if_neg a5] at hv
    by_cases u1 : u = j + 1
    · rw [if_pos u1] at hu; cases hu
      rw [if_neg (by omega)] at hv
      exact h1 j v _ _ ha (by omega) a3 (by omega) (by omega) hx hv
    · rw [if_neg u1] at hu
      by_cases v1 : v = j + 1
      · rw [if_pos v1] at hv; cases hv
        exact h1 u j _ _ a1 (by omega) (by omega) u1 (by omega) hu hx
      · rw [if_neg v1] at hv
        exact h1 u v _ _ a1 a2 a3 u1 v1 hu hv
  · rw [swp_at hx hz, if_neg (by omega)] at hv
    by_cases v1 : v = j + 1
    · rw [if_pos v1] at hv; cases hv; omega
    · rw [if_neg v1] at hv
      exact h2 v y (by omega) b2 hv
theorem JS.first {pr : Nat → Int} {L : List Nat} {a k : Nat} (h : JS pr L a k a) : Srt pr L a (k + 1) := by
  obtain ⟨z, hz, h1, h2⟩ := h
  intro u v x y a1 a2 a3 hu hv
  by_cases e : u = a
  · subst e; rw [hz] at hu; cases hu; exact h2 v y a2 a3 hv
  · exact h1 u v x y a1 a2 a3 e (by omega) hu hv
theorem JS.stop {pr : Nat → Int} {L : List Nat} {a k j x z : Nat} (h : JS pr L a k (j + 1)) (ha : a ≤ j) (hjk : j + 1 ≤ k) (hx : L[j]? = some x) (hz : L[j + 1]? = some z) (hp : pr z ≤ pr x) : Srt pr L a (k + 1) := by
  obtain ⟨z', hz', h1, h2⟩ := h
  rw [hz] at hz'
  cases hz'
  intro u v p q a1 a2 a3 hu hv
  by_cases u1 : u = j + 1
  · subst u1; rw [hz] at hu; cases hu; exact h2 v q a2 a3 hv
  · by_cases v1 : v = j + 1
    · subst v1; rw [hz] at hv; cases hv
      by_cases u2 : u = j
      · subst u2; rw [hx] at hu; cases hu; exact hp
      · exact Int.le_trans hp (h1 u j _ _ a1 (by omega) (by omega) u1 (by omega) hu hx)
    · exact h1 u v _ _ a1 a2 a3 u1 v1 hu hv
theorem Srt.one {pr : Nat → Int} {L : List Nat} (a : Nat) : Srt pr L a (a + 1) := fun u v x y h1 h2 h3 => by omega
theorem Srt.mono {pr : Nat → Int} {L : List Nat} {a b c : Nat} (h : Srt pr L a b) (hc : c ≤ b) : Srt pr L a c := fun u v x y h1 h2 h3 => h u v x y h1 h2 (by omega)
theorem swp_out {L : List Nat} {j x y : Nat} (hx : L[j]? = some x) (hy : L[j + 1]? = some y) {i : Nat} (h : i < j ∨ j + 1 < i) : (swp L j x y)[i]? = L[i]? := by
  rw [swp_at hx hy, if_neg (by omega), if_neg (by omega)]
end Go.Proofs.YtcdhblfefpkjgaaDoor
