/-
  My own text: the law on the order of forms.
-/
import Derived.Test.YtbkgegiglegnjabW4
import Derived.Test.YtbkgegiglegnjabRows
import Derived.WalkSmall
import Derived.RegionTactic
import Derived.Deep.QuietTactic
import Derived.BigQuiet
import Derived.ProofKit
import Derived.OpenShut
import Derived.ChangeSame
import Derived.JoinedOf
import Derived.HandedShaped
import Derived.SizedLaws
namespace Go.Proofs.Ytbkgegiglegnjab
open Go.ChangeShapes Go.WideShapes Go.ChangeAt Go.RowKit

set_option maxRecDepth 100000 in
set_option maxHeartbeats 1000000 in
theorem form_any (x : Int) (w : World) (h0 : 0 ≤ x) (h1 : x < 18446744073709551616) :
    Calls Try.prog 22 #[.int .u64 x] w fun e w' => ∃ v, e = .returned v ∧ Own w' w.heap.size v (form x) ∧ Below w.heap.size w w' := by
  have HN := hide (newWriter_any w)
  go_enter Try.func22, Try.ntmps22
  go_wp2_with fail
  refine HN.out.mono ?_
  rintro e w1 ⟨rfl, rfl⟩
  have HU := hide (writeUint_any x _ _ _ _ _ h0 h1 (wr_new w) (by simp))
  go_wp2_with fail
  refine HU.out.mono ?_
  rintro e w2 ⟨rfl, v2, hw2, hm2⟩
  rw [List.nil_append] at hw2
  have HB2 := hide ((wr_new w).toBelow hm2 ((Below.refl _ _).alloc (Nat.le_refl _) _))
  have HW2 := hide hw2
  clear hw2 hm2 HU
  have HD := hide (done_any _ _ _ _ _ HW2.out (by have := form_le x; omega))
  go_wp2_with fail
  refine HD.out.mono ?_
  rintro e w3 ⟨v3, rfl, ho, hb⟩
  have HO := hide (ho.base fun g hg => Nat.le_trans HB2.out.size (ho.at g hg))
  have HB := hide (HB2.out.trans (hb.mono HB2.out.size))
  obtain ⟨a3, c3, rfl⟩ := ho.slice
  clear ho hb
  go_wp2_with fail
  go_ret
  exact ⟨_, rfl, HO.out, HB.out⟩

theorem ne_len {l : List UInt8} (h : 1 ≤ l.length) : ((l.length : Int) == 0) = false := by simp; intro e; subst e; simp at h
theorem same_step {l m : List UInt8} {k : Nat} {x : UInt8} (h0 : l.take k = m.take k) (h1 : l[k]? = some x) (h2 : m[k]? = some x) : l.take (k + 1) = m.take (k + 1) := by
  rw [List.take_add_one, List.take_add_one, h0, h1, h2]

set_option maxRecDepth 100000 in
set_option maxHeartbeats 1000000 in
theorem order_law (x y : Int) (w : World) (x0 : 0 ≤ x) (x1 : x < 18446744073709551616) (y0 : 0 ≤ y) (y1 : y < 18446744073709551616) :
    Calls Try.prog 5 #[.int .u64 x, .int .u64 y] w fun e w' => e = .returned (.bool true) ∧ Below w.heap.size w w' := by
  have HX := hide (form_any x w x0 x1)
  have HY := hide (fun W : World => form_any y W y0 y1)
  have la := form_ge x
  have lb := form_ge y
  have la9 := form_le x
  have lb9 := form_le y
  have HLX : Hid (x < y → Lex (form x) (form y)) := hide fun h => form_lex x0 h y1
  have HLY : Hid (y < x → Lex (form y) (form x)) := hide fun h => form_lex y0 h x1
  have HE : Hid (x = y → form x = form y) := hide fun h => by rw [h]
  obtain ⟨l, hlx⟩ : ∃ l, Hid (form x = l) := ⟨_, hide rfl⟩
  obtain ⟨m, hmy⟩ : ∃ m, Hid (form y = m) := ⟨_, hide rfl⟩
  rw [hlx.out] at HX la la9 HLX HLY HE
  rw [hmy.out] at HY lb lb9 HLX HLY HE
  clear hlx hmy
  have nl := ne_len la
  have nm := ne_len lb
  go_enter Try.func5, Try.ntmps5
  go_wp2_with fail
  refine HX.out.mono ?_
  rintro e w1 ⟨v1, rfl, ho1, hb1⟩
  go_wp2_with fail
  refine (HY.out _).mono ?_
  rintro e w2 ⟨v2, rfl, ho2, hb2⟩
  have r1 := (ho1.later hb2).rb
  have r2 := ho2.rb
  have HB := hide (hb1.trans (hb2.mono hb1.size))
  obtain ⟨a1, c1, rfl, h1⟩ := r1
  obtain ⟨a2, c2, rfl, h2⟩ := r2
  clear ho1 ho2 hb1 hb2 HX HY
  rcases h1 with h1 | ⟨b1, o1, rfl, hl1, hc1⟩
  · rw [h1] at la; simp at la
  rcases h2 with h2 | ⟨b2, o2, rfl, hl2, hc2⟩
  · rw [h2] at lb; simp at lb
  have HC1 := hide hc1
  have HC2 := hide hc2
  clear hc1 hc2
  go_wp2_with fail
  go_loopw [7] (fun i wr => ∃ k : Nat, k ≤ l.length ∧ k ≤ m.length ∧ i = .int .i64 k ∧ Hid (l.take k = m.take k) ∧ Hid (Below w2.heap.size w2 wr)) (fun i _ => l.length - (intOf i).toNat)
  case atStart => exact ⟨0, Nat.zero_le _, Nat.zero_le _, rfl, hide rfl, hide (Below.refl _ _)⟩
  case round =>
    obtain ⟨k, hk1, hk2, rfl, HT, HB3⟩ := hrel
    by_cases hlt1 : k < l.length
    · by_cases hlt2 : k < m.length
      · obtain ⟨c, hc⟩ := some_at hlt1
        obtain ⟨d, hd⟩ := some_at hlt2
        have d1 := (HB3.out.cell (p := ⟨b1, o1 + k, none⟩) hl1).trans (HC1.out k c hc)
        have d2 := (HB3.out.cell (p := ⟨b2, o2 + k, none⟩) hl2).trans (HC2.out k d hd)
        have HCC := hide hc
        have HDD := hide hd
        clear hc hd
        by_cases hcd : c = d
        · subst hcd
          have HS := hide (same_step HT.out HCC.out HDD.out)
          go_wp2_with fail
          go_quiet (fail)
          go_wp2_with fail
          go_roundw
          case rel => exact ⟨k + 1, by omega, by omega, by go_num, HS, hide (below_drewN HB3.out _)⟩
          case measure => simp [intOf]; omega
        · have hcd' : ((c.toNat : Int) == (d.toNat : Int)) = false := by
            simp only [beq_eq_false_iff_ne, ne_eq]
            intro e
            exact hcd (UInt8.toNat_inj.1 (by omega))
          have hstop : l[k]? ≠ m[k]? := by rw [HCC.out, HDD.out]; simpa using hcd
          have hxy : x ≠ y := by
            intro e
            apply hstop; rw [HE.out e]
          have hxy' : (x == y) = false := by simpa using hxy
          rcases Int.lt_trichotomy x y with hc | hc | hc
          · obtain ⟨c', d', e1, e2, e3⟩ := (HLX.out hc).stop HT.out (.inr (.inr hstop))
            rw [HCC.out] at e1; rw [HDD.out] at e2
            cases e1; cases e2
            have t1 : decide (c.toNat < d.toNat) = true := by simpa using e3
            have t2 : decide (x < y) = true := by simpa using hc
            have HF := hide HB3.out
            clear e3 hstop hcd HLX HLY HE HT HCC HDD hxy HB3
            go_wp2_with fail
            go_quiet (fail)
            go_wp2_with fail
            go_quiet (fail)
            go_wp2_with fail
            go_ret
            exact ⟨rfl, HB.out.trans ((below_drewN (below_drewN HF.out _) _).mono HB.out.size)⟩
          · exact absurd hc hxy
          · obtain ⟨c', d', e1, e2, e3⟩ := (HLY.out hc).stop HT.out.symm (.inr (.inr (fun e => hstop e.symm)))
            rw [HDD.out] at e1; rw [HCC.out] at e2
            cases e1; cases e2
            have t1 : decide (c.toNat < d.toNat) = false := by simp; omega
            have t2 : decide (x < y) = false := by simp; omega
            have HF := hide HB3.out
            clear e3 hstop hcd HLX HLY HE HT HCC HDD hxy HB3
            go_wp2_with fail
            go_quiet (fail)
            go_wp2_with fail
            go_quiet (fail)
            go_wp2_with fail
            go_ret
            exact ⟨rfl, HB.out.trans ((below_drewN (below_drewN HF.out _) _).mono HB.out.size)⟩
      · exfalso
        rcases Int.lt_trichotomy x y with hc | hc | hc
        · obtain ⟨c', d', e1, e2, e3⟩ := (HLX.out hc).stop HT.out (.inr (.inl (by omega)))
          have := (List.getElem?_eq_some_iff.1 e2).1; omega
        · have := HE.out hc; rw [this] at hlt1; omega
        · obtain ⟨c', d', e1, e2, e3⟩ := (HLY.out hc).stop HT.out.symm (.inl (by omega))
          have := (List.getElem?_eq_some_iff.1 e1).1; omega
    · have hxy : x = y := by
        rcases Int.lt_trichotomy x y with hc | hc | hc
        · obtain ⟨c', d', e1, e2, e3⟩ := (HLX.out hc).stop HT.out (.inl (by omega))
          have := (List.getElem?_eq_some_iff.1 e1).1; omega
        · exact hc
        · obtain ⟨c', d', e1, e2, e3⟩ := (HLY.out hc).stop HT.out.symm (.inr (.inl (by omega)))
          have := (List.getElem?_eq_some_iff.1 e2).1; omega
      have hlm := HE.out hxy
      have hk : l.length = k := by omega
      have hkm : m.length = k := by rw [← hlm]; exact hk
      have hxy' : (x == y) = true := by simpa using hxy
      have HF := hide HB3.out
      clear HLX HLY HE HT hxy hlm HB3 nl nm la lb la9 lb9 hlt1 hk1 hk2
      rw [hk, hkm]
      have d0 : decide ((k : Int) < (k : Int)) = false := by simp
      clear hk hkm
      go_wp2_with fail
      go_quiet (fail)
      go_wp2_with fail
      go_ret
      exact ⟨rfl, HB.out.trans ((below_drewN HF.out _).mono HB.out.size)⟩

theorem Try.own : ownKnob Try.prog.godebug = none := by kernel_rfl
set_option maxRecDepth 100000 in
theorem wireOrder_lifted (os : Os) (started : os.Started) (H : Type) (enc : TypeId × Value → H) :
    ReturnsInHanded {} Try.checked os 5 .any (Rows.wireOrderSpec.pre6 enc Try.prog Try.f5 [] false) (Rows.wireOrderSpec.post enc Try.prog Try.f5 false true false false) := by
  refine returnsInHanded_of_change_shaped (C := Try.checked) Try.own started (by kernel_rfl) Try.func5
    (ChangeSpec.witness6 (enc := enc) (C := Try.checked) false ⟨#[], #[.int .u64 0, .int .u64 0], []⟩ 8 (by kernel_rfl) (by kernel_rfl) (by kernel_rfl) (by kernel_rfl)) ?_
  intro W base args ds gs before hval0 hW _ hsz0 _ _
  have hval : ∀ (j : Nat) t v, Try.f5.params[j]? = some t → args[j]? = some v → Value.okWide Try.prog W .any base t v := hval0
  have hW' := hW
  obtain ⟨p, q, hA0, hV, rfl, hfz, hnd⟩ := hW
  have hA : DataW.TrodAll enc Try.prog W 0 (fun _ => true) true Try.f5.params.toList args.toList ds p := hA0
  rw [Try.params5] at hA hval
  obtain ⟨v0, v1, d0, d1, p0, p1, rfl, rfl, rfl, h0, h1⟩ := trodAll_two hA
  obtain ⟨rfl, rfl⟩ := trodVars_none hV
  obtain ⟨x, rfl, rfl, rfl, hx⟩ := open_int Try.underlying28 (hval 0 28 v0 rfl rfl) h0
  obtain ⟨y, rfl, rfl, rfl, hy⟩ := open_int Try.underlying28 (hval 1 28 v1 rfl rfl) h1
  have bx := bounds_u64 hx
  have by' := bounds_u64 hy
  clear hA0 hval0
  have e1 : Rows.wireOrderSpec.fn H ([.lit (.int .u64 x), .lit (.int .u64 y)] ++ []) = { results := [.lit (.bool true)], args := [.lit (.int .u64 x), .lit (.int .u64 y)] } := by simp [Rows.wireOrderSpec]
  refine (order_law x y W bx.1 (by omega) by'.1 (by omega)).mono fun e W' ⟨he, hw⟩ => ?_
  subst he
  refine ⟨_, rfl, _, _, _, [], [], [], hW', ?_, ?_, ?_, hw.frame _, fun h => by cases h⟩
  · rw [e1]; exact trodAll_mk1 (shut_bool Try.underlying4 true)
  · rw [e1]; exact trodAll_mk2 (shut_int Try.underlying28 hx) (shut_int Try.underlying28 hy)
  · rw [e1]; rfl
theorem wireOrder_holds : Rows.WireOrderSaid :=
  OpenClaim.holds_of_wide 5 Try.f5 rfl rfl rfl rfl rfl rfl rfl ⟨rfl, rfl, rfl, rfl, rfl⟩ rfl rfl rfl rfl rfl (by kernel_rfl) Try.func5 (by kernel_rfl)
    (of_decide_eq_true (by kernel_rfl)) (by unfold Func.isWrapper; rw [if_neg (of_decide_eq_false (by kernel_rfl))]; exact ⟨rfl, rfl⟩)
    (fun os started H enc _ => wireOrder_lifted os started H enc)
#print axioms wireOrder_holds
end Go.Proofs.Ytbkgegiglegnjab
