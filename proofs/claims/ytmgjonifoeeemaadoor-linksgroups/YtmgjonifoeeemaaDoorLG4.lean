/-
  My own text: layer 23: the law LinksGroups.
-/
import Derived.Test.YtmgjonifoeeemaaDoorLG3
import Derived.Test.YtmgjonifoeeemaaDoorGTL
import Derived.Test.YtmgjonifoeeemaaDoorQIA
import Derived.Test.YtmgjonifoeeemaaDoorLW1
namespace Go.Proofs.YtmgjonifoeeemaaDoor
open Go.RowKit

/-- Two rows in a literal, each of its own. -/
theorem two_allI {W : World} {B na nb ca cb : Nat} {aa ab : Option Addr} {M N : List Int} (ha : IN.OM W B (.slice aa na ca) M) (hb : IN.OM W B (.slice ab nb cb) N) (hd : ∀ x, (Value.slice aa na ca).ownBlock = some x → (Value.slice ab nb cb).ownBlock = some x → False) :
    IN.AllB (W.alloc (.cells #[.slice aa na ca, .slice ab nb cb] 23)) B W.heap.size 2 (fun k => if k = 0 then aa else ab) (fun k => if k = 0 then na else nb) (fun k => if k = 0 then ca else cb) (fun k => if k = 0 then M else N) := by
  have hN := alloc_new W (.cells #[.slice aa na ca, .slice ab nb cb] 23)
  obtain ⟨c0, c1⟩ := pair_cells hN rfl
  have hlt : W.heap.size < (W.alloc (.cells #[.slice aa na ca, .slice ab nb cb] 23)).heap.size := by simp
  refine ⟨hlt, fun k hk => ?_, fun k hk => ?_, fun k hk => ?_, fun j k g hj hk h1 h2 => ?_⟩
  · match k, hk with
    | 0, _ => exact c0
    | 1, _ => exact c1
  · match k, hk with
    | 0, _ => exact World.ownsRow.alloc ha _
    | 1, _ => exact World.ownsRow.alloc hb _
  · match k, hk with
    | 0, _ => exact fun e => by have := (World.ownsRow.lt ha _ e).2; omega
    | 1, _ => exact fun e => by have := (World.ownsRow.lt hb _ e).2; omega
  · match j, k, hj, hk with
    | 0, 0, _, _ => rfl
    | 1, 1, _, _ => rfl
    | 0, 1, _, _ => exact (hd g h1 h2).elim
    | 1, 0, _, _ => exact (hd g h2 h1).elim
set_option maxRecDepth 100000 in
set_option maxHeartbeats 4000000 in
theorem linksGroups_law (n : Int) (v : Value) (L : List (Int × Int)) (w : World) (hE : ErrType w) (hv : TW.RM w v L) (hl : L.length ≤ 8796093022000) :
    Calls Tryd.prog 3 #[.int .i64 n, v] w fun e w' => e = .returned (.bool true) ∧ Below w.heap.size w w' := by
  have HD := hide (rGroups_any n v L w hv (by omega))
  have HV := hide hv
  have HL := hide hl
  have HEE := hide hE
  have HT0 := hide (bad23_rng n L)
  have HGL := hide (grL_le n L)
  obtain ⟨b, hb⟩ : ∃ b, Hid (bad23 n L = b) := ⟨_, hide rfl⟩
  obtain ⟨G, hG⟩ : ∃ G, Hid (grL n L = G) := ⟨_, hide rfl⟩
  rw [hb.out, hG.out] at HD
  rw [hb.out] at HT0
  rw [hG.out] at HGL
  obtain ⟨a0, c0, hav⟩ := TW.rm_lt hv
  subst hav
  clear hv hl hE
  go_enter Tryd.func3, Tryd.ntmps3
  go_wp2_with fail
  refine HD.out.mono ?_
  rintro e w1 ⟨vw, rfl, hO, hb1⟩
  have HB1 := hide hb1
  have HO1 := hide hO
  have HLE := hide (TW.lentMarks_any _ L w1 (HV.out.later hb1) HL.out)
  clear hO hb1 HD
  go_wp2_with fail
  refine HLE.out.mono ?_
  rintro e w2 ⟨gl, cl, rfl, hLM, hb2⟩
  have HLM := hide hLM
  have HB2 := hide (HB1.out.trans (hb2.mono HB1.out.size))
  have HO2 := hide (HO1.out.later hb2)
  have HA := hide (fun W (hW : Below w2.heap.size w2 W) => Groups_any n _ L W ((hLM.later hW).rm) (by have := HL.out; omega))
  rw [hb.out, hG.out] at HA
  clear hLM hb2 HLE HO1 HB1
  go_wp2_with fail
  refine (HA.out _ (Below.refl _ _)).mono ?_
  rintro e w3 ⟨va, rfl, hO, hb3⟩
  have HB3 := hide hb3
  have HOA := hide hO
  clear hO hb3
  go_wp2_with fail
  refine (HA.out _ HB3.out).mono ?_
  rintro e w4 ⟨vb, rfl, hO, hb4⟩
  have HB4 := hide (HB3.out.trans (hb4.mono HB3.out.size))
  have HOA4 := hide (HOA.out.later hb4)
  have HOB4 := hide hO
  have HSZ : Hid (∀ g, va.ownBlock = some g → g < w3.heap.size) := hide (fun g hg => (World.ownsRow.lt HOA.out g hg).2)
  have HS3 := hide HB3.out.size
  have HE4 : Hid (∀ W, Below w4.heap.size w4 W → ErrType W) := hide (fun W h => HEE.out.below ((HB2.out.trans (HB4.out.mono HB2.out.size)).trans (h.mono (Nat.le_trans HB2.out.size HB4.out.size))))
  clear hO hb4 HA HOA HB3
  obtain ⟨ev, hev⟩ : ∃ ev, erV b = ev := ⟨_, rfl⟩
  obtain ⟨b1, hb1⟩ : ∃ b1, b.1 = b1 := ⟨_, rfl⟩
  obtain ⟨b2, hb2⟩ : ∃ b2, b.2 = b2 := ⟨_, rfl⟩
  have HTO := hide (fun W (h : Below w4.heap.size w4 W) => told_any b W HT0.out.1 HT0.out.2.1 HT0.out.2.2 (HE4.out W h))
  rw [hev, hb1, hb2] at HTO
  rw [hev, hb1, hb2]
  clear hev hb1 hb2 HT0
  go_wp2_with fail
  refine (HTO.out _ (Below.refl _ _)).mono ?_
  rintro e w5 ⟨rfl, hb5⟩
  have HB5 := hide hb5
  clear hb5
  go_wp2_with fail
  refine (HTO.out _ HB5.out).mono ?_
  rintro e w6 ⟨rfl, hb6⟩
  have HB6 := hide (HB5.out.trans (hb6.mono HB5.out.size))
  have HO6 := hide ((HO2.out.later HB4.out).later HB6.out)
  have HA6 := hide (HOA4.out.later HB6.out)
  have HC6 := hide (HOB4.out.later HB6.out)
  have HS1 := hide (IN.sameM_any va vw (ni G) (ni G) w6 HA6.out.rm HO6.out.rm (by rw [ni_len]; have := HGL.out; omega) (by rw [ni_len]; have := HGL.out; omega))
  rw [decide_eq_true rfl] at HS1
  clear hb6 HTO HO2 HOA4 HOB4 HB5
  go_wp2_with fail
  refine HS1.out.mono ?_
  rintro e w7 ⟨rfl, hb7⟩
  have HB7 := hide (HB6.out.trans (hb7.mono HB6.out.size))
  have HO7 := hide (HO6.out.later hb7)
  have HA7 := hide (HA6.out.later hb7)
  have HC7 := hide (HC6.out.later hb7)
  have HS2 := hide (IN.sameM_any vb vw (ni G) (ni G) w7 HC7.out.rm HO7.out.rm (by rw [ni_len]; have := HGL.out; omega) (by rw [ni_len]; have := HGL.out; omega))
  rw [decide_eq_true rfl] at HS2
  clear hb7 HS1 HO6 HA6 HC6 HB6
  go_wp2_with fail
  refine HS2.out.mono ?_
  rintro e w8 ⟨rfl, hb8⟩
  have HB8 := hide (HB7.out.trans (hb8.mono HB7.out.size))
  have HA8 := hide (HA7.out.later hb8)
  have HC8 := hide (HC7.out.later hb8)
  clear hb8 HS2 HO7 HA7 HC7 HB7
  go_wp2_with fail
  refine (works_any _).mono ?_
  rintro e w9 ⟨rfl, hb9⟩
  have HB9 := hide (HB8.out.trans (hb9.mono HB8.out.size))
  have HA9 := hide (HA8.out.later hb9)
  have HC9 := hide (HC8.out.later hb9)
  clear hb9 HA8 HC8 HB8
  obtain ⟨aa, ca, hva⟩ := IN.OM.slice HA9.out
  obtain ⟨ab, cb, hvb⟩ := IN.OM.slice HC9.out
  obtain ⟨m, hm⟩ : ∃ m, (ni G).length = m := ⟨_, rfl⟩
  have HM : Hid (m ≤ 4096) := hide (by rw [← hm, ni_len]; exact HGL.out)
  rw [hm] at hva hvb
  subst hva hvb
  have HAP := hide (IN.apartInts_any w2.heap.size w9.heap.size 2 2 _ _ _ _ _ (two_allI HA9.out (IN.OM.base HC9.out (fun g hg => by have := (World.ownsRow.lt HC9.out g hg).1; have := HS3.out; omega)) (fun x h1 h2 => by have := HSZ.out x h1; have := (World.ownsRow.lt HC9.out x h2).1; omega)) (fun k => by split <;> (have := HM.out; omega)) (by decide) (Nat.le_refl _) (by have := HB4.out.size; have := HB9.out.size; simp; omega))
  have HBA : Hid (Below w2.heap.size w2 (w9.alloc (.cells #[.slice aa m ca, .slice ab m cb] 23))) := hide ((HB4.out.trans (HB9.out.mono HB4.out.size)).alloc (Nat.le_trans HB4.out.size HB9.out.size) _)
  clear HA9 HC9 hm HB9
  go_wp2_with fail
  refine HAP.out.mono ?_
  rintro e w10 ⟨rfl, hb10⟩
  have HB10 : Hid (Below w2.heap.size w2 w10) := hide (HBA.out.trans hb10)
  have HK := hide (TW.keptMarks_any _ L _ gl cl w10 (HV.out.later (HB2.out.trans (HB10.out.mono HB2.out.size))) (HLM.out.later HB10.out) HL.out)
  clear hb10 HAP HBA
  go_wp2_with fail
  refine HK.out.mono ?_
  rintro e w11 ⟨rfl, hb11⟩
  have HBF := hide ((HB2.out.trans (HB10.out.mono HB2.out.size)).trans (hb11.mono (Nat.le_trans HB2.out.size HB10.out.size)))
  clear hb11 HK
  go_wp2_with fail
  go_ret
  exact ⟨rfl, HBF.out⟩
end Go.Proofs.YtmgjonifoeeemaaDoor
