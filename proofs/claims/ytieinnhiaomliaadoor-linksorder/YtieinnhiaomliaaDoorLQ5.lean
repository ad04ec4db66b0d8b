/-
  My own text: layer 23: the law LinksOrder.
-/
import Derived.Test.YtieinnhiaomliaaDoorLQ4
import Derived.Test.YtieinnhiaomliaaDoorLS9
import Derived.Test.YtieinnhiaomliaaDoorGTL
import Derived.Test.YtieinnhiaomliaaDoorQIL
import Derived.Test.YtieinnhiaomliaaDoorQIA
import Derived.Test.YtieinnhiaomliaaDoorLW1
namespace Go.Proofs.YtieinnhiaomliaaDoor
open Go.RowKit

/-- Two rows in a literal, each of its own. -/
theorem two_allI {W : World} {B na nb ca cb : Nat} {aa ab : Option Addr} {M N : List Int} (ha : IN.OM W B (.slice aa na ca) M) (hb : IN.OM W B (.slice ab nb cb) N) (hd : ∀ x, (Value.slice aa na ca).ownBlock = some x → (Value.slice ab nb cb).ownBlock = some x → False) :
    IN.AllB (W.alloc (.cells #[.slice aa na ca, .slice ab nb cb] 23)) B W.heap.size 2 (fun k => if k = 0 then aa else ab) (fun k => if k = 0 then na else nb) (fun k => if k = 0 then ca else cb) (fun k => if k = 0 then M else N) := by
  have hN := alloc_new W (.cells #[.slice aa na ca, .slice ab nb cb] 23)
  obtain ⟨c0, c1⟩ := pair_cells hN rfl
  have hlt : W.heap.size < (W.alloc (.cells #[.slice aa na ca, .slice ab nb cb] 23)).heap.size := by simp
  refine ⟨hlt, fun k hk => ?_, fun k hk => ?_, fun k hk => ?_, fun j k g hj hk h1 h2 => ?_⟩
  · match k, hk with
    | 0, _ => exact c0
    | 1, _ => exact c1
  · match k, hk with
    | 0, _ => exact World.ownsRow.alloc ha _
    | 1, _ => exact World.ownsRow.alloc hb _
  · match k, hk with
    | 0, _ => exact fun e => by have := (World.ownsRow.lt ha _ e).2; omega
    | 1, _ => exact fun e => by have := (World.ownsRow.lt hb _ e).2; omega
  · match j, k, hj, hk with
    | 0, 0, _, _ => rfl
    | 1, 1, _, _ => rfl
    | 0, 1, _, _ => exact (hd g h1 h2).elim
    | 1, 0, _, _ => exact (hd g h2 h1).elim
set_option maxRecDepth 100000 in
set_option maxHeartbeats 4000000 in
theorem linksOrder_law (n : Int) (v p : Value) (L : List (Int × Int)) (P : List Int) (w : World) (hE : ErrType w) (hv : TW.RM w v L) (hl : L.length ≤ 8796093022000) (hp : IN.RM w p P) (hpl : P.length ≤ 17592186044000) :
    Calls Tryd.prog 3 #[.int .i64 n, v, p] w fun e w' => e = .returned (.bool true) ∧ Below w.heap.size w w' := by
  have HD := hide (rOrder_any n v p L P w hv hp (by omega))
  have HV := hide hv
  have HP := hide hp
  have HL := hide hl
  have HPL := hide hpl
  have HEE := hide hE
  obtain ⟨a0, c0, hav⟩ := TW.rm_lt hv
  obtain ⟨a2, c2, hpv⟩ := IN.rm_lt hp
  subst hav
  subst hpv
  clear hv hl hE hp hpl
  go_enter Tryd.func3, Tryd.ntmps3
  go_wp2_with fail
  refine HD.out.mono ?_
  rintro e w1 ⟨vw, G, b, rfl, hAn, hO, hb1⟩
  have HT0 := hide hAn.rng
  have HGL := hide hAn.le
  have HAN := hide hAn
  have HB1 := hide hb1
  have HO1 := hide hO
  have HLE := hide (TW.lentMarks_any _ L w1 (HV.out.later hb1) HL.out)
  clear hO hb1 HD hAn
  go_wp2_with fail
  refine HLE.out.mono ?_
  rintro e w2 ⟨gl, cl, rfl, hLM, hb2⟩
  have HLM := hide hLM
  have HB2 := hide (HB1.out.trans (hb2.mono HB1.out.size))
  have HO2 := hide (HO1.out.later hb2)
  have HLI := hide (IN.lentInts_any _ P w2 (HP.out.later HB2.out) (by have := HPL.out; omega))
  clear hLM hb2 HLE HO1 HB1
  go_wp2_with fail
  refine HLI.out.mono ?_
  rintro e w3 ⟨gp, cp, rfl, hLB, hb3⟩
  have HLB := hide hLB
  have HB3 := hide (HB2.out.trans (hb3.mono HB2.out.size))
  have HO3 := hide (HO2.out.later hb3)
  have HLM3 := hide (HLM.out.later hb3)
  have HA : Hid (∀ W, Below w3.heap.size w3 W → Calls Tryd.prog 7 #[.int .i64 n, .slice (some ⟨gl, 0, none⟩) L.length cl, .slice (some ⟨gp, 0, none⟩) P.length cp] W fun e W' => ∃ (v' : Value), e = .returned (.tuple #[v', erV b]) ∧ IN.OM W' W.heap.size v' (ni G) ∧ Below W.heap.size W W') := hide (fun W hW => (Order_any n _ _ L P W ((HLM3.out.later hW).rm) ⟨_, (hLB.later hW).rg⟩ (by have := HL.out; omega) (fun k hk => sortOk hk)).mono fun e W' hh => by
    obtain ⟨v', l, b', he, hA, hO, hb⟩ := hh
    obtain ⟨rfl, rfl⟩ := AnsO.uniq hA HAN.out
    exact ⟨v', he, hO, hb⟩)
  clear hLB hb3 HLI HO2 HB2 HLM HAN
  go_wp2_with fail
  refine (HA.out _ (Below.refl _ _)).mono ?_
  rintro e w4 ⟨va, rfl, hO, hb4⟩
  have HB4 := hide hb4
  have HOA := hide hO
  clear hO hb4
  go_wp2_with fail
  refine (HA.out _ HB4.out).mono ?_
  rintro e w5 ⟨vb, rfl, hO, hb5⟩
  have HB5 := hide (HB4.out.trans (hb5.mono HB4.out.size))
  have HOA5 := hide (HOA.out.later hb5)
  have HOB5 := hide hO
  have HSZ : Hid (∀ g, va.ownBlock = some g → g < w4.heap.size) := hide (fun g hg => (World.ownsRow.lt HOA.out g hg).2)
  have HS4 := hide HB4.out.size
  have HE5 : Hid (∀ W, Below w5.heap.size w5 W → ErrType W) := hide (fun W h => HEE.out.below ((HB3.out.trans (HB5.out.mono HB3.out.size)).trans (h.mono (Nat.le_trans HB3.out.size HB5.out.size))))
  clear hO hb5 HA HOA HB4
  obtain ⟨ev, hev⟩ : ∃ ev, erV b = ev := ⟨_, rfl⟩
  obtain ⟨b1, hb1⟩ : ∃ b1, b.1 = b1 := ⟨_, rfl⟩
  obtain ⟨b2, hb2⟩ : ∃ b2, b.2 = b2 := ⟨_, rfl⟩
  have HTO := hide (fun W (h : Below w5.heap.size w5 W) => told_any b W HT0.out.1 HT0.out.2.1 HT0.out.2.2 (HE5.out W h))
  rw [hev, hb1, hb2] at HTO
  rw [hev, hb1, hb2]
  clear hev hb1 hb2 HT0
  go_wp2_with fail
  refine (HTO.out _ (Below.refl _ _)).mono ?_
  rintro e w6 ⟨rfl, hb6⟩
  have HB6 := hide hb6
  clear hb6
  go_wp2_with fail
  refine (HTO.out _ HB6.out).mono ?_
  rintro e w7 ⟨rfl, hb7⟩
  have HB7 := hide (HB6.out.trans (hb7.mono HB6.out.size))
  have HO7 := hide ((HO3.out.later HB5.out).later HB7.out)
  have HA7 := hide (HOA5.out.later HB7.out)
  have HC7 := hide (HOB5.out.later HB7.out)
  have HS1 := hide (IN.sameM_any va vw (ni G) (ni G) w7 HA7.out.rm HO7.out.rm (by rw [ni_len]; have := HGL.out; omega) (by rw [ni_len]; have := HGL.out; omega))
  rw [decide_eq_true rfl] at HS1
  clear hb7 HTO HO3 HOA5 HOB5 HB6
  go_wp2_with fail
  refine HS1.out.mono ?_
  rintro e w8 ⟨rfl, hb8⟩
  have HB8 := hide (HB7.out.trans (hb8.mono HB7.out.size))
  have HO8 := hide (HO7.out.later hb8)
  have HA8 := hide (HA7.out.later hb8)
  have HC8 := hide (HC7.out.later hb8)
  have HS2 := hide (IN.sameM_any vb vw (ni G) (ni G) w8 HC8.out.rm HO8.out.rm (by rw [ni_len]; have := HGL.out; omega) (by rw [ni_len]; have := HGL.out; omega))
  rw [decide_eq_true rfl] at HS2
  clear hb8 HS1 HO7 HA7 HC7 HB7
  go_wp2_with fail
  refine HS2.out.mono ?_
  rintro e w9 ⟨rfl, hb9⟩
  have HB9 := hide (HB8.out.trans (hb9.mono HB8.out.size))
  have HA9 := hide (HA8.out.later hb9)
  have HC9 := hide (HC8.out.later hb9)
  clear hb9 HS2 HO8 HA8 HC8 HB8
  go_wp2_with fail
  refine (works_any _).mono ?_
  rintro e w10 ⟨rfl, hb10⟩
  have HB10 := hide (HB9.out.trans (hb10.mono HB9.out.size))
  have HA10 := hide (HA9.out.later hb10)
  have HC10 := hide (HC9.out.later hb10)
  clear hb10 HA9 HC9 HB9
  obtain ⟨aa, ca, hva⟩ := IN.OM.slice HA10.out
  obtain ⟨ab, cb, hvb⟩ := IN.OM.slice HC10.out
  obtain ⟨m, hm⟩ : ∃ m, (ni G).length = m := ⟨_, rfl⟩
  have HM : Hid (m ≤ 4096) := hide (by rw [← hm, ni_len]; exact HGL.out)
  rw [hm] at hva hvb
  subst hva hvb
  have HAP := hide (IN.apartInts_any w3.heap.size w10.heap.size 2 2 _ _ _ _ _ (two_allI HA10.out (IN.OM.base HC10.out (fun g hg => by have := (World.ownsRow.lt HC10.out g hg).1; have := HS4.out; omega)) (fun x h1 h2 => by have := HSZ.out x h1; have := (World.ownsRow.lt HC10.out x h2).1; omega)) (fun k => by split <;> (have := HM.out; omega)) (by decide) (Nat.le_refl _) (by have := HB5.out.size; have := HB10.out.size; simp; omega))
  have HBA : Hid (Below w3.heap.size w3 (w10.alloc (.cells #[.slice aa m ca, .slice ab m cb] 23))) := hide ((HB5.out.trans (HB10.out.mono HB5.out.size)).alloc (Nat.le_trans HB5.out.size HB10.out.size) _)
  clear HA10 HC10 hm HB10
  go_wp2_with fail
  refine HAP.out.mono ?_
  rintro e w11 ⟨rfl, hb11⟩
  have HB11 : Hid (Below w3.heap.size w3 w11) := hide (HBA.out.trans hb11)
  have HK := hide (TW.keptMarks_any _ L _ gl cl w11 (HV.out.later (HB3.out.trans (HB11.out.mono HB3.out.size))) (HLM3.out.later HB11.out) HL.out)
  clear hb11 HAP HBA
  go_wp2_with fail
  refine HK.out.mono ?_
  rintro e w12 ⟨rfl, hb12⟩
  have HB12 := hide (HB11.out.trans (hb12.mono HB11.out.size))
  have HKI := hide (IN.keptInts_any gp cp _ _ P w12 (HLB.out.later HB12.out) (HP.out.later (HB3.out.trans (HB12.out.mono HB3.out.size))) (by have := HPL.out; omega))
  have HBF := hide (HB3.out.trans (HB12.out.mono HB3.out.size))
  clear hb12 HK
  go_wp2_with fail
  refine HKI.out.mono ?_
  rintro e w13 ⟨rfl, hw13⟩
  obtain rfl := hw13.symm
  go_wp2_with fail
  go_ret
  exact ⟨rfl, HBF.out⟩
end Go.Proofs.YtieinnhiaomliaaDoor
