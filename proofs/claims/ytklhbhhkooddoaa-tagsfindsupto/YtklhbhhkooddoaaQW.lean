/-
  My own text: a message of one field.
-/
import Derived.Test.YtklhbhhkooddoaaQH
import Derived.Test.YtklhbhhkooddoaaQS
import Derived.Test.YtklhbhhkooddoaaQC
import Derived.Test.YtklhbhhkooddoaaQN
namespace Go.Proofs.Ytklhbhhkooddoaa
open Go.RowKit

def wT : List UInt8 := [58, 50, 48, 67, 58, 58, 83, 69, 77, 69, 47, 47, 65, 10]
def wI : Tr := .mk ⟨[50, 48, 67], [83, 69, 77, 69], [65], []⟩ []
theorem w_read : rdT wT = .ok [wI] 2 14 := by rfl
theorem w_err : prE [wI] = 0 := by decide +kernel
theorem w_txt : prT [wI] = wT := by decide +kernel
theorem w_find : fndL [50, 48, 67] [83, 69, 77, 69] [wI] = some wI := by rfl
theorem w_count : cntL [wI] = 1 := by rfl
theorem w_wts : wts [wI] = 9 := by rfl
theorem RT_one {w : World} {b cap : Nat} {i : Itm} (h : Ix w b i (.slice none 0 0)) : RT w (.slice (some ⟨b, 0, none⟩) 1 cap) [.mk i []] :=
  ⟨_, cap, rfl, .inr ⟨b, 0, rfl, h.lt, RR_mk (fun k a hk => by
    have hk0 : k = 0 := by have := (List.getElem?_eq_some_iff.1 hk).1; simp at this; omega
    subst hk0
    simp at hk; subst hk
    exact RI_iff.2 ⟨h.tag trivial, h.qual trivial, h.text trivial, h.name trivial, _, h.items trivial, ⟨none, 0, rfl, .inl rfl⟩⟩)⟩⟩
set_option maxRecDepth 100000 in
set_option maxHeartbeats 4000000 in
theorem works_any (w : World) (hm : ML w) :
    Calls Try.prog 16 #[] w fun e w' => e = .returned (.bool true) ∧ Below w.heap.size w w' := by
  have HM := hide hm
  clear hm
  have X0 := hide (Ix.new w wI.itm (.slice none 0 0))
  have R0 : Hid (RT (w.alloc (.cells (iC wI.itm (.slice none 0 0)) 26)) (.slice (some ⟨w.heap.size, 0, none⟩) 1 1) [wI]) := hide (RT_one X0.out)
  have B0 := hide ((Below.refl w.heap.size w).alloc (Nat.le_refl _) (.cells (iC wI.itm (.slice none 0 0)) 26))
  have HPR := hide (tPrint_any [wI] (.slice (some ⟨w.heap.size, 0, none⟩) 1 1) (w.alloc (.cells (iC wI.itm (.slice none 0 0)) 26)) (by rw [w_wts]; omega) R0.out)
  rw [w_err, w_txt, errV_zero] at HPR
  have HPA := hide (fun (W : World) (h : ML W) => parse_ok wT [wI] W (by decide) (readsOk (by decide) w_read) h)
  have HFD := hide (fun (W : World) (h : RT W (.slice (some ⟨w.heap.size, 0, none⟩) 1 1) [wI]) => find_any [50, 48, 67] [83, 69, 77, 69] 9 [wI] (.slice (some ⟨w.heap.size, 0, none⟩) 1 1) W (by rw [w_wts]; omega) (by omega) h)
  rw [w_find] at HFD
  have HCT := hide (fun (W : World) (h : RT W (.slice (some ⟨w.heap.size, 0, none⟩) 1 1) [wI]) => count_any 9 [wI] (.slice (some ⟨w.heap.size, 0, none⟩) 1 1) W (by rw [w_wts]; omega) (by omega) h)
  rw [w_count] at HCT
  have HSM := hide (fun (a : Option Addr) (cap : Nat) (W : World) (h1 : RT W (.slice a 1 cap) [wI]) (h2 : RT W (.slice (some ⟨w.heap.size, 0, none⟩) 1 1) [wI]) => sameItems_all 9 [wI] [wI] (.slice a 1 cap) (.slice (some ⟨w.heap.size, 0, none⟩) 1 1) W (by rw [w_wts]; omega) (by omega) h1 h2)
  rw [eqL_refl] at HSM
  unfold wT at HPR HPA
  unfold iC wI Tr.itm at X0 R0 B0 HPR
  unfold wI at HPA HFD HCT HSM
  dsimp only at X0 R0 B0 HPR
  go_enter Try.func16, Try.ntmps16
  go_wp2_with fail
  refine HPR.out.mono ?_
  rintro e w1 ⟨rfl, hb1⟩
  have B1 := hide (B0.out.trans (hb1.mono B0.out.size))
  have R1 := hide (RT_later R0.out hb1)
  clear hb1 HPR
  go_wp2_with fail
  refine (HPA.out w1 (HM.out.later B1.out)).mono ?_
  rintro e w2 ⟨⟨a, cap, rfl, hpt⟩, hb2⟩
  have B2 := hide (B1.out.trans (hb2.mono B1.out.size))
  have R2 := hide (RT_later R1.out hb2)
  have M2 := hide (PT_rt _ _ _ (Nat.le_refl _) hpt)
  clear hb2 hpt HPA
  go_wp2_with fail
  refine (HFD.out w2 R2.out).mono ?_
  rintro e w3 ⟨⟨qa, qc, rfl, _⟩, hb3⟩
  have B3 := hide (B2.out.trans (hb3.mono B2.out.size))
  have R3 := hide (RT_later R2.out hb3)
  have M3 := hide (RT_later M2.out hb3)
  clear hb3 HFD
  have BW := hide ((Below.refl w3.heap.size w3).alloc (Nat.le_refl _) (.cells (iC ⟨[50, 48, 67], [83, 69, 77, 69], [65], []⟩ (.slice qa 0 qc)) 26))
  have B4 := hide (B3.out.trans (BW.out.mono B3.out.size))
  have R4 := hide (RT_later R3.out BW.out)
  have M4 := hide (RT_later M3.out BW.out)
  have X4 := hide (Ix.new w3 ⟨[50, 48, 67], [83, 69, 77, 69], [65], []⟩ (.slice qa 0 qc))
  unfold iC at BW B4 R4 M4 X4
  dsimp only [Tr.kids, Tr.itm, List.length_nil, List.length_cons] at *
  unfold iC
  dsimp only
  go_wp2_with fail
  refine (HSM.out a cap _ M4.out R4.out).mono ?_
  rintro e w5 ⟨rfl, hb5⟩
  have B5 := hide (B4.out.trans (hb5.mono B4.out.size))
  have R5 := hide (RT_later R4.out hb5)
  have X5 := hide (Ix.later X4.out hb5)
  clear hb5 HSM
  have x2 := X5.out.text trivial
  dsimp only at x2
  go_wp2_with fail
  refine (HCT.out _ R5.out).mono ?_
  rintro e w6 ⟨rfl, hb6⟩
  have B6 := hide (B5.out.trans (hb6.mono B5.out.size))
  clear hb6 HCT
  go_wp2_with fail
  go_ret
  exact ⟨rfl, B6.out⟩
end Go.Proofs.Ytklhbhhkooddoaa
