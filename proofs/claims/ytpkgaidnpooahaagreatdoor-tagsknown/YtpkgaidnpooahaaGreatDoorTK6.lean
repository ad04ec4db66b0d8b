/-
  My own text: the closed law on tags: the example, and all together (printed by mktk6.py).
-/
import Derived.Test.YtpkgaidnpooahaaGreatDoorTK1
import Derived.Test.YtpkgaidnpooahaaGreatDoorTK2
import Derived.Test.YtpkgaidnpooahaaGreatDoorTK3
import Derived.Test.YtpkgaidnpooahaaGreatDoorTK4
import Derived.Test.YtpkgaidnpooahaaGreatDoorTK5
import Derived.Test.YtpkgaidnpooahaaGreatDoorTP2
import Derived.Test.YtpkgaidnpooahaaGreatDoorT20
import Derived.Test.YtpkgaidnpooahaaGreatDoorFI
import Derived.Test.YtpkgaidnpooahaaGreatDoorPL
namespace Go.Proofs.YtpkgaidnpooahaaGreatDoor
open Go.RowKit

def shT : List UInt8 := [58, 49, 54, 82, 58, 71, 69, 78, 76, 10, 58, 50, 48, 67, 58, 58, 83, 69, 77, 69, 47, 47, 82, 69, 70, 49, 10, 58, 50, 51, 71, 58, 78, 69, 87, 77, 10, 58, 49, 54, 83, 58, 71, 69, 78, 76, 10, 58, 55, 48, 69, 58, 58, 83, 80, 82, 79, 47, 47, 111, 110, 101, 10, 116, 119, 111, 10]
def shK : List Tr := [.mk ⟨[50, 48, 67], [83, 69, 77, 69], [82, 69, 70, 49], []⟩ [], .mk ⟨[50, 51, 71], [], [78, 69, 87, 77], []⟩ []]
def shI : List Tr := [.mk ⟨[], [], [], [71, 69, 78, 76]⟩ shK, .mk ⟨[55, 48, 69], [83, 80, 82, 79], [111, 110, 101, 10, 116, 119, 111], []⟩ []]
theorem sh_err : prE shI = 0 := by decide +kernel
theorem sh_txt : prT shI = shT := by decide +kernel
theorem sh_read : ∃ n b, rdT shT = .ok shI n b := by
  have h := rdT_back shI (by decide +kernel)
  rw [show txtL shI = shT by decide +kernel] at h
  exact h
theorem sh_wts : wts shI ≤ 1000 := by simp [shI, shK, wts, Tr.wt]
theorem ba_list (x : ByteArray) : x = ⟨x.data.toList.toArray⟩ := by apply ByteArray.ext; simp
/-- The four laws, where the two variables are as the program has them. -/
theorem kl_of (w : World) (hE : Hid (ErrType w)) (hm : ML w) : KL w :=
  ⟨fun W x h1 h2 => by rw [ba_list x]; exact tagsParse_law _ W (by rw [Array.length_toList]; exact h2) (hide (hE.out.below h1)) (hm.later h1),
   fun W x h1 h2 => by rw [ba_list x]; exact places_law _ W (by rw [Array.length_toList]; exact h2) (hide (hE.out.below h1)) (hm.later h1),
   fun W v l h1 h2 h3 => tagsPrint_law l v W h3 h2 (hide (hE.out.below h1)),
   fun W v l a b c h1 h2 h3 => by rw [ba_list a, ba_list b, ba_list c]; exact finds_law l v _ _ _ W h3 h2 (hm.later h1)⟩
set_option maxRecDepth 100000 in
set_option maxHeartbeats 8000000 in
theorem shownK_any (w : World) (hm : ML w) :
    Calls Tryz.prog 4 #[] w fun e w' => e = .returned (.bool true) ∧ Below w.heap.size w w' := by
  have HM := hide hm
  clear hm
  have B0 : Below w.heap.size w (w.alloc (.cells (itC [(.mk ⟨[50, 48, 67], [83, 69, 77, 69], [82, 69, 70, 49], []⟩ [], .slice none 0 0), (.mk ⟨[50, 51, 71], [], [78, 69, 87, 77], []⟩ [], .slice none 0 0)]).toArray 25)) := (Below.refl _ _).alloc (Nat.le_refl _) _
  have R0 : RT (w.alloc (.cells (itC [(.mk ⟨[50, 48, 67], [83, 69, 77, 69], [82, 69, 70, 49], []⟩ [], .slice none 0 0), (.mk ⟨[50, 51, 71], [], [78, 69, 87, 77], []⟩ [], .slice none 0 0)]).toArray 25)) (.slice (some ⟨w.heap.size, 0, none⟩) 2 2) shK := RT_litn [(.mk ⟨[50, 48, 67], [83, 69, 77, 69], [82, 69, 70, 49], []⟩ [], .slice none 0 0), (.mk ⟨[50, 51, 71], [], [78, 69, 87, 77], []⟩ [], .slice none 0 0)] _ _ rfl rfl rfl rfl (fun p hp => by simp only [List.mem_cons, List.not_mem_nil, or_false] at hp; rcases hp with rfl | rfl <;> exact RT_nil _)
  obtain ⟨W0, hW0⟩ : ∃ W0, W0 = w.alloc (.cells (itC [(.mk ⟨[50, 48, 67], [83, 69, 77, 69], [82, 69, 70, 49], []⟩ [], .slice none 0 0), (.mk ⟨[50, 51, 71], [], [78, 69, 87, 77], []⟩ [], .slice none 0 0)]).toArray 25) := ⟨_, rfl⟩
  have hs0 : W0.heap.size = w.heap.size + 1 := by rw [hW0]; simp
  rw [← hW0] at B0 R0
  have R1 : Hid (RT (W0.alloc (.cells (itC [(.mk ⟨[], [], [], [71, 69, 78, 76]⟩ shK, .slice (some ⟨w.heap.size, 0, none⟩) 2 2), (.mk ⟨[55, 48, 69], [83, 80, 82, 79], [111, 110, 101, 10, 116, 119, 111], []⟩ [], .slice none 0 0)]).toArray 25)) (.slice (some ⟨w.heap.size + 1, 0, none⟩) 2 2) shI) := hide (RT_litn [(.mk ⟨[], [], [], [71, 69, 78, 76]⟩ shK, .slice (some ⟨w.heap.size, 0, none⟩) 2 2), (.mk ⟨[55, 48, 69], [83, 80, 82, 79], [111, 110, 101, 10, 116, 119, 111], []⟩ [], .slice none 0 0)] _ _ hs0 rfl rfl rfl (fun p hp => by simp only [List.mem_cons, List.not_mem_nil, or_false] at hp; rcases hp with rfl | rfl <;> first | exact R0 | exact RT_nil _))
  have B1 : Hid (Below w.heap.size w (W0.alloc (.cells (itC [(.mk ⟨[], [], [], [71, 69, 78, 76]⟩ shK, .slice (some ⟨w.heap.size, 0, none⟩) 2 2), (.mk ⟨[55, 48, 69], [83, 80, 82, 79], [111, 110, 101, 10, 116, 119, 111], []⟩ [], .slice none 0 0)]).toArray 25))) := hide (B0.alloc B0.size _)
  rw [hW0] at R1 B1
  have HPA := hide (fun (W : World) (h : ML W) => parse_ok shT shI W (by decide) (by obtain ⟨n, b, hr⟩ := sh_read; exact readsOk (by decide) hr) h)
  have HPR := hide (fun (W : World) (h : RT W (.slice (some ⟨w.heap.size + 1, 0, none⟩) 2 2) shI) => tPrint_any shI (.slice (some ⟨w.heap.size + 1, 0, none⟩) 2 2) W (by have := sh_wts; omega) h)
  rw [sh_err, sh_txt, errV_zero] at HPR
  have HSM := hide (fun (a : Option Addr) (cap : Nat) (W : World) (h1 : RT W (.slice a shI.length cap) shI) (h2 : RT W (.slice (some ⟨w.heap.size + 1, 0, none⟩) 2 2) shI) => sameItems_all 1000 shI shI (.slice a shI.length cap) (.slice (some ⟨w.heap.size + 1, 0, none⟩) 2 2) W sh_wts (by omega) h1 h2)
  rw [eqL_refl] at HSM
  clear B0 R0 hs0 hW0
  go_enter Tryz.func4, Tryz.ntmps4
  go_wp2_with fail
  refine (HPA.out _ (HM.out.later B1.out)).mono ?_
  rintro e w1 ⟨⟨a, cap, rfl, hpt⟩, hb1⟩
  have B2 := hide (B1.out.trans (hb1.mono B1.out.size))
  have R2 := hide (RT_later R1.out hb1)
  have P2 := hide (PT_rt _ _ _ (Nat.le_refl _) hpt)
  clear hb1 hpt B1 R1 HPA
  go_wp2_with fail
  refine (HPR.out _ R2.out).mono ?_
  rintro e w2 ⟨rfl, hb2⟩
  have B3 := hide (B2.out.trans (hb2.mono B2.out.size))
  have R3 := hide (RT_later R2.out hb2)
  have P3 := hide (RT_later P2.out hb2)
  clear hb2 B2 R2 P2 HPR
  go_wp2_with fail
  refine (HSM.out a cap _ P3.out R3.out).mono ?_
  rintro e w3 ⟨rfl, hb3⟩
  have B4 := hide (B3.out.trans (hb3.mono B3.out.size))
  clear hb3 B3 R3 P3 HSM
  have hts : (⟨shT.toArray⟩ : ByteArray) = ⟨#[58, 49, 54, 82, 58, 71, 69, 78, 76, 10, 58, 50, 48, 67, 58, 58, 83, 69, 77, 69, 47, 47, 82, 69, 70, 49, 10, 58, 50, 51, 71, 58, 78, 69, 87, 77, 10, 58, 49, 54, 83, 58, 71, 69, 78, 76, 10, 58, 55, 48, 69, 58, 58, 83, 80, 82, 79, 47, 47, 111, 110, 101, 10, 116, 119, 111, 10]⟩ := rfl
  go_wp2_with fail
  refine (works_any w3 (HM.out.later B4.out)).mono ?_
  rintro e w4 ⟨rfl, hb4⟩
  have B5 := hide (B4.out.trans (hb4.mono B4.out.size))
  clear hb4 B4
  go_wp2_with fail
  go_ret
  exact ⟨rfl, B5.out⟩
set_option maxRecDepth 100000 in
set_option maxHeartbeats 4000000 in
theorem tagsKnown_law (w : World) (hE : Hid (ErrType w)) (hm : ML w) :
    Calls Tryz.prog 3 #[] w fun e w' => e = .returned (.bool true) ∧ Below w.heap.size w w' := by
  have HL := hide (kl_of w hE hm)
  have HM := hide hm
  have H1 := hide (shownK_any w hm)
  clear hm hE
  go_enter Tryz.func3, Tryz.ntmps3
  go_wp2_with fail
  refine H1.out.mono ?_
  rintro e w1 ⟨rfl, hb1⟩
  have B1 := hide hb1
  have H2 := hide (bytesK_any w1 (HL.out.low hb1))
  clear hb1 H1
  go_wp2_with fail
  refine H2.out.mono ?_
  rintro e w2 ⟨rfl, hb2⟩
  have B2 := hide (B1.out.trans (hb2.mono B1.out.size))
  have H3 := hide (linesK_any w2 (HL.out.low B2.out))
  clear hb2 H2 B1
  go_wp2_with fail
  refine H3.out.mono ?_
  rintro e w3 ⟨rfl, hb3⟩
  have B3 := hide (B2.out.trans (hb3.mono B2.out.size))
  have H4 := hide (nestedK_any w3 (HL.out.low B3.out))
  clear hb3 H3 B2
  go_wp2_with fail
  refine H4.out.mono ?_
  rintro e w4 ⟨rfl, hb4⟩
  have B4 := hide (B3.out.trans (hb4.mono B3.out.size))
  have H5 := hide (oddK_any w4 (HL.out.low B4.out))
  clear hb4 H4 B3
  go_wp2_with fail
  refine H5.out.mono ?_
  rintro e w5 ⟨rfl, hb5⟩
  have B5 := hide (B4.out.trans (hb5.mono B4.out.size))
  have H6 := hide (longK_any w5 (HL.out.low B5.out) (HM.out.later B5.out))
  clear hb5 H5 B4
  go_wp2_with fail
  refine H6.out.mono ?_
  rintro e w6 ⟨rfl, hb6⟩
  have B6 := hide (B5.out.trans (hb6.mono B5.out.size))
  clear hb6 H6 B5
  go_wp2_with fail
  go_ret
  exact ⟨rfl, B6.out⟩
end Go.Proofs.YtpkgaidnpooahaaGreatDoor
