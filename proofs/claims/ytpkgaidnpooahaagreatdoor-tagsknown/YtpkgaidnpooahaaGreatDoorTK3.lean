/-
  My own text: the closed law on tags: odd items (printed by mktk3.py).
-/
import Derived.Test.YtpkgaidnpooahaaGreatDoorTKB
import Derived.Test.YtpkgaidnpooahaaGreatDoorQRz
import Derived.Great.BuildSlice
namespace Go.Proofs.YtpkgaidnpooahaaGreatDoor
open Go.RowKit

theorem Tryz.infoItmK : (Tryz.prog.info? 25).map (fun i => (i.zero, i.size, i.bytes)) = some (some (.agg #[.string ⟨#[]⟩, .string ⟨#[]⟩, .string ⟨#[]⟩, .string ⟨#[]⟩, .slice none 0 0]), 5, 88) := by kernel_rfl
theorem cellK_al {W : World} {p : Addr} {v : Value} (h : W.cell? p = some v) (o : Obj) : (W.alloc o).cell? p = some v := by
  have hlt : p.block < W.heap.size := by
    rcases Nat.lt_or_ge p.block W.heap.size with hc | hc
    · exact hc
    · have : W.heap[p.block]? = none := Array.getElem?_eq_none hc
      simp [World.cell?, this] at h
  exact (((Below.refl W.heap.size W).alloc (Nat.le_refl _) o).cell hlt).trans h
def fI : Tr := .mk ⟨[50, 48, 67], [83, 69, 77, 69], [65], []⟩ []
def odL (B : Nat) : List (Tr × Value) := [(.mk ⟨[], [], [], []⟩ [], .slice none 0 0),
  (.mk ⟨[50, 48, 67], [], [], [65]⟩ [], .slice none 0 0),
  (.mk ⟨[50, 48, 67], [], [], []⟩ [fI], .slice (some ⟨B + 1, 0, none⟩) 1 1),
  (.mk ⟨[], [], [120], [65]⟩ [], .slice none 0 0),
  (.mk ⟨[], [83, 69, 77, 69], [], [65]⟩ [], .slice none 0 0),
  (.mk ⟨[49, 54, 82], [], [65], []⟩ [], .slice none 0 0),
  (.mk ⟨[49, 54, 83], [], [65], []⟩ [], .slice none 0 0),
  (.mk ⟨[], [], [120], []⟩ [], .slice none 0 0),
  (.mk ⟨[], [83, 69, 77, 69], [], []⟩ [], .slice none 0 0),
  (.mk ⟨[], [], [], []⟩ [fI], .slice (some ⟨B + 2, 0, none⟩) 1 1),
  (.mk ⟨[50, 48, 67], [], [58, 65], []⟩ [], .slice none 0 0),
  (.mk ⟨[50, 48, 67], [83, 69, 77, 69], [58, 65], []⟩ [], .slice none 0 0),
  (.mk ⟨[50, 48, 67], [], [97, 10, 10, 98], []⟩ [], .slice none 0 0),
  (.mk ⟨[50, 48, 67], [], [97, 10], []⟩ [], .slice none 0 0),
  (.mk ⟨[50, 48, 67], [], [10], []⟩ [], .slice none 0 0),
  (.mk ⟨[50, 48, 67], [], [10, 98], []⟩ [], .slice none 0 0),
  (.mk ⟨[50, 48, 67], [], [97, 10, 58, 98], []⟩ [], .slice none 0 0),
  (.mk ⟨[50, 48, 67], [], [97, 10, 45, 98], []⟩ [], .slice none 0 0),
  (.mk ⟨[50, 48, 67], [], [45, 97, 10, 98], []⟩ [], .slice none 0 0),
  (.mk ⟨[50, 48, 67], [], [128, 10], []⟩ [], .slice none 0 0),
  (.mk ⟨[50, 48, 67], [], [58, 128], []⟩ [], .slice none 0 0),
  (.mk ⟨[50], [], [128], []⟩ [], .slice none 0 0),
  (.mk ⟨[50, 48, 67], [65, 66, 67], [128], []⟩ [], .slice none 0 0),
  (.mk ⟨[50, 48, 99], [], [], []⟩ [], .slice none 0 0),
  (.mk ⟨[67, 50, 48], [], [], []⟩ [], .slice none 0 0),
  (.mk ⟨[50, 48], [], [], []⟩ [], .slice none 0 0),
  (.mk ⟨[50, 48, 67, 67], [], [], []⟩ [], .slice none 0 0),
  (.mk ⟨[50, 48, 67], [65, 66, 67, 68, 69], [], []⟩ [], .slice none 0 0),
  (.mk ⟨[50, 48, 67], [97, 98, 99, 100], [], []⟩ [], .slice none 0 0),
  (.mk ⟨[], [], [], [65, 66, 67, 68, 69, 70, 71, 72, 73, 74, 75, 76, 77, 78, 79, 80, 81]⟩ [], .slice none 0 0),
  (.mk ⟨[], [], [], [65, 66, 67, 68, 69, 70, 71, 72, 73, 74, 75, 76, 77, 78, 79, 80]⟩ [], .slice none 0 0),
  (.mk ⟨[], [], [], [97]⟩ [], .slice none 0 0),
  (.mk ⟨[], [], [], [65, 32, 66]⟩ [], .slice none 0 0)]
theorem odL_len (B : Nat) : ((odL B).map (·.1)).length = 33 := rfl
theorem odL_wts (B : Nat) : wts ((odL B).map (·.1)) ≤ 1000 := by simp [odL, wts, Tr.wt, fI]
theorem fI_wt : fI.wt = 9 := rfl
theorem odL_kids {w : World} (B : Nat) (h1 : RT w (.slice (some ⟨B + 1, 0, none⟩) 1 1) [fI]) (h2 : RT w (.slice (some ⟨B + 2, 0, none⟩) 1 1) [fI]) : ∀ p ∈ odL B, RT w p.2 p.1.kids := by
  intro p hp
  simp only [odL, List.mem_cons, List.not_mem_nil, or_false] at hp
  rcases hp with rfl | rfl | rfl | rfl | rfl | rfl | rfl | rfl | rfl | rfl | rfl | rfl | rfl | rfl | rfl | rfl | rfl | rfl | rfl | rfl | rfl | rfl | rfl | rfl | rfl | rfl | rfl | rfl | rfl | rfl | rfl | rfl | rfl <;> first | exact RT_nil _ | exact h1 | exact h2
set_option maxRecDepth 100000 in
set_option maxHeartbeats 16000000 in
theorem oddK_any (w : World) (hL : KL w) :
    Calls Tryz.prog 8 #[] w fun e w' => e = .returned (.bool true) ∧ Below w.heap.size w w' := by
  have HL := hide hL
  have B1 : Below w.heap.size w (w.alloc (.cells (iC fI.itm (.slice none 0 0)) 25)) := (Below.refl _ _).alloc (Nat.le_refl _) _
  have B2 : Below w.heap.size w ((w.alloc (.cells (iC fI.itm (.slice none 0 0)) 25)).alloc (.cells (itC [(fI, .slice none 0 0)]).toArray 25)) := B1.alloc (by simp) _
  have B3 : Below w.heap.size w (((w.alloc (.cells (iC fI.itm (.slice none 0 0)) 25)).alloc (.cells (itC [(fI, .slice none 0 0)]).toArray 25)).alloc (.cells (itC [(fI, .slice none 0 0)]).toArray 25)) := B2.alloc (by simp; omega) _
  have HB0 : Hid (Below w.heap.size w ((((w.alloc (.cells (iC fI.itm (.slice none 0 0)) 25)).alloc (.cells (itC [(fI, .slice none 0 0)]).toArray 25)).alloc (.cells (itC [(fI, .slice none 0 0)]).toArray 25)).alloc (.cells (itC (odL w.heap.size)).toArray 25))) := hide (B3.alloc (by simp; omega) _)
  have R1 : RT ((w.alloc (.cells (iC fI.itm (.slice none 0 0)) 25)).alloc (.cells (itC [(fI, .slice none 0 0)]).toArray 25)) (.slice (some ⟨w.heap.size + 1, 0, none⟩) 1 1) [fI] := RT_litn [(fI, .slice none 0 0)] [fI] _ (by simp) rfl rfl rfl (fun p hp => by rw [List.mem_singleton.1 hp]; exact RT_nil _)
  have R2 : RT (((w.alloc (.cells (iC fI.itm (.slice none 0 0)) 25)).alloc (.cells (itC [(fI, .slice none 0 0)]).toArray 25)).alloc (.cells (itC [(fI, .slice none 0 0)]).toArray 25)) (.slice (some ⟨w.heap.size + 2, 0, none⟩) 1 1) [fI] := RT_litn [(fI, .slice none 0 0)] [fI] _ (by simp) rfl rfl rfl (fun p hp => by rw [List.mem_singleton.1 hp]; exact RT_nil _)
  have R1' := RT_later R1 ((Below.refl _ _).alloc (Nat.le_refl _) (.cells (itC [(fI, .slice none 0 0)]).toArray 25))
  have HR0 : Hid (RT ((((w.alloc (.cells (iC fI.itm (.slice none 0 0)) 25)).alloc (.cells (itC [(fI, .slice none 0 0)]).toArray 25)).alloc (.cells (itC [(fI, .slice none 0 0)]).toArray 25)).alloc (.cells (itC (odL w.heap.size)).toArray 25)) (.slice (some ⟨w.heap.size + 1 + 1 + 1, 0, none⟩) 33 33) ((odL w.heap.size).map (·.1))) := hide (RT_litn (odL w.heap.size) _ _ (by simp) rfl rfl rfl (odL_kids w.heap.size R1' R2))
  have HX0 : Hid (Ix ((((w.alloc (.cells (iC fI.itm (.slice none 0 0)) 25)).alloc (.cells (itC [(fI, .slice none 0 0)]).toArray 25)).alloc (.cells (itC [(fI, .slice none 0 0)]).toArray 25)).alloc (.cells (itC (odL w.heap.size)).toArray 25)) w.heap.size fI.itm (.slice none 0 0)) := hide ((((Ix.new w fI.itm (.slice none 0 0)).alloc _).alloc _).alloc _)
  have h33 := odL_len w.heap.size
  have HWT := hide (odL_wts w.heap.size)
  clear hL B1 B2 B3 R1 R2 R1'
  go_enter Tryz.func8, Tryz.ntmps8
  go_wp2_with fail
  obtain ⟨i0, hi, hz0, hz1, hz2⟩ := info_parts Tryz.infoItmK
  refine wp_buildSlice 23 25 33 _ rfl (itC (odL w.heap.size)).toArray i0 _ Tryz.underlying23 hi hz0 (by rw [hz1]; decide) (by rw [hz1]; decide) (by rw [hz1]; kernel_rfl) ?_
  clear hi hz0 hz1 hz2
  go_wp2_with fail
  generalize Value.agg #[Value.string ⟨#[50, 48, 67]⟩, Value.string ⟨#[83, 69, 77, 69]⟩, Value.string ⟨#[65]⟩, Value.string ⟨#[]⟩, Value.slice none 0 0] = zz0
  generalize Value.agg #[Value.string ⟨#[]⟩, Value.string ⟨#[]⟩, Value.string ⟨#[]⟩, Value.string ⟨#[]⟩, Value.slice none 0 0] = zz1
  generalize Value.agg #[Value.string ⟨#[50, 48, 67]⟩, Value.string ⟨#[]⟩, Value.string ⟨#[]⟩, Value.string ⟨#[65]⟩, Value.slice none 0 0] = zz2
  generalize Value.agg #[Value.string ⟨#[50, 48, 67]⟩, Value.string ⟨#[]⟩, Value.string ⟨#[]⟩, Value.string ⟨#[]⟩, Value.slice (some ⟨w.heap.size + 1, 0, none⟩) 1 1] = zz3
  generalize Value.agg #[Value.string ⟨#[]⟩, Value.string ⟨#[]⟩, Value.string ⟨#[120]⟩, Value.string ⟨#[65]⟩, Value.slice none 0 0] = zz4
  generalize Value.agg #[Value.string ⟨#[]⟩, Value.string ⟨#[83, 69, 77, 69]⟩, Value.string ⟨#[]⟩, Value.string ⟨#[65]⟩, Value.slice none 0 0] = zz5
  generalize Value.agg #[Value.string ⟨#[49, 54, 82]⟩, Value.string ⟨#[]⟩, Value.string ⟨#[65]⟩, Value.string ⟨#[]⟩, Value.slice none 0 0] = zz6
  generalize Value.agg #[Value.string ⟨#[49, 54, 83]⟩, Value.string ⟨#[]⟩, Value.string ⟨#[65]⟩, Value.string ⟨#[]⟩, Value.slice none 0 0] = zz7
  generalize Value.agg #[Value.string ⟨#[]⟩, Value.string ⟨#[]⟩, Value.string ⟨#[120]⟩, Value.string ⟨#[]⟩, Value.slice none 0 0] = zz8
  generalize Value.agg #[Value.string ⟨#[]⟩, Value.string ⟨#[83, 69, 77, 69]⟩, Value.string ⟨#[]⟩, Value.string ⟨#[]⟩, Value.slice none 0 0] = zz9
  generalize Value.agg #[Value.string ⟨#[]⟩, Value.string ⟨#[]⟩, Value.string ⟨#[]⟩, Value.string ⟨#[]⟩, Value.slice (some ⟨w.heap.size + 1 + 1, 0, none⟩) 1 1] = zz10
  generalize Value.agg #[Value.string ⟨#[50, 48, 67]⟩, Value.string ⟨#[]⟩, Value.string ⟨#[58, 65]⟩, Value.string ⟨#[]⟩, Value.slice none 0 0] = zz11
  generalize Value.agg #[Value.string ⟨#[50, 48, 67]⟩, Value.string ⟨#[83, 69, 77, 69]⟩, Value.string ⟨#[58, 65]⟩, Value.string ⟨#[]⟩, Value.slice none 0 0] = zz12
  generalize Value.agg #[Value.string ⟨#[50, 48, 67]⟩, Value.string ⟨#[]⟩, Value.string ⟨#[97, 10, 10, 98]⟩, Value.string ⟨#[]⟩, Value.slice none 0 0] = zz13
  generalize Value.agg #[Value.string ⟨#[50, 48, 67]⟩, Value.string ⟨#[]⟩, Value.string ⟨#[97, 10]⟩, Value.string ⟨#[]⟩, Value.slice none 0 0] = zz14
  generalize Value.agg #[Value.string ⟨#[50, 48, 67]⟩, Value.string ⟨#[]⟩, Value.string ⟨#[10]⟩, Value.string ⟨#[]⟩, Value.slice none 0 0] = zz15
  generalize Value.agg #[Value.string ⟨#[50, 48, 67]⟩, Value.string ⟨#[]⟩, Value.string ⟨#[10, 98]⟩, Value.string ⟨#[]⟩, Value.slice none 0 0] = zz16
  generalize Value.agg #[Value.string ⟨#[50, 48, 67]⟩, Value.string ⟨#[]⟩, Value.string ⟨#[97, 10, 58, 98]⟩, Value.string ⟨#[]⟩, Value.slice none 0 0] = zz17
  generalize Value.agg #[Value.string ⟨#[50, 48, 67]⟩, Value.string ⟨#[]⟩, Value.string ⟨#[97, 10, 45, 98]⟩, Value.string ⟨#[]⟩, Value.slice none 0 0] = zz18
  generalize Value.agg #[Value.string ⟨#[50, 48, 67]⟩, Value.string ⟨#[]⟩, Value.string ⟨#[45, 97, 10, 98]⟩, Value.string ⟨#[]⟩, Value.slice none 0 0] = zz19
  generalize Value.agg #[Value.string ⟨#[50, 48, 67]⟩, Value.string ⟨#[]⟩, Value.string ⟨#[128, 10]⟩, Value.string ⟨#[]⟩, Value.slice none 0 0] = zz20
  generalize Value.agg #[Value.string ⟨#[50, 48, 67]⟩, Value.string ⟨#[]⟩, Value.string ⟨#[58, 128]⟩, Value.string ⟨#[]⟩, Value.slice none 0 0] = zz21
  generalize Value.agg #[Value.string ⟨#[50]⟩, Value.string ⟨#[]⟩, Value.string ⟨#[128]⟩, Value.string ⟨#[]⟩, Value.slice none 0 0] = zz22
  generalize Value.agg #[Value.string ⟨#[50, 48, 67]⟩, Value.string ⟨#[65, 66, 67]⟩, Value.string ⟨#[128]⟩, Value.string ⟨#[]⟩, Value.slice none 0 0] = zz23
  generalize Value.agg #[Value.string ⟨#[50, 48, 99]⟩, Value.string ⟨#[]⟩, Value.string ⟨#[]⟩, Value.string ⟨#[]⟩, Value.slice none 0 0] = zz24
  generalize Value.agg #[Value.string ⟨#[67, 50, 48]⟩, Value.string ⟨#[]⟩, Value.string ⟨#[]⟩, Value.string ⟨#[]⟩, Value.slice none 0 0] = zz25
  generalize Value.agg #[Value.string ⟨#[50, 48]⟩, Value.string ⟨#[]⟩, Value.string ⟨#[]⟩, Value.string ⟨#[]⟩, Value.slice none 0 0] = zz26
  generalize Value.agg #[Value.string ⟨#[50, 48, 67, 67]⟩, Value.string ⟨#[]⟩, Value.string ⟨#[]⟩, Value.string ⟨#[]⟩, Value.slice none 0 0] = zz27
  generalize Value.agg #[Value.string ⟨#[50, 48, 67]⟩, Value.string ⟨#[65, 66, 67, 68, 69]⟩, Value.string ⟨#[]⟩, Value.string ⟨#[]⟩, Value.slice none 0 0] = zz28
  generalize Value.agg #[Value.string ⟨#[50, 48, 67]⟩, Value.string ⟨#[97, 98, 99, 100]⟩, Value.string ⟨#[]⟩, Value.string ⟨#[]⟩, Value.slice none 0 0] = zz29
  generalize Value.agg #[Value.string ⟨#[]⟩, Value.string ⟨#[]⟩, Value.string ⟨#[]⟩, Value.string ⟨#[65, 66, 67, 68, 69, 70, 71, 72, 73, 74, 75, 76, 77, 78, 79, 80, 81]⟩, Value.slice none 0 0] = zz30
  generalize Value.agg #[Value.string ⟨#[]⟩, Value.string ⟨#[]⟩, Value.string ⟨#[]⟩, Value.string ⟨#[65, 66, 67, 68, 69, 70, 71, 72, 73, 74, 75, 76, 77, 78, 79, 80]⟩, Value.slice none 0 0] = zz31
  generalize Value.agg #[Value.string ⟨#[]⟩, Value.string ⟨#[]⟩, Value.string ⟨#[]⟩, Value.string ⟨#[97]⟩, Value.slice none 0 0] = zz32
  generalize Value.agg #[Value.string ⟨#[]⟩, Value.string ⟨#[]⟩, Value.string ⟨#[]⟩, Value.string ⟨#[65, 32, 66]⟩, Value.slice none 0 0] = zz33
  obtain ⟨L, hLL⟩ : ∃ L, Hid (L = (odL w.heap.size).map (·.1)) := ⟨_, hide rfl⟩
  rw [← hLL.out] at h33 HWT HR0
  clear hLL
  go_loopw [3] (fun i wr => ∃ k : Nat, k ≤ 33 ∧ i = .int .i64 k ∧ Hid (Below w.heap.size w wr) ∧ Hid (RT wr (.slice (some ⟨w.heap.size + 1 + 1 + 1, 0, none⟩) 33 33) L) ∧ Hid (Ix wr w.heap.size fI.itm (.slice none 0 0))) (fun i _ => 33 - (intOf i).toNat)
  case atStart => exact ⟨0, Nat.zero_le _, rfl, HB0, HR0, HX0⟩
  case round =>
    clear HB0 HR0 HX0
    obtain ⟨k, hk, rfl, HB, HR, HX⟩ := hrel
    by_cases hkl : k < 33
    · have hd1 : decide ((k : Int) < 33) = true := by rw [decide_eq_true_eq]; omega
      obtain ⟨t, ht⟩ : ∃ t, L[k]? = some t := ⟨_, List.getElem?_eq_getElem (by omega)⟩
      obtain ⟨hlt, kv, c0, c1, c2, c3, c4, hkv⟩ := RT_pos HR.out ht
      obtain ⟨ka, kc, hkve, _⟩ := id hkv
      subst hkve
      have HTW : Hid (t.wt ≤ 1000) := hide (Nat.le_trans (wts_at ht) HWT.out)
      have k0 : (0 : Int) ≤ (k : Int) := by omega
      have k1 : (k : Int) < 33 := by omega
      have BA := (Below.refl wr.heap.size wr).alloc (Nat.le_refl _) (.cells (iC t.itm (.slice ka t.kids.length kc)) 25)
      have HB1 := hide (HB.out.alloc HB.out.size (.cells (iC t.itm (.slice ka t.kids.length kc)) 25))
      have HR1 := hide (RT_later HR.out BA)
      have HX1 := hide (HX.out.later BA)
      have HT1 := hide (Ix.new wr t.itm (.slice ka t.kids.length kc))
      have HK1 := hide (RT_later hkv BA)
      clear ht hkv hlt BA
      go_wp2_with fail
      clear c0 c1 c2 c3 c4
      obtain ⟨X, hXX⟩ : ∃ X, X = wr.heap.size := ⟨_, rfl⟩
      rw [← hXX] at HT1 ⊢
      clear hXX HB HR HX
      go_loopw [5] (fun i wr => ∃ k : Nat, k ≤ 33 ∧ i = .int .i64 k ∧ Hid (Below w.heap.size w wr) ∧ Hid (RT wr (.slice (some ⟨w.heap.size + 1 + 1 + 1, 0, none⟩) 33 33) L) ∧ Hid (Ix wr w.heap.size fI.itm (.slice none 0 0)) ∧ Hid (Ix wr X t.itm (.slice ka t.kids.length kc)) ∧ Hid (RT wr (.slice ka t.kids.length kc) t.kids)) (fun i _ => 33 - (intOf i).toNat)
      case atStart => exact ⟨0, Nat.zero_le _, rfl, HB1, HR1, HX1, HT1, HK1⟩
      case round =>
        clear HB1 HR1 HX1 HT1 HK1
        obtain ⟨j, hj, rfl, HB, HR, HX, HT, HK⟩ := hrel
        obtain ⟨W2, rfl⟩ : ∃ W2, W2 = wr := ⟨_, rfl⟩
        by_cases hjl : j < 33
        · have hd2 : decide ((j : Int) < 33) = true := by rw [decide_eq_true_eq]; omega
          obtain ⟨u, hu⟩ : ∃ u, L[j]? = some u := ⟨_, List.getElem?_eq_getElem (by omega)⟩
          obtain ⟨hlt, ku, d0, d1, d2, d3, d4, hku⟩ := RT_pos HR.out hu
          obtain ⟨ua, uc, hkue, _⟩ := id hku
          subst hkue
          have HUW : Hid (u.wt ≤ 1000) := hide (Nat.le_trans (wts_at hu) HWT.out)
          have HKU := hide hku
          have j0 : (0 : Int) ≤ (j : Int) := by omega
          have j1 : (j : Int) < 33 := by omega
          have HSA : Hid (∀ W : World, Below W2.heap.size W2 W → W.cell? ⟨w.heap.size, 0, none⟩ = some (.string ⟨#[50, 48, 67]⟩) ∧ W.cell? ⟨w.heap.size, 1, none⟩ = some (.string ⟨#[83, 69, 77, 69]⟩) ∧ W.cell? ⟨w.heap.size, 2, none⟩ = some (.string ⟨#[65]⟩) ∧ W.cell? ⟨w.heap.size, 3, none⟩ = some (.string ⟨#[]⟩) ∧ W.cell? ⟨w.heap.size, 4, none⟩ = some (.slice none 0 0) ∧ W.cell? ⟨X, 0, none⟩ = some (.string ⟨t.itm.tag.toArray⟩) ∧ W.cell? ⟨X, 1, none⟩ = some (.string ⟨t.itm.qual.toArray⟩) ∧ W.cell? ⟨X, 2, none⟩ = some (.string ⟨t.itm.text.toArray⟩) ∧ W.cell? ⟨X, 3, none⟩ = some (.string ⟨t.itm.name.toArray⟩) ∧ W.cell? ⟨X, 4, none⟩ = some (.slice ka t.kids.length kc) ∧ W.cell? ⟨(w.heap.size + 1 + 1 + 1), j * 5, none⟩ = some (.string ⟨u.itm.tag.toArray⟩) ∧ W.cell? ⟨(w.heap.size + 1 + 1 + 1), j * 5 + 1, none⟩ = some (.string ⟨u.itm.qual.toArray⟩) ∧ W.cell? ⟨(w.heap.size + 1 + 1 + 1), j * 5 + 2, none⟩ = some (.string ⟨u.itm.text.toArray⟩) ∧ W.cell? ⟨(w.heap.size + 1 + 1 + 1), j * 5 + 3, none⟩ = some (.string ⟨u.itm.name.toArray⟩) ∧ W.cell? ⟨(w.heap.size + 1 + 1 + 1), j * 5 + 4, none⟩ = some (.slice ua u.kids.length uc)) := hide (fun W hW => ⟨(hW.cell HX.out.lt).trans (HX.out.tag trivial), (hW.cell HX.out.lt).trans (HX.out.qual trivial), (hW.cell HX.out.lt).trans (HX.out.text trivial), (hW.cell HX.out.lt).trans (HX.out.name trivial), (hW.cell HX.out.lt).trans (HX.out.items trivial), (hW.cell HT.out.lt).trans (HT.out.tag trivial), (hW.cell HT.out.lt).trans (HT.out.qual trivial), (hW.cell HT.out.lt).trans (HT.out.text trivial), (hW.cell HT.out.lt).trans (HT.out.name trivial), (hW.cell HT.out.lt).trans (HT.out.items trivial), (hW.cell hlt).trans d0, (hW.cell hlt).trans d1, (hW.cell hlt).trans d2, (hW.cell hlt).trans d3, (hW.cell hlt).trans d4⟩)
          have HC1 : Hid (Calls Tryz.prog 15 #[.slice (some ⟨W2.heap.size, 0, none⟩) 2 2] (W2.alloc (.cells (itC [(t, (.slice ka t.kids.length kc)), (u, (.slice ua u.kids.length uc))]).toArray 25)).drew fun e w' => e = .returned (.bool true) ∧ Below W2.heap.size W2 w') := hide (by
            have hb : Below W2.heap.size W2 (W2.alloc (.cells (itC [(t, (.slice ka t.kids.length kc)), (u, (.slice ua u.kids.length uc))]).toArray 25)).drew := ((Below.refl _ _).alloc (Nat.le_refl _) _).drew
            refine (HL.out.prn _ _ [t, u] (HB.out.trans (hb.mono HB.out.size)) (RT_later (RT_litn [(t, (.slice ka t.kids.length kc)), (u, (.slice ua u.kids.length uc))] [t, u] _ rfl rfl rfl rfl (fun p hp => by simp only [List.mem_cons, List.not_mem_nil, or_false] at hp; rcases hp with rfl | rfl <;> first | exact HK.out | exact HKU.out)) (Below.refl _ _).drew) (by have := HTW.out; have := HUW.out; simp [wts]; omega)).mono ?_
            rintro e w' ⟨he, hb'⟩
            exact ⟨he, hb.trans (hb'.mono hb.size)⟩)
          have HC2 : Hid (∀ W : World, Below W2.heap.size W2 W → Calls Tryz.prog 15 #[.slice (some ⟨W.heap.size + 1, 0, none⟩) 2 2] ((W.alloc (.cells (itC [(fI, .slice none 0 0), (t, (.slice ka t.kids.length kc))]).toArray 25)).alloc (.cells (itC [(.mk ⟨[], [], [], [66]⟩ [fI, t], .slice (some ⟨W.heap.size, 0, none⟩) 2 2), (u, (.slice ua u.kids.length uc))]).toArray 25)) fun e w' => e = .returned (.bool true) ∧ Below W2.heap.size W2 w') := hide (fun W hW => by
            have h0 := S_al (S_al hW (.cells (itC [(fI, .slice none 0 0), (t, (.slice ka t.kids.length kc))]).toArray 25)) (.cells (itC [(.mk ⟨[], [], [], [66]⟩ [fI, t], .slice (some ⟨W.heap.size, 0, none⟩) 2 2), (u, (.slice ua u.kids.length uc))]).toArray 25)
            have hA := (Below.refl W.heap.size W).alloc (Nat.le_refl _) (.cells (itC [(fI, .slice none 0 0), (t, (.slice ka t.kids.length kc))]).toArray 25)
            have r1 : RT (W.alloc (.cells (itC [(fI, .slice none 0 0), (t, (.slice ka t.kids.length kc))]).toArray 25)) (.slice (some ⟨W.heap.size, 0, none⟩) 2 2) [fI, t] := RT_litn [(fI, .slice none 0 0), (t, (.slice ka t.kids.length kc))] _ _ rfl rfl rfl rfl (fun p hp => by simp only [List.mem_cons, List.not_mem_nil, or_false] at hp; rcases hp with rfl | rfl <;> first | exact RT_nil _ | exact RT_later HK.out hW)
            refine (HL.out.prn _ _ [.mk ⟨[], [], [], [66]⟩ [fI, t], u] (HB.out.trans (h0.mono HB.out.size)) (RT_litn [(.mk ⟨[], [], [], [66]⟩ [fI, t], .slice (some ⟨W.heap.size, 0, none⟩) 2 2), (u, (.slice ua u.kids.length uc))] _ _ (by simp) rfl rfl rfl (fun p hp => by simp only [List.mem_cons, List.not_mem_nil, or_false] at hp; rcases hp with rfl | rfl <;> first | exact r1 | exact RT_later (RT_later HKU.out hW) hA)) (by have := HTW.out; have := HUW.out; simp [wts, Tr.wt, fI_wt]; omega)).mono ?_
            rintro e w' ⟨he, hb'⟩
            exact ⟨he, h0.trans (hb'.mono h0.size)⟩)
          have HC3 : Hid (∀ W : World, Below W2.heap.size W2 W → Calls Tryz.prog 15 #[.slice (some ⟨W.heap.size + 1, 0, none⟩) 1 1] ((W.alloc (.cells (itC [(t, (.slice ka t.kids.length kc)), (u, (.slice ua u.kids.length uc))]).toArray 25)).alloc (.cells (itC [(.mk ⟨[], [], [], [98]⟩ [t, u], .slice (some ⟨W.heap.size, 0, none⟩) 2 2)]).toArray 25)) fun e w' => e = .returned (.bool true) ∧ Below W2.heap.size W2 w') := hide (fun W hW => by
            have h0 := S_al (S_al hW (.cells (itC [(t, (.slice ka t.kids.length kc)), (u, (.slice ua u.kids.length uc))]).toArray 25)) (.cells (itC [(.mk ⟨[], [], [], [98]⟩ [t, u], .slice (some ⟨W.heap.size, 0, none⟩) 2 2)]).toArray 25)
            have r1 : RT (W.alloc (.cells (itC [(t, (.slice ka t.kids.length kc)), (u, (.slice ua u.kids.length uc))]).toArray 25)) (.slice (some ⟨W.heap.size, 0, none⟩) 2 2) [t, u] := RT_litn [(t, (.slice ka t.kids.length kc)), (u, (.slice ua u.kids.length uc))] _ _ rfl rfl rfl rfl (fun p hp => by simp only [List.mem_cons, List.not_mem_nil, or_false] at hp; rcases hp with rfl | rfl <;> first | exact RT_later HK.out hW | exact RT_later HKU.out hW)
            refine (HL.out.prn _ _ [.mk ⟨[], [], [], [98]⟩ [t, u]] (HB.out.trans (h0.mono HB.out.size)) (RT_litn [(.mk ⟨[], [], [], [98]⟩ [t, u], .slice (some ⟨W.heap.size, 0, none⟩) 2 2)] _ _ (by simp) rfl rfl rfl (fun p hp => by simp only [List.mem_cons, List.not_mem_nil, or_false] at hp; rcases hp with rfl <;> first | exact r1)) (by have := HTW.out; have := HUW.out; simp [wts, Tr.wt]; omega)).mono ?_
            rintro e w' ⟨he, hb'⟩
            exact ⟨he, h0.trans (hb'.mono h0.size)⟩)
          clear hu hku hlt d0 d1 d2 d3 d4
          go_wp2_with fail
          refine begins_held (S := fun W => W.cell? ⟨w.heap.size, 0, none⟩ = some (.string ⟨#[50, 48, 67]⟩) ∧ W.cell? ⟨w.heap.size, 1, none⟩ = some (.string ⟨#[83, 69, 77, 69]⟩) ∧ W.cell? ⟨w.heap.size, 2, none⟩ = some (.string ⟨#[65]⟩) ∧ W.cell? ⟨w.heap.size, 3, none⟩ = some (.string ⟨#[]⟩) ∧ W.cell? ⟨w.heap.size, 4, none⟩ = some (.slice none 0 0) ∧ W.cell? ⟨X, 0, none⟩ = some (.string ⟨t.itm.tag.toArray⟩) ∧ W.cell? ⟨X, 1, none⟩ = some (.string ⟨t.itm.qual.toArray⟩) ∧ W.cell? ⟨X, 2, none⟩ = some (.string ⟨t.itm.text.toArray⟩) ∧ W.cell? ⟨X, 3, none⟩ = some (.string ⟨t.itm.name.toArray⟩) ∧ W.cell? ⟨X, 4, none⟩ = some (.slice ka t.kids.length kc) ∧ W.cell? ⟨(w.heap.size + 1 + 1 + 1), j * 5, none⟩ = some (.string ⟨u.itm.tag.toArray⟩) ∧ W.cell? ⟨(w.heap.size + 1 + 1 + 1), j * 5 + 1, none⟩ = some (.string ⟨u.itm.qual.toArray⟩) ∧ W.cell? ⟨(w.heap.size + 1 + 1 + 1), j * 5 + 2, none⟩ = some (.string ⟨u.itm.text.toArray⟩) ∧ W.cell? ⟨(w.heap.size + 1 + 1 + 1), j * 5 + 3, none⟩ = some (.string ⟨u.itm.name.toArray⟩) ∧ W.cell? ⟨(w.heap.size + 1 + 1 + 1), j * 5 + 4, none⟩ = some (.slice ua u.kids.length uc)) 33 #[false, false, false, false, false, false, false, false, false, false, false, false, false, false, false, false, false, false, false, false, false, false, false, false, false, false, false, false, false, false, false, false, false] (by kernel_rfl) (by kernel_rfl) (by kernel_rfl) (HSA.out _ (Below.refl _ _).drew) (fun hHeld => ?_)
          refine tk (v := ?_) 0 61 #[true, false, false, false, false, false, false, false, false, false, false, false, false, false, false, false, false, false, false, false, false, false, false, false, false, false, false, false, false, false, false, false, false] rfl rfl (by kernel_rfl) (by kernel_rfl) (by kernel_rfl) (fun _ _ _ h => h) (by kernel_rfl) (by rfl) ?hy hHeld ?_
          case hy => rintro W ⟨g0, g1, g2, g3, g4, g5, g6, g7, g8, g9, g10, g11, g12, g13, g14⟩; first | (go_simp; done) | (go_simp; with_reducible rfl)
          simp only [List.setIfInBounds_toArray, List.set_cons_zero, List.set_cons_succ]
          refine tk (v := ?_) 1 62 #[true, true, false, false, false, false, false, false, false, false, false, false, false, false, false, false, false, false, false, false, false, false, false, false, false, false, false, false, false, false, false, false, false] rfl rfl (by kernel_rfl) (by kernel_rfl) (by kernel_rfl) (fun _ _ _ h => h) (by kernel_rfl) (by rfl) ?hy hHeld ?_
          case hy => rintro W ⟨g0, g1, g2, g3, g4, g5, g6, g7, g8, g9, g10, g11, g12, g13, g14⟩; first | (go_simp; done) | (go_simp; with_reducible rfl)
          simp only [List.setIfInBounds_toArray, List.set_cons_zero, List.set_cons_succ]
          refine tk (v := ?_) 2 63 #[true, true, true, false, false, false, false, false, false, false, false, false, false, false, false, false, false, false, false, false, false, false, false, false, false, false, false, false, false, false, false, false, false] rfl rfl (by kernel_rfl) (by kernel_rfl) (by kernel_rfl) (fun _ _ _ h => h) (by kernel_rfl) (by rfl) ?hy hHeld ?_
          case hy => rintro W ⟨g0, g1, g2, g3, g4, g5, g6, g7, g8, g9, g10, g11, g12, g13, g14⟩; first | (go_simp; done) | (go_simp; with_reducible rfl)
          simp only [List.setIfInBounds_toArray, List.set_cons_zero, List.set_cons_succ]
          refine tk (v := ?_) 3 64 #[true, true, true, true, false, false, false, false, false, false, false, false, false, false, false, false, false, false, false, false, false, false, false, false, false, false, false, false, false, false, false, false, false] rfl rfl (by kernel_rfl) (by kernel_rfl) (by kernel_rfl) (fun _ _ _ h => h) (by kernel_rfl) (by rfl) ?hy hHeld ?_
          case hy => rintro W ⟨g0, g1, g2, g3, g4, g5, g6, g7, g8, g9, g10, g11, g12, g13, g14⟩; first | (go_simp; done) | (go_simp; with_reducible rfl)
          simp only [List.setIfInBounds_toArray, List.set_cons_zero, List.set_cons_succ]
          refine tk (v := ?_) 4 65 #[true, true, true, true, true, false, false, false, false, false, false, false, false, false, false, false, false, false, false, false, false, false, false, false, false, false, false, false, false, false, false, false, false] rfl rfl (by kernel_rfl) (by kernel_rfl) (by kernel_rfl) (fun _ _ _ h => h) (by kernel_rfl) (by rfl) ?hy hHeld ?_
          case hy => rintro W ⟨g0, g1, g2, g3, g4, g5, g6, g7, g8, g9, g10, g11, g12, g13, g14⟩; first | (go_simp; done) | (go_simp; with_reducible rfl)
          simp only [List.setIfInBounds_toArray, List.set_cons_zero, List.set_cons_succ]
          refine one_ready 5 #[true, true, true, true, true, true, false, false, false, false, false, false, false, false, false, false, false, false, false, false, false, false, false, false, false, false, false, false, false, false, false, false, false] rfl (by kernel_rfl) (by kernel_rfl) (by rfl) (fun K hK => ?_)
          go_simp
          refine hK.out _ _ (HSA.out _ (S_al (Below.refl _ _) _).drew) (fun hHeld => ?_)
          clear hK K
          refine one_ready 6 #[true, true, true, true, true, true, true, false, false, false, false, false, false, false, false, false, false, false, false, false, false, false, false, false, false, false, false, false, false, false, false, false, false] rfl (by kernel_rfl) (by kernel_rfl) (by rfl) (fun K hK => ?_)
          go_simp
          refine HC1.out.mono ?_
          rintro e w5 ⟨rfl, hS2⟩
          go_wp2_with fail
          refine hK.out _ _ (HSA.out _ hS2) (fun hHeld => ?_)
          clear hK K
          have HS5 := hide hS2
          clear hS2
          refine tk (v := ?_) 7 68 #[true, true, true, true, true, true, true, true, false, false, false, false, false, false, false, false, false, false, false, false, false, false, false, false, false, false, false, false, false, false, false, false, false] rfl rfl (by kernel_rfl) (by kernel_rfl) (by kernel_rfl) (fun _ _ _ h => h) (by kernel_rfl) (by rfl) ?hy hHeld ?_
          case hy => rintro W ⟨g0, g1, g2, g3, g4, g5, g6, g7, g8, g9, g10, g11, g12, g13, g14⟩; first | (go_simp; done) | (go_simp; with_reducible rfl)
          simp only [List.setIfInBounds_toArray, List.set_cons_zero, List.set_cons_succ]
          refine tk (v := ?_) 8 69 #[true, true, true, true, true, true, true, true, true, false, false, false, false, false, false, false, false, false, false, false, false, false, false, false, false, false, false, false, false, false, false, false, false] rfl rfl (by kernel_rfl) (by kernel_rfl) (by kernel_rfl) (fun _ _ _ h => h) (by kernel_rfl) (by rfl) ?hy hHeld ?_
          case hy => rintro W ⟨g0, g1, g2, g3, g4, g5, g6, g7, g8, g9, g10, g11, g12, g13, g14⟩; first | (go_simp; done) | (go_simp; with_reducible rfl)
          simp only [List.setIfInBounds_toArray, List.set_cons_zero, List.set_cons_succ]
          refine tk (v := ?_) 9 70 #[true, true, true, true, true, true, true, true, true, true, false, false, false, false, false, false, false, false, false, false, false, false, false, false, false, false, false, false, false, false, false, false, false] rfl rfl (by kernel_rfl) (by kernel_rfl) (by kernel_rfl) (fun _ _ _ h => h) (by kernel_rfl) (by rfl) ?hy hHeld ?_
          case hy => rintro W ⟨g0, g1, g2, g3, g4, g5, g6, g7, g8, g9, g10, g11, g12, g13, g14⟩; first | (go_simp; done) | (go_simp; with_reducible rfl)
          simp only [List.setIfInBounds_toArray, List.set_cons_zero, List.set_cons_succ]
          refine tk (v := ?_) 10 71 #[true, true, true, true, true, true, true, true, true, true, true, false, false, false, false, false, false, false, false, false, false, false, false, false, false, false, false, false, false, false, false, false, false] rfl rfl (by kernel_rfl) (by kernel_rfl) (by kernel_rfl) (fun _ _ _ h => h) (by kernel_rfl) (by rfl) ?hy hHeld ?_
          case hy => rintro W ⟨g0, g1, g2, g3, g4, g5, g6, g7, g8, g9, g10, g11, g12, g13, g14⟩; first | (go_simp; done) | (go_simp; with_reducible rfl)
          simp only [List.setIfInBounds_toArray, List.set_cons_zero, List.set_cons_succ]
          refine tk (v := ?_) 13 74 #[true, true, true, true, true, true, true, true, true, true, true, false, false, true, false, false, false, false, false, false, false, false, false, false, false, false, false, false, false, false, false, false, false] rfl rfl (by kernel_rfl) (by kernel_rfl) (by kernel_rfl) (fun _ _ _ h => h) (by kernel_rfl) (by rfl) ?hy hHeld ?_
          case hy => rintro W ⟨g0, g1, g2, g3, g4, g5, g6, g7, g8, g9, g10, g11, g12, g13, g14⟩; first | (go_simp; done) | (go_simp; with_reducible rfl)
          simp only [List.setIfInBounds_toArray, List.set_cons_zero, List.set_cons_succ]
          refine tk (v := ?_) 14 75 #[true, true, true, true, true, true, true, true, true, true, true, false, false, true, true, false, false, false, false, false, false, false, false, false, false, false, false, false, false, false, false, false, false] rfl rfl (by kernel_rfl) (by kernel_rfl) (by kernel_rfl) (fun _ _ _ h => h) (by kernel_rfl) (by rfl) ?hy hHeld ?_
          case hy => rintro W ⟨g0, g1, g2, g3, g4, g5, g6, g7, g8, g9, g10, g11, g12, g13, g14⟩; first | (go_simp; done) | (go_simp; with_reducible rfl)
          simp only [List.setIfInBounds_toArray, List.set_cons_zero, List.set_cons_succ]
          refine tk (v := ?_) 15 76 #[true, true, true, true, true, true, true, true, true, true, true, false, false, true, true, true, false, false, false, false, false, false, false, false, false, false, false, false, false, false, false, false, false] rfl rfl (by kernel_rfl) (by kernel_rfl) (by kernel_rfl) (fun _ _ _ h => h) (by kernel_rfl) (by rfl) ?hy hHeld ?_
          case hy => rintro W ⟨g0, g1, g2, g3, g4, g5, g6, g7, g8, g9, g10, g11, g12, g13, g14⟩; first | (go_simp; done) | (go_simp; with_reducible rfl)
          simp only [List.setIfInBounds_toArray, List.set_cons_zero, List.set_cons_succ]
          refine tk (v := ?_) 16 77 #[true, true, true, true, true, true, true, true, true, true, true, false, false, true, true, true, true, false, false, false, false, false, false, false, false, false, false, false, false, false, false, false, false] rfl rfl (by kernel_rfl) (by kernel_rfl) (by kernel_rfl) (fun _ _ _ h => h) (by kernel_rfl) (by rfl) ?hy hHeld ?_
          case hy => rintro W ⟨g0, g1, g2, g3, g4, g5, g6, g7, g8, g9, g10, g11, g12, g13, g14⟩; first | (go_simp; done) | (go_simp; with_reducible rfl)
          simp only [List.setIfInBounds_toArray, List.set_cons_zero, List.set_cons_succ]
          refine one_ready 11 #[true, true, true, true, true, true, true, true, true, true, true, true, false, true, true, true, true, false, false, false, false, false, false, false, false, false, false, false, false, false, false, false, false] rfl (by kernel_rfl) (by kernel_rfl) (by rfl) (fun K hK => ?_)
          go_simp
          refine hK.out _ _ (HSA.out _ (S_al HS5.out _)) (fun hHeld => ?_)
          clear hK K
          refine tk (v := ?_) 12 73 #[true, true, true, true, true, true, true, true, true, true, true, true, true, true, true, true, true, false, false, false, false, false, false, false, false, false, false, false, false, false, false, false, false] rfl rfl (by kernel_rfl) (by kernel_rfl) (by kernel_rfl) (fun _ _ _ h => h) (by kernel_rfl) (by rfl) ?hy hHeld ?_
          case hy => rintro W ⟨g0, g1, g2, g3, g4, g5, g6, g7, g8, g9, g10, g11, g12, g13, g14⟩; first | (go_simp; done) | (go_simp; with_reducible rfl)
          simp only [List.setIfInBounds_toArray, List.set_cons_zero, List.set_cons_succ]
          refine one_ready 17 #[true, true, true, true, true, true, true, true, true, true, true, true, true, true, true, true, true, true, false, false, false, false, false, false, false, false, false, false, false, false, false, false, false] rfl (by kernel_rfl) (by kernel_rfl) (by rfl) (fun K hK => ?_)
          go_simp
          refine hK.out _ _ (HSA.out _ (S_al (S_al HS5.out _) _)) (fun hHeld => ?_)
          clear hK K
          refine one_ready 18 #[true, true, true, true, true, true, true, true, true, true, true, true, true, true, true, true, true, true, true, false, false, false, false, false, false, false, false, false, false, false, false, false, false] rfl (by kernel_rfl) (by kernel_rfl) (by rfl) (fun K hK => ?_)
          go_simp
          refine (HC2.out w5 HS5.out).mono ?_
          rintro e w6 ⟨rfl, hS2⟩
          go_wp2_with fail
          refine hK.out _ _ (HSA.out _ hS2) (fun hHeld => ?_)
          clear hK K
          have HS6 := hide hS2
          clear hS2
          refine tk (v := ?_) 19 80 #[true, true, true, true, true, true, true, true, true, true, true, true, true, true, true, true, true, true, true, true, false, false, false, false, false, false, false, false, false, false, false, false, false] rfl rfl (by kernel_rfl) (by kernel_rfl) (by kernel_rfl) (fun _ _ _ h => h) (by kernel_rfl) (by rfl) ?hy hHeld ?_
          case hy => rintro W ⟨g0, g1, g2, g3, g4, g5, g6, g7, g8, g9, g10, g11, g12, g13, g14⟩; first | (go_simp; done) | (go_simp; with_reducible rfl)
          simp only [List.setIfInBounds_toArray, List.set_cons_zero, List.set_cons_succ]
          refine tk (v := ?_) 20 81 #[true, true, true, true, true, true, true, true, true, true, true, true, true, true, true, true, true, true, true, true, true, false, false, false, false, false, false, false, false, false, false, false, false] rfl rfl (by kernel_rfl) (by kernel_rfl) (by kernel_rfl) (fun _ _ _ h => h) (by kernel_rfl) (by rfl) ?hy hHeld ?_
          case hy => rintro W ⟨g0, g1, g2, g3, g4, g5, g6, g7, g8, g9, g10, g11, g12, g13, g14⟩; first | (go_simp; done) | (go_simp; with_reducible rfl)
          simp only [List.setIfInBounds_toArray, List.set_cons_zero, List.set_cons_succ]
          refine tk (v := ?_) 21 82 #[true, true, true, true, true, true, true, true, true, true, true, true, true, true, true, true, true, true, true, true, true, true, false, false, false, false, false, false, false, false, false, false, false] rfl rfl (by kernel_rfl) (by kernel_rfl) (by kernel_rfl) (fun _ _ _ h => h) (by kernel_rfl) (by rfl) ?hy hHeld ?_
          case hy => rintro W ⟨g0, g1, g2, g3, g4, g5, g6, g7, g8, g9, g10, g11, g12, g13, g14⟩; first | (go_simp; done) | (go_simp; with_reducible rfl)
          simp only [List.setIfInBounds_toArray, List.set_cons_zero, List.set_cons_succ]
          refine tk (v := ?_) 22 83 #[true, true, true, true, true, true, true, true, true, true, true, true, true, true, true, true, true, true, true, true, true, true, true, false, false, false, false, false, false, false, false, false, false] rfl rfl (by kernel_rfl) (by kernel_rfl) (by kernel_rfl) (fun _ _ _ h => h) (by kernel_rfl) (by rfl) ?hy hHeld ?_
          case hy => rintro W ⟨g0, g1, g2, g3, g4, g5, g6, g7, g8, g9, g10, g11, g12, g13, g14⟩; first | (go_simp; done) | (go_simp; with_reducible rfl)
          simp only [List.setIfInBounds_toArray, List.set_cons_zero, List.set_cons_succ]
          refine tk (v := ?_) 23 84 #[true, true, true, true, true, true, true, true, true, true, true, true, true, true, true, true, true, true, true, true, true, true, true, true, false, false, false, false, false, false, false, false, false] rfl rfl (by kernel_rfl) (by kernel_rfl) (by kernel_rfl) (fun _ _ _ h => h) (by kernel_rfl) (by rfl) ?hy hHeld ?_
          case hy => rintro W ⟨g0, g1, g2, g3, g4, g5, g6, g7, g8, g9, g10, g11, g12, g13, g14⟩; first | (go_simp; done) | (go_simp; with_reducible rfl)
          simp only [List.setIfInBounds_toArray, List.set_cons_zero, List.set_cons_succ]
          refine tk (v := ?_) 24 85 #[true, true, true, true, true, true, true, true, true, true, true, true, true, true, true, true, true, true, true, true, true, true, true, true, true, false, false, false, false, false, false, false, false] rfl rfl (by kernel_rfl) (by kernel_rfl) (by kernel_rfl) (fun _ _ _ h => h) (by kernel_rfl) (by rfl) ?hy hHeld ?_
          case hy => rintro W ⟨g0, g1, g2, g3, g4, g5, g6, g7, g8, g9, g10, g11, g12, g13, g14⟩; first | (go_simp; done) | (go_simp; with_reducible rfl)
          simp only [List.setIfInBounds_toArray, List.set_cons_zero, List.set_cons_succ]
          refine tk (v := ?_) 25 86 #[true, true, true, true, true, true, true, true, true, true, true, true, true, true, true, true, true, true, true, true, true, true, true, true, true, true, false, false, false, false, false, false, false] rfl rfl (by kernel_rfl) (by kernel_rfl) (by kernel_rfl) (fun _ _ _ h => h) (by kernel_rfl) (by rfl) ?hy hHeld ?_
          case hy => rintro W ⟨g0, g1, g2, g3, g4, g5, g6, g7, g8, g9, g10, g11, g12, g13, g14⟩; first | (go_simp; done) | (go_simp; with_reducible rfl)
          simp only [List.setIfInBounds_toArray, List.set_cons_zero, List.set_cons_succ]
          refine tk (v := ?_) 26 87 #[true, true, true, true, true, true, true, true, true, true, true, true, true, true, true, true, true, true, true, true, true, true, true, true, true, true, true, false, false, false, false, false, false] rfl rfl (by kernel_rfl) (by kernel_rfl) (by kernel_rfl) (fun _ _ _ h => h) (by kernel_rfl) (by rfl) ?hy hHeld ?_
          case hy => rintro W ⟨g0, g1, g2, g3, g4, g5, g6, g7, g8, g9, g10, g11, g12, g13, g14⟩; first | (go_simp; done) | (go_simp; with_reducible rfl)
          simp only [List.setIfInBounds_toArray, List.set_cons_zero, List.set_cons_succ]
          refine one_ready 27 #[true, true, true, true, true, true, true, true, true, true, true, true, true, true, true, true, true, true, true, true, true, true, true, true, true, true, true, true, false, false, false, false, false] rfl (by kernel_rfl) (by kernel_rfl) (by rfl) (fun K hK => ?_)
          go_simp
          refine hK.out _ _ (HSA.out _ (S_al HS6.out _)) (fun hHeld => ?_)
          clear hK K
          refine tk (v := ?_) 28 89 #[true, true, true, true, true, true, true, true, true, true, true, true, true, true, true, true, true, true, true, true, true, true, true, true, true, true, true, true, true, false, false, false, false] rfl rfl (by kernel_rfl) (by kernel_rfl) (by kernel_rfl) (fun _ _ _ h => h) (by kernel_rfl) (by rfl) ?hy hHeld ?_
          case hy => rintro W ⟨g0, g1, g2, g3, g4, g5, g6, g7, g8, g9, g10, g11, g12, g13, g14⟩; first | (go_simp; done) | (go_simp; with_reducible rfl)
          simp only [List.setIfInBounds_toArray, List.set_cons_zero, List.set_cons_succ]
          refine one_ready 29 #[true, true, true, true, true, true, true, true, true, true, true, true, true, true, true, true, true, true, true, true, true, true, true, true, true, true, true, true, true, true, false, false, false] rfl (by kernel_rfl) (by kernel_rfl) (by rfl) (fun K hK => ?_)
          go_simp
          refine hK.out _ _ (HSA.out _ (S_al (S_al HS6.out _) _)) (fun hHeld => ?_)
          clear hK K
          refine one_ready 30 #[true, true, true, true, true, true, true, true, true, true, true, true, true, true, true, true, true, true, true, true, true, true, true, true, true, true, true, true, true, true, true, false, false] rfl (by kernel_rfl) (by kernel_rfl) (by rfl) (fun K hK => ?_)
          go_simp
          refine (HC3.out w6 HS6.out).mono ?_
          rintro e w7 ⟨rfl, hS2⟩
          go_wp2_with fail
          refine hK.out _ _ (HSA.out _ hS2) (fun hHeld => ?_)
          clear hK K
          refine tk (v := ?_) 31 92 #[true, true, true, true, true, true, true, true, true, true, true, true, true, true, true, true, true, true, true, true, true, true, true, true, true, true, true, true, true, true, true, true, false] rfl rfl (by kernel_rfl) (by kernel_rfl) (by kernel_rfl) (fun _ _ _ h => h) (by kernel_rfl) (by rfl) ?hy hHeld ?_
          case hy => rintro W ⟨g0, g1, g2, g3, g4, g5, g6, g7, g8, g9, g10, g11, g12, g13, g14⟩; first | (go_simp; done) | (go_simp; with_reducible rfl)
          simp only [List.setIfInBounds_toArray, List.set_cons_zero, List.set_cons_succ]
          refine tk (v := ?_) 32 93 #[true, true, true, true, true, true, true, true, true, true, true, true, true, true, true, true, true, true, true, true, true, true, true, true, true, true, true, true, true, true, true, true, true] rfl rfl (by kernel_rfl) (by kernel_rfl) (by kernel_rfl) (fun _ _ _ h => h) (by kernel_rfl) (by rfl) ?hy hHeld ?_
          case hy => rintro W ⟨g0, g1, g2, g3, g4, g5, g6, g7, g8, g9, g10, g11, g12, g13, g14⟩; first | (go_simp; done) | (go_simp; with_reducible rfl)
          simp only [List.setIfInBounds_toArray, List.set_cons_zero, List.set_cons_succ]
          refine wpAnyH_done (by kernel_rfl) ?_ _
          have HB2 := hide (HB.out.trans (hS2.mono HB.out.size))
          have HR2 := hide (RT_later HR.out hS2)
          have HX2 := hide (HX.out.later hS2)
          have HT2 := hide (HT.out.later hS2)
          have HK2 := hide (RT_later HK.out hS2)
          clear hS2 HC1 HC2 HC3 HSA HB HR HX HT HK HKU
          go_wp2_with fail
          go_roundw
          case rel => exact ⟨j + 1, by omega, by go_num, HB2, HR2, HX2, HT2, HK2⟩
          case measure => simp [intOf]; omega
        · have h' : j = 33 := by omega
          subst h'
          rw [show ((33 : Nat) : Int) = 33 from rfl]
          have x0 := HT.out.tag trivial
          have x1 := HT.out.qual trivial
          have x2 := HT.out.text trivial
          have x3 := HT.out.name trivial
          have x4 := HT.out.items trivial
          have f0 : W2.cell? ⟨w.heap.size, 0, none⟩ = some (.string ⟨#[50, 48, 67]⟩) := HX.out.tag trivial
          have f1 : W2.cell? ⟨w.heap.size, 1, none⟩ = some (.string ⟨#[83, 69, 77, 69]⟩) := HX.out.qual trivial
          have f2 : W2.cell? ⟨w.heap.size, 2, none⟩ = some (.string ⟨#[65]⟩) := HX.out.text trivial
          have f3 : W2.cell? ⟨w.heap.size, 3, none⟩ = some (.string ⟨#[]⟩) := HX.out.name trivial
          have f4 : W2.cell? ⟨w.heap.size, 4, none⟩ = some (.slice none 0 0) := HX.out.items trivial
          have x0a : ∀ o : Obj, (W2.alloc o).cell? ⟨X, 0, none⟩ = some (.string ⟨t.itm.tag.toArray⟩) := fun o => cellK_al x0 o
          have x0b : ∀ o p : Obj, ((W2.alloc o).alloc p).cell? ⟨X, 0, none⟩ = some (.string ⟨t.itm.tag.toArray⟩) := fun o p => cellK_al (cellK_al x0 o) p
          have x1a : ∀ o : Obj, (W2.alloc o).cell? ⟨X, 1, none⟩ = some (.string ⟨t.itm.qual.toArray⟩) := fun o => cellK_al x1 o
          have x1b : ∀ o p : Obj, ((W2.alloc o).alloc p).cell? ⟨X, 1, none⟩ = some (.string ⟨t.itm.qual.toArray⟩) := fun o p => cellK_al (cellK_al x1 o) p
          have x2a : ∀ o : Obj, (W2.alloc o).cell? ⟨X, 2, none⟩ = some (.string ⟨t.itm.text.toArray⟩) := fun o => cellK_al x2 o
          have x2b : ∀ o p : Obj, ((W2.alloc o).alloc p).cell? ⟨X, 2, none⟩ = some (.string ⟨t.itm.text.toArray⟩) := fun o p => cellK_al (cellK_al x2 o) p
          have x3a : ∀ o : Obj, (W2.alloc o).cell? ⟨X, 3, none⟩ = some (.string ⟨t.itm.name.toArray⟩) := fun o => cellK_al x3 o
          have x3b : ∀ o p : Obj, ((W2.alloc o).alloc p).cell? ⟨X, 3, none⟩ = some (.string ⟨t.itm.name.toArray⟩) := fun o p => cellK_al (cellK_al x3 o) p
          have x4a : ∀ o : Obj, (W2.alloc o).cell? ⟨X, 4, none⟩ = some (.slice ka t.kids.length kc) := fun o => cellK_al x4 o
          have x4b : ∀ o p : Obj, ((W2.alloc o).alloc p).cell? ⟨X, 4, none⟩ = some (.slice ka t.kids.length kc) := fun o p => cellK_al (cellK_al x4 o) p
          have f0a : ∀ o : Obj, (W2.alloc o).cell? ⟨w.heap.size, 0, none⟩ = some (.string ⟨#[50, 48, 67]⟩) := fun o => cellK_al f0 o
          have f0b : ∀ o p : Obj, ((W2.alloc o).alloc p).cell? ⟨w.heap.size, 0, none⟩ = some (.string ⟨#[50, 48, 67]⟩) := fun o p => cellK_al (cellK_al f0 o) p
          have f1a : ∀ o : Obj, (W2.alloc o).cell? ⟨w.heap.size, 1, none⟩ = some (.string ⟨#[83, 69, 77, 69]⟩) := fun o => cellK_al f1 o
          have f1b : ∀ o p : Obj, ((W2.alloc o).alloc p).cell? ⟨w.heap.size, 1, none⟩ = some (.string ⟨#[83, 69, 77, 69]⟩) := fun o p => cellK_al (cellK_al f1 o) p
          have f2a : ∀ o : Obj, (W2.alloc o).cell? ⟨w.heap.size, 2, none⟩ = some (.string ⟨#[65]⟩) := fun o => cellK_al f2 o
          have f2b : ∀ o p : Obj, ((W2.alloc o).alloc p).cell? ⟨w.heap.size, 2, none⟩ = some (.string ⟨#[65]⟩) := fun o p => cellK_al (cellK_al f2 o) p
          have f3a : ∀ o : Obj, (W2.alloc o).cell? ⟨w.heap.size, 3, none⟩ = some (.string ⟨#[]⟩) := fun o => cellK_al f3 o
          have f3b : ∀ o p : Obj, ((W2.alloc o).alloc p).cell? ⟨w.heap.size, 3, none⟩ = some (.string ⟨#[]⟩) := fun o p => cellK_al (cellK_al f3 o) p
          have f4a : ∀ o : Obj, (W2.alloc o).cell? ⟨w.heap.size, 4, none⟩ = some (.slice none 0 0) := fun o => cellK_al f4 o
          have f4b : ∀ o p : Obj, ((W2.alloc o).alloc p).cell? ⟨w.heap.size, 4, none⟩ = some (.slice none 0 0) := fun o p => cellK_al (cellK_al f4 o) p
          have bA1 : Below W2.heap.size W2 (W2.alloc (.cells (itC [(t, (.slice ka t.kids.length kc))]).toArray 25)) := (Below.refl _ _).alloc (Nat.le_refl _) _
          have bA2 : Below W2.heap.size W2 ((W2.alloc (.cells (itC [(t, (.slice ka t.kids.length kc))]).toArray 25)).alloc (.cells (itC [(.mk ⟨[], [], [], [65]⟩ [t], .slice (some ⟨W2.heap.size, 0, none⟩) 1 1), (t, (.slice ka t.kids.length kc)), (fI, .slice none 0 0)]).toArray 25)) := bA1.alloc (by simp) _
          have rA1 : RT (W2.alloc (.cells (itC [(t, (.slice ka t.kids.length kc))]).toArray 25)) (.slice (some ⟨W2.heap.size, 0, none⟩) 1 1) [t] := RT_litn [(t, (.slice ka t.kids.length kc))] _ _ rfl rfl rfl rfl (fun p hp => by simp only [List.mem_cons, List.not_mem_nil, or_false] at hp; rcases hp with rfl <;> first | exact HK.out)
          have HA := hide (HL.out.fnd ((W2.alloc (.cells (itC [(t, (.slice ka t.kids.length kc))]).toArray 25)).alloc (.cells (itC [(.mk ⟨[], [], [], [65]⟩ [t], .slice (some ⟨W2.heap.size, 0, none⟩) 1 1), (t, (.slice ka t.kids.length kc)), (fI, .slice none 0 0)]).toArray 25)) (.slice (some ⟨W2.heap.size + 1, 0, none⟩) 3 3) [.mk ⟨[], [], [], [65]⟩ [t], t, fI] ⟨t.itm.tag.toArray⟩ ⟨t.itm.qual.toArray⟩ ⟨t.itm.name.toArray⟩ (HB.out.trans (bA2.mono HB.out.size)) (RT_litn [(.mk ⟨[], [], [], [65]⟩ [t], .slice (some ⟨W2.heap.size, 0, none⟩) 1 1), (t, (.slice ka t.kids.length kc)), (fI, .slice none 0 0)] _ _ (by simp) rfl rfl rfl (fun p hp => by simp only [List.mem_cons, List.not_mem_nil, or_false] at hp; rcases hp with rfl | rfl | rfl <;> first | exact rA1 | exact RT_later HK.out bA1 | exact RT_nil _)) (by have := HTW.out; simp [wts, Tr.wt, fI_wt]; omega))
          have B3 := hide (HB.out.trans (bA2.mono HB.out.size))
          have R3 := hide (RT_later HR.out bA2)
          have X3 := hide (HX.out.later bA2)
          have T3 := hide (HT.out.later bA2)
          have K3 := hide (RT_later HK.out bA2)
          clear bA1 bA2 rA1 HB HR HX HT HK
          go_wp2_with fail
          refine HA.out.mono ?_
          rintro e w4 ⟨rfl, hb4⟩
          have B4 := hide (B3.out.trans (hb4.mono B3.out.size))
          have R4 := hide (RT_later R3.out hb4)
          have X4 := hide (X3.out.later hb4)
          have T4 := hide (T3.out.later hb4)
          have K4 := hide (RT_later K3.out hb4)
          clear hb4 HA B3 R3 X3 T3 K3 x0a x0b x1a x1b x2a x2b x3a x3b x4a x4b f0a f0b f1a f1b f2a f2b f3a f3b f4a f4b x0 x1 x2 x3 x4 f0 f1 f2 f3 f4
          have x0 := T4.out.tag trivial
          have x1 := T4.out.qual trivial
          have x2 := T4.out.text trivial
          have x3 := T4.out.name trivial
          have x4 := T4.out.items trivial
          have f0 : w4.cell? ⟨w.heap.size, 0, none⟩ = some (.string ⟨#[50, 48, 67]⟩) := X4.out.tag trivial
          have f1 : w4.cell? ⟨w.heap.size, 1, none⟩ = some (.string ⟨#[83, 69, 77, 69]⟩) := X4.out.qual trivial
          have f2 : w4.cell? ⟨w.heap.size, 2, none⟩ = some (.string ⟨#[65]⟩) := X4.out.text trivial
          have f3 : w4.cell? ⟨w.heap.size, 3, none⟩ = some (.string ⟨#[]⟩) := X4.out.name trivial
          have f4 : w4.cell? ⟨w.heap.size, 4, none⟩ = some (.slice none 0 0) := X4.out.items trivial
          have x0a : ∀ o : Obj, (w4.alloc o).cell? ⟨X, 0, none⟩ = some (.string ⟨t.itm.tag.toArray⟩) := fun o => cellK_al x0 o
          have x0b : ∀ o p : Obj, ((w4.alloc o).alloc p).cell? ⟨X, 0, none⟩ = some (.string ⟨t.itm.tag.toArray⟩) := fun o p => cellK_al (cellK_al x0 o) p
          have x1a : ∀ o : Obj, (w4.alloc o).cell? ⟨X, 1, none⟩ = some (.string ⟨t.itm.qual.toArray⟩) := fun o => cellK_al x1 o
          have x1b : ∀ o p : Obj, ((w4.alloc o).alloc p).cell? ⟨X, 1, none⟩ = some (.string ⟨t.itm.qual.toArray⟩) := fun o p => cellK_al (cellK_al x1 o) p
          have x2a : ∀ o : Obj, (w4.alloc o).cell? ⟨X, 2, none⟩ = some (.string ⟨t.itm.text.toArray⟩) := fun o => cellK_al x2 o
          have x2b : ∀ o p : Obj, ((w4.alloc o).alloc p).cell? ⟨X, 2, none⟩ = some (.string ⟨t.itm.text.toArray⟩) := fun o p => cellK_al (cellK_al x2 o) p
          have x3a : ∀ o : Obj, (w4.alloc o).cell? ⟨X, 3, none⟩ = some (.string ⟨t.itm.name.toArray⟩) := fun o => cellK_al x3 o
          have x3b : ∀ o p : Obj, ((w4.alloc o).alloc p).cell? ⟨X, 3, none⟩ = some (.string ⟨t.itm.name.toArray⟩) := fun o p => cellK_al (cellK_al x3 o) p
          have x4a : ∀ o : Obj, (w4.alloc o).cell? ⟨X, 4, none⟩ = some (.slice ka t.kids.length kc) := fun o => cellK_al x4 o
          have x4b : ∀ o p : Obj, ((w4.alloc o).alloc p).cell? ⟨X, 4, none⟩ = some (.slice ka t.kids.length kc) := fun o p => cellK_al (cellK_al x4 o) p
          have f0a : ∀ o : Obj, (w4.alloc o).cell? ⟨w.heap.size, 0, none⟩ = some (.string ⟨#[50, 48, 67]⟩) := fun o => cellK_al f0 o
          have f0b : ∀ o p : Obj, ((w4.alloc o).alloc p).cell? ⟨w.heap.size, 0, none⟩ = some (.string ⟨#[50, 48, 67]⟩) := fun o p => cellK_al (cellK_al f0 o) p
          have f1a : ∀ o : Obj, (w4.alloc o).cell? ⟨w.heap.size, 1, none⟩ = some (.string ⟨#[83, 69, 77, 69]⟩) := fun o => cellK_al f1 o
          have f1b : ∀ o p : Obj, ((w4.alloc o).alloc p).cell? ⟨w.heap.size, 1, none⟩ = some (.string ⟨#[83, 69, 77, 69]⟩) := fun o p => cellK_al (cellK_al f1 o) p
          have f2a : ∀ o : Obj, (w4.alloc o).cell? ⟨w.heap.size, 2, none⟩ = some (.string ⟨#[65]⟩) := fun o => cellK_al f2 o
          have f2b : ∀ o p : Obj, ((w4.alloc o).alloc p).cell? ⟨w.heap.size, 2, none⟩ = some (.string ⟨#[65]⟩) := fun o p => cellK_al (cellK_al f2 o) p
          have f3a : ∀ o : Obj, (w4.alloc o).cell? ⟨w.heap.size, 3, none⟩ = some (.string ⟨#[]⟩) := fun o => cellK_al f3 o
          have f3b : ∀ o p : Obj, ((w4.alloc o).alloc p).cell? ⟨w.heap.size, 3, none⟩ = some (.string ⟨#[]⟩) := fun o p => cellK_al (cellK_al f3 o) p
          have f4a : ∀ o : Obj, (w4.alloc o).cell? ⟨w.heap.size, 4, none⟩ = some (.slice none 0 0) := fun o => cellK_al f4 o
          have f4b : ∀ o p : Obj, ((w4.alloc o).alloc p).cell? ⟨w.heap.size, 4, none⟩ = some (.slice none 0 0) := fun o p => cellK_al (cellK_al f4 o) p
          have bA1 : Below w4.heap.size w4 (w4.alloc (.cells (itC [(fI, .slice none 0 0), (t, (.slice ka t.kids.length kc))]).toArray 25)) := (Below.refl _ _).alloc (Nat.le_refl _) _
          have bA2 : Below w4.heap.size w4 ((w4.alloc (.cells (itC [(fI, .slice none 0 0), (t, (.slice ka t.kids.length kc))]).toArray 25)).alloc (.cells (itC [(t, (.slice ka t.kids.length kc)), (.mk ⟨[], [], [], [65]⟩ [fI, t], .slice (some ⟨w4.heap.size, 0, none⟩) 2 2)]).toArray 25)) := bA1.alloc (by simp) _
          have rA1 : RT (w4.alloc (.cells (itC [(fI, .slice none 0 0), (t, (.slice ka t.kids.length kc))]).toArray 25)) (.slice (some ⟨w4.heap.size, 0, none⟩) 2 2) [fI, t] := RT_litn [(fI, .slice none 0 0), (t, (.slice ka t.kids.length kc))] _ _ rfl rfl rfl rfl (fun p hp => by simp only [List.mem_cons, List.not_mem_nil, or_false] at hp; rcases hp with rfl | rfl <;> first | exact RT_nil _ | exact K4.out)
          have HA := hide (HL.out.fnd ((w4.alloc (.cells (itC [(fI, .slice none 0 0), (t, (.slice ka t.kids.length kc))]).toArray 25)).alloc (.cells (itC [(t, (.slice ka t.kids.length kc)), (.mk ⟨[], [], [], [65]⟩ [fI, t], .slice (some ⟨w4.heap.size, 0, none⟩) 2 2)]).toArray 25)) (.slice (some ⟨w4.heap.size + 1, 0, none⟩) 2 2) [t, .mk ⟨[], [], [], [65]⟩ [fI, t]] ⟨#[50, 48, 67]⟩ ⟨#[83, 69, 77, 69]⟩ ⟨#[65]⟩ (B4.out.trans (bA2.mono B4.out.size)) (RT_litn [(t, (.slice ka t.kids.length kc)), (.mk ⟨[], [], [], [65]⟩ [fI, t], .slice (some ⟨w4.heap.size, 0, none⟩) 2 2)] _ _ (by simp) rfl rfl rfl (fun p hp => by simp only [List.mem_cons, List.not_mem_nil, or_false] at hp; rcases hp with rfl | rfl <;> first | exact rA1 | exact RT_later K4.out bA1)) (by have := HTW.out; simp [wts, Tr.wt, fI_wt]; omega))
          have B5 := hide (B4.out.trans (bA2.mono B4.out.size))
          have R5 := hide (RT_later R4.out bA2)
          have X5 := hide (X4.out.later bA2)
          have T5 := hide (T4.out.later bA2)
          clear bA1 bA2 rA1 B4 R4 X4 T4 K4
          go_wp2_with fail
          refine HA.out.mono ?_
          rintro e w6 ⟨rfl, hb6⟩
          have B6 := hide (B5.out.trans (hb6.mono B5.out.size))
          have R6 := hide (RT_later R5.out hb6)
          have X6 := hide (X5.out.later hb6)
          have T6 := hide (T5.out.later hb6)
          clear hb6 HA B5 R5 X5 T5 x0a x0b x1a x1b x2a x2b x3a x3b x4a x4b f0a f0b f1a f1b f2a f2b f3a f3b f4a f4b x0 x1 x2 x3 x4 f0 f1 f2 f3 f4
          have x0 := T6.out.tag trivial
          have x1 := T6.out.qual trivial
          have x3 := T6.out.name trivial
          have HA := hide (HL.out.fnd w6 _ L ⟨t.itm.tag.toArray⟩ ⟨t.itm.qual.toArray⟩ ⟨t.itm.name.toArray⟩ B6.out R6.out (by have := HWT.out; omega))
          go_wp2_with fail
          refine HA.out.mono ?_
          rintro e w7 ⟨rfl, hb7⟩
          have B7 := hide (B6.out.trans (hb7.mono B6.out.size))
          have R7 := hide (RT_later R6.out hb7)
          have X7 := hide (X6.out.later hb7)
          clear hb7 HA B6 R6 X6 T6 x0 x1 x3
          go_wp2_with fail
          go_roundw
          case rel => exact ⟨k + 1, by omega, by go_num, B7, R7, X7⟩
          case measure => simp [intOf]; omega
    · have h' : k = 33 := by omega
      subst h'
      rw [show ((33 : Nat) : Int) = 33 from rfl]
      have HA := hide (HL.out.fnd wr _ L ⟨#[]⟩ ⟨#[]⟩ ⟨#[]⟩ HB.out HR.out (by have := HWT.out; omega))
      clear HR HX
      go_wp2_with fail
      refine HA.out.mono ?_
      rintro e w2 ⟨rfl, hb2⟩
      have B2 := hide (HB.out.trans (hb2.mono HB.out.size))
      have HC := hide (HL.out.fnd w2 _ [] ⟨#[]⟩ ⟨#[]⟩ ⟨#[]⟩ B2.out (RT_nil w2) (by simp [wts]))
      clear hb2 HA HB
      go_wp2_with fail
      refine HC.out.mono ?_
      rintro e w3 ⟨rfl, hb3⟩
      have B3 := hide (B2.out.trans (hb3.mono B2.out.size))
      clear hb3 HC B2
      go_wp2_with fail
      go_ret
      exact ⟨rfl, B3.out⟩
end Go.Proofs.YtpkgaidnpooahaaGreatDoor
