/-
  My own text: dealing out: the program's walk, from what is asked of the order of the rests.
-/
import Derived.Test.YthmbfdjbjljaiaaGreatDoorSplitMath
import Derived.Test.YthmbfdjbjljaiaaGreatDoorMulDiv
import Derived.Test.YthmbfdjbjljaiaaGreatDoorLists
import Derived.Deep.OwnRows
import Derived.Test.YthmbfdjbjljaiaaGreatDoorOver
namespace Go.Proofs.YthmbfdjbjljaiaaGreatDoor
open Go.RowKit

theorem Tryz.infoWord : (Tryz.prog.info? 66).map (fun i => (i.zero, i.size, i.bytes)) = some (some (.int .u64 0), 1, 8) := by kernel_rfl
/-- One more for those that were chosen. -/
def dealt (f : Nat → Int) (C : List Nat) (j : Nat) : Int := f j + if j ∈ C then 1 else 0
theorem dealt_step {f : Nat → Int} {C : List Nat} {k c : Nat} (h : C[k]? = some c) (hd : C.Nodup) (j : Nat) : (if j = c then dealt f (C.take k) c + 1 else dealt f (C.take k) j) = dealt f (C.take (k + 1)) j := by
  have e : C.take (k + 1) = C.take k ++ [c] := by rw [List.take_add_one, h]; rfl
  have hn : c ∉ C.take k := by
    have h2 := hd.sublist (List.take_sublist (k + 1) C)
    rw [e, List.nodup_append] at h2
    intro hc; exact h2.2.2 c hc c (by simp) rfl
  unfold dealt
  rw [e]
  by_cases hj : j = c
  · subst hj; rw [if_pos rfl, if_neg hn, if_pos (by simp)]; omega
  · rw [if_neg hj]; simp [hj]
theorem qs_part {n S : Int} {l : List Int} (hn : 0 ≤ n) (h : ∀ x ∈ l, 0 ≤ x) (hS : 0 < S) (k : Nat) : 0 ≤ (qs n S (l.take k)).sum ∧ (qs n S (l.take k)).sum ≤ (qs n S l).sum := by
  have e : (qs n S l).sum = (qs n S (l.take k)).sum + (qs n S (l.drop k)).sum := by
    have h2 : qs n S l = qs n S (l.take k) ++ qs n S (l.drop k) := by unfold qs; rw [← List.map_append, List.take_append_drop]
    rw [h2, List.sum_append]
  have nn : ∀ m : List Int, (∀ x ∈ m, 0 ≤ x) → 0 ≤ (qs n S m).sum := fun m hm => sum_nn _ (fun q hq => by
    obtain ⟨x, hx, rfl⟩ := List.mem_map.1 hq
    exact Int.ediv_nonneg (Int.mul_nonneg hn (hm x hx)) (by omega))
  have h1 := nn (l.take k) (fun x hx => h x (List.mem_of_mem_take hx))
  have h2 := nn (l.drop k) (fun x hx => h x (List.mem_of_mem_drop hx))
  omega
theorem row_step (f : Nat → Value) (z v : Value) (k j : Nat) (hv : v = f k) : (if j = k then v else if j < k then f j else z) = if j < k + 1 then f j else z := by
  by_cases h : j = k
  · subst h; rw [if_pos rfl, if_pos (by omega)]; exact hv
  · rw [if_neg h]
    by_cases h2 : j < k
    · rw [if_pos h2, if_pos (by omega)]
    · rw [if_neg h2, if_neg (by omega)]
/-- What is asked of the order of the rests. -/
def Orders (C : List Nat) (r : Nat → Int) (n : Nat) : Prop :=
  ∀ (b cap : Nat) (w : World), b < w.heap.size → (∀ j, j < n → w.cell? ⟨b, j, none⟩ = some (.int .u64 (r j))) →
    Calls Tryz.prog 47 #[.slice (some ⟨b, 0, none⟩) n cap] w fun e w' => ∃ g, e = .returned (.slice (some ⟨g, 0, none⟩) n n) ∧ w.heap.size ≤ g ∧ (∀ (j c : Nat), C[j]? = some c → w'.cell? ⟨g, j, none⟩ = some (.int .i64 (c : Int))) ∧ g < w'.heap.size ∧ Below w.heap.size w w'

set_option maxRecDepth 100000 in
set_option maxHeartbeats 4000000 in
theorem split_fit (n : Int) (v : Value) (l : List Int) (w : World) (C : List Nat) (hv : RI w .i64 v l) (hl : l.length ≤ 17592186044416) (hb : ∀ x ∈ l, -9223372036854775808 ≤ x ∧ x ≤ 9223372036854775807)
    (n0 : 0 ≤ n) (n1 : n ≤ 9223372036854775807) (hW : areW l = true) (hS : l.sum ≤ 9223372036854775807) (hCl : C.length = l.length) (hCd : C.Nodup) (hCb : ∀ c ∈ C, c < l.length)
    (hO : Orders C (fun j => n * l.getD j 0 % l.sum) l.length) :
    Calls Tryz.prog 19 #[.int .i64 n, v] w fun e w' => ∃ P, e = .returned (.tuple #[.slice (some ⟨P, 0, none⟩) l.length l.length, .nilIface]) ∧ w.heap.size ≤ P ∧
      w'.rowIs P 2 l.length (fun j => .int .i64 (dealt (fun j => n * l.getD j 0 / l.sum) (C.take (leftN n l).toNat) j)) ∧ Below w.heap.size w w' := by
  obtain ⟨hnn, hpos⟩ := areW_pos hW
  have HAW := hide (areWeights_any v l w hv hl)
  have HSU := hide (sum_int64 v l w hv hl hb)
  have HSV := hide (sum_ok (s := l.sum) ⟨by omega, hS⟩)
  have HLB := hide (left_bounds (n := n) hpos)
  have HQL := hide (q_left n0 hnn hpos)
  have HLE := hide (le_sum l hnn)
  have HNN := hide hnn
  have HO := hide hO
  have HWW := hide hW
  have HLD := hide (show leftN n l = n - (qs n l.sum l).sum from rfl)
  obtain ⟨S, HS⟩ : ∃ S, Hid (l.sum = S) := ⟨_, hide rfl⟩
  rw [HS.out] at HSV HLD HO HSU HQL HLE hpos hS
  obtain ⟨L, HL⟩ : ∃ L : Nat, Hid (leftN n l = (L : Int)) := ⟨(leftN n l).toNat, hide (by have := HLB.out; omega)⟩
  have hLl : L < l.length := by have h := HLB.out; rw [HL.out] at h; omega
  have HCL := hide hCl
  have HCD := hide hCd
  have HCB := hide hCb
  clear hO hnn hW hCl hCd hCb hb
  obtain ⟨a, cap, rfl, hr⟩ := hv
  have hmk1 := run_make_row' (P := Tryz.prog) 23 2 (.int .i64 0) 8 Tryz.underlying23 Tryz.infoLong rfl .i64 .i64 l.length (by omega) (by omega)
  have hmk2 := run_make_row' (P := Tryz.prog) 82 66 (.int .u64 0) 8 Tryz.underlying82 Tryz.infoWord rfl .i64 .i64 l.length (by omega) (by omega)
  go_enter Tryz.func19, Tryz.ntmps19
  go_wp2_with fail
  refine HAW.out.mono ?_
  rw [HWW.out]
  rintro e w1 ⟨rfl, rfl⟩
  go_wp2_with fail
  refine HSU.out.mono ?_
  rw [HSV.out.1, HSV.out.2, errV_zero]
  rintro e w2 ⟨rfl, rfl⟩
  go_wp2_with fail
  have hB0 : Below w2.heap.size w2 ((w2.alloc (.cells (madeCells #[.int .i64 0] l.length) 2)).alloc (.cells (madeCells #[.int .u64 0] l.length) 66)) := ((Below.refl _ _).alloc (Nat.le_refl _) _).alloc (by simp) _
  have hR1 := (World.rowIs_made w2 (.int .i64 0) l.length 2).alloc (.cells (madeCells #[.int .u64 0] l.length) 66)
  have hR2 := World.rowIs_made (w2.alloc (.cells (madeCells #[.int .i64 0] l.length) 2)) (.int .u64 0) l.length 66
  rw [show (w2.alloc (.cells (madeCells #[.int .i64 0] l.length) 2)).heap.size = w2.heap.size + 1 by simp] at hR2
  go_loopw [10, 44] (fun lf i wr => ∃ (k : Nat) (lv : Int), k ≤ l.length ∧ i = .int .i64 k ∧ lf = .int .i64 lv ∧ Hid (lv = n - (qs n S (l.take k)).sum) ∧ 0 ≤ lv ∧ lv ≤ n ∧
    wr.rowIs w2.heap.size 2 l.length (fun j => if j < k then .int .i64 (n * l.getD j 0 / S) else .int .i64 0) ∧ wr.rowIs (w2.heap.size + 1) 66 l.length (fun j => if j < k then .int .u64 (n * l.getD j 0 % S) else .int .u64 0) ∧ Below w2.heap.size w2 wr) (fun _ i _ => l.length - (intOf i).toNat)
  case atStart => exact ⟨0, n, Nat.zero_le _, rfl, rfl, hide (by simp [qs]), n0, Int.le_refl _, by simpa using hR1, by simpa using hR2, hB0⟩
  case round =>
    clear hR1 hR2 hB0
    obtain ⟨k, lf, hk, rfl, rfl, HLF, lf0, lf1, hP, hR, hB⟩ := hrel
    by_cases hlt : k < l.length
    · obtain ⟨x, hx⟩ := some_at hlt
      rcases hr with h0 | ⟨b, off, rfl, hbl, hc⟩
      · rw [h0] at hlt; simp at hlt
      have hcell := (hB.cell (p := ⟨b, off + k, none⟩) hbl).trans (hc k x hx)
      have HX := hide hx
      have x0 : 0 ≤ x := HNN.out x (List.mem_of_getElem? hx)
      have x1 : x ≤ S := HLE.out x (List.mem_of_getElem? hx)
      have HGD : Hid (l.getD k 0 = x) := by show l.getD k 0 = x; rw [List.getD_eq_getElem?_getD, hx]; rfl
      clear hc hx
      obtain ⟨q0, q1, r0, r1, p0, p1⟩ := q_words n0 n1 x0 x1 hS hpos
      obtain ⟨l0, l1, HP⟩ := hl_of (n * x)
      have hh := hi_nn p0
      have hh2 : hiW (n * x) < S := by have := HP.out; omega
      have HQT := hide (qs_take (n := n) (S := S) HX.out)
      have hsub : 0 ≤ lf - n * x / S := by
        have h1 := (qs_part n0 HNN.out hpos (k + 1)).2
        rw [HQT.out] at h1
        have h2 := HLF.out
        have h3 := HLD.out
        rw [HL.out] at h3
        omega
      go_wp2_with fail
      refine (mul64_any n x _ (by omega) (by omega) (by omega) (by omega)).mono ?_
      rintro e w3 ⟨rfl, rfl⟩
      go_wp2_with fail
      refine (div64_any _ _ S (n * x) _ hh hh2 l0 l1 (by omega) (hide HP.out.symm)).mono ?_
      rintro e w4 ⟨rfl, hb4⟩
      have hP4 := hP.of_block (hb4.block _ hP.lt)
      have hR4 := hR.of_block (hb4.block _ hR.lt)
      have hB4 := hB.trans (hb4.mono hB.size)
      have cP := hP4.cell hlt
      have cR := hR4.cell hlt
      have fP := hP4.frozen k
      have fR := hR4.frozen k
      clear hP hR hb4
      go_wp2_with fail
      go_roundw
      case rel =>
        refine ⟨k + 1, lf - n * x / S, by omega, by go_num, by go_num, hide (by rw [HQT.out, HLF.out]; omega), hsub, by omega, ?_, ?_, (hB4.setCell (p := ⟨w2.heap.size, k, none⟩) (by simp) _).setCell (p := ⟨w2.heap.size + 1, k, none⟩) (by simp) _⟩
        · exact ((hP4.set k (.int .i64 (n * x / S))).setOther (a := ⟨w2.heap.size + 1, k, none⟩) (by simp) _).congr fun j _ => row_step (fun j => .int .i64 (n * l.getD j 0 / S)) _ _ k j (by rw [HGD.out])
        · exact ((hR4.setOther (a := ⟨w2.heap.size, k, none⟩) (by simp) _).set k (.int .u64 (n * x % S))).congr fun j _ => row_step (fun j => .int .u64 (n * l.getD j 0 % S)) _ _ k j (by rw [HGD.out])
      case measure => simp [intOf]; omega
    · have hlf : lf = (L : Int) := by
        have h1 := HLF.out
        rw [List.take_of_length_le (by omega)] at h1
        have h2 := HLD.out
        rw [HL.out] at h2
        omega
      subst hlf
      have hkl : k = l.length := by omega
      subst hkl
      have hP' := hP.congr (g := fun j => .int .i64 (dealt (fun j => n * l.getD j 0 / S) (C.take 0) j)) (fun j hj => by rw [if_pos hj]; simp [dealt])
      have hR' := hR.congr (g := fun j => .int .u64 (n * l.getD j 0 % S)) (fun j hj => by rw [if_pos hj])
      have HBR := hide (HO.out (w2.heap.size + 1) l.length wr hR'.lt (fun j hj => hR'.cell hj))
      clear hP hR hr hR'
      go_wp2_with fail
      refine HBR.out.mono ?_
      rintro e w5 ⟨g, rfl, hg, hC, hgl, hb5⟩
      have HC := hide hC
      clear hC
      have hP5 := hP'.of_block (hb5.block _ hP'.lt)
      have hgP : w2.heap.size ≠ g := by have := hP'.lt; omega
      have hB5 := hB.trans (hb5.mono hB.size)
      clear hP' hb5 HBR
      go_wp2_with fail
      go_loopw [84] (fun i wr => ∃ k : Nat, k ≤ L ∧ i = .int .i64 k ∧ wr.rowIs w2.heap.size 2 l.length (fun j => .int .i64 (dealt (fun j => n * l.getD j 0 / S) (C.take k) j)) ∧ Hid (∀ (j c : Nat), C[j]? = some c → wr.cell? ⟨g, j, none⟩ = some (.int .i64 (c : Int))) ∧ Below w2.heap.size w2 wr) (fun i _ => L - (intOf i).toNat)
      case atStart => exact ⟨0, Nat.zero_le _, rfl, hP5, HC, hB5⟩
      case round =>
        clear hP5 HC hB5 hB hg hgl
        obtain ⟨k, hk, rfl, hP, HC, hB⟩ := hrel
        by_cases hlt : k < L
        · have hkC : k < C.length := by rw [HCL.out]; omega
          obtain ⟨c, hc⟩ : ∃ c, C[k]? = some c := ⟨C[k], List.getElem?_eq_getElem hkC⟩
          have hcl : c < l.length := HCB.out c (List.mem_of_getElem? hc)
          have hcell := HC.out k c hc
          have cP := hP.cell hcl
          have fP := hP.frozen c
          obtain ⟨d, Hd⟩ : ∃ d, Hid (dealt (fun j => n * l.getD j 0 / S) (C.take k) c = d) := ⟨_, hide rfl⟩
          rw [Hd.out] at cP
          have hd : 0 ≤ d ∧ d ≤ 9223372036854775806 := by
            have hnc : c ∉ C.take k := by
              have h2 := HCD.out.sublist (List.take_sublist (k + 1) C)
              rw [show C.take (k + 1) = C.take k ++ [c] by rw [List.take_add_one, hc]; rfl, List.nodup_append] at h2
              intro hm; exact h2.2.2 c hm c (by simp) rfl
            have h1 := HQL.out (n * l.getD c 0 / S) (List.mem_map.2 ⟨l.getD c 0, by rw [List.getD_eq_getElem?_getD, List.getElem?_eq_getElem hcl]; exact List.getElem_mem hcl, rfl⟩)
            have h2 : n * l.getD c 0 / S + 0 = d := by
              have h := Hd.out
              unfold dealt at h
              rw [if_neg hnc] at h
              exact h
            rw [HL.out] at h1
            omega
          have HDS := hide (fun j => dealt_step (f := fun j => n * l.getD j 0 / S) hc HCD.out j)
          clear hc hkC
          go_wp2_with fail
          go_roundw
          case rel =>
            refine ⟨k + 1, by omega, by go_num, ?_, hide (fun j c' hj => cell_other (HC.out j c' hj) (Or.inl hgP)), hB.setCell (p := ⟨w2.heap.size, c, none⟩) (by simp) _⟩
            exact (hP.set c (.int .i64 (d + 1))).congr fun j _ => by
              have h := HDS.out j
              rw [Hd.out] at h
              rw [← h]
              split <;> rfl
          case measure => simp [intOf]; omega
        · have hkL : k = L := by omega
          subst hkL
          go_wp2_with fail
          go_ret2
          exact ⟨_, rfl, Nat.le_refl _, by rw [HS.out, HL.out, Int.toNat_natCast]; exact hP, hB⟩
end Go.Proofs.YthmbfdjbjljaiaaGreatDoor
