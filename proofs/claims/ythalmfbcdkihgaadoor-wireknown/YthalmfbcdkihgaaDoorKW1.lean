/-
  My own text: the numbers about the ends of the forms.
-/
import Derived.Test.YthalmfbcdkihgaaDoorW4
import Derived.Test.YthalmfbcdkihgaaDoorWReg
import Derived.Deep.RegionHeld3
import Derived.Deep.RegionWith
namespace Go.Proofs.YthalmfbcdkihgaaDoor
open Go.RowKit Go.Extern

theorem Tryd.infoU : (Tryd.prog.info? 26).map (fun i => (i.zero, i.size, i.bytes)) = some (some (.int .u64 0), 1, 8) := by kernel_rfl
theorem row_of_blk {w : World} {B g n : Nat} {t : TypeId} {cs : Array Value} (h : Blk w g cs t) (hB : B ≤ g) (hn : cs.size = n) (hm : n ≤ maxLen) : w.ownsRow B t 1 (.slice (some ⟨g, 0, none⟩) n n) n cs.toList := by
  refine ⟨by simp [hn], .inr ⟨g, n, cs, rfl, hB, h, Nat.le_refl _, hm, by simp [hn], ?_⟩⟩
  rw [List.take_of_length_le (by simp [hn])]
/-- Numbers without a sign, as cells. -/
def uv (l : List Int) : List Value := l.map (Value.int .u64)
def okU (l : List Int) : Prop := ∀ x ∈ l, 0 ≤ x ∧ x < 18446744073709551616
theorem uv_app (l m : List Int) : uv (l ++ m) = uv l ++ uv m := by simp [uv]
theorem wpU2 {w : World} {o : Oper} {a : Act} {K : Act → World → Prop} {Q : Exit → Act → World → Prop} (s x : Operand) (ho : o.op = .call { callee := .builtin .append, args := #[s, x], argTypes := #[51, 51] }) (B : Nat) (v : Value) (n : Nat) (xs : List Value) (p q : Int) (b : Nat)
    (hs : a.eval s = v) (hx : a.eval x = .slice (some ⟨b, 0, none⟩) 2 2) (hown : w.ownsRow B 26 1 v n xs) (hc0 : w.cell? ⟨b, 0, none⟩ = some (.int .u64 p)) (hc1 : w.cell? ⟨b, 1, none⟩ = some (.int .u64 q)) (hn : n ≤ 1000) (hB : B ≤ w.heap.size)
    (h : ∀ v' w', w'.ownsRow B 26 1 v' (n + 2) (xs ++ [.int .u64 p, .int .u64 q]) → w.grownBy w' v.ownBlock → K (a.put o.dst v') w') : o.wp Tryd.prog a w K Q := by
  obtain ⟨i0, hi, hz0, hz1, hz2⟩ := info_parts Tryd.infoU
  refine wp_append_own _ s x 51 ho B 26 i0 (.int .u64 0) 1 8 Tryd.underlying51 hi hz0 hz1 hz2 rfl (by decide) v n xs hs hown ⟨b, 0, none⟩ 2 2 [.int .u64 p, .int .u64 q] hx rfl ?_ ?_ (by unfold maxLen; omega) (by omega) hB (fun v' w' h1 h2 _ => h v' w' h1 h2)
  · intro j u hj
    match j, hj with
    | 0, hj => simp at hj; subst hj; simpa [Addr.add] using hc0
    | 1, hj => simp at hj; subst hj; simpa [Addr.add] using hc1
  · intro u hu
    simp only [List.mem_cons, List.not_mem_nil, or_false] at hu
    rcases hu with rfl | rfl <;> rfl
set_option maxRecDepth 100000 in
set_option maxHeartbeats 1000000 in
theorem some_any (w : World) : Calls Tryd.prog 22 #[] w fun e w' => ∃ v l, e = .returned v ∧ w'.ownsRow w.heap.size 26 1 v l.length (uv l) ∧ okU l ∧ l.length = 31 ∧ Below w.heap.size w w' := by
  obtain ⟨i0, hi, hz0, hz1, hz2⟩ := info_parts Tryd.infoU
  go_enter Tryd.func22, Tryd.ntmps22
  go_wp2_with fail
  obtain ⟨l0, hl0⟩ : ∃ l0 : List Int, Hid (l0 = [0, 1, 2, 246, 247, 248, 249, 255, 256, 300, 301, 65535, 65536, 65537, 9223372036854775807, 9223372036854775808, 9223372036854775809, 18446744073709551614, 18446744073709551615]) := ⟨_, hide rfl⟩
  have HO : Hid ((w.alloc (.cells #[.int .u64 0, .int .u64 1, .int .u64 2, .int .u64 246, .int .u64 247, .int .u64 248, .int .u64 249, .int .u64 255, .int .u64 256, .int .u64 300, .int .u64 301, .int .u64 65535, .int .u64 65536, .int .u64 65537, .int .u64 9223372036854775807, .int .u64 9223372036854775808, .int .u64 9223372036854775809, .int .u64 18446744073709551614, .int .u64 18446744073709551615] 26)).ownsRow w.heap.size 26 1 (.slice (some ⟨w.heap.size, 0, none⟩) 19 19) 19 (uv l0)) := hide (by
    rw [hl0.out]
    exact row_of_blk (Blk.new w _ _) (Nat.le_refl _) rfl (by decide))
  have HB : Hid (Below w.heap.size w (w.alloc (.cells #[.int .u64 0, .int .u64 1, .int .u64 2, .int .u64 246, .int .u64 247, .int .u64 248, .int .u64 249, .int .u64 255, .int .u64 256, .int .u64 300, .int .u64 301, .int .u64 65535, .int .u64 65536, .int .u64 65537, .int .u64 9223372036854775807, .int .u64 9223372036854775808, .int .u64 9223372036854775809, .int .u64 18446744073709551614, .int .u64 18446744073709551615] 26))) := hide ((Below.refl _ _).alloc (Nat.le_refl _) _)
  have HL0 : Hid (okU l0 ∧ l0.length = 19) := hide (by rw [hl0.out]; exact ⟨by unfold okU; decide, rfl⟩)
  clear hl0
  go_loopw [1, 2] (fun v i wr => ∃ (k : Nat) (l : List Int), k ≤ 6 ∧ i = .int .i64 ((k : Int) + 2) ∧ Hid (wr.ownsRow w.heap.size 26 1 v (19 + 2 * k) (uv l)) ∧ Hid (okU l ∧ l.length = 19 + 2 * k) ∧ Hid (Below w.heap.size w wr)) (fun _ i _ => (8 - intOf i).toNat)
  case atStart => exact ⟨0, l0, by omega, rfl, HO, HL0, HB⟩
  case round =>
    clear HO HB HL0
    obtain ⟨k, l, hk, rfl, HO, HL, HB⟩ := hrel
    have hbs := HB.out.size
    rcases (show k = 0 ∨ k = 1 ∨ k = 2 ∨ k = 3 ∨ k = 4 ∨ k = 5 ∨ k = 6 by omega) with rfl | rfl | rfl | rfl | rfl | rfl | rfl
    · have w1 : IntKind.i64.wrap 16 = 16 := by decide
      have w2 : IntKind.u64.wrap (65536 - 1) = 65535 := by decide
      have w3 : IntKind.u64.wrap 65535 = 65535 := by decide
      have hsh : ∀ W : World, (Op.shift .shl .u64 1 .i64 16).run Tryd.prog W = .ok (.int .u64 65536) W := fun W => by rfl
      have HR : Hid (okU (l ++ [65535, 65536]) ∧ (l ++ [65535, 65536]).length = 19 + 2 * (0 + 1)) := hide ⟨fun x hx => by
        rcases List.mem_append.1 hx with h | h
        · exact HL.out.1 x h
        · simp only [List.mem_cons, List.not_mem_nil, or_false] at h
          rcases h with rfl | rfl <;> decide, by rw [List.length_append, HL.out.2]; rfl⟩
      go_wp2_with fail
      go_region_held3 (fun _ => True) (trivial) ((first
        | (refine wpU2 _ _ rfl w.heap.size _ _ _ 65535 65536 _ rfl rfl (HO.out.drew.alloc _) (by simp <;> decide) (by simp <;> decide) (by omega) (by simp; omega) ?_; intro v2 W2 hO2 hg2)))
      have HO3 : Hid (W2.ownsRow w.heap.size 26 1 v2 (19 + 2 * (0 + 1)) (uv (l ++ [65535, 65536]))) := hide (by rw [uv_app]; exact hO2)
      have HB3 : Hid (Below w.heap.size w W2) := hide ((HB.out.drew.alloc (by show w.heap.size ≤ wr.heap.size; exact hbs) _).grown hg2 (Nat.le_trans (show w.heap.size ≤ wr.drew.heap.size from hbs) (by simp)) (fun g e => (World.ownsRow.lt HO.out g e).1))
      clear hO2 hg2 HO HB HL
      go_wp2_with fail
      go_roundw
      case rel => exact ⟨0 + 1, _, by omega, by go_num, HO3, HR, HB3⟩
      case measure => simp [intOf]
    · have w1 : IntKind.i64.wrap 24 = 24 := by decide
      have w2 : IntKind.u64.wrap (16777216 - 1) = 16777215 := by decide
      have w3 : IntKind.u64.wrap 16777215 = 16777215 := by decide
      have hsh : ∀ W : World, (Op.shift .shl .u64 1 .i64 24).run Tryd.prog W = .ok (.int .u64 16777216) W := fun W => by rfl
      have HR : Hid (okU (l ++ [16777215, 16777216]) ∧ (l ++ [16777215, 16777216]).length = 19 + 2 * (1 + 1)) := hide ⟨fun x hx => by
        rcases List.mem_append.1 hx with h | h
        · exact HL.out.1 x h
        · simp only [List.mem_cons, List.not_mem_nil, or_false] at h
          rcases h with rfl | rfl <;> decide, by rw [List.length_append, HL.out.2]; rfl⟩
      go_wp2_with fail
      go_region_held3 (fun _ => True) (trivial) ((first
        | (refine wpU2 _ _ rfl w.heap.size _ _ _ 16777215 16777216 _ rfl rfl (HO.out.drew.alloc _) (by simp <;> decide) (by simp <;> decide) (by omega) (by simp; omega) ?_; intro v2 W2 hO2 hg2)))
      have HO3 : Hid (W2.ownsRow w.heap.size 26 1 v2 (19 + 2 * (1 + 1)) (uv (l ++ [16777215, 16777216]))) := hide (by rw [uv_app]; exact hO2)
      have HB3 : Hid (Below w.heap.size w W2) := hide ((HB.out.drew.alloc (by show w.heap.size ≤ wr.heap.size; exact hbs) _).grown hg2 (Nat.le_trans (show w.heap.size ≤ wr.drew.heap.size from hbs) (by simp)) (fun g e => (World.ownsRow.lt HO.out g e).1))
      clear hO2 hg2 HO HB HL
      go_wp2_with fail
      go_roundw
      case rel => exact ⟨1 + 1, _, by omega, by go_num, HO3, HR, HB3⟩
      case measure => simp [intOf]
    · have w1 : IntKind.i64.wrap 32 = 32 := by decide
      have w2 : IntKind.u64.wrap (4294967296 - 1) = 4294967295 := by decide
      have w3 : IntKind.u64.wrap 4294967295 = 4294967295 := by decide
      have hsh : ∀ W : World, (Op.shift .shl .u64 1 .i64 32).run Tryd.prog W = .ok (.int .u64 4294967296) W := fun W => by rfl
      have HR : Hid (okU (l ++ [4294967295, 4294967296]) ∧ (l ++ [4294967295, 4294967296]).length = 19 + 2 * (2 + 1)) := hide ⟨fun x hx => by
        rcases List.mem_append.1 hx with h | h
        · exact HL.out.1 x h
        · simp only [List.mem_cons, List.not_mem_nil, or_false] at h
          rcases h with rfl | rfl <;> decide, by rw [List.length_append, HL.out.2]; rfl⟩
      go_wp2_with fail
      go_region_held3 (fun _ => True) (trivial) ((first
        | (refine wpU2 _ _ rfl w.heap.size _ _ _ 4294967295 4294967296 _ rfl rfl (HO.out.drew.alloc _) (by simp <;> decide) (by simp <;> decide) (by omega) (by simp; omega) ?_; intro v2 W2 hO2 hg2)))
      have HO3 : Hid (W2.ownsRow w.heap.size 26 1 v2 (19 + 2 * (2 + 1)) (uv (l ++ [4294967295, 4294967296]))) := hide (by rw [uv_app]; exact hO2)
      have HB3 : Hid (Below w.heap.size w W2) := hide ((HB.out.drew.alloc (by show w.heap.size ≤ wr.heap.size; exact hbs) _).grown hg2 (Nat.le_trans (show w.heap.size ≤ wr.drew.heap.size from hbs) (by simp)) (fun g e => (World.ownsRow.lt HO.out g e).1))
      clear hO2 hg2 HO HB HL
      go_wp2_with fail
      go_roundw
      case rel => exact ⟨2 + 1, _, by omega, by go_num, HO3, HR, HB3⟩
      case measure => simp [intOf]
    · have w1 : IntKind.i64.wrap 40 = 40 := by decide
      have w2 : IntKind.u64.wrap (1099511627776 - 1) = 1099511627775 := by decide
      have w3 : IntKind.u64.wrap 1099511627775 = 1099511627775 := by decide
      have hsh : ∀ W : World, (Op.shift .shl .u64 1 .i64 40).run Tryd.prog W = .ok (.int .u64 1099511627776) W := fun W => by rfl
      have HR : Hid (okU (l ++ [1099511627775, 1099511627776]) ∧ (l ++ [1099511627775, 1099511627776]).length = 19 + 2 * (3 + 1)) := hide ⟨fun x hx => by
        rcases List.mem_append.1 hx with h | h
        · exact HL.out.1 x h
        · simp only [List.mem_cons, List.not_mem_nil, or_false] at h
          rcases h with rfl | rfl <;> decide, by rw [List.length_append, HL.out.2]; rfl⟩
      go_wp2_with fail
      go_region_held3 (fun _ => True) (trivial) ((first
        | (refine wpU2 _ _ rfl w.heap.size _ _ _ 1099511627775 1099511627776 _ rfl rfl (HO.out.drew.alloc _) (by simp <;> decide) (by simp <;> decide) (by omega) (by simp; omega) ?_; intro v2 W2 hO2 hg2)))
      have HO3 : Hid (W2.ownsRow w.heap.size 26 1 v2 (19 + 2 * (3 + 1)) (uv (l ++ [1099511627775, 1099511627776]))) := hide (by rw [uv_app]; exact hO2)
      have HB3 : Hid (Below w.heap.size w W2) := hide ((HB.out.drew.alloc (by show w.heap.size ≤ wr.heap.size; exact hbs) _).grown hg2 (Nat.le_trans (show w.heap.size ≤ wr.drew.heap.size from hbs) (by simp)) (fun g e => (World.ownsRow.lt HO.out g e).1))
      clear hO2 hg2 HO HB HL
      go_wp2_with fail
      go_roundw
      case rel => exact ⟨3 + 1, _, by omega, by go_num, HO3, HR, HB3⟩
      case measure => simp [intOf]
    · have w1 : IntKind.i64.wrap 48 = 48 := by decide
      have w2 : IntKind.u64.wrap (281474976710656 - 1) = 281474976710655 := by decide
      have w3 : IntKind.u64.wrap 281474976710655 = 281474976710655 := by decide
      have hsh : ∀ W : World, (Op.shift .shl .u64 1 .i64 48).run Tryd.prog W = .ok (.int .u64 281474976710656) W := fun W => by rfl
      have HR : Hid (okU (l ++ [281474976710655, 281474976710656]) ∧ (l ++ [281474976710655, 281474976710656]).length = 19 + 2 * (4 + 1)) := hide ⟨fun x hx => by
        rcases List.mem_append.1 hx with h | h
        · exact HL.out.1 x h
        · simp only [List.mem_cons, List.not_mem_nil, or_false] at h
          rcases h with rfl | rfl <;> decide, by rw [List.length_append, HL.out.2]; rfl⟩
      go_wp2_with fail
      go_region_held3 (fun _ => True) (trivial) ((first
        | (refine wpU2 _ _ rfl w.heap.size _ _ _ 281474976710655 281474976710656 _ rfl rfl (HO.out.drew.alloc _) (by simp <;> decide) (by simp <;> decide) (by omega) (by simp; omega) ?_; intro v2 W2 hO2 hg2)))
      have HO3 : Hid (W2.ownsRow w.heap.size 26 1 v2 (19 + 2 * (4 + 1)) (uv (l ++ [281474976710655, 281474976710656]))) := hide (by rw [uv_app]; exact hO2)
      have HB3 : Hid (Below w.heap.size w W2) := hide ((HB.out.drew.alloc (by show w.heap.size ≤ wr.heap.size; exact hbs) _).grown hg2 (Nat.le_trans (show w.heap.size ≤ wr.drew.heap.size from hbs) (by simp)) (fun g e => (World.ownsRow.lt HO.out g e).1))
      clear hO2 hg2 HO HB HL
      go_wp2_with fail
      go_roundw
      case rel => exact ⟨4 + 1, _, by omega, by go_num, HO3, HR, HB3⟩
      case measure => simp [intOf]
    · have w1 : IntKind.i64.wrap 56 = 56 := by decide
      have w2 : IntKind.u64.wrap (72057594037927936 - 1) = 72057594037927935 := by decide
      have w3 : IntKind.u64.wrap 72057594037927935 = 72057594037927935 := by decide
      have hsh : ∀ W : World, (Op.shift .shl .u64 1 .i64 56).run Tryd.prog W = .ok (.int .u64 72057594037927936) W := fun W => by rfl
      have HR : Hid (okU (l ++ [72057594037927935, 72057594037927936]) ∧ (l ++ [72057594037927935, 72057594037927936]).length = 19 + 2 * (5 + 1)) := hide ⟨fun x hx => by
        rcases List.mem_append.1 hx with h | h
        · exact HL.out.1 x h
        · simp only [List.mem_cons, List.not_mem_nil, or_false] at h
          rcases h with rfl | rfl <;> decide, by rw [List.length_append, HL.out.2]; rfl⟩
      go_wp2_with fail
      go_region_held3 (fun _ => True) (trivial) ((first
        | (refine wpU2 _ _ rfl w.heap.size _ _ _ 72057594037927935 72057594037927936 _ rfl rfl (HO.out.drew.alloc _) (by simp <;> decide) (by simp <;> decide) (by omega) (by simp; omega) ?_; intro v2 W2 hO2 hg2)))
      have HO3 : Hid (W2.ownsRow w.heap.size 26 1 v2 (19 + 2 * (5 + 1)) (uv (l ++ [72057594037927935, 72057594037927936]))) := hide (by rw [uv_app]; exact hO2)
      have HB3 : Hid (Below w.heap.size w W2) := hide ((HB.out.drew.alloc (by show w.heap.size ≤ wr.heap.size; exact hbs) _).grown hg2 (Nat.le_trans (show w.heap.size ≤ wr.drew.heap.size from hbs) (by simp)) (fun g e => (World.ownsRow.lt HO.out g e).1))
      clear hO2 hg2 HO HB HL
      go_wp2_with fail
      go_roundw
      case rel => exact ⟨5 + 1, _, by omega, by go_num, HO3, HR, HB3⟩
      case measure => simp [intOf]
    · have HF : Hid (okU l ∧ l.length = 31) := hide HL.out
      have HO4 := HO.out
      rw [show 19 + 2 * 6 = l.length from HL.out.2.symm] at HO4
      have HO5 := hide HO4
      clear HO HO4 HL
      go_wp2_with fail
      go_ret
      exact ⟨_, l, rfl, HO5.out, HF.out.1, HF.out.2, HB.out⟩
end Go.Proofs.YthalmfbcdkihgaaDoor
