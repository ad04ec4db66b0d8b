/-
  My own text: the law on sums of lists, in each width.
-/
import Derived.Test.YthmbfdjbjljaiaaGreatDoorNine
namespace Go.Proofs.YthmbfdjbjljaiaaGreatDoor
open Go.RowKit

theorem Tryz.infoI8 : (Tryz.prog.info? 31).map (fun i => (i.zero, i.size, i.bytes)) = some (some (.int .i8 0), 1, 1) := by kernel_rfl
theorem Tryz.infoI16 : (Tryz.prog.info? 35).map (fun i => (i.zero, i.size, i.bytes)) = some (some (.int .i16 0), 1, 2) := by kernel_rfl
theorem Tryz.infoI32 : (Tryz.prog.info? 21).map (fun i => (i.zero, i.size, i.bytes)) = some (some (.int .i32 0), 1, 4) := by kernel_rfl
theorem Tryz.infoInt : (Tryz.prog.info? 3).map (fun i => (i.zero, i.size, i.bytes)) = some (some (.int .i64 0), 1, 8) := by kernel_rfl
theorem Tryz.infoSm : (Tryz.prog.info? 59).map (fun i => (i.zero, i.size, i.bytes)) = some (some (.int .i8 0), 1, 1) := by kernel_rfl
theorem Tryz.infoLg : (Tryz.prog.info? 60).map (fun i => (i.zero, i.size, i.bytes)) = some (some (.int .i64 0), 1, 8) := by kernel_rfl

/-- A list cut to a width. -/
def cut (K : IntKind) (l : List Int) : List Int := l.map K.wrap
theorem cut_len (K : IntKind) (l : List Int) : (cut K l).length = l.length := by simp [cut]
theorem cut_at {K : IntKind} {l : List Int} {k : Nat} {x : Int} (h : l[k]? = some x) : (cut K l)[k]? = some (K.wrap x) := by unfold cut; rw [List.getElem?_map, h]; rfl
theorem lvt_len {K : IntKind} {l : List Int} {k : Nat} (h : k ≤ l.length) : (lv K (l.take k)).length = k := by rw [lv_len, List.length_take]; omega

theorem rng8 (x : Int) : -128 ≤ IntKind.i8.wrap x ∧ IntKind.i8.wrap x ≤ 127 := by simp [IntKind.wrap, IntKind.bits, IntKind.signed]; split <;> omega
theorem rng16 (x : Int) : -32768 ≤ IntKind.i16.wrap x ∧ IntKind.i16.wrap x ≤ 32767 := by simp [IntKind.wrap, IntKind.bits, IntKind.signed]; split <;> omega
theorem rng32 (x : Int) : -2147483648 ≤ IntKind.i32.wrap x ∧ IntKind.i32.wrap x ≤ 2147483647 := by simp [IntKind.wrap, IntKind.bits, IntKind.signed]; split <;> omega
theorem cut_rng8 (l : List Int) : ∀ x ∈ cut .i8 l, -9223372036854775808 ≤ x ∧ x ≤ 9223372036854775807 := by
  intro x hx; obtain ⟨y, _, rfl⟩ := List.mem_map.1 hx; have := rng8 y; omega
theorem cut_rng16 (l : List Int) : ∀ x ∈ cut .i16 l, -9223372036854775808 ≤ x ∧ x ≤ 9223372036854775807 := by
  intro x hx; obtain ⟨y, _, rfl⟩ := List.mem_map.1 hx; have := rng16 y; omega
theorem cut_rng32 (l : List Int) : ∀ x ∈ cut .i32 l, -9223372036854775808 ≤ x ∧ x ≤ 9223372036854775807 := by
  intro x hx; obtain ⟨y, _, rfl⟩ := List.mem_map.1 hx; have := rng32 y; omega
theorem ri_of_owns {w : World} {B e : Nat} {K : IntKind} {v : Value} {l : List Int} (h : w.ownsRow B e 1 v (lv K l).length (lv K l)) : RI w K v l := by
  rw [lv_len] at h
  by_cases hl : 0 < l.length
  · obtain ⟨g, cap, rfl, _, hlt⟩ := h.form hl
    refine ⟨_, cap, rfl, .inr ⟨g, 0, rfl, hlt, fun j x hx => ?_⟩⟩
    have hj := (List.getElem?_eq_some_iff.1 hx).1
    rw [Nat.zero_add, World.ownsRow.cellAt h j (by omega)]
    unfold lv; rw [List.getElem?_map, hx]; rfl
  · have hn : l = [] := List.length_eq_zero_iff.1 (by omega)
    subst hn
    rcases h.2 with ⟨rfl, _⟩ | ⟨g, cap, cur, rfl, _⟩
    · exact ⟨_, _, rfl, .inl rfl⟩
    · exact ⟨_, _, rfl, .inl rfl⟩

set_option maxHeartbeats 1000000 in
theorem is_any (v : Value) (l : List Int) (w : World) (hE : ErrType w) (hv : RI w .i64 v l) (hl : l.length ≤ 17592186044416) (hb : ∀ x ∈ l, -9223372036854775808 ≤ x ∧ x ≤ 9223372036854775807) :
    Calls Tryz.prog 35 #[.int .i64 (sumV l.sum), errV (sumE l.sum), v] w fun e w' => e = .returned (.bool true) ∧ Below w.heap.size w w' := by
  have hs := hide (refSum_any v l w hv hl hb)
  have e1 := sumE_lo l.sum
  clear hv hb
  go_enter Tryz.func35, Tryz.ntmps35
  go_wp2_with fail
  refine (unhide hs).mono ?_
  rintro e w1 ⟨rfl, hb1⟩
  go_wp2_with fail
  refine (plain_errV _ _ _ e1.1 e1.2 (hE.below hb1)).mono ?_
  rintro e w2 ⟨rfl, hb2⟩
  go_wp2_with fail
  go_ret
  exact ⟨rfl, hb1.trans (hb2.mono hb1.size)⟩

set_option maxRecDepth 100000 in
set_option maxHeartbeats 2000000 in
theorem sum_law (a : Option Addr) (cap : Nat) (l : List Int) (w : World) (hE : ErrType w) (hv : RI w .i64 (.slice a l.length cap) l) (hl : l.length ≤ 17592186043904) (hb : ∀ x ∈ l, -9223372036854775808 ≤ x ∧ x ≤ 9223372036854775807) :
    Calls Tryz.prog 9 #[.slice a l.length cap] w fun e w' => e = .returned (.bool true) ∧ Below w.heap.size w w' := by
  have e1 := sumE_lo l.sum
  obtain ⟨ia, ha0, ha1, ha2, ha3⟩ := info_parts Tryz.infoI8
  obtain ⟨ib, hb0, hb1, hb2, hb3⟩ := info_parts Tryz.infoI16
  obtain ⟨ic, hc0, hc1, hc2, hc3⟩ := info_parts Tryz.infoI32
  obtain ⟨id', hd0, hd1, hd2, hd3⟩ := info_parts Tryz.infoInt
  obtain ⟨if', hf0, hf1, hf2, hf3⟩ := info_parts Tryz.infoSm
  obtain ⟨ig, hg0, hg1, hg2, hg3⟩ := info_parts Tryz.infoLg
  obtain ⟨ip, hp0, hp1, hp2, hp3⟩ := info_parts Tryz.infoLong
  have HV := hide hv
  have HB := hide hb
  clear hv hb
  go_enter Tryz.func9, Tryz.ntmps9
  go_wp2_with fail
  refine (refSum_any _ l _ HV.out (by omega) HB.out).mono ?_
  rintro e w1 ⟨rfl, hw1⟩
  go_wp2_with fail
  refine (lentLongs_any _ l _ (HV.out.later hw1) hl).mono ?_
  rintro e w2 ⟨g, lc, rfl, hL, hw2⟩
  have hB2 := hw1.trans (hw2.mono hw1.size)
  have HL := hide hL
  clear hL
  go_wp2_with fail
  refine (sum_int64 _ l _ HL.out.ri (by omega) HB.out).mono ?_
  rintro e w3 ⟨rfl, rfl⟩
  go_wp2_with fail
  refine (plain_errV _ _ _ e1.1 e1.2 (hE.below hB2)).mono ?_
  rintro e w4 ⟨rfl, hw4⟩
  have hB4 := hB2.trans (hw4.mono hB2.size)
  go_wp2_with fail
  refine (keptLongs_any _ _ _ _ l _ (HL.out.later hw4) (HV.out.later hB4) hl).mono ?_
  rintro e w5 ⟨rfl, rfl⟩
  go_wp2_with fail
  have H0 : Nine w5 w.heap.size (.slice none 0 0) (.slice none 0 0) (.slice none 0 0) (.slice none 0 0) (.slice none 0 0) (.slice none 0 0) (.slice none 0 0) (.slice none 0 0) (.slice none 0 0) [] [] [] [] [] [] [] [] [] := by
    refine ⟨World.ownsRow_nil _ _ _ _, World.ownsRow_nil _ _ _ _, World.ownsRow_nil _ _ _ _, World.ownsRow_nil _ _ _ _, World.ownsRow_nil _ _ _ _, World.ownsRow_nil _ _ _ _, World.ownsRow_nil _ _ _ _, World.ownsRow_nil _ _ _ _, World.ownsRow_nil _ _ _ _, ?_, ?_, ?_⟩ <;> (intro g hg; simp [Value.ownBlock] at hg)
  go_loopw [8, 9, 10, 11, 12, 13, 14, 15, 16, 17] (fun a8 a9 a10 a11 a12 a13 a14 a15 a16 i wr => ∃ k : Nat, k ≤ l.length ∧ i = .int .i64 k ∧ Nine wr w.heap.size a8 a9 a10 a11 a12 a13 a14 a15 a16 (lv .i8 ((cut .i8 l).take k)) (lv .i16 ((cut .i16 l).take k)) (lv .i32 ((cut .i32 l).take k)) (lv .i64 (l.take k)) (lv .i8 ((cut .i8 l).take k)) (lv .i64 (l.take k)) (lv .i64 ((cut .i8 l).take k)) (lv .i64 ((cut .i16 l).take k)) (lv .i64 ((cut .i32 l).take k)) ∧ Below w.heap.size w wr) (fun _ _ _ _ _ _ _ _ _ i _ => l.length - (intOf i).toNat)
  case atStart => exact ⟨0, Nat.zero_le _, rfl, H0, hB4⟩
  case round =>
    clear H0
    obtain ⟨k, hk, rfl, H, hB⟩ := hrel
    by_cases hlt : k < l.length
    · obtain ⟨x, hx⟩ := some_at hlt
      have hr := HV.out
      obtain ⟨a', cap', hva, hr⟩ := hr
      rcases hr with h0 | ⟨b, off, rfl, hbl, hc⟩
      · rw [h0] at hlt; simp at hlt
      cases hva
      have hcell := (hB.cell (p := ⟨b, off + k, none⟩) hbl).trans (hc k x hx)
      have HX := hide hx
      have HC := hide hc
      clear hc hx
      obtain ⟨y8, hy8⟩ : ∃ y, IntKind.i8.wrap x = y := ⟨_, rfl⟩
      obtain ⟨y16, hy16⟩ : ∃ y, IntKind.i16.wrap x = y := ⟨_, rfl⟩
      obtain ⟨y32, hy32⟩ : ∃ y, wrap32 x = y := ⟨_, rfl⟩
      have by8 : -128 ≤ y8 ∧ y8 ≤ 127 := by rw [← hy8]; exact rng8 x
      have by16 : -32768 ≤ y16 ∧ y16 ≤ 32767 := by rw [← hy16]; exact rng16 x
      have by32 : -2147483648 ≤ y32 ∧ y32 ≤ 2147483647 := by rw [← hy32]; unfold wrap32; omega
      have S8 : Hid ((cut .i8 l)[k]? = some y8) := by rw [cut_at HX.out, hy8]; rfl
      have S16 : Hid ((cut .i16 l)[k]? = some y16) := by rw [cut_at HX.out, hy16]; rfl
      have S32 : Hid ((cut .i32 l)[k]? = some y32) := by rw [cut_at HX.out, IntKind.wrap_i32, ← hy32]; unfold wrap32; rfl
      have bx := HB.out x (List.mem_of_getElem? HX.out)
      have ho := H.oa
      rw [lvt_len (l := cut .i8 l) (by rw [cut_len]; omega)] at ho
      go_wp2_with (first | (at_builtin; refine wpList_append_lies _ rfl _ _ 32 rfl w.heap.size 31 ia (.int .i8 0) 1 1 Tryz.underlying32 ha0 ha1 ha2 ha3 rfl (by decide) _ _ _ rfl (ho.alloc _) ⟨_, 0, none⟩ 1 1 [.int .i8 y8] rfl rfl ?c1 ?c2 (by decide) ?c3 ?c4 ?c5 _ rfl ?_) | go_in)
      case c1 =>
        intro j u hj
        match j, hj with
        | 0, hj => simp at hj; subst hj; simp [Addr.add]
      case c2 => intro u hu; simp at hu; subst hu; rfl
      case c3 => unfold maxLen; omega
      case c4 => omega
      case c5 => have := hB.size; simp; omega
      intro g0 cap0 w10 hown hgrow hat _
      have H1 := (H.alloc _).app_a (lvt_len (l := cut .i8 l) (by rw [cut_len]; omega)) hown hgrow (by simpa using hat)
      have hB10 : Below w.heap.size w w10 := (hB.alloc hB.size _).grown hgrow (by have := hB.size; simp; omega) (fun k hk => (ho.lt k hk).1)
      clear ho hown hgrow hat H hcell
      have hcell : w10.cell? ⟨b, off + k, none⟩ = some (.int .i64 x) := (hB10.cell (p := ⟨b, off + k, none⟩) hbl).trans (HC.out k x HX.out)
      have ho := H1.ob
      rw [lvt_len (l := cut .i16 l) (by rw [cut_len]; omega)] at ho
      go_wp2_with (first | (at_builtin; refine wpList_append_lies _ rfl _ _ 36 rfl w.heap.size 35 ib (.int .i16 0) 1 2 Tryz.underlying36 hb0 hb1 hb2 hb3 rfl (by decide) _ _ _ rfl (ho.alloc _) ⟨_, 0, none⟩ 1 1 [.int .i16 y16] rfl rfl ?c1 ?c2 (by decide) ?c3 ?c4 ?c5 _ rfl ?_) | go_in)
      case c1 =>
        intro j u hj
        match j, hj with
        | 0, hj => simp at hj; subst hj; simp [Addr.add]
      case c2 => intro u hu; simp at hu; subst hu; rfl
      case c3 => unfold maxLen; omega
      case c4 => omega
      case c5 => have := hB10.size; simp; omega
      intro g1 cap1 w11 hown hgrow hat _
      have H2 := (H1.alloc _).app_b (lvt_len (l := cut .i16 l) (by rw [cut_len]; omega)) hown hgrow (by simpa using hat)
      have hB11 : Below w.heap.size w w11 := (hB10.alloc hB10.size _).grown hgrow (by have := hB10.size; simp; omega) (fun k hk => (ho.lt k hk).1)
      clear ho hown hgrow hat H1 hcell
      have hcell : w11.cell? ⟨b, off + k, none⟩ = some (.int .i64 x) := (hB11.cell (p := ⟨b, off + k, none⟩) hbl).trans (HC.out k x HX.out)
      have ho := H2.oc
      rw [lvt_len (l := cut .i32 l) (by rw [cut_len]; omega)] at ho
      go_wp2_with (first | (at_builtin; refine wpList_append_lies _ rfl _ _ 55 rfl w.heap.size 21 ic (.int .i32 0) 1 4 Tryz.underlying55 hc0 hc1 hc2 hc3 rfl (by decide) _ _ _ rfl (ho.alloc _) ⟨_, 0, none⟩ 1 1 [.int .i32 y32] rfl rfl ?c1 ?c2 (by decide) ?c3 ?c4 ?c5 _ rfl ?_) | go_in)
      case c1 =>
        intro j u hj
        match j, hj with
        | 0, hj => simp at hj; subst hj; simp [Addr.add]
      case c2 => intro u hu; simp at hu; subst hu; rfl
      case c3 => unfold maxLen; omega
      case c4 => omega
      case c5 => have := hB11.size; simp; omega
      intro g2 cap2 w12 hown hgrow hat _
      have H3 := (H2.alloc _).app_c (lvt_len (l := cut .i32 l) (by rw [cut_len]; omega)) hown hgrow (by simpa using hat)
      have hB12 : Below w.heap.size w w12 := (hB11.alloc hB11.size _).grown hgrow (by have := hB11.size; simp; omega) (fun k hk => (ho.lt k hk).1)
      clear ho hown hgrow hat H2 hcell
      have hcell : w12.cell? ⟨b, off + k, none⟩ = some (.int .i64 x) := (hB12.cell (p := ⟨b, off + k, none⟩) hbl).trans (HC.out k x HX.out)
      have ho := H3.od
      rw [lvt_len (l := l) (by omega)] at ho
      go_wp2_with (first | (at_builtin; refine wpList_append_lies _ rfl _ _ 56 rfl w.heap.size 3 id' (.int .i64 0) 1 8 Tryz.underlying56 hd0 hd1 hd2 hd3 rfl (by decide) _ _ _ rfl (ho.alloc _) ⟨_, 0, none⟩ 1 1 [.int .i64 x] rfl rfl ?c1 ?c2 (by decide) ?c3 ?c4 ?c5 _ rfl ?_) | go_in)
      case c1 =>
        intro j u hj
        match j, hj with
        | 0, hj => simp at hj; subst hj; simp [Addr.add]
      case c2 => intro u hu; simp at hu; subst hu; rfl
      case c3 => unfold maxLen; omega
      case c4 => omega
      case c5 => have := hB12.size; simp; omega
      intro g3 cap3 w13 hown hgrow hat _
      have H4 := (H3.alloc _).app_d (lvt_len (l := l) (by omega)) hown hgrow (by simpa using hat)
      have hB13 : Below w.heap.size w w13 := (hB12.alloc hB12.size _).grown hgrow (by have := hB12.size; simp; omega) (fun k hk => (ho.lt k hk).1)
      clear ho hown hgrow hat H3 hcell
      have hcell : w13.cell? ⟨b, off + k, none⟩ = some (.int .i64 x) := (hB13.cell (p := ⟨b, off + k, none⟩) hbl).trans (HC.out k x HX.out)
      have ho := H4.of
      rw [lvt_len (l := cut .i8 l) (by rw [cut_len]; omega)] at ho
      go_wp2_with (first | (at_builtin; refine wpList_append_lies _ rfl _ _ 57 rfl w.heap.size 59 if' (.int .i8 0) 1 1 Tryz.underlying57 hf0 hf1 hf2 hf3 rfl (by decide) _ _ _ rfl (ho.alloc _) ⟨_, 0, none⟩ 1 1 [.int .i8 y8] rfl rfl ?c1 ?c2 (by decide) ?c3 ?c4 ?c5 _ rfl ?_) | go_in)
      case c1 =>
        intro j u hj
        match j, hj with
        | 0, hj => simp at hj; subst hj; simp [Addr.add]
      case c2 => intro u hu; simp at hu; subst hu; rfl
      case c3 => unfold maxLen; omega
      case c4 => omega
      case c5 => have := hB13.size; simp; omega
      intro g4 cap4 w14 hown hgrow hat _
      have H5 := (H4.alloc _).app_f (lvt_len (l := cut .i8 l) (by rw [cut_len]; omega)) hown hgrow (by simpa using hat)
      have hB14 : Below w.heap.size w w14 := (hB13.alloc hB13.size _).grown hgrow (by have := hB13.size; simp; omega) (fun k hk => (ho.lt k hk).1)
      clear ho hown hgrow hat H4 hcell
      have hcell : w14.cell? ⟨b, off + k, none⟩ = some (.int .i64 x) := (hB14.cell (p := ⟨b, off + k, none⟩) hbl).trans (HC.out k x HX.out)
      have ho := H5.og
      rw [lvt_len (l := l) (by omega)] at ho
      go_wp2_with (first | (at_builtin; refine wpList_append_lies _ rfl _ _ 58 rfl w.heap.size 60 ig (.int .i64 0) 1 8 Tryz.underlying58 hg0 hg1 hg2 hg3 rfl (by decide) _ _ _ rfl (ho.alloc _) ⟨_, 0, none⟩ 1 1 [.int .i64 x] rfl rfl ?c1 ?c2 (by decide) ?c3 ?c4 ?c5 _ rfl ?_) | go_in)
      case c1 =>
        intro j u hj
        match j, hj with
        | 0, hj => simp at hj; subst hj; simp [Addr.add]
      case c2 => intro u hu; simp at hu; subst hu; rfl
      case c3 => unfold maxLen; omega
      case c4 => omega
      case c5 => have := hB14.size; simp; omega
      intro g5 cap5 w15 hown hgrow hat _
      have H6 := (H5.alloc _).app_g (lvt_len (l := l) (by omega)) hown hgrow (by simpa using hat)
      have hB15 : Below w.heap.size w w15 := (hB14.alloc hB14.size _).grown hgrow (by have := hB14.size; simp; omega) (fun k hk => (ho.lt k hk).1)
      clear ho hown hgrow hat H5 hcell
      have hcell : w15.cell? ⟨b, off + k, none⟩ = some (.int .i64 x) := (hB15.cell (p := ⟨b, off + k, none⟩) hbl).trans (HC.out k x HX.out)
      have ho := H6.op
      rw [lvt_len (l := cut .i8 l) (by rw [cut_len]; omega)] at ho
      go_wp2_with (first | (at_builtin; refine wpList_append_lies _ rfl _ _ 23 rfl w.heap.size 2 ip (.int .i64 0) 1 8 Tryz.underlying23 hp0 hp1 hp2 hp3 rfl (by decide) _ _ _ rfl (ho.alloc _) ⟨_, 0, none⟩ 1 1 [.int .i64 y8] rfl rfl ?c1 ?c2 (by decide) ?c3 ?c4 ?c5 _ rfl ?_) | go_in)
      case c1 =>
        intro j u hj
        match j, hj with
        | 0, hj => simp at hj; subst hj; simp [Addr.add]
      case c2 => intro u hu; simp at hu; subst hu; rfl
      case c3 => unfold maxLen; omega
      case c4 => omega
      case c5 => have := hB15.size; simp; omega
      intro g6 cap6 w16 hown hgrow hat _
      have H7 := (H6.alloc _).app_p (lvt_len (l := cut .i8 l) (by rw [cut_len]; omega)) hown hgrow (by simpa using hat)
      have hB16 : Below w.heap.size w w16 := (hB15.alloc hB15.size _).grown hgrow (by have := hB15.size; simp; omega) (fun k hk => (ho.lt k hk).1)
      clear ho hown hgrow hat H6 hcell
      have hcell : w16.cell? ⟨b, off + k, none⟩ = some (.int .i64 x) := (hB16.cell (p := ⟨b, off + k, none⟩) hbl).trans (HC.out k x HX.out)
      have ho := H7.oq
      rw [lvt_len (l := cut .i16 l) (by rw [cut_len]; omega)] at ho
      go_wp2_with (first | (at_builtin; refine wpList_append_lies _ rfl _ _ 23 rfl w.heap.size 2 ip (.int .i64 0) 1 8 Tryz.underlying23 hp0 hp1 hp2 hp3 rfl (by decide) _ _ _ rfl (ho.alloc _) ⟨_, 0, none⟩ 1 1 [.int .i64 y16] rfl rfl ?c1 ?c2 (by decide) ?c3 ?c4 ?c5 _ rfl ?_) | go_in)
      case c1 =>
        intro j u hj
        match j, hj with
        | 0, hj => simp at hj; subst hj; simp [Addr.add]
      case c2 => intro u hu; simp at hu; subst hu; rfl
      case c3 => unfold maxLen; omega
      case c4 => omega
      case c5 => have := hB16.size; simp; omega
      intro g7 cap7 w17 hown hgrow hat _
      have H8 := (H7.alloc _).app_q (lvt_len (l := cut .i16 l) (by rw [cut_len]; omega)) hown hgrow (by simpa using hat)
      have hB17 : Below w.heap.size w w17 := (hB16.alloc hB16.size _).grown hgrow (by have := hB16.size; simp; omega) (fun k hk => (ho.lt k hk).1)
      clear ho hown hgrow hat H7 hcell
      have hcell : w17.cell? ⟨b, off + k, none⟩ = some (.int .i64 x) := (hB17.cell (p := ⟨b, off + k, none⟩) hbl).trans (HC.out k x HX.out)
      have ho := H8.or
      rw [lvt_len (l := cut .i32 l) (by rw [cut_len]; omega)] at ho
      go_wp2_with (first | (at_builtin; refine wpList_append_lies _ rfl _ _ 23 rfl w.heap.size 2 ip (.int .i64 0) 1 8 Tryz.underlying23 hp0 hp1 hp2 hp3 rfl (by decide) _ _ _ rfl (ho.alloc _) ⟨_, 0, none⟩ 1 1 [.int .i64 y32] rfl rfl ?c1 ?c2 (by decide) ?c3 ?c4 ?c5 _ rfl ?_) | go_in)
      case c1 =>
        intro j u hj
        match j, hj with
        | 0, hj => simp at hj; subst hj; simp [Addr.add]
      case c2 => intro u hu; simp at hu; subst hu; rfl
      case c3 => unfold maxLen; omega
      case c4 => omega
      case c5 => have := hB17.size; simp; omega
      intro g8 cap8 w18 hown hgrow hat _
      have H9 := (H8.alloc _).app_r (lvt_len (l := cut .i32 l) (by rw [cut_len]; omega)) hown hgrow (by simpa using hat)
      have hB18 : Below w.heap.size w w18 := (hB17.alloc hB17.size _).grown hgrow (by have := hB17.size; simp; omega) (fun k hk => (ho.lt k hk).1)
      clear ho hown hgrow hat H8 hcell
      have hcell : w18.cell? ⟨b, off + k, none⟩ = some (.int .i64 x) := (hB18.cell (p := ⟨b, off + k, none⟩) hbl).trans (HC.out k x HX.out)
      go_wp2
      go_roundw
      case rel => exact ⟨k + 1, by omega, by go_num, by rw [lv_snoc S8.out, lv_snoc S16.out, lv_snoc S32.out, lv_snoc HX.out, lv_snoc S8.out, lv_snoc S16.out, lv_snoc S32.out]; exact H9, hB18⟩
      case measure => simp [intOf]; omega
    · have hk' : k = l.length := by omega
      subst hk'
      rw [List.take_length, List.take_of_length_le (show (cut .i8 l).length ≤ l.length by rw [cut_len]; omega), List.take_of_length_le (show (cut .i16 l).length ≤ l.length by rw [cut_len]; omega), List.take_of_length_le (show (cut .i32 l).length ≤ l.length by rw [cut_len]; omega)] at H
      go_wp2_with fail
      refine (sum_int8 _ (cut .i8 l) _ (ri_of_owns H.oa) (by rw [cut_len]; omega) (cut_rng8 l)).mono ?_
      rintro e w' ⟨rfl, rfl⟩
      go_wp2_with fail
      refine (sum_int16 _ (cut .i16 l) _ (ri_of_owns H.ob) (by rw [cut_len]; omega) (cut_rng16 l)).mono ?_
      rintro e w' ⟨rfl, rfl⟩
      go_wp2_with fail
      refine (sum_int32 _ (cut .i32 l) _ (ri_of_owns H.oc) (by rw [cut_len]; omega) (cut_rng32 l)).mono ?_
      rintro e w' ⟨rfl, rfl⟩
      go_wp2_with fail
      refine (sum_int _ (l) _ (ri_of_owns H.od) (by omega) HB.out).mono ?_
      rintro e w' ⟨rfl, rfl⟩
      go_wp2_with fail
      refine (sum_small _ (cut .i8 l) _ (ri_of_owns H.of) (by rw [cut_len]; omega) (cut_rng8 l)).mono ?_
      rintro e w' ⟨rfl, rfl⟩
      go_wp2_with fail
      refine (sum_long _ (l) _ (ri_of_owns H.og) (by omega) HB.out).mono ?_
      rintro e w' ⟨rfl, rfl⟩
      go_wp2_with fail
      refine (is_any _ (cut .i8 l) _ (hE.below hB) (ri_of_owns H.op) (by rw [cut_len]; omega) (cut_rng8 l)).mono ?_
      rintro e v0 ⟨rfl, hi0⟩
      have hJ0 := hB.trans (hi0.mono hB.size)
      have hI := hi0
      go_wp2_with fail
      refine (is_any _ (cut .i16 l) _ (hE.below hJ0) ((ri_of_owns H.oq).later hI) (by rw [cut_len]; omega) (cut_rng16 l)).mono ?_
      rintro e v1 ⟨rfl, hi1⟩
      have hJ1 := hJ0.trans (hi1.mono hJ0.size)
      have hI := hI.trans (hi1.mono hI.size)
      go_wp2_with fail
      refine (is_any _ (cut .i32 l) _ (hE.below hJ1) ((ri_of_owns H.or).later hI) (by rw [cut_len]; omega) (cut_rng32 l)).mono ?_
      rintro e v2 ⟨rfl, hi2⟩
      have hJ2 := hJ1.trans (hi2.mono hJ1.size)
      have hI := hI.trans (hi2.mono hI.size)
      go_wp2_with fail
      refine (is_any _ (l) _ (hE.below hJ2) (HV.out.later hJ2) (by omega) HB.out).mono ?_
      rintro e v3 ⟨rfl, hi3⟩
      have hJ3 := hJ2.trans (hi3.mono hJ2.size)
      have hI := hI.trans (hi3.mono hI.size)
      go_wp2_with fail
      refine (is_any _ (cut .i8 l) _ (hE.below hJ3) ((ri_of_owns H.op).later hI) (by rw [cut_len]; omega) (cut_rng8 l)).mono ?_
      rintro e v4 ⟨rfl, hi4⟩
      have hJ4 := hJ3.trans (hi4.mono hJ3.size)
      have hI := hI.trans (hi4.mono hI.size)
      go_wp2_with fail
      refine (is_any _ (l) _ (hE.below hJ4) (HV.out.later hJ4) (by omega) HB.out).mono ?_
      rintro e v5 ⟨rfl, hi5⟩
      have hJ5 := hJ4.trans (hi5.mono hJ4.size)
      have hI := hI.trans (hi5.mono hI.size)
      go_wp2_with fail
      go_ret
      exact ⟨rfl, hJ5⟩
end Go.Proofs.YthmbfdjbjljaiaaGreatDoor
