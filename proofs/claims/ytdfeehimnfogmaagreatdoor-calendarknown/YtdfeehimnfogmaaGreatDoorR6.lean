/-
  My own text: a calendar answers as the document's does.
-/
import Derived.Test.YtdfeehimnfogmaaGreatDoorR4
import Derived.Test.YtdfeehimnfogmaaGreatDoorD6
namespace Go.Proofs.YtdfeehimnfogmaaGreatDoor
open Go.RowKit

theorem AddS.unique {g : Int → Bool} {n k v e v' e' : Int} (h : AddS g n k v e) (h' : AddS g n k v' e') : v = v' ∧ e = e' := by
  rcases h with ⟨a, rfl, rfl⟩ | ⟨a, h⟩ <;> rcases h' with ⟨a', rfl, rfl⟩ | ⟨a', h'⟩
  · exact ⟨rfl, rfl⟩
  · rw [a] at a'; cases a'
  · rw [a] at a'; cases a'
  · have := (dayB_iff n).1 a
    exact AddR.unique this.1 this.2 h h'
theorem AddS.err {g : Int → Bool} {n k v e : Int} (h : AddS g n k v e) : e = 0 ∨ e = 8 := by
  rcases h with ⟨_, _, h⟩ | ⟨_, h⟩
  · exact .inr h
  · exact h.err
theorem AdjR.code {g : Int → Bool} {n c v e : Int} (h : AdjR g n c v e) : 0 ≤ e ∧ e ≤ 8 := by
  rcases h with ⟨_, _, h⟩ | ⟨_, _, _, h⟩ | ⟨_, _, _, ⟨_, _, h⟩ | ⟨_, v1, e1, h1, ⟨_, _, h2⟩ | ⟨_, _, h2⟩⟩⟩
  · omega
  · omega
  · omega
  · have := h2.err; omega
  · have := h1.err; omega
theorem AdjR.unique {g : Int → Bool} {n c v e v' e' : Int} (h : AdjR g n c v e) (h' : AdjR g n c v' e') : v = v' ∧ e = e' := by
  rcases h with ⟨a, rfl, rfl⟩ | ⟨a, q, rfl, rfl⟩ | ⟨a, c0, c3, h⟩
  · rcases h' with ⟨a', rfl, rfl⟩ | ⟨a', _⟩ | ⟨a', _⟩
    · exact ⟨rfl, rfl⟩
    · rw [a] at a'; cases a'
    · rw [a] at a'; cases a'
  · rcases h' with ⟨a', _⟩ | ⟨a', q', rfl, rfl⟩ | ⟨a', d0, d3, h9⟩
    · rw [a] at a'; cases a'
    · exact ⟨rfl, rfl⟩
    · clear h9; omega
  rcases h' with ⟨a', _⟩ | ⟨a', q', h9⟩ | ⟨a', d0, d3, h'⟩
  · rw [a] at a'; cases a'
  · clear h9 h; omega
  have hd := (dayB_iff n).1 a
  rcases h with ⟨g1, rfl, rfl⟩ | ⟨g1, v1, e1, h1, h2⟩ <;> rcases h' with ⟨g2, rfl, rfl⟩ | ⟨g2, v2, e2, h1', h2'⟩
  · exact ⟨rfl, rfl⟩
  · rw [g1] at g2; cases g2
  · rw [g1] at g2; cases g2
  · obtain ⟨rfl, rfl⟩ := AddR.unique hd.1 hd.2 h1 h1'
    rcases h2 with ⟨m1, m2, h2⟩ | ⟨m1, rfl, rfl⟩ <;> rcases h2' with ⟨m1', m2', h2'⟩ | ⟨m1', rfl, rfl⟩
    · exact AddR.unique hd.1 hd.2 h2 h2'
    · exact absurd ⟨m1, m2⟩ m1'
    · exact absurd ⟨m1', m2'⟩ m1
    · exact ⟨rfl, rfl⟩
/-- A variable of four numbers, in whatever later world. -/
structure Four (w : World) (q : Nat) (x0 x1 x2 x3 : Int) : Prop where
  lt : q < w.heap.size
  c0 : w.cell? ⟨q, 0, none⟩ = some (.int .i64 x0)
  c1 : w.cell? ⟨q, 1, none⟩ = some (.int .i64 x1)
  c2 : w.cell? ⟨q, 2, none⟩ = some (.int .i64 x2)
  c3 : w.cell? ⟨q, 3, none⟩ = some (.int .i64 x3)
theorem Four.later {w w1 : World} {q : Nat} {x0 x1 x2 x3 : Int} (h : Four w q x0 x1 x2 x3) (hb : Below w.heap.size w w1) : Four w1 q x0 x1 x2 x3 := by
  obtain ⟨hc, _⟩ := bcell hb
  exact ⟨Nat.lt_of_lt_of_le h.lt hb.size, (hc _ _ h.lt).trans h.c0, (hc _ _ h.lt).trans h.c1, (hc _ _ h.lt).trans h.c2, (hc _ _ h.lt).trans h.c3⟩
theorem Four.new (w : World) (x0 x1 x2 x3 : Int) (t : TypeId) : Four (w.alloc (.cells #[.int .i64 x0, .int .i64 x1, .int .i64 x2, .int .i64 x3] t)) w.heap.size x0 x1 x2 x3 := by
  refine ⟨by simp, ?_, ?_, ?_, ?_⟩ <;> simp
theorem Box.range {w : World} {q : Nat} {we : Nat → Bool} {ad : Option Addr} {n cap : Nat} (h : Box w q we ad n cap) : w.rangeAt q 0 [.bool (we 0), .bool (we 1), .bool (we 2), .bool (we 3), .bool (we 4), .bool (we 5), .bool (we 6), .slice ad n cap] := by
  intro j v hv
  match j, hv with
  | 0, hv => simp at hv; subst hv; exact h.ce 0 (by omega)
  | 1, hv => simp at hv; subst hv; exact h.ce 1 (by omega)
  | 2, hv => simp at hv; subst hv; exact h.ce 2 (by omega)
  | 3, hv => simp at hv; subst hv; exact h.ce 3 (by omega)
  | 4, hv => simp at hv; subst hv; exact h.ce 4 (by omega)
  | 5, hv => simp at hv; subst hv; exact h.ce 5 (by omega)
  | 6, hv => simp at hv; subst hv; exact h.ce 6 (by omega)
  | 7, hv => simp at hv; subst hv; exact h.cs
/-- Worlds that have grown out of w0, with all that a question wants. -/
def AskW (w0 : World) (p b q : Nat) (we : Nat → Bool) (ad : Option Addr) (l : List Int) (cap : Nat) (o kd x y : Int) : Type :=
  { w' : World // Cal w' p b we (FL we l) ∧ Box w' q we ad l.length cap ∧ Four w' (q + 1) o kd x y ∧ RI w' .i64 (.slice ad l.length cap) l ∧ Below w0.heap.size w0 w' }
theorem AskW.call {w0 : World} {p b q : Nat} {we : Nat → Bool} {ad : Option Addr} {l : List Int} {cap : Nat} {o kd x y : Int} (z : AskW w0 p b q we ad l cap o kd x y) {P : Program} {f : FuncId} {args : Array Value} {v : Value} (h : Calls P f args z.1 fun e w' => e = .returned v ∧ Below z.1.heap.size z.1 w') :
    Calls P f args z.1 fun e w' => e = .returned v ∧ ∃ r : AskW w0 p b q we ad l cap o kd x y, w' = r.1 :=
  h.mono fun _ w' ⟨he, hb⟩ => ⟨he, ⟨w', z.2.1.later hb, z.2.2.1.later hb, z.2.2.2.1.later hb, z.2.2.2.2.1.later hb, z.2.2.2.2.2.trans (hb.mono z.2.2.2.2.2.size)⟩, rfl⟩
theorem Tryz.sizeRC : (Tryz.prog.info? 51).map (·.size) = some 8 := by kernel_rfl
set_option maxRecDepth 100000 in
set_option maxHeartbeats 4000000 in
theorem asked_any (p b : Nat) (we : Nat → Bool) (ad : Option Addr) (cap : Nat) (l : List Int) (o kd x y : Int) (w : World) (hL : Lies w) (HC : Hid (Cal w p b we (FL we l))) (HR : Hid (RI w .i64 (.slice ad l.length cap) l)) (hl : l.length ≤ 17592186044416) (y1 : -9223372036854775808 ≤ y) (y2 : y ≤ 9223372036854775807) :
    Calls Tryz.prog 28 #[.pointer (some ⟨p, 0, none⟩), .agg #[.bool (we 0), .bool (we 1), .bool (we 2), .bool (we 3), .bool (we 4), .bool (we 5), .bool (we 6), .slice ad l.length cap], .agg #[.int .i64 o, .int .i64 kd, .int .i64 x, .int .i64 y]] w fun e w' => e = .returned (.bool true) ∧ Below w.heap.size w w' := by
  have HL := hide hL
  clear hL
  have HS := hide (free_week we l)
  have HB0 : Hid (Below w.heap.size w ((w.alloc (.cells #[.bool (we 0), .bool (we 1), .bool (we 2), .bool (we 3), .bool (we 4), .bool (we 5), .bool (we 6), .slice ad l.length cap] 51)).alloc (.cells #[.int .i64 o, .int .i64 kd, .int .i64 x, .int .i64 y] 56))) := hide (((Below.refl _ _).alloc (Nat.le_refl _) _).alloc (by simp) _)
  have BX0 : Box ((w.alloc (.cells #[.bool (we 0), .bool (we 1), .bool (we 2), .bool (we 3), .bool (we 4), .bool (we 5), .bool (we 6), .slice ad l.length cap] 51)).alloc (.cells #[.int .i64 o, .int .i64 kd, .int .i64 x, .int .i64 y] 56)) w.heap.size we ad l.length cap := (Box.new w we ad l.length cap 51).later ((Below.refl _ _).alloc (Nat.le_refl _) _)
  have FQ : Four ((w.alloc (.cells #[.bool (we 0), .bool (we 1), .bool (we 2), .bool (we 3), .bool (we 4), .bool (we 5), .bool (we 6), .slice ad l.length cap] 51)).alloc (.cells #[.int .i64 o, .int .i64 kd, .int .i64 x, .int .i64 y] 56)) (w.heap.size + 1) o kd x y := by
    have h := Four.new (w.alloc (.cells #[.bool (we 0), .bool (we 1), .bool (we 2), .bool (we 3), .bool (we 4), .bool (we 5), .bool (we 6), .slice ad l.length cap] 51)) o kd x y 56
    simpa using h
  by_cases k0 : kd = 0
  · subst k0
    have HPB := hide (fun (W : World) (h : Cal W p b we (FL we l)) => Business_any p b we (FL we l) x W (hide h))
    have HRB := hide (fun (W : World) (h : RI W .i64 (.slice ad l.length cap) l) => refBusiness_any we ad cap l x W (hide h) hl)
    generalize busB we (FL we l) x = bv at *
    go_enter Tryz.func28, Tryz.ntmps28
    go_wp2_with fail
    have HX := hide (show Cal ((w.alloc (.cells #[.bool (we 0), .bool (we 1), .bool (we 2), .bool (we 3), .bool (we 4), .bool (we 5), .bool (we 6), .slice ad l.length cap] 51)).alloc (.cells #[.int .i64 o, .int .i64 0, .int .i64 x, .int .i64 y] 56)).drew p b we (FL we l) ∧ Box ((w.alloc (.cells #[.bool (we 0), .bool (we 1), .bool (we 2), .bool (we 3), .bool (we 4), .bool (we 5), .bool (we 6), .slice ad l.length cap] 51)).alloc (.cells #[.int .i64 o, .int .i64 0, .int .i64 x, .int .i64 y] 56)).drew w.heap.size we ad l.length cap ∧ Four ((w.alloc (.cells #[.bool (we 0), .bool (we 1), .bool (we 2), .bool (we 3), .bool (we 4), .bool (we 5), .bool (we 6), .slice ad l.length cap] 51)).alloc (.cells #[.int .i64 o, .int .i64 0, .int .i64 x, .int .i64 y] 56)).drew (w.heap.size + 1) o 0 x y ∧ RI ((w.alloc (.cells #[.bool (we 0), .bool (we 1), .bool (we 2), .bool (we 3), .bool (we 4), .bool (we 5), .bool (we 6), .slice ad l.length cap] 51)).alloc (.cells #[.int .i64 o, .int .i64 0, .int .i64 x, .int .i64 y] 56)).drew .i64 (.slice ad l.length cap) l ∧ Below w.heap.size w ((w.alloc (.cells #[.bool (we 0), .bool (we 1), .bool (we 2), .bool (we 3), .bool (we 4), .bool (we 5), .bool (we 6), .slice ad l.length cap] 51)).alloc (.cells #[.int .i64 o, .int .i64 0, .int .i64 x, .int .i64 y] 56)).drew from
      ⟨HC.out.later HB0.out.drew, BX0.later (Below.refl _ _).drew, FQ.later (Below.refl _ _).drew, HR.out.later HB0.out.drew, HB0.out.drew⟩)
    haveI : Nonempty (AskW w p b w.heap.size we ad l cap o 0 x y) := ⟨⟨_, HX.out⟩⟩
    refine region_class (C := fun W => ∃ z : AskW w p b w.heap.size we ad l cap o 0 x y, W = z.1) (by kernel_rfl) (by kernel_rfl) ⟨⟨_, HX.out⟩, rfl⟩ ?_
    repeat (first
      | go_big_quiet_skip
      | (go_big_quiet_want; first
          | (refine quiet_load 51 (.tmp 4) rfl w.heap.size rfl [.bool (we 0), .bool (we 1), .bool (we 2), .bool (we 3), .bool (we 4), .bool (we 5), .bool (we 6), .slice ad l.length cap] _ (fun W ⟨z, hz⟩ => by subst hz; exact z.2.2.1.range) Tryz.underlying51 rfl Tryz.sizeRC ?_; simp only [Act.put, List.setIfInBounds_toArray, List.set_cons_zero, List.set_cons_succ]; go_big_quiet_on)
          | (refine quiet_cell 3 (.tmp 24) rfl (w.heap.size + 1) 2 rfl x (fun W ⟨z, hz⟩ => by subst hz; exact z.2.2.2.1.c2) Tryz.underlying3 ?_; simp only [Act.put, List.setIfInBounds_toArray, List.set_cons_zero, List.set_cons_succ]; go_big_quiet_on)
          | (refine quiet_cell 3 (.tmp 28) rfl (w.heap.size + 1) 2 rfl x (fun W ⟨z, hz⟩ => by subst hz; exact z.2.2.2.1.c2) Tryz.underlying3 ?_; simp only [Act.put, List.setIfInBounds_toArray, List.set_cons_zero, List.set_cons_succ]; go_big_quiet_on)
          | (go_big_quiet_op; first
              | go_big_quiet_on
              | (apply Exists.intro; refine ⟨fun z => ?_, ?_⟩; (first
                  | (go_at_call 22; exact z.call (HPB.out z.1 z.2.1))
                  | (go_at_call 57; exact z.call (HRB.out z.1 z.2.2.2.2.1))); go_big_quiet_on))))
    refine wpQuiet_nil ?_
    rintro w3 ⟨z, rfl⟩
    obtain ⟨w3, hw3⟩ := z
    dsimp only
    have HB3 := hide hw3.2.2.2.2
    clear HX this hw3
    go_wp2_with fail
    go_ret
    exact ⟨ret_b (by simp), HB3.out⟩
  have k0b : (kd == 0) = false := by simpa using k0
  by_cases k1 : kd = 1
  · subst k1
    go_enter Tryz.func28, Tryz.ntmps28
    go_wp2_with fail
    refine (Add_any p b we (FL we l) x y _ (hide (HC.out.later HB0.out)) HS y1 y2).mono ?_
    rintro e w1 ⟨⟨v1, e1, rfl, hs1⟩, hb1⟩
    have HB1 := hide (HB0.out.trans (hb1.mono HB0.out.size))
    have FQ1 := FQ.later hb1
    have BX := BX0.later hb1
    have b0 := BX.ce 0 (by omega)
    have b1 := BX.ce 1 (by omega)
    have b2 := BX.ce 2 (by omega)
    have b3 := BX.ce 3 (by omega)
    have b4 := BX.ce 4 (by omega)
    have b5 := BX.ce 5 (by omega)
    have b6 := BX.ce 6 (by omega)
    have b7 := BX.cs
    have f2 := FQ1.c2
    have f3 := FQ1.c3
    clear hb1
    go_wp2_with fail
    refine (refAdd_any we ad cap l x y _ (hide (HR.out.later HB1.out)) hl y1 y2).mono ?_
    rintro e w2 ⟨⟨v2, e2, rfl, hs2⟩, hb2⟩
    have HB2 := hide (HB1.out.trans (hb2.mono HB1.out.size))
    clear hb2
    obtain ⟨rfl, rfl⟩ := AddS.unique hs1 hs2
    have he := AddS.err hs1
    go_wp2_with fail
    refine (plain_same e1 _ (by omega) (by omega) ((HL.out.below HB2.out).e)).mono ?_
    rintro e w3 ⟨rfl, hb3⟩
    go_wp2_with fail
    go_ret
    exact ⟨rfl, HB2.out.trans (hb3.mono HB2.out.size)⟩
  have k1b : (kd == 1) = false := by simpa using k1
  by_cases k2 : kd = 2
  · subst k2
    go_enter Tryz.func28, Tryz.ntmps28
    go_wp2_with fail
    refine (Adjust_any p b we (FL we l) x y _ (hide ((HL.out.below HB0.out).m)) (hide (HC.out.later HB0.out)) HS).mono ?_
    rintro e w1 ⟨⟨v1, e1, rfl, hs1⟩, hb1⟩
    have HB1 := hide (HB0.out.trans (hb1.mono HB0.out.size))
    have FQ1 := FQ.later hb1
    have BX := BX0.later hb1
    have b0 := BX.ce 0 (by omega)
    have b1 := BX.ce 1 (by omega)
    have b2 := BX.ce 2 (by omega)
    have b3 := BX.ce 3 (by omega)
    have b4 := BX.ce 4 (by omega)
    have b5 := BX.ce 5 (by omega)
    have b6 := BX.ce 6 (by omega)
    have b7 := BX.cs
    have f2 := FQ1.c2
    have f3 := FQ1.c3
    clear hb1
    go_wp2_with fail
    refine (refAdjust_any we ad cap l x y _ (hide (HR.out.later HB1.out)) hl).mono ?_
    rintro e w2 ⟨⟨v2, e2, rfl, hs2⟩, hb2⟩
    have HB2 := hide (HB1.out.trans (hb2.mono HB1.out.size))
    clear hb2
    obtain ⟨rfl, rfl⟩ := AdjR.unique hs1 hs2
    have he := AdjR.code hs1
    go_wp2_with fail
    refine (plain_same e1 _ (by omega) (by omega) ((HL.out.below HB2.out).e)).mono ?_
    rintro e w3 ⟨rfl, hb3⟩
    go_wp2_with fail
    go_ret
    exact ⟨rfl, HB2.out.trans (hb3.mono HB2.out.size)⟩
  have k2b : (kd == 2) = false := by simpa using k2
  have HCP := hide (fun (W : World) (h : Cal W p b we (FL we l)) => Count_any p b we (FL we l) x y W (hide h) HS)
  have HCR := hide (fun (W : World) (h : RI W .i64 (.slice ad l.length cap) l) => refCount_any we ad cap l x y W (hide h) hl)
  have HPL := hide (fun (W : World) (h : ErrType W) => plain_same (coE x y) W (coE_b x y).1 (coE_b x y).2 h)
  generalize coV (bizB we (FL we l)) x y = cv at *
  generalize coE x y = ce at *
  generalize errV ce = ev at *
  go_enter Tryz.func28, Tryz.ntmps28
  go_wp2_with fail
  refine (HCP.out _ (HC.out.later HB0.out)).mono ?_
  rintro e w1 ⟨rfl, hb1⟩
  have HB1 := hide (HB0.out.trans (hb1.mono HB0.out.size))
  have FQ1 := FQ.later hb1
  have BX := BX0.later hb1
  have b0 := BX.ce 0 (by omega)
  have b1 := BX.ce 1 (by omega)
  have b2 := BX.ce 2 (by omega)
  have b3 := BX.ce 3 (by omega)
  have b4 := BX.ce 4 (by omega)
  have b5 := BX.ce 5 (by omega)
  have b6 := BX.ce 6 (by omega)
  have b7 := BX.cs
  have f2 := FQ1.c2
  have f3 := FQ1.c3
  clear hb1
  go_wp2_with fail
  refine (HCR.out _ (HR.out.later HB1.out)).mono ?_
  rintro e w2 ⟨rfl, hb2⟩
  have HB2 := hide (HB1.out.trans (hb2.mono HB1.out.size))
  clear hb2
  go_wp2_with fail
  refine (HPL.out _ ((HL.out.below HB2.out).e)).mono ?_
  rintro e w3 ⟨rfl, hb3⟩
  go_wp2_with fail
  go_ret
  exact ⟨rfl, HB2.out.trans (hb3.mono HB2.out.size)⟩
end Go.Proofs.YtdfeehimnfogmaaGreatDoor
