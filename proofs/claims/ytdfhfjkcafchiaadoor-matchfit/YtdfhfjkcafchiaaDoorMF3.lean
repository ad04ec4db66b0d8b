/-
  My own text: MF2, MF3 in one.
-/
import Derived.Test.YtdfhfjkcafchiaaDoorMF1
import Derived.DeepKeys
namespace Go.Proofs.YtdfhfjkcafchiaaDoor
open Go.RowKit LC

theorem kl_str (d : Nat) (s : List UInt8) (h : s.length ≤ 140737488355328) : Tryd.prog.keyLits (d + 1) 9 [.string ⟨s.toArray⟩] = some [.string s] := by
  unfold Program.keyLits
  rw [Tryd.underlying9]
  have : (⟨s.toArray⟩ : ByteArray).size ≤ maxLen := by show s.toArray.size ≤ maxLen; rw [List.size_toArray]; unfold maxLen; omega
  simp [this]
theorem Tryd.cellsStr : Tryd.prog.cellsOf 9 = 1 := by kernel_rfl
theorem Tryd.cells4 : Tryd.prog.cellsOf 40 = 4 := by kernel_rfl
theorem Tryd.key4 : Tryd.prog.keyTypeAt 5 40 = true := by kernel_rfl
structure QOk (q : List UInt8 × List UInt8 × List UInt8 × List UInt8) : Prop where
  a : q.1.length ≤ 140737488355328
  b : q.2.1.length ≤ 140737488355328
  c : q.2.2.1.length ≤ 140737488355328
  d : q.2.2.2.length ≤ 140737488355328
theorem kl_four (d : Nat) (q : List UInt8 × List UInt8 × List UInt8 × List UInt8) (h : QOk q) : Tryd.prog.keyLits (d + 2) 40 (q4 q).toList = some [.string q.1, .string q.2.1, .string q.2.2.1, .string q.2.2.2] := by
  unfold Program.keyLits
  rw [Tryd.underlying40]
  simp only [Tryd.cells4, Tryd.cellsStr, q4]
  simp [List.range, List.range.loop, kl_str d _ h.a, kl_str d _ h.b, kl_str d _ h.c, kl_str d _ h.d]
theorem eq_four (q r : List UInt8 × List UInt8 × List UInt8 × List UInt8) (hq : QOk q) (hr : QOk r) (W : World) : (binOp .eql 40 (.agg (q4 q)) (.agg (q4 r))).run Tryd.prog W = .ok (.bool (decide (q = r))) W := by
  obtain ⟨b, hb, hiff⟩ := run_equalIn_deep (P := Tryd.prog) 9995 5 40 Tryd.key4 W 2 2 (.agg (q4 q)) (.agg (q4 r)) _ _ (by rfl) (by rfl) (kl_four 0 q hq) (kl_four 0 r hr)
  have e : b = decide (q = r) := by
    obtain ⟨q1, q2, q3, q5⟩ := q
    obtain ⟨r1, r2, r3, r5⟩ := r
    by_cases hh : (q1, q2, q3, q5) = (r1, r2, r3, r5)
    · rw [decide_eq_true hh]
      refine hiff.2 ?_
      simp only [Prod.mk.injEq] at hh
      obtain ⟨h1, h2, h3, h4⟩ := hh
      rw [h1, h2, h3, h4]
    · rw [decide_eq_false hh]
      cases b with
      | false => rfl
      | true =>
        have := hiff.1 rfl
        simp at this
        exact absurd (by obtain ⟨h1, h2, h3, h4⟩ := this; rw [h1, h2, h3, h4]) hh
  subst e
  simp only [binOp]
  simp [Op.equal, Op.maxDepth, hb]
theorem bq_ok (l : List UInt8) (hl : l.length ≤ 140737488355328) : QOk (bq l) := by
  have hb : (LC.bicB l).length ≤ 140737488355328 := by unfold LC.bicB; split <;> simp <;> omega
  unfold bq
  split
  · exact ⟨by simp; omega, by simp; omega, by simp; omega, hb⟩
  · exact ⟨by simp, by simp, by simp, by simp⟩
/-- Are two BICs the same? -/
def sbB (a b : List UInt8) : Bool := decide ((LC.formR a (LC.bicF a)).1 = 0) && (decide ((LC.formR b (LC.bicF b)).1 = 0) && decide (bq a = bq b))
set_option maxRecDepth 100000 in
set_option maxHeartbeats 2000000 in
theorem sameBic_any (a b : List UInt8) (w : World) (ha : a.length ≤ 140737488355328) (hb : b.length ≤ 140737488355328) :
    Calls Tryd.prog 21 #[.string ⟨a.toArray⟩, .string ⟨b.toArray⟩] w fun e w' => e = .returned (.bool (sbB a b)) ∧ Below w.heap.size w w' := by
  have ge := eq_four (bq a) (bq b) (bq_ok a ha) (bq_ok b hb)
  have H1 := LC.refBic_any a w ha
  have H2 := fun W : World => LC.refBic_any b W hb
  unfold sbB
  rw [bicV_q] at H1
  simp only [bicV_q] at H2
  obtain ⟨⟨pa, pb, pc, pd⟩, hp⟩ : ∃ q, bq a = q := ⟨_, rfl⟩
  obtain ⟨⟨qa, qb, qc, qd⟩, hq⟩ : ∃ q, bq b = q := ⟨_, rfl⟩
  obtain ⟨⟨e1, e2⟩, he⟩ : ∃ x, LC.formR a (LC.bicF a) = x := ⟨_, rfl⟩
  obtain ⟨⟨f1, f2⟩, hf⟩ : ∃ x, LC.formR b (LC.bicF b) = x := ⟨_, rfl⟩
  rw [hp, he] at H1
  rw [hq, hf] at H2
  rw [hp, hq] at ge ⊢
  rw [he, hf]
  dsimp only [q4] at H1 H2 ge ⊢
  have HA := hide H1
  have HB := hide H2
  obtain ⟨t, ht⟩ : ∃ t, decide ((pa, pb, pc, pd) = (qa, qb, qc, qd)) = t := ⟨_, rfl⟩
  rw [ht] at ge ⊢
  clear H1 H2 hp hq he hf ht
  go_enter Tryd.func21, Tryd.ntmps21
  go_wp2_with fail
  refine HA.out.mono ?_
  rintro e w1 ⟨rfl, hb1⟩
  have B1 := hide hb1
  obtain ⟨W2, hW2⟩ : ∃ W, w1.alloc (.cells #[.string ⟨#[]⟩, .string ⟨#[]⟩, .string ⟨#[]⟩, .string ⟨#[]⟩] 40) = W := ⟨_, rfl⟩
  have n2 : W2.heap[w1.heap.size]? = some (.cells #[.string ⟨#[]⟩, .string ⟨#[]⟩, .string ⟨#[]⟩, .string ⟨#[]⟩] 40 (0, 0)) := by rw [← hW2]; exact LC.alloc_new w1 _
  have B2 : Hid (Below w.heap.size w W2) := hide (by rw [← hW2]; exact hb1.alloc hb1.size _)
  obtain ⟨x0, x1, x2, x3, g0, g1, g2, g3⟩ := blk4 n2
  obtain ⟨W3, hW3⟩ : ∃ W, (((W2.setCell ⟨w1.heap.size, 0, none⟩ (.string ⟨pa.toArray⟩)).setCell ⟨w1.heap.size, 1, none⟩ (.string ⟨pb.toArray⟩)).setCell ⟨w1.heap.size, 2, none⟩ (.string ⟨pc.toArray⟩)).setCell ⟨w1.heap.size, 3, none⟩ (.string ⟨pd.toArray⟩) = W := ⟨_, rfl⟩
  have N3 : Hid (W3.heap[w1.heap.size]? = some (.cells #[.string ⟨pa.toArray⟩, .string ⟨pb.toArray⟩, .string ⟨pc.toArray⟩, .string ⟨pd.toArray⟩] 40 (0, 0))) := hide (by rw [← hW3]; exact s4_blk n2 _ _ _ _)
  have B3 : Hid (Below w.heap.size w W3) := hide (by rw [← hW3]; exact s4_below B2.out hb1.size _ _ _ _)
  clear n2 hb1 HA B1 B2
  go_wp2_with fail
  obtain ⟨b1, hb1⟩ : ∃ b, w1.heap.size = b := ⟨_, rfl⟩
  rw [hb1] at N3 ⊢
  clear hb1 hW2 hW3 x0 x1 x2 x3 g0 g1 g2 g3
  refine (HB.out _).mono ?_
  rintro e w4 ⟨rfl, hb4⟩
  obtain ⟨W5, hW5⟩ : ∃ W, w4.alloc (.cells #[.string ⟨#[]⟩, .string ⟨#[]⟩, .string ⟨#[]⟩, .string ⟨#[]⟩] 40) = W := ⟨_, rfl⟩
  have n5 : W5.heap[w4.heap.size]? = some (.cells #[.string ⟨#[]⟩, .string ⟨#[]⟩, .string ⟨#[]⟩, .string ⟨#[]⟩] 40 (0, 0)) := by rw [← hW5]; exact LC.alloc_new w4 _
  have hlt : b1 < w4.heap.size := Nat.lt_of_lt_of_le (Array.getElem?_eq_some_iff.1 N3.out).1 hb4.size
  have b5 : Below w4.heap.size w4 W5 := by rw [← hW5]; exact (Below.refl _ _).alloc (Nat.le_refl _) _
  have m5 := (b5.block _ hlt).trans ((hb4.block _ (Array.getElem?_eq_some_iff.1 N3.out).1).trans N3.out)
  have B5 := hide ((B3.out.trans (hb4.mono B3.out.size)).trans (b5.mono (B3.out.trans (hb4.mono B3.out.size)).size))
  have hsz : w.heap.size ≤ w4.heap.size := Nat.le_trans B3.out.size hb4.size
  obtain ⟨x0, x1, x2, x3, g0, g1, g2, g3⟩ := blk4 n5
  obtain ⟨W6, hW6⟩ : ∃ W, (((W5.setCell ⟨w4.heap.size, 0, none⟩ (.string ⟨qa.toArray⟩)).setCell ⟨w4.heap.size, 1, none⟩ (.string ⟨qb.toArray⟩)).setCell ⟨w4.heap.size, 2, none⟩ (.string ⟨qc.toArray⟩)).setCell ⟨w4.heap.size, 3, none⟩ (.string ⟨qd.toArray⟩) = W := ⟨_, rfl⟩
  have n6 : W6.heap[w4.heap.size]? = some (.cells #[.string ⟨qa.toArray⟩, .string ⟨qb.toArray⟩, .string ⟨qc.toArray⟩, .string ⟨qd.toArray⟩] 40 (0, 0)) := by rw [← hW6]; exact s4_blk n5 _ _ _ _
  have m6 : W6.heap[b1]? = some (.cells #[.string ⟨pa.toArray⟩, .string ⟨pb.toArray⟩, .string ⟨pc.toArray⟩, .string ⟨pd.toArray⟩] 40 (0, 0)) := by rw [← hW6]; exact (s4_other (W := W5) (by omega) _ _ _ _).trans m5
  have B6 : Hid (Below w.heap.size w W6) := hide (by rw [← hW6]; exact s4_below B5.out hsz _ _ _ _)
  obtain ⟨y0, y1, y2, y3, -, -, -, -⟩ := blk4 n6
  obtain ⟨z0, z1, z2, z3, -, -, -, -⟩ := blk4 m6
  clear n5 n6 m5 m6 hb4 b5 HB B3 N3 B5 hlt hsz
  by_cases h1 : e1 = 0
  · subst h1
    by_cases h2 : f1 = 0
    · subst h2
      go_wp2_with fail
      go_ret
      exact ⟨by simp, B6.out⟩
    · have k2 : (f1 == 0) = false := by simp [h2]
      go_wp2_with fail
      go_ret
      exact ⟨by simp, B6.out⟩
  · have k1 : (e1 == 0) = false := by simp [h1]
    go_wp2_with fail
    go_ret
    exact ⟨by simp [h1], B6.out⟩
/-- Is a party one of them, and this BIC its own? -/
def isB (bs : List (List UInt8)) (p : Int) (l : List UInt8) : Bool := if p < 0 then false else match bs[p.toNat]? with
  | some s => sbB s l
  | none => false
theorem is_any (v : Value) (bs : List (List UInt8)) (p : Int) (l : List UInt8) (w : World) (hv : RT w v bs) (hs : ∀ s ∈ bs, s.length ≤ 140737488355328) (hl : l.length ≤ 140737488355328) :
    Calls Tryd.prog 10 #[v, .int .i64 p, .string ⟨l.toArray⟩] w fun e w' => e = .returned (.bool (isB bs p l)) ∧ Below w.heap.size w w' := by
  obtain ⟨a, cap, rfl, hr⟩ := hv
  unfold isB
  by_cases h0 : p < 0
  · rw [if_pos h0]
    have d0 : decide (p ≥ 0) = false := decide_eq_false (by omega)
    go_enter Tryd.func10, Tryd.ntmps10
    go_wp2_with fail
    go_ret
    exact ⟨rfl, Below.refl _ _⟩
  · rw [if_neg h0]
    obtain ⟨j, rfl⟩ : ∃ j : Nat, p = (j : Int) := ⟨p.toNat, by omega⟩
    rw [Int.toNat_natCast]
    have d0 : decide ((j : Int) ≥ 0) = true := decide_eq_true (by omega)
    have e0 : (0 : Int) ≤ (j : Int) := by omega
    by_cases hj : j < bs.length
    · obtain ⟨s, hsj⟩ : ∃ s, bs[j]? = some s := ⟨_, List.getElem?_eq_getElem hj⟩
      obtain ⟨b, off, rfl, hbl, hc⟩ := hr.resolve_left (fun h => by rw [h] at hj; simp at hj)
      have c0 : w.cell? ⟨b, off + j, none⟩ = some (.string ⟨s.toArray⟩) := hc j s hsj
      have HC := hide (sameBic_any s l w (hs s (List.mem_of_getElem? hsj)) hl)
      rw [hsj]
      show Calls _ _ _ _ fun e w' => e = .returned (.bool (sbB s l)) ∧ _
      generalize sbB s l = t at *
      have d1 : decide ((j : Int) < (bs.length : Int)) = true := decide_eq_true (by omega)
      have e1 : (j : Int) < (bs.length : Int) := by omega
      clear hc hbl hsj hr hs
      go_enter Tryd.func10, Tryd.ntmps10
      go_wp2_with fail
      refine HC.out.mono ?_
      rintro e w2 ⟨rfl, hb2⟩
      have B2 := hide hb2
      clear hb2 HC
      go_wp2_with fail
      go_ret
      exact ⟨rfl, B2.out⟩
    · rw [List.getElem?_eq_none (by omega)]
      have d1 : decide ((j : Int) < (bs.length : Int)) = false := decide_eq_false (by omega)
      go_enter Tryd.func10, Tryd.ntmps10
      go_wp2_with fail
      go_ret
      exact ⟨rfl, Below.refl _ _⟩
end Go.Proofs.YtdfhfjkcafchiaaDoor
namespace Go.Proofs.YtdfhfjkcafchiaaDoor
open Go.RowKit LC

def I64 (x : Int) : Prop := -9223372036854775808 ≤ x ∧ x ≤ 9223372036854775807
def nrB (a b t : Int) : Bool := decide (0 ≤ t) && decide (max a b - min a b ≤ t)
theorem u64w (x : Int) : IntKind.u64.wrap x = x % 18446744073709551616 := by kernel_rfl
theorem u64_sub {a b : Int} (ha : I64 a) (hb : I64 b) (h : b ≤ a) : IntKind.u64.wrap (IntKind.u64.wrap a - IntKind.u64.wrap b) = a - b := by
  unfold I64 at ha hb
  rw [u64w, u64w, u64w]; omega
theorem u64_pos {t : Int} (ht : I64 t) (h : 0 ≤ t) : IntKind.u64.wrap t = t := by
  unfold I64 at ht
  rw [u64w]; omega
set_option maxHeartbeats 1000000 in
theorem rnear_any (a b t : Int) (w : World) (ha : I64 a) (hb : I64 b) (ht : I64 t) :
    Calls Tryd.prog 11 #[.int .i64 a, .int .i64 b, .int .i64 t] w fun e w' => e = .returned (.bool (nrB a b t)) ∧ Below w.heap.size w w' := by
  unfold nrB
  by_cases h0 : t < 0
  · have d0 : decide (t < 0) = true := decide_eq_true h0
    rw [decide_eq_false (by omega : ¬ 0 ≤ t)]
    go_enter Tryd.func11, Tryd.ntmps11
    go_wp2_with fail
    go_ret
    exact ⟨rfl, Below.refl _ _⟩
  · have d0 : decide (t < 0) = false := decide_eq_false h0
    have d0' : (0 : Int) ≤ t := by omega
    have u0 := u64_pos ht d0'
    rw [decide_eq_true d0', Bool.true_and]
    by_cases h1 : a < b
    · have d1 : decide (a < b) = true := decide_eq_true h1
      have u1 := u64_sub hb ha (by omega)
      have e1 : max a b - min a b = b - a := by omega
      rw [e1]
      have UU := hide (And.intro u0 u1)
      clear u0 u1
      go_enter Tryd.func11, Tryd.ntmps11
      go_wp2_with fail
      go_ret
      exact ⟨by rw [UU.out.1, UU.out.2]; rfl, Below.refl _ _⟩
    · have d1 : decide (a < b) = false := decide_eq_false h1
      have u1 := u64_sub ha hb (by omega)
      have e1 : max a b - min a b = a - b := by omega
      rw [e1]
      have UU := hide (And.intro u0 u1)
      clear u0 u1
      go_enter Tryd.func11, Tryd.ntmps11
      go_wp2_with fail
      go_ret
      exact ⟨by rw [UU.out.1, UU.out.2]; rfl, Below.refl _ _⟩
/-- What a notice is settled for. -/
def wth (n : Ntc) : Int := if n.py then n.amt else 0
theorem worth_any (n : Ntc) (v : Value) (w : World) (hn : NOk n) :
    Calls Tryd.prog 18 #[.agg (nC n v)] w fun e w' => e = .returned (.int .i64 (wth n)) ∧ Below w.heap.size w w' := by
  obtain ⟨W1, hW1⟩ : ∃ W, w.alloc (.cells (nC n v) 26) = W := ⟨_, rfl⟩
  have hx : Bx W1 w.heap.size n v := by rw [← hW1]; exact Bx.new w n v
  have HB : Hid (Below w.heap.size w W1) := hide (by rw [← hW1]; exact (Below.refl _ _).alloc (Nat.le_refl _) _)
  have c0 := hx.py hn.code
  have c1 := hx.amt hn.code
  unfold wth
  obtain ⟨N0, hN0⟩ : ∃ x, nC n v = x := ⟨_, rfl⟩
  rw [hN0] at hW1 ⊢
  clear hx hN0
  cases hp : n.py
  · rw [hp] at c0
    go_enter Tryd.func18, Tryd.ntmps18
    go_wp2_with fail
    go_ret
    exact ⟨rfl, HB.out⟩
  · rw [hp] at c0
    go_enter Tryd.func18, Tryd.ntmps18
    go_wp2_with fail
    go_ret
    exact ⟨rfl, HB.out⟩
end Go.Proofs.YtdfhfjkcafchiaaDoor
