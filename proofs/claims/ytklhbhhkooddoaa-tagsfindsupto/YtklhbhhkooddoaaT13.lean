/-
  My own text: fields and items put on a sheet.
-/
import Derived.Test.YtklhbhhkooddoaaT12
namespace Go.Proofs.Ytklhbhhkooddoaa
open Go.RowKit

theorem owns_alloc {B : Nat} {e : TypeId} {k : Nat} {v : Value} {n : Nat} {xs : List Value} {w : World} (h : w.ownsRow B e k v n xs) (o : Obj) : (w.alloc o).ownsRow B e k v n xs := h.alloc o
theorem Sh.later {w w' : World} {B b : Nat} {l : List UInt8} {n : Int} (h : Sh w B b l n) (hb : Below w.heap.size w w') : Sh w' B b l n := by
  obtain ⟨hB, p, v, hp, hn, hk, ho⟩ := h
  have hlt : b < w.heap.size := (Array.getElem?_eq_some_iff.1 hk).1
  refine ⟨hB, p, v, hp, hn, (hb.block b hlt).trans hk, owns_blk ho (fun g hg => ?_)⟩
  obtain ⟨c, fz, hc⟩ := owns_kind ho g hg
  exact hb.block g (Array.getElem?_eq_some_iff.1 hc).1
theorem ShT.later {w w' : World} {B b : Nat} {T : List UInt8} (h : ShT w B b T) (hb : Below w.heap.size w w') : ShT w' B b T := by
  obtain ⟨l, h1, h2, h3⟩ := h; exact ⟨l, h1.later hb, h2, h3⟩
theorem ShT.alloc {w : World} {B b : Nat} {T : List UInt8} (h : ShT w B b T) (o : Obj) : ShT (w.alloc o) B b T := h.later ((Below.refl w.heap.size w).alloc (Nat.le_refl _) o)
theorem ShT.lt {w : World} {B b : Nat} {T : List UInt8} (h : ShT w B b T) : b < w.heap.size := by obtain ⟨l, h1, _⟩ := h; exact h1.lt
theorem Kp.of_below {w w' : World} {B b : Nat} (hB : B ≤ w.heap.size) (h : Below w.heap.size w w') : Kp B b w w' :=
  ⟨h.mono hB, fun k _ hk _ _ => (h.block k (Array.getElem?_eq_some_iff.1 hk).1).trans hk⟩
theorem Ix.kp {w w' : World} {B b g : Nat} {i : Itm} {v : Value} (h : Ix w g i v) (hk : Kp B b w w') (hg : g ≠ b) : Ix w' g i v :=
  hk.2 g _ h (fun e => hg (Option.some.inj e)) (fun c fz e => by cases e)
theorem alloc2_new (w : World) (a b : Obj) : ((w.alloc a).alloc b).heap[w.heap.size + 1]? = some b := by
  have := alloc_new (w.alloc a) b
  simpa using this
set_option maxRecDepth 100000 in
set_option maxHeartbeats 4000000 in
theorem field_any (B b : Nat) (T : List UInt8) (i : Itm) (v : Value) (w : World) (h : ShT w B b T) (hBw : B ≤ w.heap.size) (hlen : (T ++ fT i).length ≤ 1099511627776) :
    Calls Try.prog 37 #[.pointer (some ⟨b, 0, none⟩), .agg (iC i v)] w fun e w' => e = .returned (.tuple #[]) ∧ ShT w' B b (T ++ fT i) ∧ Kp B b w w' := by
  have hbw := h.lt
  have HL : Hid (T.length + (6 + i.tag.length + i.qual.length + i.text.length) ≤ 1099511627776 ∨ i.qual = []) := by
    show _ ∨ _
    unfold fT at hlen
    cases hq : i.qual with
    | nil => exact .inr rfl
    | cons a r => rw [hq] at hlen; simp at hlen; left; simp; omega
  have HL2 : Hid (T.length + (3 + i.tag.length + i.text.length) ≤ 1099511627776) := by
    show _ ≤ _
    unfold fT at hlen
    rw [List.length_append] at hlen
    simp only [List.length_append, List.length_cons, List.length_nil] at hlen
    omega
  have X0 := hide (Ix.new w i v)
  have S0 := hide (h.alloc (.cells (iC i v) 26))
  have K0 := hide ((Kp.refl B b w).alloc hBw (.cells (iC i v) 26))
  have z0 := X0.out.tag trivial
  have HP1 := hide (put_any B b (w.heap.size + 1) T [[58], i.tag, [58]] ((w.alloc (.cells (iC i v) 26)).alloc (.cells (strs [[58], i.tag, [58]]) 9)) (S0.out.alloc _) (alloc2_new w _ _) (by omega) (by have := HL2.out; simp; omega) (by simp) (by simp; omega))
  have X1 := hide (X0.out.alloc (.cells (strs [[58], i.tag, [58]]) 9))
  have K1 := hide (K0.out.alloc (by simp; omega) (.cells (strs [[58], i.tag, [58]]) 9))
  clear h hlen
  go_enter Try.func37, Try.ntmps37
  go_wp2_with fail
  refine HP1.out.mono ?_
  rintro e w1 ⟨rfl, hs1, hk1⟩
  have S1 : Hid (ShT w1 B b (T ++ ([58] ++ i.tag ++ [58]))) := by simpa using hide hs1
  have X2 := hide (X1.out.kp hk1 (by omega))
  have K2 := hide (K1.out.trans hk1)
  have HB1 : Hid (B ≤ w1.heap.size) := by show _ ≤ _; have := K2.out.1.size; omega
  have HN1 : Hid (w.heap.size < w1.heap.size) := hide X2.out.lt
  clear hs1 hk1 X1 K1 HP1 S0 K0 X0 z0
  have hbn : b < w1.heap.size := S1.out.lt
  have zq := X2.out.qual trivial
  have zx := X2.out.text trivial
  cases hqe : i.qual.isEmpty
  · have hqb := bytes_nil_f hqe
    have HL3 : Hid (T.length + (6 + i.tag.length + i.qual.length + i.text.length) ≤ 1099511627776) := hide (HL.out.resolve_right (fun e => by rw [e] at hqe; cases hqe))
    have HP2 := hide (put_any B b w1.heap.size (T ++ ([58] ++ i.tag ++ [58])) [[58], i.qual, [47, 47]] (w1.alloc (.cells (strs [[58], i.qual, [47, 47]]) 9)) (S1.out.alloc _) (alloc_new w1 _) (by omega) (by have := HL3.out; simp; omega) (by simp) (by have := HB1.out; simp; omega))
    have X3 := hide (X2.out.alloc (.cells (strs [[58], i.qual, [47, 47]]) 9))
    have K3 := hide (K2.out.alloc HB1.out (.cells (strs [[58], i.qual, [47, 47]]) 9))
    go_wp2_with fail
    refine HP2.out.mono ?_
    rintro e w2 ⟨rfl, hs2, hk2⟩
    have S2 : Hid (ShT w2 B b (T ++ ([58] ++ i.tag ++ [58] ++ ([58] ++ i.qual ++ [47, 47])))) := by simpa using hide hs2
    have X4 := hide (X3.out.kp hk2 (by have := HN1.out; omega))
    have K4 := hide (K3.out.trans hk2)
    have HB2 : Hid (B ≤ w2.heap.size) := by show _ ≤ _; have := K4.out.1.size; omega
    clear hs2 hk2 X3 K3 HP2 zq zx
    have hbn2 : b < w2.heap.size := S2.out.lt
    have zx := X4.out.text trivial
    have HP3 := hide (put_any B b w2.heap.size (T ++ ([58] ++ i.tag ++ [58] ++ ([58] ++ i.qual ++ [47, 47]))) [i.text, [10]] (w2.alloc (.cells (strs [i.text, [10]]) 9)) (S2.out.alloc _) (alloc_new w2 _) (by omega) (by have := HL3.out; simp; omega) (by simp) (by have := HB2.out; simp; omega))
    have K5 := hide (K4.out.alloc HB2.out (.cells (strs [i.text, [10]]) 9))
    go_wp2_with fail
    refine HP3.out.mono ?_
    rintro e w3 ⟨rfl, hs3, hk3⟩
    have S3 : Hid (ShT w3 B b (T ++ fT i)) := by
      have e : T ++ fT i = T ++ ([58] ++ i.tag ++ [58] ++ ([58] ++ i.qual ++ [47, 47])) ++ [i.text, [10]].flatten := by unfold fT; rw [hqe]; simp
      rw [e]; exact hide hs3
    have K6 := hide (K5.out.trans hk3)
    clear hs3 hk3
    go_wp2_with fail
    go_end0
    exact ⟨rfl, S3.out, K6.out⟩
  · have hqb := bytes_nil_t hqe
    have HP3 := hide (put_any B b w1.heap.size (T ++ ([58] ++ i.tag ++ [58])) [i.text, [10]] (w1.alloc (.cells (strs [i.text, [10]]) 9)) (S1.out.alloc _) (alloc_new w1 _) (by omega) (by have := HL2.out; simp; omega) (by simp) (by have := HB1.out; simp; omega))
    have K5 := hide (K2.out.alloc HB1.out (.cells (strs [i.text, [10]]) 9))
    go_wp2_with fail
    refine HP3.out.mono ?_
    rintro e w3 ⟨rfl, hs3, hk3⟩
    have S3 : Hid (ShT w3 B b (T ++ fT i)) := by
      have e : T ++ fT i = T ++ ([58] ++ i.tag ++ [58]) ++ [i.text, [10]].flatten := by unfold fT; rw [hqe]; simp
      rw [e]; exact hide hs3
    have K6 := hide (K5.out.trans hk3)
    clear hs3 hk3
    go_wp2_with fail
    go_end0
    exact ⟨rfl, S3.out, K6.out⟩
end Go.Proofs.Ytklhbhhkooddoaa
