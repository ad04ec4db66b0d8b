/-
  My own text: a text of the last item set anew; the lines of a text.
-/
import Derived.Test.YtklhbhhkooddoaaQ8
namespace Go.Proofs.Ytklhbhhkooddoaa
open Go.RowKit

def Tr.withText (a : Tr) (t : List UInt8) : Tr := .mk { a.itm with text := t } a.kids
theorem IW.text {w : World} {B g cap : Nat} {l : List Tr} {a : Tr} {V : List Value} {u : Value} (h : IW w B (.slice (some ⟨g, 0, none⟩) (l.length + 1) cap) (l ++ [a]) (V ++ [u])) (t : List UInt8) :
    IW (w.setCell ⟨g, l.length * 5 + 2, none⟩ (.string ⟨t.toArray⟩)) B (.slice (some ⟨g, 0, none⟩) (l.length + 1) cap) (l ++ [a.withText t]) (V ++ [u]) := by
  have hl : l.length = V.length := by have := h.len; simp at this; omega
  have hO := own_set h.row (g := g) rfl (l.length * 5 + 2) (.string ⟨t.toArray⟩)
  have he : (ic (l ++ [a]) (V ++ [u])).set (l.length * 5 + 2) (.string ⟨t.toArray⟩) = ic (l ++ [a.withText t]) (V ++ [u]) := by
    rw [ic_snoc _ _ _ _ hl, ic_snoc _ _ _ _ hl, List.set_append_right _ _ (by rw [ic_len _ _ hl]; omega), ic_len _ _ hl, Nat.add_sub_cancel_left]
    rfl
  rw [he] at hO
  refine ⟨by simp [h.len, hl], by simpa using hO, fun j b x h1 h2 => ?_⟩
  have key : ∀ (c : Tr), (l ++ [a])[j]? = some c → c.kids = b.kids → PT (w.setCell ⟨g, l.length * 5 + 2, none⟩ (.string ⟨t.toArray⟩)) (SQ B (w.setCell ⟨g, l.length * 5 + 2, none⟩ (.string ⟨t.toArray⟩)) (.slice (some ⟨g, 0, none⟩) (l.length + 1) cap)) x b.kids := fun c hc hk => by
    rw [← hk]
    exact PT_kept (fun k hk' _ => Below.heap_setCell w _ _ k (fun e => hk'.2.2 (by rw [e]; rfl))) (by simp [World.setCell]) (fun k hk' _ => ⟨hk'.1, by simpa [World.setCell] using hk'.2.1, hk'.2.2⟩) _ _ _ (Nat.le_refl _) (h.kids j c x hc h2)
  by_cases hj : j < l.length
  · rw [List.getElem?_append_left hj] at h1
    exact key b (by rw [List.getElem?_append_left hj]; exact h1) rfl
  · rw [List.getElem?_append_right (by omega)] at h1
    have hj0 : j - l.length = 0 := by have := (List.getElem?_eq_some_iff.1 h1).1; simp at this; omega
    rw [hj0] at h1; simp at h1; subst h1
    exact key a (by rw [List.getElem?_append_right (by omega), hj0]; rfl) rfl
set_option maxRecDepth 100000 in
set_option maxHeartbeats 1000000 in
theorem lines_any (T : List UInt8) (w : World) :
    Calls Try.prog 40 #[.string ⟨T.toArray⟩] w fun e w' => e = .returned (.func (Fn.func 45) #[] #[.pointer (some ⟨w.heap.size + 2, 0, none⟩), .pointer (some ⟨w.heap.size, 0, none⟩), .pointer (some ⟨w.heap.size + 1, 0, none⟩)]) ∧ NS w' (w.heap.size + 2) w.heap.size (w.heap.size + 1) T 1 0 ∧ Below w.heap.size w w' := by
  have hmf : ∀ (fn : Fn) (first cap : Array Value) (w : World), (Instr.makeFunc fn first cap).run Try.prog w = .ok (.func fn first cap) w := fun _ _ _ _ => rfl
  go_enter Try.func40, Try.ntmps40
  go_wp2_with fail
  go_ret
  refine ⟨rfl, ⟨?_, ?_, ?_⟩, ((((Below.refl _ _).alloc (Nat.le_refl _) _).alloc (by simp) _).alloc (by simp; omega) _)⟩
  · have := alloc_new ((w.alloc (.cells #[.string ⟨T.toArray⟩] 9)).alloc (.cells #[.int .i64 1] 3)) (.cells #[.int .i64 0] 3)
    unfold Bk
    simpa using this
  · exact alloc_block (alloc_block (alloc_new w _))
  · exact alloc_block (alloc2_newq w _ _)
/-- What a reading comes to: items, and where it stands; or a fault. -/
inductive Res where
  | ok (l : List Tr) (n b : Nat)
  | bad (no n at_ : Int)
/-- The reading of a text in so many blocks, the innermost of this name. -/
def rd (T : List UInt8) : Nat → Nat → List UInt8 → List Tr → Nat → Nat → Res
  | 0, _, _, _, _, _ => .bad 0 0 0
  | f + 1, d, nm, l, n, b =>
    if b = T.length then (if 0 < d then .bad 2 n 1 else .ok l n b)
    else match chkE ⟨n, b, ownL T b, endL T b⟩ with
      | some (no, at_) => .bad no n at_
      | none =>
        if (ownL T b).getD 0 0 ≠ 58 then
          (if (ownL T b).getD 0 0 = 45 then .bad 4 n 1
           else match l.getLast? with
             | none => .bad 4 n 1
             | some a => if a.itm.tag.isEmpty then .bad 4 n 1 else rd T f d nm (l.dropLast ++ [a.withText (a.itm.text ++ 10 :: ownL T b)]) (n + 1) (nxtB T b))
        else if !(Lib.cut ((ownL T b).drop 1) [58]).2.2 then .bad 4 n ((ownL T b).length + 1)
        else if (Lib.cut ((ownL T b).drop 1) [58]).1 = r16 then
          (if 8 ≤ d then .bad 5 n 1
           else if !nameB (Lib.cut ((ownL T b).drop 1) [58]).2.1 then .bad 4 n ((ownL T b).length - (Lib.cut ((ownL T b).drop 1) [58]).2.1.length + 1)
           else match rd T f (d + 1) (Lib.cut ((ownL T b).drop 1) [58]).2.1 [] (n + 1) (nxtB T b) with
             | .bad no m at_ => .bad no m at_
             | .ok k n' b' => rd T f d nm (l ++ [.mk ⟨[], [], [], (Lib.cut ((ownL T b).drop 1) [58]).2.1⟩ k]) n' b')
        else if (Lib.cut ((ownL T b).drop 1) [58]).1 = s16 then
          (if d = 0 then .bad 10 n 1
           else if (Lib.cut ((ownL T b).drop 1) [58]).2.1 ≠ nm then .bad 4 n ((ownL T b).length - (Lib.cut ((ownL T b).drop 1) [58]).2.1.length + 1)
           else .ok l (n + 1) (nxtB T b))
        else match fldO (Lib.cut ((ownL T b).drop 1) [58]).1 (Lib.cut ((ownL T b).drop 1) [58]).2.1 (ownL T b).length with
          | some (no, at_) => .bad no n at_
          | none => rd T f d nm (l ++ [.mk (fldI (Lib.cut ((ownL T b).drop 1) [58]).1 (Lib.cut ((ownL T b).drop 1) [58]).2.1) []]) (n + 1) (nxtB T b)
end Go.Proofs.Ytklhbhhkooddoaa
