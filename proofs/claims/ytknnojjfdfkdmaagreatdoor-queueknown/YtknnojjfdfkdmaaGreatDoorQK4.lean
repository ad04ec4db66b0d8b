/-
  My own text: QK1, QK4 in one.
-/
import Derived.Test.YtknnojjfdfkdmaaGreatDoorQE3
import Derived.Test.YtknnojjfdfkdmaaGreatDoorQIS
import Derived.Test.YtknnojjfdfkdmaaGreatDoorQK2
import Derived.Test.YtknnojjfdfkdmaaGreatDoorQK3
import Derived.Test.YtknnojjfdfkdmaaGreatDoorQF4
namespace Go.Proofs.YtknnojjfdfkdmaaGreatDoor
open Go.RowKit Go.Extern Go.MapKept Go.ChangeMaps

/-- A queue of room 3 that holds E, all of it behind w0. -/
def KQ (w0 w : World) (q : Nat) (E : List De) : Prop := ∃ O Z, QS O w q Z ∧ RelD Z E ∧ Z.room = 3 ∧ Z.n ≤ (E.length : Int) ∧ (∀ g, O g → w0.heap.size ≤ g) ∧ Below w0.heap.size w0 w
section
variable {w0 w w1 w' : World} {q : Nat} {E E' : List De}
theorem KQ.bl (h : KQ w0 w q E) : Below w0.heap.size w0 w := by obtain ⟨O, Z, _, _, _, _, _, h⟩ := h; exact h
theorem KQ.later (h : KQ w0 w q E) (hb : Below w.heap.size w w') : KQ w0 w' q E := by
  obtain ⟨O, Z, h1, h2, h3, h4, h5, h6⟩ := h
  exact ⟨O, Z, h1.later hb, h2, h3, h4, h5, h6.trans (hb.mono h6.size)⟩
theorem KQ.qto {O : Nat → Prop} {Z' : Qx} (h0 : ∀ g, O g → w0.heap.size ≤ g) (hb : Below w0.heap.size w0 w) (hq : QTo O w w' q Z') (hrel : RelD Z' E') (hr : Z'.room = 3) (hn : Z'.n ≤ (E'.length : Int)) : KQ w0 w' q E' := by
  obtain ⟨O', q1, q2, q3⟩ := hq
  exact ⟨O', Z', q1, hrel, hr, hn, fun g hg => (q2 g hg).elim (h0 g) (fun e => Nat.le_trans hb.size e), fo_below hb q3 h0⟩
theorem KQ.new (w : World) : Calls Tryz.prog 6 #[.int .i64 3] w fun e w' => ∃ q, e = .returned (.pointer (some ⟨q, 0, none⟩)) ∧ KQ w w' q [] := by
  refine (newQ_any 3 w).mono ?_
  rintro e w' ⟨q, Z, O, rfl, h1, h2, h3, h4, h5, h6, _⟩
  refine ⟨q, rfl, O, Z, h1, ⟨by rw [h5]; rfl, fun j x p hj => by rw [h5] at hj; cases hj⟩, by rw [h4]; rfl, by rw [h6]; exact Int.le_refl _, h2, h3⟩
theorem KQ.put (h : KQ w0 w q E) {id : Int} {v : Value} {K : List Ky} (hid : IOK id) (hv : KY.RM w v K) (hl : K.length ≤ 10) (hK : ∀ k ∈ K, KOK k) (hno : ∀ p ∈ E, p.id ≠ id) (hlen : E.length < 3) :
    Calls Tryz.prog 8 #[.pointer (some ⟨q, 0, none⟩), .int .i64 id, v] w fun e w' => e = .returned .nilIface ∧ KQ w0 w' q (E ++ [⟨id, K, none, 0, 0, false⟩]) := by
  obtain ⟨O, Z, h1, h2, h3, h4, h5, h6⟩ := h
  have hlen2 := h2.len
  refine (putQ_any O q id v K Z w h1 hid hv (by omega) hK (by omega)).mono ?_
  rintro e w' (⟨hin, _⟩ | ⟨_, hf, _⟩ | ⟨_, _, rfl, Z', x, K', kv', hq, hr, hn', hA, hT, hx, hTx, hK'⟩)
  · obtain ⟨p, hp, hi⟩ := (h2.has id).1 hin
    exact absurd hi (hno p hp)
  · omega
  · exact ⟨rfl, KQ.qto h5 h6 hq (h2.put hA hT (by rw [hTx]; exact ⟨rfl, hK', rfl, rfl⟩)) (by rw [hr]; exact h3) (by rw [hn', List.length_append]; show _ ≤ ((E.length + 1 : Nat) : Int); omega)⟩
theorem KQ.full (h : KQ w0 w q E) {id : Int} {v : Value} {K : List Ky} (hid : IOK id) (hv : KY.RM w v K) (hl : K.length ≤ 10) (hK : ∀ k ∈ K, KOK k) (hno : ∀ p ∈ E, p.id ≠ id) (hlen : E.length = 3) :
    Calls Tryz.prog 8 #[.pointer (some ⟨q, 0, none⟩), .int .i64 id, v] w fun e w' => e = .returned (er 20) ∧ KQ w0 w' q E := by
  obtain ⟨O, Z, h1, h2, h3, h4, h5, h6⟩ := h
  have hlen2 := h2.len
  refine (putQ_any O q id v K Z w h1 hid hv (by omega) hK (by omega)).mono ?_
  rintro e w' (⟨hin, _⟩ | ⟨_, hf, rfl, hq⟩ | ⟨_, hf, _⟩)
  · obtain ⟨p, hp, hi⟩ := (h2.has id).1 hin
    exact absurd hi (hno p hp)
  · exact ⟨rfl, KQ.qto h5 h6 hq h2 h3 h4⟩
  · omega
theorem KQ.twice (h : KQ w0 w q E) {id : Int} {v : Value} {K : List Ky} (hid : IOK id) (hv : KY.RM w v K) (hl : K.length ≤ 10) (hK : ∀ k ∈ K, KOK k) (hin : ∃ p ∈ E, p.id = id) (hlen : E.length ≤ 3) :
    Calls Tryz.prog 8 #[.pointer (some ⟨q, 0, none⟩), .int .i64 id, v] w fun e w' => e = .returned (er 11) ∧ KQ w0 w' q E := by
  obtain ⟨O, Z, h1, h2, h3, h4, h5, h6⟩ := h
  refine (putQ_any O q id v K Z w h1 hid hv (by omega) hK (by omega)).mono ?_
  obtain ⟨x, hx, hi⟩ := (h2.has id).2 hin
  rintro e w' (⟨_, rfl, hq⟩ | ⟨hno, _⟩ | ⟨hno, _⟩)
  · exact ⟨rfl, KQ.qto h5 h6 hq h2 h3 h4⟩
  · exact absurd hi (hno x hx)
  · exact absurd hi (hno x hx)
theorem KQ.touch (h : KQ w0 w q E) (hb : Below w.heap.size w w1) {v : Value} {K : List Ky} (hv : KY.RM w1 v K) (hl : K.length ≤ 10) (hK : ∀ k ∈ K, KOK k) (hfr : ∀ g, v.ownBlock = some g → w.heap.size ≤ g) :
    Calls Tryz.prog 10 #[.pointer (some ⟨q, 0, none⟩), v] w1 fun e w' => e = .returned (.int .i64 (ctD K E E.length : Int)) ∧ KQ w0 w' q (E.map (tcD K)) := by
  obtain ⟨O, Z, h1, h2, h3, h4, h5, h6⟩ := h
  refine (touchQ_any O q v K Z w1 (h1.later hb) hv (by omega) hK (fun _ g hg hO => by have := h1.lt g hO; have := hfr g hg; omega)).mono ?_
  rintro e w' ⟨Z', rfl, hq, hr, hn, hA, hT⟩
  have hrel := h2.touch (K := K) hA hT
  have hok' : Ok Z' := by obtain ⟨O', q1, _⟩ := hq; exact q1.ok
  exact ⟨by rw [RelD.touched h1.ok hok' h2 hrel], KQ.qto h5 (h6.trans (hb.mono h6.size)) hq hrel (by rw [hr]; exact h3) (by rw [hn, List.length_map]; exact h4)⟩
theorem KQ.take (h : KQ w0 w q E) {k : Nat} {p : De} (hp : E[k]? = some p) (hi : p.is = 1) (hf : ∀ j q', j < k → E[j]? = some q' → q'.is ≠ 1) :
    Calls Tryz.prog 11 #[.pointer (some ⟨q, 0, none⟩)] w fun e w' => e = .returned (.tuple #[.int .i64 p.id, .bool true]) ∧ KQ w0 w' q (E.set k { p with is := 2, tc := false }) := by
  obtain ⟨O, Z, h1, h2, h3, h4, h5, h6⟩ := h
  obtain ⟨x, t, r1, r2, r3⟩ := h2.rd1 h1.ok hp hi hf
  refine (takeQ_any O q Z w h1).mono ?_
  rintro e w' (⟨h0, _⟩ | ⟨y, t', Z', h0, hy, rfl, hq, hr, hn, hA, hT⟩)
  · rw [r1] at h0; cases h0
  · rw [r1] at h0
    injection h0 with h0 _
    subst h0
    exact ⟨by rw [r3.id], KQ.qto h5 h6 hq (h2.upd h1.ok hA hT r2 ⟨r3.id, r3.ks, rfl, rfl⟩) (by rw [hr]; exact h3) (by rw [hn, List.length_set]; exact h4)⟩
theorem KQ.back (h : KQ w0 w q E) {id : Int} (hid : IOK id) {k : Nat} {p : De} (hp : E[k]? = some p) (hi : p.id = id) (hs : p.is = 2) :
    Calls Tryz.prog 13 #[.pointer (some ⟨q, 0, none⟩), .int .i64 id] w fun e w' => e = .returned (.bool p.tc) ∧ KQ w0 w' q (E.set k { p with is := if p.tc = true then 1 else 0 }) := by
  obtain ⟨O, Z, h1, h2, h3, h4, h5, h6⟩ := h
  obtain ⟨x, hx, hrl⟩ := h2.got hp
  have hxA := List.mem_of_getElem? hx
  refine (backQ_any O q id Z w h1 hid).mono ?_
  rintro e w' (⟨hno, _⟩ | ⟨x', Z', hx', hi'', hst, rfl, hq, hr, hn, hA, hT⟩)
  · exact absurd (hrl.st.trans hs) (hno x hxA (by rw [hrl.id, hi]))
  · have hxx : x' = x := h1.ok.one hx' hxA (by rw [hi'', hrl.id, hi])
    subst hxx
    exact ⟨by rw [hrl.tc], KQ.qto h5 h6 hq (h2.upd h1.ok hA hT hx ⟨hrl.id, hrl.ks, by dsimp only; rw [hrl.tc], hrl.tc⟩) (by rw [hr]; exact h3) (by rw [hn, List.length_set]; exact h4)⟩
theorem KQ.backNo (h : KQ w0 w q E) {id : Int} (hid : IOK id) (hno : ∀ p ∈ E, p.id = id → p.is ≠ 2) :
    Calls Tryz.prog 13 #[.pointer (some ⟨q, 0, none⟩), .int .i64 id] w fun e w' => e = .returned (.bool false) ∧ KQ w0 w' q E := by
  obtain ⟨O, Z, h1, h2, h3, h4, h5, h6⟩ := h
  refine (backQ_any O q id Z w h1 hid).mono ?_
  rintro e w' (⟨_, rfl, hq⟩ | ⟨x', Z', hx', hi'', hst, _⟩)
  · exact ⟨rfl, KQ.qto h5 h6 hq h2 h3 h4⟩
  · obtain ⟨j', hj'⟩ := List.getElem?_of_mem hx'
    obtain ⟨p', hp', hr'⟩ := h2.get hj'
    exact absurd (by rw [← hr'.st]; exact hst) (hno p' (List.mem_of_getElem? hp') (by rw [← hr'.id]; exact hi''))
theorem KQ.idle (h : KQ w0 w q E) (n : Nat) (hn : ((E.filter fun e => e.is == 0).map (·.id)).length = n) :
    Calls Tryz.prog 12 #[.pointer (some ⟨q, 0, none⟩)] w fun e w' => ∃ a c, e = .returned (.slice a n c) ∧ KQ w0 w' q E := by
  have h' := h
  obtain ⟨O, Z, h1, h2, h3, h4, h5, h6⟩ := h
  refine (idleQ_any O q Z w h1).mono ?_
  rintro e w' ⟨v', rfl, ho, hb⟩
  obtain ⟨a, c, hv⟩ := ho.slc
  rw [h2.idles, idD_all, hn] at hv
  exact ⟨a, c, by rw [hv], h'.later hb⟩
theorem KQ.items (h : KQ w0 w q E) (L : List Int) (hL : E.map (·.id) = L) :
    Calls Tryz.prog 15 #[.pointer (some ⟨q, 0, none⟩)] w fun e w' => ∃ v, e = .returned v ∧ IN.RM w' v L ∧ KQ w0 w' q E := by
  have h' := h
  obtain ⟨O, Z, h1, h2, h3, h4, h5, h6⟩ := h
  refine (itemsQ_any O q Z w h1).mono ?_
  rintro e w' ⟨v', rfl, ho, hb⟩
  rw [h2.items, idD_all, List.filter_eq_self.2 (fun _ _ => rfl), hL] at ho
  exact ⟨v', rfl, IN.OM.rb ho, h'.later hb⟩
end
end Go.Proofs.YtknnojjfdfkdmaaGreatDoor
namespace Go.Proofs.YtknnojjfdfkdmaaGreatDoor
open Go.RowKit Go.Extern Go.MapKept Go.ChangeMaps

def kLit (w : World) : List Obj := [.cells #[.int .i64 1, .int .i64 0] 23,
  .cells #[.int .i64 0, .int .i64 1] 23,
  .cells #[.int .i64 1, .int .i64 1] 23,
  .cells #[.int .i64 1, .int .i64 0, .int .i64 0, .int .i64 1] 23,
  .cells #[.int .i64 1, .int .i64 1] 23,
  .cells #[.int .i64 0, .int .i64 1] 23,
  .cells #[.int .i64 1, .int .i64 1] 23,
  .cells #[.int .i64 1, .int .i64 0] 23,
  .cells #[.int .i64 0, .int .i64 1] 23,
  .cells #[.int .i64 0, .int .i64 1, .int .i64 1, .int .i64 0] 23,
  .cells #[.int .i64 1, .int .i64 0, .int .i64 1, .int .i64 1] 23,
  .cells #[.int .i64 1, .int .i64 0] 23,
  .cells #[.int .i64 1, .int .i64 0] 23,
  .cells #[.int .i64 0, .int .i64 0, .int .i64 7, .slice (some ⟨w.heap.size + 1 + 1 + 1, 0, none⟩) 2 2, .int .i64 0, .int .i64 0, .int .i64 7, .slice (some ⟨w.heap.size + 1 + 1 + 1 + 1, 0, none⟩) 1 1, .int .i64 0, .int .i64 0, .int .i64 5, .slice (some ⟨w.heap.size + 1 + 1 + 1 + 1 + 1, 0, none⟩) 1 1, .int .i64 0, .int .i64 0, .int .i64 9, .slice (some ⟨w.heap.size + 1 + 1 + 1 + 1 + 1 + 1, 0, none⟩) 1 1, .int .i64 0, .int .i64 0, .int .i64 1, .slice (some ⟨w.heap.size + 1 + 1 + 1 + 1 + 1 + 1 + 1, 0, none⟩) 1 1, .int .i64 0, .int .i64 0, .int .i64 7, .slice none 0 0, .int .i64 0, .int .i64 2, .int .i64 0, .slice none 0 0, .int .i64 0, .int .i64 1, .int .i64 0, .slice none 0 0, .int .i64 0, .int .i64 1, .int .i64 0, .slice (some ⟨w.heap.size + 1 + 1 + 1 + 1 + 1 + 1 + 1 + 1, 0, none⟩) 1 1, .int .i64 0, .int .i64 1, .int .i64 0, .slice (some ⟨w.heap.size + 1 + 1 + 1 + 1 + 1 + 1 + 1 + 1 + 1, 0, none⟩) 2 2, .int .i64 0, .int .i64 7, .int .i64 0, .slice none 0 0, .int .i64 0, .int .i64 6, .int .i64 0, .slice none 0 0, .int .i64 0, .int .i64 2, .int .i64 0, .slice none 0 0, .int .i64 0, .int .i64 1, .int .i64 0, .slice (some ⟨w.heap.size + 1 + 1 + 1 + 1 + 1 + 1 + 1 + 1 + 1 + 1, 0, none⟩) 2 2, .int .i64 0, .int .i64 7, .int .i64 0, .slice none 0 0, .int .i64 0, .int .i64 3, .int .i64 7, .slice none 0 0, .int .i64 0, .int .i64 3, .int .i64 7, .slice none 0 0, .int .i64 0, .int .i64 3, .int .i64 5, .slice none 0 0, .int .i64 0, .int .i64 2, .int .i64 0, .slice none 0 0, .int .i64 0, .int .i64 2, .int .i64 0, .slice none 0 0, .int .i64 0, .int .i64 3, .int .i64 7, .slice none 0 0, .int .i64 0, .int .i64 2, .int .i64 0, .slice none 0 0, .int .i64 0, .int .i64 2, .int .i64 0, .slice none 0 0, .int .i64 0, .int .i64 4, .int .i64 5, .slice none 0 0, .int .i64 0, .int .i64 3, .int .i64 5, .slice none 0 0, .int .i64 0, .int .i64 4, .int .i64 5, .slice none 0 0, .int .i64 0, .int .i64 0, .int .i64 5, .slice (some ⟨w.heap.size + 1 + 1 + 1 + 1 + 1 + 1 + 1 + 1 + 1 + 1 + 1, 0, none⟩) 1 1, .int .i64 0, .int .i64 6, .int .i64 0, .slice none 0 0, .int .i64 0, .int .i64 5, .int .i64 0, .slice none 0 0, .int .i64 0, .int .i64 1, .int .i64 0, .slice (some ⟨w.heap.size + 1 + 1 + 1 + 1 + 1 + 1 + 1 + 1 + 1 + 1 + 1 + 1, 0, none⟩) 1 1, .int .i64 0, .int .i64 7, .int .i64 0, .slice none 0 0, .int .i64 0, .int .i64 4, .int .i64 9, .slice none 0 0, .int .i64 0, .int .i64 4, .int .i64 8, .slice none 0 0, .int .i64 0, .int .i64 5, .int .i64 0, .slice none 0 0, .int .i64 0, .int .i64 0, .int .i64 0, .slice none 0 0, .int .i64 0, .int .i64 0, .int .i64 (-9223372036854775808), .slice none 0 0, .int .i64 0, .int .i64 4, .int .i64 0, .slice none 0 0] 26]
def kOps (w : World) : List Oq := [⟨0, 0, 7, [(1, 0), (0, 1)], some ⟨w.heap.size + 1 + 1 + 1, 0, none⟩, 2⟩,
  ⟨0, 0, 7, [(1, 1)], some ⟨w.heap.size + 1 + 1 + 1 + 1, 0, none⟩, 1⟩,
  ⟨0, 0, 5, [(0, 1)], some ⟨w.heap.size + 1 + 1 + 1 + 1 + 1, 0, none⟩, 1⟩,
  ⟨0, 0, 9, [(1, 1)], some ⟨w.heap.size + 1 + 1 + 1 + 1 + 1 + 1, 0, none⟩, 1⟩,
  ⟨0, 0, 1, [(1, 0)], some ⟨w.heap.size + 1 + 1 + 1 + 1 + 1 + 1 + 1, 0, none⟩, 1⟩,
  ⟨0, 0, 7, [], none, 0⟩,
  ⟨0, 2, 0, [], none, 0⟩,
  ⟨0, 1, 0, [], none, 0⟩,
  ⟨0, 1, 0, [(0, 1)], some ⟨w.heap.size + 1 + 1 + 1 + 1 + 1 + 1 + 1 + 1, 0, none⟩, 1⟩,
  ⟨0, 1, 0, [(0, 1), (1, 0)], some ⟨w.heap.size + 1 + 1 + 1 + 1 + 1 + 1 + 1 + 1 + 1, 0, none⟩, 2⟩,
  ⟨0, 7, 0, [], none, 0⟩,
  ⟨0, 6, 0, [], none, 0⟩,
  ⟨0, 2, 0, [], none, 0⟩,
  ⟨0, 1, 0, [(1, 0), (1, 1)], some ⟨w.heap.size + 1 + 1 + 1 + 1 + 1 + 1 + 1 + 1 + 1 + 1, 0, none⟩, 2⟩,
  ⟨0, 7, 0, [], none, 0⟩,
  ⟨0, 3, 7, [], none, 0⟩,
  ⟨0, 3, 7, [], none, 0⟩,
  ⟨0, 3, 5, [], none, 0⟩,
  ⟨0, 2, 0, [], none, 0⟩,
  ⟨0, 2, 0, [], none, 0⟩,
  ⟨0, 3, 7, [], none, 0⟩,
  ⟨0, 2, 0, [], none, 0⟩,
  ⟨0, 2, 0, [], none, 0⟩,
  ⟨0, 4, 5, [], none, 0⟩,
  ⟨0, 3, 5, [], none, 0⟩,
  ⟨0, 4, 5, [], none, 0⟩,
  ⟨0, 0, 5, [(1, 0)], some ⟨w.heap.size + 1 + 1 + 1 + 1 + 1 + 1 + 1 + 1 + 1 + 1 + 1, 0, none⟩, 1⟩,
  ⟨0, 6, 0, [], none, 0⟩,
  ⟨0, 5, 0, [], none, 0⟩,
  ⟨0, 1, 0, [(1, 0)], some ⟨w.heap.size + 1 + 1 + 1 + 1 + 1 + 1 + 1 + 1 + 1 + 1 + 1 + 1, 0, none⟩, 1⟩,
  ⟨0, 7, 0, [], none, 0⟩,
  ⟨0, 4, 9, [], none, 0⟩,
  ⟨0, 4, 8, [], none, 0⟩,
  ⟨0, 5, 0, [], none, 0⟩,
  ⟨0, 0, 0, [], none, 0⟩,
  ⟨0, 0, -9223372036854775808, [], none, 0⟩,
  ⟨0, 4, 0, [], none, 0⟩]
theorem at_world {P : Program} {C : Code} {Q : Exit → Act → World → Prop} {A : Act} {w : World} (L : List Obj) (h : ∀ W, als w L = W → C.wp P Q A W) : C.wp P Q A (als w L) := h _ rfl
theorem KOp.lit {W : World} {a b c : Int} {K : List Ky} {g n : Nat} {A : Array Value} (hg : W.heap[g]? = some (.cells A 23 (0, 0))) (hA : A = (KY.mc K).toArray) (hl : K.length ≤ 10) (hn : K.length ≤ n) (hk : ∀ k ∈ K, KOK k) (hi : IOK c) : KOp W ⟨a, b, c, K, some ⟨g, 0, none⟩, n⟩ := by
  subst hA
  refine ⟨.inr ⟨g, 0, _, rfl, hg, fun j k hj => ?_⟩, hn, hl, hk, hi⟩
  have := KY.mc_at hj
  simpa using this
theorem kokE {K : List Ky} (h : (K.all fun k => (Lit.int .i64 k.1).wf && (Lit.int .i64 k.2).wf) = true) : ∀ k ∈ K, KOK k := fun k hk => by
  have := List.all_eq_true.1 h k hk
  rw [Bool.and_eq_true] at this
  exact this
theorem kLit_at (w : World) (j : Nat) {o : Obj} (h : (kLit w)[j]? = some o) (g : Nat) (hg : w.heap.size + j = g) : (als w (kLit w)).heap[g]? = some o := by rw [← hg]; exact als_at w _ h
theorem kOps_ok (w : World) : ∀ p ∈ kOps w, KOp (als w (kLit w)) p := by
  intro p hp
  simp only [kOps, List.mem_cons, List.not_mem_nil, or_false] at hp
  rcases hp with rfl | rfl | rfl | rfl | rfl | rfl | rfl | rfl | rfl | rfl | rfl | rfl | rfl | rfl | rfl | rfl | rfl | rfl | rfl | rfl | rfl | rfl | rfl | rfl | rfl | rfl | rfl | rfl | rfl | rfl | rfl | rfl | rfl | rfl | rfl | rfl | rfl
  · exact KOp.lit (kLit_at w 3 rfl _ rfl) rfl (by decide) (Nat.le_refl _) (kokE (by decide)) (by unfold IOK; decide)
  · exact KOp.lit (kLit_at w 4 rfl _ rfl) rfl (by decide) (Nat.le_refl _) (kokE (by decide)) (by unfold IOK; decide)
  · exact KOp.lit (kLit_at w 5 rfl _ rfl) rfl (by decide) (Nat.le_refl _) (kokE (by decide)) (by unfold IOK; decide)
  · exact KOp.lit (kLit_at w 6 rfl _ rfl) rfl (by decide) (Nat.le_refl _) (kokE (by decide)) (by unfold IOK; decide)
  · exact KOp.lit (kLit_at w 7 rfl _ rfl) rfl (by decide) (Nat.le_refl _) (kokE (by decide)) (by unfold IOK; decide)
  · exact KOp.plain (by unfold IOK; decide)
  · exact KOp.plain (by unfold IOK; decide)
  · exact KOp.plain (by unfold IOK; decide)
  · exact KOp.lit (kLit_at w 8 rfl _ rfl) rfl (by decide) (Nat.le_refl _) (kokE (by decide)) (by unfold IOK; decide)
  · exact KOp.lit (kLit_at w 9 rfl _ rfl) rfl (by decide) (Nat.le_refl _) (kokE (by decide)) (by unfold IOK; decide)
  · exact KOp.plain (by unfold IOK; decide)
  · exact KOp.plain (by unfold IOK; decide)
  · exact KOp.plain (by unfold IOK; decide)
  · exact KOp.lit (kLit_at w 10 rfl _ rfl) rfl (by decide) (Nat.le_refl _) (kokE (by decide)) (by unfold IOK; decide)
  · exact KOp.plain (by unfold IOK; decide)
  · exact KOp.plain (by unfold IOK; decide)
  · exact KOp.plain (by unfold IOK; decide)
  · exact KOp.plain (by unfold IOK; decide)
  · exact KOp.plain (by unfold IOK; decide)
  · exact KOp.plain (by unfold IOK; decide)
  · exact KOp.plain (by unfold IOK; decide)
  · exact KOp.plain (by unfold IOK; decide)
  · exact KOp.plain (by unfold IOK; decide)
  · exact KOp.plain (by unfold IOK; decide)
  · exact KOp.plain (by unfold IOK; decide)
  · exact KOp.plain (by unfold IOK; decide)
  · exact KOp.lit (kLit_at w 11 rfl _ rfl) rfl (by decide) (Nat.le_refl _) (kokE (by decide)) (by unfold IOK; decide)
  · exact KOp.plain (by unfold IOK; decide)
  · exact KOp.plain (by unfold IOK; decide)
  · exact KOp.lit (kLit_at w 12 rfl _ rfl) rfl (by decide) (Nat.le_refl _) (kokE (by decide)) (by unfold IOK; decide)
  · exact KOp.plain (by unfold IOK; decide)
  · exact KOp.plain (by unfold IOK; decide)
  · exact KOp.plain (by unfold IOK; decide)
  · exact KOp.plain (by unfold IOK; decide)
  · exact KOp.plain (by unfold IOK; decide)
  · exact KOp.plain (by unfold IOK; decide)
  · exact KOp.plain (by unfold IOK; decide)
/-- What the script leaves. -/
structure KW (w W : World) (gs ga gb gc : Nat) : Prop where
  bl : Below w.heap.size w W
  go : GO w.heap.size W (.slice (some ⟨gs, 0, none⟩) 37 37) (kOps w)
  ca : W.cell? ⟨ga, 0, none⟩ = some (.int .i64 1) ∧ W.cell? ⟨ga, 1, none⟩ = some (.int .i64 0)
  cb : W.cell? ⟨gb, 0, none⟩ = some (.int .i64 0) ∧ W.cell? ⟨gb, 1, none⟩ = some (.int .i64 1)
  cc : W.cell? ⟨gc, 0, none⟩ = some (.int .i64 1) ∧ W.cell? ⟨gc, 1, none⟩ = some (.int .i64 1)
  lt : ga < W.heap.size ∧ gb < W.heap.size ∧ gc < W.heap.size
theorem KW.of (w : World) : KW w (als w (kLit w)) (w.heap.size + 1 + 1 + 1 + 1 + 1 + 1 + 1 + 1 + 1 + 1 + 1 + 1 + 1) w.heap.size (w.heap.size + 1) (w.heap.size + 1 + 1) := by
  have hsz : (als w (kLit w)).heap.size = w.heap.size + 14 := als_size w (kLit w)
  refine ⟨als_below _ _ _ _ (Nat.le_refl _) (Below.refl _ _), GO.of_block (S := kOps w) (kLit_at w 13 rfl _ rfl) rfl (by omega) (show 37 ≤ 1000 by decide) (kOps_ok w), ?_, ?_, ?_, by omega, by omega, by omega⟩
  · have h := kLit_at w 0 rfl _ rfl
    exact pair_cells h rfl
  · have h := kLit_at w 1 rfl _ rfl
    exact pair_cells h rfl
  · have h := kLit_at w 2 rfl _ rfl
    exact pair_cells h rfl
theorem KW.later {w W W' : World} {gs ga gb gc : Nat} (h : KW w W gs ga gb gc) (hb : Below W.heap.size W W') : KW w W' gs ga gb gc :=
  ⟨h.bl.trans (hb.mono h.bl.size), h.go.later hb, ⟨(hb.cell (p := ⟨ga, 0, none⟩) h.lt.1).trans h.ca.1, (hb.cell (p := ⟨ga, 1, none⟩) h.lt.1).trans h.ca.2⟩, ⟨(hb.cell (p := ⟨gb, 0, none⟩) h.lt.2.1).trans h.cb.1, (hb.cell (p := ⟨gb, 1, none⟩) h.lt.2.1).trans h.cb.2⟩, ⟨(hb.cell (p := ⟨gc, 0, none⟩) h.lt.2.2).trans h.cc.1, (hb.cell (p := ⟨gc, 1, none⟩) h.lt.2.2).trans h.cc.2⟩, ⟨Nat.lt_of_lt_of_le h.lt.1 hb.size, Nat.lt_of_lt_of_le h.lt.2.1 hb.size, Nat.lt_of_lt_of_le h.lt.2.2 hb.size⟩⟩

abbrev ek7 (s : Int) (t : Bool) : De := ⟨7, [(1, 0), (0, 1)], none, 0, s, t⟩
abbrev ek5 (s : Int) : De := ⟨5, [(0, 1)], none, 0, s, false⟩
abbrev ek9 (s : Int) : De := ⟨9, [(1, 1)], none, 0, s, false⟩
theorem ek_t1 : [ek7 0 false, ek5 0, ek9 0].map (tcD [(0, 1)]) = [ek7 1 false, ek5 1, ek9 0] := by first | rfl | simp [tcD, meetsB]
theorem ek_c1 : ctD [(0, 1)] [ek7 0 false, ek5 0, ek9 0] ([ek7 0 false, ek5 0, ek9 0] : List De).length = 2 := by first | rfl | decide | simp [ctD, meetsB]
theorem ek_t2 : [ek7 2 false, ek5 1, ek9 0].map (tcD [(1, 0), (1, 1)]) = [ek7 2 true, ek5 1, ek9 1] := by first | rfl | simp [tcD, meetsB]
theorem ek_c2 : ctD [(1, 0), (1, 1)] [ek7 2 false, ek5 1, ek9 0] ([ek7 2 false, ek5 1, ek9 0] : List De).length = 1 := by first | rfl | decide | simp [ctD, meetsB]
theorem rmL {w : World} {A : Array Value} {K : List Ky} {n : Nat} (hA : A = (KY.mc K).toArray) (hn : K.length = n) : KY.RM (w.alloc (.cells A 23)) (.slice (some ⟨w.heap.size, 0, none⟩) n n) K := by
  subst hn; exact (keysAt_new rfl hA rfl).rm (Nat.le_refl _)
theorem ownL {w : World} {n : Nat} : ∀ g, (Value.slice (some ⟨w.heap.size, 0, none⟩) n n).ownBlock = some g → w.heap.size ≤ g := fun g hg => by cases hg; exact Nat.le_refl _
theorem rm759 (w : World) : IN.RM (w.alloc (.cells #[.int .i64 7, .int .i64 5, .int .i64 9] 3)) (.slice (some ⟨w.heap.size, 0, none⟩) 3 3) [7, 5, 9] :=
  IN.OM.rm (B := 0) ⟨rfl, .inr ⟨w.heap.size, 3, _, rfl, Nat.zero_le _, alloc_new w _, Nat.le_refl _, by unfold maxLen; omega, rfl, rfl⟩⟩
theorem iokN {n : Int} (h0 : 0 ≤ n) (h : n ≤ 100) : IOK n := WalkArith.wf_i64 ⟨by omega, by omega⟩
theorem meas_dn {k : Int} (h : k ≤ 5) : (6 - intOf (.int .i64 (k + 1))).toNat < (6 - intOf (.int .i64 k)).toNat := by
  show (6 - (k + 1)).toNat < (6 - k).toNat
  omega
theorem wr6 {k : Int} (h0 : -1 ≤ k) (h : k ≤ 5) : wrap64 (k + 1) = k + 1 := by unfold wrap64; omega
theorem script_kw {w W : World} {gs ga gb gc : Nat} (hE : ErrType w) (h : KW w W gs ga gb gc) (m0 m1 : Int) : Calls Tryz.prog 4 #[.agg #[.int .i64 m0, .int .i64 m1], .slice (some ⟨gs, 0, none⟩) 37 37] W fun e w' => e = .returned (.bool true) ∧ Below W.heap.size W w' :=
  script_law m0 m1 _ (kOps w) W h.go.ro (show 37 ≤ 2932031007402 by decide) (hE.below h.bl)
set_option maxRecDepth 100000 in
set_option maxHeartbeats 40000000 in
theorem queueKnown_law (w : World) (hE : ErrType w) :
    Calls Tryz.prog 3 #[] w fun e w' => e = .returned (.bool true) ∧ Below w.heap.size w w' := by
  have HE := hide hE
  have HB0 : Hid (Below w.heap.size w w) := hide (Below.refl _ _)
  clear hE
  go_enter Tryz.func3, Tryz.ntmps3
  go_upto_region 5 with fail
  refine at_world (kLit w) (fun W hW => ?_)
  have HK0 : Hid (KW w W (w.heap.size + 1 + 1 + 1 + 1 + 1 + 1 + 1 + 1 + 1 + 1 + 1 + 1 + 1) w.heap.size (w.heap.size + 1) (w.heap.size + 1 + 1)) := hide (by rw [← hW]; exact KW.of w)
  clear hW
  go_wp2_with fail
  go_loopw [5] (fun i wr => ∃ k : Int, -1 ≤ k ∧ k ≤ 6 ∧ i = .int .i64 k ∧ Hid (KW w wr (w.heap.size + 1 + 1 + 1 + 1 + 1 + 1 + 1 + 1 + 1 + 1 + 1 + 1 + 1) w.heap.size (w.heap.size + 1) (w.heap.size + 1 + 1))) (fun i _ => (6 - intOf i).toNat)
  case atStart => exact ⟨-1, by omega, by omega, rfl, HK0⟩
  case round =>
    clear HK0
    obtain ⟨k, hk0, hk1, rfl, HK⟩ := hrel
    by_cases hlt : k ≤ 5
    · have hd : decide (k ≤ 5) = true := by rw [decide_eq_true_eq]; exact hlt
      have wk := wr6 hk0 hlt
      have HC1 := hide (script_kw HE.out HK.out k 3)
      have HLT : Hid (-1 ≤ k + 1 ∧ k + 1 ≤ 6 ∧ k ≤ 5) := hide (by omega)
      clear hk0 hk1 hlt
      go_wp2_with fail
      refine HC1.out.mono ?_
      rintro e w1 ⟨rfl, b1⟩
      have HK1 := hide (HK.out.later b1)
      clear HC1 b1 HK
      have HC2 := hide (script_kw HE.out HK1.out (-9223372036854775808) 9223372036854775807)
      go_wp2_with fail
      refine HC2.out.mono ?_
      rintro e w2 ⟨rfl, b2⟩
      have HK2 := hide (HK1.out.later b2)
      clear HC2 b2 HK1
      go_wp2_with fail
      go_roundw
      case rel => exact ⟨k + 1, HLT.out.1, HLT.out.2.1, congrArg (Value.int .i64) (by first | exact wk | rfl), HK2⟩
      case measure => first | exact meas_dn HLT.out.2.2 | (rw [wk]; exact meas_dn HLT.out.2.2)
    · obtain rfl : k = 6 := by omega
      have HM := hide (many_any wr (hide (fun W m0 m1 v S hb hr hl => script_law m0 m1 v S W hr (Nat.le_trans hl (by decide)) (HE.out.below (HK.out.bl.trans (hb.mono HK.out.bl.size))))))
      clear hk0 hk1 hlt
      go_wp2_with fail
      refine HM.out.mono ?_
      rintro e wm ⟨rfl, bm⟩
      have HWm := hide (HK.out.later bm)
      clear HM bm HK
      have HN := hide (KQ.new wm)
      go_wp2_with fail
      refine HN.out.mono ?_
      rintro e w2 ⟨q, rfl, hq⟩
      have HQ := hide hq
      clear hq HN
      have gn := gtNilQ q
      have HWk := hide (works_any w2)
      go_wp2_with fail
      refine HWk.out.mono ?_
      rintro e w3 ⟨rfl, b3⟩
      have HQ := hide (HQ.out.later b3)
      have HW := hide (HWm.out.later HQ.out.bl)
      clear b3 HWk gn
      obtain ⟨a0, a1⟩ := HW.out.ca
      obtain ⟨b0, b1⟩ := HW.out.cb
      obtain ⟨c0, c1⟩ := HW.out.cc
      have HP : Hid (Calls Tryz.prog 8 #[.pointer (some ⟨q, 0, none⟩), .int .i64 7, .slice (some ⟨w3.heap.size, 0, none⟩) 2 2] (w3.alloc (.cells #[.int .i64 1, .int .i64 0, .int .i64 0, .int .i64 1] 23)) fun e w' => e = .returned (.nilIface) ∧ KQ wm w' q [ek7 0 false]) := hide (KQ.put (E := []) (K := [(1, 0), (0, 1)]) (HQ.out.later (below_al rfl)) (iokN (by decide) (by decide)) (rmL rfl rfl) (by decide) (kokE (by decide)) (by simp) (by decide))
      go_wp2_with fail
      refine HP.out.mono ?_
      rintro e w4 ⟨rfl, hq⟩
      have HQ := hide hq
      have HW := hide (HWm.out.later hq.bl)
      clear hq HP a0 a1 b0 b1 c0 c1
      obtain ⟨a0, a1⟩ := HW.out.ca
      obtain ⟨b0, b1⟩ := HW.out.cb
      obtain ⟨c0, c1⟩ := HW.out.cc
      have HP : Hid (Calls Tryz.prog 8 #[.pointer (some ⟨q, 0, none⟩), .int .i64 5, .slice (some ⟨w4.heap.size, 0, none⟩) 1 1] (w4.alloc (.cells #[.int .i64 0, .int .i64 1] 23)) fun e w' => e = .returned (.nilIface) ∧ KQ wm w' q [ek7 0 false, ek5 0]) := hide (KQ.put (E := [ek7 0 false]) (K := [(0, 1)]) (HQ.out.later (below_al rfl)) (iokN (by decide) (by decide)) (rmL rfl rfl) (by decide) (kokE (by decide)) (by simp) (by decide))
      go_wp2_with fail
      refine HP.out.mono ?_
      rintro e w5 ⟨rfl, hq⟩
      have HQ := hide hq
      have HW := hide (HWm.out.later hq.bl)
      clear hq HP a0 a1 b0 b1 c0 c1
      obtain ⟨a0, a1⟩ := HW.out.ca
      obtain ⟨b0, b1⟩ := HW.out.cb
      obtain ⟨c0, c1⟩ := HW.out.cc
      have HP : Hid (Calls Tryz.prog 8 #[.pointer (some ⟨q, 0, none⟩), .int .i64 9, .slice (some ⟨w5.heap.size, 0, none⟩) 1 1] (w5.alloc (.cells #[.int .i64 1, .int .i64 1] 23)) fun e w' => e = .returned (.nilIface) ∧ KQ wm w' q [ek7 0 false, ek5 0, ek9 0]) := hide (KQ.put (E := [ek7 0 false, ek5 0]) (K := [(1, 1)]) (HQ.out.later (below_al rfl)) (iokN (by decide) (by decide)) (rmL rfl rfl) (by decide) (kokE (by decide)) (by simp) (by decide))
      go_wp2_with fail
      refine HP.out.mono ?_
      rintro e w6 ⟨rfl, hq⟩
      have HQ := hide hq
      have HW := hide (HWm.out.later hq.bl)
      clear hq HP a0 a1 b0 b1 c0 c1
      obtain ⟨a0, a1⟩ := HW.out.ca
      obtain ⟨b0, b1⟩ := HW.out.cb
      obtain ⟨c0, c1⟩ := HW.out.cc
      have HP : Hid (Calls Tryz.prog 8 #[.pointer (some ⟨q, 0, none⟩), .int .i64 1, .slice (some ⟨w6.heap.size, 0, none⟩) 1 1] (w6.alloc (.cells #[.int .i64 1, .int .i64 0] 23)) fun e w' => e = .returned (er 20) ∧ KQ wm w' q [ek7 0 false, ek5 0, ek9 0]) := hide (KQ.full (E := [ek7 0 false, ek5 0, ek9 0]) (K := [(1, 0)]) (HQ.out.later (below_al rfl)) (iokN (by decide) (by decide)) (rmL rfl rfl) (by decide) (kokE (by decide)) (by simp) rfl)
      go_wp2_with fail
      refine HP.out.mono ?_
      rintro e w7 ⟨rfl, hq⟩
      have HQ := hide hq
      have HW := hide (HWm.out.later hq.bl)
      clear hq HP a0 a1 b0 b1 c0 c1
      have nn := neqNil
      have HP1 := hide (plain_errno 20 20 w7 (by decide) (by decide) (HE.out.below HW.out.bl))
      unfold er
      go_wp2_with fail
      refine HP1.out.mono ?_
      rintro e w8 ⟨rfl, b8⟩
      have HQ := hide (HQ.out.later b8)
      clear b8 HP1 HW
      have HP2 : Hid (Calls Tryz.prog 8 #[.pointer (some ⟨q, 0, none⟩), .int .i64 9, .slice none 0 0] w8 fun e w' => e = .returned (.iface 65 (.int .i64 11)) ∧ KQ wm w' q [ek7 0 false, ek5 0, ek9 0]) := hide (KQ.twice (E := [ek7 0 false, ek5 0, ek9 0]) (K := []) HQ.out (iokN (by decide) (by decide)) (KY.RM.nil w8) (by decide) (fun k hk => by cases hk) ⟨ek9 0, by simp, rfl⟩ (by decide))
      go_wp2_with fail
      refine HP2.out.mono ?_
      rintro e w9 ⟨rfl, hq⟩
      have HQ := hide hq
      have HW := hide (HWm.out.later hq.bl)
      clear hq HP2
      have HP3 := hide (plain_errno 11 11 w9 (by decide) (by decide) (HE.out.below HW.out.bl))
      go_wp2_with fail
      refine HP3.out.mono ?_
      rintro e w10 ⟨rfl, b10⟩
      have HQ := hide (HQ.out.later b10)
      have HW := hide (HWm.out.later HQ.out.bl)
      clear b10 HP3
      obtain ⟨b0, b1⟩ := HW.out.cb
      have HT : Hid (Calls Tryz.prog 10 #[.pointer (some ⟨q, 0, none⟩), .slice (some ⟨w10.heap.size, 0, none⟩) 1 1] (w10.alloc (.cells #[.int .i64 0, .int .i64 1] 23)) fun e w' => e = .returned (.int .i64 2) ∧ KQ wm w' q [ek7 1 false, ek5 1, ek9 0]) := hide (by
        have h := KQ.touch HQ.out (below_al rfl) (rmL (A := #[.int .i64 0, .int .i64 1]) (K := [(0, 1)]) (n := 1) rfl rfl) (by decide) (kokE (by decide)) ownL
        rw [ek_t1, ek_c1] at h
        exact h)
      go_wp2_with fail
      refine HT.out.mono ?_
      rintro e w11 ⟨rfl, hq⟩
      have HQ := hide hq
      clear hq HT b0 b1 HW
      have HTk : Hid (Calls Tryz.prog 11 #[.pointer (some ⟨q, 0, none⟩)] w11 fun e w' => e = .returned (.tuple #[.int .i64 7, .bool true]) ∧ KQ wm w' q [ek7 2 false, ek5 1, ek9 0]) := hide (KQ.take HQ.out (k := 0) (p := ek7 1 false) rfl rfl (fun j q' hj => by omega))
      go_wp2_with fail
      refine HTk.out.mono ?_
      rintro e w12 ⟨rfl, hq⟩
      have HQ := hide hq
      have HW := hide (HWm.out.later hq.bl)
      clear hq HTk
      obtain ⟨a0, a1⟩ := HW.out.ca
      obtain ⟨c0, c1⟩ := HW.out.cc
      have HT : Hid (Calls Tryz.prog 10 #[.pointer (some ⟨q, 0, none⟩), .slice (some ⟨w12.heap.size, 0, none⟩) 2 2] (w12.alloc (.cells #[.int .i64 1, .int .i64 0, .int .i64 1, .int .i64 1] 23)) fun e w' => e = .returned (.int .i64 1) ∧ KQ wm w' q [ek7 2 true, ek5 1, ek9 1]) := hide (by
        have h := KQ.touch HQ.out (below_al rfl) (rmL (A := #[.int .i64 1, .int .i64 0, .int .i64 1, .int .i64 1]) (K := [(1, 0), (1, 1)]) (n := 2) rfl rfl) (by decide) (kokE (by decide)) ownL
        rw [ek_t2, ek_c2] at h
        exact h)
      go_wp2_with fail
      refine HT.out.mono ?_
      rintro e w13 ⟨rfl, hq⟩
      have HQ := hide hq
      clear hq HT a0 a1 c0 c1 HW
      have HI := hide (KQ.idle HQ.out 0 rfl)
      go_wp2_with fail
      refine HI.out.mono ?_
      rintro e w14 ⟨ia, ic, rfl, hq⟩
      have HQ := hide hq
      clear hq HI
      have HBk : Hid (Calls Tryz.prog 13 #[.pointer (some ⟨q, 0, none⟩), .int .i64 7] w14 fun e w' => e = .returned (.bool true) ∧ KQ wm w' q [ek7 1 true, ek5 1, ek9 1]) := hide (KQ.back HQ.out (iokN (by decide) (by decide)) (k := 0) (p := ek7 2 true) rfl rfl rfl)
      go_wp2_with fail
      refine HBk.out.mono ?_
      rintro e w15 ⟨rfl, hq⟩
      have HQ := hide hq
      clear hq HBk
      have HBk := hide (KQ.backNo HQ.out (id := 7) (iokN (by decide) (by decide)) (by simp))
      go_wp2_with fail
      refine HBk.out.mono ?_
      rintro e w16 ⟨rfl, hq⟩
      have HQ := hide hq
      clear hq HBk
      have HIt := hide (KQ.items HQ.out [7, 5, 9] rfl)
      go_wp2_with fail
      refine HIt.out.mono ?_
      rintro e w17 ⟨v17, rfl, hr, hq⟩
      have HSm0 := IN.sameM_any v17 _ [7, 5, 9] [7, 5, 9] _ (IN.RB.later hr (below_al (o := .cells #[.int .i64 7, .int .i64 5, .int .i64 9] 3) rfl)) (rm759 w17) (by decide) (by decide)
      rw [decide_eq_true rfl] at HSm0
      have HSm := hide HSm0
      have HB17 : Hid (Below w.heap.size w (w17.alloc (.cells #[.int .i64 7, .int .i64 5, .int .i64 9] 3))) := hide ((HWm.out.later hq.bl).later (below_al rfl)).bl
      clear hq hr HSm0 HIt HQ
      go_wp2_with fail
      refine HSm.out.mono ?_
      rintro e w18 ⟨rfl, b18⟩
      have HB18 := hide (HB17.out.trans (b18.mono HB17.out.size))
      clear b18 HSm HB17
      go_wp2_with fail
      go_ret
      exact ⟨rfl, HB18.out⟩
end Go.Proofs.YtknnojjfdfkdmaaGreatDoor
