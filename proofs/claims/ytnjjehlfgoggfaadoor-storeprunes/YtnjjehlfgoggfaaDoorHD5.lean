/-
  My own text: one call of a chain, held against the row.
-/
import Derived.Test.YtnjjehlfgoggfaaDoorHD4
namespace Go.Proofs.YtnjjehlfgoggfaaDoor
open Go.RowKit Go.Shelf

theorem retI {a b : Int} (h : a = b) : Ending.returned (.int .i64 a) = .returned (.int .i64 b) := by rw [h]
theorem pick_eq (k : Int) {n : Int} (h : 0 < n) : -n < k.tmod n ∧ k.tmod n < n ∧ k % n = if k.tmod n < 0 then k.tmod n + n else k.tmod n := by
  have h1 := Int.lt_tmod_of_pos k h
  have h2 := Int.tmod_lt_of_pos k h
  refine ⟨h1, h2, ?_⟩
  have e : (k.tmod n) % n = k % n := by rw [Int.tmod_def, Int.sub_mul_emod_self_left]
  rw [← e]
  split
  · rw [← Int.add_emod_right, Int.emod_eq_of_lt (by omega) (by omega)]
  · rw [Int.emod_eq_of_lt (by omega) (by omega)]
theorem pick_any (k n : Int) (w : World) (h1 : 0 < n) (h2 : n ≤ 4000000) :
    Calls Tryd.prog 7 #[.int .i64 k, .int .i64 n] w fun e w' => e = .returned (.int .i64 (k % n)) ∧ w' = w := by
  obtain ⟨t0, t1, t2⟩ := pick_eq k h1
  have H := hide t2
  clear t2
  have hn : ¬ n < 1 := by omega
  have hz : (n == 0) = false := by simp; omega
  have hz2 : ¬ n = 0 := by omega
  by_cases hneg : k.tmod n < 0
  · rw [if_pos hneg] at H
    go_enter Tryd.func7, Tryd.ntmps7
    go_wp2
    go_ret
    exact ⟨retI H.out.symm, rfl⟩
  · rw [if_neg hneg] at H
    go_enter Tryd.func7, Tryd.ntmps7
    go_wp2
    go_ret
    exact ⟨retI H.out.symm, rfl⟩
theorem OR.fr {W W' : World} {B B' cb k n : Nat} {L : List Ver} {t : TypeId} {v : Value} {xs : List Value} (h : OR W B' t k v n xs) (hf : Fr W W' cb) (hc : CH W B cb L) (h1 : t ≠ 92) (h2 : t ≠ 100) : OR W' B' t k v n xs := by
  refine h.kept (fun g hg => ?_)
  rcases h.2 with ⟨rfl, _⟩ | ⟨g', off, cap, cur, rfl, _, hh, _⟩
  · cases hg
  · obtain rfl : g' = g := Option.some.inj hg
    refine hf.block g' (Array.getElem?_eq_some_iff.1 hh).1 (fun e => ?_) (hc.row_ne hh h1)
    obtain ⟨_, u, em, hcb, _⟩ := hc
    rw [e, hcb] at hh
    injection hh with hh
    injection hh with _ hh _
    exact h2 hh.symm
/-- What a call leaves. -/
def stL (kind : Int) (n : Int) (s : List UInt8) (L : List Ver) : List Ver := if kind = 0 then ptL n s L else if kind = 3 then L.drop (ab n L - 1) else L
theorem ptL_LK {L : List Ver} {k : Nat} (h : LK L k) (n : Int) (s : List UInt8) (hn : n ≤ 9223372036854775807) : LK (ptL n s L) (k + 1) := by
  have := h.act (false, n, s) hn
  unfold doAc at this
  rw [if_neg (by simp)] at this
  exact this
theorem LK.up {L : List Ver} {k : Nat} (h : LK L k) : LK L (k + 1) := ⟨h.ris, h.pos, h.max, Nat.le_succ_of_le h.len⟩
theorem stL_LK {L : List Ver} {k : Nat} (h : LK L k) (kind n : Int) (s : List UInt8) (hn : n ≤ 9223372036854775807) : LK (stL kind n s L) (k + 1) := by
  unfold stL
  split
  · exact ptL_LK h n s hn
  · split
    · exact (h.drop _).up
    · exact h.up
theorem ne_type {W : World} {b c : Nat} {cs cs' : Array Value} {t t' : TypeId} {fz fz' : Nat × Nat} (h1 : W.heap[b]? = some (.cells cs t fz)) (h2 : W.heap[c]? = some (.cells cs' t' fz')) (ht : t ≠ t') : b ≠ c := by
  intro e
  rw [e, h2] at h1
  injection h1 with h1
  injection h1 with _ h1 _
  exact ht h1.symm
theorem CH.blk {W : World} {B cb : Nat} {L : List Ver} (h : CH W B cb L) : ∃ cs, W.heap[cb]? = some (.cells cs 100 (0, 0)) := by
  obtain ⟨_, v, em, hh, _⟩ := h
  exact ⟨_, hh⟩
theorem OR.setB {W : World} {B b off k n : Nat} {e t : TypeId} {v u : Value} {xs : List Value} {cs : Array Value} {fz : Nat × Nat} (h : OR W B e k v n xs) (hb : W.heap[b]? = some (.cells cs t fz)) (ht : t ≠ e) : OR (W.setCell ⟨b, off, none⟩ u) B e k v n xs :=
  h.kept (fun g hg => Below.heap_setCell _ _ _ g (fun q => h.row_ne hb ht (by rw [hg, show g = b from q])))
theorem CH.setB {W : World} {B cb b off : Nat} {L : List Ver} {t : TypeId} {u : Value} {cs : Array Value} {fz : Nat × Nat} (h : CH W B cb L) (hb : W.heap[b]? = some (.cells cs t fz)) (h1 : t ≠ 92) (h2 : t ≠ 100) : CH (W.setCell ⟨b, off, none⟩ u) B cb L := by
  obtain ⟨q1, v, em, hh, ho, hn⟩ := h
  exact ⟨q1, v, em, (Below.heap_setCell _ _ _ cb (ne_type hh hb (Ne.symm h2))).trans hh, ho.setB hb h1, hn⟩
theorem Fr.blk {W W' : World} {B c b : Nat} {X : List Ver} {t : TypeId} {cs : Array Value} {fz : Nat × Nat} (hf : Fr W W' c) (hx : CH W B c X) (hb : W.heap[b]? = some (.cells cs t fz)) (h1 : t ≠ 92) (h2 : t ≠ 100) : W'.heap[b]? = some (.cells cs t fz) := by
  obtain ⟨_, hh⟩ := hx.blk
  exact (hf.block b (Array.getElem?_eq_some_iff.1 hb).1 (ne_type hb hh h2) (hx.row_ne hb h1)).trans hb
theorem Ap.setB {W : World} {c d b off : Nat} {u : Value} (h : Ap c d W) (h1 : c ≠ b) (h2 : d ≠ b) : Ap c d (W.setCell ⟨b, off, none⟩ u) :=
  h.same (by unfold World.cell?; rw [Below.heap_setCell _ _ _ c h1]) (by unfold World.cell?; rw [Below.heap_setCell _ _ _ d h2])
end Go.Proofs.YtnjjehlfgoggfaaDoor
