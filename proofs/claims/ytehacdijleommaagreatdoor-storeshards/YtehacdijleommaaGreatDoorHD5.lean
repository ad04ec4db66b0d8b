/-
  My own text: HD1, HD2, HD3, HD4, HD5 in one.
-/
import Derived.Test.YtehacdijleommaaGreatDoorHC20
namespace Go.Proofs.YtehacdijleommaaGreatDoor
open Go.RowKit Go.Shelf

/-- The place of what counts. -/
def bI (m : Nat) : Int := (m : Int) - 1
theorem bI0 : bI 0 = -1 := rfl
theorem bIS (j : Nat) : bI (j + 1) = (j : Int) := by unfold bI; omega
theorem ris_step {L : List Ver} (hr : Ris L) {j : Nat} {p q : Ver} (hp : L[j]? = some p) (hq : L[j + 1]? = some q) : p.1 < q.1 := by
  have a := ab_self L j p hr hp
  exact ab_hi (n := p.1) hr (by omega) hq
end Go.Proofs.YtehacdijleommaaGreatDoor
namespace Go.Proofs.YtehacdijleommaaGreatDoor
open Go.RowKit Go.Shelf

theorem vc_snoc (K : List Ver) (p : Ver) : vc K ++ [.int .i64 p.1, .string ⟨p.2.toArray⟩] = vc (K ++ [p]) := by rw [vc_app]; rfl
end Go.Proofs.YtehacdijleommaaGreatDoor
namespace Go.Proofs.YtehacdijleommaaGreatDoor
open Go.RowKit Go.Shelf

theorem lastN_all {L : List Ver} {n : Int} (hr : Ris L) (h : lastN L < n) : ∀ (i : Nat) (p : Ver), L[i]? = some p → p.1 < n := fun i p hp => by
  have := ris_last L hr p (List.mem_of_getElem? hp); omega
/-- What a Put leaves. -/
def ptL (n : Int) (s : List UInt8) (L : List Ver) : List Ver := if lastN L < n then L ++ [(n, s)] else L
def ptE (n : Int) (L : List Ver) : Int := if lastN L < n then 0 else 1
theorem OR.slc {w : World} {B : Nat} {e : TypeId} {k : Nat} {v : Value} {n : Nat} {xs : List Value} (h : OR w B e k v n xs) : ∃ a cap, v = .slice a n cap := by
  rcases h.2 with ⟨rfl, rfl⟩ | ⟨g, off, cap, cur, rfl, _⟩ <;> exact ⟨_, _, rfl⟩
theorem ptL_no {n : Int} {s : List UInt8} {L : List Ver} (h : ¬ lastN L < n) : ptL n s L = L ∧ ptE n L = 1 := by unfold ptL ptE; rw [if_neg h, if_neg h]; exact ⟨rfl, rfl⟩
theorem ptL_yes {n : Int} {s : List UInt8} {L : List Ver} (h : lastN L < n) : ptL n s L = L ++ [(n, s)] ∧ ptE n L = 0 := by unfold ptL ptE; rw [if_pos h, if_pos h]; exact ⟨rfl, rfl⟩
end Go.Proofs.YtehacdijleommaaGreatDoor
namespace Go.Proofs.YtehacdijleommaaGreatDoor
open Go.RowKit Go.Shelf

theorem tkdr_lo {L : List Ver} {i m : Nat} (h : i < m) : (L.take (i + 1)).drop m = [] := by
  apply List.drop_eq_nil_of_le; rw [List.length_take]; omega
theorem tkdr_hi {L : List Ver} {i m : Nat} {p : Ver} (h : m ≤ i) (hp : L[i]? = some p) : (L.take (i + 1)).drop m = (L.take i).drop m ++ [p] := by
  have hlt := (List.getElem?_eq_some_iff.1 hp).1
  rw [List.take_add_one, hp, List.drop_append_of_le_length (by rw [List.length_take]; omega)]; rfl
theorem tkdr_len {L : List Ver} {i m : Nat} (hi : i ≤ L.length) : ((L.take i).drop m).length = i - m := by
  rw [List.length_drop, List.length_take, Nat.min_eq_left hi]
theorem ris_le {L : List Ver} (hr : Ris L) {i j : Nat} {p q : Ver} (hp : L[i]? = some p) (hq : L[j]? = some q) (h : i ≤ j) : p.1 ≤ q.1 := by
  have a := ab_self L j q hr hq
  exact ab_lo (n := q.1) (by omega) hp
theorem ris_lt {L : List Ver} (hr : Ris L) {i j : Nat} {p q : Ver} (hp : L[i]? = some p) (hq : L[j]? = some q) (h : i < j) : p.1 < q.1 := by
  have a := ab_self L i p hr hp
  exact ab_hi (n := p.1) hr (by omega) hq
end Go.Proofs.YtehacdijleommaaGreatDoor
namespace Go.Proofs.YtehacdijleommaaGreatDoor
open Go.RowKit Go.Shelf

theorem retI {a b : Int} (h : a = b) : Ending.returned (.int .i64 a) = .returned (.int .i64 b) := by rw [h]
theorem pick_eq (k : Int) {n : Int} (h : 0 < n) : -n < k.tmod n ∧ k.tmod n < n ∧ k % n = if k.tmod n < 0 then k.tmod n + n else k.tmod n := by
  have h1 := Int.lt_tmod_of_pos k h
  have h2 := Int.tmod_lt_of_pos k h
  refine ⟨h1, h2, ?_⟩
  have e : (k.tmod n) % n = k % n := by rw [Int.tmod_def, Int.sub_mul_emod_self_left]
  rw [← e]
  split
  · rw [← Int.add_emod_right, Int.emod_eq_of_lt (by omega) (by omega)]
  · rw [Int.emod_eq_of_lt (by omega) (by omega)]
theorem OR.fr {W W' : World} {B B' cb k n : Nat} {L : List Ver} {t : TypeId} {v : Value} {xs : List Value} (h : OR W B' t k v n xs) (hf : Fr W W' cb) (hc : CH W B cb L) (h1 : t ≠ 111) (h2 : t ≠ 104) : OR W' B' t k v n xs := by
  refine h.kept (fun g hg => ?_)
  rcases h.2 with ⟨rfl, _⟩ | ⟨g', off, cap, cur, rfl, _, hh, _⟩
  · cases hg
  · obtain rfl : g' = g := Option.some.inj hg
    refine hf.block g' (Array.getElem?_eq_some_iff.1 hh).1 (fun e => ?_) (hc.row_ne hh h1)
    obtain ⟨_, u, em, hcb, _⟩ := hc
    rw [e, hcb] at hh
    injection hh with hh
    injection hh with _ hh _
    exact h2 hh.symm
/-- What a call leaves. -/
def stL (kind : Int) (n : Int) (s : List UInt8) (L : List Ver) : List Ver := if kind = 0 then ptL n s L else if kind = 3 then L.drop (ab n L - 1) else L
theorem ptL_LK {L : List Ver} {k : Nat} (h : LK L k) (n : Int) (s : List UInt8) (hn : n ≤ 9223372036854775807) : LK (ptL n s L) (k + 1) := by
  have := h.act (false, n, s) hn
  unfold doAc at this
  rw [if_neg (by simp)] at this
  exact this
theorem LK.up {L : List Ver} {k : Nat} (h : LK L k) : LK L (k + 1) := ⟨h.ris, h.pos, h.max, Nat.le_succ_of_le h.len⟩
theorem stL_LK {L : List Ver} {k : Nat} (h : LK L k) (kind n : Int) (s : List UInt8) (hn : n ≤ 9223372036854775807) : LK (stL kind n s L) (k + 1) := by
  unfold stL
  split
  · exact ptL_LK h n s hn
  · split
    · exact (h.drop _).up
    · exact h.up
theorem ne_type {W : World} {b c : Nat} {cs cs' : Array Value} {t t' : TypeId} {fz fz' : Nat × Nat} (h1 : W.heap[b]? = some (.cells cs t fz)) (h2 : W.heap[c]? = some (.cells cs' t' fz')) (ht : t ≠ t') : b ≠ c := by
  intro e
  rw [e, h2] at h1
  injection h1 with h1
  injection h1 with _ h1 _
  exact ht h1.symm
theorem CH.blk {W : World} {B cb : Nat} {L : List Ver} (h : CH W B cb L) : ∃ cs, W.heap[cb]? = some (.cells cs 104 (0, 0)) := by
  obtain ⟨_, v, em, hh, _⟩ := h
  exact ⟨_, hh⟩
theorem OR.setB {W : World} {B b off k n : Nat} {e t : TypeId} {v u : Value} {xs : List Value} {cs : Array Value} {fz : Nat × Nat} (h : OR W B e k v n xs) (hb : W.heap[b]? = some (.cells cs t fz)) (ht : t ≠ e) : OR (W.setCell ⟨b, off, none⟩ u) B e k v n xs :=
  h.kept (fun g hg => Below.heap_setCell _ _ _ g (fun q => h.row_ne hb ht (by rw [hg, show g = b from q])))
theorem CH.setB {W : World} {B cb b off : Nat} {L : List Ver} {t : TypeId} {u : Value} {cs : Array Value} {fz : Nat × Nat} (h : CH W B cb L) (hb : W.heap[b]? = some (.cells cs t fz)) (h1 : t ≠ 111) (h2 : t ≠ 104) : CH (W.setCell ⟨b, off, none⟩ u) B cb L := by
  obtain ⟨q1, v, em, hh, ho, hn⟩ := h
  exact ⟨q1, v, em, (Below.heap_setCell _ _ _ cb (ne_type hh hb (Ne.symm h2))).trans hh, ho.setB hb h1, hn⟩
theorem Fr.blk {W W' : World} {B c b : Nat} {X : List Ver} {t : TypeId} {cs : Array Value} {fz : Nat × Nat} (hf : Fr W W' c) (hx : CH W B c X) (hb : W.heap[b]? = some (.cells cs t fz)) (h1 : t ≠ 111) (h2 : t ≠ 104) : W'.heap[b]? = some (.cells cs t fz) := by
  obtain ⟨_, hh⟩ := hx.blk
  exact (hf.block b (Array.getElem?_eq_some_iff.1 hb).1 (ne_type hb hh h2) (hx.row_ne hb h1)).trans hb
theorem Ap.setB {W : World} {c d b off : Nat} {u : Value} (h : Ap c d W) (h1 : c ≠ b) (h2 : d ≠ b) : Ap c d (W.setCell ⟨b, off, none⟩ u) :=
  h.same (by unfold World.cell?; rw [Below.heap_setCell _ _ _ c h1]) (by unfold World.cell?; rw [Below.heap_setCell _ _ _ d h2])
end Go.Proofs.YtehacdijleommaaGreatDoor
