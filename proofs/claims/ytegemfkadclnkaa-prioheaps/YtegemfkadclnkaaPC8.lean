/-
  My own text: the law PrioPlay.
-/
import Derived.Test.YtegemfkadclnkaaPC7
import Derived.Test.YtegemfkadclnkaaPX3
import Derived.Test.YtegemfkadclnkaaPX4
namespace Go.Proofs.Ytegemfkadclnkaa
open Go.RowKit

/-- Steps as cells. -/
def s3c : List Stp → List Value
  | [] => []
  | e :: t => .int .i64 e.1 :: .int .i64 e.2.1 :: .int .i64 e.2.2 :: s3c t
theorem s3c_len (a : List Stp) : (s3c a).length = a.length * 3 := by
  induction a with
  | nil => rfl
  | cons p t ih => show (s3c t).length + 1 + 1 + 1 = (t.length + 1) * 3; rw [ih]; omega
theorem s3c_at : ∀ {a : List Stp} {j : Nat} {p : Stp}, a[j]? = some p → (s3c a)[j * 3]? = some (.int .i64 p.1) ∧ (s3c a)[j * 3 + 1]? = some (.int .i64 p.2.1) ∧ (s3c a)[j * 3 + 2]? = some (.int .i64 p.2.2)
  | q :: t, 0, p, h => by simp at h; subst h; exact ⟨rfl, rfl, rfl⟩
  | q :: t, j + 1, p, h => by
    have h' : t[j]? = some p := by simpa using h
    have ih := s3c_at h'
    rw [show (j + 1) * 3 = j * 3 + 1 + 1 + 1 by omega, show j * 3 + 1 + 1 + 1 + 1 = j * 3 + 1 + 1 + 1 + 1 by rfl, show j * 3 + 1 + 1 + 1 + 2 = j * 3 + 2 + 1 + 1 + 1 by omega]
    exact ih
theorem s3c_one : ∀ (l : List Stp), ∀ u ∈ s3c l, u.oneCell' = true
  | p :: t, u, h => by
    rcases List.mem_cons.1 h with rfl | h
    · rfl
    · rcases List.mem_cons.1 h with rfl | h
      · rfl
      · rcases List.mem_cons.1 h with rfl | h
        · rfl
        · exact s3c_one t u h
theorem s3c_cells : ∀ {L : List Stp} {j : Nat} {u : Value}, (s3c L)[j]? = some u → ∃ (i : Nat) (p : Stp), L[i]? = some p ∧ ((j = i * 3 ∧ u = .int .i64 p.1) ∨ (j = i * 3 + 1 ∧ u = .int .i64 p.2.1) ∨ (j = i * 3 + 2 ∧ u = .int .i64 p.2.2))
  | p :: t, 0, u, h => by cases h; exact ⟨0, p, rfl, .inl ⟨rfl, rfl⟩⟩
  | p :: t, 1, u, h => by cases h; exact ⟨0, p, rfl, .inr (.inl ⟨rfl, rfl⟩)⟩
  | p :: t, 2, u, h => by cases h; exact ⟨0, p, rfl, .inr (.inr ⟨rfl, rfl⟩)⟩
  | p :: t, j + 3, u, h => by
    obtain ⟨i, q, h1, h2⟩ := s3c_cells (L := t) (j := j) (u := u) h
    refine ⟨i + 1, q, h1, ?_⟩
    rcases h2 with ⟨h2, h3⟩ | ⟨h2, h3⟩ | ⟨h2, h3⟩
    · exact .inl ⟨by omega, h3⟩
    · exact .inr (.inl ⟨by omega, h3⟩)
    · exact .inr (.inr ⟨by omega, h3⟩)
theorem two_all {W : World} {B n ca cb : Nat} {aa ab : Option Addr} {M : List Pr} (ha : OM W B (.slice aa n ca) M) (hb : OM W B (.slice ab n cb) M) (hd : ∀ x, (Value.slice aa n ca).ownBlock = some x → (Value.slice ab n cb).ownBlock = some x → False) :
    AllM (W.alloc (.cells #[.slice aa n ca, .slice ab n cb] 29)) B W.heap.size 2 (fun k => if k = 0 then aa else ab) (fun _ => n) (fun k => if k = 0 then ca else cb) (fun _ => M) := by
  have hN := alloc_new W (.cells #[.slice aa n ca, .slice ab n cb] 29)
  obtain ⟨c0, c1⟩ := pair_cells hN rfl
  have hlt : W.heap.size < (W.alloc (.cells #[.slice aa n ca, .slice ab n cb] 29)).heap.size := by simp
  refine ⟨hlt, fun k hk => ?_, fun k hk => ?_, fun k hk => ?_, fun j k g hj hk h1 h2 => ?_⟩
  · match k, hk with
    | 0, _ => exact c0
    | 1, _ => exact c1
  · match k, hk with
    | 0, _ => exact World.ownsRow.alloc ha _
    | 1, _ => exact World.ownsRow.alloc hb _
  · match k, hk with
    | 0, _ => exact fun e => by have := (World.ownsRow.lt ha _ e).2; omega
    | 1, _ => exact fun e => by have := (World.ownsRow.lt hb _ e).2; omega
  · match j, k, hj, hk with
    | 0, 0, _, _ => rfl
    | 1, 1, _, _ => rfl
    | 0, 1, _, _ => exact (hd g h1 h2).elim
    | 1, 0, _, _ => exact (hd g h2 h1).elim
theorem pl_len (k : Pr → Int) : ∀ (L : List Stp) (R : List En) (N : Nat), (pl k R N L).length = L.length
  | [], _, _ => rfl
  | s :: t, R, N => by show (pl k _ _ t).length + 1 = t.length + 1; rw [pl_len k t]
theorem OM.lat {w w' : World} {B : Nat} {v : Value} {L : List Pr} (h : OM w B v L) (hb : Below w.heap.size w w') : OM w' B v L := owns_lat h hb
end Go.Proofs.Ytegemfkadclnkaa
