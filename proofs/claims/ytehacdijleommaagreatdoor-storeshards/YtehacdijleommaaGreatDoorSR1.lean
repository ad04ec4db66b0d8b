/-
  My own text: the numbers that are read, rising; readers that begin and end.
-/
import Derived.Test.YtehacdijleommaaGreatDoorHC2
namespace Go.Proofs.YtehacdijleommaaGreatDoor

/-- How many are below n, ahead of the first that isn't. -/
def lo (n : Int) : List Int → Nat
  | [] => 0
  | x :: r => if x < n then lo n r + 1 else 0
/-- Rising. -/
def Srt : List Int → Prop
  | [] => True
  | x :: r => (∀ y ∈ r, x ≤ y) ∧ Srt r
theorem lo_le (n : Int) : ∀ L : List Int, lo n L ≤ L.length
  | [] => Nat.le_refl _
  | x :: r => by
    unfold lo; have := lo_le n r
    split
    · simp; omega
    · simp
theorem lo_lt {n : Int} : ∀ {L : List Int} {i : Nat} {x : Int}, i < lo n L → L[i]? = some x → x < n
  | [], i, x, h, _ => by cases h
  | y :: r, i, x, h, hx => by
    unfold lo at h
    split at h
    · rename_i hy
      match i, hx with
      | 0, hx => simp at hx; omega
      | i + 1, hx => exact lo_lt (L := r) (by omega) hx
    · cases h
theorem lo_ge {n : Int} : ∀ {L : List Int} {i : Nat} {x : Int}, Srt L → lo n L ≤ i → L[i]? = some x → n ≤ x
  | [], i, x, _, _, hx => by simp at hx
  | y :: r, i, x, hs, h, hx => by
    unfold lo at h
    split at h
    · match i, h, hx with
      | 0, h, _ => omega
      | i + 1, h, hx => exact lo_ge (L := r) hs.2 (by omega) hx
    · match i, hx with
      | 0, hx => simp at hx; omega
      | i + 1, hx => have := hs.1 x (List.mem_of_getElem? (by simpa using hx)); omega
theorem lo_cons (n x : Int) (r : List Int) : lo n (x :: r) = if x < n then lo n r + 1 else 0 := rfl
theorem Srt.pair : ∀ {L : List Int}, Srt L → L.Pairwise (· ≤ ·)
  | [], _ => List.Pairwise.nil
  | _ :: _, h => List.Pairwise.cons h.1 (Srt.pair h.2)
/-- What a search among them finds. -/
theorem lo_count {n : Int} : ∀ {L : List Int}, Srt L → L.countP (· < n) = lo n L
  | [], _ => rfl
  | x :: r, h => by
    rw [List.countP_cons, lo_cons]
    by_cases hx : x < n
    · rw [if_pos hx, if_pos (decide_eq_true hx), lo_count h.2]
    · have : r.countP (· < n) = 0 := by
        rw [List.countP_eq_zero]
        intro y hy
        have := h.1 y hy
        simp; omega
      rw [if_neg hx, if_neg (by simpa using hx), this]
def insR (n : Int) (L : List Int) : List Int := L.take (lo n L) ++ n :: L.drop (lo n L)
def delR (n : Int) (L : List Int) : List Int := L.take (lo n L) ++ L.drop (lo n L + 1)
theorem insR_cons (n x : Int) (r : List Int) : insR n (x :: r) = if x < n then x :: insR n r else n :: x :: r := by
  unfold insR; rw [lo_cons]; split <;> simp
theorem delR_cons (n x : Int) (r : List Int) : delR n (x :: r) = if x < n then x :: delR n r else r := by
  unfold delR; rw [lo_cons]; split <;> simp
theorem insR_perm (n : Int) : ∀ L : List Int, (insR n L).Perm (n :: L)
  | [] => List.Perm.refl _
  | x :: r => by
    rw [insR_cons]
    split
    · exact ((insR_perm n r).cons x).trans (List.Perm.swap n x r)
    · exact List.Perm.refl _
theorem insR_srt {n : Int} : ∀ {L : List Int}, Srt L → Srt (insR n L)
  | [], _ => And.intro (fun _ h => by cases h) trivial
  | x :: r, h => by
    rw [insR_cons]
    split
    · refine ⟨fun y hy => ?_, insR_srt h.2⟩
      rcases List.mem_cons.1 ((insR_perm n r).mem_iff.1 hy) with rfl | hy
      · omega
      · exact h.1 y hy
    · refine ⟨fun y hy => ?_, h⟩
      rcases List.mem_cons.1 hy with rfl | hy
      · omega
      · have := h.1 y hy; omega
theorem del_at {n : Int} : ∀ {L : List Int}, Srt L → n ∈ L → L[lo n L]? = some n
  | x :: r, h, hm => by
    unfold lo
    split
    · rcases List.mem_cons.1 hm with rfl | hm
      · omega
      · simpa using del_at h.2 hm
    · rcases List.mem_cons.1 hm with rfl | hm
      · rfl
      · have := h.1 n hm
        simp; omega
theorem delR_perm {n : Int} : ∀ {L : List Int}, Srt L → n ∈ L → (n :: delR n L).Perm L
  | x :: r, h, hm => by
    rw [delR_cons]
    split
    · rcases List.mem_cons.1 hm with rfl | hm
      · omega
      · exact (List.Perm.swap x n _).trans ((delR_perm h.2 hm).cons x)
    · rcases List.mem_cons.1 hm with rfl | hm
      · exact List.Perm.refl _
      · have e : x = n := by have := h.1 n hm; omega
        rw [e]
theorem delR_srt {n : Int} : ∀ {L : List Int}, Srt L → n ∈ L → Srt (delR n L)
  | x :: r, h, hm => by
    rw [delR_cons]
    split
    · rcases List.mem_cons.1 hm with rfl | hm
      · omega
      · exact ⟨fun y hy => h.1 y ((delR_perm h.2 hm).mem_iff.1 (List.mem_cons_of_mem _ hy)), delR_srt h.2 hm⟩
    · exact h.2
/-- The oldest number that is read, or m. -/
def oldR (m : Int) : List Int → Int
  | [] => m
  | x :: _ => min m x
theorem oldR_le (m : Int) : ∀ L : List Int, oldR m L ≤ m
  | [] => Int.le_refl _
  | _ :: _ => Int.min_le_left _ _
theorem oldR_mem {m n : Int} : ∀ {L : List Int}, Srt L → n ∈ L → oldR m L ≤ n
  | x :: r, h, hm => by
    rcases List.mem_cons.1 hm with rfl | hm
    · exact Int.min_le_right _ _
    · have := h.1 n hm; exact Int.le_trans (Int.min_le_right m x) this
/-- Readers that have not ended (their numbers, what they read), and the numbers that are read. -/
structure RS (R : List (Int × Int)) (L : List Int) : Prop where
  srt : Srt L
  perm : L.Perm (R.map (·.2))
  one : (R.map (·.1)).Nodup
theorem RS.nil : RS [] [] := ⟨trivial, List.Perm.refl _, List.nodup_nil⟩
theorem RS.opens {R : List (Int × Int)} {L : List Int} (h : RS R L) (b n : Int) (hb : ∀ p ∈ R, p.1 ≠ b) : RS ((b, n) :: R) (insR n L) :=
  ⟨insR_srt h.srt, (insR_perm n L).trans (h.perm.cons n), by
    rw [List.map_cons, List.nodup_cons]
    refine ⟨fun hm => ?_, h.one⟩
    obtain ⟨p, hp, e⟩ := List.mem_map.1 hm
    exact hb p hp e⟩
def endR (b : Int) (R : List (Int × Int)) : List (Int × Int) := R.filter fun p => !(p.1 == b)
theorem endR_perm : ∀ {R : List (Int × Int)} {b n : Int}, (R.map (·.1)).Nodup → (b, n) ∈ R → R.Perm ((b, n) :: endR b R)
  | p :: r, b, n, h, hm => by
    rw [List.map_cons, List.nodup_cons] at h
    rcases List.mem_cons.1 hm with e | hm
    · subst e
      have : endR b ((b, n) :: r) = r := by
        unfold endR
        rw [List.filter_cons_of_neg (by simp), List.filter_eq_self]
        intro q hq
        have : q.1 ≠ b := fun e => h.1 (List.mem_map.2 ⟨q, hq, e⟩)
        simpa using this
      rw [this]
    · have hne : p.1 ≠ b := fun e => h.1 (by rw [e]; exact List.mem_map.2 ⟨_, hm, rfl⟩)
      have : endR b (p :: r) = p :: endR b r := by
        unfold endR
        rw [List.filter_cons_of_pos (by simpa using hne)]
      rw [this]
      exact ((endR_perm h.2 hm).cons p).trans (List.Perm.swap _ _ _)
theorem RS.has {R : List (Int × Int)} {L : List Int} (h : RS R L) {b n : Int} (hm : (b, n) ∈ R) : n ∈ L :=
  h.perm.mem_iff.2 (List.mem_map.2 ⟨_, hm, rfl⟩)
theorem RS.ends {R : List (Int × Int)} {L : List Int} (h : RS R L) {b n : Int} (hm : (b, n) ∈ R) : RS (endR b R) (delR n L) := by
  have hL := h.has hm
  refine ⟨delR_srt h.srt hL, ?_, ?_⟩
  · have h1 := (delR_perm h.srt hL).trans (h.perm.trans ((endR_perm h.one hm).map (·.2)))
    exact List.Perm.cons_inv h1
  · have h1 := ((endR_perm h.one hm).map (·.1)).nodup_iff.1 h.one
    rw [List.map_cons, List.nodup_cons] at h1
    exact h1.2
theorem endR_mem {R : List (Int × Int)} {b : Int} {p : Int × Int} : p ∈ endR b R ↔ p ∈ R ∧ p.1 ≠ b := by
  unfold endR; rw [List.mem_filter]; simp
/-- A number that is read bounds the oldest. -/
theorem RS.old {R : List (Int × Int)} {L : List Int} (h : RS R L) {b n : Int} (hm : (b, n) ∈ R) (m : Int) : oldR m L ≤ n := oldR_mem h.srt (h.has hm)
end Go.Proofs.YtehacdijleommaaGreatDoor
