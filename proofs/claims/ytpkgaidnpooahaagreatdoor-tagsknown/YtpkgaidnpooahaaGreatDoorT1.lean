/-
  My own text: signs of messages: the program's looks at a byte, and the document's.
-/
import Derived.Test.YtpkgaidnpooahaaGreatDoorErrV
import Derived.Test.YtpkgaidnpooahaaGreatDoorErrV
import Derived.Test.YtpkgaidnpooahaaGreatDoorShelf
import Derived.RegionTactic
import Derived.WalkSmall
import Derived.Deep.QuietTactic
import Derived.BigQuiet
namespace Go.Proofs.YtpkgaidnpooahaaGreatDoor
open Go.RowKit

theorem ret_b {a b : Bool} (h : a = b) : Ending.returned (.bool a) = .returned (.bool b) := by rw [h]
theorem ret_i {a b : Int} (h : a = b) : Ending.returned (.int .i64 b) = .returned (.int .i64 a) := by rw [h]
theorem bytes_size (l : List UInt8) : (⟨l.toArray⟩ : ByteArray).size = l.length := by simp [ByteArray.size]
def isDg (c : UInt8) : Bool := decide (48 ≤ (c.toNat : Int)) && decide ((c.toNat : Int) ≤ 57)
def isCp (c : UInt8) : Bool := decide (65 ≤ (c.toNat : Int)) && decide ((c.toNat : Int) ≤ 90)
def isLw (c : UInt8) : Bool := decide (97 ≤ (c.toNat : Int)) && decide ((c.toNat : Int) ≤ 122)
def sgn : List UInt8 := [32, 47, 45, 63, 58, 40, 41, 46, 44, 39, 43]
/-- May a message hold a byte? -/
def inS (c : UInt8) : Bool := isDg c || isCp c || isLw c || sgn.contains c
def sg (c : UInt8) : Bool := isDg c || isCp c

theorem tIsDigit_any (c : UInt8) (w : World) :
    Calls Tryz.prog 106 #[.int .u8 (c.toNat : Int)] w fun e w' => e = .returned (.bool (isDg c)) ∧ w' = w := by
  unfold isDg
  generalize c.toNat = x
  cases h1 : decide (48 ≤ (x : Int)) <;> cases h2 : decide ((x : Int) ≤ 57)
  all_goals
    go_enter Tryz.func106, Tryz.ntmps106
    go_wp2_with fail
    go_ret
    exact ⟨ret_b (by first | rfl | simp [h1, h2] | simp_all), rfl⟩
theorem tIsCapital_any (c : UInt8) (w : World) :
    Calls Tryz.prog 105 #[.int .u8 (c.toNat : Int)] w fun e w' => e = .returned (.bool (isCp c)) ∧ w' = w := by
  unfold isCp
  generalize c.toNat = x
  cases h1 : decide (65 ≤ (x : Int)) <;> cases h2 : decide ((x : Int) ≤ 90)
  all_goals
    go_enter Tryz.func105, Tryz.ntmps105
    go_wp2_with fail
    go_ret
    exact ⟨ret_b (by first | rfl | simp [h1, h2] | simp_all), rfl⟩
theorem tSign_any (c : UInt8) (w : World) :
    Calls Tryz.prog 103 #[.int .u8 (c.toNat : Int)] w fun e w' => e = .returned (.bool (sg c)) ∧ w' = w := by
  have HD := hide (tIsDigit_any c w)
  have HC := hide (tIsCapital_any c w)
  unfold sg
  cases h1 : isDg c
  · rw [h1] at HD
    go_enter Tryz.func103, Tryz.ntmps103
    go_wp2_with fail
    refine HD.out.mono ?_
    rintro e w1 ⟨rfl, rfl⟩
    go_wp2_with fail
    refine HC.out.mono ?_
    rintro e w1 ⟨rfl, rfl⟩
    go_wp2_with fail
    go_ret
    exact ⟨ret_b (by simp), rfl⟩
  · rw [h1] at HD
    go_enter Tryz.func103, Tryz.ntmps103
    go_wp2_with fail
    refine HD.out.mono ?_
    rintro e w1 ⟨rfl, rfl⟩
    go_wp2_with fail
    go_ret
    exact ⟨ret_b (by simp), rfl⟩
theorem indexByte_ge (l : List UInt8) (c : UInt8) : -1 ≤ Lib.indexByte l c := by
  induction l with
  | nil => show (-1 : Int) ≤ -1; decide
  | cons b l ih =>
    unfold Lib.indexByte
    split
    · decide
    split
    · decide
    · omega
theorem indexByte_in (l : List UInt8) (c : UInt8) : decide (0 ≤ Lib.indexByte l c) = l.contains c := by
  induction l with
  | nil => rfl
  | cons b l ih =>
    unfold Lib.indexByte
    by_cases h : b = c
    · subst h; simp
    · have hb : (b == c) = false := beq_eq_false_iff_ne.2 h
      have hb2 : (c == b) = false := beq_eq_false_iff_ne.2 (Ne.symm h)
      rw [hb, List.contains_cons, hb2, Bool.false_or, ← ih]
      have := indexByte_ge l c
      by_cases h2 : Lib.indexByte l c = -1
      · simp [h2]
      · have h3 : (Lib.indexByte l c == -1) = false := beq_eq_false_iff_ne.2 h2
        rw [h3]; simp; omega
theorem tIndexByte_any (s : List UInt8) (c : UInt8) (w : World) :
    Calls Tryz.prog 104 #[.string ⟨s.toArray⟩, .int .u8 (c.toNat : Int)] w fun e w' => e = .returned (.int .i64 (Lib.indexByte s c)) ∧ w' = w := by
  have H := hide (Tryz.stringslite_IndexByte ⟨s.toArray⟩ (c.toNat : Int) w)
  have hc : ((c.toNat : Int).toNat.toUInt8) = c := by simp
  rw [hc] at H
  dsimp only at H
  clear hc
  go_enter Tryz.func104, Tryz.ntmps104
  go_wp2_with fail
  refine H.out.mono ?_
  rintro e w1 ⟨rfl, rfl⟩
  go_wp2_with fail
  go_ret
  exact ⟨rfl, rfl⟩
set_option maxHeartbeats 1000000 in
theorem tIsOfSet_any (c : UInt8) (w : World) :
    Calls Tryz.prog 87 #[.int .u8 (c.toNat : Int)] w fun e w' => e = .returned (.bool (inS c)) ∧ w' = w := by
  have HS := hide (tSign_any c w)
  have HI := hide (tIndexByte_any sgn c w)
  have HN := hide (indexByte_in sgn c)
  obtain ⟨n, hn⟩ : ∃ n, Hid (Lib.indexByte sgn c = n) := ⟨_, hide rfl⟩
  rw [hn.out] at HI HN
  have HE : Hid (inS c = (sg c || (decide (97 ≤ (c.toNat : Int)) && decide ((c.toNat : Int) ≤ 122)) || sgn.contains c)) := hide rfl
  rw [HE.out]
  unfold sgn at HI
  have hgoal : sgn.contains c = decide (0 ≤ n) := HN.out.symm
  rw [hgoal]
  clear hgoal
  generalize c.toNat = x at *
  cases h0 : sg c
  · rw [h0] at HS
    cases h1 : decide (97 ≤ (x : Int)) <;> cases h2 : decide ((x : Int) ≤ 122) <;> cases h3 : decide (0 ≤ n)
    all_goals
      go_enter Tryz.func87, Tryz.ntmps87
      go_wp2_with fail
      refine HS.out.mono ?_
      rintro e w1 ⟨rfl, rfl⟩
      go_wp2_with fail
      try (refine HI.out.mono ?_; rintro e w1 ⟨rfl, rfl⟩; go_wp2_with fail)
      go_ret
      exact ⟨ret_b (by first | rfl | simp [h1, h2, h3] | simp_all), rfl⟩
  · rw [h0] at HS
    go_enter Tryz.func87, Tryz.ntmps87
    go_wp2_with fail
    refine HS.out.mono ?_
    rintro e w1 ⟨rfl, rfl⟩
    go_wp2_with fail
    go_ret
    exact ⟨ret_b (by simp), rfl⟩
theorem tIsOfText_any (c : UInt8) (w : World) :
    Calls Tryz.prog 92 #[.int .u8 (c.toNat : Int)] w fun e w' => e = .returned (.bool (inS c || c == 10)) ∧ w' = w := by
  have HS := hide (tIsOfSet_any c w)
  have hq : ((c.toNat : Int) == 10) = (c == 10) := by
    rw [Bool.eq_iff_iff]; simp only [beq_iff_eq]
    constructor
    · intro h; exact UInt8.toNat_inj.1 (by show c.toNat = 10; omega)
    · intro h; subst h; rfl
  generalize (c == 10) = q at *
  generalize inS c = b at *
  generalize c.toNat = x at *
  cases b
  · go_enter Tryz.func92, Tryz.ntmps92
    go_wp2_with fail
    refine HS.out.mono ?_
    rintro e w1 ⟨rfl, rfl⟩
    go_wp2_with fail
    go_ret
    exact ⟨ret_b (by first | rfl | simp), rfl⟩
  · go_enter Tryz.func92, Tryz.ntmps92
    go_wp2_with fail
    refine HS.out.mono ?_
    rintro e w1 ⟨rfl, rfl⟩
    go_wp2_with fail
    go_ret
    exact ⟨ret_b (by first | rfl | simp), rfl⟩
theorem u8_beq (a c : UInt8) : ((a.toNat : Int) == (c.toNat : Int)) = (a == c) := by
  rw [Bool.eq_iff_iff]; simp only [beq_iff_eq]
  constructor
  · intro h; exact UInt8.toNat_inj.1 (by omega)
  · intro h; subst h; rfl
def sgC : Array Value := #[.int .u8 32, .int .u8 47, .int .u8 45, .int .u8 63, .int .u8 58, .int .u8 40, .int .u8 41, .int .u8 46, .int .u8 44, .int .u8 39, .int .u8 43]
theorem sgC_at {k : Nat} (h : k < 11) : sgC[k]? = some (.int .u8 ((sgn.getD k 0).toNat : Int)) := by
  match k, h with
  | 0, _ => rfl
  | 1, _ => rfl
  | 2, _ => rfl
  | 3, _ => rfl
  | 4, _ => rfl
  | 5, _ => rfl
  | 6, _ => rfl
  | 7, _ => rfl
  | 8, _ => rfl
  | 9, _ => rfl
  | 10, _ => rfl
theorem sgn_in {c : UInt8} {k : Nat} (h : k < 11) (hc : (sgn.getD k 0 == c) = true) : sgn.contains c = true := by
  have e : sgn.getD k 0 = c := by simpa using hc
  rw [← e, List.contains_iff_mem, List.getD_eq_getElem?_getD, List.getElem?_eq_getElem (by simpa [sgn] using h)]
  exact List.getElem_mem _
theorem sgn_out {c : UInt8} (h : ∀ j, j < 11 → (sgn.getD j 0 == c) = false) : sgn.contains c = false := by
  rw [Bool.eq_false_iff, Ne, List.contains_iff_mem]
  intro hm
  obtain ⟨j, hj, e⟩ := List.getElem_of_mem hm
  have hj' : j < 11 := by simpa [sgn] using hj
  have := h j hj'
  rw [List.getD_eq_getElem?_getD, List.getElem?_eq_getElem hj] at this
  simp [e] at this
set_option maxRecDepth 100000 in
set_option maxHeartbeats 2000000 in
theorem refIn_any (c : UInt8) (w : World) :
    Calls Tryz.prog 73 #[.int .u8 (c.toNat : Int)] w fun e w' => e = .returned (.bool (inS c)) ∧ Below w.heap.size w w' := by
  have HBQ := hide (fun a : UInt8 => u8_beq a c)
  have HE : Hid (inS c = (((decide (48 ≤ (c.toNat : Int)) && decide ((c.toNat : Int) ≤ 57)) || (decide (65 ≤ (c.toNat : Int)) && decide ((c.toNat : Int) ≤ 90))) || (decide (97 ≤ (c.toNat : Int)) && decide ((c.toNat : Int) ≤ 122)) || sgn.contains c)) := hide rfl
  have HSI := hide (fun (k : Nat) (h : k < 11) => sgn_in (c := c) h)
  have HSO := hide (sgn_out (c := c))
  generalize inS c = R at *
  generalize sgn.contains c = S at *
  have key : ∀ b : Bool, Hid ((((decide (97 ≤ (c.toNat : Int)) && decide ((c.toNat : Int) ≤ 122)) || (decide (65 ≤ (c.toNat : Int)) && decide ((c.toNat : Int) ≤ 90))) || (decide (48 ≤ (c.toNat : Int)) && decide ((c.toNat : Int) ≤ 57))) = b) → Hid (R = (b || S)) := by
    intro b hb
    refine hide ?_
    rw [HE.out, ← hb.out]
    generalize (decide (48 ≤ (c.toNat : Int)) && decide ((c.toNat : Int) ≤ 57)) = a1
    generalize (decide (65 ≤ (c.toNat : Int)) && decide ((c.toNat : Int) ≤ 90)) = a2
    generalize (decide (97 ≤ (c.toNat : Int)) && decide ((c.toNat : Int) ≤ 122)) = a3
    cases a1 <;> cases a2 <;> cases a3 <;> rfl
  clear HE
  generalize c.toNat = x at *
  rcases (show x < 48 ∨ (48 ≤ x ∧ x ≤ 57) ∨ (57 < x ∧ x < 65) ∨ (65 ≤ x ∧ x ≤ 90) ∨ (90 < x ∧ x < 97) ∨ (97 ≤ x ∧ x ≤ 122) ∨ 122 < x by omega) with hx | hx | hx | hx | hx | hx | hx
  · have h1 : decide (97 ≤ (x : Int)) = false := decide_eq_false (by omega)
    have h2 : decide ((x : Int) ≤ 122) = true := decide_eq_true (by omega)
    have h3 : decide (65 ≤ (x : Int)) = false := decide_eq_false (by omega)
    have h4 : decide ((x : Int) ≤ 90) = true := decide_eq_true (by omega)
    have h5 : decide (48 ≤ (x : Int)) = false := decide_eq_false (by omega)
    have h6 : decide ((x : Int) ≤ 57) = true := decide_eq_true (by omega)
    have HR := key false (hide (by rw [h1, h2, h3, h4, h5, h6]; rfl))
    clear hx key
    go_enter Tryz.func73, Tryz.ntmps73
    go_wp2_with fail
    have B0 := hide ((Below.refl w.heap.size w).alloc (Nat.le_refl _) (.cells sgC 5))
    have N0 := (MapKept.heap_alloc w (.cells sgC 5)).1
    have hcell : ∀ k : Nat, k < 11 → (w.alloc (.cells sgC 5)).cell? ⟨w.heap.size, k, none⟩ = some (.int .u8 ((sgn.getD k 0).toNat : Int)) := fun k hk => by
      rw [cell_of_row _ _ k _ _ _ N0]; exact sgC_at hk
    have HC := hide hcell
    clear hcell N0
    unfold sgC at HC B0
    generalize w.alloc (.cells #[.int .u8 32, .int .u8 47, .int .u8 45, .int .u8 63, .int .u8 58, .int .u8 40, .int .u8 41, .int .u8 46, .int .u8 44, .int .u8 39, .int .u8 43] 5) = Y at *
    go_loop [29] (fun i => ∃ k : Nat, k ≤ 11 ∧ i = .int .i64 k ∧ Hid (∀ j, j < k → (sgn.getD j 0 == c) = false)) (fun i => 11 - (intOf i).toNat)
    case atStart => exact ⟨0, by omega, rfl, hide (fun j hj => by omega)⟩
    case round =>
      obtain ⟨k, hk, rfl, HN⟩ := hrel
      by_cases hlt : k < 11
      · have c0 := HC.out k hlt
        have hb := HBQ.out (sgn.getD k 0)
        have HI := hide (HSI.out k hlt)
        have HNX : Hid ((sgn.getD k 0 == c) = false → ∀ j, j < k + 1 → (sgn.getD j 0 == c) = false) := hide (fun h j hj => by
          by_cases e : j = k
          · subst e; exact h
          · exact HN.out j (by omega))
        generalize hy : sgn.getD k 0 = y at *
        clear hy HC HN
        cases he : (y == c)
        · rw [he] at hb
          generalize y.toNat = z at *
          go_wp2_with fail
          go_round
          case rel => exact ⟨k + 1, by omega, by go_num, hide (HNX.out he)⟩
          case measure => simp [intOf]; omega
        · rw [he] at hb
          generalize y.toNat = z at *
          go_wp2_with fail
          go_ret
          exact ⟨ret_b (by rw [HR.out, HI.out he]; rfl), B0.out⟩
      · have hk' : k = 11 := by omega
        subst hk'
        go_wp2_with fail
        go_ret
        exact ⟨ret_b (by rw [HR.out, HSO.out HN.out]; rfl), B0.out⟩
  · have h1 : decide (97 ≤ (x : Int)) = false := decide_eq_false (by omega)
    have h2 : decide ((x : Int) ≤ 122) = true := decide_eq_true (by omega)
    have h3 : decide (65 ≤ (x : Int)) = false := decide_eq_false (by omega)
    have h4 : decide ((x : Int) ≤ 90) = true := decide_eq_true (by omega)
    have h5 : decide (48 ≤ (x : Int)) = true := decide_eq_true (by omega)
    have h6 : decide ((x : Int) ≤ 57) = true := decide_eq_true (by omega)
    have HR := key true (hide (by rw [h1, h2, h3, h4, h5, h6]; rfl))
    clear hx key
    go_enter Tryz.func73, Tryz.ntmps73
    go_wp2_with fail
    go_ret
    exact ⟨ret_b (by rw [HR.out]; rfl), Below.refl _ _⟩
  · have h1 : decide (97 ≤ (x : Int)) = false := decide_eq_false (by omega)
    have h2 : decide ((x : Int) ≤ 122) = true := decide_eq_true (by omega)
    have h3 : decide (65 ≤ (x : Int)) = false := decide_eq_false (by omega)
    have h4 : decide ((x : Int) ≤ 90) = true := decide_eq_true (by omega)
    have h5 : decide (48 ≤ (x : Int)) = true := decide_eq_true (by omega)
    have h6 : decide ((x : Int) ≤ 57) = false := decide_eq_false (by omega)
    have HR := key false (hide (by rw [h1, h2, h3, h4, h5, h6]; rfl))
    clear hx key
    go_enter Tryz.func73, Tryz.ntmps73
    go_wp2_with fail
    have B0 := hide ((Below.refl w.heap.size w).alloc (Nat.le_refl _) (.cells sgC 5))
    have N0 := (MapKept.heap_alloc w (.cells sgC 5)).1
    have hcell : ∀ k : Nat, k < 11 → (w.alloc (.cells sgC 5)).cell? ⟨w.heap.size, k, none⟩ = some (.int .u8 ((sgn.getD k 0).toNat : Int)) := fun k hk => by
      rw [cell_of_row _ _ k _ _ _ N0]; exact sgC_at hk
    have HC := hide hcell
    clear hcell N0
    unfold sgC at HC B0
    generalize w.alloc (.cells #[.int .u8 32, .int .u8 47, .int .u8 45, .int .u8 63, .int .u8 58, .int .u8 40, .int .u8 41, .int .u8 46, .int .u8 44, .int .u8 39, .int .u8 43] 5) = Y at *
    go_loop [29] (fun i => ∃ k : Nat, k ≤ 11 ∧ i = .int .i64 k ∧ Hid (∀ j, j < k → (sgn.getD j 0 == c) = false)) (fun i => 11 - (intOf i).toNat)
    case atStart => exact ⟨0, by omega, rfl, hide (fun j hj => by omega)⟩
    case round =>
      obtain ⟨k, hk, rfl, HN⟩ := hrel
      by_cases hlt : k < 11
      · have c0 := HC.out k hlt
        have hb := HBQ.out (sgn.getD k 0)
        have HI := hide (HSI.out k hlt)
        have HNX : Hid ((sgn.getD k 0 == c) = false → ∀ j, j < k + 1 → (sgn.getD j 0 == c) = false) := hide (fun h j hj => by
          by_cases e : j = k
          · subst e; exact h
          · exact HN.out j (by omega))
        generalize hy : sgn.getD k 0 = y at *
        clear hy HC HN
        cases he : (y == c)
        · rw [he] at hb
          generalize y.toNat = z at *
          go_wp2_with fail
          go_round
          case rel => exact ⟨k + 1, by omega, by go_num, hide (HNX.out he)⟩
          case measure => simp [intOf]; omega
        · rw [he] at hb
          generalize y.toNat = z at *
          go_wp2_with fail
          go_ret
          exact ⟨ret_b (by rw [HR.out, HI.out he]; rfl), B0.out⟩
      · have hk' : k = 11 := by omega
        subst hk'
        go_wp2_with fail
        go_ret
        exact ⟨ret_b (by rw [HR.out, HSO.out HN.out]; rfl), B0.out⟩
  · have h1 : decide (97 ≤ (x : Int)) = false := decide_eq_false (by omega)
    have h2 : decide ((x : Int) ≤ 122) = true := decide_eq_true (by omega)
    have h3 : decide (65 ≤ (x : Int)) = true := decide_eq_true (by omega)
    have h4 : decide ((x : Int) ≤ 90) = true := decide_eq_true (by omega)
    have h5 : decide (48 ≤ (x : Int)) = true := decide_eq_true (by omega)
    have h6 : decide ((x : Int) ≤ 57) = false := decide_eq_false (by omega)
    have HR := key true (hide (by rw [h1, h2, h3, h4, h5, h6]; rfl))
    clear hx key
    go_enter Tryz.func73, Tryz.ntmps73
    go_wp2_with fail
    go_ret
    exact ⟨ret_b (by rw [HR.out]; rfl), Below.refl _ _⟩
  · have h1 : decide (97 ≤ (x : Int)) = false := decide_eq_false (by omega)
    have h2 : decide ((x : Int) ≤ 122) = true := decide_eq_true (by omega)
    have h3 : decide (65 ≤ (x : Int)) = true := decide_eq_true (by omega)
    have h4 : decide ((x : Int) ≤ 90) = false := decide_eq_false (by omega)
    have h5 : decide (48 ≤ (x : Int)) = true := decide_eq_true (by omega)
    have h6 : decide ((x : Int) ≤ 57) = false := decide_eq_false (by omega)
    have HR := key false (hide (by rw [h1, h2, h3, h4, h5, h6]; rfl))
    clear hx key
    go_enter Tryz.func73, Tryz.ntmps73
    go_wp2_with fail
    have B0 := hide ((Below.refl w.heap.size w).alloc (Nat.le_refl _) (.cells sgC 5))
    have N0 := (MapKept.heap_alloc w (.cells sgC 5)).1
    have hcell : ∀ k : Nat, k < 11 → (w.alloc (.cells sgC 5)).cell? ⟨w.heap.size, k, none⟩ = some (.int .u8 ((sgn.getD k 0).toNat : Int)) := fun k hk => by
      rw [cell_of_row _ _ k _ _ _ N0]; exact sgC_at hk
    have HC := hide hcell
    clear hcell N0
    unfold sgC at HC B0
    generalize w.alloc (.cells #[.int .u8 32, .int .u8 47, .int .u8 45, .int .u8 63, .int .u8 58, .int .u8 40, .int .u8 41, .int .u8 46, .int .u8 44, .int .u8 39, .int .u8 43] 5) = Y at *
    go_loop [29] (fun i => ∃ k : Nat, k ≤ 11 ∧ i = .int .i64 k ∧ Hid (∀ j, j < k → (sgn.getD j 0 == c) = false)) (fun i => 11 - (intOf i).toNat)
    case atStart => exact ⟨0, by omega, rfl, hide (fun j hj => by omega)⟩
    case round =>
      obtain ⟨k, hk, rfl, HN⟩ := hrel
      by_cases hlt : k < 11
      · have c0 := HC.out k hlt
        have hb := HBQ.out (sgn.getD k 0)
        have HI := hide (HSI.out k hlt)
        have HNX : Hid ((sgn.getD k 0 == c) = false → ∀ j, j < k + 1 → (sgn.getD j 0 == c) = false) := hide (fun h j hj => by
          by_cases e : j = k
          · subst e; exact h
          · exact HN.out j (by omega))
        generalize hy : sgn.getD k 0 = y at *
        clear hy HC HN
        cases he : (y == c)
        · rw [he] at hb
          generalize y.toNat = z at *
          go_wp2_with fail
          go_round
          case rel => exact ⟨k + 1, by omega, by go_num, hide (HNX.out he)⟩
          case measure => simp [intOf]; omega
        · rw [he] at hb
          generalize y.toNat = z at *
          go_wp2_with fail
          go_ret
          exact ⟨ret_b (by rw [HR.out, HI.out he]; rfl), B0.out⟩
      · have hk' : k = 11 := by omega
        subst hk'
        go_wp2_with fail
        go_ret
        exact ⟨ret_b (by rw [HR.out, HSO.out HN.out]; rfl), B0.out⟩
  · have h1 : decide (97 ≤ (x : Int)) = true := decide_eq_true (by omega)
    have h2 : decide ((x : Int) ≤ 122) = true := decide_eq_true (by omega)
    have h3 : decide (65 ≤ (x : Int)) = true := decide_eq_true (by omega)
    have h4 : decide ((x : Int) ≤ 90) = false := decide_eq_false (by omega)
    have h5 : decide (48 ≤ (x : Int)) = true := decide_eq_true (by omega)
    have h6 : decide ((x : Int) ≤ 57) = false := decide_eq_false (by omega)
    have HR := key true (hide (by rw [h1, h2, h3, h4, h5, h6]; rfl))
    clear hx key
    go_enter Tryz.func73, Tryz.ntmps73
    go_wp2_with fail
    go_ret
    exact ⟨ret_b (by rw [HR.out]; rfl), Below.refl _ _⟩
  · have h1 : decide (97 ≤ (x : Int)) = true := decide_eq_true (by omega)
    have h2 : decide ((x : Int) ≤ 122) = false := decide_eq_false (by omega)
    have h3 : decide (65 ≤ (x : Int)) = true := decide_eq_true (by omega)
    have h4 : decide ((x : Int) ≤ 90) = false := decide_eq_false (by omega)
    have h5 : decide (48 ≤ (x : Int)) = true := decide_eq_true (by omega)
    have h6 : decide ((x : Int) ≤ 57) = false := decide_eq_false (by omega)
    have HR := key false (hide (by rw [h1, h2, h3, h4, h5, h6]; rfl))
    clear hx key
    go_enter Tryz.func73, Tryz.ntmps73
    go_wp2_with fail
    have B0 := hide ((Below.refl w.heap.size w).alloc (Nat.le_refl _) (.cells sgC 5))
    have N0 := (MapKept.heap_alloc w (.cells sgC 5)).1
    have hcell : ∀ k : Nat, k < 11 → (w.alloc (.cells sgC 5)).cell? ⟨w.heap.size, k, none⟩ = some (.int .u8 ((sgn.getD k 0).toNat : Int)) := fun k hk => by
      rw [cell_of_row _ _ k _ _ _ N0]; exact sgC_at hk
    have HC := hide hcell
    clear hcell N0
    unfold sgC at HC B0
    generalize w.alloc (.cells #[.int .u8 32, .int .u8 47, .int .u8 45, .int .u8 63, .int .u8 58, .int .u8 40, .int .u8 41, .int .u8 46, .int .u8 44, .int .u8 39, .int .u8 43] 5) = Y at *
    go_loop [29] (fun i => ∃ k : Nat, k ≤ 11 ∧ i = .int .i64 k ∧ Hid (∀ j, j < k → (sgn.getD j 0 == c) = false)) (fun i => 11 - (intOf i).toNat)
    case atStart => exact ⟨0, by omega, rfl, hide (fun j hj => by omega)⟩
    case round =>
      obtain ⟨k, hk, rfl, HN⟩ := hrel
      by_cases hlt : k < 11
      · have c0 := HC.out k hlt
        have hb := HBQ.out (sgn.getD k 0)
        have HI := hide (HSI.out k hlt)
        have HNX : Hid ((sgn.getD k 0 == c) = false → ∀ j, j < k + 1 → (sgn.getD j 0 == c) = false) := hide (fun h j hj => by
          by_cases e : j = k
          · subst e; exact h
          · exact HN.out j (by omega))
        generalize hy : sgn.getD k 0 = y at *
        clear hy HC HN
        cases he : (y == c)
        · rw [he] at hb
          generalize y.toNat = z at *
          go_wp2_with fail
          go_round
          case rel => exact ⟨k + 1, by omega, by go_num, hide (HNX.out he)⟩
          case measure => simp [intOf]; omega
        · rw [he] at hb
          generalize y.toNat = z at *
          go_wp2_with fail
          go_ret
          exact ⟨ret_b (by rw [HR.out, HI.out he]; rfl), B0.out⟩
      · have hk' : k = 11 := by omega
        subst hk'
        go_wp2_with fail
        go_ret
        exact ⟨ret_b (by rw [HR.out, HSO.out HN.out]; rfl), B0.out⟩
end Go.Proofs.YtpkgaidnpooahaaGreatDoor
