/-
  My own text: the text of a field: the program's looks, and the document's.
-/
import Derived.Test.YtklhbhhkooddoaaT3
namespace Go.Proofs.Ytklhbhhkooddoaa
open Go.RowKit

def badAt (l : List UInt8) (j : Nat) : Bool := (l.getD j 0 == 10) && (decide (j + 1 = l.length) || l.getD (j + 1) 0 == 10 || l.getD (j + 1) 0 == 58 || l.getD (j + 1) 0 == 45)
def nlB (l : List UInt8) : Bool := (List.range l.length).any (badAt l)
def txB (l : List UInt8) : Bool := l.all fun c => inS c || c == 10
def hdB (l : List UInt8) : Bool := l.getD 0 0 == 58
def textE (l : List UInt8) (q : Bool) : Int := if !txB l then 6 else if nlB l then 4 else if !q && hdB l then 4 else 0
theorem nlB_yes {l : List UInt8} {k : Nat} (hk : k < l.length) (h : badAt l k = true) : nlB l = true := by
  unfold nlB; rw [List.any_eq_true]; exact ⟨k, List.mem_range.2 hk, h⟩
theorem nlB_no {l : List UInt8} (h : ∀ j, j < l.length → badAt l j = false) : nlB l = false := by
  unfold nlB; rw [List.any_eq_false]; intro j hj; rw [h j (List.mem_range.1 hj)]; simp
theorem u8_lit {c : UInt8} {x : Nat} (hx : c.toNat = x) (n : UInt8) {k : Int} (hn : (n.toNat : Int) = k) : ((x : Int) == k) = (c == n) := by
  rw [← hx, ← hn]; exact u8_beq c n
set_option maxRecDepth 100000 in
set_option maxHeartbeats 2000000 in
theorem tGoesOn_any (l : List UInt8) (w : World) (hl : l.length ≤ 140737488355328) :
    Calls Try.prog 57 #[.string ⟨l.toArray⟩] w fun e w' => e = .returned (.bool (!nlB l)) ∧ w' = w := by
  go_enter Try.func57, Try.ntmps57
  go_wp2_with fail
  go_loop [6] (fun i => ∃ k : Nat, k ≤ l.length ∧ i = .int .i64 k ∧ Hid (∀ j, j < k → badAt l j = false)) (fun i => l.length - (intOf i).toNat)
  case atStart => exact ⟨0, Nat.zero_le _, rfl, hide (fun j hj => by omega)⟩
  case round =>
    obtain ⟨k, hk, rfl, HA⟩ := hrel
    by_cases hlt : k < l.length
    · have hs1 : k < (⟨l.toArray⟩ : ByteArray).size := by rw [bytes_size]; exact hlt
      obtain ⟨c, hc, Hc⟩ : ∃ c, (⟨l.toArray⟩ : ByteArray)[k]'hs1 = c ∧ Hid (l.getD k 0 = c) := ⟨_, rfl, hide (getD_at hlt)⟩
      obtain ⟨x, hx⟩ : ∃ x : Nat, c.toNat = x := ⟨_, rfl⟩
      have q10 := u8_lit hx 10 (k := 10) rfl
      have HX : Hid (badAt l k = false → ∀ j, j < k + 1 → badAt l j = false) := hide (fun h j hj => by
        by_cases e : j = k
        · subst e; exact h
        · exact HA.out j (by omega))
      cases h10 : (c == 10)
      · rw [h10] at q10
        have n10 : ((x : Int) != 10) = true := by rw [bne, q10]; rfl
        have HBF : Hid (badAt l k = false) := by show _ = _; unfold badAt; rw [Hc.out, h10]; rfl
        go_wp2_with fail
        go_round
        case rel => exact ⟨k + 1, by omega, by go_num, hide (HX.out HBF.out)⟩
        case measure => simp [intOf]; omega
      · rw [h10] at q10
        have n10 : ((x : Int) != 10) = false := by rw [bne, q10]; rfl
        by_cases hend : k + 1 = l.length
        · have HY := hide (nlB_yes hlt (by unfold badAt; rw [Hc.out, h10, decide_eq_true hend]; rfl))
          have e1 : (((k : Int) + 1) == (l.length : Int)) = true := by rw [← hend]; simp
          go_wp2_with fail
          go_ret
          exact ⟨ret_b (by rw [HY.out]; rfl), rfl⟩
        · have e1 : (((k : Int) + 1) == (l.length : Int)) = false := beq_eq_false_iff_ne.2 (by omega)
          have hlt2 : k + 1 < l.length := by omega
          have hs2 : k + 1 < (⟨l.toArray⟩ : ByteArray).size := by rw [bytes_size]; exact hlt2
          obtain ⟨d, hd, Hd⟩ : ∃ c, (⟨l.toArray⟩ : ByteArray)[k + 1]'hs2 = c ∧ Hid (l.getD (k + 1) 0 = c) := ⟨_, rfl, hide (getD_at hlt2)⟩
          have HI := hide (fun W : World => tIndexByte_any [10, 58, 45] d W)
          have HN := hide (indexByte_in [10, 58, 45] d)
          have HBE : Hid (badAt l k = ([10, 58, 45] : List UInt8).contains d) := by
            show _ = _
            unfold badAt; rw [Hc.out, h10, decide_eq_false hend, Hd.out]
            simp only [List.contains_cons, List.contains_nil, Bool.true_and, Bool.false_or, Bool.or_false, Bool.or_assoc]
          obtain ⟨n, Hn⟩ : ∃ n, Hid (Lib.indexByte [10, 58, 45] d = n) := ⟨_, hide rfl⟩
          rw [Hn.out] at HI HN
          rw [← HN.out] at HBE
          cases hnn : decide (0 ≤ n)
          · rw [hnn] at HBE
            go_wp2_with fail
            refine (HI.out _).mono ?_
            rintro e w' ⟨rfl, rfl⟩
            go_wp2_with fail
            go_round
            case rel => exact ⟨k + 1, by omega, by go_num, hide (HX.out HBE.out)⟩
            case measure => simp [intOf]; omega
          · rw [hnn] at HBE
            have HY := hide (nlB_yes hlt HBE.out)
            go_wp2_with fail
            refine (HI.out _).mono ?_
            rintro e w' ⟨rfl, rfl⟩
            go_wp2_with fail
            go_ret
            exact ⟨ret_b (by rw [HY.out]; rfl), rfl⟩
    · have hk' : k = l.length := by omega
      subst hk'
      have HY := hide (nlB_no HA.out)
      go_wp2_with fail
      go_ret
      exact ⟨ret_b (by rw [HY.out]; rfl), rfl⟩
theorem hasPrefix_hd (l : List UInt8) : Lib.hasPrefix l [58] = hdB l := by
  unfold hdB
  cases l with
  | nil => rfl
  | cons c t =>
    show ((58 : UInt8) == c && List.isPrefixOf [] t) = (c == 58)
    rw [show List.isPrefixOf ([] : List UInt8) t = true by cases t <;> rfl, Bool.and_true, Bool.eq_iff_iff]
    simp only [beq_iff_eq]
    exact eq_comm
theorem txB_no {l : List UInt8} {k : Nat} (hk : k < l.length) (hb : (inS (l.getD k 0) || l.getD k 0 == 10) = false) : txB l = false := all_no (p := fun c => inS c || c == 10) hk hb
theorem txB_yes {l : List UInt8} (h : ∀ j, j < l.length → (inS (l.getD j 0) || l.getD j 0 == 10) = true) : txB l = true := all_of (p := fun c => inS c || c == 10) h
theorem bytes_beq (a b : List UInt8) : ((⟨a.toArray⟩ : ByteArray) == ⟨b.toArray⟩) = decide (a = b) := by
  show (a.toArray == b.toArray) = _
  by_cases h : a = b
  · subst h; simp
  · rw [decide_eq_false h]; simpa using h
theorem bytes_nil_t {l : List UInt8} (h : l.isEmpty = true) : ((⟨l.toArray⟩ : ByteArray) != ⟨#[]⟩) = false := by
  have h2 : l = [] := by simpa using h
  show (!((⟨l.toArray⟩ : ByteArray) == ⟨([] : List UInt8).toArray⟩)) = _
  rw [bytes_beq, decide_eq_true h2]; rfl
theorem bytes_nil_f {l : List UInt8} (h : l.isEmpty = false) : ((⟨l.toArray⟩ : ByteArray) != ⟨#[]⟩) = true := by
  have h2 : ¬ l = [] := by simpa using h
  show (!((⟨l.toArray⟩ : ByteArray) == ⟨([] : List UInt8).toArray⟩)) = _
  rw [bytes_beq, decide_eq_false h2]; rfl
end Go.Proofs.Ytklhbhhkooddoaa
