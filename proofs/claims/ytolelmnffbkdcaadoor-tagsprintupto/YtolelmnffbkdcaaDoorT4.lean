/-
  My own text: the text of a field: the program's looks, and the document's.
-/
import Derived.Test.YtolelmnffbkdcaaDoorT3
namespace Go.Proofs.YtolelmnffbkdcaaDoor
open Go.RowKit

def badAt (l : List UInt8) (j : Nat) : Bool := (l.getD j 0 == 10) && (decide (j + 1 = l.length) || l.getD (j + 1) 0 == 10 || l.getD (j + 1) 0 == 58 || l.getD (j + 1) 0 == 45)
def nlB (l : List UInt8) : Bool := (List.range l.length).any (badAt l)
def txB (l : List UInt8) : Bool := l.all fun c => inS c || c == 10
def hdB (l : List UInt8) : Bool := l.getD 0 0 == 58
def textE (l : List UInt8) (q : Bool) : Int := if !txB l then 6 else if nlB l then 4 else if !q && hdB l then 4 else 0
theorem nlB_yes {l : List UInt8} {k : Nat} (hk : k < l.length) (h : badAt l k = true) : nlB l = true := by
  unfold nlB; rw [List.any_eq_true]; exact ⟨k, List.mem_range.2 hk, h⟩
theorem nlB_no {l : List UInt8} (h : ∀ j, j < l.length → badAt l j = false) : nlB l = false := by
  unfold nlB; rw [List.any_eq_false]; intro j hj; rw [h j (List.mem_range.1 hj)]; simp
theorem u8_lit {c : UInt8} {x : Nat} (hx : c.toNat = x) (n : UInt8) {k : Int} (hn : (n.toNat : Int) = k) : ((x : Int) == k) = (c == n) := by
  rw [← hx, ← hn]; exact u8_beq c n
set_option maxRecDepth 100000 in
set_option maxHeartbeats 2000000 in
theorem tGoesOn_any (l : List UInt8) (w : World) (hl : l.length ≤ 140737488355328) :
    Calls Tryd.prog 50 #[.string ⟨l.toArray⟩] w fun e w' => e = .returned (.bool (!nlB l)) ∧ w' = w := by
  go_enter Tryd.func50, Tryd.ntmps50
  go_wp2_with fail
  go_loop [6] (fun i => ∃ k : Nat, k ≤ l.length ∧ i = .int .i64 k ∧ Hid (∀ j, j < k → badAt l j = false)) (fun i => l.length - (intOf i).toNat)
  case atStart => exact ⟨0, Nat.zero_le _, rfl, hide (fun j hj => by omega)⟩
  case round =>
    obtain ⟨k, hk, rfl, HA⟩ := hrel
    by_cases hlt : k < l.length
    · have hs1 : k < (⟨l.toArray⟩ : ByteArray).size := by rw [bytes_size]; exact hlt
      obtain ⟨c, hc, Hc⟩ : ∃ c, (⟨l.toArray⟩ : ByteArray)[k]'hs1 = c ∧ Hid (l.getD k 0 = c) := ⟨_, rfl, hide (getD_at hlt)⟩
      obtain ⟨x, hx⟩ : ∃ x : Nat, c.toNat = x := ⟨_, rfl⟩
      have q10 := u8_lit hx 10 (k := 10) rfl
      have HX : Hid (badAt l k = false → ∀ j, j < k + 1 → badAt l j = false) := hide (fun h j hj => by
        by_cases e : j = k
        · subst e; exact h
        · exact HA.out j (by omega))
      cases h10 : (c == 10)
      · rw [h10] at q10
        have n10 : ((x : Int) != 10) = true := by rw [bne, q10]; rfl
        have HBF : Hid (badAt l k = false) := by show _ = _; unfold badAt; rw [Hc.out, h10]; rfl
        go_wp2_with fail
        go_round
        case rel => exact ⟨k + 1, by omega, by go_num, hide (HX.out HBF.out)⟩
        case measure => simp [intOf]; omega
      · rw [h10] at q10
        have n10 : ((x : Int) != 10) = false := by rw [bne, q10]; rfl
        by_cases hend : k + 1 = l.length
        · have HY := hide (nlB_yes hlt (by unfold badAt; rw [Hc.out, h10, decide_eq_true hend]; rfl))
          have e1 : (((k : Int) + 1) == (l.length : Int)) = true := by rw [← hend]; simp
          go_wp2_with fail
          go_ret
          exact ⟨ret_b (by rw [HY.out]; rfl), rfl⟩
        · have e1 : (((k : Int) + 1) == (l.length : Int)) = false := beq_eq_false_iff_ne.2 (by omega)
          have hlt2 : k + 1 < l.length := by omega
          have hs2 : k + 1 < (⟨l.toArray⟩ : ByteArray).size := by rw [bytes_size]; exact hlt2
          obtain ⟨d, hd, Hd⟩ : ∃ c, (⟨l.toArray⟩ : ByteArray)[k + 1]'hs2 = c ∧ Hid (l.getD (k + 1) 0 = c) := ⟨_, rfl, hide (getD_at hlt2)⟩
          have HI := hide (fun W : World => tIndexByte_any [10, 58, 45] d W)
          have HN := hide (indexByte_in [10, 58, 45] d)
          have HBE : Hid (badAt l k = ([10, 58, 45] : List UInt8).contains d) := by
            show _ = _
            unfold badAt; rw [Hc.out, h10, decide_eq_false hend, Hd.out]
            simp only [List.contains_cons, List.contains_nil, Bool.true_and, Bool.false_or, Bool.or_false, Bool.or_assoc]
          obtain ⟨n, Hn⟩ : ∃ n, Hid (Lib.indexByte [10, 58, 45] d = n) := ⟨_, hide rfl⟩
          rw [Hn.out] at HI HN
          rw [← HN.out] at HBE
          cases hnn : decide (0 ≤ n)
          · rw [hnn] at HBE
            go_wp2_with fail
            refine (HI.out _).mono ?_
            rintro e w' ⟨rfl, rfl⟩
            go_wp2_with fail
            go_round
            case rel => exact ⟨k + 1, by omega, by go_num, hide (HX.out HBE.out)⟩
            case measure => simp [intOf]; omega
          · rw [hnn] at HBE
            have HY := hide (nlB_yes hlt HBE.out)
            go_wp2_with fail
            refine (HI.out _).mono ?_
            rintro e w' ⟨rfl, rfl⟩
            go_wp2_with fail
            go_ret
            exact ⟨ret_b (by rw [HY.out]; rfl), rfl⟩
    · have hk' : k = l.length := by omega
      subst hk'
      have HY := hide (nlB_no HA.out)
      go_wp2_with fail
      go_ret
      exact ⟨ret_b (by rw [HY.out]; rfl), rfl⟩
theorem hasPrefix_hd (l : List UInt8) : Lib.hasPrefix l [58] = hdB l := by
  unfold hdB
  cases l with
  | nil => rfl
  | cons c t =>
    show ((58 : UInt8) == c && List.isPrefixOf [] t) = (c == 58)
    rw [show List.isPrefixOf ([] : List UInt8) t = true by cases t <;> rfl, Bool.and_true, Bool.eq_iff_iff]
    simp only [beq_iff_eq]
    exact eq_comm
theorem txB_no {l : List UInt8} {k : Nat} (hk : k < l.length) (hb : (inS (l.getD k 0) || l.getD k 0 == 10) = false) : txB l = false := all_no (p := fun c => inS c || c == 10) hk hb
theorem txB_yes {l : List UInt8} (h : ∀ j, j < l.length → (inS (l.getD j 0) || l.getD j 0 == 10) = true) : txB l = true := all_of (p := fun c => inS c || c == 10) h
theorem bytes_beq (a b : List UInt8) : ((⟨a.toArray⟩ : ByteArray) == ⟨b.toArray⟩) = decide (a = b) := by
  show (a.toArray == b.toArray) = _
  by_cases h : a = b
  · subst h; simp
  · rw [decide_eq_false h]; simpa using h
theorem bytes_nil_t {l : List UInt8} (h : l.isEmpty = true) : ((⟨l.toArray⟩ : ByteArray) != ⟨#[]⟩) = false := by
  have h2 : l = [] := by simpa using h
  show (!((⟨l.toArray⟩ : ByteArray) == ⟨([] : List UInt8).toArray⟩)) = _
  rw [bytes_beq, decide_eq_true h2]; rfl
theorem bytes_nil_f {l : List UInt8} (h : l.isEmpty = false) : ((⟨l.toArray⟩ : ByteArray) != ⟨#[]⟩) = true := by
  have h2 : ¬ l = [] := by simpa using h
  show (!((⟨l.toArray⟩ : ByteArray) == ⟨([] : List UInt8).toArray⟩)) = _
  rw [bytes_beq, decide_eq_false h2]; rfl
set_option maxRecDepth 100000 in
set_option maxHeartbeats 4000000 in
theorem refText_any (l : List UInt8) (q : Bool) (w : World) (hl : l.length ≤ 140737488355328) :
    Calls Tryd.prog 32 #[.string ⟨l.toArray⟩, .bool q] w fun e w' => e = .returned (.int .i64 (textE l q)) ∧ Below w.heap.size w w' := by
  go_enter Tryd.func32, Tryd.ntmps32
  go_wp2_with fail
  go_loopw [5] (fun i wr => ∃ k : Nat, k ≤ l.length ∧ i = .int .i64 k ∧ Hid (∀ j, j < k → (inS (l.getD j 0) || l.getD j 0 == 10) = true) ∧ Hid (Below w.heap.size w wr)) (fun i _ => l.length - (intOf i).toNat)
  case atStart => exact ⟨0, Nat.zero_le _, rfl, hide (fun j hj => by omega), hide (Below.refl _ _)⟩
  case round =>
    obtain ⟨k, hk, rfl, HA, HB⟩ := hrel
    by_cases hlt : k < l.length
    · have hs1 : k < (⟨l.toArray⟩ : ByteArray).size := by rw [bytes_size]; exact hlt
      obtain ⟨c, hc, Hc⟩ : ∃ c, (⟨l.toArray⟩ : ByteArray)[k]'hs1 = c ∧ Hid (l.getD k 0 = c) := ⟨_, rfl, hide (getD_at hlt)⟩
      obtain ⟨x, hx⟩ : ∃ x : Nat, c.toNat = x := ⟨_, rfl⟩
      have q10 := u8_lit hx 10 (k := 10) rfl
      have n10 : ((x : Int) != 10) = !(c == 10) := by rw [bne, q10]
      have HI := hide (fun W : World => refIn_any c W)
      rw [hx] at HI
      have HX : Hid ((inS c || c == 10) = true → ∀ j, j < k + 1 → (inS (l.getD j 0) || l.getD j 0 == 10) = true) := hide (fun h j hj => by
        by_cases e : j = k
        · subst e; rw [Hc.out]; exact h
        · exact HA.out j (by omega))
      cases hin : inS c
      · rw [hin] at HI
        cases h10 : (c == 10)
        · rw [h10] at q10 n10
          have HN : Hid (textE l q = 6) := by
            show _ = _
            unfold textE; rw [txB_no hlt (by rw [Hc.out, hin, h10]; rfl)]; rfl
          go_wp2_with fail
          refine (HI.out _).mono ?_
          rintro e w1 ⟨rfl, hb1⟩
          have B1 := hide (HB.out.trans (hb1.mono HB.out.size))
          clear hb1
          go_wp2_with fail
          go_ret
          exact ⟨ret_i HN.out, B1.out⟩
        · rw [h10] at q10 n10
          go_wp2_with fail
          refine (HI.out _).mono ?_
          rintro e w1 ⟨rfl, hb1⟩
          have B1 := hide (HB.out.trans (hb1.mono HB.out.size))
          clear hb1
          go_wp2_with fail
          go_roundw
          case rel => exact ⟨k + 1, by omega, by go_num, hide (HX.out (by rw [hin, h10]; rfl)), B1⟩
          case measure => simp [intOf]; omega
      · rw [hin] at HI
        go_wp2_with fail
        refine (HI.out _).mono ?_
        rintro e w1 ⟨rfl, hb1⟩
        have B1 := hide (HB.out.trans (hb1.mono HB.out.size))
        clear hb1
        go_wp2_with fail
        go_roundw
        case rel => exact ⟨k + 1, by omega, by go_num, hide (HX.out (by rw [hin]; rfl)), B1⟩
        case measure => simp [intOf]; omega
    · have hk' : k = l.length := by omega
      subst hk'
      have HT := hide (txB_yes HA.out)
      clear HA
      go_wp2_with fail
      go_loop [6] (fun i => ∃ k : Nat, k ≤ l.length ∧ i = .int .i64 k ∧ Hid (∀ j, j < k → badAt l j = false)) (fun i => l.length - (intOf i).toNat)
      case atStart => exact ⟨0, Nat.zero_le _, rfl, hide (fun j hj => by omega)⟩
      case round =>
        obtain ⟨k, hk, rfl, HA⟩ := hrel
        by_cases hlt : k < l.length
        · have hs1 : k < (⟨l.toArray⟩ : ByteArray).size := by rw [bytes_size]; exact hlt
          obtain ⟨c, hc, Hc⟩ : ∃ c, (⟨l.toArray⟩ : ByteArray)[k]'hs1 = c ∧ Hid (l.getD k 0 = c) := ⟨_, rfl, hide (getD_at hlt)⟩
          obtain ⟨x, hx⟩ : ∃ x : Nat, c.toNat = x := ⟨_, rfl⟩
          have q10 := u8_lit hx 10 (k := 10) rfl
          have HX : Hid (badAt l k = false → ∀ j, j < k + 1 → badAt l j = false) := hide (fun h j hj => by
            by_cases e : j = k
            · subst e; exact h
            · exact HA.out j (by omega))
          have HYES : Hid (badAt l k = true → textE l q = 4) := hide (fun h => by unfold textE; rw [HT.out, nlB_yes hlt h]; rfl)
          cases h10 : (c == 10)
          · rw [h10] at q10
            have HBF : Hid (badAt l k = false) := by show _ = _; unfold badAt; rw [Hc.out, h10]; rfl
            go_wp2_with fail
            go_round
            case rel => exact ⟨k + 1, by omega, by go_num, hide (HX.out HBF.out)⟩
            case measure => simp [intOf]; omega
          · rw [h10] at q10
            by_cases hend : k + 1 = l.length
            · have HY := hide (HYES.out (by unfold badAt; rw [Hc.out, h10, decide_eq_true hend]; rfl))
              have e1 : (((k : Int) + 1) == (l.length : Int)) = true := by rw [← hend]; simp
              go_wp2_with fail
              go_ret
              exact ⟨ret_i HY.out, HB.out⟩
            · have e1 : (((k : Int) + 1) == (l.length : Int)) = false := beq_eq_false_iff_ne.2 (by omega)
              have hlt2 : k + 1 < l.length := by omega
              have hs2 : k + 1 < (⟨l.toArray⟩ : ByteArray).size := by rw [bytes_size]; exact hlt2
              obtain ⟨d, hd, Hd⟩ : ∃ c, (⟨l.toArray⟩ : ByteArray)[k + 1]'hs2 = c ∧ Hid (l.getD (k + 1) 0 = c) := ⟨_, rfl, hide (getD_at hlt2)⟩
              obtain ⟨y, hy⟩ : ∃ x : Nat, d.toNat = x := ⟨_, rfl⟩
              have p10 := u8_lit hy 10 (k := 10) rfl
              have p58 := u8_lit hy 58 (k := 58) rfl
              have p45 := u8_lit hy 45 (k := 45) rfl
              have HBE : Hid (badAt l k = (d == 10 || d == 58 || d == 45)) := by
                show _ = _
                unfold badAt; rw [Hc.out, h10, decide_eq_false hend, Hd.out]; rfl
              cases g1 : (d == 10)
              case true =>
                rw [g1] at p10 HBE
                go_wp2_with fail
                go_ret
                exact ⟨ret_i (HYES.out HBE.out), HB.out⟩
              cases g2 : (d == 58)
              case true =>
                rw [g1] at p10 HBE
                rw [g2] at p58 HBE
                go_wp2_with fail
                go_ret
                exact ⟨ret_i (HYES.out HBE.out), HB.out⟩
              cases g3 : (d == 45)
              case true =>
                rw [g1] at p10 HBE
                rw [g2] at p58 HBE
                rw [g3] at p45 HBE
                go_wp2_with fail
                go_ret
                exact ⟨ret_i (HYES.out HBE.out), HB.out⟩
              rw [g1] at p10 HBE
              rw [g2] at p58 HBE
              rw [g3] at p45 HBE
              go_wp2_with fail
              go_round
              case rel => exact ⟨k + 1, by omega, by go_num, hide (HX.out HBE.out)⟩
              case measure => simp [intOf]; omega
        · have hk' : k = l.length := by omega
          subst hk'
          have HNL := hide (nlB_no HA.out)
          cases q
          · cases hem : l.isEmpty
            · have hnb := bytes_nil_f hem
              have h0 : 0 < l.length := by
                cases l with
                | nil => cases hem
                | cons a b => simp
              have hs0 : 0 < (⟨l.toArray⟩ : ByteArray).size := by rw [bytes_size]; exact h0
              obtain ⟨c, hc, Hc⟩ : ∃ c, (⟨l.toArray⟩ : ByteArray)[0]'hs0 = c ∧ Hid (l.getD 0 0 = c) := ⟨_, rfl, hide (getD_at h0)⟩
              obtain ⟨x, hx⟩ : ∃ x : Nat, c.toNat = x := ⟨_, rfl⟩
              have q58 := u8_lit hx 58 (k := 58) rfl
              have HV : Hid (textE l false = if (c == 58) then 4 else 0) := by
                show _ = _
                unfold textE hdB; rw [HT.out, HNL.out, Hc.out]; rfl
              cases h58 : (c == 58)
              · rw [h58] at q58 HV
                go_wp2_with fail
                go_ret
                exact ⟨ret_i HV.out, HB.out⟩
              · rw [h58] at q58 HV
                go_wp2_with fail
                go_ret
                exact ⟨ret_i HV.out, HB.out⟩
            · have hnb := bytes_nil_t hem
              have HV : Hid (textE l false = 0) := by
                show _ = _
                have : l = [] := by simpa using hem
                unfold textE; rw [HT.out, HNL.out, this]; rfl
              go_wp2_with fail
              go_ret
              exact ⟨ret_i HV.out, HB.out⟩
          · have HV : Hid (textE l true = 0) := by
              show _ = _
              unfold textE; rw [HT.out, HNL.out]; rfl
            go_wp2_with fail
            go_ret
            exact ⟨ret_i HV.out, HB.out⟩
end Go.Proofs.YtolelmnffbkdcaaDoor
