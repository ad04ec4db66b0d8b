/-
  My own text: T4, T5 in one.
-/
import Derived.Test.YtpkgaidnpooahaaGreatDoorT3
import Derived.Laws.Rows
import Derived.Laws.Tables
import Derived.Deep.MidRow
namespace Go.Proofs.YtpkgaidnpooahaaGreatDoor
open Go.RowKit

def badAt (l : List UInt8) (j : Nat) : Bool := (l.getD j 0 == 10) && (decide (j + 1 = l.length) || l.getD (j + 1) 0 == 10 || l.getD (j + 1) 0 == 58 || l.getD (j + 1) 0 == 45)
def nlB (l : List UInt8) : Bool := (List.range l.length).any (badAt l)
def txB (l : List UInt8) : Bool := l.all fun c => inS c || c == 10
def hdB (l : List UInt8) : Bool := l.getD 0 0 == 58
def textE (l : List UInt8) (q : Bool) : Int := if !txB l then 6 else if nlB l then 4 else if !q && hdB l then 4 else 0
theorem nlB_yes {l : List UInt8} {k : Nat} (hk : k < l.length) (h : badAt l k = true) : nlB l = true := by
  unfold nlB; rw [List.any_eq_true]; exact ⟨k, List.mem_range.2 hk, h⟩
theorem nlB_no {l : List UInt8} (h : ∀ j, j < l.length → badAt l j = false) : nlB l = false := by
  unfold nlB; rw [List.any_eq_false]; intro j hj; rw [h j (List.mem_range.1 hj)]; simp
theorem u8_lit {c : UInt8} {x : Nat} (hx : c.toNat = x) (n : UInt8) {k : Int} (hn : (n.toNat : Int) = k) : ((x : Int) == k) = (c == n) := by
  rw [← hx, ← hn]; exact u8_beq c n
set_option maxRecDepth 100000 in
set_option maxHeartbeats 2000000 in
theorem tGoesOn_any (l : List UInt8) (w : World) (hl : l.length ≤ 140737488355328) :
    Calls Tryz.prog 93 #[.string ⟨l.toArray⟩] w fun e w' => e = .returned (.bool (!nlB l)) ∧ w' = w := by
  go_enter Tryz.func93, Tryz.ntmps93
  go_wp2_with fail
  go_loop [6] (fun i => ∃ k : Nat, k ≤ l.length ∧ i = .int .i64 k ∧ Hid (∀ j, j < k → badAt l j = false)) (fun i => l.length - (intOf i).toNat)
  case atStart => exact ⟨0, Nat.zero_le _, rfl, hide (fun j hj => by omega)⟩
  case round =>
    obtain ⟨k, hk, rfl, HA⟩ := hrel
    by_cases hlt : k < l.length
    · have hs1 : k < (⟨l.toArray⟩ : ByteArray).size := by rw [bytes_size]; exact hlt
      obtain ⟨c, hc, Hc⟩ : ∃ c, (⟨l.toArray⟩ : ByteArray)[k]'hs1 = c ∧ Hid (l.getD k 0 = c) := ⟨_, rfl, hide (getD_at hlt)⟩
      obtain ⟨x, hx⟩ : ∃ x : Nat, c.toNat = x := ⟨_, rfl⟩
      have q10 := u8_lit hx 10 (k := 10) rfl
      have HX : Hid (badAt l k = false → ∀ j, j < k + 1 → badAt l j = false) := hide (fun h j hj => by
        by_cases e : j = k
        · subst e; exact h
        · exact HA.out j (by omega))
      cases h10 : (c == 10)
      · rw [h10] at q10
        have n10 : ((x : Int) != 10) = true := by rw [bne, q10]; rfl
        have HBF : Hid (badAt l k = false) := by show _ = _; unfold badAt; rw [Hc.out, h10]; rfl
        go_wp2_with fail
        go_round
        case rel => exact ⟨k + 1, by omega, by go_num, hide (HX.out HBF.out)⟩
        case measure => simp [intOf]; omega
      · rw [h10] at q10
        have n10 : ((x : Int) != 10) = false := by rw [bne, q10]; rfl
        by_cases hend : k + 1 = l.length
        · have HY := hide (nlB_yes hlt (by unfold badAt; rw [Hc.out, h10, decide_eq_true hend]; rfl))
          have e1 : (((k : Int) + 1) == (l.length : Int)) = true := by rw [← hend]; simp
          go_wp2_with fail
          go_ret
          exact ⟨ret_b (by rw [HY.out]; rfl), rfl⟩
        · have e1 : (((k : Int) + 1) == (l.length : Int)) = false := beq_eq_false_iff_ne.2 (by omega)
          have hlt2 : k + 1 < l.length := by omega
          have hs2 : k + 1 < (⟨l.toArray⟩ : ByteArray).size := by rw [bytes_size]; exact hlt2
          obtain ⟨d, hd, Hd⟩ : ∃ c, (⟨l.toArray⟩ : ByteArray)[k + 1]'hs2 = c ∧ Hid (l.getD (k + 1) 0 = c) := ⟨_, rfl, hide (getD_at hlt2)⟩
          have HI := hide (fun W : World => tIndexByte_any [10, 58, 45] d W)
          have HN := hide (indexByte_in [10, 58, 45] d)
          have HBE : Hid (badAt l k = ([10, 58, 45] : List UInt8).contains d) := by
            show _ = _
            unfold badAt; rw [Hc.out, h10, decide_eq_false hend, Hd.out]
            simp only [List.contains_cons, List.contains_nil, Bool.true_and, Bool.false_or, Bool.or_false, Bool.or_assoc]
          obtain ⟨n, Hn⟩ : ∃ n, Hid (Lib.indexByte [10, 58, 45] d = n) := ⟨_, hide rfl⟩
          rw [Hn.out] at HI HN
          rw [← HN.out] at HBE
          cases hnn : decide (0 ≤ n)
          · rw [hnn] at HBE
            go_wp2_with fail
            refine (HI.out _).mono ?_
            rintro e w' ⟨rfl, rfl⟩
            go_wp2_with fail
            go_round
            case rel => exact ⟨k + 1, by omega, by go_num, hide (HX.out HBE.out)⟩
            case measure => simp [intOf]; omega
          · rw [hnn] at HBE
            have HY := hide (nlB_yes hlt HBE.out)
            go_wp2_with fail
            refine (HI.out _).mono ?_
            rintro e w' ⟨rfl, rfl⟩
            go_wp2_with fail
            go_ret
            exact ⟨ret_b (by rw [HY.out]; rfl), rfl⟩
    · have hk' : k = l.length := by omega
      subst hk'
      have HY := hide (nlB_no HA.out)
      go_wp2_with fail
      go_ret
      exact ⟨ret_b (by rw [HY.out]; rfl), rfl⟩
theorem hasPrefix_hd (l : List UInt8) : Lib.hasPrefix l [58] = hdB l := by
  unfold hdB
  cases l with
  | nil => rfl
  | cons c t =>
    show ((58 : UInt8) == c && List.isPrefixOf [] t) = (c == 58)
    rw [show List.isPrefixOf ([] : List UInt8) t = true by cases t <;> rfl, Bool.and_true, Bool.eq_iff_iff]
    simp only [beq_iff_eq]
    exact eq_comm
theorem txB_no {l : List UInt8} {k : Nat} (hk : k < l.length) (hb : (inS (l.getD k 0) || l.getD k 0 == 10) = false) : txB l = false := all_no (p := fun c => inS c || c == 10) hk hb
theorem txB_yes {l : List UInt8} (h : ∀ j, j < l.length → (inS (l.getD j 0) || l.getD j 0 == 10) = true) : txB l = true := all_of (p := fun c => inS c || c == 10) h
theorem bytes_beq (a b : List UInt8) : ((⟨a.toArray⟩ : ByteArray) == ⟨b.toArray⟩) = decide (a = b) := by
  show (a.toArray == b.toArray) = _
  by_cases h : a = b
  · subst h; simp
  · rw [decide_eq_false h]; simpa using h
theorem bytes_nil_t {l : List UInt8} (h : l.isEmpty = true) : ((⟨l.toArray⟩ : ByteArray) != ⟨#[]⟩) = false := by
  have h2 : l = [] := by simpa using h
  show (!((⟨l.toArray⟩ : ByteArray) == ⟨([] : List UInt8).toArray⟩)) = _
  rw [bytes_beq, decide_eq_true h2]; rfl
theorem bytes_nil_f {l : List UInt8} (h : l.isEmpty = false) : ((⟨l.toArray⟩ : ByteArray) != ⟨#[]⟩) = true := by
  have h2 : ¬ l = [] := by simpa using h
  show (!((⟨l.toArray⟩ : ByteArray) == ⟨([] : List UInt8).toArray⟩)) = _
  rw [bytes_beq, decide_eq_false h2]; rfl
set_option maxRecDepth 100000 in
set_option maxHeartbeats 4000000 in
theorem refText_any (l : List UInt8) (q : Bool) (w : World) (hl : l.length ≤ 140737488355328) :
    Calls Tryz.prog 101 #[.string ⟨l.toArray⟩, .bool q] w fun e w' => e = .returned (.int .i64 (textE l q)) ∧ Below w.heap.size w w' := by
  go_enter Tryz.func101, Tryz.ntmps101
  go_wp2_with fail
  go_loopw [5] (fun i wr => ∃ k : Nat, k ≤ l.length ∧ i = .int .i64 k ∧ Hid (∀ j, j < k → (inS (l.getD j 0) || l.getD j 0 == 10) = true) ∧ Hid (Below w.heap.size w wr)) (fun i _ => l.length - (intOf i).toNat)
  case atStart => exact ⟨0, Nat.zero_le _, rfl, hide (fun j hj => by omega), hide (Below.refl _ _)⟩
  case round =>
    obtain ⟨k, hk, rfl, HA, HB⟩ := hrel
    by_cases hlt : k < l.length
    · have hs1 : k < (⟨l.toArray⟩ : ByteArray).size := by rw [bytes_size]; exact hlt
      obtain ⟨c, hc, Hc⟩ : ∃ c, (⟨l.toArray⟩ : ByteArray)[k]'hs1 = c ∧ Hid (l.getD k 0 = c) := ⟨_, rfl, hide (getD_at hlt)⟩
      obtain ⟨x, hx⟩ : ∃ x : Nat, c.toNat = x := ⟨_, rfl⟩
      have q10 := u8_lit hx 10 (k := 10) rfl
      have n10 : ((x : Int) != 10) = !(c == 10) := by rw [bne, q10]
      have HI := hide (fun W : World => refIn_any c W)
      rw [hx] at HI
      have HX : Hid ((inS c || c == 10) = true → ∀ j, j < k + 1 → (inS (l.getD j 0) || l.getD j 0 == 10) = true) := hide (fun h j hj => by
        by_cases e : j = k
        · subst e; rw [Hc.out]; exact h
        · exact HA.out j (by omega))
      cases hin : inS c
      · rw [hin] at HI
        cases h10 : (c == 10)
        · rw [h10] at q10 n10
          have HN : Hid (textE l q = 6) := by
            show _ = _
            unfold textE; rw [txB_no hlt (by rw [Hc.out, hin, h10]; rfl)]; rfl
          go_wp2_with fail
          refine (HI.out _).mono ?_
          rintro e w1 ⟨rfl, hb1⟩
          have B1 := hide (HB.out.trans (hb1.mono HB.out.size))
          clear hb1
          go_wp2_with fail
          go_ret
          exact ⟨ret_i HN.out, B1.out⟩
        · rw [h10] at q10 n10
          go_wp2_with fail
          refine (HI.out _).mono ?_
          rintro e w1 ⟨rfl, hb1⟩
          have B1 := hide (HB.out.trans (hb1.mono HB.out.size))
          clear hb1
          go_wp2_with fail
          go_roundw
          case rel => exact ⟨k + 1, by omega, by go_num, hide (HX.out (by rw [hin, h10]; rfl)), B1⟩
          case measure => simp [intOf]; omega
      · rw [hin] at HI
        go_wp2_with fail
        refine (HI.out _).mono ?_
        rintro e w1 ⟨rfl, hb1⟩
        have B1 := hide (HB.out.trans (hb1.mono HB.out.size))
        clear hb1
        go_wp2_with fail
        go_roundw
        case rel => exact ⟨k + 1, by omega, by go_num, hide (HX.out (by rw [hin]; rfl)), B1⟩
        case measure => simp [intOf]; omega
    · have hk' : k = l.length := by omega
      subst hk'
      have HT := hide (txB_yes HA.out)
      clear HA
      go_wp2_with fail
      go_loop [6] (fun i => ∃ k : Nat, k ≤ l.length ∧ i = .int .i64 k ∧ Hid (∀ j, j < k → badAt l j = false)) (fun i => l.length - (intOf i).toNat)
      case atStart => exact ⟨0, Nat.zero_le _, rfl, hide (fun j hj => by omega)⟩
      case round =>
        obtain ⟨k, hk, rfl, HA⟩ := hrel
        by_cases hlt : k < l.length
        · have hs1 : k < (⟨l.toArray⟩ : ByteArray).size := by rw [bytes_size]; exact hlt
          obtain ⟨c, hc, Hc⟩ : ∃ c, (⟨l.toArray⟩ : ByteArray)[k]'hs1 = c ∧ Hid (l.getD k 0 = c) := ⟨_, rfl, hide (getD_at hlt)⟩
          obtain ⟨x, hx⟩ : ∃ x : Nat, c.toNat = x := ⟨_, rfl⟩
          have q10 := u8_lit hx 10 (k := 10) rfl
          have HX : Hid (badAt l k = false → ∀ j, j < k + 1 → badAt l j = false) := hide (fun h j hj => by
            by_cases e : j = k
            · subst e; exact h
            · exact HA.out j (by omega))
          have HYES : Hid (badAt l k = true → textE l q = 4) := hide (fun h => by unfold textE; rw [HT.out, nlB_yes hlt h]; rfl)
          cases h10 : (c == 10)
          · rw [h10] at q10
            have HBF : Hid (badAt l k = false) := by show _ = _; unfold badAt; rw [Hc.out, h10]; rfl
            go_wp2_with fail
            go_round
            case rel => exact ⟨k + 1, by omega, by go_num, hide (HX.out HBF.out)⟩
            case measure => simp [intOf]; omega
          · rw [h10] at q10
            by_cases hend : k + 1 = l.length
            · have HY := hide (HYES.out (by unfold badAt; rw [Hc.out, h10, decide_eq_true hend]; rfl))
              have e1 : (((k : Int) + 1) == (l.length : Int)) = true := by rw [← hend]; simp
              go_wp2_with fail
              go_ret
              exact ⟨ret_i HY.out, HB.out⟩
            · have e1 : (((k : Int) + 1) == (l.length : Int)) = false := beq_eq_false_iff_ne.2 (by omega)
              have hlt2 : k + 1 < l.length := by omega
              have hs2 : k + 1 < (⟨l.toArray⟩ : ByteArray).size := by rw [bytes_size]; exact hlt2
              obtain ⟨d, hd, Hd⟩ : ∃ c, (⟨l.toArray⟩ : ByteArray)[k + 1]'hs2 = c ∧ Hid (l.getD (k + 1) 0 = c) := ⟨_, rfl, hide (getD_at hlt2)⟩
              obtain ⟨y, hy⟩ : ∃ x : Nat, d.toNat = x := ⟨_, rfl⟩
              have p10 := u8_lit hy 10 (k := 10) rfl
              have p58 := u8_lit hy 58 (k := 58) rfl
              have p45 := u8_lit hy 45 (k := 45) rfl
              have HBE : Hid (badAt l k = (d == 10 || d == 58 || d == 45)) := by
                show _ = _
                unfold badAt; rw [Hc.out, h10, decide_eq_false hend, Hd.out]; rfl
              cases g1 : (d == 10)
              case true =>
                rw [g1] at p10 HBE
                go_wp2_with fail
                go_ret
                exact ⟨ret_i (HYES.out HBE.out), HB.out⟩
              cases g2 : (d == 58)
              case true =>
                rw [g1] at p10 HBE
                rw [g2] at p58 HBE
                go_wp2_with fail
                go_ret
                exact ⟨ret_i (HYES.out HBE.out), HB.out⟩
              cases g3 : (d == 45)
              case true =>
                rw [g1] at p10 HBE
                rw [g2] at p58 HBE
                rw [g3] at p45 HBE
                go_wp2_with fail
                go_ret
                exact ⟨ret_i (HYES.out HBE.out), HB.out⟩
              rw [g1] at p10 HBE
              rw [g2] at p58 HBE
              rw [g3] at p45 HBE
              go_wp2_with fail
              go_round
              case rel => exact ⟨k + 1, by omega, by go_num, hide (HX.out HBE.out)⟩
              case measure => simp [intOf]; omega
        · have hk' : k = l.length := by omega
          subst hk'
          have HNL := hide (nlB_no HA.out)
          cases q
          · cases hem : l.isEmpty
            · have hnb := bytes_nil_f hem
              have h0 : 0 < l.length := by
                cases l with
                | nil => cases hem
                | cons a b => simp
              have hs0 : 0 < (⟨l.toArray⟩ : ByteArray).size := by rw [bytes_size]; exact h0
              obtain ⟨c, hc, Hc⟩ : ∃ c, (⟨l.toArray⟩ : ByteArray)[0]'hs0 = c ∧ Hid (l.getD 0 0 = c) := ⟨_, rfl, hide (getD_at h0)⟩
              obtain ⟨x, hx⟩ : ∃ x : Nat, c.toNat = x := ⟨_, rfl⟩
              have q58 := u8_lit hx 58 (k := 58) rfl
              have HV : Hid (textE l false = if (c == 58) then 4 else 0) := by
                show _ = _
                unfold textE hdB; rw [HT.out, HNL.out, Hc.out]; rfl
              cases h58 : (c == 58)
              · rw [h58] at q58 HV
                go_wp2_with fail
                go_ret
                exact ⟨ret_i HV.out, HB.out⟩
              · rw [h58] at q58 HV
                go_wp2_with fail
                go_ret
                exact ⟨ret_i HV.out, HB.out⟩
            · have hnb := bytes_nil_t hem
              have HV : Hid (textE l false = 0) := by
                show _ = _
                have : l = [] := by simpa using hem
                unfold textE; rw [HT.out, HNL.out, this]; rfl
              go_wp2_with fail
              go_ret
              exact ⟨ret_i HV.out, HB.out⟩
          · have HV : Hid (textE l true = 0) := by
              show _ = _
              unfold textE; rw [HT.out, HNL.out]; rfl
            go_wp2_with fail
            go_ret
            exact ⟨ret_i HV.out, HB.out⟩
end Go.Proofs.YtpkgaidnpooahaaGreatDoor
namespace Go.Proofs.YtpkgaidnpooahaaGreatDoor
open Go.RowKit

/-- The texts of an item. -/
structure Itm where
  tag : List UInt8
  qual : List UInt8
  text : List UInt8
  name : List UInt8
def iC (i : Itm) (v : Value) : Array Value := #[.string ⟨i.tag.toArray⟩, .string ⟨i.qual.toArray⟩, .string ⟨i.text.toArray⟩, .string ⟨i.name.toArray⟩, v]
structure IOk (i : Itm) : Prop where
  tag : i.tag.length ≤ 140737488355328
  qual : i.qual.length ≤ 140737488355328
  text : i.text.length ≤ 140737488355328
  name : i.name.length ≤ 140737488355328
def Ix (w : World) (g : Nat) (i : Itm) (v : Value) : Prop := w.heap[g]? = some (.cells (iC i v) 25 (0, 0))
theorem alloc_new (w : World) (o : Obj) : (w.alloc o).heap[w.heap.size]? = some o := (MapKept.heap_alloc w o).1
theorem alloc_block {w : World} {b : Nat} {o x : Obj} (hh : w.heap[b]? = some x) : (w.alloc o).heap[b]? = some x := by
  have hlt : b < w.heap.size := (Array.getElem?_eq_some_iff.1 hh).1
  have := (Below.refl w.heap.size w).alloc (Nat.le_refl _) o
  rw [this.block b hlt]; exact hh
theorem Ix.lt {w : World} {g : Nat} {i : Itm} {v : Value} (h : Ix w g i v) : g < w.heap.size := (Array.getElem?_eq_some_iff.1 h).1
theorem Ix.later {w w' : World} {g : Nat} {i : Itm} {v : Value} (h : Ix w g i v) (hb : Below w.heap.size w w') : Ix w' g i v := (hb.block g h.lt).trans h
theorem Ix.new (w : World) (i : Itm) (v : Value) : Ix (w.alloc (.cells (iC i v) 25)) w.heap.size i v := alloc_new w _
theorem Ix.alloc {w : World} {g : Nat} {i : Itm} {v : Value} (h : Ix w g i v) (o : Obj) : Ix (w.alloc o) g i v := alloc_block h
theorem Ix.tag {w : World} {g : Nat} {i : Itm} {v : Value} (h : Ix w g i v) (_ : True) : w.cell? ⟨g, 0, none⟩ = some (.string ⟨i.tag.toArray⟩) := by rw [cell_of_row _ _ 0 _ _ _ h]; rfl
theorem Ix.qual {w : World} {g : Nat} {i : Itm} {v : Value} (h : Ix w g i v) (_ : True) : w.cell? ⟨g, 1, none⟩ = some (.string ⟨i.qual.toArray⟩) := by rw [cell_of_row _ _ 1 _ _ _ h]; rfl
theorem Ix.text {w : World} {g : Nat} {i : Itm} {v : Value} (h : Ix w g i v) (_ : True) : w.cell? ⟨g, 2, none⟩ = some (.string ⟨i.text.toArray⟩) := by rw [cell_of_row _ _ 2 _ _ _ h]; rfl
theorem Ix.name {w : World} {g : Nat} {i : Itm} {v : Value} (h : Ix w g i v) (_ : True) : w.cell? ⟨g, 3, none⟩ = some (.string ⟨i.name.toArray⟩) := by rw [cell_of_row _ _ 3 _ _ _ h]; rfl
theorem Ix.items {w : World} {g : Nat} {i : Itm} {v : Value} (h : Ix w g i v) (_ : True) : w.cell? ⟨g, 4, none⟩ = some v := by rw [cell_of_row _ _ 4 _ _ _ h]; rfl
theorem same_below {P : Program} {f : FuncId} {args : Array Value} {w : World} {v : Value} (h : Calls P f args w fun e w' => e = .returned v ∧ w' = w) : Calls P f args w fun e w' => e = .returned v ∧ Below w.heap.size w w' :=
  h.mono (fun _ _ h => ⟨h.1, h.2 ▸ Below.refl _ _⟩)
def fE (tg qe ql ne ke tx nl hd : Bool) : Int := if !tg then 4 else if !qe && !ql then 4 else if !ne then 4 else if !ke then 4 else if !tx then 6 else if nl then 4 else if qe && hd then 4 else 0
/-- What is wrong with a field. -/
def fieldE (i : Itm) (n : Nat) : Int := fE (tagB i.tag) i.qual.isEmpty (qualB i.qual) i.name.isEmpty (decide (n = 0)) (txB i.text) (nlB i.text) (hdB i.text)
def bE (dp nm qe te : Bool) : Int := if dp then 5 else if !nm then 4 else if !qe then 4 else if !te then 4 else 0
/-- What is wrong with a block. -/
def blockE (i : Itm) (d : Int) : Int := bE (decide (8 ≤ d)) (nameB i.name) i.qual.isEmpty i.text.isEmpty
/-- What is wrong with an item. -/
def itemE (i : Itm) (n : Nat) (d : Int) : Int := if !i.tag.isEmpty then fieldE i n else if i.name.isEmpty then 24 else blockE i d
theorem str_eq_t {l : List UInt8} (h : l.isEmpty = true) : ((⟨l.toArray⟩ : ByteArray) == ⟨#[]⟩) = true := by
  have := bytes_nil_t h; rw [bne] at this; simpa using this
theorem str_eq_f {l : List UInt8} (h : l.isEmpty = false) : ((⟨l.toArray⟩ : ByteArray) == ⟨#[]⟩) = false := by
  have := bytes_nil_f h; rw [bne] at this; simpa using this
theorem ret_fE {i : Itm} {n : Nat} {k : Int} {v : Value} (h : fieldE i n = k) (hv : v = errV k) : Ending.returned v = .returned (errV (fieldE i n)) := by rw [h, hv]
theorem ret_bE {i : Itm} {d k : Int} {v : Value} (h : blockE i d = k) (hv : v = errV k) : Ending.returned v = .returned (errV (blockE i d)) := by rw [h, hv]
theorem below_dN {B : Nat} {a w : World} (h : Below B a w) (n : Nat) : Below B a (w.drewN n) := h.trans ⟨rfl, rfl, rfl, Nat.le_refl _, fun _ _ => rfl⟩
theorem isField_any (i : Itm) (v : Value) (w : World) :
    Calls Tryz.prog 44 #[.agg (iC i v)] w fun e w' => e = .returned (.bool (!i.tag.isEmpty)) ∧ Below w.heap.size w w' := by
  have HLC : Hid True := hide trivial
  have X0 := hide (Ix.new w i v)
  have B0 := hide ((Below.refl w.heap.size w).alloc (Nat.le_refl _) (.cells (iC i v) 25))
  have z0 := X0.out.tag trivial
  cases h : i.tag.isEmpty
  · have h1 := bytes_nil_f h
    have h2 := str_eq_f h
    go_enter Tryz.func44, Tryz.ntmps44
    go_wp2_with fail
    go_ret
    exact ⟨ret_b (by first | rfl | simp), B0.out⟩
  · have h1 := bytes_nil_t h
    have h2 := str_eq_t h
    go_enter Tryz.func44, Tryz.ntmps44
    go_wp2_with fail
    go_ret
    exact ⟨ret_b (by first | rfl | simp), B0.out⟩
theorem isBlock_any (i : Itm) (v : Value) (w : World) :
    Calls Tryz.prog 48 #[.agg (iC i v)] w fun e w' => e = .returned (.bool (i.tag.isEmpty && !i.name.isEmpty)) ∧ Below w.heap.size w w' := by
  have HLC : Hid True := hide trivial
  have X0 := hide (Ix.new w i v)
  have B0 := hide ((Below.refl w.heap.size w).alloc (Nat.le_refl _) (.cells (iC i v) 25))
  have z0 := X0.out.tag trivial
  have z3 := X0.out.name trivial
  cases h : i.tag.isEmpty
  · have h1 := bytes_nil_f h
    have h2 := str_eq_f h
    go_enter Tryz.func48, Tryz.ntmps48
    go_wp2_with fail
    go_ret
    exact ⟨ret_b (by first | rfl | simp), B0.out⟩
  · have h1 := bytes_nil_t h
    have h2 := str_eq_t h
    cases g : i.name.isEmpty
    · have g1 := bytes_nil_f g
      go_enter Tryz.func48, Tryz.ntmps48
      go_wp2_with fail
      go_ret
      exact ⟨ret_b (by first | rfl | simp), B0.out⟩
    · have g1 := bytes_nil_t g
      go_enter Tryz.func48, Tryz.ntmps48
      go_wp2_with fail
      go_ret
      exact ⟨ret_b (by first | rfl | simp), B0.out⟩
set_option maxRecDepth 100000 in
set_option maxHeartbeats 4000000 in
theorem checkBlock_any (i : Itm) (v : Value) (d : Int) (w : World) (hi : IOk i) :
    Calls Tryz.prog 71 #[.agg (iC i v), .int .i64 d] w fun e w' => e = .returned (errV (blockE i d)) ∧ Below w.heap.size w w' := by
  have HLC : Hid True := hide trivial
  have X0 := hide (Ix.new w i v)
  have B0 := hide ((Below.refl w.heap.size w).alloc (Nat.le_refl _) (.cells (iC i v) 25))
  have HNM := hide (fun W : World => same_below (tIsName_any i.name W hi.name))
  clear hi
  go_enter Tryz.func71, Tryz.ntmps71
  cases hdp : decide (8 ≤ d)
  · skip
    cases hnm : nameB i.name
    · rw [hnm] at HNM
      have zname := X0.out.name HLC.out
      go_wp2_with (fail)
      refine (HNM.out _).mono ?_
      rintro e w1 ⟨rfl, hb1⟩
      have X1 := hide (X0.out.later hb1)
      have B1 := hide (B0.out.trans (hb1.mono B0.out.size))
      clear hb1 X0 B0 zname
      go_wp2_with (fail)
      go_ret
      exact ⟨ret_bE (k := 4) (by simp [blockE, bE, hdp, hnm]) rfl, B1.out⟩
    · rw [hnm] at HNM
      have zname := X0.out.name HLC.out
      go_wp2_with (fail)
      refine (HNM.out _).mono ?_
      rintro e w1 ⟨rfl, hb1⟩
      have X1 := hide (X0.out.later hb1)
      have B1 := hide (B0.out.trans (hb1.mono B0.out.size))
      clear hb1 X0 B0 zname
      cases hqe : i.qual.isEmpty
      · have hqb := bytes_nil_f hqe
        have zqual := X1.out.qual HLC.out
        have ztext := X1.out.text HLC.out
        go_wp2_with (fail)
        go_ret
        exact ⟨ret_bE (k := 4) (by simp [blockE, bE, hdp, hnm, hqe]) rfl, B1.out⟩
      · have hqb := bytes_nil_t hqe
        cases hte : i.text.isEmpty
        · have htb := bytes_nil_f hte
          have zqual := X1.out.qual HLC.out
          have ztext := X1.out.text HLC.out
          go_wp2_with (fail)
          go_ret
          exact ⟨ret_bE (k := 4) (by simp [blockE, bE, hdp, hnm, hqe, hte]) rfl, B1.out⟩
        · have htb := bytes_nil_t hte
          have zqual := X1.out.qual HLC.out
          have ztext := X1.out.text HLC.out
          go_wp2_with (fail)
          go_ret
          exact ⟨ret_bE (k := 0) (by simp [blockE, bE, hdp, hnm, hqe, hte]) rfl, B1.out⟩
  · skip
    go_wp2_with (fail)
    go_ret
    exact ⟨ret_bE (k := 5) (by simp [blockE, bE, hdp]) rfl, B0.out⟩
set_option maxRecDepth 100000 in
set_option maxHeartbeats 4000000 in
theorem checkField_any (i : Itm) (n cap : Nat) (a : Option Addr) (w : World) (hi : IOk i) :
    Calls Tryz.prog 70 #[.agg (iC i (.slice a n cap))] w fun e w' => e = .returned (errV (fieldE i n)) ∧ Below w.heap.size w w' := by
  have HLC : Hid True := hide trivial
  have X0 := hide (Ix.new w i (.slice a n cap))
  have B0 := hide ((Below.refl w.heap.size w).alloc (Nat.le_refl _) (.cells (iC i (.slice a n cap)) 25))
  have HTG := hide (fun W : World => same_below (tIsTag_any i.tag W hi.tag))
  have HQL := hide (fun W : World => same_below (tIsQual_any i.qual W hi.qual))
  have HFI := hide (fun W : World => firstTx_any i.text W hi.text)
  have HGO := hide (fun W : World => same_below (tGoesOn_any i.text W hi.text))
  have HHP := hide (fun W : World => same_below (Tryz.strings_HasPrefix ⟨i.text.toArray⟩ ⟨#[58]⟩ W))
  have hpp : Lib.hasPrefix (⟨i.text.toArray⟩ : ByteArray).data.toList (⟨#[58]⟩ : ByteArray).data.toList = hdB i.text := hasPrefix_hd i.text
  rw [hpp] at HHP
  obtain ⟨m, Hm⟩ : ∃ m, Hid (fstNot (fun c => inS c || c == 10) i.text = m) := ⟨_, hide rfl⟩
  rw [Hm.out] at HFI
  have HFN : Hid (decide (m < i.text.length) = !txB i.text) := by
    show _ = _
    have h1 := fstNot_eq (fun c => inS c || c == 10) i.text
    have h2 := fstNot_le (fun c => inS c || c == 10) i.text
    rw [Hm.out] at h1 h2
    unfold txB
    rw [← h1, ← decide_not]
    exact decide_eq_decide.2 (by omega)
  clear hi hpp Hm
  go_enter Tryz.func70, Tryz.ntmps70
  cases htg : tagB i.tag
  · rw [htg] at HTG
    have ztag := X0.out.tag HLC.out
    go_wp2_with (fail)
    refine (HTG.out _).mono ?_
    rintro e w1 ⟨rfl, hb1⟩
    have X1 := hide (X0.out.later hb1)
    have B1 := hide (B0.out.trans (hb1.mono B0.out.size))
    clear hb1 X0 B0 ztag
    go_wp2_with (fail)
    go_ret
    exact ⟨ret_fE (k := 4) (by simp [fieldE, fE, htg]) rfl, B1.out⟩
  · rw [htg] at HTG
    have ztag := X0.out.tag HLC.out
    go_wp2_with (fail)
    refine (HTG.out _).mono ?_
    rintro e w1 ⟨rfl, hb1⟩
    have X1 := hide (X0.out.later hb1)
    have B1 := hide (B0.out.trans (hb1.mono B0.out.size))
    clear hb1 X0 B0 ztag
    cases hqe : i.qual.isEmpty
    · have hqb := bytes_nil_f hqe
      have hqc := str_eq_f hqe
      cases hql : qualB i.qual
      · rw [hql] at HQL
        have zqual := X1.out.qual HLC.out
        go_wp2_with (fail)
        refine (HQL.out _).mono ?_
        rintro e w2 ⟨rfl, hb2⟩
        have X2 := hide (X1.out.later hb2)
        have B2 := hide (B1.out.trans (hb2.mono B1.out.size))
        clear hb2 X1 B1 zqual
        go_wp2_with (fail)
        go_ret
        exact ⟨ret_fE (k := 4) (by simp [fieldE, fE, htg, hqe, hql]) rfl, B2.out⟩
      · rw [hql] at HQL
        have zqual := X1.out.qual HLC.out
        go_wp2_with (fail)
        refine (HQL.out _).mono ?_
        rintro e w2 ⟨rfl, hb2⟩
        have X2 := hide (X1.out.later hb2)
        have B2 := hide (B1.out.trans (hb2.mono B1.out.size))
        clear hb2 X1 B1 zqual
        cases hne : i.name.isEmpty
        · have hnb := bytes_nil_f hne
          have zname := X2.out.name HLC.out
          have zitems := X2.out.items HLC.out
          go_wp2_with (fail)
          go_ret
          exact ⟨ret_fE (k := 4) (by simp [fieldE, fE, htg, hqe, hql, hne]) rfl, B2.out⟩
        · have hnb := bytes_nil_t hne
          cases hke : decide (n = 0)
          · have hkb : decide (0 < n) = true := decide_eq_true (by have := of_decide_eq_false hke; omega)
            have zname := X2.out.name HLC.out
            have zitems := X2.out.items HLC.out
            go_wp2_with (fail)
            go_ret
            exact ⟨ret_fE (k := 4) (by simp [fieldE, fE, htg, hqe, hql, hne, hke]) rfl, B2.out⟩
          · have hkb : decide (0 < n) = false := decide_eq_false (by have := of_decide_eq_true hke; omega)
            have zname := X2.out.name HLC.out
            have zitems := X2.out.items HLC.out
            have ztext := X2.out.text trivial
            cases htx : txB i.text
            · have htm : decide (m < i.text.length) = true := by rw [HFN.out, htx]; rfl
              go_wp2_with (fail)
              have HRD := hide (fun W : World => HFI.out W)
              go_quiet (first | (go_at_call 86; exact Calls.quiet_of_same (HRD.out _)))
              have X3 : Hid (Ix (w2.drewN nq) w.heap.size i (.slice a n cap)) := hide X2.out
              have B3 : Hid (Below w.heap.size w (w2.drewN nq)) := hide (below_dN B2.out _)
              clear X2 B2 ztext
              generalize w2.drewN nq = w3 at *
              go_wp2_with (fail)
              go_ret
              exact ⟨ret_fE (k := 6) (by simp [fieldE, fE, htg, hqe, hql, hne, hke, htx]) rfl, B3.out⟩
            · have htm : decide (m < i.text.length) = false := by rw [HFN.out, htx]; rfl
              go_wp2_with (fail)
              have HRD := hide (fun W : World => HFI.out W)
              go_quiet (first | (go_at_call 86; exact Calls.quiet_of_same (HRD.out _)))
              have X3 : Hid (Ix (w2.drewN nq) w.heap.size i (.slice a n cap)) := hide X2.out
              have B3 : Hid (Below w.heap.size w (w2.drewN nq)) := hide (below_dN B2.out _)
              clear X2 B2 ztext
              generalize w2.drewN nq = w3 at *
              cases hnl : nlB i.text
              · rw [hnl] at HGO
                try dsimp only [Bool.not_false] at HGO
                have zqual := X3.out.qual HLC.out
                have ztext := X3.out.text HLC.out
                go_wp2_with (fail)
                refine (HGO.out _).mono ?_
                rintro e w4 ⟨rfl, hb4⟩
                have X4 := hide (X3.out.later hb4)
                have B4 := hide (B3.out.trans (hb4.mono B3.out.size))
                clear hb4 X3 B3 zqual ztext
                go_wp2_with (fail)
                go_ret
                exact ⟨ret_fE (k := 0) (by simp [fieldE, fE, htg, hqe, hql, hne, hke, htx, hnl]) rfl, B4.out⟩
              · rw [hnl] at HGO
                try dsimp only [Bool.not_true] at HGO
                have zqual := X3.out.qual HLC.out
                have ztext := X3.out.text HLC.out
                go_wp2_with (fail)
                refine (HGO.out _).mono ?_
                rintro e w4 ⟨rfl, hb4⟩
                have X4 := hide (X3.out.later hb4)
                have B4 := hide (B3.out.trans (hb4.mono B3.out.size))
                clear hb4 X3 B3 zqual ztext
                go_wp2_with (fail)
                go_ret
                exact ⟨ret_fE (k := 4) (by simp [fieldE, fE, htg, hqe, hql, hne, hke, htx, hnl]) rfl, B4.out⟩
    · have hqb := bytes_nil_t hqe
      have hqc := str_eq_t hqe
      cases hne : i.name.isEmpty
      · have hnb := bytes_nil_f hne
        have zqual := X1.out.qual HLC.out
        have zname := X1.out.name HLC.out
        have zitems := X1.out.items HLC.out
        go_wp2_with (fail)
        go_ret
        exact ⟨ret_fE (k := 4) (by simp [fieldE, fE, htg, hqe, hne]) rfl, B1.out⟩
      · have hnb := bytes_nil_t hne
        cases hke : decide (n = 0)
        · have hkb : decide (0 < n) = true := decide_eq_true (by have := of_decide_eq_false hke; omega)
          have zqual := X1.out.qual HLC.out
          have zname := X1.out.name HLC.out
          have zitems := X1.out.items HLC.out
          go_wp2_with (fail)
          go_ret
          exact ⟨ret_fE (k := 4) (by simp [fieldE, fE, htg, hqe, hne, hke]) rfl, B1.out⟩
        · have hkb : decide (0 < n) = false := decide_eq_false (by have := of_decide_eq_true hke; omega)
          have zqual := X1.out.qual HLC.out
          have zname := X1.out.name HLC.out
          have zitems := X1.out.items HLC.out
          have ztext := X1.out.text trivial
          cases htx : txB i.text
          · have htm : decide (m < i.text.length) = true := by rw [HFN.out, htx]; rfl
            go_wp2_with (fail)
            have HRD := hide (fun W : World => HFI.out W)
            go_quiet (first | (go_at_call 86; exact Calls.quiet_of_same (HRD.out _)))
            have X2 : Hid (Ix (w1.drewN nq) w.heap.size i (.slice a n cap)) := hide X1.out
            have B2 : Hid (Below w.heap.size w (w1.drewN nq)) := hide (below_dN B1.out _)
            clear X1 B1 ztext
            generalize w1.drewN nq = w2 at *
            go_wp2_with (fail)
            go_ret
            exact ⟨ret_fE (k := 6) (by simp [fieldE, fE, htg, hqe, hne, hke, htx]) rfl, B2.out⟩
          · have htm : decide (m < i.text.length) = false := by rw [HFN.out, htx]; rfl
            go_wp2_with (fail)
            have HRD := hide (fun W : World => HFI.out W)
            go_quiet (first | (go_at_call 86; exact Calls.quiet_of_same (HRD.out _)))
            have X2 : Hid (Ix (w1.drewN nq) w.heap.size i (.slice a n cap)) := hide X1.out
            have B2 : Hid (Below w.heap.size w (w1.drewN nq)) := hide (below_dN B1.out _)
            clear X1 B1 ztext
            generalize w1.drewN nq = w2 at *
            cases hhd : hdB i.text
            · rw [hhd] at HHP
              have zqual := X2.out.qual HLC.out
              have ztext := X2.out.text HLC.out
              go_wp2_with (fail)
              refine (HHP.out _).mono ?_
              rintro e w3 ⟨rfl, hb3⟩
              have X3 := hide (X2.out.later hb3)
              have B3 := hide (B2.out.trans (hb3.mono B2.out.size))
              clear hb3 X2 B2 zqual ztext
              cases hnl : nlB i.text
              · rw [hnl] at HGO
                try dsimp only [Bool.not_false] at HGO
                have ztext := X3.out.text HLC.out
                go_wp2_with (fail)
                refine (HGO.out _).mono ?_
                rintro e w4 ⟨rfl, hb4⟩
                have X4 := hide (X3.out.later hb4)
                have B4 := hide (B3.out.trans (hb4.mono B3.out.size))
                clear hb4 X3 B3 ztext
                go_wp2_with (fail)
                go_ret
                exact ⟨ret_fE (k := 0) (by simp [fieldE, fE, htg, hqe, hne, hke, htx, hhd, hnl]) rfl, B4.out⟩
              · rw [hnl] at HGO
                try dsimp only [Bool.not_true] at HGO
                have ztext := X3.out.text HLC.out
                go_wp2_with (fail)
                refine (HGO.out _).mono ?_
                rintro e w4 ⟨rfl, hb4⟩
                have X4 := hide (X3.out.later hb4)
                have B4 := hide (B3.out.trans (hb4.mono B3.out.size))
                clear hb4 X3 B3 ztext
                go_wp2_with (fail)
                go_ret
                exact ⟨ret_fE (k := 4) (by simp [fieldE, fE, htg, hqe, hne, hke, htx, hnl]) rfl, B4.out⟩
            · rw [hhd] at HHP
              have zqual := X2.out.qual HLC.out
              have ztext := X2.out.text HLC.out
              go_wp2_with (fail)
              refine (HHP.out _).mono ?_
              rintro e w3 ⟨rfl, hb3⟩
              have X3 := hide (X2.out.later hb3)
              have B3 := hide (B2.out.trans (hb3.mono B2.out.size))
              clear hb3 X2 B2 zqual ztext
              go_wp2_with (fail)
              go_ret
              exact ⟨ret_fE (k := 4) (by simp [fieldE, fE, htg, hqe, hne, hke, htx, hhd]) rfl, B3.out⟩
end Go.Proofs.YtpkgaidnpooahaaGreatDoor
