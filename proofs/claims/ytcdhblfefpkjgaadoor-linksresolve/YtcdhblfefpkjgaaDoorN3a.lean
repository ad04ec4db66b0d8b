/-
  My own text: C10c, N1, N2, N3a in one.
-/
import Derived.Test.YtcdhblfefpkjgaaDoorC10b
import Derived.Deep.RegionHeld3
import Derived.Test.YtcdhblfefpkjgaaDoorC1
namespace Go.Proofs.YtcdhblfefpkjgaaDoor.LC
open Go.RowKit

theorem conv_mid {l : List UInt8} {g a n : Nat} {W : World} (h : W.rangeAt g 0 (cel l).toList) (hn : a + n ≤ l.length) (c : Nat) :
    (convert 107 9 (.slice (some ⟨g, a, none⟩) n c)).run Tryd.prog W = .ok (.string ⟨((l.drop a).take n).toArray⟩) W := by
  have hl : ((l.drop a).take n).length = n := by rw [List.length_take, List.length_drop]; omega
  have h2 := run_convert_bytes_back (P := Tryd.prog) W 107 9 5 ⟨g, a, none⟩ c ((l.drop a).take n) Tryd.underlying107 Tryd.underlying5 Tryd.underlying9 (fun j hj => by
    rw [hl] at hj
    have h3 := h (a + j) (.int .u8 ((l.getD (a + j) 0).toNat : Int)) (by
      have := cel_at (a := l) (i := a + j) (by omega)
      simpa using this)
    rw [Nat.zero_add] at h3
    rw [Addr.add_mid, h3]
    congr 3
    rw [getD_at (by omega)]
    simp)
  rw [hl] at h2; exact h2
end Go.Proofs.YtcdhblfefpkjgaaDoor.LC
namespace Go.Proofs.YtcdhblfefpkjgaaDoor.NT
open Go.RowKit LC

/-- Is a text a reference? -/
def refB (l : List UInt8) : Bool := decide (l.length ≤ 16) && decide ((LC.formR l (LC.accF l)).1 = 0)
theorem refB_long {l : List UInt8} (h : 16 < l.length) : refB l = false := by unfold refB; rw [decide_eq_false (by omega)]; rfl
theorem refB_iff {l : List UInt8} (h : l.length ≤ 16) : refB l = decide ((LC.formR l (LC.accF l)).1 = 0) := by unfold refB; rw [decide_eq_true h]; rfl
theorem errF_nil {r : Int × Int} (h : r.1 = 0) : LC.errF r = .nilIface := by unfold LC.errF; rw [if_pos h]
end Go.Proofs.YtcdhblfefpkjgaaDoor.NT
namespace Go.Proofs.YtcdhblfefpkjgaaDoor.NT
open Go.RowKit LC

def okE (r : Int × Int) : Bool := decide (r.1 = 0)
theorem okE_yes {r : Int × Int} (h : r.1 = 0) : okE r = true := decide_eq_true h
theorem okE_no {r : Int × Int} (h : ¬ r.1 = 0) : okE r = false := decide_eq_false h
theorem bicV_size (l : List UInt8) : (LC.bicV l).size = 4 := by unfold LC.bicV LC.bicP LC.bicZ; split <;> rfl
theorem bicV_one (l : List UInt8) : (LC.bicV l).all (·.oneCell') = true := by unfold LC.bicV LC.bicP LC.bicZ LC.str; split <;> simp [Value.oneCell']
/-- Bytes as values. -/
def nb (l : List UInt8) : List Value := l.map fun c => Value.int .u8 (c.toNat : Int)
theorem nb_take {l : List UInt8} {k : Nat} {c : UInt8} (h : l[k]? = some c) : nb (l.take (k + 1)) = nb (l.take k) ++ [.int .u8 (c.toNat : Int)] := by
  unfold nb; rw [List.take_add_one, h]; simp
theorem Tryd.infoBn : (Tryd.prog.info? 5).map (fun i => (i.zero, i.size, i.bytes)) = some (some (.int .u8 0), 1, 1) := by kernel_rfl
end Go.Proofs.YtcdhblfefpkjgaaDoor.NT
namespace Go.Proofs.YtcdhblfefpkjgaaDoor.NT
open Go.RowKit LC

/-- A notice without its links. -/
structure Ntc where
  ref : List UInt8
  prev : List UInt8
  cn : Bool
  rc : Bool
  py : Bool
  tr : Int
  st : Int
  code : List UInt8
  qty : Int
  acc : List UInt8
  agt : List UInt8
  oth : List UInt8
  amt : Int
  cur : List UInt8
  pri : Int
/-- Its cells. -/
def nC (n : Ntc) (v : Value) : Array Value := (([.string ⟨n.ref.toArray⟩, .string ⟨n.prev.toArray⟩, .bool n.cn, .bool n.rc, .bool n.py, .int .i64 n.tr, .int .i64 n.st] : List Value) ++ nb n.code ++ ([.int .i64 n.qty, .string ⟨n.acc.toArray⟩, .string ⟨n.agt.toArray⟩, .string ⟨n.oth.toArray⟩, .int .i64 n.amt, .string ⟨n.cur.toArray⟩, .int .i64 n.pri, v] : List Value)).toArray
/-- What a run's notice keeps to. -/
structure NOk (n : Ntc) : Prop where
  code : n.code.length = 12
  ref : n.ref.length ≤ 140737488355328
  prev : n.prev.length ≤ 140737488355328
  acc : n.acc.length ≤ 140737488355328
  agt : n.agt.length ≤ 140737488355328
  oth : n.oth.length ≤ 140737488355328
  cur : n.cur.length ≤ 140737488355328
/-- A notice in a block of its own. -/
def Bx (w : World) (g : Nat) (n : Ntc) (v : Value) : Prop := w.heap[g]? = some (.cells (nC n v) 27 (0, 0))
theorem Bx.lt {w : World} {g : Nat} {n : Ntc} {v : Value} (h : Bx w g n v) : g < w.heap.size := (Array.getElem?_eq_some_iff.1 h).1
theorem Bx.later {w w' : World} {g : Nat} {n : Ntc} {v : Value} (h : Bx w g n v) (hb : Below w.heap.size w w') : Bx w' g n v := (hb.block g h.lt).trans h
theorem Bx.new (w : World) (n : Ntc) (v : Value) : Bx (w.alloc (.cells (nC n v) 27)) w.heap.size n v := LC.alloc_new w _
theorem Bx.alloc {w : World} {g : Nat} {n : Ntc} {v : Value} (h : Bx w g n v) (o : Obj) : Bx (w.alloc o) g n v := LC.alloc_block h
theorem nC_size (n : Ntc) (v : Value) (h : n.code.length = 12) : (nC n v).size = 27 := by simp [nC, nb, h]
theorem nC_one (n : Ntc) (v : Value) (hv : v.oneCell' = true) : (nC n v).all (·.oneCell') = true := by
  simp [nC, nb, Value.oneCell']
  exact hv
theorem nC_cases {n : Ntc} (h : n.code.length = 12) : ∃ c0 c1 c2 c3 c4 c5 c6 c7 c8 c9 c10 c11, n.code = [c0, c1, c2, c3, c4, c5, c6, c7, c8, c9, c10, c11] := LC.len12 h
theorem Bx.ref {w : World} {g : Nat} {n : Ntc} {v : Value} (h : Bx w g n v) (hc : n.code.length = 12) : w.cell? ⟨g, 0, none⟩ = some (.string ⟨n.ref.toArray⟩) := by
  obtain ⟨c0, c1, c2, c3, c4, c5, c6, c7, c8, c9, c10, c11, he⟩ := nC_cases hc
  rw [cell_of_row _ _ 0 _ _ _ h]; unfold nC nb; rw [he]; rfl
theorem Bx.prev {w : World} {g : Nat} {n : Ntc} {v : Value} (h : Bx w g n v) (hc : n.code.length = 12) : w.cell? ⟨g, 1, none⟩ = some (.string ⟨n.prev.toArray⟩) := by
  obtain ⟨c0, c1, c2, c3, c4, c5, c6, c7, c8, c9, c10, c11, he⟩ := nC_cases hc
  rw [cell_of_row _ _ 1 _ _ _ h]; unfold nC nb; rw [he]; rfl
theorem Bx.cn {w : World} {g : Nat} {n : Ntc} {v : Value} (h : Bx w g n v) (hc : n.code.length = 12) : w.cell? ⟨g, 2, none⟩ = some (.bool n.cn) := by
  obtain ⟨c0, c1, c2, c3, c4, c5, c6, c7, c8, c9, c10, c11, he⟩ := nC_cases hc
  rw [cell_of_row _ _ 2 _ _ _ h]; unfold nC nb; rw [he]; rfl
theorem Bx.rc {w : World} {g : Nat} {n : Ntc} {v : Value} (h : Bx w g n v) (hc : n.code.length = 12) : w.cell? ⟨g, 3, none⟩ = some (.bool n.rc) := by
  obtain ⟨c0, c1, c2, c3, c4, c5, c6, c7, c8, c9, c10, c11, he⟩ := nC_cases hc
  rw [cell_of_row _ _ 3 _ _ _ h]; unfold nC nb; rw [he]; rfl
theorem Bx.py {w : World} {g : Nat} {n : Ntc} {v : Value} (h : Bx w g n v) (hc : n.code.length = 12) : w.cell? ⟨g, 4, none⟩ = some (.bool n.py) := by
  obtain ⟨c0, c1, c2, c3, c4, c5, c6, c7, c8, c9, c10, c11, he⟩ := nC_cases hc
  rw [cell_of_row _ _ 4 _ _ _ h]; unfold nC nb; rw [he]; rfl
theorem Bx.tr {w : World} {g : Nat} {n : Ntc} {v : Value} (h : Bx w g n v) (hc : n.code.length = 12) : w.cell? ⟨g, 5, none⟩ = some (.int .i64 n.tr) := by
  obtain ⟨c0, c1, c2, c3, c4, c5, c6, c7, c8, c9, c10, c11, he⟩ := nC_cases hc
  rw [cell_of_row _ _ 5 _ _ _ h]; unfold nC nb; rw [he]; rfl
theorem Bx.st {w : World} {g : Nat} {n : Ntc} {v : Value} (h : Bx w g n v) (hc : n.code.length = 12) : w.cell? ⟨g, 6, none⟩ = some (.int .i64 n.st) := by
  obtain ⟨c0, c1, c2, c3, c4, c5, c6, c7, c8, c9, c10, c11, he⟩ := nC_cases hc
  rw [cell_of_row _ _ 6 _ _ _ h]; unfold nC nb; rw [he]; rfl
theorem Bx.qty {w : World} {g : Nat} {n : Ntc} {v : Value} (h : Bx w g n v) (hc : n.code.length = 12) : w.cell? ⟨g, 19, none⟩ = some (.int .i64 n.qty) := by
  obtain ⟨c0, c1, c2, c3, c4, c5, c6, c7, c8, c9, c10, c11, he⟩ := nC_cases hc
  rw [cell_of_row _ _ 19 _ _ _ h]; unfold nC nb; rw [he]; rfl
theorem Bx.acc {w : World} {g : Nat} {n : Ntc} {v : Value} (h : Bx w g n v) (hc : n.code.length = 12) : w.cell? ⟨g, 20, none⟩ = some (.string ⟨n.acc.toArray⟩) := by
  obtain ⟨c0, c1, c2, c3, c4, c5, c6, c7, c8, c9, c10, c11, he⟩ := nC_cases hc
  rw [cell_of_row _ _ 20 _ _ _ h]; unfold nC nb; rw [he]; rfl
theorem Bx.agt {w : World} {g : Nat} {n : Ntc} {v : Value} (h : Bx w g n v) (hc : n.code.length = 12) : w.cell? ⟨g, 21, none⟩ = some (.string ⟨n.agt.toArray⟩) := by
  obtain ⟨c0, c1, c2, c3, c4, c5, c6, c7, c8, c9, c10, c11, he⟩ := nC_cases hc
  rw [cell_of_row _ _ 21 _ _ _ h]; unfold nC nb; rw [he]; rfl
theorem Bx.oth {w : World} {g : Nat} {n : Ntc} {v : Value} (h : Bx w g n v) (hc : n.code.length = 12) : w.cell? ⟨g, 22, none⟩ = some (.string ⟨n.oth.toArray⟩) := by
  obtain ⟨c0, c1, c2, c3, c4, c5, c6, c7, c8, c9, c10, c11, he⟩ := nC_cases hc
  rw [cell_of_row _ _ 22 _ _ _ h]; unfold nC nb; rw [he]; rfl
theorem Bx.amt {w : World} {g : Nat} {n : Ntc} {v : Value} (h : Bx w g n v) (hc : n.code.length = 12) : w.cell? ⟨g, 23, none⟩ = some (.int .i64 n.amt) := by
  obtain ⟨c0, c1, c2, c3, c4, c5, c6, c7, c8, c9, c10, c11, he⟩ := nC_cases hc
  rw [cell_of_row _ _ 23 _ _ _ h]; unfold nC nb; rw [he]; rfl
theorem Bx.cur {w : World} {g : Nat} {n : Ntc} {v : Value} (h : Bx w g n v) (hc : n.code.length = 12) : w.cell? ⟨g, 24, none⟩ = some (.string ⟨n.cur.toArray⟩) := by
  obtain ⟨c0, c1, c2, c3, c4, c5, c6, c7, c8, c9, c10, c11, he⟩ := nC_cases hc
  rw [cell_of_row _ _ 24 _ _ _ h]; unfold nC nb; rw [he]; rfl
theorem Bx.pri {w : World} {g : Nat} {n : Ntc} {v : Value} (h : Bx w g n v) (hc : n.code.length = 12) : w.cell? ⟨g, 25, none⟩ = some (.int .i64 n.pri) := by
  obtain ⟨c0, c1, c2, c3, c4, c5, c6, c7, c8, c9, c10, c11, he⟩ := nC_cases hc
  rw [cell_of_row _ _ 25 _ _ _ h]; unfold nC nb; rw [he]; rfl
theorem Bx.links {w : World} {g : Nat} {n : Ntc} {v : Value} (h : Bx w g n v) (hc : n.code.length = 12) : w.cell? ⟨g, 26, none⟩ = some v := by
  obtain ⟨c0, c1, c2, c3, c4, c5, c6, c7, c8, c9, c10, c11, he⟩ := nC_cases hc
  rw [cell_of_row _ _ 26 _ _ _ h]; unfold nC nb; rw [he]; rfl
theorem Bx.code {w : World} {g : Nat} {n : Ntc} {v : Value} (h : Bx w g n v) (_ : n.code.length = 12) : w.rangeAt g 7 (LC.cel n.code).toList := fun j u hj => by
  have hjl : j < n.code.length := by have := (List.getElem?_eq_some_iff.1 hj).1; simpa [LC.cel] using this
  rw [cell_of_row _ _ (7 + j) _ _ _ h]
  have e : (nC n v)[7 + j]? = (nb n.code)[j]? := by
    unfold nC
    rw [List.getElem?_toArray, List.append_assoc, List.getElem?_append_right (by simp), List.getElem?_append_left (by simp [nb]; omega)]
    simp
  rw [e]; simpa [LC.cel, nb] using hj
theorem bytes_beq (a b : List UInt8) : ((⟨a.toArray⟩ : ByteArray) == ⟨b.toArray⟩) = decide (a = b) := by
  show (a.toArray == b.toArray) = _
  by_cases h : a = b
  · subst h; simp
  · rw [decide_eq_false h]; simpa using h
theorem bytes_nil_t {l : List UInt8} (h : l.isEmpty = true) : ((⟨l.toArray⟩ : ByteArray) != ⟨#[]⟩) = false := by
  have h2 : l = [] := by simpa using h
  show (!((⟨l.toArray⟩ : ByteArray) == ⟨([] : List UInt8).toArray⟩)) = _
  rw [bytes_beq, decide_eq_true h2]; rfl
theorem bytes_nil_f {l : List UInt8} (h : l.isEmpty = false) : ((⟨l.toArray⟩ : ByteArray) != ⟨#[]⟩) = true := by
  have h2 : ¬ l = [] := by simpa using h
  show (!((⟨l.toArray⟩ : ByteArray) == ⟨([] : List UInt8).toArray⟩)) = _
  rw [bytes_beq, decide_eq_false h2]; rfl
/-- What is wrong, by the tests in their order. -/
def tE (r1 cn r2 pe d1 d2 lt ci ql ac bi ot py al cu az ce pl pg : Bool) : Int :=
  if !r1 then 6 else if cn && !r2 then 6 else if !cn && !pe then 6 else if !d1 then 8 else if !d2 then 8 else if lt then 8 else if !ci then 4 else if ql then 16 else if !ac then 14 else if !bi then 4 else if !ot then 14 else if py && al then 16 else if py && !cu then 4 else if !py && (!az || !ce) then 1 else if pl then 1 else if pg then 1 else 0
def termsE (n : Ntc) : Int := tE (refB n.ref) n.cn (refB n.prev) n.prev.isEmpty (dayB n.tr) (dayB n.st) (decide (n.st < n.tr)) (okE (LC.isinR n.code)) (decide (n.qty < 1)) (okE (LC.formR n.acc (LC.accF n.acc))) (okE (LC.formR n.agt (LC.bicF n.agt))) (okE (LC.formR n.oth (LC.accF n.oth))) n.py (decide (n.amt < 1)) (okE (LC.formR n.cur LC.curF)) (decide (n.amt = 0)) n.cur.isEmpty (decide (n.pri < 0)) (decide (9999 < n.pri))
/-- The error of a look that passed or didn't, as a value. -/
theorem errF_of (r : Int × Int) : (okE r = true ∧ LC.errF r = .nilIface) ∨ (okE r = false ∧ ∃ t u, LC.errF r = .iface t u) := by
  by_cases h : r.1 = 0
  · exact .inl ⟨okE_yes h, errF_nil h⟩
  · exact .inr ⟨okE_no h, LC.errF_iface h⟩
theorem ret_err {a b : Int} (h : a = b) : Ending.returned (errV a) = .returned (errV b) := by rw [h]
end Go.Proofs.YtcdhblfefpkjgaaDoor.NT
