/-
  My own text: N3, N4, N5, N6 in one.
-/
import Derived.Test.YtcdhblfefpkjgaaDoorN3a
namespace Go.Proofs.YtcdhblfefpkjgaaDoor.NT
open Go.RowKit LC

theorem ret_tE {n : Ntc} {k : Int} {v : Value} (h : termsE n = k) (hv : v = errV k) : Ending.returned v = .returned (errV (termsE n)) := by rw [h, hv]
end Go.Proofs.YtcdhblfefpkjgaaDoor.NT
namespace Go.Proofs.YtcdhblfefpkjgaaDoor.NT
open Go.RowKit LC

theorem pair_of (r : Int × Int) : (okE r = true ∧ ∃ b, r = (0, b)) ∨ (okE r = false ∧ ∃ a b, r = (a, b) ∧ (a == 0) = false ∧ (a != 0) = true) := by
  obtain ⟨a, b⟩ := r
  by_cases h : a = 0
  · subst h; exact .inl ⟨okE_yes rfl, b, rfl⟩
  · exact .inr ⟨okE_no h, a, b, rfl, beq_eq_false_iff_ne.2 h, bne_iff_ne.2 h⟩
def hE (r1 cn r2 pe d1 d2 lt ci : Bool) : Int :=
  if !r1 then 6 else if cn && !r2 then 6 else if !cn && !pe then 6 else if !d1 then 8 else if !d2 then 8 else if lt then 8 else if !ci then 4 else 0
def headE (n : Ntc) : Int := hE (refB n.ref) n.cn (refB n.prev) n.prev.isEmpty (dayB n.tr) (dayB n.st) (decide (n.st < n.tr)) (okE (LC.isinR n.code))
def sE (ql ac bi ot py al cu az ce : Bool) : Int :=
  if ql then 16 else if !ac then 14 else if !bi then 4 else if !ot then 14 else if !py && (!az || !ce) then 1 else if py && al then 16 else if py && !cu then 4 else 0
def sidesE (n : Ntc) : Int := sE (decide (n.qty < 1)) (okE (LC.formR n.acc (LC.accF n.acc))) (okE (LC.formR n.agt (LC.bicF n.agt))) (okE (LC.formR n.oth (LC.accF n.oth))) n.py (decide (n.amt < 1)) (okE (LC.formR n.cur LC.curF)) (decide (n.amt = 0)) n.cur.isEmpty
theorem tE_parts (r1 cn r2 pe d1 d2 lt ci ql ac bi ot py al cu az ce pl pg : Bool) :
    tE r1 cn r2 pe d1 d2 lt ci ql ac bi ot py al cu az ce pl pg = (if hE r1 cn r2 pe d1 d2 lt ci ≠ 0 then hE r1 cn r2 pe d1 d2 lt ci else if sE ql ac bi ot py al cu az ce ≠ 0 then sE ql ac bi ot py al cu az ce else if pl || pg then 1 else 0) := by
  cases r1
  · rfl
  have two : ∀ (X : Int) (Y : Int), X = Y → (if !true then (6 : Int) else X) = Y := fun _ _ h => h
  cases cn <;> cases r2 <;> cases pe <;> try rfl
  all_goals (cases d1; · rfl)
  all_goals (cases d2; · rfl)
  all_goals (cases lt; rotate_left; · rfl)
  all_goals (cases ci; · rfl)
  all_goals (cases ql; rotate_left; · rfl)
  all_goals (cases ac; · rfl)
  all_goals (cases bi; · rfl)
  all_goals (cases ot; · rfl)
  all_goals (cases py <;> cases al <;> cases cu <;> cases az <;> cases ce <;> cases pl <;> cases pg <;> rfl)
theorem terms_parts (n : Ntc) : termsE n = (if headE n ≠ 0 then headE n else if sidesE n ≠ 0 then sidesE n else if decide (n.pri < 0) || decide (9999 < n.pri) then 1 else 0) := tE_parts ..
theorem ret_n {a b : Int} (h : a = b) : Ending.returned (.int .i64 b) = .returned (.int .i64 a) := by rw [h]
end Go.Proofs.YtcdhblfefpkjgaaDoor.NT
namespace Go.Proofs.YtcdhblfefpkjgaaDoor.NT
open Go.RowKit LC

abbrev Lnk := Int × List UInt8
/-- A row of links. -/
def RL (w : World) (v : Value) (ls : List Lnk) : Prop := ∃ a cap, v = .slice a ls.length cap ∧ (ls = [] ∨ ∃ b off, a = some ⟨b, off, none⟩ ∧ b < w.heap.size ∧ ∀ (j : Nat) (p : Lnk), ls[j]? = some p → w.cell? ⟨b, off + j * 2, none⟩ = some (.int .i64 p.1) ∧ w.cell? ⟨b, off + j * 2 + 1, none⟩ = some (.string ⟨p.2.toArray⟩))
theorem RL.later {w w' : World} {v : Value} {ls : List Lnk} (h : RL w v ls) (hb : Below w.heap.size w w') : RL w' v ls := by
  obtain ⟨a, cap, hv, h⟩ := h
  refine ⟨a, cap, hv, ?_⟩
  rcases h with h | ⟨b, off, ha, hlt, hc⟩
  · exact .inl h
  · exact .inr ⟨b, off, ha, Nat.lt_of_lt_of_le hlt hb.size, fun j p hj => ⟨(hb.cell (p := ⟨b, _, none⟩) hlt).trans (hc j p hj).1, (hb.cell (p := ⟨b, _, none⟩) hlt).trans (hc j p hj).2⟩⟩
/-- What is wrong with links. -/
def linkE (ref : List UInt8) : List Lnk → Int
  | [] => 0
  | (k, r) :: t => if decide (k < 1) || decide (3 < k) then 24 else if !refB r then 6 else if decide (r = ref) then 17 else linkE ref t
def linksE (ref : List UInt8) (ls : List Lnk) : Int := if 16 < ls.length then 5 else linkE ref ls
theorem linkE_step {ref r : List UInt8} {k : Int} {ls : List Lnk} {j : Nat} (h : ls[j]? = some (k, r)) : linkE ref (ls.drop j) = (if decide (k < 1) || decide (3 < k) then 24 else if !refB r then 6 else if decide (r = ref) then 17 else linkE ref (ls.drop (j + 1))) := by
  have hj : j < ls.length := (List.getElem?_eq_some_iff.1 h).1
  have he : ls.drop j = (k, r) :: ls.drop (j + 1) := by
    rw [List.drop_eq_getElem_cons hj]; congr 1; exact (List.getElem?_eq_some_iff.1 h).2
  rw [he]; rfl
theorem Tryd.sizeLnk : (Tryd.prog.info? 53).map (·.size) = some 2 := by kernel_rfl
theorem Tryd.sizeNtc : (Tryd.prog.info? 27).map (·.size) = some 27 := by kernel_rfl
theorem ret_e {a : Int} {v : Value} (k : Int) (h : a = k) (hv : v = errV k) : Ending.returned v = .returned (errV a) := by rw [h, hv]
def LOk (ls : List Lnk) : Prop := ∀ p ∈ ls, p.2.length ≤ 140737488355328
theorem pair_cells {w : World} {o : Obj} {a b : Value} {t : TypeId} {g : Nat} (h : w.heap[g]? = some o) (ho : o = .cells #[a, b] t (0, 0)) : w.cell? ⟨g, 0, none⟩ = some a ∧ w.cell? ⟨g, 1, none⟩ = some b := by
  subst ho
  exact ⟨by rw [cell_of_row _ _ 0 _ _ _ h]; rfl, by rw [cell_of_row _ _ 1 _ _ _ h]; rfl⟩
end Go.Proofs.YtcdhblfefpkjgaaDoor.NT
namespace Go.Proofs.YtcdhblfefpkjgaaDoor.NT
open Go.RowKit LC

def noticeE (n : Ntc) (ls : List Lnk) : Int := if termsE n ≠ 0 then termsE n else linksE n.ref ls
theorem noticeE_head {n : Ntc} {ls : List Lnk} (h : headE n ≠ 0) : noticeE n ls = headE n := by
  have e : termsE n = headE n := by rw [terms_parts, if_pos h]
  unfold noticeE; rw [e, if_pos h]
theorem noticeE_sides {n : Ntc} {ls : List Lnk} (h : headE n = 0) (h2 : sidesE n ≠ 0) : noticeE n ls = sidesE n := by
  have e : termsE n = sidesE n := by rw [terms_parts, if_neg (by simp [h]), if_pos h2]
  unfold noticeE; rw [e, if_pos h2]
theorem noticeE_pri {n : Ntc} {ls : List Lnk} (h : headE n = 0) (h2 : sidesE n = 0) (h3 : (decide (n.pri < 0) || decide (9999 < n.pri)) = true) : noticeE n ls = 1 := by
  have e : termsE n = 1 := by rw [terms_parts, if_neg (by simp [h]), if_neg (by simp [h2]), h3]; rfl
  unfold noticeE; rw [e]; rfl
theorem noticeE_links {n : Ntc} {ls : List Lnk} (h : headE n = 0) (h2 : sidesE n = 0) (h3 : (decide (n.pri < 0) || decide (9999 < n.pri)) = false) : noticeE n ls = linksE n.ref ls := by
  have e : termsE n = 0 := by rw [terms_parts, if_neg (by simp [h]), if_neg (by simp [h2]), h3]; rfl
  unfold noticeE; rw [e]; rfl
theorem int_ne {a : Int} (h : ¬ a = 0) : (a == 0) = false ∧ (a != 0) = true := ⟨beq_eq_false_iff_ne.2 h, bne_iff_ne.2 h⟩
end Go.Proofs.YtcdhblfefpkjgaaDoor.NT
