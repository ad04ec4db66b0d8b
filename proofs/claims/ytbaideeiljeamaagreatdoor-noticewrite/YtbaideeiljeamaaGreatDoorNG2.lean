/-
  My own text: NG, NG2 in one.
-/
import Derived.Test.YtbaideeiljeamaaGreatDoorN7
import Derived.Test.YtbaideeiljeamaaGreatDoorNM2
namespace Go.Proofs.YtbaideeiljeamaaGreatDoor
open Go.RowKit

/-- What a right notice tells. -/
structure Good (n : Ntc) (ls : List Lnk) : Prop where
  tr : dayB n.tr = true
  st : dayB n.st = true
  qty0 : 0 ≤ n.qty
  amt0 : n.py = true → 0 ≤ n.amt
  cur : n.py = true → n.cur.length ≤ 1000
  pri0 : 0 ≤ n.pri
  pri1 : n.pri ≤ 9999
  few : ls.length ≤ 16
  kinds : ∀ p ∈ ls, 1 ≤ p.1 ∧ p.1 ≤ 3
theorem linkE_good (ref : List UInt8) : ∀ ls : List Lnk, linkE ref ls = 0 → ∀ p ∈ ls, 1 ≤ p.1 ∧ p.1 ≤ 3
  | [], _, p, hp => by cases hp
  | (k, r) :: t, h, p, hp => by
    have h' : (if decide (k < 1) || decide (3 < k) then (24 : Int) else if !refB r then 6 else if decide (r = ref) then 17 else linkE ref t) = 0 := h
    by_cases hk : (decide (k < 1) || decide (3 < k)) = true
    · rw [if_pos hk] at h'; cases h'
    · rw [if_neg hk] at h'
      have hk2 : ¬ k < 1 ∧ ¬ 3 < k := by simpa using hk
      by_cases hr : (!refB r) = true
      · rw [if_pos hr] at h'; cases h'
      · rw [if_neg hr] at h'
        by_cases hq : decide (r = ref) = true
        · rw [if_pos hq] at h'; cases h'
        · rw [if_neg hq] at h'
          rcases List.mem_cons.1 hp with rfl | hp
          · exact ⟨by omega, by omega⟩
          · exact linkE_good ref t h' p hp
theorem ite_nz {c : Prop} [Decidable c] {a b : Int} (h : (if c then a else b) = 0) (ha : a ≠ 0) : ¬ c ∧ b = 0 := by
  by_cases hc : c
  · rw [if_pos hc] at h; exact absurd h ha
  · rw [if_neg hc] at h; exact ⟨hc, h⟩
theorem tE_good {r1 cn r2 pe d1 d2 lt ci ql ac bi ot py al cu az ce pl pg : Bool} (h : tE r1 cn r2 pe d1 d2 lt ci ql ac bi ot py al cu az ce pl pg = 0) :
    d1 = true ∧ d2 = true ∧ ql = false ∧ (py = true → al = false ∧ cu = true) ∧ pl = false ∧ pg = false := by
  unfold tE at h
  obtain ⟨_, h⟩ := ite_nz h (by decide)
  obtain ⟨_, h⟩ := ite_nz h (by decide)
  obtain ⟨_, h⟩ := ite_nz h (by decide)
  obtain ⟨a1, h⟩ := ite_nz h (by decide)
  obtain ⟨a2, h⟩ := ite_nz h (by decide)
  obtain ⟨_, h⟩ := ite_nz h (by decide)
  obtain ⟨_, h⟩ := ite_nz h (by decide)
  obtain ⟨a3, h⟩ := ite_nz h (by decide)
  obtain ⟨_, h⟩ := ite_nz h (by decide)
  obtain ⟨_, h⟩ := ite_nz h (by decide)
  obtain ⟨_, h⟩ := ite_nz h (by decide)
  obtain ⟨a4, h⟩ := ite_nz h (by decide)
  obtain ⟨a5, h⟩ := ite_nz h (by decide)
  obtain ⟨_, h⟩ := ite_nz h (by decide)
  obtain ⟨a6, h⟩ := ite_nz h (by decide)
  obtain ⟨a7, h⟩ := ite_nz h (by decide)
  refine ⟨by simpa using a1, by simpa using a2, by simpa using a3, fun hp => ?_, by simpa using a6, by simpa using a7⟩
  subst hp
  exact ⟨by simpa using a4, by simpa using a5⟩
theorem notice_good {n : Ntc} {ls : List Lnk} (h : noticeE n ls = 0) : Good n ls := by
  unfold noticeE at h
  by_cases ht : termsE n = 0
  · rw [if_neg (fun x => x ht)] at h
    unfold linksE at h
    by_cases hl : 16 < ls.length
    · rw [if_pos hl] at h; cases h
    · rw [if_neg hl] at h
      unfold termsE at ht
      obtain ⟨g1, g2, g3, g4, g5, g6⟩ := tE_good ht
      have g3 := of_decide_eq_false g3
      have g5 := of_decide_eq_false g5
      have g6 := of_decide_eq_false g6
      refine ⟨g1, g2, by omega, fun hp => ?_, fun hp => ?_, by omega, by omega, by omega, linkE_good _ _ h⟩
      · have := of_decide_eq_false (g4 hp).1; omega
      · have hc := of_decide_eq_true (g4 hp).2
        rcases LC.form_cases n.cur LC.curF with ⟨hf, _⟩ | ⟨_, hf⟩
        · have := hf.1
          have h3 : LC.curF.length = 3 := rfl
          omega
        · exact absurd hc hf
  · rw [if_pos ht] at h; exact absurd h ht
end Go.Proofs.YtbaideeiljeamaaGreatDoor
namespace Go.Proofs.YtbaideeiljeamaaGreatDoor
open Go.RowKit

/-- The lengths of a right notice's texts. -/
structure Small (n : Ntc) (ls : List Lnk) : Prop where
  ref : n.ref.length ≤ 16
  prev : n.cn = true → n.prev.length ≤ 16
  acc : n.acc.length ≤ 34
  agt : n.agt.length ≤ 11
  oth : n.oth.length ≤ 34
  links : ∀ p ∈ ls, p.2.length ≤ 16
theorem refB_len {l : List UInt8} (h : refB l = true) : l.length ≤ 16 := by
  unfold refB at h
  rw [Bool.and_eq_true] at h
  exact of_decide_eq_true h.1
theorem formR_len {l f : List UInt8} (h : okE (LC.formR l f) = true) : l.length = f.length := by
  have h1 := of_decide_eq_true h
  rcases LC.form_cases l f with ⟨hf, _⟩ | ⟨_, hf⟩
  · exact hf.1
  · exact absurd h1 hf
theorem acc_len {l : List UInt8} (h : okE (LC.formR l (LC.accF l)) = true) : l.length ≤ 34 := by
  have := formR_len h
  unfold LC.accF at this
  rw [List.length_replicate] at this
  omega
theorem bic_len {l : List UInt8} (h : okE (LC.formR l (LC.bicF l)) = true) : l.length ≤ 11 := by
  have h2 := formR_len h
  unfold LC.bicF at h2
  split at h2
  · omega
  · have : LC.bic11.length = 11 := rfl
    omega
theorem linkE_small (ref : List UInt8) : ∀ ls : List Lnk, linkE ref ls = 0 → ∀ p ∈ ls, p.2.length ≤ 16
  | [], _, p, hp => by cases hp
  | (k, r) :: t, h, p, hp => by
    have h' : (if decide (k < 1) || decide (3 < k) then (24 : Int) else if !refB r then 6 else if decide (r = ref) then 17 else linkE ref t) = 0 := h
    obtain ⟨_, h'⟩ := ite_nz h' (by decide)
    obtain ⟨hr, h'⟩ := ite_nz h' (by decide)
    obtain ⟨_, h'⟩ := ite_nz h' (by decide)
    rcases List.mem_cons.1 hp with rfl | hp
    · exact refB_len (by simpa using hr)
    · exact linkE_small ref t h' p hp
theorem notice_small {n : Ntc} {ls : List Lnk} (h : noticeE n ls = 0) : Small n ls := by
  unfold noticeE at h
  by_cases ht : termsE n = 0
  · rw [if_neg (fun x => x ht)] at h
    unfold linksE at h
    obtain ⟨_, h⟩ := ite_nz h (by decide)
    unfold termsE tE at ht
    obtain ⟨a1, ht⟩ := ite_nz ht (by decide)
    obtain ⟨a2, ht⟩ := ite_nz ht (by decide)
    obtain ⟨_, ht⟩ := ite_nz ht (by decide)
    obtain ⟨_, ht⟩ := ite_nz ht (by decide)
    obtain ⟨_, ht⟩ := ite_nz ht (by decide)
    obtain ⟨_, ht⟩ := ite_nz ht (by decide)
    obtain ⟨_, ht⟩ := ite_nz ht (by decide)
    obtain ⟨_, ht⟩ := ite_nz ht (by decide)
    obtain ⟨a3, ht⟩ := ite_nz ht (by decide)
    obtain ⟨a4, ht⟩ := ite_nz ht (by decide)
    obtain ⟨a5, ht⟩ := ite_nz ht (by decide)
    refine ⟨refB_len (by simpa using a1), fun hc => refB_len ?_, acc_len (by simpa using a3), bic_len (by simpa using a4), acc_len (by simpa using a5), linkE_small _ _ h⟩
    rw [hc] at a2
    simpa using a2
  · rw [if_pos ht] at h; exact absurd h ht
theorem wt_fld (a b c : List UInt8) : (fldT a b c).wt = 1 + a.length + b.length + c.length := by
  rw [TG.wt_eq]; simp [fldT, TG.Tr.itm, TG.Tr.kids, TG.wts]
theorem wt_blk (a : List UInt8) (l : List TG.Tr) : (blkT a l).wt = 1 + a.length + TG.wts l := by
  rw [TG.wt_eq]; simp [blkT, TG.Tr.itm, TG.Tr.kids]
theorem wtsN_nil : TG.wts [] = 0 := by simp [TG.wts]
theorem wtsN_app : ∀ a b : List TG.Tr, TG.wts (a ++ b) = TG.wts a + TG.wts b
  | [], b => by rw [wtsN_nil]; simp
  | x :: a, b => by rw [List.cons_append, TG.wts_cons, TG.wts_cons, wtsN_app a b]; omega
theorem wts_links : ∀ ls : List Lnk, (∀ p ∈ ls, p.2.length ≤ 16) → TG.wts (ls.map linkT) ≤ ls.length * 100
  | [], _ => by rw [List.map_nil, wtsN_nil]; omega
  | p :: r, h => by
    have h1 := wts_links r (fun q hq => h q (List.mem_cons_of_mem _ hq))
    have h2 := h p (List.mem_cons_self ..)
    have hk : (kindT p.1).length = 4 := by
      unfold kindT
      split
      · rfl
      · split <;> rfl
    rw [List.map_cons, TG.wts_cons]
    have e : (linkT p).wt = 1 + 4 + (1 + 3 + 4 + 4 + (1 + 3 + 4 + p.2.length + 0)) := by
      unfold linkT
      rw [wt_blk, TG.wts_cons, TG.wts_cons, wt_fld, wt_fld, wtsN_nil, hk]; rfl
    rw [e]
    simp only [List.length_cons]
    omega
theorem day_len {d : Int} (hd : dayB d = true) : (dayT d).length ≤ 57 := by
  have hb : 1 ≤ d ∧ d ≤ 3652059 := by unfold dayB at hd; simpa using hd
  have hy := yearI_b hb.1 hb.2
  have hm := monthN_b hb.1
  have hdd := dayN_b hb.1
  unfold dayT
  have l1 := pd_len_le (N := (yearI d).toNat) (least := 4) (by omega) (by omega)
  have l2 := pd_len_le (N := (monthI d).toNat) (least := 2) (by omega) (by omega)
  have l3 := pd_len_le (N := (dayI d).toNat) (least := 2) (by omega) (by omega)
  rw [List.length_append, List.length_append]; omega
theorem msg_small {n : Ntc} {ls : List Lnk} (h : noticeE n ls = 0) (hc : n.code.length = 12) (hq1 : n.qty ≤ 9223372036854775807) (ha1 : n.amt ≤ 9223372036854775807) : TG.wts (msgT n ls) ≤ 1048576 := by
  have hG := notice_good h
  have hS := notice_small h
  have e1 := hS.ref
  have e2 := hS.acc
  have e3 := hS.agt
  have e4 := hS.oth
  have e5 := wts_links ls hS.links
  have e6 := hG.few
  have e7 := day_len hG.tr
  have e8 := day_len hG.st
  have e9 := pd_len_le (N := n.pri.toNat) (least := 4) (by have := hG.pri1; omega) (by omega)
  have e10 := pd_len_le (N := n.qty.toNat) (least := 1) (by omega) (by omega)
  have e11 := pd_len_le (N := n.amt.toNat) (least := 1) (by omega) (by omega)
  have e12 : (funcT n).length = 4 := by unfold funcT; split <;> rfl
  have e13 : (typeT n).length = 3 := by unfold typeT; split <;> split <;> rfl
  have e14 : (sideT n).length = 4 := by unfold sideT; split <;> rfl
  have e15 : (codeT n).length = 17 := by unfold codeT; rw [List.length_append, hc]; rfl
  have e16 : (qtyT n).length ≤ 30 := by unfold qtyT; rw [List.length_append, List.length_append]; simp only [List.length_cons, List.length_nil]; omega
  have e17 : TG.wts (gen4T n) ≤ 1000 := by
    unfold gen4T gen3T
    rw [wtsN_app]
    cases hcn : n.cn
    · rw [if_neg (by simp)]
      simp only [TG.wts_cons, wt_fld, wtsN_nil, List.length_cons, List.length_nil]; omega
    · rw [if_pos rfl]
      have := hS.prev hcn
      simp only [TG.wts_cons, wt_fld, wtsN_nil, List.length_cons, List.length_nil]; omega
  have e18 : TG.wts (setdT n) ≤ 3000 := by
    unfold setdT
    rw [wtsN_app]
    cases hpy : n.py
    · rw [if_neg (by simp)]
      unfold sidesT
      simp only [TG.wts_cons, wt_blk, wt_fld, wtsN_nil, List.length_cons, List.length_nil]; omega
    · rw [if_pos rfl]
      have := hG.cur hpy
      have e : (monT n).length ≤ 1100 := by unfold monT; rw [List.length_append, List.length_append]; simp only [List.length_cons, List.length_nil]; omega
      unfold sidesT amtT
      simp only [TG.wts_cons, wt_blk, wt_fld, wtsN_nil, List.length_cons, List.length_nil]; omega
  unfold msgT genlT tradT fiacT
  simp only [TG.wts_cons, wtsN_app, wt_blk, wt_fld, wtsN_nil, List.length_cons, List.length_nil]
  omega
end Go.Proofs.YtbaideeiljeamaaGreatDoor
