/-
  My own text: layer 22: the face of a notice, whole; the document's Fit, whole.
-/
import Derived.Test.YtdfhfjkcafchiaaDoorMFbff
import Derived.Test.YtdfhfjkcafchiaaDoorMFbft
import Derived.Test.YtdfhfjkcafchiaaDoorMFbtf
import Derived.Test.YtdfhfjkcafchiaaDoorMFbtt
import Derived.Test.YtdfhfjkcafchiaaDoorMF7
import Derived.Test.YtdfhfjkcafchiaaDoorMF8
namespace Go.Proofs.YtdfhfjkcafchiaaDoor
open Go.RowKit LC

theorem faceOf_any (n : Ntc) (v : Value) (q : Q4) (w : World) (hn : NOk n) (hO : LC.HeadOffice w) :
    Calls Tryd.prog 14 #[.agg (nC n v), .agg (q4 q)] w fun e w' => e = .returned (.agg (fC (faceF n q))) ∧ Below w.heap.size w w' := by
  have HOF := hide (fun W (hW : Below w.heap.size w W) => officeOf_any n.agt W (hO.below hW) hn.agt)
  obtain ⟨c0, c1, c2, c3, c4, c5, c6, c7, c8, c9, c10, c11, e⟩ := LC.len12 hn.code
  obtain ⟨ref, prev, cn, rc, py, tr, st, code, qty, acc, agt, oth, amt, cur, pri⟩ := n
  obtain ⟨qa, qb, qc, qd⟩ := q
  dsimp only at e HOF
  subst e
  unfold faceF
  dsimp only
  obtain ⟨⟨ra, rb, rd, re⟩, hr⟩ : ∃ r, bq agt = r := ⟨_, rfl⟩
  rw [hr] at HOF ⊢
  dsimp only [q4] at HOF
  cases py with
  | false =>
    cases rc with
    | false => exact faceOf_ff ref prev cn tr st qty amt pri c0 c1 c2 c3 c4 c5 c6 c7 c8 c9 c10 c11 acc agt oth cur qa qb qc qd ra rb rd re v w HOF
    | true => exact faceOf_ft ref prev cn tr st qty amt pri c0 c1 c2 c3 c4 c5 c6 c7 c8 c9 c10 c11 acc agt oth cur qa qb qc qd ra rb rd re v w HOF
  | true =>
    cases rc with
    | false => exact faceOf_tf ref prev cn tr st qty amt pri c0 c1 c2 c3 c4 c5 c6 c7 c8 c9 c10 c11 acc agt oth cur qa qb qc qd ra rb rd re v w HOF
    | true => exact faceOf_tt ref prev cn tr st qty amt pri c0 c1 c2 c3 c4 c5 c6 c7 c8 c9 c10 c11 acc agt oth cur qa qb qc qd ra rb rd re v w HOF
/-- What the document's Fit answers. -/
theorem rFit_any (p q : Int) (n m : Ntc) (v u bv : Value) (bs : List (List UInt8)) (t : Int) (w : World) (hn : NOk n) (hm : NOk m) (ha : I64 n.amt) (hb : I64 m.amt) (ht : I64 t) (hvo : v.oneCell' = true) (huo : u.oneCell' = true)
    (hv : RT w bv bs) (hs : ∀ s ∈ bs, s.length ≤ 140737488355328) :
    Calls Tryd.prog 4 #[.agg (sC p n v), .agg (sC q m u), bv, .int .i64 t] w fun e w' => e = .returned (.tuple #[.int .i64 (fitV p n q m bs t).1, .bool (fitV p n q m bs t).2]) ∧ Below w.heap.size w w' := by
  by_cases H : out3 n m
  · exact fit_out p q n m v u bv bs t w hn hm ha hb ht hvo huo hv hs H
  · exact fit_in p q n m v u bv bs t w hn hm ha hb ht hvo huo hv hs H
end Go.Proofs.YtdfhfjkcafchiaaDoor
