/-
  My own text: the law on the largest remainder: its row.
-/
import Derived.Test.YtijklmanhghhpaaShares
import Derived.Test.YtijklmanhghhpaaArg
import Derived.HandedShaped
namespace Go.Proofs.Ytijklmanhghhpaa
open Go.ChangeShapes Go.WideShapes Go.ChangeAt Go.RowKit

set_option maxRecDepth 100000 in
theorem amountShares_lifted (os : Os) (started : os.Started) (H : Type) (enc : TypeId × Value → H) :
    ReturnsInHanded {} Try.checked os 3 .any (Rows.amountSharesSpec.pre6 enc Try.prog Try.f3 [] false) (Rows.amountSharesSpec.post enc Try.prog Try.f3 false true false false) := by
  refine returnsInHanded_of_change_shaped (C := Try.checked) Try.own started (by kernel_rfl) Try.func3
    (ChangeSpec.witness6 (enc := enc) (C := Try.checked) false ⟨#[], #[.int .i64 0, .slice none 0 0, .int .i64 0], []⟩ 8 (by kernel_rfl) (by kernel_rfl) (by kernel_rfl) (by kernel_rfl)) ?_
  intro W base args ds gs before hval0 hW _ hsz0 _ _
  have hsz : (DataW.weightsEach Try.prog (Try.f3.params.toList ++ Rows.amountSharesSpec.plain.varTypes Try.prog) (ds ++ gs)).all (· ≤ reachBytes) = true := hsz0
  clear hsz0
  have hval : ∀ (j : Nat) t v, Try.f3.params[j]? = some t → args[j]? = some v → Value.okWide Try.prog W .any base t v := hval0
  have hW' := hW
  obtain ⟨p, q, hA0, hV, rfl, hfz, hnd⟩ := hW
  have hA : DataW.TrodAll enc Try.prog W 0 (fun _ => true) true Try.f3.params.toList args.toList ds p := hA0
  rw [Try.params3] at hA hval hsz
  obtain ⟨v0, v1, v2, d0, d1, d2, p0, p1, p2, rfl, rfl, rfl, h0, h1, h2⟩ := trodAll_three hA
  obtain ⟨rfl, rfl⟩ := trodVars_none hV
  obtain ⟨n, rfl, rfl, rfl, hn⟩ := open_int Try.underlying2 (hval 0 2 v0 rfl rfl) h0
  obtain ⟨b, rfl, rfl, rfl, hbb⟩ := open_int Try.underlying2 (hval 2 2 v2 rfl rfl) h2
  have bn := bounds_i64 hn
  have bb := bounds_i64 hbb
  clear hA0 hval0
  simp only [List.append_nil, List.nil_append] at hW'
  have hlt : ∀ x ∈ p1, x.block < W.heap.size := fun x hx => by simpa using hW'.lt x hx
  obtain ⟨a, cap, l, rfl, hv, hl, hb⟩ := open_longs (okWide_slice Try.underlying22 (hval 1 22 v1 rfl rfl)) h1 hlt (fun elems spare hd => by
    have h := sized_slice hsz (j := 1) (t := 22) (e := 2) (elems := elems) (spare := spare) rfl (by rw [hd]; rfl) Try.underlying22
    rw [Try.bytesLong] at h; exact h)
  have hargs : ∀ (W' : World), Below W.heap.size W W' → DataW.Trod enc Try.prog W' 0 (fun b => decide (b < W.heap.size)) true 22 (.slice a l.length cap) d1 p1 :=
    fun W' hn => Below.trod Try.laidOut (by kernel_rfl) (of_decide_eq_true (by kernel_rfl)) h1 hn hlt
  have e1 : Rows.amountSharesSpec.fn H ([.lit (.int .i64 n), d1, .lit (.int .i64 b)] ++ []) = { results := [.lit (.bool true)], args := [.lit (.int .i64 n), d1, .lit (.int .i64 b)] } := by simp [Rows.amountSharesSpec]
  refine (shares_law n b a cap l W hv hl hb bn.2 bb.2).mono fun e W' ⟨he, hw⟩ => ?_
  subst he
  refine ⟨_, rfl, _, _, _, [], p1, [], hW', ?_, ?_, ?_, hw.frame _, fun h => by cases h⟩
  · rw [e1]; exact trodAll_mk1 (shut_bool Try.underlying4 true)
  · rw [e1]
    have h := trodAll_mk3 (shut_int Try.underlying2 hn) (hargs _ hw) (shut_int Try.underlying2 hbb)
    simp only [List.nil_append, List.append_nil] at h
    exact h
  · rw [e1]; rfl
theorem amountShares_holds : Rows.AmountSharesSaid :=
  OpenClaim.holds_of_wide 3 Try.f3 rfl rfl rfl rfl rfl rfl rfl ⟨rfl, rfl, rfl, rfl, rfl⟩ rfl rfl rfl rfl rfl (by kernel_rfl) Try.func3 (by kernel_rfl)
    (of_decide_eq_true (by kernel_rfl)) (by unfold Func.isWrapper; rw [if_neg (of_decide_eq_false (by kernel_rfl))]; exact ⟨rfl, rfl⟩)
    (fun os started H enc _ => amountShares_lifted os started H enc)
#print axioms amountShares_holds
end Go.Proofs.Ytijklmanhghhpaa
