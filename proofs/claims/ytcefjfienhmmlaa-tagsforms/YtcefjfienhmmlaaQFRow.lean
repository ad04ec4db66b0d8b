/-
  My own text: the law that a text that is read is the one that is written: its row.
-/
import Derived.Test.YtcefjfienhmmlaaQL
import Derived.Test.YtcefjfienhmmlaaRows
import Derived.ProofKit
import Derived.OpenShut
import Derived.ChangeSame
import Derived.JoinedOf
import Derived.HandedShaped
import Derived.SizedLaws
import Derived.ShutString
import Derived.Shelf.Vars
namespace Go.Proofs.Ytcefjfienhmmlaa
open Go.ChangeShapes Go.WideShapes Go.ChangeAt Go.RowKit
open Go.ChangeMaps (open_string shut_string)

theorem Try.own : ownKnob Try.prog.godebug = none := by kernel_rfl
theorem ml_shaped {W : World} (h : W.ShapedOpen Try.prog) : ML W :=
  cell_of_shapedOpen_int (t := 3) (zero := #[.int .i64 0]) h (of_decide_eq_true (by kernel_rfl)) (by kernel_rfl) rfl (by kernel_rfl) (by kernel_rfl) Try.underlying3
set_option maxRecDepth 100000 in
theorem tagsForms_lifted (os : Os) (started : os.Started) (H : Type) (enc : TypeId × Value → H) :
    ReturnsInHanded {} Try.checked os 3 .any (Rows.tagsFormsSpec.pre6 enc Try.prog Try.f3 [] false) (Rows.tagsFormsSpec.post enc Try.prog Try.f3 false true false false) := by
  refine returnsInHanded_of_change_shaped (C := Try.checked) Try.own started (by kernel_rfl) Try.func3
    (ChangeSpec.witness6 (enc := enc) (C := Try.checked) false ⟨#[], #[.string ⟨#[]⟩, .string ⟨#[]⟩], []⟩ 8 (by kernel_rfl) (by kernel_rfl) (by kernel_rfl) (by kernel_rfl)) ?_
  intro W base args ds gs before hval0 hW _ hsz0 hsh _
  have hsz : (DataW.weightsEach Try.prog (Try.f3.params.toList ++ Rows.tagsFormsSpec.plain.varTypes Try.prog) (ds ++ gs)).all (· ≤ reachBytes) = true := hsz0
  clear hsz0
  have hval : ∀ (j : Nat) t v, Try.f3.params[j]? = some t → args[j]? = some v → Value.okWide Try.prog W .any base t v := hval0
  have hW' := hW
  obtain ⟨p, q, hA0, hV, rfl, hfz, hnd⟩ := hW
  have hA : DataW.TrodAll enc Try.prog W 0 (fun _ => true) true Try.f3.params.toList args.toList ds p := hA0
  rw [Try.params3] at hA hval hsz
  obtain ⟨v0, v1, d0, d1, p0, p1, rfl, rfl, rfl, h0, h1⟩ := trodAll_two hA
  obtain ⟨rfl, rfl⟩ := trodVars_none hV
  obtain ⟨ls, rfl, rfl, rfl, hls⟩ := open_string Try.underlying9 (hval 0 9 v0 rfl rfl) h0
  obtain ⟨lt, rfl, rfl, rfl, hlt⟩ := open_string Try.underlying9 (hval 1 9 v1 rfl rfl) h1
  have hlen0 := sized_string hsz (j := 0) (t := 9) (bytes := ls.data.toList) rfl rfl
  have hlen1 := sized_string hsz (j := 1) (t := 9) (bytes := lt.data.toList) rfl rfl
  obtain ⟨⟨s⟩⟩ := ls
  obtain ⟨⟨t⟩⟩ := lt
  have hs : s.length ≤ 140737488355328 := by
    have : s.length ≤ reachBytes := hlen0
    unfold reachBytes at this; omega
  have ht : t.length ≤ 140737488355328 := by
    have : t.length ≤ reachBytes := hlen1
    unfold reachBytes at this; omega
  clear hA0 hval0
  have e1 : Rows.tagsFormsSpec.fn H ([.lit (.string (ByteArray.mk (Array.mk s)).data.toList), .lit (.string (ByteArray.mk (Array.mk t)).data.toList)] ++ []) = { results := [.lit (.bool true)], args := [.lit (.string (ByteArray.mk (Array.mk s)).data.toList), .lit (.string (ByteArray.mk (Array.mk t)).data.toList)] } := by simp [Rows.tagsFormsSpec]
  refine (forms_law s t W hs ht (ml_shaped hsh)).mono fun e W' ⟨he, hw⟩ => ?_
  subst he
  refine ⟨_, rfl, _, _, _, [], [], [], hW', ?_, ?_, ?_, hw.frame _, fun h => by cases h⟩
  · rw [e1]; exact trodAll_mk1 (shut_bool Try.underlying4 true)
  · rw [e1]; exact trodAll_mk2 (shut_string Try.underlying9 hls) (shut_string Try.underlying9 hlt)
  · rw [e1]; rfl
theorem tagsForms_holds : Rows.TagsFormsSaid :=
  OpenClaim.holds_of_wide 3 Try.f3 rfl rfl rfl rfl rfl rfl rfl ⟨rfl, rfl, rfl, rfl, rfl⟩ rfl rfl rfl rfl rfl (by kernel_rfl) Try.func3 (by kernel_rfl)
    (of_decide_eq_true (by kernel_rfl)) (by unfold Func.isWrapper; rw [if_neg (of_decide_eq_false (by kernel_rfl))]; exact ⟨rfl, rfl⟩)
    (fun os started H enc _ => tagsForms_lifted os started H enc)
#print axioms tagsForms_holds
end Go.Proofs.Ytcefjfienhmmlaa
