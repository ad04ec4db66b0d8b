/-
  My own text: the law PrioSorts: its row, up to the bound.
-/
import Derived.Test.YtolmngjppnmkoaaPArg
import Derived.Test.YtolmngjppnmkoaaSC2
import Derived.Test.YtolmngjppnmkoaaChecked
namespace Go.Proofs.Ytolmngjppnmkoaa
open Go.ChangeShapes Go.WideShapes Go.ChangeAt Go.RowKit

theorem Try.cellsT : Try.prog.cellsOf 9 = 1 := by kernel_rfl
theorem bulk_oneS {H : Type} (d : DataW H) : 1 ≤ Rows.uptoBulk d := by
  cases d with
  | lit l => cases l <;> simp [Rows.uptoBulk]
  | _ => simp [Rows.uptoBulk]
theorem bulk_lenS {H : Type} : ∀ l : List (DataW H), l.length ≤ Rows.uptoBulkAll l
  | [] => Nat.zero_le _
  | d :: r => by
    have := bulk_lenS r
    have := bulk_oneS d
    simp only [Rows.uptoBulkAll, List.length_cons]
    omega
set_option maxRecDepth 100000 in
theorem open_texts {H : Type} {enc : TypeId × Value → H} {W : World} {v : Value} {d : DataW H} {p : List MemPlace}
    (hok : ∃ a len cap, v = .slice a len cap) (h : DataW.Trod enc Try.prog W 0 (fun _ => true) true 54 v d p) (hlt : ∀ x ∈ p, x.block < W.heap.size)
    (hs : Rows.uptoBulk d ≤ 1048576) :
    ∃ L : List SG.St, SG.RT W v L ∧ L.length ≤ 1048576 := by
  obtain ⟨a0, len, cap, rfl⟩ := hok
  obtain ⟨fuel, hf⟩ := h
  rcases Go.Deep.open_slice Try.underlying54 hf with ⟨hcs, hx⟩ | ⟨a, len', cap', m, n, D, Pl, hcs, hb, hl, hm, hmm, hx, hel⟩
  · simp [Value.cells] at hcs
    obtain ⟨rfl, rfl, rfl⟩ := hcs
    exact ⟨[], ⟨none, 0, rfl, .inl rfl⟩, by simp⟩
  · simp [Value.cells] at hcs
    obtain ⟨rfl, rfl, rfl⟩ := hcs
    have hp : p = _ := (Prod.mk.inj hx).2
    have hd : d = _ := (Prod.mk.inj hx).1
    rw [hp, Try.cellsT] at hlt
    rw [Try.cellsT] at hel
    simp only [if_true] at hmm
    subst hmm
    have hlen : len ≤ 1048576 := by
      have h1 := bulk_lenS ((List.range len).map D)
      rw [hd] at hs
      simp only [Rows.uptoBulk] at hs
      simp only [List.length_map, List.length_range] at h1
      omega
    clear hx hp hf hd
    have each : ∀ i, i < len → ∃ s : SG.St, W.cell? (a.add i) = some (.string ⟨s.toArray⟩) := by
      intro i hi
      obtain ⟨cs', h1, h2⟩ := hel i (by omega)
      clear hel hlt
      obtain ⟨_, hlen', hcell⟩ := World.cells?_some h1
      obtain ⟨⟨⟨s⟩⟩, e, _⟩ := DataW.trod_string Try.underlying9 h2
      subst e
      have g0 := hcell 0 (by simp)
      rw [Go.Deep.add_add] at g0
      exact ⟨s, by simpa using g0⟩
    obtain ⟨L, hL, hQ⟩ := listOfA len each
    refine ⟨L, ⟨some a, m, by rw [hL], ?_⟩, by rw [hL]; exact hlen⟩
    by_cases h0 : len = 0
    · exact .inl (List.eq_nil_of_length_eq_zero (by omega))
    · obtain ⟨b, off, spot⟩ := a
      obtain ⟨s0, hc0⟩ := each 0 (by omega)
      have hspot : spot = none := by simpa [Addr.add] using World.cell?_spot hc0
      subst hspot
      have hbW : b < W.heap.size := hlt (.cell b off) (List.mem_append_left _ (MemPlace.mem_row.2 ⟨0, by omega, by simp⟩))
      refine .inr ⟨b, off, rfl, hbW, fun j s hj => ?_⟩
      have g0 := hQ j s hj
      rw [add_plain] at g0
      exact g0
set_option maxRecDepth 100000 in
theorem prioSorts_lifted (os : Os) (started : os.Started) (H : Type) (enc : TypeId × Value → H) (F : Stop.Interp) :
    ReturnsInHanded {} Try.checked os 5 .any ((Rows.OpenSpec.upto Rows.prioSortsSpec).pre6 enc Try.prog Try.f5 Rows.prioSortsUptoRow.domain false) (((Rows.OpenSpec.upto Rows.prioSortsSpec).at F).post enc Try.prog Try.f5 false true false false) := by
  refine returnsInHanded_of_cond (C := Try.checked) (s := Rows.OpenSpec.upto Rows.prioSortsSpec) (k := Rows.uptoSmall) rfl Try.own started (by kernel_rfl) Try.func5
    (OpenSpec.witness (enc := enc) (C := Try.checked) (s := Rows.OpenSpec.upto Rows.prioSortsSpec) (k := Rows.uptoSmall) rfl false ⟨#[], #[.slice none 0 0], []⟩ 8 (by kernel_rfl) (by kernel_rfl) (by kernel_rfl)
      (x := ([.nil], [], [])) (by kernel_rfl) rfl (by kernel_rfl)) ?_
  intro W base args ds gs before hval0 hW _ hk _
  have hval : ∀ (j : Nat) t v, Try.f5.params[j]? = some t → args[j]? = some v → Value.okWide Try.prog W .any base t v := hval0
  have hW' := hW
  obtain ⟨p, q, hA0, hV, rfl, hfz, hnd⟩ := hW
  have hA : DataW.TrodAll enc Try.prog W 0 (fun _ => true) true Try.f5.params.toList args.toList ds p := hA0
  rw [Try.params5] at hA hval
  obtain ⟨v0, d0, rfl, rfl, h0⟩ := trodAll_one hA
  obtain ⟨rfl, rfl⟩ := trodVars_none hV
  clear hA0 hval0
  simp only [List.append_nil] at hW' hk
  have hlt : ∀ x ∈ p, x.block < W.heap.size := fun x hx => by simpa using hW'.lt x hx
  have hb : Rows.uptoBulkAll [d0] ≤ 1048576 := of_decide_eq_true hk
  have hb0 : Rows.uptoBulk d0 ≤ 1048576 := by simp only [Rows.uptoBulkAll] at hb; omega
  obtain ⟨L, hv, hn⟩ := open_texts (okWide_slice Try.underlying54 (hval 0 54 v0 rfl rfl)) h0 hlt hb0
  have hargs : ∀ (W' : World), Below W.heap.size W W' → DataW.Trod enc Try.prog W' 0 (fun b => decide (b < W.heap.size)) true 54 v0 d0 p :=
    fun W' hn => Below.trod Try.laidOut (by kernel_rfl) (of_decide_eq_true (by kernel_rfl)) h0 hn hlt
  have e1 : Rows.prioSortsSpec.fn H ([d0] ++ []) = { results := [.lit (.bool true)], args := [d0] } := by simp [Rows.prioSortsSpec]
  refine (SG.prioSorts_law v0 L W hv hn).mono fun e W' ⟨he, hw⟩ => ?_
  subst he
  show ∃ v, _ ∧ Rows.prioSortsSpec.post enc Try.prog Try.f5 false true false false W _ v W'
  refine ⟨_, rfl, _, _, _, [], p, [], hW', ?_, ?_, ?_, hw.frame _, fun h => by cases h⟩
  · rw [e1]; exact trodAll_mk1 (shut_bool Try.underlying4 true)
  · rw [e1]; exact trodAll_mk1 (hargs _ hw)
  · rw [e1]; rfl
theorem prioSorts_holds : Rows.PrioSortsUptoSaid :=
  OpenClaim.holds_of_cond 5 Try.f5 rfl rfl rfl rfl rfl rfl rfl ⟨rfl, rfl, rfl, rfl, rfl⟩ rfl rfl rfl rfl rfl (by kernel_rfl) Try.func5 (by kernel_rfl)
    (of_decide_eq_true (by kernel_rfl)) (by unfold Func.isWrapper; rw [if_neg (of_decide_eq_false (by kernel_rfl))]; exact ⟨rfl, rfl⟩)
    (fun os started H enc _ F => prioSorts_lifted os started H enc F)
#print axioms prioSorts_holds
end Go.Proofs.Ytolmngjppnmkoaa
