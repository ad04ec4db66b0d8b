/-
  My own text: layer 19: the law QueueServes: its row.
-/
import Derived.Test.YtblldldaoejoaaaUArg
import Derived.Test.YtblldldaoejoaaaUS4
import Derived.Test.YtblldldaoejoaaaChecked
namespace Go.Proofs.Ytblldldaoejoaaa
open Go.ChangeShapes Go.WideShapes Go.ChangeAt Go.RowKit

theorem Try.bytesSlK : Try.prog.bytesOf 27 = 24 := by kernel_rfl
set_option maxRecDepth 100000 in
theorem open_rowsU {H : Type} {enc : TypeId × Value → H} {W : World} {v : Value} {n : Nat} {x : DataW H × List MemPlace}
    (h : DataW.trod enc Try.prog W 0 (fun _ => true) true n 46 [v] = some x) (hlt : ∀ y ∈ x.2, y.block < W.heap.size)
    (hs : ∀ m ∈ x.1.weights Try.prog 46, m ≤ reachBytes) :
    ∃ T : List Kr, RT W v T ∧ T.length ≤ 8796093022000 := by
  rcases Go.Deep.open_slice1 Try.underlying46 Try.cellsSlK h with ⟨hcs, hx⟩ | ⟨a, len, cap, m, n', V, D, Pl, hcs, hb, hl, hm, hmm, hx, hel⟩
  · obtain rfl : v = .slice none 0 0 := by simpa using hcs
    exact ⟨[], ⟨(fun p hp => by cases hp), none, 0, rfl, .inl rfl⟩, by simp⟩
  · obtain rfl : v = .slice (some a) len cap := by simpa using hcs
    have hp : x.2 = _ := congrArg Prod.snd hx
    have hdd : x.1 = _ := congrArg Prod.fst hx
    rw [hp] at hlt
    clear hx hp
    simp only [if_true] at hmm
    subst hmm
    rw [hdd] at hs
    simp only [DataW.weights, Try.underlying46] at hs
    have hlen : len * 24 ≤ reachBytes := by
      have := hs _ List.mem_cons_self
      rw [Try.bytesSlK] at this
      simp only [List.length_map, List.length_range] at this
      omega
    have each : ∀ i, i < len → ∃ p : Kr, W.cell? (a.add i) = some p.kv ∧ KrOk W p := by
      intro i hi
      obtain ⟨h1, h2⟩ := hel i (by omega)
      obtain ⟨ks, hrm, hkl, hkk⟩ := open_keysU (x := (D i, Pl i)) (v := V i) h2 (fun y hy => hlt y (List.mem_append_right _ (List.mem_flatMap.2 ⟨i, List.mem_range.2 (by omega), hy⟩))) (fun m' hm' => hs m' (List.mem_cons_of_mem _ (List.mem_append_left _ (weights_all (d := D i) hm' (List.mem_map.2 ⟨i, List.mem_range.2 hi, rfl⟩)))))
      obtain ⟨ka, kc, hv, hr⟩ := hrm
      exact ⟨⟨ks, ka, kc⟩, by rw [h1, hv]; rfl, ⟨⟨ka, kc, rfl, hr⟩, hkl, hkk⟩⟩
    obtain ⟨T, hpl, hps⟩ := listOfA len each
    refine ⟨T, ⟨fun p hp => ?_, some a, m, by rw [hpl], ?_⟩, by rw [hpl]; unfold reachBytes at hlen; omega⟩
    · obtain ⟨j, hj⟩ := List.getElem?_of_mem hp
      exact (hps j p hj).2
    · by_cases h0 : len = 0
      · left; exact List.length_eq_zero_iff.1 (by omega)
      · right
        obtain ⟨b, off, spot⟩ := a
        obtain ⟨p0, hc0, _⟩ := each 0 (by omega)
        have hspot : spot = none := by simpa [Addr.add] using World.cell?_spot hc0
        subst hspot
        have hbW : b < W.heap.size := hlt (.cell b off) (List.mem_append_left _ (MemPlace.mem_row.2 ⟨0, by omega, by simp⟩))
        refine ⟨b, off, rfl, hbW, fun j p hj => ?_⟩
        have g0 := (hps j p hj).1
        rw [Addr.add_lit] at g0
        exact g0
set_option maxRecDepth 100000 in
theorem queueServes_lifted (os : Os) (started : os.Started) (H : Type) (enc : TypeId × Value → H) :
    ReturnsInHanded {} Try.checked os 4 .any (Rows.queueServesSpec.pre6 enc Try.prog Try.f4 [] false) (Rows.queueServesSpec.post enc Try.prog Try.f4 false true false false) := by
  refine returnsInHanded_of_change_shaped (C := Try.checked) Try.own started (by kernel_rfl) Try.func4
    (ChangeSpec.witness6 (enc := enc) (C := Try.checked) false ⟨#[], #[.slice none 0 0, .slice none 0 0], []⟩ 8 (by kernel_rfl) (by kernel_rfl) (by kernel_rfl) (by kernel_rfl)) ?_
  intro W base args ds gs before hval0 hW _ hsz0 _ _
  have hsz : (DataW.weightsEach Try.prog (Try.f4.params.toList ++ Rows.queueServesSpec.plain.varTypes Try.prog) (ds ++ gs)).all (· ≤ reachBytes) = true := hsz0
  clear hsz0
  have hval : ∀ (j : Nat) t v, Try.f4.params[j]? = some t → args[j]? = some v → Value.okWide Try.prog W .any base t v := hval0
  have hW' := hW
  obtain ⟨p, q, hA0, hV, rfl, hfz, hnd⟩ := hW
  have hA : DataW.TrodAll enc Try.prog W 0 (fun _ => true) true Try.f4.params.toList args.toList ds p := hA0
  rw [Try.params4] at hA hval hsz
  obtain ⟨v0, v1, d0, d1, p0, p1, rfl, rfl, rfl, h0, h1⟩ := trodAll_two hA
  obtain ⟨rfl, rfl⟩ := trodVars_none hV
  clear hA0 hval0
  simp only [List.append_nil] at hW'
  have hlt0 : ∀ x ∈ p0, x.block < W.heap.size := fun x hx => hW'.lt x (by simp [hx])
  have hlt1 : ∀ x ∈ p1, x.block < W.heap.size := fun x hx => hW'.lt x (by simp [hx])
  obtain ⟨sa, sl, sc, hsv⟩ := okWide_slice Try.underlying22 (hval 0 22 v0 rfl rfl)
  obtain ⟨ta, tl, tc, htv⟩ := okWide_slice Try.underlying46 (hval 1 46 v1 rfl rfl)
  have hargs0 : ∀ (W' : World), Below W.heap.size W W' → DataW.Trod enc Try.prog W' 0 (fun b => decide (b < W.heap.size)) true 22 v0 d0 p0 :=
    fun W' hn => Below.trod Try.laidOut (by kernel_rfl) (of_decide_eq_true (by kernel_rfl)) h0 hn hlt0
  have hargs1 : ∀ (W' : World), Below W.heap.size W W' → DataW.Trod enc Try.prog W' 0 (fun b => decide (b < W.heap.size)) true 46 v1 d1 p1 :=
    fun W' hn => Below.trod Try.laidOut (by kernel_rfl) (of_decide_eq_true (by kernel_rfl)) h1 hn hlt1
  obtain ⟨fuel0, hf0⟩ := h0
  obtain ⟨fuel1, hf1⟩ := h1
  subst hsv htv
  obtain ⟨S, hS, hSl, hSk⟩ := open_opsU (x := (d0, p0)) (by simpa [Value.cells] using hf0) hlt0 (fun m hm => by
    have := List.all_eq_true.1 hsz m (DataW.weights_mem_each (j := 0) (t := 22) (d := d0) rfl rfl m hm)
    simpa using this)
  obtain ⟨T, hT, hTl⟩ := open_rowsU (x := (d1, p1)) (by simpa [Value.cells] using hf1) hlt1 (fun m hm => by
    have := List.all_eq_true.1 hsz m (DataW.weights_mem_each (j := 1) (t := 46) (d := d1) rfl rfl m hm)
    simpa using this)
  have e1 : Rows.queueServesSpec.fn H ([d0, d1] ++ []) = { results := [.lit (.bool true)], args := [d0, d1] } := by simp [Rows.queueServesSpec]
  refine (serves_law _ _ S T W hS hSk hSl hT hTl).mono fun e W' ⟨he, hw⟩ => ?_
  subst he
  refine ⟨_, rfl, _, _, _, [], p0 ++ p1, [], by simpa using hW', ?_, ?_, ?_, hw.frame _, fun h => by cases h⟩
  · rw [e1]; exact trodAll_mk1 (shut_bool Try.underlying4 true)
  · rw [e1]; exact trodAll_mk2 (hargs0 _ hw) (hargs1 _ hw)
  · rw [e1]; rfl
theorem queueServes_holds : Rows.QueueServesSaid :=
  OpenClaim.holds_of_wide 4 Try.f4 rfl rfl rfl rfl rfl rfl rfl ⟨rfl, rfl, rfl, rfl, rfl⟩ rfl rfl rfl rfl rfl (by kernel_rfl) Try.func4 (by kernel_rfl)
    (of_decide_eq_true (by kernel_rfl)) (by unfold Func.isWrapper; rw [if_neg (of_decide_eq_false (by kernel_rfl))]; exact ⟨rfl, rfl⟩)
    (fun os started H enc _ => queueServes_lifted os started H enc)
#print axioms queueServes_holds
end Go.Proofs.Ytblldldaoejoaaa
