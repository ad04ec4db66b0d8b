/-
  My own text: Row, QArg, QKCard in one.
-/
import Derived.Test.YtknnojjfdfkdmaaGreatDoorRows
import Derived.Test.YtknnojjfdfkdmaaGreatDoorTie
import Derived.Test.YtknnojjfdfkdmaaGreatDoorCards
import Derived.Test.YtknnojjfdfkdmaaGreatDoorErrV
import Derived.ProofKit
import Derived.OpenShut
import Derived.ChangeSame
import Derived.ChangeVars
import Derived.JoinedOf
import Derived.RowKit
import Derived.RowKitTokens
import Derived.LaidLaws
import Derived.LaidHandle
import Derived.LaidMore
import Derived.SevenTiedAt
import Derived.Test.YtknnojjfdfkdmaaGreatDoorQK2
import Derived.ChangeSlices
import Derived.JoinedCond
import Derived.Carry
import Derived.Deep.Slices
import Derived.SizedLaws
import Derived.HandedShaped
import Derived.Test.YtknnojjfdfkdmaaGreatDoorQK4
import Derived.Stop.LaidErr
namespace Go.Proofs.YtknnojjfdfkdmaaGreatDoor
open Go.ChangeShapes Go.WideShapes Go.RowKit

theorem Tryz.own : ownKnob Tryz.prog.godebug = none := by kernel_rfl
theorem Tryz.et : Tryz.prog.globalNamed "errors.errorType" = some 0 := by kernel_rfl
theorem Tryz.rt : (Tryz.prog.cutTypes.find? (·.1 == "internal/reflectlite.rtype")).map (·.2) = some 116 := by kernel_rfl
theorem Tryz.oneRow : ((List.range 185).filter fun t => Tryz.prog.rowNamed t [101, 114, 114, 111, 114]) = [34] := by kernel_rfl
theorem Tryz.size : Tryz.prog.types.size = 185 := by kernel_rfl
def laidE : List (String × DataW Unit) := [("errors.errorType", Rows.laid_errors_errorType)]

/-- WHAT THE CONDITION GIVES A WALK: the variable's one cell. -/
theorem errType_of_laid {W : World} (h : laidMetH Tryz.prog laidE W) : ErrType W := by
  have h' : laidMet Tryz.prog [] W ∧ handlesMet Tryz.prog laidE W := h
  obtain ⟨name, u, ty, e1, e2, e3, e4, e5⟩ := h'.2 _ (List.mem_singleton.2 rfl)
  have en : name = [101, 114, 114, 111, 114] := (Option.some.inj e1).symm
  subst en
  obtain rfl := Option.some.inj (Tryz.rt.symm.trans e2)
  have hm : ty ∈ (List.range 185).filter fun t => Tryz.prog.rowNamed t [101, 114, 114, 111, 114] := List.mem_filter.2 ⟨List.mem_range.2 (by rw [← Tryz.size]; exact e3), e4⟩
  rw [Tryz.oneRow] at hm
  obtain rfl := List.mem_singleton.1 hm
  have hh : typeHandle Tryz.prog 34 = .pointer (some ⟨1, 34, none⟩) := by kernel_rfl
  rw [hh] at e5
  unfold ErrType
  simpa using World.var?_cell Tryz.et e5 0

/-- The heap that the door's own run leaves meets the condition. -/
theorem door_met (os : Os) (args : Array Value) : laidMetH Tryz.prog laidE ((World.doorLaid Tryz.prog 400 os).forCall (fun _ _ => 0) ⟨#[], args, []⟩).memory :=
  laidMetH_of_parts (laidMet_nil _ _) (by kernel_rfl)
end Go.Proofs.YtknnojjfdfkdmaaGreatDoor
namespace Go.Proofs.YtknnojjfdfkdmaaGreatDoor
open Go.ChangeShapes Go.WideShapes Go.ChangeAt Go.RowKit

theorem Tryz.laidOut : laidOutB Tryz.prog = true := by kernel_rfl
theorem Tryz.cellsIA : Tryz.prog.cellsOf 3 = 1 := by kernel_rfl
theorem Tryz.cellsKy : Tryz.prog.cellsOf 23 = 2 := by kernel_rfl
theorem Tryz.bytesKy : Tryz.prog.bytesOf 23 = 16 := by kernel_rfl
theorem Tryz.cellsSlK : Tryz.prog.cellsOf 24 = 1 := by kernel_rfl
theorem Tryz.cellsOq : Tryz.prog.cellsOf 26 = 4 := by kernel_rfl
theorem Tryz.bytesOq : Tryz.prog.bytesOf 26 = 48 := by kernel_rfl
section
variable {H : Type} {enc : TypeId × Value → H} {P : Program} {w : World} {base : Nat} {spare : Nat → Bool} {held : Bool} {t : TypeId} {cs : List Value} {v : Value} {n : Nat} {x : DataW H × List MemPlace}
theorem intFA {k : IntKind} (ht : P.underlying t = some (.int k)) (h : DataW.trod enc P w base spare held n t cs = some x) (hc : cs = [v]) :
    ∃ a, v = .int k a ∧ (Lit.int k a).wf = true := by
  obtain ⟨a, e, hx, hw⟩ := DataW.trod_int ht h
  rw [hc] at e
  exact ⟨a, by simpa using e, hw⟩
end
theorem listOfA {α : Type} {Q : Nat → α → Prop} : ∀ n : Nat, (∀ j, j < n → ∃ p, Q j p) → ∃ l : List α, l.length = n ∧ ∀ j p, l[j]? = some p → Q j p
  | 0, _ => ⟨[], rfl, fun j p h => by simp at h⟩
  | n + 1, h => by
    obtain ⟨l, hl, hq⟩ := listOfA n (fun j hj => h j (by omega))
    obtain ⟨p, hp⟩ := h n (by omega)
    refine ⟨l ++ [p], by simp [hl], fun j p' hj => ?_⟩
    by_cases hjn : j < n
    · rw [List.getElem?_append_left (by omega)] at hj; exact hq j p' hj
    · rw [List.getElem?_append_right (by omega)] at hj
      have : j - l.length = 0 := by
        have := (List.getElem?_eq_some_iff.1 hj).1
        simp at this; omega
      rw [this] at hj
      have hj' : j = n := by omega
      simp at hj; subst hj; rw [hj']; exact hp
theorem weights_all {H : Type} {P : Program} {e : TypeId} {d : DataW H} {m : Nat} (hm : m ∈ d.weights P e) : ∀ {l : List (DataW H)}, d ∈ l → m ∈ DataW.weightsAll P e l
  | [], h => by cases h
  | x :: r, h => by
    simp only [DataW.weightsAll, List.mem_append]
    rcases List.mem_cons.1 h with rfl | h
    · exact .inl hm
    · exact .inr (weights_all hm h)
set_option maxRecDepth 100000 in
theorem open_keysU {H : Type} {enc : TypeId × Value → H} {W : World} {v : Value} {n : Nat} {x : DataW H × List MemPlace}
    (h : DataW.trod enc Tryz.prog W 0 (fun _ => true) true n 24 [v] = some x) (hlt : ∀ y ∈ x.2, y.block < W.heap.size)
    (hs : ∀ m ∈ x.1.weights Tryz.prog 24, m ≤ reachBytes) :
    ∃ ls : List Ky, KY.RM W v ls ∧ ls.length ≤ 8796093021999 ∧ ∀ k ∈ ls, KOK k := by
  rcases Go.Deep.open_slice Tryz.underlying24 h with ⟨hcs, hx⟩ | ⟨a, len, cap, m, n', D, Pl, hcs, hb, hl, hm, hmm, hx, hel⟩
  · obtain rfl : v = .slice none 0 0 := by simpa using hcs
    exact ⟨[], KY.RM.nil W, by simp, (fun p hp => by cases hp)⟩
  · obtain rfl : v = .slice (some a) len cap := by simpa using hcs
    have hp : x.2 = _ := congrArg Prod.snd hx
    have hdd : x.1 = _ := congrArg Prod.fst hx
    rw [hp, Tryz.cellsKy] at hlt
    rw [Tryz.cellsKy] at hel
    clear hx hp
    simp only [if_true] at hmm
    subst hmm
    have hlen : len * 16 ≤ reachBytes := by
      have := hs ((((List.range len).map D).length + ((List.range (m - len)).map fun j => D (len + j)).length) * Tryz.prog.bytesOf 23) (by rw [hdd]; simp only [DataW.weights, Tryz.underlying24]; exact List.mem_cons_self)
      rw [Tryz.bytesKy] at this
      simp only [List.length_map, List.length_range] at this
      omega
    have each : ∀ i, i < len → ∃ p : Ky, (W.cell? (a.add (i * 2)) = some (.int .i64 p.1) ∧ W.cell? (a.add (i * 2 + 1)) = some (.int .i64 p.2)) ∧ KOK p := by
      intro i hi
      obtain ⟨cs', h1, h2⟩ := hel i (by omega)
      obtain ⟨_, hlen', hcell⟩ := World.cells?_some h1
      obtain ⟨xs, k, _, hxy, _, hxl, hall⟩ := DataW.trod_struct Tryz.underlying23 h2
      match xs, hxl, cs', hlen' with
      | [x0, x1], _, [c0, c1], _ =>
        obtain ⟨a0, e0, w0⟩ := intFA (v := c0) (x := x0) Tryz.underlying3 (by simpa using hall 0 _ rfl) (by show List.take (Tryz.prog.cellsOf 3) _ = _; rw [Tryz.cellsIA]; rfl)
        obtain ⟨a1, e1, w1⟩ := intFA (v := c1) (x := x1) Tryz.underlying3 (by simpa using hall 1 _ rfl) (by show List.take (Tryz.prog.cellsOf 3) _ = _; rw [Tryz.cellsIA]; rfl)
        subst e0 e1
        have g0 := hcell 0 (by omega)
        have g1 := hcell 1 (by omega)
        rw [Go.Deep.add_add] at g0 g1
        exact ⟨(a0, a1), ⟨by simpa using g0, by simpa using g1⟩, w0, w1⟩
    obtain ⟨ls, hpl, hps⟩ := listOfA len each
    refine ⟨ls, ⟨some a, m, by rw [hpl], by rw [hpl]; omega, ?_⟩, by rw [hpl]; unfold reachBytes at hlen; omega, fun k hk => ?_⟩
    · by_cases h0 : len = 0
      · left; exact List.length_eq_zero_iff.1 (by omega)
      · right
        obtain ⟨b, off, spot⟩ := a
        obtain ⟨p0, hc0, _⟩ := each 0 (by omega)
        have hspot : spot = none := by simpa [Addr.add] using World.cell?_spot hc0.1
        subst hspot
        have hbW : b < W.heap.size := hlt (.cell b off) (List.mem_append_left _ (MemPlace.mem_row.2 ⟨0, by omega, by simp⟩))
        refine ⟨b, off, rfl, hbW, fun j p hj => ?_⟩
        have gg := (hps j p hj).1
        simp only [Addr.add_lit] at gg
        simpa [Nat.add_assoc] using gg
    · obtain ⟨j, hj⟩ := List.getElem?_of_mem hk
      exact (hps j k hj).2
set_option maxRecDepth 100000 in
theorem open_opsU {H : Type} {enc : TypeId × Value → H} {W : World} {v : Value} {n : Nat} {x : DataW H × List MemPlace}
    (h : DataW.trod enc Tryz.prog W 0 (fun _ => true) true n 27 [v] = some x) (hlt : ∀ y ∈ x.2, y.block < W.heap.size)
    (hs : ∀ m ∈ x.1.weights Tryz.prog 27, m ≤ reachBytes) :
    ∃ S : List Oq, RO W v S ∧ S.length ≤ 2932031007402 ∧ ∀ p ∈ S, p.ks.length ≤ 8796093021999 := by
  rcases Go.Deep.open_slice Tryz.underlying27 h with ⟨hcs, hx⟩ | ⟨a, len, cap, m, n', D, Pl, hcs, hb, hl, hm, hmm, hx, hel⟩
  · obtain rfl : v = .slice none 0 0 := by simpa using hcs
    exact ⟨[], ⟨(fun p hp => by cases hp), none, 0, rfl, .inl rfl⟩, by simp, (fun p hp => by cases hp)⟩
  · obtain rfl : v = .slice (some a) len cap := by simpa using hcs
    have hp : x.2 = _ := congrArg Prod.snd hx
    have hdd : x.1 = _ := congrArg Prod.fst hx
    rw [hp, Tryz.cellsOq] at hlt
    rw [Tryz.cellsOq] at hel
    clear hx hp
    simp only [if_true] at hmm
    subst hmm
    rw [hdd] at hs
    simp only [DataW.weights, Tryz.underlying27] at hs
    have hlen : len * 48 ≤ reachBytes := by
      have := hs _ List.mem_cons_self
      rw [Tryz.bytesOq] at this
      simp only [List.length_map, List.length_range] at this
      omega
    have each : ∀ i, i < len → ∃ p : Oq, (W.cell? (a.add (i * 4)) = some (.int .i64 p.on) ∧ W.cell? (a.add (i * 4 + 1)) = some (.int .i64 p.kind) ∧ W.cell? (a.add (i * 4 + 2)) = some (.int .i64 p.id) ∧ W.cell? (a.add (i * 4 + 3)) = some p.kv) ∧ OqOk W p ∧ p.ks.length ≤ 8796093021999 := by
      intro i hi
      obtain ⟨cs', h1, h2⟩ := hel i (by omega)
      obtain ⟨_, hlen', hcell⟩ := World.cells?_some h1
      obtain ⟨xs, k, _, hxy, _, hxl, hall⟩ := DataW.trod_struct Tryz.underlying26 h2
      match xs, hxl, cs', hlen' with
      | [x0, x1, x2, x3], _, [c0, c1, c2, c3], _ =>
        have hD : D i = .agg [x0.1, x1.1, x2.1, x3.1] := congrArg Prod.fst hxy
        have hP : Pl i = _ := congrArg Prod.snd hxy
        obtain ⟨a0, e0, w0⟩ := intFA (v := c0) (x := x0) Tryz.underlying3 (by simpa using hall 0 _ rfl) (by show List.take (Tryz.prog.cellsOf 3) _ = _; rw [Tryz.cellsIA]; rfl)
        obtain ⟨a1, e1, w1⟩ := intFA (v := c1) (x := x1) Tryz.underlying3 (by simpa using hall 1 _ rfl) (by show List.take (Tryz.prog.cellsOf 3) _ = _; rw [Tryz.cellsIA]; rfl)
        obtain ⟨a2, e2, w2⟩ := intFA (v := c2) (x := x2) Tryz.underlying3 (by simpa using hall 2 _ rfl) (by show List.take (Tryz.prog.cellsOf 3) _ = _; rw [Tryz.cellsIA]; rfl)
        obtain ⟨ks, hrm, hkl, hkk⟩ := open_keysU (x := x3) (v := c3) (by
          have this : DataW.trod enc Tryz.prog W 0 (fun _ => true) true k 24 (List.take (Tryz.prog.cellsOf 24) [c3]) = some x3 := hall 3 _ rfl
          rw [Tryz.cellsSlK] at this
          exact this) (fun y hy => hlt y (List.mem_append_right _ (List.mem_flatMap.2 ⟨i, List.mem_range.2 (by omega), by rw [hP]; exact List.mem_flatMap.2 ⟨x3, by simp, hy⟩⟩))) (fun m' hm' => hs m' (List.mem_cons_of_mem _ (List.mem_append_left _ (weights_all (d := D i) (by
            rw [hD]; simp only [DataW.weights, Tryz.underlying26]
            exact DataW.weights_mem_each (j := 3) (t := 24) (d := x3.1) rfl rfl m' hm') (List.mem_map.2 ⟨i, List.mem_range.2 hi, rfl⟩)))))
        obtain ⟨ka, kc, rfl, hr⟩ := hrm
        subst e0 e1 e2
        have g0 := hcell 0 (by omega)
        have g1 := hcell 1 (by omega)
        have g2 := hcell 2 (by omega)
        have g3 := hcell 3 (by omega)
        rw [Go.Deep.add_add] at g0 g1 g2 g3
        exact ⟨⟨a0, a1, a2, ks, ka, kc⟩, ⟨by simpa using g0, by simpa using g1, by simpa using g2, by simpa [Oq.kv] using g3⟩, ⟨⟨ka, kc, rfl, hr⟩, by show ks.length ≤ _; omega, hkk, w2⟩, hkl⟩
    obtain ⟨S, hpl, hps⟩ := listOfA len each
    refine ⟨S, ⟨fun p hp => ?_, some a, m, by rw [hpl], ?_⟩, by rw [hpl]; unfold reachBytes at hlen; omega, fun p hp => ?_⟩
    · obtain ⟨j, hj⟩ := List.getElem?_of_mem hp
      exact (hps j p hj).2.1
    · by_cases h0 : len = 0
      · left; exact List.length_eq_zero_iff.1 (by omega)
      · right
        obtain ⟨b, off, spot⟩ := a
        obtain ⟨p0, ⟨hc0, _⟩, _⟩ := each 0 (by omega)
        have hspot : spot = none := by simpa [Addr.add] using World.cell?_spot hc0
        subst hspot
        have hbW : b < W.heap.size := hlt (.cell b off) (List.mem_append_left _ (MemPlace.mem_row.2 ⟨0, by omega, by simp⟩))
        refine ⟨b, off, rfl, hbW, fun j p hj => ?_⟩
        obtain ⟨⟨g0, g1, g2, g3⟩, _⟩ := hps j p hj
        rw [Addr.add_lit] at g0 g1 g2 g3
        exact ⟨g0, by rw [← Nat.add_assoc] at g1; exact g1, by rw [← Nat.add_assoc] at g2; exact g2, by rw [← Nat.add_assoc] at g3; exact g3⟩
    · obtain ⟨j, hj⟩ := List.getElem?_of_mem hp
      exact (hps j p hj).2.2
theorem Tryz.cellsTw : Tryz.prog.cellsOf 29 = 2 := by kernel_rfl
set_option maxRecDepth 100000 in
theorem open_pairQ {H : Type} {enc : TypeId × Value → H} {W : World} {r : Reach} {bb : Nat} {v : Value} {d : DataW H} {p : List MemPlace}
    (hv : Value.okWide Tryz.prog W r bb 29 v) (h : DataW.Trod enc Tryz.prog W 0 (fun _ => true) true 29 v d p) :
    ∃ a b : Int, v = .agg #[.int .i64 a, .int .i64 b] := by
  simp only [Value.okWide, Tryz.underlying29] at hv
  obtain ⟨cs, rfl, hsz, _⟩ := hv
  rw [Tryz.cellsTw] at hsz
  obtain ⟨l⟩ := cs
  match l, hsz with
  | [c0, c1], _ =>
    obtain ⟨fuel, hf⟩ := h
    obtain ⟨xs, k, _, hx, _, hlen, hall⟩ := DataW.trod_array Tryz.underlying29 hf
    clear hf
    match xs, hlen with
    | [x0, x1], _ =>
      obtain ⟨a0, e0, w0⟩ := intFA (v := c0) (x := x0) Tryz.underlying3 (hall 0 (by omega)) (by rw [Tryz.cellsIA]; rfl)
      obtain ⟨a1, e1, w1⟩ := intFA (v := c1) (x := x1) Tryz.underlying3 (hall 1 (by omega)) (by rw [Tryz.cellsIA]; rfl)
      subst e0 e1
      exact ⟨a0, a1, rfl⟩
end Go.Proofs.YtknnojjfdfkdmaaGreatDoor
namespace Go.Proofs.YtknnojjfdfkdmaaGreatDoor
open Go.ChangeShapes Go.WideShapes Go.ChangeAt Go.RowKit

set_option maxRecDepth 100000 in
theorem queueKnown_lifted (os : Os) (started : os.Started) (H : Type) (enc : TypeId × Value → H) :
    ReturnsInHanded {} Tryz.checked os 3 .any (fun w args => (Rows.queueKnownSpec.pre enc Tryz.prog Tryz.f3 [] false w args ∧ laidMetH Tryz.prog laidE w) ∧ sizedMet enc Tryz.prog Tryz.f3 (OpenSpec.ofChange Rows.queueKnownSpec) false w args)
      (Rows.queueKnownSpec.post enc Tryz.prog Tryz.f3 false true false false) := by
  refine returnsInHanded_of_change_and (C := Tryz.checked) (X := fun w _ => laidMetH Tryz.prog laidE w) (fun _ _ _ hh h => h.of_heap hh) Tryz.own started (by kernel_rfl) Tryz.func3
    (ChangeSpec.witness_shaped (enc := enc) (C := Tryz.checked) (os := os) (X := fun w _ => laidMetH Tryz.prog laidE w) false (World.doorLaid Tryz.prog 400 os) #[] 8 rfl (World.shaped_of_RefB (by kernel_rfl) (by kernel_rfl)) (by kernel_rfl) (by kernel_rfl) (by kernel_rfl) (door_met os _)) ?_
  intro W base args ds gs before hval0 hW _ hsz0 hL _
  have hsz : (DataW.weightsEach Tryz.prog (Tryz.f3.params.toList ++ Rows.queueKnownSpec.plain.varTypes Tryz.prog) (ds ++ gs)).all (· ≤ reachBytes) = true := hsz0
  clear hsz0
  have hval : ∀ (j : Nat) t v, Tryz.f3.params[j]? = some t → args[j]? = some v → Value.okWide Tryz.prog W .any base t v := hval0
  have hW' := hW
  obtain ⟨p, q, hA0, hV, rfl, hfz, hnd⟩ := hW
  have hA : DataW.TrodAll enc Tryz.prog W 0 (fun _ => true) true Tryz.f3.params.toList args.toList ds p := hA0
  rw [Tryz.params3] at hA hval hsz
  obtain ⟨rfl, rfl, rfl⟩ := trodAll_none hA
  obtain ⟨rfl, rfl⟩ := trodVars_none hV
  clear hA0 hval0
  have e1 : Rows.queueKnownSpec.fn H ([] ++ []) = { results := [.lit (.bool true)], args := [] } := by simp [Rows.queueKnownSpec]
  refine (queueKnown_law W (errType_of_laid hL)).mono fun e W' ⟨he, hw⟩ => ?_
  subst he
  refine ⟨_, rfl, _, _, _, [], [], [], hW', ?_, ?_, ?_, hw.frame _, fun h => by cases h⟩
  · rw [e1]; exact trodAll_mk1 (shut_bool Tryz.underlying4 true)
  · rw [e1]; exact trodAll_mk0
  · rw [e1]; rfl

theorem queueKnown_holds : Rows.QueueKnownSaid :=
  OpenClaim.holds_of_wide 3 Tryz.f3 rfl rfl rfl rfl rfl rfl rfl ⟨rfl, rfl, rfl, rfl, rfl⟩ rfl rfl rfl rfl rfl (by kernel_rfl) Tryz.func3 (by kernel_rfl)
    (of_decide_eq_true (by kernel_rfl)) (by unfold Func.isWrapper; rw [if_neg (of_decide_eq_false (by kernel_rfl))]; exact ⟨rfl, rfl⟩)
    (fun os started H enc _ => queueKnown_lifted os started H enc)

theorem queueKnown_card : Rows.QueueKnownCardSaid :=
  Claim7.holds_tied_plain_at .later [] [.handle] true (true, Rows.queueKnownCard.stood.harness.2) true
    queueKnown_holds (fun _ h => by cases h) (by kernel_rfl) (fun _ h => by cases h) queueKnown_row_tie rfl ⟨rfl, rfl⟩ (by kernel_rfl) rfl
    (fun f fn hf hfn => by
      obtain rfl : f = 3 := Option.some.inj ((show Tryz.prog.funcNamed Rows.queueKnownRow.func = some 3 by kernel_rfl).symm.trans hf) |>.symm
      obtain rfl : fn = Tryz.f3 := (Option.some.inj (Tryz.func3.symm.trans hfn)).symm
      exact ⟨by kernel_rfl, fun j t ht => by
        rw [Tryz.params3] at ht
        have hm : t ∈ ([] : List TypeId) := by simpa using Array.mem_of_getElem? ht
        have hall : (([] : List TypeId).all fun u => !Tryz.prog.wantsStandIn u) = true := by kernel_rfl
        exact (show Tryz.prog.wantsStandIn t = false by simpa using List.all_eq_true.1 hall t hm)⟩)
    (by kernel_rfl)
#print axioms queueKnown_card
end Go.Proofs.YtknnojjfdfkdmaaGreatDoor
