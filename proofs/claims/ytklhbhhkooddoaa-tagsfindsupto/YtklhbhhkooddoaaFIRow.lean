/-
  My own text: the law of Find, Block and Count: its row, up to the bound.
-/
import Derived.Test.YtklhbhhkooddoaaFI
import Derived.Carry
import Derived.ShutString
import Derived.Test.YtklhbhhkooddoaaRows
import Derived.Deep.Slices
import Derived.ProofKit
import Derived.OpenShut
import Derived.ChangeSame
import Derived.ChangeVars
import Derived.JoinedOf
import Derived.RowKit
import Derived.RowKitTokens
import Derived.LaidLaws
import Derived.LaidHandle
import Derived.LaidMore
import Derived.SevenTiedAt
import Derived.JoinedCond
import Derived.Shelf.Vars
namespace Go.Proofs.Ytklhbhhkooddoaa
open Go.ChangeShapes Go.WideShapes Go.ChangeAt Go.RowKit
open Go.ChangeMaps (open_string shut_string)

theorem Try.own : ownKnob Try.prog.godebug = none := by kernel_rfl

theorem Try.laidOut : laidOutB Try.prog = true := by kernel_rfl
theorem Try.cellsS : Try.prog.cellsOf 9 = 1 := by kernel_rfl
theorem Try.cellsItm : Try.prog.cellsOf 26 = 5 := by kernel_rfl
theorem Try.cellsItms : Try.prog.cellsOf 22 = 1 := by kernel_rfl
section
variable {H : Type} {enc : TypeId × Value → H} {P : Program} {w : World} {base : Nat} {spare : Nat → Bool} {held : Bool} {t : TypeId} {cs : List Value} {v : Value} {n : Nat} {x : DataW H × List MemPlace}
theorem strF (ht : P.underlying t = some .string) (h : DataW.trod enc P w base spare held n t cs = some x) (hc : cs = [v]) :
    ∃ s : List UInt8, v = .string ⟨s.toArray⟩ ∧ x = (.lit (.string s), []) := by
  obtain ⟨⟨⟨s⟩⟩, e, hx, _⟩ := DataW.trod_string ht h
  rw [hc] at e
  exact ⟨s, by simpa using e, hx⟩
end
theorem listOf {α : Type} {Q : Nat → α → Prop} : ∀ n : Nat, (∀ j, j < n → ∃ p, Q j p) → ∃ l : List α, l.length = n ∧ ∀ j p, l[j]? = some p → Q j p
  | 0, _ => ⟨[], rfl, fun j p h => by simp at h⟩
  | n + 1, h => by
    obtain ⟨l, hl, hq⟩ := listOf n (fun j hj => h j (by omega))
    obtain ⟨p, hp⟩ := h n (by omega)
    refine ⟨l ++ [p], by simp [hl], fun j p' hj => ?_⟩
    by_cases hjn : j < n
    · rw [List.getElem?_append_left (by omega)] at hj; exact hq j p' hj
    · rw [List.getElem?_append_right (by omega)] at hj
      have : j - l.length = 0 := by
        have := (List.getElem?_eq_some_iff.1 hj).1
        simp at this; omega
      rw [this] at hj
      have hj' : j = n := by omega
      simp at hj; subst hj; rw [hj']; exact hp
theorem bulk_mem {H : Type} : ∀ {l : List (DataW H)} {d : DataW H}, d ∈ l → Rows.uptoBulk d ≤ Rows.uptoBulkAll l
  | x :: r, d, h => by
    simp only [Rows.uptoBulkAll]
    rcases List.mem_cons.1 h with h | h
    · subst h; omega
    · have := bulk_mem h; omega
theorem wts_bulk {H : Type} : ∀ (l : List Tr) (ds : List (DataW H)), l.length = ds.length → (∀ (j : Nat) (t : Tr) (d : DataW H), l[j]? = some t → ds[j]? = some d → t.wt ≤ Rows.uptoBulk d) → wts l ≤ Rows.uptoBulkAll ds
  | [], [], _, _ => by simp [wts]
  | a :: r, d :: q, h, hj => by
    have h1 := hj 0 a d rfl rfl
    have h2 := wts_bulk r q (by simpa using h) (fun j t e h1 h2 => hj (j + 1) t e (by simpa using h1) (by simpa using h2))
    rw [wts_cons]
    simp only [Rows.uptoBulkAll]
    omega
set_option maxRecDepth 100000 in
set_option maxHeartbeats 1000000 in
theorem open_items {H : Type} {enc : TypeId × Value → H} {W : World} : ∀ (B fuel : Nat) (v : Value) (x : DataW H × List MemPlace), Rows.uptoBulk x.1 ≤ B →
    DataW.trod enc Try.prog W 0 (fun _ => true) true fuel 22 [v] = some x → (∀ y ∈ x.2, y.block < W.heap.size) → ∃ l : List Tr, RT W v l ∧ wts l ≤ Rows.uptoBulk x.1 := by
  intro B
  induction B using Nat.strongRecOn with
  | ind B ih =>
    intro fuel v x hB h hlt
    rcases Go.Deep.open_slice Try.underlying22 h with ⟨hcs, hx⟩ | ⟨a, len, cap, m, n', D, Pl, hcs, hb, hl, hm, hmm, hx, hel⟩
    · obtain rfl : v = .slice none 0 0 := by simpa using hcs
      exact ⟨[], ⟨_, _, rfl, .inl rfl⟩, by simp [wts]⟩
    · obtain rfl : v = .slice (some a) len cap := by simpa using hcs
      have hp : x.2 = _ := congrArg Prod.snd hx
      have hdd : x.1 = _ := congrArg Prod.fst hx
      rw [hp, Try.cellsItm] at hlt
      rw [Try.cellsItm] at hel
      simp only [if_true] at hmm
      subst hmm
      have hbk : Rows.uptoBulkAll ((List.range len).map D) + 1 ≤ Rows.uptoBulk x.1 := by
        rw [hdd]; simp only [Rows.uptoBulk]; omega
      have hbi : ∀ i, i < len → Rows.uptoBulk (D i) < Rows.uptoBulk x.1 := fun i hi => by
        have := bulk_mem (l := (List.range len).map D) (d := D i) (List.mem_map.2 ⟨i, List.mem_range.2 hi, rfl⟩)
        omega
      clear hx hp hdd
      have each : ∀ i, i < len → ∃ t : Tr, (W.cell? (a.add (i * 5)) = some (.string ⟨t.itm.tag.toArray⟩) ∧ W.cell? (a.add (i * 5 + 1)) = some (.string ⟨t.itm.qual.toArray⟩) ∧ W.cell? (a.add (i * 5 + 2)) = some (.string ⟨t.itm.text.toArray⟩) ∧ W.cell? (a.add (i * 5 + 3)) = some (.string ⟨t.itm.name.toArray⟩) ∧ ∃ kv, W.cell? (a.add (i * 5 + 4)) = some kv ∧ RT W kv t.kids) ∧ t.wt ≤ Rows.uptoBulk (D i) := by
        intro i hi
        obtain ⟨cs', h1, h2⟩ := hel i (by omega)
        obtain ⟨_, hlen', hcell⟩ := World.cells?_some h1
        obtain ⟨xs, k, _, hxy, _, hxl, hall⟩ := DataW.trod_struct Try.underlying26 h2
        match xs, hxl, cs', hlen' with
        | [x0, x1, x2, x3, x4], _, [c0, c1, c2, c3, c4], _ =>
          obtain ⟨s0, e0, y0⟩ := strF (v := c0) (x := x0) Try.underlying9 (by simpa using hall 0 _ rfl) (by show List.take (Try.prog.cellsOf 9) _ = _; rw [Try.cellsS]; rfl)
          obtain ⟨s1, e1, y1⟩ := strF (v := c1) (x := x1) Try.underlying9 (by simpa using hall 1 _ rfl) (by show List.take (Try.prog.cellsOf 9) _ = _; rw [Try.cellsS]; rfl)
          obtain ⟨s2, e2, y2⟩ := strF (v := c2) (x := x2) Try.underlying9 (by simpa using hall 2 _ rfl) (by show List.take (Try.prog.cellsOf 9) _ = _; rw [Try.cellsS]; rfl)
          obtain ⟨s3, e3, y3⟩ := strF (v := c3) (x := x3) Try.underlying9 (by simpa using hall 3 _ rfl) (by show List.take (Try.prog.cellsOf 9) _ = _; rw [Try.cellsS]; rfl)
          have h4 : DataW.trod enc Try.prog W 0 (fun _ => true) true k 22 [c4] = some x4 := by
            have this : DataW.trod enc Try.prog W 0 (fun _ => true) true k 22 (List.take (Try.prog.cellsOf 22) [c4]) = some x4 := hall 4 _ rfl
            rw [Try.cellsItms] at this
            exact this
          have hD : D i = .agg [x0.1, x1.1, x2.1, x3.1, x4.1] := congrArg Prod.fst hxy
          have hP : Pl i = _ := congrArg Prod.snd hxy
          have hbD : Rows.uptoBulk (D i) = s0.length + s1.length + s2.length + s3.length + Rows.uptoBulk x4.1 + 5 := by
            rw [hD, y0, y1, y2, y3]; simp only [Rows.uptoBulk, Rows.uptoBulkAll]; omega
          obtain ⟨l, hrt, hwl⟩ := ih (Rows.uptoBulk x4.1) (by have := hbi i hi; omega) k c4 x4 (Nat.le_refl _) h4 (fun y hy => hlt y (List.mem_append_right _ (List.mem_flatMap.2 ⟨i, List.mem_range.2 (by omega), by rw [hP]; exact List.mem_flatMap.2 ⟨x4, by simp, hy⟩⟩)))
          subst e0 e1 e2 e3
          have g0 := hcell 0 (by omega)
          have g1 := hcell 1 (by omega)
          have g2 := hcell 2 (by omega)
          have g3 := hcell 3 (by omega)
          have g4 := hcell 4 (by omega)
          rw [Go.Deep.add_add] at g0 g1 g2 g3 g4
          refine ⟨.mk ⟨s0, s1, s2, s3⟩ l, ⟨by simpa [Tr.itm] using g0, by simpa [Tr.itm] using g1, by simpa [Tr.itm] using g2, by simpa [Tr.itm] using g3, c4, by simpa using g4, hrt⟩, ?_⟩
          have hw := wt_eq (.mk ⟨s0, s1, s2, s3⟩ l)
          simp only [Tr.itm, Tr.kids] at hw
          omega
      obtain ⟨l, hpl, hps⟩ := listOf len each
      refine ⟨l, ⟨some a, m, by rw [hpl], ?_⟩, ?_⟩
      · by_cases h0 : len = 0
        · left; exact List.length_eq_zero_iff.1 (by omega)
        · right
          obtain ⟨b, off, spot⟩ := a
          obtain ⟨p0, ⟨hc0, _⟩, _⟩ := each 0 (by omega)
          have hspot : spot = none := by simpa [Addr.add] using World.cell?_spot hc0
          subst hspot
          have hbW : b < W.heap.size := hlt (.cell b off) (List.mem_append_left _ (MemPlace.mem_row.2 ⟨0, by omega, by simp⟩))
          refine ⟨b, off, rfl, hbW, RR_mk (fun j t hj => ?_)⟩
          obtain ⟨⟨g0, g1, g2, g3, kv, g4, hr⟩, _⟩ := hps j t hj
          rw [add_plain] at g0 g1 g2 g3 g4
          exact RI_iff.2 ⟨g0, g1, g2, g3, kv, g4, hr⟩
      · have := wts_bulk l ((List.range len).map D) (by simp [hpl]) (fun j t d h1 h2 => by
          obtain ⟨_, hw⟩ := hps j t h1
          have hj : j < len := by have := (List.getElem?_eq_some_iff.1 h1).1; omega
          rw [List.getElem?_map, List.getElem?_range hj] at h2
          simp at h2; subst h2; exact hw)
        omega

theorem ml_shaped {W : World} (h : W.ShapedOpen Try.prog) : ML W :=
  cell_of_shapedOpen_int (t := 3) (zero := #[.int .i64 0]) h (of_decide_eq_true (by kernel_rfl)) (by kernel_rfl) rfl (by kernel_rfl) (by kernel_rfl) Try.underlying3
theorem handed_of_cond {H : Type} {enc : TypeId × Value → H} {a : Assume} {C : Checked} {os : Os} {f : FuncId} {fn : Func} {s : OpenSpec} {k : (H : Type) → List (DataW H) → Bool} (hk : s.cond = some k) {F : Stop.Interp} {conds : List PathCond} {apart fresh handsOn again : Bool}
    (own : ownKnob C.prog.godebug = none) (started : os.Started) (noInit : C.prog.inits.idxOf? f = none) (hfn : C.prog.funcs[f]? = some fn)
    (witness : ∃ (w : World) (tape : Tape) (i : Input), w.os = os ∧ (w.forCall tape i).Shaped C.prog ∧ i.vars = [] ∧ Input.okWide C.prog (w.forCall tape i) .any w.heap.size f i ∧
      s.pre6 enc C.prog fn conds apart (w.forCall tape i).memory i.args ∧ a.holds C.prog (lone (Frame.enter C.prog f i.args .normal) [] (w.forCall tape i)))
    (contract : ∀ (W : World) (base : Nat) (args : Array Value) (ds gs : List (DataW H)) (before : List MemPlace),
      (∀ (j : Nat) t v, fn.params[j]? = some t → args[j]? = some v → Value.okWide C.prog W .any base t v) →
      DataW.Whole enc C.prog fn.params.toList s.vars apart W args.toList ds gs before →
      conds.all (PathCond.test C.prog ⟨fn.params.toList, ds, s.bare.plain.varTypes C.prog, gs⟩) = true → k H (ds ++ gs) = true →
      W.ShapedOpen C.prog →
      Calls C.prog f args W fun e W' => ∃ v, e = .returned v ∧ (s.at F).post enc C.prog fn apart fresh handsOn again W args v W') :
    ReturnsInHanded a C os f .any (s.pre6 enc C.prog fn conds apart) ((s.at F).post enc C.prog fn apart fresh handsOn again) := by
  refine returnsInHanded_of_calls own started noInit witness ?_
  intro w tape i _ hsh _ hok hpre _
  obtain ⟨_, _, _, fn', hfn', _, _, _, _, hval⟩ := hok
  have e : fn' = fn := Option.some.inj (hfn'.symm.trans hfn)
  subst e
  obtain ⟨ds, gs, before, hw, hc, hkk⟩ := (OpenSpec.pre_some hk conds apart _ _).1 hpre.1
  have hw' := DataW.Whole.of_heap (w' := w.forCall tape i) (by rfl) hw
  refine (contract (w.forCall tape i) w.heap.size i.args ds gs before hval hw' hc hkk hsh).mono fun e W' ⟨v, he, hp⟩ => ?_
  subst he
  exact ChangeSpec.post_blind hp
set_option maxRecDepth 100000 in
theorem tagsFinds_lifted (os : Os) (started : os.Started) (H : Type) (enc : TypeId × Value → H) (F : Stop.Interp) :
    ReturnsInHanded {} Try.checked os 3 .any ((Rows.OpenSpec.upto Rows.tagsFindsSpec).pre6 enc Try.prog Try.f3 Rows.tagsFindsUptoRow.domain false) (((Rows.OpenSpec.upto Rows.tagsFindsSpec).at F).post enc Try.prog Try.f3 false true false false) := by
  refine handed_of_cond (C := Try.checked) (s := Rows.OpenSpec.upto Rows.tagsFindsSpec) (k := Rows.uptoSmall) rfl Try.own started (by kernel_rfl) Try.func3
    (OpenSpec.witness (enc := enc) (C := Try.checked) (s := Rows.OpenSpec.upto Rows.tagsFindsSpec) (k := Rows.uptoSmall) rfl false ⟨#[], #[.slice none 0 0, .string ⟨#[]⟩, .string ⟨#[]⟩, .string ⟨#[]⟩], []⟩ 8 (by kernel_rfl) (by kernel_rfl) (by kernel_rfl)
      (x := ([.nil, .lit (.string []), .lit (.string []), .lit (.string [])], [], [])) (by kernel_rfl) rfl (by kernel_rfl)) ?_
  intro W base args ds gs before hval0 hW _ hk hsh
  have hval : ∀ (j : Nat) t v, Try.f3.params[j]? = some t → args[j]? = some v → Value.okWide Try.prog W .any base t v := hval0
  have hW' := hW
  obtain ⟨p, q, hA0, hV, rfl, hfz, hnd⟩ := hW
  have hA : DataW.TrodAll enc Try.prog W 0 (fun _ => true) true Try.f3.params.toList args.toList ds p := hA0
  rw [Try.params3] at hA hval
  obtain ⟨v0, v1, v2, v3, d0, d1, d2, d3, p0, p1, p2, p3, rfl, rfl, rfl, h0, h1, h2, h3⟩ := trodAll_four hA
  obtain ⟨rfl, rfl⟩ := trodVars_none hV
  clear hA0 hval0
  obtain ⟨a0, n0, c0, rfl⟩ := okWide_slice Try.underlying22 (hval 0 22 v0 rfl rfl)
  obtain ⟨ls1, rfl, rfl, rfl, hls1⟩ := open_string Try.underlying9 (hval 1 9 v1 rfl rfl) h1
  obtain ⟨ls2, rfl, rfl, rfl, hls2⟩ := open_string Try.underlying9 (hval 2 9 v2 rfl rfl) h2
  obtain ⟨ls3, rfl, rfl, rfl, hls3⟩ := open_string Try.underlying9 (hval 3 9 v3 rfl rfl) h3
  obtain ⟨⟨s1⟩⟩ := ls1
  obtain ⟨⟨s2⟩⟩ := ls2
  obtain ⟨⟨s3⟩⟩ := ls3
  simp only [List.append_nil] at hW' hk
  have hlt0 : ∀ x ∈ p0, x.block < W.heap.size := fun x hx => hW'.lt x (by simp [hx])
  have hbk : Rows.uptoBulk d0 ≤ 1048576 := by
    have h := of_decide_eq_true hk
    simp only [Rows.uptoBulkAll, Rows.uptoBulk] at h
    omega
  obtain ⟨fuel0, hf0⟩ := id h0
  obtain ⟨la, hrt0, hwl0⟩ := open_items (Rows.uptoBulk d0) fuel0 (.slice a0 n0 c0) (d0, p0) (Nat.le_refl _) hf0 hlt0
  have hargs0 : ∀ (W' : World), Below W.heap.size W W' → DataW.Trod enc Try.prog W' 0 (fun b => decide (b < W.heap.size)) true 22 (.slice a0 n0 c0) d0 p0 :=
    fun W' hn => Below.trod Try.laidOut (by kernel_rfl) (of_decide_eq_true (by kernel_rfl)) h0 hn hlt0
  have e1 : Rows.tagsFindsSpec.fn H ([d0, .lit (.string (ByteArray.mk (Array.mk s1)).data.toList), .lit (.string (ByteArray.mk (Array.mk s2)).data.toList), .lit (.string (ByteArray.mk (Array.mk s3)).data.toList)] ++ []) = { results := [.lit (.bool true)], args := [d0, .lit (.string (ByteArray.mk (Array.mk s1)).data.toList), .lit (.string (ByteArray.mk (Array.mk s2)).data.toList), .lit (.string (ByteArray.mk (Array.mk s3)).data.toList)] } := by simp [Rows.tagsFindsSpec]
  have hw0 : wts la ≤ Rows.uptoBulk d0 := hwl0
  refine (finds_law la (.slice a0 n0 c0) s1 s2 s3 W (by omega) hrt0 (ml_shaped hsh)).mono fun e W' ⟨he, hw⟩ => ?_
  subst he
  show ∃ v, _ ∧ Rows.tagsFindsSpec.post enc Try.prog Try.f3 false true false false W _ v W'
  refine ⟨_, rfl, _, _, _, [], p0 ++ ([] ++ ([] ++ [])), [], hW', ?_, ?_, ?_, hw.frame _, fun h => by cases h⟩
  · rw [e1]; exact trodAll_mk1 (shut_bool Try.underlying4 true)
  · rw [e1]; exact trodAll_mk4 (hargs0 _ hw) (shut_string Try.underlying9 hls1) (shut_string Try.underlying9 hls2) (shut_string Try.underlying9 hls3)
  · rw [e1]; rfl
theorem tagsFinds_holds : Rows.TagsFindsUptoSaid :=
  OpenClaim.holds_of_cond 3 Try.f3 rfl rfl rfl rfl rfl rfl rfl ⟨rfl, rfl, rfl, rfl, rfl⟩ rfl rfl rfl rfl rfl (by kernel_rfl) Try.func3 (by kernel_rfl)
    (of_decide_eq_true (by kernel_rfl)) (by unfold Func.isWrapper; rw [if_neg (of_decide_eq_false (by kernel_rfl))]; exact ⟨rfl, rfl⟩)
    (fun os started H enc _ F => tagsFinds_lifted os started H enc F)
#print axioms tagsFinds_holds
end Go.Proofs.Ytklhbhhkooddoaa
