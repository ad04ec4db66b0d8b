/-
  My own text: BICs: the document's answer.
-/
import Derived.Test.YtdfhfjkcafchiaaDoorC10a
namespace Go.Proofs.YtdfhfjkcafchiaaDoor.LC
open Go.RowKit

def bic8 : List UInt8 := [67, 67, 67, 67, 67, 67, 83, 83]
def bic11 : List UInt8 := [67, 67, 67, 67, 67, 67, 83, 83, 83, 83, 83]
def bicF (l : List UInt8) : List UInt8 := if l.length = 8 then bic8 else bic11
/-- The branch. -/
def bicB (l : List UInt8) : List UInt8 := if l.drop 8 = [88, 88, 88] then [] else l.drop 8
def str (l : List UInt8) : Value := .string ⟨l.toArray⟩
/-- The parts of a BIC. -/
def bicP (l : List UInt8) : Array Value := #[str (l.take 4), str ((l.drop 4).take 2), str ((l.drop 6).take 2), str (bicB l)]
def bicZ : Array Value := #[str [], str [], str [], str []]
def bicV (l : List UInt8) : Array Value := if (formR l (bicF l)).1 = 0 then bicP l else bicZ
theorem bicV_ok {l : List UInt8} (h : Form l (bicF l)) : bicV l = bicP l := by unfold bicV; rw [form_eq h]; rfl
theorem bicV_bad {l : List UInt8} (h : ¬ Form l (bicF l)) : bicV l = bicZ := by unfold bicV; rw [if_neg (form_ne h)]
theorem bic_len {l : List UInt8} (h : Form l (bicF l)) : l.length = 8 ∨ l.length = 11 := by
  have h1 := h.1
  unfold bicF at h1
  by_cases h8 : l.length = 8
  · exact .inl h8
  · rw [if_neg h8] at h1; exact .inr h1
theorem bytes_mid (l : List UInt8) (a b : Nat) : (⟨l.toArray⟩ : ByteArray).extract a b = ⟨((l.drop a).take (b - a)).toArray⟩ := by
  apply ByteArray.ext; simp
theorem results_cell_tmp2 {fn : Func} {p u u' : Tmp} {ty : TypeId} (h : fn.results = #[.cell p ty, .tmp u, .tmp u']) (tmps : Array Value) (P : Program) (w : World) :
    (results fn tmps).run P w =
      ((asAddr (tmps.getD p undef)).run P w).andThen fun a w₁ => ((loadVar ty a).run P w₁).andThen fun v w₂ => .ok (.tuple #[v, tmps.getD u undef, tmps.getD u' undef]) w₂ := by
  simp only [results, h]
  simp [Sem.run_bind, Result.andThen]
theorem Tryd.size4 : (Tryd.prog.info? 40).map (·.size) = some 4 := by kernel_rfl
theorem load4 {W : World} {g : Nat} {a b c d : Value} (h0 : W.cell? ⟨g, 0, none⟩ = some a) (h1 : W.cell? ⟨g, 1, none⟩ = some b) (h2 : W.cell? ⟨g, 2, none⟩ = some c) (h3 : W.cell? ⟨g, 3, none⟩ = some d) :
    (loadVar 40 ⟨g, 0, none⟩).run Tryd.prog W = .ok (.agg #[a, b, c, d]) W :=
  run_loadVar_mid (P := Tryd.prog) W g 0 40 [a, b, c, d] _ (fun j v hv => by
    match j, hv with
    | 0, hv => simp at hv; subst hv; exact h0
    | 1, hv => simp at hv; subst hv; exact h1
    | 2, hv => simp at hv; subst hv; exact h2
    | 3, hv => simp at hv; subst hv; exact h3) Tryd.underlying40 rfl Tryd.size4
theorem set4 {w : World} {g : Nat} {t : TypeId} (h : w.heap[g]? = some (.cells bicZ t (0, 0))) (a b c d : Value) :
    (loadVar 40 ⟨g, 0, none⟩).run Tryd.prog ((((w.setCell ⟨g, 0, none⟩ a).setCell ⟨g, 1, none⟩ b).setCell ⟨g, 2, none⟩ c).setCell ⟨g, 3, none⟩ d).drew = .ok (.agg #[a, b, c, d]) ((((w.setCell ⟨g, 0, none⟩ a).setCell ⟨g, 1, none⟩ b).setCell ⟨g, 2, none⟩ c).setCell ⟨g, 3, none⟩ d).drew := by
  have r0 : w.rowIs g t 4 (fun _ => str []) := ⟨bicZ, h, rfl, fun i hi => by
    match i, hi with
    | 0, _ => rfl
    | 1, _ => rfl
    | 2, _ => rfl
    | 3, _ => rfl⟩
  have r4 := ((((r0.set 0 a).set 1 b).set 2 c).set 3 d).drew
  exact load4 (by simpa using r4.cell (i := 0) (by omega)) (by simpa using r4.cell (i := 1) (by omega)) (by simpa using r4.cell (i := 2) (by omega)) (by simpa using r4.cell (i := 3) (by omega))
set_option maxRecDepth 100000 in
set_option maxHeartbeats 2000000 in
theorem refBic_any (l : List UInt8) (w : World) (hl : l.length ≤ 140737488355328) :
    Calls Tryd.prog 25 #[.string ⟨l.toArray⟩] w fun e w' => e = .returned (.tuple #[.agg (bicV l), .int .i64 (formR l (bicF l)).1, .int .i64 (formR l (bicF l)).2]) ∧ Below w.heap.size w w' := by
  have hb0 : Below w.heap.size w (w.alloc (.cells bicZ 40)) := (Below.refl _ _).alloc (Nat.le_refl _) _
  have hnew := alloc_new w (.cells bicZ 40)
  have HC := hide (has_any l (bicF l) (w.alloc (.cells bicZ 40)) hl)
  obtain ⟨F, HF⟩ : ∃ F, Hid (bicF l = F) := ⟨_, hide rfl⟩
  have HF8 : Hid (l.length = 8 → F = bic8) := hide (fun h => by rw [← HF.out]; unfold bicF; rw [if_pos h])
  have HF11 : Hid (l.length ≠ 8 → F = bic11) := hide (fun h => by rw [← HF.out]; unfold bicF; rw [if_neg h])
  by_cases h : Form l (bicF l)
  · rw [form_eq h] at HC ⊢
    rw [bicV_ok h]
    have hlen := bic_len h
    have h1 := bytes_take2 l 4
    have h2 := bytes_mid l 4 6
    have h3 := bytes_mid l 6 8
    have h4 := bytes_drop2 l 8 l.length rfl
    obtain ⟨D, HD⟩ : ∃ D, Hid (l.drop 8 = D) := ⟨_, hide rfl⟩
    rw [HD.out] at h4
    obtain ⟨A, HA⟩ : ∃ A, Hid (l.take 4 = A) := ⟨_, hide rfl⟩
    obtain ⟨B, HB⟩ : ∃ B, Hid ((l.drop 4).take 2 = B) := ⟨_, hide rfl⟩
    obtain ⟨C, HCC⟩ : ∃ C, Hid ((l.drop 6).take 2 = C) := ⟨_, hide rfl⟩
    rw [HA.out] at h1
    rw [show 6 - 4 = 2 from rfl, HB.out] at h2
    rw [show 8 - 6 = 2 from rfl, HCC.out] at h3
    have HP1 : Hid (D = [88, 88, 88] → bicP l = #[str A, str B, str C, str []]) := hide (fun hd => by unfold bicP bicB; rw [HA.out, HB.out, HCC.out, HD.out, if_pos hd])
    have HP2 : Hid (D ≠ [88, 88, 88] → bicP l = #[str A, str B, str C, str D]) := hide (fun hd => by unfold bicP bicB; rw [HA.out, HB.out, HCC.out, HD.out, if_neg hd])
    rw [HF.out] at HC
    have hle : 8 ≤ l.length := by omega
    clear h HD HA HB HCC HF
    by_cases h8 : l.length = 8
    · rw [HF8.out h8] at HC
      have hb8 : ((l.length : Int) == 8) = true := by rw [h8]; rfl
      clear h8 hlen HF8 HF11
      cases hq : (D == [88, 88, 88])
      · rw [HP2.out (by simpa using hq)]
        go_enter Tryd.func25, Tryd.ntmps25
        go_wp2_with fail
        refine HC.out.mono ?_
        rintro e w1 ⟨rfl, hb1⟩
        have HBK := hide ((hb1.block _ (by simp)).trans hnew)
        have HB1 := hide (hb0.trans (hb1.mono hb0.size))
        have c0 : w1.cell? ⟨w.heap.size, 0, none⟩ = some (str []) := cell_of_row w1 _ 0 _ _ _ HBK.out
        have c1 : w1.cell? ⟨w.heap.size, 1, none⟩ = some (str []) := cell_of_row w1 _ 1 _ _ _ HBK.out
        have c2 : w1.cell? ⟨w.heap.size, 2, none⟩ = some (str []) := cell_of_row w1 _ 2 _ _ _ HBK.out
        have c3 : w1.cell? ⟨w.heap.size, 3, none⟩ = some (str []) := cell_of_row w1 _ 3 _ _ _ HBK.out
        have hfr : ∀ j, w1.frozen? ⟨w.heap.size, j, none⟩ = false := fun j => by simp [World.frozen?, HBK.out]
        have f0 := hfr 0
        have f1 := hfr 1
        have f2 := hfr 2
        have f3 := hfr 3
        clear hb0 hnew hb1 hfr HC HP1 HP2
        go_wp2_with fail
        go_region
        go_wp2_with fail
        refine bodyPost_ret (v := .tuple #[.agg #[str A, str B, str C, str D], .int .i64 0, .int .i64 0]) ?_ rfl ⟨rfl, ((((HB1.out.setCell (p := ⟨w.heap.size, 0, none⟩) (Nat.le_refl _) _).setCell (p := ⟨w.heap.size, 1, none⟩) (Nat.le_refl _) _).setCell (p := ⟨w.heap.size, 2, none⟩) (Nat.le_refl _) _).setCell (p := ⟨w.heap.size, 3, none⟩) (Nat.le_refl _) _).drew⟩
        rw [results_cell_tmp2 rfl]
        simp only [asAddr]
        have hld := set4 HBK.out (str A) (str B) (str C) (str D)
        unfold str at hld ⊢
        simp [Result.andThen, hld]
      · rw [HP1.out (by simpa using hq)]
        go_enter Tryd.func25, Tryd.ntmps25
        go_wp2_with fail
        refine HC.out.mono ?_
        rintro e w1 ⟨rfl, hb1⟩
        have HBK := hide ((hb1.block _ (by simp)).trans hnew)
        have HB1 := hide (hb0.trans (hb1.mono hb0.size))
        have c0 : w1.cell? ⟨w.heap.size, 0, none⟩ = some (str []) := cell_of_row w1 _ 0 _ _ _ HBK.out
        have c1 : w1.cell? ⟨w.heap.size, 1, none⟩ = some (str []) := cell_of_row w1 _ 1 _ _ _ HBK.out
        have c2 : w1.cell? ⟨w.heap.size, 2, none⟩ = some (str []) := cell_of_row w1 _ 2 _ _ _ HBK.out
        have c3 : w1.cell? ⟨w.heap.size, 3, none⟩ = some (str []) := cell_of_row w1 _ 3 _ _ _ HBK.out
        have hfr : ∀ j, w1.frozen? ⟨w.heap.size, j, none⟩ = false := fun j => by simp [World.frozen?, HBK.out]
        have f0 := hfr 0
        have f1 := hfr 1
        have f2 := hfr 2
        have f3 := hfr 3
        clear hb0 hnew hb1 hfr HC HP1 HP2
        go_wp2_with fail
        go_region
        go_wp2_with fail
        refine bodyPost_ret (v := .tuple #[.agg #[str A, str B, str C, str []], .int .i64 0, .int .i64 0]) ?_ rfl ⟨rfl, ((((HB1.out.setCell (p := ⟨w.heap.size, 0, none⟩) (Nat.le_refl _) _).setCell (p := ⟨w.heap.size, 1, none⟩) (Nat.le_refl _) _).setCell (p := ⟨w.heap.size, 2, none⟩) (Nat.le_refl _) _).setCell (p := ⟨w.heap.size, 3, none⟩) (Nat.le_refl _) _).drew⟩
        rw [results_cell_tmp2 rfl]
        simp only [asAddr]
        have hld := set4 HBK.out (str A) (str B) (str C) (str [])
        unfold str at hld ⊢
        simp [Result.andThen, hld]
    · rw [HF11.out h8] at HC
      have hb8 : ((l.length : Int) == 8) = false := beq_eq_false_iff_ne.2 (by omega)
      clear h8 hlen HF8 HF11
      cases hq : (D == [88, 88, 88])
      · rw [HP2.out (by simpa using hq)]
        go_enter Tryd.func25, Tryd.ntmps25
        go_wp2_with fail
        refine HC.out.mono ?_
        rintro e w1 ⟨rfl, hb1⟩
        have HBK := hide ((hb1.block _ (by simp)).trans hnew)
        have HB1 := hide (hb0.trans (hb1.mono hb0.size))
        have c0 : w1.cell? ⟨w.heap.size, 0, none⟩ = some (str []) := cell_of_row w1 _ 0 _ _ _ HBK.out
        have c1 : w1.cell? ⟨w.heap.size, 1, none⟩ = some (str []) := cell_of_row w1 _ 1 _ _ _ HBK.out
        have c2 : w1.cell? ⟨w.heap.size, 2, none⟩ = some (str []) := cell_of_row w1 _ 2 _ _ _ HBK.out
        have c3 : w1.cell? ⟨w.heap.size, 3, none⟩ = some (str []) := cell_of_row w1 _ 3 _ _ _ HBK.out
        have hfr : ∀ j, w1.frozen? ⟨w.heap.size, j, none⟩ = false := fun j => by simp [World.frozen?, HBK.out]
        have f0 := hfr 0
        have f1 := hfr 1
        have f2 := hfr 2
        have f3 := hfr 3
        clear hb0 hnew hb1 hfr HC HP1 HP2
        go_wp2_with fail
        go_region
        go_wp2_with fail
        refine bodyPost_ret (v := .tuple #[.agg #[str A, str B, str C, str D], .int .i64 0, .int .i64 0]) ?_ rfl ⟨rfl, ((((HB1.out.setCell (p := ⟨w.heap.size, 0, none⟩) (Nat.le_refl _) _).setCell (p := ⟨w.heap.size, 1, none⟩) (Nat.le_refl _) _).setCell (p := ⟨w.heap.size, 2, none⟩) (Nat.le_refl _) _).setCell (p := ⟨w.heap.size, 3, none⟩) (Nat.le_refl _) _).drew⟩
        rw [results_cell_tmp2 rfl]
        simp only [asAddr]
        have hld := set4 HBK.out (str A) (str B) (str C) (str D)
        unfold str at hld ⊢
        simp [Result.andThen, hld]
      · rw [HP1.out (by simpa using hq)]
        go_enter Tryd.func25, Tryd.ntmps25
        go_wp2_with fail
        refine HC.out.mono ?_
        rintro e w1 ⟨rfl, hb1⟩
        have HBK := hide ((hb1.block _ (by simp)).trans hnew)
        have HB1 := hide (hb0.trans (hb1.mono hb0.size))
        have c0 : w1.cell? ⟨w.heap.size, 0, none⟩ = some (str []) := cell_of_row w1 _ 0 _ _ _ HBK.out
        have c1 : w1.cell? ⟨w.heap.size, 1, none⟩ = some (str []) := cell_of_row w1 _ 1 _ _ _ HBK.out
        have c2 : w1.cell? ⟨w.heap.size, 2, none⟩ = some (str []) := cell_of_row w1 _ 2 _ _ _ HBK.out
        have c3 : w1.cell? ⟨w.heap.size, 3, none⟩ = some (str []) := cell_of_row w1 _ 3 _ _ _ HBK.out
        have hfr : ∀ j, w1.frozen? ⟨w.heap.size, j, none⟩ = false := fun j => by simp [World.frozen?, HBK.out]
        have f0 := hfr 0
        have f1 := hfr 1
        have f2 := hfr 2
        have f3 := hfr 3
        clear hb0 hnew hb1 hfr HC HP1 HP2
        go_wp2_with fail
        go_region
        go_wp2_with fail
        refine bodyPost_ret (v := .tuple #[.agg #[str A, str B, str C, str []], .int .i64 0, .int .i64 0]) ?_ rfl ⟨rfl, ((((HB1.out.setCell (p := ⟨w.heap.size, 0, none⟩) (Nat.le_refl _) _).setCell (p := ⟨w.heap.size, 1, none⟩) (Nat.le_refl _) _).setCell (p := ⟨w.heap.size, 2, none⟩) (Nat.le_refl _) _).setCell (p := ⟨w.heap.size, 3, none⟩) (Nat.le_refl _) _).drew⟩
        rw [results_cell_tmp2 rfl]
        simp only [asAddr]
        have hld := set4 HBK.out (str A) (str B) (str C) (str [])
        unfold str at hld ⊢
        simp [Result.andThen, hld]
  · have HV := hide (bicV_bad h)
    have HN := hide (form_ne h)
    rw [HV.out]
    obtain ⟨a, b, hab⟩ : ∃ a b, formR l (bicF l) = (a, b) := ⟨_, _, rfl⟩
    rw [hab] at HC HN ⊢
    rw [HF.out] at HC
    have hq : (a != 0) = true := by simpa using HN.out
    clear hab h HN HV HF
    by_cases h8 : l.length = 8
    · rw [HF8.out h8] at HC
      have hb8 : ((l.length : Int) == 8) = true := by rw [h8]; rfl
      clear h8 HF8 HF11
      go_enter Tryd.func25, Tryd.ntmps25
      go_wp2_with fail
      refine HC.out.mono ?_
      rintro e w1 ⟨rfl, hb1⟩
      have HBK := hide ((hb1.block _ (by simp)).trans hnew)
      have HB1 := hide (hb0.trans (hb1.mono hb0.size))
      clear hb0 hnew hb1 HC
      go_wp2_with (refine wpList_store_row rfl 40 (.tmp 2) _ rfl w.heap.size bicZ rfl rfl _ _ HBK.out Tryd.size4 rfl (by simp [bicZ, str, Value.oneCell']) ?_)
      have hld := run_loadVar_row (P := Tryd.prog) (w1.setRow w.heap.size bicZ) w.heap.size 40 40 bicZ (0, 0) _ (setRow_heap _ _ _ _ _ _ HBK.out) Tryd.underlying40 rfl Tryd.size4
      refine bodyPost_ret (v := .tuple #[.agg bicZ, .int .i64 a, .int .i64 b]) ?_ rfl ⟨rfl, below_setRow HB1.out (Nat.le_refl _) _⟩
      rw [results_cell_tmp2 rfl]
      simp [asAddr, Result.andThen, hld]
    · rw [HF11.out h8] at HC
      have hb8 : ((l.length : Int) == 8) = false := beq_eq_false_iff_ne.2 (by omega)
      clear h8 HF8 HF11
      go_enter Tryd.func25, Tryd.ntmps25
      go_wp2_with fail
      refine HC.out.mono ?_
      rintro e w1 ⟨rfl, hb1⟩
      have HBK := hide ((hb1.block _ (by simp)).trans hnew)
      have HB1 := hide (hb0.trans (hb1.mono hb0.size))
      clear hb0 hnew hb1 HC
      go_wp2_with (refine wpList_store_row rfl 40 (.tmp 2) _ rfl w.heap.size bicZ rfl rfl _ _ HBK.out Tryd.size4 rfl (by simp [bicZ, str, Value.oneCell']) ?_)
      have hld := run_loadVar_row (P := Tryd.prog) (w1.setRow w.heap.size bicZ) w.heap.size 40 40 bicZ (0, 0) _ (setRow_heap _ _ _ _ _ _ HBK.out) Tryd.underlying40 rfl Tryd.size4
      refine bodyPost_ret (v := .tuple #[.agg bicZ, .int .i64 a, .int .i64 b]) ?_ rfl ⟨rfl, below_setRow HB1.out (Nat.le_refl _) _⟩
      rw [results_cell_tmp2 rfl]
      simp [asAddr, Result.andThen, hld]
end Go.Proofs.YtdfhfjkcafchiaaDoor.LC
