/-
  My own text: C10a, C10b, C10c in one.
-/
import Derived.Test.YtbaideeiljeamaaGreatDoorTxt
import Derived.Deep.RegionHeld3
namespace Go.Proofs.YtbaideeiljeamaaGreatDoor.LC
open Go.RowKit

theorem bytes_take2 (l : List UInt8) (n : Nat) : (⟨l.toArray⟩ : ByteArray).extract 0 n = ⟨(l.take n).toArray⟩ := by
  apply ByteArray.ext; simp
theorem bytes_drop2 (l : List UInt8) (n m : Nat) (h : l.length = m) : (⟨l.toArray⟩ : ByteArray).extract n m = ⟨(l.drop n).toArray⟩ := by
  apply ByteArray.ext; simp [← h]
  rw [List.take_of_length_le (by rw [List.length_drop]; omega)]
theorem rng_drop2 {w : World} {b n : Nat} {l : List UInt8} (h : w.rangeAt b 0 (cel l).toList) : w.rangeAt b n (cel (l.drop n)).toList := fun j v hv => by
  have h2 := h (n + j) v (by
    rw [← hv]; simp [cel, List.getElem?_drop])
  rw [Nat.zero_add] at h2; exact h2
def curF : List UInt8 := [67, 67, 67]
/-- The form of an account. -/
def accF (l : List UInt8) : List UInt8 := List.replicate (min (max l.length 1) 34) 83
set_option maxHeartbeats 1000000 in
theorem currency_any (l : List UInt8) (w : World) (hl : l.length ≤ 140737488355328) :
    Calls Tryz.prog 84 #[.string ⟨l.toArray⟩] w fun e w' => e = .returned (errF (formR l curF)) ∧ Below w.heap.size w w' := by
  have HC := hide (check_any l curF w hl)
  go_enter Tryz.func84, Tryz.ntmps84
  go_wp2_with fail
  refine HC.out.mono ?_
  rintro e w1 ⟨rfl, hb1⟩
  go_wp2_with fail
  go_ret
  exact ⟨rfl, hb1⟩
set_option maxHeartbeats 1000000 in
theorem refCurrency_any (l : List UInt8) (w : World) (hl : l.length ≤ 140737488355328) :
    Calls Tryz.prog 76 #[.string ⟨l.toArray⟩] w fun e w' => e = .returned (.tuple #[.int .i64 (formR l curF).1, .int .i64 (formR l curF).2]) ∧ Below w.heap.size w w' := by
  have HC := hide (has_any l curF w hl)
  go_enter Tryz.func76, Tryz.ntmps76
  go_wp2_with fail
  refine HC.out.mono ?_
  rintro e w1 ⟨rfl, hb1⟩
  go_wp2_with fail
  go_ret2
  exact ⟨rfl, hb1⟩
theorem acc_cut {n : Nat} (h : n ≤ 34) : (⟨#[83, 83, 83, 83, 83, 83, 83, 83, 83, 83, 83, 83, 83, 83, 83, 83, 83, 83, 83, 83, 83, 83, 83, 83, 83, 83, 83, 83, 83, 83, 83, 83, 83, 83]⟩ : ByteArray).extract 0 n = ⟨(List.replicate n 83).toArray⟩ := by
  have h2 := bytes_take2 (List.replicate 34 83) n
  rw [List.take_replicate, Nat.min_eq_left h] at h2; exact h2
set_option maxRecDepth 100000 in
set_option maxHeartbeats 1000000 in
theorem account_any (l : List UInt8) (w : World) (hl : l.length ≤ 140737488355328) :
    Calls Tryz.prog 82 #[.string ⟨l.toArray⟩] w fun e w' => e = .returned (errF (formR l (accF l))) ∧ Below w.heap.size w w' := by
  obtain ⟨n, hn, HN⟩ : ∃ n : Nat, n ≤ 34 ∧ Hid (min (max l.length 1) 34 = n) := ⟨_, Nat.min_le_right _ _, hide rfl⟩
  have HC := hide (check_any l (accF l) w hl)
  unfold accF at HC ⊢
  rw [HN.out] at HC ⊢
  have hcut := acc_cut hn
  obtain ⟨F, HF⟩ : ∃ F, Hid (List.replicate n (83 : UInt8) = F) := ⟨_, hide rfl⟩
  rw [HF.out] at HC hcut ⊢
  have h1 : min (max (l.length : Int) 1) 34 = (n : Int) := by have := HN.out; omega
  by_cases h0 : l.length < 1
  · have hn1 : n = 1 := by have := HN.out; omega
    subst hn1
    clear h1 hn
    go_enter Tryz.func82, Tryz.ntmps82
    go_wp2_with fail
    refine HC.out.mono ?_
    rintro e w1 ⟨rfl, hb1⟩
    go_wp2_with fail
    go_ret
    exact ⟨rfl, hb1⟩
  by_cases h34 : l.length ≤ 34
  · have hn1 : n = l.length := by have := HN.out; omega
    subst hn1
    clear h1 hn
    go_enter Tryz.func82, Tryz.ntmps82
    go_wp2_with fail
    refine HC.out.mono ?_
    rintro e w1 ⟨rfl, hb1⟩
    go_wp2_with fail
    go_ret
    exact ⟨rfl, hb1⟩
  · have hn1 : n = 34 := by have := HN.out; omega
    subst hn1
    clear h1 hn
    go_enter Tryz.func82, Tryz.ntmps82
    go_wp2_with fail
    refine HC.out.mono ?_
    rintro e w1 ⟨rfl, hb1⟩
    go_wp2_with fail
    go_ret
    exact ⟨rfl, hb1⟩
theorem acc_at {n j : Nat} (h : j < n) : (List.replicate n (83 : UInt8)).getD j 0 = 83 := by
  rw [List.getD_eq_getElem?_getD, List.getElem?_replicate, if_pos h]; rfl
set_option maxRecDepth 100000 in
set_option maxHeartbeats 1000000 in
theorem refAccount_any (l : List UInt8) (w : World) (hl : l.length ≤ 140737488355328) :
    Calls Tryz.prog 74 #[.string ⟨l.toArray⟩] w fun e w' => e = .returned (.tuple #[.int .i64 (formR l (accF l)).1, .int .i64 (formR l (accF l)).2]) ∧ Below w.heap.size w w' := by
  by_cases h0 : l.length = 0
  · have H := hide (form_short (l := l) (f := accF l) (by unfold accF; rw [List.length_replicate, h0]; decide))
    have hb0 : ((l.length : Int) == 0) = true := by rw [h0]; rfl
    clear h0
    go_enter Tryz.func74, Tryz.ntmps74
    go_wp2_with fail
    go_ret2
    exact ⟨ret_ii H.out.symm, Below.refl _ _⟩
  have hb0 : ((l.length : Int) == 0) = false := beq_eq_false_iff_ne.2 (by omega)
  by_cases h34 : 34 < l.length
  · have H := hide (form_long (l := l) (f := accF l) (by unfold accF; rw [List.length_replicate]; omega))
    go_enter Tryz.func74, Tryz.ntmps74
    go_wp2_with fail
    go_ret2
    exact ⟨ret_ii H.out.symm, Below.refl _ _⟩
  have HA : Hid (accF l = List.replicate l.length 83) := by show accF l = _; unfold accF; congr 1; omega
  have HL : Hid (l.length = (accF l).length) := by show _ = _; rw [HA.out, List.length_replicate]
  go_enter Tryz.func74, Tryz.ntmps74
  go_wp2_with fail
  go_loop [4] (fun i => ∃ k : Nat, k ≤ l.length ∧ i = .int .i64 k ∧ Hid (Fits l (accF l) k)) (fun i => l.length - (intOf i).toNat)
  case atStart => exact ⟨0, Nat.zero_le _, rfl, hide (fits_zero _ _)⟩
  case round =>
    obtain ⟨k, hk, rfl, HF⟩ := hrel
    by_cases hlt : k < l.length
    · have hs1 : k < (⟨l.toArray⟩ : ByteArray).size := by rw [bytes_size]; exact hlt
      obtain ⟨c, hc, Hc⟩ : ∃ c, (⟨l.toArray⟩ : ByteArray)[k]'hs1 = c ∧ Hid (l.getD k 0 = c) := ⟨_, rfl, by rw [getD_at hlt]; exact hide rfl⟩
      have HP : Hid ((accF l).getD k 0 = 83) := by show _ = _; rw [HA.out]; exact acc_at hlt
      have HFB : Hid (fitB c 83 = (isDg c || isCp c)) := hide (fitB_s (by decide) (by decide))
      have HSG := hide (fun W : World => refIsSign_any c W)
      cases hfit : (isDg c || isCp c)
      · have H := hide (form_bad HL.out HF.out hlt (by rw [Hc.out, HP.out, HFB.out]; exact hfit))
        rw [hfit] at HSG
        clear hfit
        go_wp2_with fail
        refine (HSG.out _).mono ?_
        rintro e w' ⟨rfl, rfl⟩
        go_wp2_with fail
        go_ret2
        exact ⟨ret_ii H.out.symm, Below.refl _ _⟩
      · have H := hide (fits_next HF.out (by rw [Hc.out, HP.out, HFB.out]; exact hfit))
        rw [hfit] at HSG
        clear hfit
        go_wp2_with fail
        refine (HSG.out _).mono ?_
        rintro e w' ⟨rfl, rfl⟩
        go_wp2_with fail
        go_round
        case rel => exact ⟨k + 1, by omega, by go_num, H⟩
        case measure => simp [intOf]; omega
    · have hk' : k = l.length := by omega
      subst hk'
      have H := hide (form_ok HL.out HF.out)
      go_wp2_with fail
      go_ret2
      exact ⟨ret_ii H.out.symm, Below.refl _ _⟩
end Go.Proofs.YtbaideeiljeamaaGreatDoor.LC
namespace Go.Proofs.YtbaideeiljeamaaGreatDoor.LC
open Go.RowKit

def bic8 : List UInt8 := [67, 67, 67, 67, 67, 67, 83, 83]
def bic11 : List UInt8 := [67, 67, 67, 67, 67, 67, 83, 83, 83, 83, 83]
def bicF (l : List UInt8) : List UInt8 := if l.length = 8 then bic8 else bic11
/-- The branch. -/
def bicB (l : List UInt8) : List UInt8 := if l.drop 8 = [88, 88, 88] then [] else l.drop 8
def str (l : List UInt8) : Value := .string ⟨l.toArray⟩
/-- The parts of a BIC. -/
def bicP (l : List UInt8) : Array Value := #[str (l.take 4), str ((l.drop 4).take 2), str ((l.drop 6).take 2), str (bicB l)]
def bicZ : Array Value := #[str [], str [], str [], str []]
def bicV (l : List UInt8) : Array Value := if (formR l (bicF l)).1 = 0 then bicP l else bicZ
theorem bicV_ok {l : List UInt8} (h : Form l (bicF l)) : bicV l = bicP l := by unfold bicV; rw [form_eq h]; rfl
theorem bicV_bad {l : List UInt8} (h : ¬ Form l (bicF l)) : bicV l = bicZ := by unfold bicV; rw [if_neg (form_ne h)]
theorem bic_len {l : List UInt8} (h : Form l (bicF l)) : l.length = 8 ∨ l.length = 11 := by
  have h1 := h.1
  unfold bicF at h1
  by_cases h8 : l.length = 8
  · exact .inl h8
  · rw [if_neg h8] at h1; exact .inr h1
theorem bytes_mid (l : List UInt8) (a b : Nat) : (⟨l.toArray⟩ : ByteArray).extract a b = ⟨((l.drop a).take (b - a)).toArray⟩ := by
  apply ByteArray.ext; simp
theorem results_cell_tmp2 {fn : Func} {p u u' : Tmp} {ty : TypeId} (h : fn.results = #[.cell p ty, .tmp u, .tmp u']) (tmps : Array Value) (P : Program) (w : World) :
    (results fn tmps).run P w =
      ((asAddr (tmps.getD p undef)).run P w).andThen fun a w₁ => ((loadVar ty a).run P w₁).andThen fun v w₂ => .ok (.tuple #[v, tmps.getD u undef, tmps.getD u' undef]) w₂ := by
  simp only [results, h]
  simp [Sem.run_bind, Result.andThen]
theorem Tryz.size4 : (Tryz.prog.info? 103).map (·.size) = some 4 := by kernel_rfl
theorem load4 {W : World} {g : Nat} {a b c d : Value} (h0 : W.cell? ⟨g, 0, none⟩ = some a) (h1 : W.cell? ⟨g, 1, none⟩ = some b) (h2 : W.cell? ⟨g, 2, none⟩ = some c) (h3 : W.cell? ⟨g, 3, none⟩ = some d) :
    (loadVar 103 ⟨g, 0, none⟩).run Tryz.prog W = .ok (.agg #[a, b, c, d]) W :=
  run_loadVar_mid (P := Tryz.prog) W g 0 103 [a, b, c, d] _ (fun j v hv => by
    match j, hv with
    | 0, hv => simp at hv; subst hv; exact h0
    | 1, hv => simp at hv; subst hv; exact h1
    | 2, hv => simp at hv; subst hv; exact h2
    | 3, hv => simp at hv; subst hv; exact h3) Tryz.underlying103 rfl Tryz.size4
theorem set4 {w : World} {g : Nat} {t : TypeId} (h : w.heap[g]? = some (.cells bicZ t (0, 0))) (a b c d : Value) :
    (loadVar 103 ⟨g, 0, none⟩).run Tryz.prog ((((w.setCell ⟨g, 0, none⟩ a).setCell ⟨g, 1, none⟩ b).setCell ⟨g, 2, none⟩ c).setCell ⟨g, 3, none⟩ d).drew = .ok (.agg #[a, b, c, d]) ((((w.setCell ⟨g, 0, none⟩ a).setCell ⟨g, 1, none⟩ b).setCell ⟨g, 2, none⟩ c).setCell ⟨g, 3, none⟩ d).drew := by
  have r0 : w.rowIs g t 4 (fun _ => str []) := ⟨bicZ, h, rfl, fun i hi => by
    match i, hi with
    | 0, _ => rfl
    | 1, _ => rfl
    | 2, _ => rfl
    | 3, _ => rfl⟩
  have r4 := ((((r0.set 0 a).set 1 b).set 2 c).set 3 d).drew
  exact load4 (by simpa using r4.cell (i := 0) (by omega)) (by simpa using r4.cell (i := 1) (by omega)) (by simpa using r4.cell (i := 2) (by omega)) (by simpa using r4.cell (i := 3) (by omega))
set_option maxRecDepth 100000 in
set_option maxHeartbeats 2000000 in
theorem refBic_any (l : List UInt8) (w : World) (hl : l.length ≤ 140737488355328) :
    Calls Tryz.prog 75 #[.string ⟨l.toArray⟩] w fun e w' => e = .returned (.tuple #[.agg (bicV l), .int .i64 (formR l (bicF l)).1, .int .i64 (formR l (bicF l)).2]) ∧ Below w.heap.size w w' := by
  have hb0 : Below w.heap.size w (w.alloc (.cells bicZ 103)) := (Below.refl _ _).alloc (Nat.le_refl _) _
  have hnew := alloc_new w (.cells bicZ 103)
  have HC := hide (has_any l (bicF l) (w.alloc (.cells bicZ 103)) hl)
  obtain ⟨F, HF⟩ : ∃ F, Hid (bicF l = F) := ⟨_, hide rfl⟩
  have HF8 : Hid (l.length = 8 → F = bic8) := hide (fun h => by rw [← HF.out]; unfold bicF; rw [if_pos h])
  have HF11 : Hid (l.length ≠ 8 → F = bic11) := hide (fun h => by rw [← HF.out]; unfold bicF; rw [if_neg h])
  by_cases h : Form l (bicF l)
  · rw [form_eq h] at HC ⊢
    rw [bicV_ok h]
    have hlen := bic_len h
    have h1 := bytes_take2 l 4
    have h2 := bytes_mid l 4 6
    have h3 := bytes_mid l 6 8
    have h4 := bytes_drop2 l 8 l.length rfl
    obtain ⟨D, HD⟩ : ∃ D, Hid (l.drop 8 = D) := ⟨_, hide rfl⟩
    rw [HD.out] at h4
    obtain ⟨A, HA⟩ : ∃ A, Hid (l.take 4 = A) := ⟨_, hide rfl⟩
    obtain ⟨B, HB⟩ : ∃ B, Hid ((l.drop 4).take 2 = B) := ⟨_, hide rfl⟩
    obtain ⟨C, HCC⟩ : ∃ C, Hid ((l.drop 6).take 2 = C) := ⟨_, hide rfl⟩
    rw [HA.out] at h1
    rw [show 6 - 4 = 2 from rfl, HB.out] at h2
    rw [show 8 - 6 = 2 from rfl, HCC.out] at h3
    have HP1 : Hid (D = [88, 88, 88] → bicP l = #[str A, str B, str C, str []]) := hide (fun hd => by unfold bicP bicB; rw [HA.out, HB.out, HCC.out, HD.out, if_pos hd])
    have HP2 : Hid (D ≠ [88, 88, 88] → bicP l = #[str A, str B, str C, str D]) := hide (fun hd => by unfold bicP bicB; rw [HA.out, HB.out, HCC.out, HD.out, if_neg hd])
    rw [HF.out] at HC
    have hle : 8 ≤ l.length := by omega
    clear h HD HA HB HCC HF
    by_cases h8 : l.length = 8
    · rw [HF8.out h8] at HC
      have hb8 : ((l.length : Int) == 8) = true := by rw [h8]; rfl
      clear h8 hlen HF8 HF11
      cases hq : (D == [88, 88, 88])
      · rw [HP2.out (by simpa using hq)]
        go_enter Tryz.func75, Tryz.ntmps75
        go_wp2_with fail
        refine HC.out.mono ?_
        rintro e w1 ⟨rfl, hb1⟩
        have HBK := hide ((hb1.block _ (by simp)).trans hnew)
        have HB1 := hide (hb0.trans (hb1.mono hb0.size))
        have c0 : w1.cell? ⟨w.heap.size, 0, none⟩ = some (str []) := cell_of_row w1 _ 0 _ _ _ HBK.out
        have c1 : w1.cell? ⟨w.heap.size, 1, none⟩ = some (str []) := cell_of_row w1 _ 1 _ _ _ HBK.out
        have c2 : w1.cell? ⟨w.heap.size, 2, none⟩ = some (str []) := cell_of_row w1 _ 2 _ _ _ HBK.out
        have c3 : w1.cell? ⟨w.heap.size, 3, none⟩ = some (str []) := cell_of_row w1 _ 3 _ _ _ HBK.out
        have hfr : ∀ j, w1.frozen? ⟨w.heap.size, j, none⟩ = false := fun j => by simp [World.frozen?, HBK.out]
        have f0 := hfr 0
        have f1 := hfr 1
        have f2 := hfr 2
        have f3 := hfr 3
        clear hb0 hnew hb1 hfr HC HP1 HP2
        go_wp2_with fail
        go_region
        go_wp2_with fail
        refine bodyPost_ret (v := .tuple #[.agg #[str A, str B, str C, str D], .int .i64 0, .int .i64 0]) ?_ rfl ⟨rfl, ((((HB1.out.setCell (p := ⟨w.heap.size, 0, none⟩) (Nat.le_refl _) _).setCell (p := ⟨w.heap.size, 1, none⟩) (Nat.le_refl _) _).setCell (p := ⟨w.heap.size, 2, none⟩) (Nat.le_refl _) _).setCell (p := ⟨w.heap.size, 3, none⟩) (Nat.le_refl _) _).drew⟩
        rw [results_cell_tmp2 rfl]
        simp only [asAddr]
        have hld := set4 HBK.out (str A) (str B) (str C) (str D)
        unfold str at hld ⊢
        simp [Result.andThen, hld]
      · rw [HP1.out (by simpa using hq)]
        go_enter Tryz.func75, Tryz.ntmps75
        go_wp2_with fail
        refine HC.out.mono ?_
        rintro e w1 ⟨rfl, hb1⟩
        have HBK := hide ((hb1.block _ (by simp)).trans hnew)
        have HB1 := hide (hb0.trans (hb1.mono hb0.size))
        have c0 : w1.cell? ⟨w.heap.size, 0, none⟩ = some (str []) := cell_of_row w1 _ 0 _ _ _ HBK.out
        have c1 : w1.cell? ⟨w.heap.size, 1, none⟩ = some (str []) := cell_of_row w1 _ 1 _ _ _ HBK.out
        have c2 : w1.cell? ⟨w.heap.size, 2, none⟩ = some (str []) := cell_of_row w1 _ 2 _ _ _ HBK.out
        have c3 : w1.cell? ⟨w.heap.size, 3, none⟩ = some (str []) := cell_of_row w1 _ 3 _ _ _ HBK.out
        have hfr : ∀ j, w1.frozen? ⟨w.heap.size, j, none⟩ = false := fun j => by simp [World.frozen?, HBK.out]
        have f0 := hfr 0
        have f1 := hfr 1
        have f2 := hfr 2
        have f3 := hfr 3
        clear hb0 hnew hb1 hfr HC HP1 HP2
        go_wp2_with fail
        go_region
        go_wp2_with fail
        refine bodyPost_ret (v := .tuple #[.agg #[str A, str B, str C, str []], .int .i64 0, .int .i64 0]) ?_ rfl ⟨rfl, ((((HB1.out.setCell (p := ⟨w.heap.size, 0, none⟩) (Nat.le_refl _) _).setCell (p := ⟨w.heap.size, 1, none⟩) (Nat.le_refl _) _).setCell (p := ⟨w.heap.size, 2, none⟩) (Nat.le_refl _) _).setCell (p := ⟨w.heap.size, 3, none⟩) (Nat.le_refl _) _).drew⟩
        rw [results_cell_tmp2 rfl]
        simp only [asAddr]
        have hld := set4 HBK.out (str A) (str B) (str C) (str [])
        unfold str at hld ⊢
        simp [Result.andThen, hld]
    · rw [HF11.out h8] at HC
      have hb8 : ((l.length : Int) == 8) = false := beq_eq_false_iff_ne.2 (by omega)
      clear h8 hlen HF8 HF11
      cases hq : (D == [88, 88, 88])
      · rw [HP2.out (by simpa using hq)]
        go_enter Tryz.func75, Tryz.ntmps75
        go_wp2_with fail
        refine HC.out.mono ?_
        rintro e w1 ⟨rfl, hb1⟩
        have HBK := hide ((hb1.block _ (by simp)).trans hnew)
        have HB1 := hide (hb0.trans (hb1.mono hb0.size))
        have c0 : w1.cell? ⟨w.heap.size, 0, none⟩ = some (str []) := cell_of_row w1 _ 0 _ _ _ HBK.out
        have c1 : w1.cell? ⟨w.heap.size, 1, none⟩ = some (str []) := cell_of_row w1 _ 1 _ _ _ HBK.out
        have c2 : w1.cell? ⟨w.heap.size, 2, none⟩ = some (str []) := cell_of_row w1 _ 2 _ _ _ HBK.out
        have c3 : w1.cell? ⟨w.heap.size, 3, none⟩ = some (str []) := cell_of_row w1 _ 3 _ _ _ HBK.out
        have hfr : ∀ j, w1.frozen? ⟨w.heap.size, j, none⟩ = false := fun j => by simp [World.frozen?, HBK.out]
        have f0 := hfr 0
        have f1 := hfr 1
        have f2 := hfr 2
        have f3 := hfr 3
        clear hb0 hnew hb1 hfr HC HP1 HP2
        go_wp2_with fail
        go_region
        go_wp2_with fail
        refine bodyPost_ret (v := .tuple #[.agg #[str A, str B, str C, str D], .int .i64 0, .int .i64 0]) ?_ rfl ⟨rfl, ((((HB1.out.setCell (p := ⟨w.heap.size, 0, none⟩) (Nat.le_refl _) _).setCell (p := ⟨w.heap.size, 1, none⟩) (Nat.le_refl _) _).setCell (p := ⟨w.heap.size, 2, none⟩) (Nat.le_refl _) _).setCell (p := ⟨w.heap.size, 3, none⟩) (Nat.le_refl _) _).drew⟩
        rw [results_cell_tmp2 rfl]
        simp only [asAddr]
        have hld := set4 HBK.out (str A) (str B) (str C) (str D)
        unfold str at hld ⊢
        simp [Result.andThen, hld]
      · rw [HP1.out (by simpa using hq)]
        go_enter Tryz.func75, Tryz.ntmps75
        go_wp2_with fail
        refine HC.out.mono ?_
        rintro e w1 ⟨rfl, hb1⟩
        have HBK := hide ((hb1.block _ (by simp)).trans hnew)
        have HB1 := hide (hb0.trans (hb1.mono hb0.size))
        have c0 : w1.cell? ⟨w.heap.size, 0, none⟩ = some (str []) := cell_of_row w1 _ 0 _ _ _ HBK.out
        have c1 : w1.cell? ⟨w.heap.size, 1, none⟩ = some (str []) := cell_of_row w1 _ 1 _ _ _ HBK.out
        have c2 : w1.cell? ⟨w.heap.size, 2, none⟩ = some (str []) := cell_of_row w1 _ 2 _ _ _ HBK.out
        have c3 : w1.cell? ⟨w.heap.size, 3, none⟩ = some (str []) := cell_of_row w1 _ 3 _ _ _ HBK.out
        have hfr : ∀ j, w1.frozen? ⟨w.heap.size, j, none⟩ = false := fun j => by simp [World.frozen?, HBK.out]
        have f0 := hfr 0
        have f1 := hfr 1
        have f2 := hfr 2
        have f3 := hfr 3
        clear hb0 hnew hb1 hfr HC HP1 HP2
        go_wp2_with fail
        go_region
        go_wp2_with fail
        refine bodyPost_ret (v := .tuple #[.agg #[str A, str B, str C, str []], .int .i64 0, .int .i64 0]) ?_ rfl ⟨rfl, ((((HB1.out.setCell (p := ⟨w.heap.size, 0, none⟩) (Nat.le_refl _) _).setCell (p := ⟨w.heap.size, 1, none⟩) (Nat.le_refl _) _).setCell (p := ⟨w.heap.size, 2, none⟩) (Nat.le_refl _) _).setCell (p := ⟨w.heap.size, 3, none⟩) (Nat.le_refl _) _).drew⟩
        rw [results_cell_tmp2 rfl]
        simp only [asAddr]
        have hld := set4 HBK.out (str A) (str B) (str C) (str [])
        unfold str at hld ⊢
        simp [Result.andThen, hld]
  · have HV := hide (bicV_bad h)
    have HN := hide (form_ne h)
    rw [HV.out]
    obtain ⟨a, b, hab⟩ : ∃ a b, formR l (bicF l) = (a, b) := ⟨_, _, rfl⟩
    rw [hab] at HC HN ⊢
    rw [HF.out] at HC
    have hq : (a != 0) = true := by simpa using HN.out
    clear hab h HN HV HF
    by_cases h8 : l.length = 8
    · rw [HF8.out h8] at HC
      have hb8 : ((l.length : Int) == 8) = true := by rw [h8]; rfl
      clear h8 HF8 HF11
      go_enter Tryz.func75, Tryz.ntmps75
      go_wp2_with fail
      refine HC.out.mono ?_
      rintro e w1 ⟨rfl, hb1⟩
      have HBK := hide ((hb1.block _ (by simp)).trans hnew)
      have HB1 := hide (hb0.trans (hb1.mono hb0.size))
      clear hb0 hnew hb1 HC
      go_wp2_with (refine wpList_store_row rfl 103 (.tmp 2) _ rfl w.heap.size bicZ rfl rfl _ _ HBK.out Tryz.size4 rfl (by simp [bicZ, str, Value.oneCell']) ?_)
      have hld := run_loadVar_row (P := Tryz.prog) (w1.setRow w.heap.size bicZ) w.heap.size 103 103 bicZ (0, 0) _ (setRow_heap _ _ _ _ _ _ HBK.out) Tryz.underlying103 rfl Tryz.size4
      refine bodyPost_ret (v := .tuple #[.agg bicZ, .int .i64 a, .int .i64 b]) ?_ rfl ⟨rfl, below_setRow HB1.out (Nat.le_refl _) _⟩
      rw [results_cell_tmp2 rfl]
      simp [asAddr, Result.andThen, hld]
    · rw [HF11.out h8] at HC
      have hb8 : ((l.length : Int) == 8) = false := beq_eq_false_iff_ne.2 (by omega)
      clear h8 HF8 HF11
      go_enter Tryz.func75, Tryz.ntmps75
      go_wp2_with fail
      refine HC.out.mono ?_
      rintro e w1 ⟨rfl, hb1⟩
      have HBK := hide ((hb1.block _ (by simp)).trans hnew)
      have HB1 := hide (hb0.trans (hb1.mono hb0.size))
      clear hb0 hnew hb1 HC
      go_wp2_with (refine wpList_store_row rfl 103 (.tmp 2) _ rfl w.heap.size bicZ rfl rfl _ _ HBK.out Tryz.size4 rfl (by simp [bicZ, str, Value.oneCell']) ?_)
      have hld := run_loadVar_row (P := Tryz.prog) (w1.setRow w.heap.size bicZ) w.heap.size 103 103 bicZ (0, 0) _ (setRow_heap _ _ _ _ _ _ HBK.out) Tryz.underlying103 rfl Tryz.size4
      refine bodyPost_ret (v := .tuple #[.agg bicZ, .int .i64 a, .int .i64 b]) ?_ rfl ⟨rfl, below_setRow HB1.out (Nat.le_refl _) _⟩
      rw [results_cell_tmp2 rfl]
      simp [asAddr, Result.andThen, hld]
end Go.Proofs.YtbaideeiljeamaaGreatDoor.LC
namespace Go.Proofs.YtbaideeiljeamaaGreatDoor.LC
open Go.RowKit

set_option maxHeartbeats 1000000 in
theorem bic_bad (l : List UInt8) (w : World) (hl : l.length ≤ 140737488355328) (h : ¬ Form l (bicF l)) :
    Calls Tryz.prog 112 #[.string ⟨l.toArray⟩] w fun e w' => e = .returned (.tuple #[.agg (bicV l), errF (formR l (bicF l))]) ∧ Below w.heap.size w w' := by
  have hb0 : Below w.heap.size w (w.alloc (.cells bicZ 103)) := (Below.refl _ _).alloc (Nat.le_refl _) _
  have hnew := alloc_new w (.cells bicZ 103)
  have HC := hide (check_any l (bicF l) (w.alloc (.cells bicZ 103)) hl)
  rw [bicV_bad h]
  obtain ⟨t, u, hev⟩ := errF_iface (form_ne h)
  rw [hev] at HC ⊢
  clear hev h
  obtain ⟨F, HF⟩ : ∃ F, Hid (bicF l = F) := ⟨_, hide rfl⟩
  have HF8 : Hid (l.length = 8 → F = bic8) := hide (fun h => by rw [← HF.out]; unfold bicF; rw [if_pos h])
  have HF11 : Hid (l.length ≠ 8 → F = bic11) := hide (fun h => by rw [← HF.out]; unfold bicF; rw [if_neg h])
  rw [HF.out] at HC
  clear HF
  by_cases h8 : l.length = 8
  · rw [HF8.out h8] at HC
    have hb8 : ((l.length : Int) == 8) = true := by rw [h8]; rfl
    clear h8 HF8 HF11
    go_enter Tryz.func112, Tryz.ntmps112
    go_wp2_with fail
    refine HC.out.mono ?_
    rintro e w1 ⟨rfl, hb1⟩
    have HBK := hide ((hb1.block _ (by simp)).trans hnew)
    have HB1 := hide (hb0.trans (hb1.mono hb0.size))
    clear hb0 hnew hb1 HC
    go_wp2_with (refine wpList_store_row rfl 103 (.tmp 2) _ rfl w.heap.size bicZ rfl rfl _ _ HBK.out Tryz.size4 rfl (by simp [bicZ, str, Value.oneCell']) ?_)
    have hld := run_loadVar_row (P := Tryz.prog) (w1.setRow w.heap.size bicZ) w.heap.size 103 103 bicZ (0, 0) _ (setRow_heap _ _ _ _ _ _ HBK.out) Tryz.underlying103 rfl Tryz.size4
    refine bodyPost_ret (v := .tuple #[.agg bicZ, .iface t u]) ?_ rfl ⟨rfl, below_setRow HB1.out (Nat.le_refl _) _⟩
    rw [results_cell_tmp rfl]
    simp [asAddr, Result.andThen, hld]
  · rw [HF11.out h8] at HC
    have hb8 : ((l.length : Int) == 8) = false := beq_eq_false_iff_ne.2 (by omega)
    clear h8 HF8 HF11
    go_enter Tryz.func112, Tryz.ntmps112
    go_wp2_with fail
    refine HC.out.mono ?_
    rintro e w1 ⟨rfl, hb1⟩
    have HBK := hide ((hb1.block _ (by simp)).trans hnew)
    have HB1 := hide (hb0.trans (hb1.mono hb0.size))
    clear hb0 hnew hb1 HC
    go_wp2_with (refine wpList_store_row rfl 103 (.tmp 2) _ rfl w.heap.size bicZ rfl rfl _ _ HBK.out Tryz.size4 rfl (by simp [bicZ, str, Value.oneCell']) ?_)
    have hld := run_loadVar_row (P := Tryz.prog) (w1.setRow w.heap.size bicZ) w.heap.size 103 103 bicZ (0, 0) _ (setRow_heap _ _ _ _ _ _ HBK.out) Tryz.underlying103 rfl Tryz.size4
    refine bodyPost_ret (v := .tuple #[.agg bicZ, .iface t u]) ?_ rfl ⟨rfl, below_setRow HB1.out (Nat.le_refl _) _⟩
    rw [results_cell_tmp rfl]
    simp [asAddr, Result.andThen, hld]
theorem conv_mid {l : List UInt8} {g a n : Nat} {W : World} (h : W.rangeAt g 0 (cel l).toList) (hn : a + n ≤ l.length) (c : Nat) :
    (convert 99 9 (.slice (some ⟨g, a, none⟩) n c)).run Tryz.prog W = .ok (.string ⟨((l.drop a).take n).toArray⟩) W := by
  have hl : ((l.drop a).take n).length = n := by rw [List.length_take, List.length_drop]; omega
  have h2 := run_convert_bytes_back (P := Tryz.prog) W 99 9 5 ⟨g, a, none⟩ c ((l.drop a).take n) Tryz.underlying99 Tryz.underlying5 Tryz.underlying9 (fun j hj => by
    rw [hl] at hj
    have h3 := h (a + j) (.int .u8 ((l.getD (a + j) 0).toNat : Int)) (by
      have := cel_at (a := l) (i := a + j) (by omega)
      simpa using this)
    rw [Nat.zero_add] at h3
    rw [Addr.add_mid, h3]
    congr 3
    rw [getD_at (by omega)]
    simp)
  rw [hl] at h2; exact h2
/-- What the listed variable holds: the branch that is told as none. -/
def HeadOffice (w : World) : Prop := w.rangeAt 3 0 (cel [88, 88, 88]).toList
theorem HeadOffice.below {w w' : World} (h : HeadOffice w) (hb : Below w.heap.size w w') : HeadOffice w' := rng_later hb h
theorem Tryz.size3 : (Tryz.prog.info? 164).map (·.size) = some 3 := by kernel_rfl
set_option maxRecDepth 100000 in
set_option maxHeartbeats 4000000 in
theorem bic_good (l : List UInt8) (w : World) (hO : HeadOffice w) (h : Form l (bicF l)) :
    Calls Tryz.prog 112 #[.string ⟨l.toArray⟩] w fun e w' => e = .returned (.tuple #[.agg (bicP l), .nilIface]) ∧ Below w.heap.size w w' := by
  have hlen := bic_len h
  have HO := hide hO
  clear hO
  have hb0 : Below w.heap.size w (w.alloc (.cells bicZ 103)) := (Below.refl _ _).alloc (Nat.le_refl _) _
  have hnew := alloc_new w (.cells bicZ 103)
  have HC := hide (check_any l (bicF l) (w.alloc (.cells bicZ 103)) (by omega))
  rw [form_eq h, errF_ok] at HC
  obtain ⟨F, HF⟩ : ∃ F, Hid (bicF l = F) := ⟨_, hide rfl⟩
  have HF8 : Hid (l.length = 8 → F = bic8) := hide (fun h => by rw [← HF.out]; unfold bicF; rw [if_pos h])
  have HF11 : Hid (l.length ≠ 8 → F = bic11) := hide (fun h => by rw [← HF.out]; unfold bicF; rw [if_neg h])
  rw [HF.out] at HC
  clear HF h
  have hcv := run_bytes l (n := l.length) rfl
  by_cases h8 : l.length = 8
  · rw [HF8.out h8] at HC
    have hb8 : ((l.length : Int) == 8) = true := by rw [h8]; rfl
    have HL8 := hide h8
    have hle : 8 ≤ l.length := by omega
    have HD8 : Hid (l.drop 8 = []) := hide (List.drop_eq_nil_of_le (by omega))
    clear h8 HF8 HF11 hlen
    go_enter Tryz.func112, Tryz.ntmps112
    go_wp2_with fail
    refine HC.out.mono ?_
    rintro e w1 ⟨rfl, hb1⟩
    have HBK := hide ((hb1.block _ (by simp)).trans hnew)
    have HB1 := hide (hb0.trans (hb1.mono hb0.size))
    have hrng := bw_range l w1
    have HRG := hide hrng
    have hcap : l.length ≤ bcap l w1 := by unfold bcap; have := grownCap_ge w1 (⟨l.toArray⟩ : ByteArray).size 0 5; rw [bytes_size] at this ⊢; exact this
    have hm0 := fun (W : World) (hW : W.rangeAt w1.heap.size 0 (cel l).toList) (c : Nat) => conv_mid (a := 0) (n := 4) hW (by omega) c
    have hm1 := fun (W : World) (hW : W.rangeAt w1.heap.size 0 (cel l).toList) (c : Nat) => conv_mid (a := 4) (n := 2) hW (by omega) c
    have hm2 := fun (W : World) (hW : W.rangeAt w1.heap.size 0 (cel l).toList) (c : Nat) => conv_mid (a := 6) (n := 2) hW (by omega) c
    have HLT1 : Hid (w.heap.size < w1.heap.size) := hide (World.block_lt_of_cell? w1 ⟨w.heap.size, 0, none⟩ (cell_of_row w1 _ 0 _ _ _ HBK.out))
    clear hb0 hnew hb1 HC
    go_wp2_with fail
    generalize bcap l w1 = cap at hcap
    have k4 : (4 : Int) ≤ (cap : Int) := by omega
    have k6 : (6 : Int) ≤ (cap : Int) := by omega
    have k8 : (8 : Int) ≤ (cap : Int) := by omega
    have n4 : ¬ cap = 4 := by omega
    have n6 : ¬ cap = 6 := by omega
    go_region_held3 (fun w' => w'.rangeAt w1.heap.size 0 (cel l).toList) (go_keep_ranges) (fail)
    clear hrng hm0 hm1 hm2
    obtain ⟨A, HA⟩ : ∃ A, Hid (l.take 4 = A) := ⟨_, hide rfl⟩
    obtain ⟨B, HB⟩ : ∃ B, Hid ((l.drop 4).take 2 = B) := ⟨_, hide rfl⟩
    obtain ⟨C, HCC⟩ : ∃ C, Hid ((l.drop 6).take 2 = C) := ⟨_, hide rfl⟩
    rw [HA.out, HB.out, HCC.out]
    obtain ⟨X, HX⟩ : ∃ X, Hid ((bw l w1).alloc (.cells #[.string ⟨A.toArray⟩, .string ⟨B.toArray⟩, .string ⟨C.toArray⟩, .string ⟨#[]⟩] 103) = X) := ⟨_, hide rfl⟩
    have HBX : Hid (Below w.heap.size w X) := by
      show Below _ _ _
      rw [← HX.out]
      have h2 := HB1.out.trans ((bw_below (l := l) (Nat.le_refl w1.heap.size)).mono HB1.out.size)
      exact h2.alloc h2.size _
    have HKX : Hid (X.heap[w.heap.size]? = some (.cells bicZ 103 (0, 0))) := by
      show _ = _
      rw [← HX.out]
      exact alloc_block (((bw_below (l := l) (Nat.le_refl w1.heap.size)).block _ HLT1.out).trans HBK.out)
    have HGX : Hid (X.heap[(bw l w1).heap.size]? = some (.cells #[.string ⟨A.toArray⟩, .string ⟨B.toArray⟩, .string ⟨C.toArray⟩, .string ⟨#[]⟩] 103 (0, 0))) := by
      show _ = _
      rw [← HX.out]
      exact alloc_new _ _
    have HRX : Hid (X.rangeAt w1.heap.size 0 (cel l).toList) := by
      show World.rangeAt _ _ _ _
      rw [← HX.out]
      exact World.rangeAt_alloc HRG.out _
    have HLX : Hid (w.heap.size < (bw l w1).heap.size) := hide (Nat.lt_of_lt_of_le HLT1.out (bw_below (l := l) (Nat.le_refl w1.heap.size)).size)
    rw [HX.out]
    generalize (bw l w1).heap.size = g7 at HGX HLX ⊢
    clear HX HRG HBK HB1 hcv
    go_wp2_with fail
    have HPV : Hid (bicP l = #[.string ⟨A.toArray⟩, .string ⟨B.toArray⟩, .string ⟨C.toArray⟩, .string ⟨#[]⟩]) := by
      show bicP l = _
      unfold bicP bicB
      rw [HA.out, HB.out, HCC.out, HD8.out]; rfl
    have hgd : decide ((8 : Int) < (l.length : Int)) = false := by have := HL8.out; simp; omega
    refine wp_region_quiet_lit (by kernel_rfl) (by kernel_rfl) ?_
    repeat (first
      | go_big_quiet_skip
      | (go_big_quiet_want; first
          | (go_big_quiet_op; go_big_quiet_on)))
    refine wpQuiet_nil ?_
    rintro w5 ⟨nq, rfl⟩
    have HKF : Hid ((X.drew.drewN nq).heap[w.heap.size]? = some (.cells bicZ 103 (0, 0))) := HKX
    have HGF : Hid ((X.drew.drewN nq).heap[g7]? = some (.cells #[.string ⟨A.toArray⟩, .string ⟨B.toArray⟩, .string ⟨C.toArray⟩, .string ⟨#[]⟩] 103 (0, 0))) := HGX
    have HBF : Hid (Below w.heap.size w (X.drew.drewN nq)) := hide (below_drewN HBX.out.drew _)
    have HRY : Hid ((X.drew.drewN nq).rangeAt w1.heap.size 0 (cel l).toList) := HRX
    generalize X.drew.drewN nq = Y at HKF HGF HBF HRY ⊢
    go_wp2_with (first
      | (refine wpList_load_row rfl 103 (.tmp 7) rfl g7 rfl _ #[.string ⟨A.toArray⟩, .string ⟨B.toArray⟩, .string ⟨C.toArray⟩, .string ⟨#[]⟩] _ _ HGF.out Tryz.underlying103 rfl Tryz.size4 ?_)
      | (refine wpList_store_row rfl 103 (.tmp 2) _ rfl w.heap.size #[.string ⟨A.toArray⟩, .string ⟨B.toArray⟩, .string ⟨C.toArray⟩, .string ⟨#[]⟩] rfl rfl _ _ HKF.out Tryz.size4 rfl (by simp [Value.oneCell']) ?_))
    have hld := run_loadVar_row (P := Tryz.prog) (Y.setRow w.heap.size #[.string ⟨A.toArray⟩, .string ⟨B.toArray⟩, .string ⟨C.toArray⟩, .string ⟨#[]⟩]) w.heap.size 103 103 _ (0, 0) _ (setRow_heap _ _ _ _ _ _ HKF.out) Tryz.underlying103 rfl Tryz.size4
    refine bodyPost_ret (v := .tuple #[.agg #[.string ⟨A.toArray⟩, .string ⟨B.toArray⟩, .string ⟨C.toArray⟩, .string ⟨#[]⟩], .nilIface]) ?_ rfl ⟨ret_tv (by rw [HPV.out]) rfl, below_setRow HBF.out (Nat.le_refl _) _⟩
    rw [results_cell_tmp rfl]
    simp [asAddr, Result.andThen, hld]
  · rw [HF11.out h8] at HC
    have hb8 : ((l.length : Int) == 8) = false := beq_eq_false_iff_ne.2 (by omega)
    have HL11 : Hid (l.length = 11) := hide (by omega)
    have hle : 11 ≤ l.length := by omega
    have hle2 : l.length ≤ 11 := by omega
    clear h8 HF8 HF11 hlen
    go_enter Tryz.func112, Tryz.ntmps112
    go_wp2_with fail
    refine HC.out.mono ?_
    rintro e w1 ⟨rfl, hb1⟩
    have HBK := hide ((hb1.block _ (by simp)).trans hnew)
    have HB1 := hide (hb0.trans (hb1.mono hb0.size))
    have hrng := bw_range l w1
    have HRG := hide hrng
    have hcap : l.length ≤ bcap l w1 := by unfold bcap; have := grownCap_ge w1 (⟨l.toArray⟩ : ByteArray).size 0 5; rw [bytes_size] at this ⊢; exact this
    have hm0 := fun (W : World) (hW : W.rangeAt w1.heap.size 0 (cel l).toList) (c : Nat) => conv_mid (a := 0) (n := 4) hW (by omega) c
    have hm1 := fun (W : World) (hW : W.rangeAt w1.heap.size 0 (cel l).toList) (c : Nat) => conv_mid (a := 4) (n := 2) hW (by omega) c
    have hm2 := fun (W : World) (hW : W.rangeAt w1.heap.size 0 (cel l).toList) (c : Nat) => conv_mid (a := 6) (n := 2) hW (by omega) c
    have HLT1 : Hid (w.heap.size < w1.heap.size) := hide (World.block_lt_of_cell? w1 ⟨w.heap.size, 0, none⟩ (cell_of_row w1 _ 0 _ _ _ HBK.out))
    clear hb0 hnew hb1 HC
    go_wp2_with fail
    generalize bcap l w1 = cap at hcap
    have k4 : (4 : Int) ≤ (cap : Int) := by omega
    have k6 : (6 : Int) ≤ (cap : Int) := by omega
    have k8 : (8 : Int) ≤ (cap : Int) := by omega
    have n4 : ¬ cap = 4 := by omega
    have n6 : ¬ cap = 6 := by omega
    go_region_held3 (fun w' => w'.rangeAt w1.heap.size 0 (cel l).toList) (go_keep_ranges) (fail)
    clear hrng hm0 hm1 hm2
    obtain ⟨A, HA⟩ : ∃ A, Hid (l.take 4 = A) := ⟨_, hide rfl⟩
    obtain ⟨B, HB⟩ : ∃ B, Hid ((l.drop 4).take 2 = B) := ⟨_, hide rfl⟩
    obtain ⟨C, HCC⟩ : ∃ C, Hid ((l.drop 6).take 2 = C) := ⟨_, hide rfl⟩
    rw [HA.out, HB.out, HCC.out]
    obtain ⟨X, HX⟩ : ∃ X, Hid ((bw l w1).alloc (.cells #[.string ⟨A.toArray⟩, .string ⟨B.toArray⟩, .string ⟨C.toArray⟩, .string ⟨#[]⟩] 103) = X) := ⟨_, hide rfl⟩
    have HBX : Hid (Below w.heap.size w X) := by
      show Below _ _ _
      rw [← HX.out]
      have h2 := HB1.out.trans ((bw_below (l := l) (Nat.le_refl w1.heap.size)).mono HB1.out.size)
      exact h2.alloc h2.size _
    have HKX : Hid (X.heap[w.heap.size]? = some (.cells bicZ 103 (0, 0))) := by
      show _ = _
      rw [← HX.out]
      exact alloc_block (((bw_below (l := l) (Nat.le_refl w1.heap.size)).block _ HLT1.out).trans HBK.out)
    have HGX : Hid (X.heap[(bw l w1).heap.size]? = some (.cells #[.string ⟨A.toArray⟩, .string ⟨B.toArray⟩, .string ⟨C.toArray⟩, .string ⟨#[]⟩] 103 (0, 0))) := by
      show _ = _
      rw [← HX.out]
      exact alloc_new _ _
    have HRX : Hid (X.rangeAt w1.heap.size 0 (cel l).toList) := by
      show World.rangeAt _ _ _ _
      rw [← HX.out]
      exact World.rangeAt_alloc HRG.out _
    have HLX : Hid (w.heap.size < (bw l w1).heap.size) := hide (Nat.lt_of_lt_of_le HLT1.out (bw_below (l := l) (Nat.le_refl w1.heap.size)).size)
    rw [HX.out]
    generalize (bw l w1).heap.size = g7 at HGX HLX ⊢
    clear HX HRG HBK HB1 hcv
    go_wp2_with fail
    have k11 : 11 ≤ cap := by omega
    have n8 : ¬ cap = 8 := by omega
    obtain ⟨D, HD⟩ : ∃ D, Hid (l.drop 8 = D) := ⟨_, hide rfl⟩
    have HDL : Hid (D.length = 3) := by show _ = _; rw [← HD.out, List.length_drop, HL11.out]
    have HPV1 : Hid (D = [88, 88, 88] → bicP l = #[.string ⟨A.toArray⟩, .string ⟨B.toArray⟩, .string ⟨C.toArray⟩, .string ⟨#[]⟩]) := hide (fun hd => by
      unfold bicP bicB
      rw [HA.out, HB.out, HCC.out, HD.out, if_pos hd]; rfl)
    have HPV2 : Hid (D ≠ [88, 88, 88] → bicP l = #[.string ⟨A.toArray⟩, .string ⟨B.toArray⟩, .string ⟨C.toArray⟩, .string ⟨D.toArray⟩]) := hide (fun hd => by
      unfold bicP bicB
      rw [HA.out, HB.out, HCC.out, HD.out, if_neg hd]; rfl)
    have hgd : decide ((8 : Int) < (l.length : Int)) = true := by have := HL11.out; simp; omega
    have hl3 : l.length - 8 = 3 := by have := HL11.out; omega
    have har := fun (W : World) (a : Option Addr) (c : Nat) => run_arrayAt (P := Tryz.prog) W 164 _ 3 a 3 c Tryz.underlying164 (Nat.le_refl _)
    have hneq := run_neq_cel Tryz.underlying164 D [88, 88, 88] HDL.out rfl
    have HOX : Hid (X.rangeAt 3 0 (cel [88, 88, 88]).toList) := hide (HO.out.below HBX.out)
    cases hq : decide (D = [88, 88, 88])
    · rw [hq] at hneq
      have HPV := hide (HPV2.out (of_decide_eq_false hq))
      clear hq HPV1 HPV2
      refine wp_region_quiet_lit (by kernel_rfl) (by kernel_rfl) ?_
      repeat (first
        | go_big_quiet_skip
        | (go_big_quiet_want; first
            | (refine quiet_load_at 164 (.tmp 37) rfl w1.heap.size 8 rfl (cel D).toList _ (fun w' ⟨n, hn⟩ => by subst hn; rw [← HD.out]; exact rng_drop2 HRX.out) Tryz.underlying164 rfl (by rw [Array.length_toList, cel_size, HDL.out]; exact Tryz.size3) ?_; rw [Array.toArray_toList]; simp only [Act.put, List.setIfInBounds_toArray, List.set_cons_zero, List.set_cons_succ]; go_big_quiet_on)
            | (refine quiet_load_at 164 (.global 3) rfl 3 0 rfl (cel [88, 88, 88]).toList _ (fun w' ⟨n, hn⟩ => by subst hn; exact HOX.out) Tryz.underlying164 rfl (by rw [Array.length_toList, cel_size]; exact Tryz.size3) ?_; rw [Array.toArray_toList]; simp only [Act.put, List.setIfInBounds_toArray, List.set_cons_zero, List.set_cons_succ]; go_big_quiet_on)
            | (go_big_quiet_op; go_big_quiet_on)))
      refine wpQuiet_nil ?_
      rintro w5 ⟨nq, rfl⟩
      have HKF : Hid ((X.drew.drewN nq).heap[w.heap.size]? = some (.cells bicZ 103 (0, 0))) := HKX
      have HGF : Hid ((X.drew.drewN nq).heap[g7]? = some (.cells #[.string ⟨A.toArray⟩, .string ⟨B.toArray⟩, .string ⟨C.toArray⟩, .string ⟨#[]⟩] 103 (0, 0))) := HGX
      have HBF : Hid (Below w.heap.size w (X.drew.drewN nq)) := hide (below_drewN HBX.out.drew _)
      have HRY : Hid ((X.drew.drewN nq).rangeAt w1.heap.size 0 (cel l).toList) := HRX
      generalize X.drew.drewN nq = Y at HKF HGF HBF HRY ⊢
      have hcv3 : ∀ c : Nat, (convert 99 9 (.slice (some ⟨w1.heap.size, 8, none⟩) 3 c)).run Tryz.prog Y = .ok (.string ⟨D.toArray⟩) Y := fun c => by
        have h := conv_mid (W := Y) (l := l) (g := w1.heap.size) (a := 8) (n := 3) HRY.out (by have := HL11.out; omega) c
        rw [HD.out, List.take_of_length_le (by rw [HDL.out]; exact Nat.le_refl _)] at h; exact h
      have c3 : Y.cell? ⟨g7, 3, none⟩ = some (.string ⟨#[]⟩) := cell_of_row _ _ 3 _ _ _ HGF.out
      have f3 : Y.frozen? ⟨g7, 3, none⟩ = false := by simp only [World.frozen?, HGF.out]; rfl
      have r0 : Y.rowIs g7 103 4 (fun i => (#[.string ⟨A.toArray⟩, .string ⟨B.toArray⟩, .string ⟨C.toArray⟩, .string ⟨#[]⟩] : Array Value).getD i undef) := ⟨_, HGF.out, rfl, fun i hi => by
        match i, hi with
        | 0, _ => rfl
        | 1, _ => rfl
        | 2, _ => rfl
        | 3, _ => rfl⟩
      have r1 := r0.set 3 (.string ⟨D.toArray⟩)
      have HRD : Hid ((Y.setCell ⟨g7, 3, none⟩ (.string ⟨D.toArray⟩)).rangeAt g7 0 [.string ⟨A.toArray⟩, .string ⟨B.toArray⟩, .string ⟨C.toArray⟩, .string ⟨D.toArray⟩]) := hide (fun j v hv => by
        match j, hv with
        | 0, hv => simp at hv; subst hv; exact r1.cell (i := 0) (by omega)
        | 1, hv => simp at hv; subst hv; exact r1.cell (i := 1) (by omega)
        | 2, hv => simp at hv; subst hv; exact r1.cell (i := 2) (by omega)
        | 3, hv => simp at hv; subst hv; exact r1.cell (i := 3) (by omega))
      have HKF2 := hide ((((Below.refl g7 Y).setCell (p := ⟨g7, 3, none⟩) (Nat.le_refl _) (.string ⟨D.toArray⟩)).block w.heap.size HLX.out).trans HKF.out)
      have HBF2 := hide (HBF.out.setCell (p := ⟨g7, 3, none⟩) (Nat.le_of_lt HLX.out) (.string ⟨D.toArray⟩))
      clear r0 r1 HKF HBF HGF
      have HKF := HKF2
      have HBF := HBF2
      go_wp2_with (first
        | (refine wpList_load_mid rfl 103 (.tmp 7) rfl g7 0 rfl [.string ⟨A.toArray⟩, .string ⟨B.toArray⟩, .string ⟨C.toArray⟩, .string ⟨D.toArray⟩] _ HRD.out Tryz.underlying103 rfl Tryz.size4 ?_)
        | (refine wpList_store_row rfl 103 (.tmp 2) _ rfl w.heap.size #[.string ⟨A.toArray⟩, .string ⟨B.toArray⟩, .string ⟨C.toArray⟩, .string ⟨D.toArray⟩] rfl rfl _ _ HKF.out Tryz.size4 rfl (by simp [Value.oneCell']) ?_))
      have hld := run_loadVar_row (P := Tryz.prog) ((Y.setCell ⟨g7, 3, none⟩ (.string ⟨D.toArray⟩)).setRow w.heap.size #[.string ⟨A.toArray⟩, .string ⟨B.toArray⟩, .string ⟨C.toArray⟩, .string ⟨D.toArray⟩]) w.heap.size 103 103 _ (0, 0) _ (setRow_heap _ _ _ _ _ _ HKF.out) Tryz.underlying103 rfl Tryz.size4
      refine bodyPost_ret (v := .tuple #[.agg #[.string ⟨A.toArray⟩, .string ⟨B.toArray⟩, .string ⟨C.toArray⟩, .string ⟨D.toArray⟩], .nilIface]) ?_ rfl ⟨ret_tv (by rw [HPV.out]) rfl, below_setRow HBF.out (Nat.le_refl _) _⟩
      rw [results_cell_tmp rfl]
      simp [asAddr, Result.andThen, hld]
    · rw [hq] at hneq
      have HPV := hide (HPV1.out (of_decide_eq_true hq))
      clear hq HPV1 HPV2
      refine wp_region_quiet_lit (by kernel_rfl) (by kernel_rfl) ?_
      repeat (first
        | go_big_quiet_skip
        | (go_big_quiet_want; first
            | (refine quiet_load_at 164 (.tmp 37) rfl w1.heap.size 8 rfl (cel D).toList _ (fun w' ⟨n, hn⟩ => by subst hn; rw [← HD.out]; exact rng_drop2 HRX.out) Tryz.underlying164 rfl (by rw [Array.length_toList, cel_size, HDL.out]; exact Tryz.size3) ?_; rw [Array.toArray_toList]; simp only [Act.put, List.setIfInBounds_toArray, List.set_cons_zero, List.set_cons_succ]; go_big_quiet_on)
            | (refine quiet_load_at 164 (.global 3) rfl 3 0 rfl (cel [88, 88, 88]).toList _ (fun w' ⟨n, hn⟩ => by subst hn; exact HOX.out) Tryz.underlying164 rfl (by rw [Array.length_toList, cel_size]; exact Tryz.size3) ?_; rw [Array.toArray_toList]; simp only [Act.put, List.setIfInBounds_toArray, List.set_cons_zero, List.set_cons_succ]; go_big_quiet_on)
            | (go_big_quiet_op; go_big_quiet_on)))
      refine wpQuiet_nil ?_
      rintro w5 ⟨nq, rfl⟩
      have HKF : Hid ((X.drew.drewN nq).heap[w.heap.size]? = some (.cells bicZ 103 (0, 0))) := HKX
      have HGF : Hid ((X.drew.drewN nq).heap[g7]? = some (.cells #[.string ⟨A.toArray⟩, .string ⟨B.toArray⟩, .string ⟨C.toArray⟩, .string ⟨#[]⟩] 103 (0, 0))) := HGX
      have HBF : Hid (Below w.heap.size w (X.drew.drewN nq)) := hide (below_drewN HBX.out.drew _)
      have HRY : Hid ((X.drew.drewN nq).rangeAt w1.heap.size 0 (cel l).toList) := HRX
      generalize X.drew.drewN nq = Y at HKF HGF HBF HRY ⊢
      go_wp2_with (first
        | (refine wpList_load_row rfl 103 (.tmp 7) rfl g7 rfl _ #[.string ⟨A.toArray⟩, .string ⟨B.toArray⟩, .string ⟨C.toArray⟩, .string ⟨#[]⟩] _ _ HGF.out Tryz.underlying103 rfl Tryz.size4 ?_)
        | (refine wpList_store_row rfl 103 (.tmp 2) _ rfl w.heap.size #[.string ⟨A.toArray⟩, .string ⟨B.toArray⟩, .string ⟨C.toArray⟩, .string ⟨#[]⟩] rfl rfl _ _ HKF.out Tryz.size4 rfl (by simp [Value.oneCell']) ?_))
      have hld := run_loadVar_row (P := Tryz.prog) (Y.setRow w.heap.size #[.string ⟨A.toArray⟩, .string ⟨B.toArray⟩, .string ⟨C.toArray⟩, .string ⟨#[]⟩]) w.heap.size 103 103 _ (0, 0) _ (setRow_heap _ _ _ _ _ _ HKF.out) Tryz.underlying103 rfl Tryz.size4
      refine bodyPost_ret (v := .tuple #[.agg #[.string ⟨A.toArray⟩, .string ⟨B.toArray⟩, .string ⟨C.toArray⟩, .string ⟨#[]⟩], .nilIface]) ?_ rfl ⟨ret_tv (by rw [HPV.out]) rfl, below_setRow HBF.out (Nat.le_refl _) _⟩
      rw [results_cell_tmp rfl]
      simp [asAddr, Result.andThen, hld]
theorem bic_any (l : List UInt8) (w : World) (hO : HeadOffice w) (hl : l.length ≤ 140737488355328) :
    Calls Tryz.prog 112 #[.string ⟨l.toArray⟩] w fun e w' => e = .returned (.tuple #[.agg (bicV l), errF (formR l (bicF l))]) ∧ Below w.heap.size w w' := by
  by_cases h : Form l (bicF l)
  · rw [bicV_ok h, form_eq h, errF_ok]; exact bic_good l w hO h
  · exact bic_bad l w hl h
end Go.Proofs.YtbaideeiljeamaaGreatDoor.LC
