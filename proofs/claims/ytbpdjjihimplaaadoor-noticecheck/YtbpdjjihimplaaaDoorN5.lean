/-
  My own text: links in memory; what is wrong with them: the program's look; Check, the program's.
-/
import Derived.Test.YtbpdjjihimplaaaDoorN3
import Derived.Test.YtbpdjjihimplaaaDoorN4
namespace Go.Proofs.YtbpdjjihimplaaaDoor
open Go.RowKit LC

abbrev Lnk := Int × List UInt8
/-- A row of links. -/
def RL (w : World) (v : Value) (ls : List Lnk) : Prop := ∃ a cap, v = .slice a ls.length cap ∧ (ls = [] ∨ ∃ b off, a = some ⟨b, off, none⟩ ∧ b < w.heap.size ∧ ∀ (j : Nat) (p : Lnk), ls[j]? = some p → w.cell? ⟨b, off + j * 2, none⟩ = some (.int .i64 p.1) ∧ w.cell? ⟨b, off + j * 2 + 1, none⟩ = some (.string ⟨p.2.toArray⟩))
theorem RL.later {w w' : World} {v : Value} {ls : List Lnk} (h : RL w v ls) (hb : Below w.heap.size w w') : RL w' v ls := by
  obtain ⟨a, cap, hv, h⟩ := h
  refine ⟨a, cap, hv, ?_⟩
  rcases h with h | ⟨b, off, ha, hlt, hc⟩
  · exact .inl h
  · exact .inr ⟨b, off, ha, Nat.lt_of_lt_of_le hlt hb.size, fun j p hj => ⟨(hb.cell (p := ⟨b, _, none⟩) hlt).trans (hc j p hj).1, (hb.cell (p := ⟨b, _, none⟩) hlt).trans (hc j p hj).2⟩⟩
/-- What is wrong with links. -/
def linkE (ref : List UInt8) : List Lnk → Int
  | [] => 0
  | (k, r) :: t => if decide (k < 1) || decide (3 < k) then 24 else if !refB r then 6 else if decide (r = ref) then 17 else linkE ref t
def linksE (ref : List UInt8) (ls : List Lnk) : Int := if 16 < ls.length then 5 else linkE ref ls
theorem linkE_step {ref r : List UInt8} {k : Int} {ls : List Lnk} {j : Nat} (h : ls[j]? = some (k, r)) : linkE ref (ls.drop j) = (if decide (k < 1) || decide (3 < k) then 24 else if !refB r then 6 else if decide (r = ref) then 17 else linkE ref (ls.drop (j + 1))) := by
  have hj : j < ls.length := (List.getElem?_eq_some_iff.1 h).1
  have he : ls.drop j = (k, r) :: ls.drop (j + 1) := by
    rw [List.drop_eq_getElem_cons hj]; congr 1; exact (List.getElem?_eq_some_iff.1 h).2
  rw [he]; rfl
theorem Tryd.sizeLnk : (Tryd.prog.info? 42).map (·.size) = some 2 := by kernel_rfl
theorem Tryd.sizeNtc : (Tryd.prog.info? 26).map (·.size) = some 27 := by kernel_rfl
theorem ret_e {a : Int} {v : Value} (k : Int) (h : a = k) (hv : v = errV k) : Ending.returned v = .returned (errV a) := by rw [h, hv]
def LOk (ls : List Lnk) : Prop := ∀ p ∈ ls, p.2.length ≤ 140737488355328
theorem pair_cells {w : World} {o : Obj} {a b : Value} {t : TypeId} {g : Nat} (h : w.heap[g]? = some o) (ho : o = .cells #[a, b] t (0, 0)) : w.cell? ⟨g, 0, none⟩ = some a ∧ w.cell? ⟨g, 1, none⟩ = some b := by
  subst ho
  exact ⟨by rw [cell_of_row _ _ 0 _ _ _ h]; rfl, by rw [cell_of_row _ _ 1 _ _ _ h]; rfl⟩
set_option maxRecDepth 100000 in
set_option maxHeartbeats 4000000 in
theorem checkLinks_any (n : Ntc) (v : Value) (ls : List Lnk) (w : World) (hn : NOk n) (hv : RL w v ls) (hL : LOk ls) (hlen : ls.length ≤ 9223372036854775807) :
    Calls Tryd.prog 13 #[.agg (nC n v)] w fun e w' => e = .returned (errV (linksE n.ref ls)) ∧ Below w.heap.size w w' := by
  have HLC := hide hn.code
  have HRL := hide hv
  have X0 := hide (Bx.new w n v)
  have B0 := hide ((Below.refl w.heap.size w).alloc (Nat.le_refl _) (.cells (nC n v) 26))
  have HLO := hide hL
  clear hn hL
  obtain ⟨a, cap, rfl, hr⟩ := hv
  have HR := hide hr
  clear hr
  by_cases h16 : 16 < ls.length
  · have HE : Hid (linksE n.ref ls = 5) := hide (if_pos h16)
    have zlinks := X0.out.links HLC.out
    go_enter Tryd.func13, Tryd.ntmps13
    go_wp2_with fail
    go_ret
    exact ⟨ret_e 5 HE.out rfl, B0.out⟩
  have HE : Hid (linksE n.ref ls = linkE n.ref ls) := hide (if_neg h16)
  have zlinks := X0.out.links HLC.out
  go_enter Tryd.func13, Tryd.ntmps13
  go_wp2_with fail
  go_loopw [13] (fun i wr => ∃ k : Nat, k ≤ ls.length ∧ i = .int .i64 k ∧ Hid (linkE n.ref ls = linkE n.ref (ls.drop k)) ∧ Hid (Bx wr w.heap.size n (.slice a ls.length cap)) ∧ Hid (Below w.heap.size w wr)) (fun i _ => ls.length - (intOf i).toNat)
  case atStart => exact ⟨0, Nat.zero_le _, rfl, hide (by rw [List.drop_zero]), X0, B0⟩
  case round =>
    clear zlinks X0 B0
    obtain ⟨k, hk, rfl, HD, X, B⟩ := hrel
    by_cases hlt : k < ls.length
    · obtain ⟨⟨kd, r⟩, hp⟩ : ∃ p, ls[k]? = some p := ⟨_, List.getElem?_eq_getElem hlt⟩
      have HP := hide hp
      have HST := hide (linkE_step (ref := n.ref) hp)
      have HRF := hide (fun W : World => isRef_any r W (HLO.out (kd, r) (List.mem_of_getElem? hp)))
      obtain ⟨b, off, ha, hbl, hc⟩ := HR.out.resolve_left (fun h => by rw [h] at hlt; simp at hlt)
      have c0 : wr.cell? ⟨b, off + k * 2, none⟩ = some (.int .i64 kd) := (B.out.cell (p := ⟨b, _, none⟩) hbl).trans (hc k _ hp).1
      have c1 : wr.cell? ⟨b, off + k * 2 + 1, none⟩ = some (.string ⟨r.toArray⟩) := (B.out.cell (p := ⟨b, _, none⟩) hbl).trans (hc k _ hp).2
      have c1' : wr.cell? ⟨b, off + (k * 2 + 1), none⟩ = some (.string ⟨r.toArray⟩) := c1
      subst ha
      clear hc hp
      have XA := hide (X.out.alloc (.cells #[.int .i64 kd, .string ⟨r.toArray⟩] 42))
      have BA := hide (B.out.alloc B.out.size (.cells #[.int .i64 kd, .string ⟨r.toArray⟩] 42))
      have NA := hide (LC.alloc_new wr (.cells #[.int .i64 kd, .string ⟨r.toArray⟩] 42))
      cases hk1 : decide (kd < 1)
      · cases hk3 : decide (3 < kd)
        · cases hrf : refB r
          · rw [hrf] at HRF
            go_wp2_with fail
            refine (HRF.out _).mono ?_
            rintro e w1 ⟨rfl, hb1⟩
            have B1 := hide (BA.out.trans (hb1.mono BA.out.size))
            clear hb1
            go_wp2_with fail
            go_ret
            exact ⟨ret_e 6 (by rw [HE.out, HD.out, HST.out]; simp [hk1, hk3, hrf]) rfl, B1.out⟩
          · rw [hrf] at HRF
            go_wp2_with fail
            refine (HRF.out _).mono ?_
            rintro e w1 ⟨rfl, hb1⟩
            have B1 := hide (BA.out.trans (hb1.mono BA.out.size))
            have X1 := hide (XA.out.later hb1)
            have N1 := (hb1.block wr.heap.size (by simp)).trans NA.out
            obtain ⟨d0, d1⟩ := pair_cells N1 rfl
            have zref := X1.out.ref HLC.out
            have hq : (r == n.ref) = decide (r = n.ref) := by rw [Bool.eq_iff_iff]; simp
            clear hb1 N1
            cases hsm : decide (r = n.ref)
            · rw [hsm] at hq
              have HN : Hid (linkE n.ref ls = linkE n.ref (ls.drop (k + 1))) := by show _ = _; rw [HD.out, HST.out]; simp [hk1, hk3, hrf, hsm]
              go_wp2_with fail
              go_roundw
              case rel => exact ⟨k + 1, by omega, by go_num, HN, X1, B1⟩
              case measure => simp [intOf]; omega
            · rw [hsm] at hq
              go_wp2_with fail
              go_ret
              exact ⟨ret_e 17 (by rw [HE.out, HD.out, HST.out]; simp [hk1, hk3, hrf, hsm]) rfl, B1.out⟩
        · go_wp2_with fail
          go_ret
          exact ⟨ret_e 24 (by rw [HE.out, HD.out, HST.out]; simp [hk3]) rfl, BA.out⟩
      · go_wp2_with fail
        go_ret
        exact ⟨ret_e 24 (by rw [HE.out, HD.out, HST.out]; simp [hk1]) rfl, BA.out⟩
    · have hk' : k = ls.length := by omega
      subst hk'
      go_wp2_with fail
      go_ret
      exact ⟨ret_e 0 (by rw [HE.out, HD.out, List.drop_length]; rfl) rfl, B.out⟩
set_option maxRecDepth 100000 in
set_option maxHeartbeats 4000000 in
/-- What is wrong with a notice. -/
theorem nCheck_any (n : Ntc) (v : Value) (ls : List Lnk) (w : World) (hn : NOk n) (hv : RL w v ls) (hL : LOk ls) (hlen : ls.length ≤ 9223372036854775807) (HM : Hid (MDays w)) (HO : Hid (LC.HeadOffice w)) :
    Calls Tryd.prog 6 #[.agg (nC n v)] w fun e w' => e = .returned (errV (if termsE n ≠ 0 then termsE n else linksE n.ref ls)) ∧ Below w.heap.size w w' := by
  have HCT := hide (fun (W : World) (h1 : Hid (MDays W)) (h2 : Hid (LC.HeadOffice W)) => checkTerms_any n v W hn h1 h2)
  have HCL := hide (fun (W : World) (h : RL W v ls) => checkLinks_any n v ls W hn h hL hlen)
  have HSZ : Hid ((Tryd.prog.info? 26).map (·.size) = some (nC n v).size) := by show _ = _; rw [nC_size n v hn.code]; exact Tryd.sizeNtc
  have HRL := hide hv
  have X0 := hide (Bx.new w n v)
  have B0 := hide ((Below.refl w.heap.size w).alloc (Nat.le_refl _) (.cells (nC n v) 26))
  clear hn hL hv hlen
  by_cases h0 : termsE n = 0
  · rw [if_neg (by simp [h0])]
    rw [h0, errV_zero] at HCT
    clear h0
    go_enter Tryd.func6, Tryd.ntmps6
    go_wp2_with (refine wpList_load_row rfl 26 (.tmp 1) rfl w.heap.size rfl _ (nC n v) _ _ X0.out Tryd.underlying26 rfl HSZ.out ?_)
    refine (HCT.out _ (hide (HM.out.below B0.out)) (hide (HO.out.below B0.out))).mono ?_
    rintro e w1 ⟨rfl, hb1⟩
    have X1 := hide (X0.out.later hb1)
    have B1 := hide (B0.out.trans (hb1.mono B0.out.size))
    clear hb1 X0 B0
    go_wp2_with (refine wpList_load_row rfl 26 (.tmp 1) rfl w.heap.size rfl _ (nC n v) _ _ X1.out Tryd.underlying26 rfl HSZ.out ?_)
    refine (HCL.out _ (HRL.out.later B1.out)).mono ?_
    rintro e w2 ⟨rfl, hb2⟩
    have B2 := hide (B1.out.trans (hb2.mono B1.out.size))
    clear hb2 X1 B1
    go_wp2_with fail
    go_ret
    exact ⟨rfl, B2.out⟩
  · rw [if_pos h0]
    obtain ⟨u, hu⟩ : ∃ u, errV (termsE n) = .iface 35 u := ⟨_, by unfold errV; rw [if_neg h0]⟩
    rw [hu] at HCT ⊢
    clear h0 hu
    go_enter Tryd.func6, Tryd.ntmps6
    go_wp2_with (refine wpList_load_row rfl 26 (.tmp 1) rfl w.heap.size rfl _ (nC n v) _ _ X0.out Tryd.underlying26 rfl HSZ.out ?_)
    refine (HCT.out _ (hide (HM.out.below B0.out)) (hide (HO.out.below B0.out))).mono ?_
    rintro e w1 ⟨rfl, hb1⟩
    have B1 := hide (B0.out.trans (hb1.mono B0.out.size))
    clear hb1 X0 B0
    go_wp2_with fail
    go_ret
    exact ⟨rfl, B1.out⟩
end Go.Proofs.YtbpdjjihimplaaaDoor
