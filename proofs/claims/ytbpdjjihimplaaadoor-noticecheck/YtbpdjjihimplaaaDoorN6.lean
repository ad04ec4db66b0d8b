/-
  My own text: Check, the document's.
-/
import Derived.Test.YtbpdjjihimplaaaDoorN5
namespace Go.Proofs.YtbpdjjihimplaaaDoor
open Go.RowKit LC

def noticeE (n : Ntc) (ls : List Lnk) : Int := if termsE n ≠ 0 then termsE n else linksE n.ref ls
theorem noticeE_head {n : Ntc} {ls : List Lnk} (h : headE n ≠ 0) : noticeE n ls = headE n := by
  have e : termsE n = headE n := by rw [terms_parts, if_pos h]
  unfold noticeE; rw [e, if_pos h]
theorem noticeE_sides {n : Ntc} {ls : List Lnk} (h : headE n = 0) (h2 : sidesE n ≠ 0) : noticeE n ls = sidesE n := by
  have e : termsE n = sidesE n := by rw [terms_parts, if_neg (by simp [h]), if_pos h2]
  unfold noticeE; rw [e, if_pos h2]
theorem noticeE_pri {n : Ntc} {ls : List Lnk} (h : headE n = 0) (h2 : sidesE n = 0) (h3 : (decide (n.pri < 0) || decide (9999 < n.pri)) = true) : noticeE n ls = 1 := by
  have e : termsE n = 1 := by rw [terms_parts, if_neg (by simp [h]), if_neg (by simp [h2]), h3]; rfl
  unfold noticeE; rw [e]; rfl
theorem noticeE_links {n : Ntc} {ls : List Lnk} (h : headE n = 0) (h2 : sidesE n = 0) (h3 : (decide (n.pri < 0) || decide (9999 < n.pri)) = false) : noticeE n ls = linksE n.ref ls := by
  have e : termsE n = 0 := by rw [terms_parts, if_neg (by simp [h]), if_neg (by simp [h2]), h3]; rfl
  unfold noticeE; rw [e]; rfl
theorem int_ne {a : Int} (h : ¬ a = 0) : (a == 0) = false ∧ (a != 0) = true := ⟨beq_eq_false_iff_ne.2 h, bne_iff_ne.2 h⟩
set_option maxRecDepth 100000 in
set_option maxHeartbeats 8000000 in
theorem refCheck_any (n : Ntc) (v : Value) (ls : List Lnk) (w : World) (hn : NOk n) (hv : RL w v ls) (hL : LOk ls) (hlen : ls.length ≤ 9223372036854775807) :
    Calls Tryd.prog 7 #[.agg (nC n v)] w fun e w' => e = .returned (.int .i64 (noticeE n ls)) ∧ Below w.heap.size w w' := by
  have HHD := hide (fun W : World => head_any n v W hn)
  have HSD := hide (fun W : World => sides_any n v W hn)
  have HSZ : Hid ((Tryd.prog.info? 26).map (·.size) = some (nC n v).size) := by show _ = _; rw [nC_size n v hn.code]; exact Tryd.sizeNtc
  have HLC := hide hn.code
  have HLO := hide hL
  have HLE := hide hlen
  have X0 := hide (Bx.new w n v)
  have B0 := hide ((Below.refl w.heap.size w).alloc (Nat.le_refl _) (.cells (nC n v) 26))
  obtain ⟨a, cap, rfl, hr⟩ := hv
  have HR := hide hr
  clear hn hL hr
  obtain ⟨hd, Hhd⟩ : ∃ x, Hid (headE n = x) := ⟨_, hide rfl⟩
  obtain ⟨sd, Hsd⟩ : ∃ x, Hid (sidesE n = x) := ⟨_, hide rfl⟩
  rw [Hhd.out] at HHD
  rw [Hsd.out] at HSD
  by_cases h0 : hd = 0
  case neg =>
    obtain ⟨q1, q2⟩ := int_ne h0
    have HE : Hid (noticeE n ls = hd) := by show _ = _; rw [← Hhd.out]; exact noticeE_head (by rw [Hhd.out]; exact h0)
    clear h0
    go_enter Tryd.func7, Tryd.ntmps7
    go_wp2_with (refine wpList_load_row rfl 26 (.tmp 1) rfl w.heap.size rfl _ (nC n _) _ _ X0.out Tryd.underlying26 rfl HSZ.out ?_)
    refine (HHD.out _).mono ?_
    rintro e w1 ⟨rfl, hb1⟩
    have B1 := hide (B0.out.trans (hb1.mono B0.out.size))
    clear hb1 X0 B0
    go_wp2_with fail
    go_ret
    exact ⟨ret_n HE.out, B1.out⟩
  subst h0
  by_cases h1 : sd = 0
  case neg =>
    obtain ⟨q1, q2⟩ := int_ne h1
    have HE : Hid (noticeE n ls = sd) := by show _ = _; rw [← Hsd.out]; exact noticeE_sides Hhd.out (by rw [Hsd.out]; exact h1)
    clear h1
    go_enter Tryd.func7, Tryd.ntmps7
    go_wp2_with (refine wpList_load_row rfl 26 (.tmp 1) rfl w.heap.size rfl _ (nC n _) _ _ X0.out Tryd.underlying26 rfl HSZ.out ?_)
    refine (HHD.out _).mono ?_
    rintro e w1 ⟨rfl, hb1⟩
    have X1 := hide (X0.out.later hb1)
    have B1 := hide (B0.out.trans (hb1.mono B0.out.size))
    clear hb1 X0 B0
    go_wp2_with (refine wpList_load_row rfl 26 (.tmp 1) rfl w.heap.size rfl _ (nC n _) _ _ X1.out Tryd.underlying26 rfl HSZ.out ?_)
    refine (HSD.out _).mono ?_
    rintro e w2 ⟨rfl, hb2⟩
    have B2 := hide (B1.out.trans (hb2.mono B1.out.size))
    clear hb2 X1 B1
    go_wp2_with fail
    go_ret
    exact ⟨ret_n HE.out, B2.out⟩
  subst h1
  go_enter Tryd.func7, Tryd.ntmps7
  go_wp2_with (refine wpList_load_row rfl 26 (.tmp 1) rfl w.heap.size rfl _ (nC n _) _ _ X0.out Tryd.underlying26 rfl HSZ.out ?_)
  refine (HHD.out _).mono ?_
  rintro e w1 ⟨rfl, hb1⟩
  have X1 := hide (X0.out.later hb1)
  have B1 := hide (B0.out.trans (hb1.mono B0.out.size))
  clear hb1 X0 B0
  go_wp2_with (refine wpList_load_row rfl 26 (.tmp 1) rfl w.heap.size rfl _ (nC n _) _ _ X1.out Tryd.underlying26 rfl HSZ.out ?_)
  refine (HSD.out _).mono ?_
  rintro e w2 ⟨rfl, hb2⟩
  have X2 := hide (X1.out.later hb2)
  have B2 := hide (B1.out.trans (hb2.mono B1.out.size))
  clear hb2 X1 B1
  have zpri := X2.out.pri HLC.out
  have zlinks := X2.out.links HLC.out
  cases hpl : decide (n.pri < 0)
  case true =>
    go_wp2_with fail
    go_ret
    exact ⟨ret_n (noticeE_pri Hhd.out Hsd.out (by rw [hpl]; rfl)), B2.out⟩
  cases hpg : decide (9999 < n.pri)
  case true =>
    go_wp2_with fail
    go_ret
    exact ⟨ret_n (noticeE_pri Hhd.out Hsd.out (by rw [hpl, hpg]; rfl)), B2.out⟩
  have HN := hide (noticeE_links (ls := ls) Hhd.out Hsd.out (by rw [hpl, hpg]; rfl))
  by_cases h16 : 16 < ls.length
  · have HE : Hid (linksE n.ref ls = 5) := hide (if_pos h16)
    go_wp2_with fail
    go_ret
    exact ⟨ret_n (HN.out.trans HE.out), B2.out⟩
  have HE : Hid (linksE n.ref ls = linkE n.ref ls) := hide (if_neg h16)
  go_wp2_with fail
  go_loopw [4] (fun i wr => ∃ k : Nat, k ≤ ls.length ∧ i = .int .i64 k ∧ Hid (linkE n.ref ls = linkE n.ref (ls.drop k)) ∧ Hid (Bx wr w.heap.size n (.slice a ls.length cap)) ∧ Hid (Below w.heap.size w wr)) (fun i _ => ls.length - (intOf i).toNat)
  case atStart => exact ⟨0, Nat.zero_le _, rfl, hide (by rw [List.drop_zero]), X2, B2⟩
  case round =>
    clear zlinks zpri X2 B2
    obtain ⟨k, hk, rfl, HD, X, B⟩ := hrel
    have zlinks := X.out.links HLC.out
    by_cases hlt : k < ls.length
    · obtain ⟨⟨kd, r⟩, hp⟩ : ∃ p, ls[k]? = some p := ⟨_, List.getElem?_eq_getElem hlt⟩
      have HST := hide (linkE_step (ref := n.ref) hp)
      have HRF := hide (fun W : World => reference_any r W (HLO.out (kd, r) (List.mem_of_getElem? hp)))
      obtain ⟨b, off, ha, hbl, hc⟩ := HR.out.resolve_left (fun h => by rw [h] at hlt; simp at hlt)
      have c0 : wr.cell? ⟨b, off + k * 2, none⟩ = some (.int .i64 kd) := (B.out.cell (p := ⟨b, _, none⟩) hbl).trans (hc k _ hp).1
      have c1 : wr.cell? ⟨b, off + k * 2 + 1, none⟩ = some (.string ⟨r.toArray⟩) := (B.out.cell (p := ⟨b, _, none⟩) hbl).trans (hc k _ hp).2
      have c1' : wr.cell? ⟨b, off + (k * 2 + 1), none⟩ = some (.string ⟨r.toArray⟩) := c1
      subst ha
      clear hc hp
      have XA := hide (X.out.alloc (.cells #[.int .i64 kd, .string ⟨r.toArray⟩] 42))
      have BA := hide (B.out.alloc B.out.size (.cells #[.int .i64 kd, .string ⟨r.toArray⟩] 42))
      have NA := hide (LC.alloc_new wr (.cells #[.int .i64 kd, .string ⟨r.toArray⟩] 42))
      cases hk1 : decide (kd < 1)
      · cases hk3 : decide (3 < kd)
        · cases hrf : refB r
          · rw [hrf] at HRF
            go_wp2_with fail
            refine (HRF.out _).mono ?_
            rintro e w3 ⟨rfl, hb3⟩
            have B3 := hide (BA.out.trans (hb3.mono BA.out.size))
            clear hb3
            go_wp2_with fail
            go_ret
            exact ⟨ret_n (HN.out.trans (by rw [HE.out, HD.out, HST.out]; simp [hk1, hk3, hrf])), B3.out⟩
          · rw [hrf] at HRF
            go_wp2_with fail
            refine (HRF.out _).mono ?_
            rintro e w3 ⟨rfl, hb3⟩
            have B3 := hide (BA.out.trans (hb3.mono BA.out.size))
            have X3 := hide (XA.out.later hb3)
            have N3 := (hb3.block wr.heap.size (by simp)).trans NA.out
            obtain ⟨d0, d1⟩ := pair_cells N3 rfl
            have zref := X3.out.ref HLC.out
            have hq : (r == n.ref) = decide (r = n.ref) := by rw [Bool.eq_iff_iff]; simp
            clear hb3 N3
            cases hsm : decide (r = n.ref)
            · rw [hsm] at hq
              have HNX : Hid (linkE n.ref ls = linkE n.ref (ls.drop (k + 1))) := by show _ = _; rw [HD.out, HST.out]; simp [hk1, hk3, hrf, hsm]
              go_wp2_with fail
              go_roundw
              case rel => exact ⟨k + 1, by omega, by go_num, HNX, X3, B3⟩
              case measure => simp [intOf]; omega
            · rw [hsm] at hq
              go_wp2_with fail
              go_ret
              exact ⟨ret_n (HN.out.trans (by rw [HE.out, HD.out, HST.out]; simp [hk1, hk3, hrf, hsm])), B3.out⟩
        · go_wp2_with fail
          go_ret
          exact ⟨ret_n (HN.out.trans (by rw [HE.out, HD.out, HST.out]; simp [hk3])), BA.out⟩
      · go_wp2_with fail
        go_ret
        exact ⟨ret_n (HN.out.trans (by rw [HE.out, HD.out, HST.out]; simp [hk1])), BA.out⟩
    · have hk' : k = ls.length := by omega
      subst hk'
      go_wp2_with fail
      go_ret
      exact ⟨ret_n (HN.out.trans (by rw [HE.out, HD.out, List.drop_length]; rfl)), B.out⟩
end Go.Proofs.YtbpdjjihimplaaaDoor
