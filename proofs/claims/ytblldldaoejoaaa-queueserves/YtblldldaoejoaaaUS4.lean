/-
  My own text: layer 19: the law QueueServes (printed by mkus4.py).
-/
import Derived.Test.YtblldldaoejoaaaUS3
namespace Go.Proofs.Ytblldldaoejoaaa
open Go.RowKit Go.Extern Go.MapKept Go.ChangeMaps

set_option maxRecDepth 100000 in
set_option maxHeartbeats 16000000 in
theorem serves_law (v1 v2 : Value) (E : List Oq) (T : List Kr) (w : World) (hE : RO w v1 E) (hE2 : ∀ p ∈ E, p.ks.length ≤ 8796093021999) (hl : E.length ≤ 2932031007402) (hT : RT w v2 T) (hTl : T.length ≤ 8796093022000) :
    Calls Try.prog 4 #[v1, v2] w fun e w' => e = .returned (.bool true) ∧ Below w.heap.size w w' := by
  obtain ⟨hOq, ea, ecap, rfl, hS⟩ := hE
  obtain ⟨hKr, ta, tcap, rfl, hT⟩ := hT
  have HN := hide (newQ_any (E.length : Int) w)
  have HOQ := hide hOq
  have HES := hide hS
  have HEL := hide hl
  have HE2 := hide hE2
  have HKR := hide hKr
  have HTS := hide hT
  have HTL := hide hTl
  clear hOq hS hl hE2 hKr hT hTl
  go_enter Try.func4, Try.ntmps4
  go_wp2_with fail
  refine HN.out.mono ?_
  rintro r w1 ⟨q1, Z1, O1, rfl, h1, h2, h3, h4, h5, h6, _⟩
  have HN2 := hide (newQ_any (E.length : Int) w1)
  have X1 := hide (And.intro h1 (And.intro h2 (And.intro h3 (And.intro h4 (And.intro h5 h6)))))
  clear h1 h2 h3 h4 h5 h6 HN
  go_wp2_with fail
  refine HN2.out.mono ?_
  rintro r w2 ⟨q2, Z2, O2, rfl, h1, h2, h3, h4, h5, h6, _⟩
  have HW := hide (works_any w2)
  have X2 := hide (And.intro h1 (And.intro h2 (And.intro h3 (And.intro h4 (And.intro h5 h6)))))
  have gn := gtNilU
  clear h1 h2 h3 h4 h5 h6 HN2
  go_wp2_with fail
  refine HW.out.mono ?_
  rintro r w3 ⟨rfl, hb3⟩
  have H0 := hide (SS.start X1.out.1 X1.out.2.1 X1.out.2.2.1 X2.out.1 X2.out.2.1 X2.out.2.2.1 hb3)
  have HEN0 := hide (EN.start w (m := E.length) X1.out.2.2.2.1 X1.out.2.2.2.2.1 X1.out.2.2.2.2.2 X2.out.2.2.2.1 X2.out.2.2.2.2.1 X2.out.2.2.2.2.2)
  clear hb3 HW X1 X2
  go_wp2_with fail
  go_loopw [7, 10] (fun l i wr => ∃ (k : Nat) (AL : List Ky), k ≤ T.length ∧ i = .int .i64 (k : Int) ∧ Hid (AL = flt T k) ∧ Hid (AL.length ≤ 100000) ∧ Hid (SS w wr q1 q2 O1 O2 Z1 Z2 l (.slice none 0 0) (.slice none 0 0) AL [] [])) (fun _ i _ => T.length - (intOf i).toNat)
  case atStart => exact ⟨0, [], Nat.zero_le _, rfl, hide rfl, hide (by simp), H0⟩
  case round =>
    clear H0
    obtain ⟨k, AL, hk, rfl, HA, HAL, HSS⟩ := hrel
    obtain ⟨la, lc, hlv⟩ := KY.OM.slice HSS.out.ka
    subst hlv
    by_cases hlt : k < T.length
    · skip
      as_aux_lemma =>
        obtain ⟨p, hp⟩ : ∃ p, T[k]? = some p := ⟨_, List.getElem?_eq_getElem hlt⟩
        obtain ⟨tb, toff, ha, htl, htc⟩ := HTS.out.resolve_left (fun h => by rw [h] at hlt; simp at hlt)
        have c0 := (HSS.out.s.bl.cell (p := ⟨tb, _, none⟩) htl).trans (htc k p hp)
        unfold Kr.kv at c0
        subst ha
        have HP := hide (HKR.out p (List.mem_of_getElem? hp))
        have HRM : Hid (KY.RM wr (.slice p.ka p.ks.length p.kc) p.ks) := hide (HP.out.rm.later HSS.out.s.bl)
        obtain ⟨hd1, i0, i1, wk⟩ := ix hlt HTL.out
        obtain ⟨s, hs, sy, sn⟩ := big_nums AL.length p.ks.length HAL.out HP.out.kl
        have HA2 : Hid (AL ++ p.ks = flt T (k + 1)) := hide (by rw [flt_step hp, ← HA.out])
        have HLT := hide hlt
        clear htc hp htl hk
        by_cases hbig : 100000 < AL.length + p.ks.length
        · obtain ⟨g1, g2⟩ := sy hbig
          clear sy sn hbig
          go_wp2_with fail
          go_ret
          exact ⟨rfl, HSS.out.s.bl⟩
        · obtain ⟨g1, g2⟩ := sn hbig
          have HAL2 : Hid ((AL ++ p.ks).length ≤ 100000) := hide (by rw [List.length_append]; omega)
          clear sy sn hbig
          go_wp2_with (first
            | (at_builtin; refine wpList_append_ky rfl _ _ rfl w.heap.size _ AL rfl HSS.out.ka _ p.ks rfl HRM.out ?c1 ?c2 ?_))
          case c1 => have := HAL2.out; rw [List.length_append] at this; omega
          case c2 => exact HSS.out.s.bl.size
          intro v' w4 ho hg hat
          have HS4 := hide (HSS.out.appA ho hg hat)
          obtain ⟨AL', hAL'⟩ : ∃ AL', AL ++ p.ks = AL' := ⟨_, rfl⟩
          rw [hAL'] at HS4 HA2 HAL2
          clear ho hg hat hAL' HSS HRM hs g1 g2
          go_wp2_with fail
          go_roundw
          case rel => exact ⟨k + 1, AL', HLT.out, congrArg (Value.int .i64) wk, HA2, HAL2, HS4⟩
          case measure => first | exact meas_up HLT.out | (rw [wk]; exact meas_up HLT.out)
    · have e : k = T.length := by omega
      subst e
      have HAK : Hid (∀ x ∈ AL, KOK x) := hide (by rw [HA.out]; exact flt_kok HKR.out _)
      clear hk hlt
      go_wp2_with fail
      go_loopw [8, 9, 11] (fun vi vs i wr => ∃ (k : Nat) (O1 O2 : Nat → Prop) (Z1 Z2 : Qx) (L : List Kn), k ≤ E.length ∧ i = .int .i64 (k : Int) ∧ Hid (SS w wr q1 q2 O1 O2 Z1 Z2 (.slice la AL.length lc) vi vs AL (L.map (·.id)) (L.map Kn.kv)) ∧ Hid (EN w Z1 Z2 L k E.length)) (fun _ _ i _ => E.length - (intOf i).toNat)
      case atStart => exact ⟨0, O1, O2, Z1, Z2, [], Nat.zero_le _, rfl, HSS, HEN0⟩
      case round =>
        clear HSS HEN0
        obtain ⟨k, O1, O2, Z1, Z2, L, hk, rfl, HSS, HEN⟩ := hrel
        obtain ⟨ia, ic', hiv⟩ := HSS.out.ki.slc
        obtain ⟨sa, sc, hsv⟩ := HSS.out.ks.slc
        subst hiv hsv
        simp only [List.length_map] at HSS ⊢
        by_cases hlt : k < E.length
        · obtain ⟨p, hp⟩ : ∃ p, E[k]? = some p := ⟨_, List.getElem?_eq_getElem hlt⟩
          obtain ⟨sb, soff, ha, hsl, hsc⟩ := HES.out.resolve_left (fun h => by rw [h] at hlt; simp at hlt)
          obtain ⟨-, -, e2, e3⟩ := hsc k p hp
          have HC : Hid (∀ W, Below w.heap.size w W → W.cell? ⟨sb, soff + k * 4 + 2, none⟩ = some (.int .i64 p.id) ∧ W.cell? ⟨sb, soff + k * 4 + 3, none⟩ = some (.slice p.ka p.ks.length p.kc)) := hide (fun W hb => ⟨(hb.cell (p := ⟨sb, _, none⟩) hsl).trans e2, (hb.cell (p := ⟨sb, _, none⟩) hsl).trans e3⟩)
          subst ha
          have HP := hide (HOQ.out p (List.mem_of_getElem? hp))
          have HPL := hide (HE2.out p (List.mem_of_getElem? hp))
          obtain ⟨hd1, i0, i1, wk⟩ := ix hlt (by have := HEL.out; omega)
          have HLT := hide hlt
          have b9 : Below wr.heap.size wr wr.drew := (Below.refl _ _).drew
          have HS9 := hide (HSS.out.later b9)
          have HIL : Hid (L.length ≤ 8796093022000) := hide (by have := HEN.out.ln; have := HEL.out; omega)
          obtain ⟨c2, c3⟩ := HC.out wr HSS.out.s.bl
          obtain ⟨d2, d3⟩ := HC.out wr.drew HS9.out.s.bl
          clear hsc hp hsl e2 e3 hk b9 hlt HSS
          by_cases hin : ∃ q ∈ L, q.id = p.id
          · skip
            as_aux_lemma =>
              have HIN := hide hin
              have HP1 := hide (HS9.out.put_tw HEN.out HLT.out HEL.out HP.out.id (HP.out.rm.later HS9.out.s.bl) HP.out.kl HP.out.kk hin)
              unfold Oq.kv at HP1
              clear hin
              go_wp2_with fail
              go_region_held3 (fun W => W.cell? ⟨sb, soff + k * 4 + 2, none⟩ = some (.int .i64 p.id) ∧ W.cell? ⟨sb, soff + k * 4 + 3, none⟩ = some (.slice p.ka p.ks.length p.kc)) (go_keep) (first
                | (go_at_call 8; refine HP1.out.mono ?_; rintro r w4 ⟨rfl, O1', HS4⟩; obtain ⟨y2, y3⟩ := HC.out w4 HS4.out.s.bl))
              clear HP1 c2 c3 d2 d3 HS9
              have HTU0 := turn_any p.kv p.ks w4 (HP.out.rm.later HS4.out.s.bl) HPL.out
              unfold Oq.kv at HTU0
              have HTU := hide HTU0
              clear HTU0
              go_wp2_with fail
              refine HTU.out.mono ?_
              rintro r w5 ⟨v5, rfl, o5, b5⟩
              have HS5 := hide (HS4.out.later b5)
              have HP2 := hide (HS5.out.swap.put_tw HEN.out.swap HLT.out HEL.out HP.out.id (KY.OM.rm o5) (by have := trn_len p.ks; have := HPL.out; omega) (fun k hk => HP.out.kk k (mem_trn.1 hk)) HIN.out)
              obtain ⟨a5, cc5, hv5⟩ := KY.OM.slice o5
              subst hv5
              obtain ⟨x2, x3⟩ := HC.out w5 HS5.out.s.bl
              clear o5 b5 HTU HS4 y2 y3
              obtain ⟨n5, hn5⟩ : ∃ n5, (trn p.ks).length = n5 := ⟨_, rfl⟩
              rw [hn5] at HP2 ⊢
              clear hn5
              go_wp2_with fail
              refine HP2.out.mono ?_
              rintro r w6 ⟨rfl, O2', HS6⟩
              obtain ⟨y2, y3⟩ := HC.out w6 HS6.out.s.bl
              have HH : Hid (∀ n, Calls Try.prog 20 #[.slice ia L.length ic', .int .i64 p.id] (w6.drewN n) fun e w' => e = .returned (.bool true) ∧ w' = w6.drewN n) := hide (fun n => has_any _ w.heap.size (L.map (·.id)) p.id _ (HS6.out.later (below_dNU (Below.refl _ _) n)).ki (by rw [List.length_map]; exact HIL.out) true (decide_eq_true (by obtain ⟨q, hq, hi⟩ := HIN.out; rw [← hi]; exact List.mem_map_of_mem (f := fun x : Kn => x.id) hq)).symm)
              have eb := eqNo 11
              have eg := egNoU 11
              unfold er
              clear x2 x3 HP2 HS5
              go_wp2_with fail
              go_quiet (first
                | (go_at_call 19; exact Calls.quiet_of_same (num_errno 11 _ (by decide) (by decide)))
                | (go_at_call 20; exact Calls.quiet_of_same (HH.out _)))

              have HS7 := hide (HS6.out.swap.later (below_dNU (Below.refl _ _) nq))
              have HE7 := hide HEN.out.up
              clear HH HS6 HEN y2 y3
              go_wp2_with fail
              go_roundw
              case rel => exact ⟨k + 1, _, _, _, _, L, HLT.out, congrArg (Value.int .i64) wk, (by simpa only [List.length_map] using HS7), HE7⟩
              case measure => first | exact meas_up HLT.out | (rw [wk]; exact meas_up HLT.out)
          · have hin : ∀ q ∈ L, q.id ≠ p.id := fun q hq e => hin ⟨q, hq, e⟩
            as_aux_lemma =>
              have HIN := hide hin
              have HP1 := hide (HS9.out.put_nw HEN.out HLT.out HEL.out HP.out (HP.out.rm.later HS9.out.s.bl) HP.out.kl HP.out.kk (fun k => Iff.rfl) hin)
              unfold Oq.kv at HP1
              clear hin
              go_wp2_with fail
              go_region_held3 (fun W => W.cell? ⟨sb, soff + k * 4 + 2, none⟩ = some (.int .i64 p.id) ∧ W.cell? ⟨sb, soff + k * 4 + 3, none⟩ = some (.slice p.ka p.ks.length p.kc)) (go_keep) (first
                | (go_at_call 8; refine HP1.out.mono ?_; rintro r w4 ⟨rfl, O1', Z1', HS4, HR1⟩; obtain ⟨y2, y3⟩ := HC.out w4 HS4.out.s.bl))
              clear HP1 c2 c3 d2 d3 HS9
              have HTU0 := turn_any p.kv p.ks w4 (HP.out.rm.later HS4.out.s.bl) HPL.out
              unfold Oq.kv at HTU0
              have HTU := hide HTU0
              clear HTU0
              go_wp2_with fail
              refine HTU.out.mono ?_
              rintro r w5 ⟨v5, rfl, o5, b5⟩
              have HS5 := hide (HS4.out.later b5)
              have HP2 := hide (HS5.out.swap.put_nw HEN.out.swap HLT.out HEL.out HP.out (KY.OM.rm o5) (by have := trn_len p.ks; have := HPL.out; omega) (fun k hk => HP.out.kk k (mem_trn.1 hk)) (fun k => mem_trn) HIN.out)
              obtain ⟨a5, cc5, hv5⟩ := KY.OM.slice o5
              subst hv5
              obtain ⟨x2, x3⟩ := HC.out w5 HS5.out.s.bl
              clear o5 b5 HTU HS4 y2 y3
              obtain ⟨n5, hn5⟩ : ∃ n5, (trn p.ks).length = n5 := ⟨_, rfl⟩
              rw [hn5] at HP2 ⊢
              clear hn5
              go_wp2_with fail
              refine HP2.out.mono ?_
              rintro r w6 ⟨rfl, O2', Z2', HS6, HR2⟩
              obtain ⟨y2, y3⟩ := HC.out w6 HS6.out.s.bl
              have HH : Hid (∀ n, Calls Try.prog 20 #[.slice ia L.length ic', .int .i64 p.id] (w6.drewN n) fun e w' => e = .returned (.bool false) ∧ w' = w6.drewN n) := hide (fun n => has_any _ w.heap.size (L.map (·.id)) p.id _ (HS6.out.later (below_dNU (Below.refl _ _) n)).ki (by rw [List.length_map]; exact HIL.out) false (decide_eq_false (fun h => by obtain ⟨q, hq, hi⟩ := List.mem_map.1 h; exact HIN.out q hq hi)).symm)
              have eb := eqNil
              have eg := egNilU
              clear x2 x3 HP2 HS5
              go_wp2_with fail
              go_quiet (first
                | (go_at_call 19; exact Calls.quiet_of_same (num_nil _))
                | (go_at_call 20; exact Calls.quiet_of_same (HH.out _)))

              have HS7 := hide (HS6.out.swap.later (below_dNU (Below.refl _ _) nq))
              have HE7 := hide (HEN.out.put HP.out HR1.out.1 HR2.out.1 HR1.out.2.1 HR2.out.2.1 HR1.out.2.2 HR2.out.2.2)
              obtain ⟨w7, hw7⟩ : ∃ w7, w6.drewN nq = w7 := ⟨_, rfl⟩
              rw [hw7] at HS7 ⊢
              obtain ⟨z2, z3⟩ := HC.out w7 HS7.out.s.bl
              obtain ⟨it0, hit, hz0, hz1, hz2⟩ := info_parts Try.infoI
              obtain ⟨it1, hit1, hy0, hy1, hy2⟩ := info_parts Try.infoSl
              have HO : Hid (w7.ownsRow w.heap.size 3 1 (.slice ia L.length ic') L.length (ic (L.map (·.id)))) := hide (by have := HS7.out.ki; unfold OI at this; simpa only [List.length_map] using this)
              have H63 : Hid (L.length + 1 ≤ 3000000000001) := hide (by have := HEN.out.ln; have := HLT.out; have := HEL.out; omega)
              have HBS : Hid (w.heap.size ≤ w7.heap.size) := hide HS7.out.s.bl.size
              clear HH HS6 HEN y2 y3 hw7 HR1 HR2 HIN
              go_wp2_with (first
                | (at_builtin; refine wpList_append_own_at _ rfl _ _ 47 rfl w.heap.size 3 it0 (.int .i64 0) 1 8 Try.underlying47 hit hz0 hz1 hz2 rfl (by decide) _ _ _ rfl (HO.out.alloc _) ⟨_, 0, none⟩ 1 1 [.int .i64 p.id] rfl rfl ?c1 ?c2 ?c3 ?c4 ?c5 ?_))
              case c3 => have := H63.out; unfold maxLen; omega
              case c4 => have := H63.out; omega
              case c5 => have := HBS.out; simp; omega
              case c1 => first | exact cell_one_new _ _ _ | exact fun j u hj => by rw [Addr.add_lit, cell_of_row _ _ _ _ _ _ (alloc_new w7 _), Nat.zero_add]; simpa using hj
              case c2 => first | rfl | exact ⟨rfl, trivial⟩ | (intro u hu; simp at hu; subst hu; rfl)
              intro v8 w8 hown8 hgrow8 _ hat8
              have HS8 := hide ((HS7.out.later ((Below.refl _ _).alloc (Nat.le_refl _) _)).appI (IL' := (L ++ [knO p]).map (·.id)) (by
                unfold OI
                rw [List.length_map, List.length_append, List.map_append, ic_app]; exact hown8) hgrow8 (hat8.imp_right (fun e => by rw [e]; simp)))
              obtain ⟨u2, u3⟩ := HC.out w8 HS8.out.s.bl
              obtain ⟨a8, c8, hv8⟩ := HS8.out.ki.slc
              rw [List.length_map] at hv8
              subst hv8
              have HO2 : Hid (w8.ownsRow w.heap.size 27 1 (.slice sa L.length sc) L.length (L.map Kn.kv)) := hide (by have := HS8.out.ks; unfold OSl at this; simpa only [List.length_map] using this)
              have HBS8 : Hid (w.heap.size ≤ w8.heap.size) := hide HS8.out.s.bl.size
              obtain ⟨n8, hn8⟩ : ∃ n8, (L ++ [knO p]).length = n8 := ⟨_, rfl⟩
              have HN8 := hide hn8
              rw [hn8]
              clear hown8 hgrow8 hat8 HO HBS z2 z3 HS7 hn8 hit hz0 hz1 hz2
              go_wp2_with (first
                | (at_builtin; refine wpList_append_own_at _ rfl _ _ 46 rfl w.heap.size 27 it1 (.slice none 0 0) 1 24 Try.underlying46 hit1 hy0 hy1 hy2 rfl (by decide) _ _ _ rfl (HO2.out.alloc _) ⟨_, 0, none⟩ 1 1 [.slice p.ka p.ks.length p.kc] rfl rfl ?e1 ?e2 ?e3 ?e4 ?e5 ?_))
              case e3 => have := H63.out; unfold maxLen; omega
              case e4 => have := H63.out; omega
              case e5 => have := HBS8.out; simp; omega
              case e1 => first | exact cell_one_new _ _ _ | exact fun j u hj => by rw [Addr.add_lit, cell_of_row _ _ _ _ _ _ (alloc_new w8 _), Nat.zero_add]; simpa using hj
              case e2 => first | rfl | exact ⟨rfl, trivial⟩ | (intro u hu; simp at hu; subst hu; rfl)
              intro v9 w9 hown9 hgrow9 _ hat9
              have HSE := hide ((HS8.out.later ((Below.refl _ _).alloc (Nat.le_refl _) _)).appS (SL' := (L ++ [knO p]).map Kn.kv) (by
                unfold OSl
                rw [List.length_map, List.length_append, List.map_append]; exact hown9) hgrow9 (hat9.imp_right (fun e => by rw [e]; simp)))
              obtain ⟨a9, c9, hv9⟩ := HSE.out.ks.slc
              rw [List.length_map, HN8.out] at hv9
              subst hv9
              have HSF := hide (show SS _ _ _ _ _ _ _ _ _ (.slice a8 n8 c8) _ _ _ _ from by rw [← HN8.out]; exact HSE.out)
              clear hown9 hgrow9 hat9 HO2 HBS8 u2 u3 HS8 HSE hit1 hy0 hy1 hy2
              go_wp2_with fail
              go_roundw
              case rel => exact ⟨k + 1, _, _, _, _, L ++ [knO p], HLT.out, congrArg (Value.int .i64) wk, HSF, HE7⟩
              case measure => first | exact meas_up HLT.out | (rw [wk]; exact meas_up HLT.out)
        · have e : k = E.length := by omega
          subst e
          have HIL : Hid (L.length ≤ 8796093022000) := hide (by have := HEN.out.ln; have := HEL.out; omega)
          have H10 : Hid (Z1.Rd = []) := hide (HEN.out.r1.fresh HSS.out.s.a.ok HEN.out.fr)
          have H20 : Hid (Z2.Rd = []) := hide (HEN.out.r2.fresh HSS.out.s.b.ok HEN.out.fr)
          have HR0 : Hid (Rel (RZ Z1) Z1.A (L.map (tch (flt T 0)))) := hide (by rw [flt_zero, show (tch []) = id from funext tch_nil, List.map_id]; exact HEN.out.r1)
          clear hk hlt
          go_wp2_with fail
          go_loopw [15, 16] (fun s i wr => ∃ (k : Nat) (O1 : Nat → Prop) (Z1 : Qx), k ≤ T.length ∧ i = .int .i64 (k : Int) ∧ s = .int .i64 (Z1.Rd.length : Int) ∧ Hid (SS w wr q1 q2 O1 O2 Z1 Z2 (.slice la AL.length lc) (.slice ia L.length ic') (.slice sa L.length sc) AL (L.map (·.id)) (L.map Kn.kv)) ∧ Hid (Rel (RZ Z1) Z1.A (L.map (tch (flt T k))))) (fun _ i _ => T.length - (intOf i).toNat)
          case atStart => exact ⟨0, O1, Z1, Nat.zero_le _, rfl, by rw [H10.out]; rfl, HSS, HR0⟩
          case round =>
            have HR2 := hide HEN.out.r2
            have HFR := hide HEN.out.fr
            have HKN := hide HEN.out.kn
            clear HSS HR0 H10 HEN
            obtain ⟨k, O1, Z1, hk, rfl, rfl, HSS, HR1⟩ := hrel
            by_cases hlt : k < T.length
            · skip
              as_aux_lemma =>
                obtain ⟨p, hp⟩ : ∃ p, T[k]? = some p := ⟨_, List.getElem?_eq_getElem hlt⟩
                obtain ⟨tb, toff, ha, htl, htc⟩ := HTS.out.resolve_left (fun h => by rw [h] at hlt; simp at hlt)
                have c0 := (HSS.out.s.bl.cell (p := ⟨tb, _, none⟩) htl).trans (htc k p hp)
                unfold Kr.kv at c0
                subst ha
                have HP := hide (HKR.out p (List.mem_of_getElem? hp))
                obtain ⟨hd1, i0, i1, wk⟩ := ix hlt HTL.out
                have HTC0 := HSS.out.touch HR1.out (v := p.kv) (K := p.ks) (HP.out.rm.later HSS.out.s.bl) (by have := HP.out.kl; omega) HP.out.kk (fun h0 g hg hO => by have := rm_obU HP.out.rm h0 g hg; have := HSS.out.s.oa g hO; omega)
                unfold Kr.kv at HTC0
                have HTC := hide HTC0
                have HFL := hide (flt_step hp)
                have HLT := hide hlt
                clear HTC0 htc hp htl hk hlt
                go_wp2_with fail
                refine HTC.out.mono ?_
                rintro r w4 ⟨O1', Z1', rfl, HS4, HR4⟩
                obtain ⟨N, hN, hw⟩ := sum_nums Z1.Rd.length Z1'.Rd.length HSS.out.s.a.ok.o.rlen HS4.out.s.a.ok.o.rlen
                rw [hN]
                have HR5 : Hid (Rel (RZ Z1') Z1'.A (L.map (tch (flt T (k + 1))))) := hide (by
                  have := HR4.out
                  rw [List.map_map, show (tch p.ks) ∘ (tch (flt T k)) = tch (flt T (k + 1)) from funext (fun q => by rw [HFL.out]; exact tch_tch _ _ q)] at this
                  exact this)
                clear hN HTC HSS HR1 HR4 c0
                go_wp2_with fail
                go_roundw
                case rel => exact ⟨k + 1, O1', Z1', HLT.out, congrArg (Value.int .i64) wk, congrArg (Value.int .i64) hw, HS4, HR5⟩
                case measure => first | exact meas_up HLT.out | (rw [wk]; exact meas_up HLT.out)
            · have e : k = T.length := by omega
              subst e
              have HR1' : Hid (Rel (RZ Z1) Z1.A (L.map (tch AL))) := hide (by rw [HA.out]; exact HR1.out)
              have HTU := hide (turn_any (.slice la AL.length lc) AL wr (KY.OM.rm HSS.out.ka) (by have := HAL.out; omega))
              clear HR1 hk hlt
              go_wp2_with fail
              refine HTU.out.mono ?_
              rintro r w5 ⟨v5, rfl, o5, b5⟩
              have HS5 := hide (HSS.out.later b5)
              have HT5 := hide (HS5.out.swap.touch HR2.out (KY.OM.rm o5) (by have := trn_len AL; have := HAL.out; omega) (fun k hk => HAK.out k (mem_trn.1 hk)) (fun h0 g hg hO => by have := (World.ownsRow.lt o5 g hg).1; have := HSS.out.s.b.lt g hO; omega))
              obtain ⟨a5, cc5, hv5⟩ := KY.OM.slice o5
              subst hv5
              obtain ⟨n5, hn5⟩ : ∃ n5, (trn AL).length = n5 := ⟨_, rfl⟩
              rw [hn5] at HT5 ⊢
              clear hn5 o5 b5 HTU HSS HR2
              go_wp2_with fail
              refine HT5.out.mono ?_
              rintro r w6 ⟨O2', Z2', rfl, HS6, HR6⟩
              have HR2' : Hid (Rel (RZ Z2') Z2'.A (L.map (tch AL))) := hide (by rw [← tch_trn]; exact HR6.out)
              have hNN : (Z2'.Rd.length : Int) - (Z2.Rd.length : Int) = (Z1.Rd.length : Int) := by
                rw [H20.out, HR1'.out.rdn HS5.out.s.a.ok, HR2'.out.rdn HS6.out.s.a.ok]; simp
              rw [hNN]
              obtain ⟨M, hM⟩ : ∃ M, L.map (tch AL) = M := ⟨_, rfl⟩
              have HML : Hid (M.length = L.length) := hide (by rw [← hM, List.length_map])
              have HMA : Hid (∀ k p, L[k]? = some p → M[k]? = some (tch AL p)) := hide (fun k p h => by rw [← hM, List.getElem?_map, h]; rfl)
              rw [hM] at HR1' HR2'
              have HS7 := hide HS6.out.swap
              have hLF : (Z1.Rd.length : Int) = (left M 0 : Int) := by rw [HR1'.out.rdn HS5.out.s.a.ok]; unfold left; simp
              rw [hLF]
              have HZ1 : Hid (Rel (RZ Z1) Z1.A (tkL M 0)) := hide (by rw [tkL_zero]; exact HR1'.out)
              have HZ2 : Hid (Rel (RZ Z2') Z2'.A (tkL M 0)) := hide (by rw [tkL_zero]; exact HR2'.out)
              clear hNN hM hLF HT5 HS5 HS6 HR6 HR1' HR2' H20
              go_wp2_with fail
              go_loopw [15, 17] (fun s i wr => ∃ (k : Nat) (O1 O2 : Nat → Prop) (Z1 Z2 : Qx), k ≤ L.length ∧ i = .int .i64 (k : Int) ∧ s = .int .i64 (left M k : Int) ∧ Hid (SS w wr q1 q2 O1 O2 Z1 Z2 (.slice la AL.length lc) (.slice ia L.length ic') (.slice sa L.length sc) AL (L.map (·.id)) (L.map Kn.kv)) ∧ Hid (Rel (RZ Z1) Z1.A (tkL M k)) ∧ Hid (Rel (RZ Z2) Z2.A (tkL M k))) (fun _ i _ => L.length - (intOf i).toNat)
              case atStart => exact ⟨0, _, _, _, _, Nat.zero_le _, rfl, rfl, HS7, HZ1, HZ2⟩
              case round =>
                clear HS7 HZ1 HZ2
                obtain ⟨k, O1, O2, Z1, Z2, hk, rfl, rfl, HSS, HR1, HR2⟩ := hrel
                by_cases hlt : k < L.length
                · skip
                  as_aux_lemma =>
                    obtain ⟨p, hp⟩ : ∃ p, L[k]? = some p := ⟨_, List.getElem?_eq_getElem hlt⟩
                    have HPM := hide (HMA.out k p hp)
                    have HFP := hide (HFR.out p (List.mem_of_getElem? hp))
                    have HKP := hide (HKN.out p (List.mem_of_getElem? hp))
                    obtain ⟨gs, hgs, hgc⟩ : ∃ g, sa = some ⟨g, 0, none⟩ ∧ ∀ W, OSl W w.heap.size (.slice sa L.length sc) (L.map Kn.kv) → W.cell? ⟨g, k, none⟩ = some p.kv := by
                      rcases HSS.out.ks.cel with ⟨h0, h1⟩ | ⟨g, cap, h0, _, _⟩
                      · have h1 : L = [] := by simpa using h1
                        rw [h1] at hlt; simp at hlt
                      · injection h0 with h0 _ _
                        refine ⟨g, h0, fun W hW => ?_⟩
                        rcases hW.cel with ⟨h1, h2⟩ | ⟨g', cap', h1, _, h2⟩
                        · have h2 : L = [] := by simpa using h2
                          rw [h2] at hlt; simp at hlt
                        · injection h1 with h1 _ _
                          rw [h0] at h1
                          injection h1 with h1; injection h1 with h1 _ _
                          rw [h1]; exact h2 k _ (by rw [List.getElem?_map, hp]; rfl)
                    obtain ⟨gi, hgi, hic⟩ : ∃ g, ia = some ⟨g, 0, none⟩ ∧ ∀ W, OI W w.heap.size (.slice ia L.length ic') (L.map (·.id)) → W.cell? ⟨g, k, none⟩ = some (.int .i64 p.id) := by
                      rcases HSS.out.ki.cel with ⟨h0, h1⟩ | ⟨g, cap, h0, _, _⟩
                      · have h1 : L = [] := by simpa using h1
                        rw [h1] at hlt; simp at hlt
                      · injection h0 with h0 _ _
                        refine ⟨g, h0, fun W hW => ?_⟩
                        rcases hW.cel with ⟨h1, h2⟩ | ⟨g', cap', h1, _, h2⟩
                        · have h2 : L = [] := by simpa using h2
                          rw [h2] at hlt; simp at hlt
                        · injection h1 with h1 _ _
                          rw [h0] at h1
                          injection h1 with h1; injection h1 with h1 _ _
                          rw [h1]; exact h2 k _ (by rw [List.getElem?_map, hp]; rfl)
                    have HGC := hide hgc
                    have HIC := hide hic
                    subst hgs hgi
                    have c0 := HGC.out wr HSS.out.ks
                    unfold Kn.kv at c0
                    obtain ⟨hd1, i0, i1, wk⟩ := ix hlt HIL.out
                    have HME0 := meets_any p.kv (.slice la AL.length lc) p.ks AL wr (HKP.out.1.later HSS.out.s.bl) (KY.OM.rm HSS.out.ka) HKP.out.2 (by have := HAL.out; omega)
                    unfold Kn.kv at HME0
                    have HME := hide HME0
                    have HLT := hide hlt
                    clear HME0 hgc hic hp hk hlt
                    go_wp2_with fail
                    refine HME.out.mono ?_
                    rintro r w4 ⟨rfl, b4⟩
                    have HS4 := hide (HSS.out.later b4)
                    obtain ⟨mb, hmb⟩ : ∃ mb, meetsB p.ks AL = mb := ⟨_, rfl⟩
                    rw [hmb]
                    have HMB := hide hmb
                    clear hmb b4 HSS HME c0
                    cases mb with
                    | false =>
                      have HD : Hid ((tch AL p).d = false) := hide (by unfold tch; dsimp only; rw [HFP.out.1, HMB.out]; rfl)
                      have HL4 := hide (left_no HPM.out (by unfold rdy; rw [HD.out]; rfl))
                      rw [HL4.out]
                      have HR1' : Hid (Rel (RZ Z1) Z1.A (tkL M (k + 1))) := hide (by rw [tkL_no HPM.out HD.out]; exact HR1.out)
                      have HR2' : Hid (Rel (RZ Z2) Z2.A (tkL M (k + 1))) := hide (by rw [tkL_no HPM.out HD.out]; exact HR2.out)
                      clear HR1 HR2
                      go_wp2_with fail
                      go_roundw
                      case rel => exact ⟨k + 1, _, _, _, _, HLT.out, congrArg (Value.int .i64) wk, rfl, HS4, HR1', HR2'⟩
                      case measure => first | exact meas_up HLT.out | (rw [wk]; exact meas_up HLT.out)
                    | true =>
                      have HD : Hid ((tch AL p).d = true) := hide (by unfold tch; dsimp only; rw [HFP.out.1, HMB.out]; rfl)
                      have HO : Hid ((tch AL p).o = false) := hide HFP.out.2
                      have HL4 := hide (left_yes HPM.out (by unfold rdy; rw [HD.out, HO.out]; rfl))
                      rw [HL4.out]
                      have hwd := dec_nums (left M (k + 1)) (by have := left_le M (k + 1); have := HML.out; have := HIL.out; omega)
                      have HTK := hide (HS4.out.take HR1.out HPM.out HD.out HO.out)
                      have HPI : Hid ((tch AL p).id = p.id) := hide rfl
                      rw [HPI.out] at HTK
                      obtain ⟨lf, hlf⟩ : ∃ lf : Int, ((left M (k + 1) + 1 : Nat) : Int) = lf := ⟨_, rfl⟩
                      rw [hlf] at hwd ⊢
                      clear hlf
                      go_wp2_with fail
                      refine HTK.out.mono ?_
                      rintro r w5 ⟨rfl, O1', Z1', HS5, HR1'⟩
                      have HTK2 := hide (HS5.out.swap.take HR2.out HPM.out HD.out HO.out)
                      rw [HPI.out] at HTK2
                      clear HTK HS4 HR1
                      go_wp2_with fail
                      refine HTK2.out.mono ?_
                      rintro r w6 ⟨rfl, O2', Z2', HS6, HR2'⟩
                      have HS7 := hide HS6.out.swap
                      have c0 := HIC.out w6 HS7.out.ki
                      clear HTK2 HS5 HS6 HR2
                      go_wp2_with fail
                      go_roundw
                      case rel => exact ⟨k + 1, _, _, _, _, HLT.out, congrArg (Value.int .i64) wk, congrArg (Value.int .i64) hwd, HS7, HR1', HR2'⟩
                      case measure => first | exact meas_up HLT.out | (rw [wk]; exact meas_up HLT.out)
                · skip
                  as_aux_lemma =>
                    have e : k = L.length := by omega
                    subst e
                    have e0 : (left M L.length : Int) = 0 := by rw [← HML.out, left_end]; rfl
                    rw [e0]
                    have HR1' : Hid (Rel (RZ Z1) Z1.A (tkL M M.length)) := hide (by rw [HML.out]; exact HR1.out)
                    have HR2' : Hid (Rel (RZ Z2) Z2.A (tkL M M.length)) := hide (by rw [HML.out]; exact HR2.out)
                    have HTK := hide (HSS.out.take0 HR1'.out)
                    clear hk hlt e0 HR1 HR2
                    go_wp2_with fail
                    refine HTK.out.mono ?_
                    rintro r w5 ⟨rfl, O1', HS5⟩
                    have HTK2 := hide (HS5.out.swap.take0 HR2'.out)
                    clear HTK HSS HR1'
                    go_wp2_with fail
                    refine HTK2.out.mono ?_
                    rintro r w6 ⟨rfl, O2', HS6⟩
                    clear HTK2 HS5 HR2'
                    go_wp2_with fail
                    go_ret
                    exact ⟨rfl, HS6.out.s.bl⟩
end Go.Proofs.Ytblldldaoejoaaa
