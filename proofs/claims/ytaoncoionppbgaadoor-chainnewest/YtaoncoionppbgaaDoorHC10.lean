/-
  My own text: the law on the newest version.
-/
import Derived.Test.YtaoncoionppbgaaDoorHC11
import Derived.Test.YtaoncoionppbgaaDoorQT2
import Derived.Test.YtaoncoionppbgaaDoorGr0
namespace Go.Proofs.YtaoncoionppbgaaDoor
open Go.RowKit Go.Shelf

attribute [local go_sem] Oper.semAt_some

theorem resCell1 {fn : Func} {p : Tmp} {ty : TypeId} (h : fn.results = #[.cell p ty]) (tmps : Array Value) (P : Program) (w : World) :
    (results fn tmps).run P w = ((asAddr (tmps.getD p undef)).run P w).andThen fun a w₁ => (loadVar ty a).run P w₁ := by
  simp only [results, h]
  simp [Sem.run_bind, Result.andThen]
set_option maxRecDepth 100000 in
set_option maxHeartbeats 4000000 in
theorem newest_in (v : Value) (ps : List Ac) (n : Int) (w : World) (hv : RAc w v ps) (hlen : ps.length ≤ 5864062014804) (hN : ∀ p ∈ ps, p.2.1 ≤ 9223372036854775807) (HE : Hid (ErrType w)) :
    CallsIn Fence.wide 9 Tryd.prog 6 #[v, .int .i64 n] w fun e w' => e = .returned (.bool true) ∧ Below w.heap.size w w' := by
  obtain ⟨pa, pcap, rfl, hpc⟩ := hv
  have HPC := hide hpc
  have HMX := hide hN
  have HLN := hide hlen
  have HNW := hide (fun W : World => new_any W)
  have HWK := hide (fun (W : World) (h : ErrType W) => works_any W (hide h))
  clear hpc hN hlen
  refine callsIn_of_wp_marks Tryd.func6 rfl trivial ?_ rfl
  simp only [Tryd.ntmps6, List.size_toArray, List.length_cons, List.length_nil, Nat.reduceAdd, Nat.reduceSub, Array.replicate_succ, Array.replicate_zero, List.push_toArray, List.append_toArray, List.nil_append, List.cons_append]
  refine wpIn_wide.2 ?_
  have RB := hide (Box.new w 4 (.bool false))
  have B0 := hide ((Below.refl w.heap.size w).alloc (Nat.le_refl _) (.cells #[.bool false] 4))
  go_wp2_with fail
  refine (HNW.out _).mono ?_
  rintro e w1 ⟨rfl, hC, hb⟩
  have C1 := hide hC
  have B1 := hide (B0.out.trans (hb.mono B0.out.size))
  have R1 := hide (RB.out.later hb)
  have S1 := hide hb.size
  clear hC hb RB
  generalize hcb : (w.alloc (.cells #[.bool false] 4)).heap.size = cb at *
  have HCB : Hid (cb = w.heap.size + 1) := hide (by rw [← hcb]; simp)
  clear B0 hcb
  have A2 := hide ((Below.refl w1.heap.size w1).alloc (Nat.le_refl _) (.cells #[.pointer (some ⟨cb, 0, none⟩)] 23))
  have X2 := hide (Box.new w1 23 (.pointer (some ⟨cb, 0, none⟩)))
  have HCL : Hid (cb < w1.heap.size) := hide C1.out.lt
  have x2 := X2.out.cell
  go_wp2_with fail
  refine (HWK.out _ (HE.out.below (B1.out.trans (A2.out.mono B1.out.size)))).mono ?_
  rintro e w3 ⟨rfl, hb⟩
  have X3 := hide (X2.out.later hb)
  have R3 := hide ((R1.out.later A2.out).later hb)
  have C3 := hide ((C1.out.later A2.out).later hb)
  have B3 := hide ((B1.out.trans (A2.out.mono B1.out.size)).trans (hb.mono (Nat.le_trans B1.out.size A2.out.size)))
  have HZ3 : Hid (w1.heap.size < w3.heap.size) := hide X3.out.lt
  clear hb x2 X2 R1 C1 B1 A2 HWK HNW
  obtain ⟨bx, hbx⟩ : ∃ bx, bx = w1.heap.size := ⟨_, rfl⟩
  rw [← hbx] at X3 HCL HZ3 ⊢
  clear hbx S1
  have N4 := hide (Box.new w3 3 (.int .i64 0))
  have A4 := hide ((Below.refl w3.heap.size w3).alloc (Nat.le_refl _) (.cells #[.int .i64 0] 3))
  go_wp2_with fail
  have LS4 : Hid (LS w (w3.alloc (.cells #[.int .i64 0] 3)) w.heap.size bx w3.heap.size cb cb []) := hide ⟨R3.out.later A4.out, X3.out.later A4.out, N4.out, C3.out.later A4.out, B3.out.trans (A4.out.mono B3.out.size), by
    have := HCB.out; have := HCL.out; have := HZ3.out; have := B3.out.size; omega⟩
  obtain ⟨bn, hbn⟩ : ∃ bn, bn = w3.heap.size := ⟨_, rfl⟩
  rw [← hbn] at LS4 ⊢
  clear N4 A4 X3 R3 C3 B3 HZ3 HCL
  generalize w3.alloc (.cells #[.int .i64 0] 3) = W4 at *
  clear hbn
  go_loopw [6, 7, 9] (fun la be i wr => ∃ (k : Nat) (L : List Ver) (last best : Int), k ≤ ps.length ∧ i = .int .i64 (k : Int) ∧ la = .int .i64 last ∧ be = .int .i64 best ∧ Hid (NS n ps k L last best) ∧ Hid (LS w wr w.heap.size bx bn cb cb L)) (fun _ _ i _ => ps.length - (intOf i).toNat)
  case atStart => exact ⟨0, [], -1, -1, Nat.zero_le _, rfl, rfl, rfl, hide (NS.start n ps), LS4⟩
  case round =>
    clear LS4
    obtain ⟨k, L, last, best, hk, rfl, rfl, rfl, HNS, HLS⟩ := hrel
    by_cases hlt : k < ps.length
    · obtain ⟨⟨pr, N, V⟩, hp⟩ : ∃ p, ps[k]? = some p := ⟨_, List.getElem?_eq_getElem hlt⟩
      obtain ⟨g, off, rfl, _, q1, q2⟩ := HPC.out k _ hp
      have hd1 : decide ((k : Int) < (ps.length : Int)) = true := by rw [decide_eq_true_eq]; omega
      have k0 : (0 : Int) ≤ (k : Int) := by omega
      have k1 : (k : Int) < (ps.length : Int) := by omega
      have HP := hide hp
      have HQ1 := hide q1
      have HQ2 := hide q2
      dsimp only at HQ1 HQ2
      have HMN : Hid (N ≤ 9223372036854775807) := hide (HMX.out _ (List.mem_of_getElem? hp))
      have hln := HLN.out
      have HLL : Hid (L.length ≤ 5864062014804) := hide (by have := HNS.out.len; omega)
      clear hp q1 q2 hln
      have HX0 := hide ((Below.refl wr.heap.size wr).drew)
      haveI : Nonempty (Gr wr) := ⟨⟨_, HX0.out⟩⟩
      have z0 : ∀ x : Gr wr, x.1.cell? ⟨bx, 0, none⟩ = some (.pointer (some ⟨cb, 0, none⟩)) := fun x => (HLS.out.box.later x.2).cell
      have z1 : ∀ x : Gr wr, x.1.cell? ⟨g, off + k * 3 + 1, none⟩ = some (.int .i64 N) := fun x => ((HLS.out.later x.2).low.cell (World.block_lt_of_cell? _ _ HQ1.out)).trans HQ1.out
      have z2 : ∀ x : Gr wr, x.1.cell? ⟨g, off + k * 3 + 2, none⟩ = some (.string ⟨V.toArray⟩) := fun x => ((HLS.out.later x.2).low.cell (World.block_lt_of_cell? _ _ HQ2.out)).trans HQ2.out
      go_wp2_with fail
      refine region_qtails (C := fun w' => ∃ x : Gr wr, w' = x.1) 11 1 rfl (by kernel_rfl) (by kernel_rfl) ⟨⟨_, HX0.out⟩, rfl⟩ ?_
      simp only [List.take_succ_cons, List.take_zero, List.drop_succ_cons, List.drop_zero]
      repeat (first
        | go_big_quiet_skip
        | (go_big_quiet_want; (go_big_quiet_op; go_big_quiet_on)))
      refine wpQuiet_nil ?_
      rintro w5 ⟨x, rfl⟩
      obtain ⟨w5, hx⟩ := x
      dsimp only
      have HLS5 := hide (HLS.out.later hx)
      clear HX0 this z0 z1 z2 hx HLS
      go_wp2_with fail
      have HLS5' := HLS5.out
      by_cases hNL : last < N
      · have hy := HNS.out.yes hNL
        have HNP := hide (HNS.out.put hNL HMN.out HP.out)
        refine (put_yes N V cb cb L w5 HLS5'.ch HNS.out.ris HNS.out.max HLL.out hy.1 hy.2).mono ?_
        rintro e w6 ⟨rfl, hc, hf⟩
        have hbl : Below w.heap.size w w6 := HLS5'.low.trans ((hf.below HLS5'.ch).mono HLS5'.ne.2.2.2.2.2.2)
        have HL6 := hide (HLS5'.put hc hf)
        have q6 : w6.cell? ⟨g, off + k * 3 + 1, none⟩ = some (.int .i64 N) := (hbl.cell (World.block_lt_of_cell? _ _ HQ1.out)).trans HQ1.out
        have n6 := hf.box HLS5'.ch HLS5'.cnt (by decide) HLS5'.ne.2.2.1
        have c6 := n6.cell
        have f6 := n6.frozen
        have d1 : decide (last < N) = true := decide_eq_true hNL
        have w64 : wrap64 ((L.length : Int) + 1) = (L.length : Int) + 1 := by have := HLL.out; unfold wrap64; omega
        obtain ⟨lc, hlc⟩ : ∃ lc, lc = (L.length : Int) := ⟨_, rfl⟩
        rw [← hlc] at c6 w64 HL6
        have HHL := hide hlc
        have wk : wrap64 ((k : Int) + 1) = (k : Int) + 1 := by have := HLN.out; unfold wrap64; omega
        clear hlc n6 hbl hc hf hy HLS5' HLS5
        by_cases hn : N ≤ n
        · have d2 : decide (N ≤ n) = true := decide_eq_true hn
          rw [if_pos hn] at HNP
          go_wp2_with fail
          go_roundw
          case rel => exact ⟨k + 1, L ++ [(N, V)], N, (k : Int), by omega, by go_num, rfl, rfl, HNP, HL6⟩
          case measure => rw [wk]; simp [intOf]; omega
        · have d2 : decide (N ≤ n) = false := decide_eq_false hn
          rw [if_neg hn] at HNP
          go_wp2_with fail
          go_roundw
          case rel => exact ⟨k + 1, L ++ [(N, V)], N, best, by omega, by go_num, rfl, rfl, HNP, HL6⟩
          case measure => rw [wk]; simp [intOf]; omega
      · have HNP := hide HNS.out.skip
        have hno := put_no N V cb cb L w5 HLS5'.ch HNS.out.ris HNS.out.max (by have := HLL.out; omega) (HNS.out.no (by omega))
        rw [errV_pos (show (1 : Int) ≤ 1 by omega)] at hno
        refine hno.mono ?_
        rintro e w6 ⟨rfl, hb⟩
        have HL6 := hide (HLS5'.later hb)
        have q6 : w6.cell? ⟨g, off + k * 3 + 1, none⟩ = some (.int .i64 N) := (HL6.out.low.cell (World.block_lt_of_cell? _ _ HQ1.out)).trans HQ1.out
        have d1 : decide (last < N) = false := decide_eq_false hNL
        have wk : wrap64 ((k : Int) + 1) = (k : Int) + 1 := by have := HLN.out; unfold wrap64; omega
        clear hb hno HLS5' HLS5
        go_wp2_with fail
        go_roundw
        case rel => exact ⟨k + 1, L, last, best, by omega, by go_num, rfl, rfl, HNP, HL6⟩
        case measure => rw [wk]; simp [intOf]; omega
    · have e : k = ps.length := by omega
      subst e
      have x0 := HLS.out.box.cell
      go_wp2_with fail
      have HLL : Hid (L.length ≤ 5864062014804) := hide (by have := HNS.out.len; have := HLN.out; omega)
      have hbest := HNS.out.best
      rcases hbest with ⟨hb0, rfl⟩ | ⟨b, pr, p, rfl, hbp, j, hb0, hbj⟩
      · clear hk hlt
        refine (at_no n cb cb L wr HLS.out.ch HNS.out.ris (by have := HLL.out; omega) hb0).mono ?_
        rintro e w6 ⟨rfl, hb6⟩
        have HL6 := hide (HLS.out.later hb6)
        clear hb6 HLS x0 hb0
        have HX0 := hide ((Below.refl w6.heap.size w6).drew)
        haveI : Nonempty (Gr w6) := ⟨⟨_, HX0.out⟩⟩
        have z0 : ∀ x : Gr w6, x.1.cell? ⟨bx, 0, none⟩ = some (.pointer (some ⟨cb, 0, none⟩)) := fun x => (HL6.out.box.later x.2).cell
        have z1 : ∀ x : Gr w6, x.1.cell? ⟨bn, 0, none⟩ = some (.int .i64 (L.length : Int)) := fun x => (HL6.out.cnt.later x.2).cell
        have HLE := hide (fun W : Gr w6 => len_any cb cb L W.1 (HL6.out.later W.2).ch)
        go_wp2_with fail
        refine region_class (C := fun w' => ∃ x : Gr w6, w' = x.1) (by kernel_rfl) (by kernel_rfl) ⟨⟨_, HX0.out⟩, rfl⟩ ?_
        repeat (first
          | go_big_quiet_skip
          | (go_big_quiet_want; (go_big_quiet_op; first
              | go_big_quiet_on
              | (apply Exists.intro; refine ⟨fun x => ?_, ?_⟩; (go_at_call 13; exact x.call (HLE.out x)); go_big_quiet_on))))
        refine wpQuiet_nil ?_
        rintro w7 ⟨x, rfl⟩
        obtain ⟨w7, hx⟩ := x
        dsimp only
        have HL7 := hide (HL6.out.later hx)
        clear HX0 this z0 z1 HLE hx HL6
        have h78 : Below w7.heap.size w7 ((w7.alloc (.cells #[.int .i64 (-1)] 3)).alloc (.cells #[.int .i64 0] 3)) := ((Below.refl _ _).alloc (Nat.le_refl _) _).alloc (by simp) _
        have HL8 := hide (HL7.out.later h78)
        have b8 := HL8.out.box.cell
        have AT8 : Hid (Box ((w7.alloc (.cells #[.int .i64 (-1)] 3)).alloc (.cells #[.int .i64 0] 3)) w7.heap.size 3 (.int .i64 (-1))) := hide ((Box.new w7 3 (.int .i64 (-1))).later ((Below.refl _ _).alloc (Nat.le_refl _) _))
        have SE8 : Hid (Box ((w7.alloc (.cells #[.int .i64 (-1)] 3)).alloc (.cells #[.int .i64 0] 3)) (w7.heap.size + 1) 3 (.int .i64 0)) := hide (by have h := Box.new (w7.alloc (.cells #[.int .i64 (-1)] 3)) 3 (.int .i64 0); rw [World.size_alloc] at h; exact h)
        clear h78
        go_wp2_with fail
        refine (all_any cb _).mono ?_
        rintro e w9 ⟨rfl, rfl⟩
        have HZ8 : Hid (((w7.alloc (.cells #[.int .i64 (-1)] 3)).alloc (.cells #[.int .i64 0] 3)).heap.size = w7.heap.size + 1 + 1) := hide (by simp)
        have AB := hide HL7.out.box.lt
        have AN := hide HL7.out.cnt.lt
        have AR := hide HL7.out.res.lt
        have AC := hide HL7.out.ch.lt
        have AW := hide HL7.out.low.size
        clear b8 HL7
        generalize ((w7.alloc (.cells #[.int .i64 (-1)] 3)).alloc (.cells #[.int .i64 0] 3)) = W8 at *
        obtain ⟨bat, hbat⟩ : ∃ bat, bat = w7.heap.size := ⟨_, rfl⟩
        rw [← hbat] at HZ8 AB AN AR AC AW AT8 SE8 ⊢
        clear hbat
        obtain ⟨bse, hbse⟩ : ∃ bse, bse = bat + 1 := ⟨_, rfl⟩
        rw [← hbse] at HZ8 SE8 ⊢
        have HSB := hide hbse
        clear hbse
        have A9 := hide ((Below.refl W8.heap.size W8).alloc (Nat.le_refl _) (.cells #[.pointer (some ⟨cb, 0, none⟩)] 23))
        have BC9 := hide (Box.new W8 23 (.pointer (some ⟨cb, 0, none⟩)))
        have LS9 := hide (HL8.out.later A9.out)
        have AT9 := hide (AT8.out.later A9.out)
        have SE9 := hide (SE8.out.later A9.out)
        have HZ9 : Hid ((W8.alloc (.cells #[.pointer (some ⟨cb, 0, none⟩)] 23)).heap.size = W8.heap.size + 1) := hide (by simp)
        obtain ⟨bc, hbc⟩ : ∃ bc, bc = W8.heap.size := ⟨_, rfl⟩
        rw [← hbc] at HZ8 HZ9 BC9 ⊢
        clear hbc HL8 AT8 SE8 A9
        generalize W8.alloc (.cells #[.pointer (some ⟨cb, 0, none⟩)] 23) = W9 at *
        go_wp2_with fail
        have CK9 : Hid (CKn bat bse bc cb L W9) := hide ⟨LS9.out.ch, BC9.out, ⟨_, AT9.out⟩, ⟨_, SE9.out⟩, by have := AC.out; have := HSB.out; have := HZ8.out; omega⟩
        have NEQ : Hid (bat ≠ bse ∧ w.heap.size ≠ bat ∧ w.heap.size ≠ bse ∧ bx ≠ bat ∧ bx ≠ bse ∧ bn ≠ bat ∧ bn ≠ bse ∧ bat ≠ cb ∧ bse ≠ cb ∧ w.heap.size ≤ bat ∧ w.heap.size ≤ bse ∧ bat < W9.heap.size ∧ bse < W9.heap.size ∧ w.heap.size ≤ W9.heap.size) := hide (by have := AC.out; have := HSB.out; have := HZ8.out; have := HZ9.out; have := AB.out; have := AN.out; have := AR.out; have := AW.out; omega)
        have HRI := hide HNS.out.ris
        have HPO := hide HNS.out.pos
        have HLA := hide HNS.out.last
        have HSQ := hide (all_stops 8 (by omega) bc cb cb L (CKn bat bse bc cb L) (KpN bat bse) HRI.out HPO.out (by have := HLL.out; omega) (fun W h => ⟨h.ch, h.bx.cell⟩) (fun _ _ h hb => h.later hb) (fun _ _ h hk => h.kp hk) W9 (fun A C g c hk hg h => hk.2.1 g _ _ _ h (by have := NEQ.out; omega) (by have := NEQ.out; omega)) CK9.out)
        clear HNS HPC
        refine (wpIn_wide (n := 9)).1 ?_
        refine' wpIn_rangeFunc_ownF (F := Fence.wide) (n := 9) rfl (by omega) (gf := 55) (lb := #[.pointer (some ⟨bc, 0, none⟩)]) rfl trivial (enters_of Tryd.func55 (by kernel_rfl) rfl) HSQ.out (fun h k => h.trans k) (fun W l o o' _ h ho _ => KpN.put h ho o') (Below.refl _ _) (fun _ => rfl)
          (fun pre W => LS w W w.heap.size bx bn cb cb L ∧ Box W bat 3 (.int .i64 (lastN (pre.map Subtype.val))) ∧ Box W bse 3 (.int .i64 (pre.length : Int)))
          (fun _ pre _ => ¬ (pre <+: L.attach))
          (fun s A C row hs hg hr => ⟨hs.1.grown hg (fun r e => ⟨Nat.le_trans NEQ.out.2.2.2.2.2.2.2.2.2.2.2.2.2 (hr r e).1, (hr r e).2⟩), grown_cells hg (fun r e => (hr r e).2) hs.2.1, grown_cells hg (fun r e => (hr r e).2) hs.2.2⟩)
          (fun _ _ _ _ _ hs _ _ => hs)
          ⟨LS9.out, AT9.out, SE9.out⟩ _ ?assignA ?bodyA ?doneA ?stopA
        case assignA =>
          intro l x W K hK
          dsimp only [encV]
          gi_wp2
          exact hK
        case bodyA =>
          rintro l pre x W ⟨hI1, hI2, hI3⟩ hpl
          obtain ⟨kx, hkx⟩ : ∃ kx, L[kx]? = some x.1 := List.getElem?_of_mem x.2
          have HAT := hide (at_yes x.1.1 cb cb L kx x.1 W hI1.ch HRI.out (by have := HLL.out; omega) (ab_self L kx x.1 HRI.out hkx) hkx)
          have L0 := hide hI1
          have A0 := hide hI2
          have S0 := hide hI3
          have c0 := hI1.box.cell
          clear hI1 hI2 hI3 hkx
          gi_wp2
          refine ⟨trivial, (CallsIn.inRound l (callsIn_wide.2 HAT.out)).mono ?_⟩
          rintro e W1 ⟨rfl, hb1⟩
          have L1 := hide (L0.out.later hb1)
          have A1 := hide (A0.out.later hb1)
          have S1 := hide (S0.out.later hb1)
          have K1 : Hid (KpN bat bse W W1) := hide (KpN.below hb1)
          have O1 := hide (keeps_of_below hb1)
          clear hb1 c0 L0 A0 S0 HAT
          have a1 := A1.out.cell
          have a2 := A1.out.frozen
          by_cases hle : x.1.1 ≤ lastN (pre.map Subtype.val)
          · have d1 : decide (x.1.1 ≤ lastN (pre.map Subtype.val)) = true := decide_eq_true hle
            have r1 := L1.out.res.cell
            have r2 := L1.out.res.frozen
            gi_wp2
            exact ⟨O1.out.trans (KeepsOthers.setCell _ _ _), fun hp => by have := pre_rise HRI.out HPO.out hp; omega⟩
          · have d1 : decide (x.1.1 ≤ lastN (pre.map Subtype.val)) = false := decide_eq_false hle
            obtain ⟨n1, n2, n3, n4, n5, n6, n7, n8, n9, n10, n11, n12, n13, n14⟩ := NEQ.out
            have L2 := hide (L1.out.setO A1.out n2 n4 n6 n8 n10 (.int .i64 x.1.1))
            have A2 := hide (A1.out.set (.int .i64 x.1.1))
            have S2 := hide (S1.out.other (Ne.symm n1) (.int .i64 x.1.1))
            have K2 := hide (K1.out.trans (KpN.setA n1 A1.out (.int .i64 x.1.1)))
            have O2 := hide (O1.out.trans (KeepsOthers.setCell W1 ⟨bat, 0, none⟩ (.int .i64 x.1.1)))
            obtain ⟨W2, hW2⟩ : ∃ W2, W1.setCell ⟨bat, 0, none⟩ (.int .i64 x.1.1) = W2 := ⟨_, rfl⟩
            rw [hW2] at L2 A2 S2 K2 O2
            have L3 := hide (L2.out.setO S2.out n3 n5 n7 n9 n11 (.int .i64 ((pre.length : Int) + 1)))
            have A3 := hide (A2.out.other n1 (.int .i64 ((pre.length : Int) + 1)))
            have S3 := hide (S2.out.set (.int .i64 ((pre.length : Int) + 1)))
            have K3 := hide (K2.out.trans (KpN.setS n1 S2.out (.int .i64 ((pre.length : Int) + 1))))
            have O3 := hide (O2.out.trans (KeepsOthers.setCell W2 ⟨bse, 0, none⟩ (.int .i64 ((pre.length : Int) + 1))))
            have s2 := S2.out.cell
            have s3 := S2.out.frozen
            obtain ⟨W3, hW3⟩ : ∃ W3, W2.setCell ⟨bse, 0, none⟩ (.int .i64 ((pre.length : Int) + 1)) = W3 := ⟨_, rfl⟩
            rw [hW3] at L3 A3 S3 K3 O3
            have s4 := S3.out.cell
            have c4 := L3.out.cnt.cell
            have wp : wrap64 ((pre.length : Int) + 1) = (pre.length : Int) + 1 := by have := HLL.out; unfold wrap64; omega
            have d2 : decide ((L.length : Int) < (pre.length : Int) + 1) = false := decide_eq_false (by omega)
            clear n1 n2 n3 n4 n5 n6 n7 n8 n9 n10 n11 n12 n13 n14 L1 A1 S1 K1 O1 L2 A2 S2 K2 O2 hle
            gi_wp2
            refine ⟨O3.out, K3.out, L3.out, ?_, ?_⟩
            · rw [List.map_append, List.map_cons, List.map_nil, lastN_snoc]; exact A3.out
            · rw [List.length_append]; exact S3.out
        case doneA =>
          rintro D ys W hD rfl ⟨hI1, hI2, hI3⟩ hK
          rw [List.attach_map_subtype_val, ← HLA.out] at hI2
          rw [List.length_attach] at hI3
          have c1 := hI1.cnt.cell
          have c2 := hI2.cell
          have c3 := hI3.cell
          have r1 := hI1.res.cell
          have r2 := hI1.res.frozen
          have L0 := hide hI1
          have HKD := hide hK
          clear hI1 hI2 hI3 hK
          go_wp2_with fail
          have hK' := (KeepsOthers.setCell W ⟨w.heap.size, 0, none⟩ (.bool true)).same D _ HKD.out rfl
          refine ⟨by simp, .inl ⟨_, _, rfl, run_takeDeferred hK', ?_⟩⟩
          have hc5 := cell_kept (World.cell?_setCell_same' W ⟨w.heap.size, 0, none⟩ (.bool true) (by rw [r1]; rfl)) (grownBy_putObj' _ D (.deferred none)) (fun r e => by cases e; exact ⟨_, hK', rfl⟩)
          refine ⟨.bool true, ?_, rfl, (L0.out.low.setCell (p := ⟨w.heap.size, 0, none⟩) (Nat.le_refl _) _).trans (belowK_b (w := w) (Nat.le_refl _) _ D _ _ (Nat.le_trans NEQ.out.2.2.2.2.2.2.2.2.2.2.2.2.2 hD) hK' rfl rfl)⟩
          rw [resCell1 rfl]
          generalize (W.setCell ⟨w.heap.size, 0, none⟩ (.bool true)).putObj D (.deferred none) = Wx at hc5 ⊢
          show ((asAddr (.pointer (some ⟨w.heap.size, 0, none⟩))).run Tryd.prog Wx).andThen (fun a w₁ => (loadVar 4 a).run Tryd.prog w₁) = .ok (.bool true) Wx
          clear L0 HKD NEQ HSQ CK9 LS9 AT9 SE9 BC9 hK'
          simp [go_sem, hc5]
        case stopA =>
          rintro D c pre W _ hpre h _
          exact absurd hpre h
      · have hbl : b < ps.length := (List.getElem?_eq_some_iff.1 hbp).1
        obtain ⟨g, off, rfl, _, _, q2⟩ := HPC.out b _ hbp
        have HQ2 := hide q2
        dsimp only at HQ2
        clear q2 hk hlt
        refine (at_yes n cb cb L j p wr HLS.out.ch HNS.out.ris (by have := HLL.out; omega) hb0 hbj).mono ?_
        rintro e w6 ⟨rfl, hb6⟩
        have HL6 := hide (HLS.out.later hb6)
        clear hb6 HLS x0 hb0 hbj hbp
        have HX0 := hide ((Below.refl w6.heap.size w6).drew)
        haveI : Nonempty (Gr w6) := ⟨⟨_, HX0.out⟩⟩
        have z0 : ∀ x : Gr w6, x.1.cell? ⟨bx, 0, none⟩ = some (.pointer (some ⟨cb, 0, none⟩)) := fun x => (HL6.out.box.later x.2).cell
        have z1 : ∀ x : Gr w6, x.1.cell? ⟨bn, 0, none⟩ = some (.int .i64 (L.length : Int)) := fun x => (HL6.out.cnt.later x.2).cell
        have z2 : ∀ x : Gr w6, x.1.cell? ⟨g, off + b * 3 + 2, none⟩ = some (.string ⟨p.2.toArray⟩) := fun x => ((HL6.out.later x.2).low.cell (World.block_lt_of_cell? _ _ HQ2.out)).trans HQ2.out
        have d1 : decide (0 ≤ (b : Int)) = true := by rw [decide_eq_true_eq]; omega
        have k0 : (0 : Int) ≤ (b : Int) := by omega
        have k1 : (b : Int) < (ps.length : Int) := by omega
        have HLE := hide (fun W : Gr w6 => len_any cb cb L W.1 (HL6.out.later W.2).ch)
        go_wp2_with fail
        refine region_class (C := fun w' => ∃ x : Gr w6, w' = x.1) (by kernel_rfl) (by kernel_rfl) ⟨⟨_, HX0.out⟩, rfl⟩ ?_
        repeat (first
          | go_big_quiet_skip
          | (go_big_quiet_want; (go_big_quiet_op; first
              | go_big_quiet_on
              | (apply Exists.intro; refine ⟨fun x => ?_, ?_⟩; (go_at_call 13; exact x.call (HLE.out x)); go_big_quiet_on))))
        refine wpQuiet_nil ?_
        rintro w7 ⟨x, rfl⟩
        obtain ⟨w7, hx⟩ := x
        dsimp only
        have HL7 := hide (HL6.out.later hx)
        clear HX0 this z0 z1 HLE hx HL6 z2 d1 k0 k1 hbl HQ2
        have h78 : Below w7.heap.size w7 ((w7.alloc (.cells #[.int .i64 (-1)] 3)).alloc (.cells #[.int .i64 0] 3)) := ((Below.refl _ _).alloc (Nat.le_refl _) _).alloc (by simp) _
        have HL8 := hide (HL7.out.later h78)
        have b8 := HL8.out.box.cell
        have AT8 : Hid (Box ((w7.alloc (.cells #[.int .i64 (-1)] 3)).alloc (.cells #[.int .i64 0] 3)) w7.heap.size 3 (.int .i64 (-1))) := hide ((Box.new w7 3 (.int .i64 (-1))).later ((Below.refl _ _).alloc (Nat.le_refl _) _))
        have SE8 : Hid (Box ((w7.alloc (.cells #[.int .i64 (-1)] 3)).alloc (.cells #[.int .i64 0] 3)) (w7.heap.size + 1) 3 (.int .i64 0)) := hide (by have h := Box.new (w7.alloc (.cells #[.int .i64 (-1)] 3)) 3 (.int .i64 0); rw [World.size_alloc] at h; exact h)
        clear h78
        go_wp2_with fail
        refine (all_any cb _).mono ?_
        rintro e w9 ⟨rfl, rfl⟩
        have HZ8 : Hid (((w7.alloc (.cells #[.int .i64 (-1)] 3)).alloc (.cells #[.int .i64 0] 3)).heap.size = w7.heap.size + 1 + 1) := hide (by simp)
        have AB := hide HL7.out.box.lt
        have AN := hide HL7.out.cnt.lt
        have AR := hide HL7.out.res.lt
        have AC := hide HL7.out.ch.lt
        have AW := hide HL7.out.low.size
        clear b8 HL7
        generalize ((w7.alloc (.cells #[.int .i64 (-1)] 3)).alloc (.cells #[.int .i64 0] 3)) = W8 at *
        obtain ⟨bat, hbat⟩ : ∃ bat, bat = w7.heap.size := ⟨_, rfl⟩
        rw [← hbat] at HZ8 AB AN AR AC AW AT8 SE8 ⊢
        clear hbat
        obtain ⟨bse, hbse⟩ : ∃ bse, bse = bat + 1 := ⟨_, rfl⟩
        rw [← hbse] at HZ8 SE8 ⊢
        have HSB := hide hbse
        clear hbse
        have A9 := hide ((Below.refl W8.heap.size W8).alloc (Nat.le_refl _) (.cells #[.pointer (some ⟨cb, 0, none⟩)] 23))
        have BC9 := hide (Box.new W8 23 (.pointer (some ⟨cb, 0, none⟩)))
        have LS9 := hide (HL8.out.later A9.out)
        have AT9 := hide (AT8.out.later A9.out)
        have SE9 := hide (SE8.out.later A9.out)
        have HZ9 : Hid ((W8.alloc (.cells #[.pointer (some ⟨cb, 0, none⟩)] 23)).heap.size = W8.heap.size + 1) := hide (by simp)
        obtain ⟨bc, hbc⟩ : ∃ bc, bc = W8.heap.size := ⟨_, rfl⟩
        rw [← hbc] at HZ8 HZ9 BC9 ⊢
        clear hbc HL8 AT8 SE8 A9
        generalize W8.alloc (.cells #[.pointer (some ⟨cb, 0, none⟩)] 23) = W9 at *
        go_wp2_with fail
        have CK9 : Hid (CKn bat bse bc cb L W9) := hide ⟨LS9.out.ch, BC9.out, ⟨_, AT9.out⟩, ⟨_, SE9.out⟩, by have := AC.out; have := HSB.out; have := HZ8.out; omega⟩
        have NEQ : Hid (bat ≠ bse ∧ w.heap.size ≠ bat ∧ w.heap.size ≠ bse ∧ bx ≠ bat ∧ bx ≠ bse ∧ bn ≠ bat ∧ bn ≠ bse ∧ bat ≠ cb ∧ bse ≠ cb ∧ w.heap.size ≤ bat ∧ w.heap.size ≤ bse ∧ bat < W9.heap.size ∧ bse < W9.heap.size ∧ w.heap.size ≤ W9.heap.size) := hide (by have := AC.out; have := HSB.out; have := HZ8.out; have := HZ9.out; have := AB.out; have := AN.out; have := AR.out; have := AW.out; omega)
        have HRI := hide HNS.out.ris
        have HPO := hide HNS.out.pos
        have HLA := hide HNS.out.last
        have HSQ := hide (all_stops 8 (by omega) bc cb cb L (CKn bat bse bc cb L) (KpN bat bse) HRI.out HPO.out (by have := HLL.out; omega) (fun W h => ⟨h.ch, h.bx.cell⟩) (fun _ _ h hb => h.later hb) (fun _ _ h hk => h.kp hk) W9 (fun A C g c hk hg h => hk.2.1 g _ _ _ h (by have := NEQ.out; omega) (by have := NEQ.out; omega)) CK9.out)
        clear HNS HPC
        refine (wpIn_wide (n := 9)).1 ?_
        refine' wpIn_rangeFunc_ownF (F := Fence.wide) (n := 9) rfl (by omega) (gf := 55) (lb := #[.pointer (some ⟨bc, 0, none⟩)]) rfl trivial (enters_of Tryd.func55 (by kernel_rfl) rfl) HSQ.out (fun h k => h.trans k) (fun W l o o' _ h ho _ => KpN.put h ho o') (Below.refl _ _) (fun _ => rfl)
          (fun pre W => LS w W w.heap.size bx bn cb cb L ∧ Box W bat 3 (.int .i64 (lastN (pre.map Subtype.val))) ∧ Box W bse 3 (.int .i64 (pre.length : Int)))
          (fun _ pre _ => ¬ (pre <+: L.attach))
          (fun s A C row hs hg hr => ⟨hs.1.grown hg (fun r e => ⟨Nat.le_trans NEQ.out.2.2.2.2.2.2.2.2.2.2.2.2.2 (hr r e).1, (hr r e).2⟩), grown_cells hg (fun r e => (hr r e).2) hs.2.1, grown_cells hg (fun r e => (hr r e).2) hs.2.2⟩)
          (fun _ _ _ _ _ hs _ _ => hs)
          ⟨LS9.out, AT9.out, SE9.out⟩ _ ?assignB ?bodyB ?doneB ?stopB
        case assignB =>
          intro l x W K hK
          dsimp only [encV]
          gi_wp2
          exact hK
        case bodyB =>
          rintro l pre x W ⟨hI1, hI2, hI3⟩ hpl
          obtain ⟨kx, hkx⟩ : ∃ kx, L[kx]? = some x.1 := List.getElem?_of_mem x.2
          have HAT := hide (at_yes x.1.1 cb cb L kx x.1 W hI1.ch HRI.out (by have := HLL.out; omega) (ab_self L kx x.1 HRI.out hkx) hkx)
          have L0 := hide hI1
          have A0 := hide hI2
          have S0 := hide hI3
          have c0 := hI1.box.cell
          clear hI1 hI2 hI3 hkx
          gi_wp2
          refine ⟨trivial, (CallsIn.inRound l (callsIn_wide.2 HAT.out)).mono ?_⟩
          rintro e W1 ⟨rfl, hb1⟩
          have L1 := hide (L0.out.later hb1)
          have A1 := hide (A0.out.later hb1)
          have S1 := hide (S0.out.later hb1)
          have K1 : Hid (KpN bat bse W W1) := hide (KpN.below hb1)
          have O1 := hide (keeps_of_below hb1)
          clear hb1 c0 L0 A0 S0 HAT
          have a1 := A1.out.cell
          have a2 := A1.out.frozen
          by_cases hle : x.1.1 ≤ lastN (pre.map Subtype.val)
          · have d1 : decide (x.1.1 ≤ lastN (pre.map Subtype.val)) = true := decide_eq_true hle
            have r1 := L1.out.res.cell
            have r2 := L1.out.res.frozen
            gi_wp2
            exact ⟨O1.out.trans (KeepsOthers.setCell _ _ _), fun hp => by have := pre_rise HRI.out HPO.out hp; omega⟩
          · have d1 : decide (x.1.1 ≤ lastN (pre.map Subtype.val)) = false := decide_eq_false hle
            obtain ⟨n1, n2, n3, n4, n5, n6, n7, n8, n9, n10, n11, n12, n13, n14⟩ := NEQ.out
            have L2 := hide (L1.out.setO A1.out n2 n4 n6 n8 n10 (.int .i64 x.1.1))
            have A2 := hide (A1.out.set (.int .i64 x.1.1))
            have S2 := hide (S1.out.other (Ne.symm n1) (.int .i64 x.1.1))
            have K2 := hide (K1.out.trans (KpN.setA n1 A1.out (.int .i64 x.1.1)))
            have O2 := hide (O1.out.trans (KeepsOthers.setCell W1 ⟨bat, 0, none⟩ (.int .i64 x.1.1)))
            obtain ⟨W2, hW2⟩ : ∃ W2, W1.setCell ⟨bat, 0, none⟩ (.int .i64 x.1.1) = W2 := ⟨_, rfl⟩
            rw [hW2] at L2 A2 S2 K2 O2
            have L3 := hide (L2.out.setO S2.out n3 n5 n7 n9 n11 (.int .i64 ((pre.length : Int) + 1)))
            have A3 := hide (A2.out.other n1 (.int .i64 ((pre.length : Int) + 1)))
            have S3 := hide (S2.out.set (.int .i64 ((pre.length : Int) + 1)))
            have K3 := hide (K2.out.trans (KpN.setS n1 S2.out (.int .i64 ((pre.length : Int) + 1))))
            have O3 := hide (O2.out.trans (KeepsOthers.setCell W2 ⟨bse, 0, none⟩ (.int .i64 ((pre.length : Int) + 1))))
            have s2 := S2.out.cell
            have s3 := S2.out.frozen
            obtain ⟨W3, hW3⟩ : ∃ W3, W2.setCell ⟨bse, 0, none⟩ (.int .i64 ((pre.length : Int) + 1)) = W3 := ⟨_, rfl⟩
            rw [hW3] at L3 A3 S3 K3 O3
            have s4 := S3.out.cell
            have c4 := L3.out.cnt.cell
            have wp : wrap64 ((pre.length : Int) + 1) = (pre.length : Int) + 1 := by have := HLL.out; unfold wrap64; omega
            have d2 : decide ((L.length : Int) < (pre.length : Int) + 1) = false := decide_eq_false (by omega)
            clear n1 n2 n3 n4 n5 n6 n7 n8 n9 n10 n11 n12 n13 n14 L1 A1 S1 K1 O1 L2 A2 S2 K2 O2 hle
            gi_wp2
            refine ⟨O3.out, K3.out, L3.out, ?_, ?_⟩
            · rw [List.map_append, List.map_cons, List.map_nil, lastN_snoc]; exact A3.out
            · rw [List.length_append]; exact S3.out
        case doneB =>
          rintro D ys W hD rfl ⟨hI1, hI2, hI3⟩ hK
          rw [List.attach_map_subtype_val, ← HLA.out] at hI2
          rw [List.length_attach] at hI3
          have c1 := hI1.cnt.cell
          have c2 := hI2.cell
          have c3 := hI3.cell
          have r1 := hI1.res.cell
          have r2 := hI1.res.frozen
          have L0 := hide hI1
          have HKD := hide hK
          clear hI1 hI2 hI3 hK
          go_wp2_with fail
          have hK' := (KeepsOthers.setCell W ⟨w.heap.size, 0, none⟩ (.bool true)).same D _ HKD.out rfl
          refine ⟨by simp, .inl ⟨_, _, rfl, run_takeDeferred hK', ?_⟩⟩
          have hc5 := cell_kept (World.cell?_setCell_same' W ⟨w.heap.size, 0, none⟩ (.bool true) (by rw [r1]; rfl)) (grownBy_putObj' _ D (.deferred none)) (fun r e => by cases e; exact ⟨_, hK', rfl⟩)
          refine ⟨.bool true, ?_, rfl, (L0.out.low.setCell (p := ⟨w.heap.size, 0, none⟩) (Nat.le_refl _) _).trans (belowK_b (w := w) (Nat.le_refl _) _ D _ _ (Nat.le_trans NEQ.out.2.2.2.2.2.2.2.2.2.2.2.2.2 hD) hK' rfl rfl)⟩
          rw [resCell1 rfl]
          generalize (W.setCell ⟨w.heap.size, 0, none⟩ (.bool true)).putObj D (.deferred none) = Wx at hc5 ⊢
          show ((asAddr (.pointer (some ⟨w.heap.size, 0, none⟩))).run Tryd.prog Wx).andThen (fun a w₁ => (loadVar 4 a).run Tryd.prog w₁) = .ok (.bool true) Wx
          clear L0 HKD NEQ HSQ CK9 LS9 AT9 SE9 BC9 hK'
          simp [go_sem, hc5]
        case stopB =>
          rintro D c pre W _ hpre h _
          exact absurd hpre h
end Go.Proofs.YtaoncoionppbgaaDoor
