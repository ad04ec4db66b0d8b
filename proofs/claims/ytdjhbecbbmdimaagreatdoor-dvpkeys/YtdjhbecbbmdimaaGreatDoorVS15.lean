/-
  My own text: VS13, VS14, VS15 in one.
-/
import Derived.Test.YtdjhbecbbmdimaaGreatDoorVS12
namespace Go.Proofs.YtdjhbecbbmdimaaGreatDoor
open Go.RowKit

/-- What settle answers. -/
def SA (w w' : World) (B g n cap : Nat) (E : List En) (S : Ky → CX) (id : Int) (o : MR) (r : Ending) : Prop := match o with
  | .no t x => r = .returned (.iface t x) ∧ w.grownBy w' (some g)
  | .ok P => ∃ E', r = .returned .nilIface ∧ SH w' B (.slice (some ⟨g, 0, none⟩) n cap) E' ∧ KW E E' ∧ SX E' (updX (posX S P) (rK id) { posX S P (rK id) with st := 2 }) ∧ NB w.heap.size E E' ∧ w.grownBy w' (some g)
/-- A refusal's number. -/
def nmb : Value → Int
  | .agg a => match a.getD 1 .nilIface with
    | .iface _ (.int _ k) => k
    | _ => 0
  | _ => 0
def sbO (S : Ky → CX) (id : Int) (L : List LG.El) (room : Bool) : DO := if (S (rK id)).st = 0 then
    match mvs (psX S) L with
    | .ok P => .ok 2 (updX (posX S P) (rK id) { posX S P (rK id) with st := 2, ll := L })
    | .no t x => if nmb x = 9 then .no t x else if room = true then .ok 1 (updX S (rK id) { S (rK id) with st := 1, ll := L }) else dno 20
  else dno 11
set_option maxRecDepth 100000 in
theorem is_nil (w : World) : Calls Tryz.prog 77 #[.nilIface, .iface 52 (.int .i64 9)] w fun e w' => e = .returned (.bool false) ∧ Below w.heap.size w w' := by
  have B0 := hide (Below.refl w.heap.size w)
  go_enter Tryz.func77, Tryz.ntmps77
  have hq : (binOp .eql 74 .nilIface (.iface 52 (.int .i64 9))).run Tryz.prog w = .ok (.bool false) w := by kernel_rfl
  go_wp2_with fail
  go_ret
  exact ⟨rfl, B0.out⟩
set_option maxRecDepth 100000 in
set_option maxHeartbeats 4000000 in
theorem submit_any (B g cap : Nat) (E : List En) (S : Ky → CX) (cd ac as_ qt nm id : Int) (lv : Value) (pa : Option Addr) (pn pc : Nat) (L : List LG.El) (room : Bool) (w : World) (hS : SH w B (.slice (some ⟨g, 0, none⟩) E.length cap) E) (hinc : Inc (eks E)) (hX : SX E S) (hR : RtE E) (hk : rK id ∈ eks E) (h0 : 0 < E.length) (h1 : E.length ≤ 1000000)
    (hL : LG.RM w lv L) (hlg : ∀ b, lv.ownBlock = some b → b ≠ g) (hl : L.length ≤ 1000000) (hK : ∀ l ∈ L, srcK l ∈ eks E ∧ tgtK l ∈ eks E ∧ l.2.2.2.1 ≤ BL.top) :
    Calls Tryz.prog 49 #[.slice (some ⟨g, 0, none⟩) E.length cap, .agg #[.int .i64 cd, .int .i64 ac, .int .i64 as_, .int .i64 qt, .int .i64 nm, .int .i64 id, lv, .slice pa pn pc], .bool room] w fun r w' => DA w w' B g E.length cap E (sbO S id L room) r := by
  obtain ⟨i, e, hi, hek⟩ := eks_mem hk
  obtain ⟨la, lc, hlv⟩ := LG.rm_lt hL
  subst hlv
  have B0 := hide ((Below.refl w.heap.size w).alloc (Nat.le_refl _) (.cells #[.int .i64 cd, .int .i64 ac, .int .i64 as_, .int .i64 qt, .int .i64 nm, .int .i64 id, .slice la L.length lc, .slice pa pn pc] 25))
  have N0 := hide (alloc_new w (.cells #[.int .i64 cd, .int .i64 ac, .int .i64 as_, .int .i64 qt, .int .i64 nm, .int .i64 id, .slice la L.length lc, .slice pa pn pc] 25))
  obtain ⟨y0, y1, y2, y3, y4, y5, y6, y7⟩ := eight_cells N0.out rfl
  have HS := hide (hS.later B0.out)
  have HR := hide (record_any B g cap E i e id _ HS.out hinc hi hek h1)
  have HX := hide hX
  have HN := hide hinc
  have HEK := hide hek
  have HI := hide hi
  have HLR := hide hL
  have HLG := hide hlg
  have HGL : Hid (g < w.heap.size) := hide ((World.ownsRow.lt hS.own g rfl).2)
  have hcx : S (rK id) = e.now.cx := by rw [← hek, ← hX e (List.mem_of_getElem? hi)]
  have HM := hide (fun (W : World) (hb : Below w.heap.size w W) => move_any B g cap E (psX S) _ L W (hS.later hb) hinc hX.sp hR h0 h1 (hL.later hb) hl hK)
  have HER := hide ((mvs_er (hX.rp hR) (fun l hl => ⟨(hK l hl).1, (hK l hl).2.1⟩)).2)
  obtain ⟨st, hste⟩ : ∃ st, e.now.st = st := ⟨_, rfl⟩
  have HST := hide (show (S (rK id)).st = st by rw [hcx]; exact hste)
  have HSt := hide hste
  clear hS hinc hX hR hi hek hk hK hcx hste hL hlg
  go_enter Tryz.func49, Tryz.ntmps49
  go_wp2_with fail
  refine HR.out.mono ?_
  rintro r w1 ⟨rfl, hb1⟩
  have c8 := ((HS.out.later hb1).cells HI.out).2.2.2.2.2.2.2.2.1
  rw [HSt.out] at c8
  have B1 := hide (B0.out.trans (hb1.mono B0.out.size))
  have HG1 : Hid (w.grownBy w1 (some g)) := hide (gr_of B1.out)
  have N1 := hide (blk_later N0.out hb1)
  have HS1 := hide (HS.out.later hb1)
  clear y0 y1 y2 y3 y4 y5 y6 y7 N0 hb1 HR HS
  obtain ⟨y0, y1, y2, y3, y4, y5, y6, y7⟩ := eight_cells N1.out rfl
  by_cases h2 : st = 0
  · subst h2
    have H1 := hide (HM.out w1 B1.out)
    clear HM
    go_wp2_with fail
    refine H1.out.mono ?_
    intro r w2 hA
    cases hm : mvs (psX S) L with
    | no t x =>
      rw [hm] at hA
      obtain ⟨rfl, hb2⟩ := hA
      obtain ⟨rfl, s, k, _, _, rfl⟩ := HER.out _ _ hm
      have HO0 : Hid (sbO S id L room = if k = 9 then .no 197 (.agg #[.string ⟨s.toArray⟩, .iface 52 (.int .i64 k)]) else if room = true then .ok 1 (updX S (rK id) { S (rK id) with st := 1, ll := L }) else dno 20) := hide (by unfold sbO; rw [if_pos HST.out, hm]; rfl)
      have B2 := hide (B1.out.trans (hb2.mono B1.out.size))
      have HIS := hide (BL.is_rn s k 9 w2)
      unfold BL.refV at HIS
      have N2 := hide (blk_later N1.out hb2)
      have HS2 := hide (HS1.out.later hb2)
      clear hm hb2 H1 c8 N1 HS1 y0 y1 y2 y3 y4 y5 y6 y7
      obtain ⟨y0, y1, y2, y3, y4, y5, y6, y7⟩ := eight_cells N2.out rfl
      go_wp2_with fail
      refine HIS.out.mono ?_
      rintro r w3 ⟨rfl, hb3⟩
      have B3 := hide (B2.out.trans (hb3.mono B2.out.size))
      have HNW := hide (blk_later N2.out hb3)
      have HSW0 := hide (HS2.out.later hb3)
      clear hb3 HIS N2 HS2 y0 y1 y2 y3 y4 y5 y6 y7
      obtain ⟨y0, y1, y2, y3, y4, y5, y6, y7⟩ := eight_cells HNW.out rfl
      by_cases h9 : k = 9
      · have HO := hide (HO0.out.trans (if_pos h9))
        have hb9 : (k == 9) = true := by rw [h9]; rfl
        rw [hb9]
        have HGW : Hid (w.grownBy w3 (some g)) := hide (gr_of B3.out)
        clear hb9 h9
        go_wp2_with fail
        go_ret2
        rw [HO.out]
        exact ⟨rfl, HGW.out⟩
      · have HO1 := hide (HO0.out.trans (if_neg h9))
        have hb9 : (k == 9) = false := beq_false_of_ne h9
        rw [hb9]
        have HGW : Hid (w.grownBy w3 (some g)) := hide (gr_of B3.out)
        clear hb9 h9
        cases room with
        | false =>
          have HO := hide (HO1.out.trans (if_neg Bool.false_ne_true))
          go_wp2_with fail
          go_ret2
          rw [HO.out]
          exact ⟨rfl, HGW.out⟩
        | true =>
          have HO := hide (HO1.out.trans (if_pos rfl))
          obtain ⟨E3, hE3⟩ : ∃ E3, E3 = E := ⟨_, rfl⟩
          obtain ⟨e3, he3⟩ : ∃ e3, e3 = e := ⟨_, rfl⟩
          have HL3 : Hid (E3.length = E.length) := hide (by rw [hE3])
          have HSW : Hid (SH w3 B (.slice (some ⟨g, 0, none⟩) E.length cap) E3) := hide (by rw [hE3]; exact HSW0.out)
          have HI3 : Hid (E3[i]? = some e3) := hide (by rw [hE3, he3]; exact HI.out)
          have HEK3 : Hid (e3.k = rK id) := hide (by rw [he3]; exact HEK.out)
          have HRW := hide (HLR.out.later B3.out)
          have HK3 : Hid (KW E E3) := hide (by rw [hE3]; exact KW.refl E)
          have HX3 : Hid (SX E3 S) := hide (by rw [hE3]; exact HX.out)
          have HB3 : Hid (NB w.heap.size E E3) := hide (by rw [hE3]; exact NB.refl _ E)
          clear hE3 he3 HSW0 HO0 HO1
          have HCL := hide (cloneL_any (.slice la L.length lc) L w3 HRW.out (by omega))
          clear y0 y1 y2 y3 y4 y5 y6 y7
          obtain ⟨y0, y1, y2, y3, y4, y5, y6, y7⟩ := eight_cells HNW.out rfl
          go_wp2_with fail
          refine HCL.out.mono ?_
          rintro r w5 ⟨v, rfl, hrl, hfs, hb5⟩
          obtain ⟨ca, cc, hv⟩ := LG.rm_lt hrl
          subst hv
          have hS5 := HSW.out.later hb5
          have hm3 := List.mem_of_getElem? HI3.out
          have hS5' : SH w5 B (.slice (some ⟨g, 0, none⟩) E3.length cap) E3 := by rw [HL3.out]; exact hS5
          have hcv := (hS5.ent e3 hm3).2
          have hgw5 : g < w3.heap.size := (World.ownsRow.lt HSW.out.own g rfl).2
          obtain ⟨hS6, hg6⟩ := hS5'.two HI3.out { e3.now with st := 1, ll := L, lv := .slice ca L.length cc } 8 (.int .i64 1) (.slice ca L.length cc) (by decide) rfl ⟨hcv.1, hrl, fun b hb => hb.elim (fun k => hcv.2.2 b (.inl k)) (fun k => (hfs b k).2)⟩ (fun b hb => by
            cases hb
            exact ⟨((hS5.ap e3 hm3).2 g rfl).1, fun k => by have : w3.heap.size ≤ g := (hfs g k).1; omega⟩)
          rw [HL3.out] at hS6
          have HS6 := hide hS6
          have HG6 := hide (grown_trans (grown_trans HGW.out (gr_of hb5)) hg6)
          have HKW := hide (HK3.out.trans (KW.one HI3.out { e3.now with st := 1, ll := L, lv := .slice ca L.length cc }))
          have HNB := hide (NB.trans (M := w.heap.size) HB3.out (NB.one HI3.out { e3.now with st := 1, ll := L, lv := .slice ca L.length cc } (fun b hb => hb.elim (fun k => .inl (.inl k)) (fun k => .inr (Nat.le_trans HGW.out.size (hfs b k).1)))) (Nat.le_refl _))
          have HSX : Hid (SX (E3.set i { e3 with now := { e3.now with st := 1, ll := L, lv := .slice ca L.length cc } }) (updX (S) (rK id) { (S) (rK id) with st := 1, ll := L })) := hide (by
            have h := HX3.out.one (by rw [HK3.out.keys]; exact HN.out) HI3.out { e3.now with st := 1, ll := L, lv := .slice ca L.length cc }
            rw [HEK3.out] at h
            rw [← HEK3.out, ← HX3.out e3 hm3, HEK3.out]
            exact h)
          have hcs := hS5.cells HI3.out
          have d8 := hcs.2.2.2.2.2.2.2.2.1
          have d9 : w5.cell? ⟨g, i * 10 + 8 + 1, none⟩ = some e3.now.lv := hcs.2.2.2.2.2.2.2.2.2
          obtain ⟨oa, oc, hov⟩ := LG.rm_lt hcv.2.1
          rw [hov] at d9
          have f8 := hS5.froz (i * 10 + 8)
          have f9 := hS5.froz (i * 10 + 8 + 1)
          clear hS5 hm3 hS5' hcv hgw5 hS6 hg6 hcs hrl hfs hb5 HCL hov y0 y1 y2 y3 y4 y5 y6 y7 HSW HRW HNW
          go_wp2_with fail
          go_ret2
          rw [HO.out]
          exact ⟨_, rfl, HS6.out, HKW.out, HSX.out, HNB.out, HG6.out⟩
          
    | ok P =>
      rw [hm] at hA
      obtain ⟨E3, rfl, hS2, hSR, hSP, hRt, hMB, hg2⟩ := hA
      have hgl : g < w.heap.size := HGL.out
      have HO : Hid (sbO S id L room = .ok 2 (updX (posX S P) (rK id) { posX S P (rK id) with st := 2, ll := L })) := hide (by unfold sbO; rw [if_pos HST.out, hm])
      have hl2 : i < E3.length := by rw [hSR.1]; exact (List.getElem?_eq_some_iff.1 HI.out).1
      obtain ⟨e3, hi3⟩ : ∃ e3, E3[i]? = some e3 := ⟨_, List.getElem?_eq_getElem hl2⟩
      have hN2 := (hg2.block w.heap.size (Array.getElem?_eq_some_iff.1 N1.out).1 (fun h => by injection h with h; omega)).trans N1.out
      have hR2 : LG.RM w2 (.slice la L.length lc) L := rmL_kept (HLR.out.later B1.out) hg2.size (fun b hb hlt => hg2.block b hlt (fun h => by injection h with h; exact HLG.out b hb h))
      have HIS := hide (is_nil w2)
      have HL3 := hide hSR.1
      have HI3 := hide hi3
      have HEK3 : Hid (e3.k = rK id) := hide (by rw [(hSR.2 i e e3 HI.out hi3).1]; exact HEK.out)
      have HG2 := hide (grown_trans HG1.out hg2)
      have HK3 := hide hSR.kw
      have HX3 := hide (hSR.sx HX.out hSP)
      have HB3 : Hid (NB w.heap.size E E3) := hide (hSR.nb (fun e he b hb => (hMB e he b hb).imp (fun h => h) (fun h => Nat.le_trans B1.out.size h)))
      have HS2 := hide hS2
      have N2 := hide hN2
      have HR2 := hide hR2
      clear hm H1 c8 N1 HS1 y0 y1 y2 y3 y4 y5 y6 y7 hN2 hR2 hS2 hSR hSP hRt hMB hg2 hl2 hi3 hgl
      go_wp2_with fail
      refine HIS.out.mono ?_
      rintro r w3 ⟨rfl, hb3⟩
      have HGW := hide (grown_trans HG2.out (gr_of hb3))
      have HNW := hide (blk_later N2.out hb3)
      have HSW := hide (HS2.out.later hb3)
      have HRW := hide (HR2.out.later hb3)
      clear hb3 HIS N2 HS2 HR2 HG2
      obtain ⟨y0, y1, y2, y3, y4, y5, y6, y7⟩ := eight_cells HNW.out rfl
      have HCL := hide (cloneL_any (.slice la L.length lc) L w3 HRW.out (by omega))
      clear y0 y1 y2 y3 y4 y5 y6 y7
      obtain ⟨y0, y1, y2, y3, y4, y5, y6, y7⟩ := eight_cells HNW.out rfl
      go_wp2_with fail
      refine HCL.out.mono ?_
      rintro r w5 ⟨v, rfl, hrl, hfs, hb5⟩
      obtain ⟨ca, cc, hv⟩ := LG.rm_lt hrl
      subst hv
      have hS5 := HSW.out.later hb5
      have hm3 := List.mem_of_getElem? HI3.out
      have hS5' : SH w5 B (.slice (some ⟨g, 0, none⟩) E3.length cap) E3 := by rw [HL3.out]; exact hS5
      have hcv := (hS5.ent e3 hm3).2
      have hgw5 : g < w3.heap.size := (World.ownsRow.lt HSW.out.own g rfl).2
      obtain ⟨hS6, hg6⟩ := hS5'.two HI3.out { e3.now with st := 2, ll := L, lv := .slice ca L.length cc } 8 (.int .i64 2) (.slice ca L.length cc) (by decide) rfl ⟨hcv.1, hrl, fun b hb => hb.elim (fun k => hcv.2.2 b (.inl k)) (fun k => (hfs b k).2)⟩ (fun b hb => by
        cases hb
        exact ⟨((hS5.ap e3 hm3).2 g rfl).1, fun k => by have : w3.heap.size ≤ g := (hfs g k).1; omega⟩)
      rw [HL3.out] at hS6
      have HS6 := hide hS6
      have HG6 := hide (grown_trans (grown_trans HGW.out (gr_of hb5)) hg6)
      have HKW := hide (HK3.out.trans (KW.one HI3.out { e3.now with st := 2, ll := L, lv := .slice ca L.length cc }))
      have HNB := hide (NB.trans (M := w.heap.size) HB3.out (NB.one HI3.out { e3.now with st := 2, ll := L, lv := .slice ca L.length cc } (fun b hb => hb.elim (fun k => .inl (.inl k)) (fun k => .inr (Nat.le_trans HGW.out.size (hfs b k).1)))) (Nat.le_refl _))
      have HSX : Hid (SX (E3.set i { e3 with now := { e3.now with st := 2, ll := L, lv := .slice ca L.length cc } }) (updX (posX S P) (rK id) { (posX S P) (rK id) with st := 2, ll := L })) := hide (by
        have h := HX3.out.one (by rw [HK3.out.keys]; exact HN.out) HI3.out { e3.now with st := 2, ll := L, lv := .slice ca L.length cc }
        rw [HEK3.out] at h
        rw [← HEK3.out, ← HX3.out e3 hm3, HEK3.out]
        exact h)
      have hcs := hS5.cells HI3.out
      have d8 := hcs.2.2.2.2.2.2.2.2.1
      have d9 : w5.cell? ⟨g, i * 10 + 8 + 1, none⟩ = some e3.now.lv := hcs.2.2.2.2.2.2.2.2.2
      obtain ⟨oa, oc, hov⟩ := LG.rm_lt hcv.2.1
      rw [hov] at d9
      have f8 := hS5.froz (i * 10 + 8)
      have f9 := hS5.froz (i * 10 + 8 + 1)
      clear hS5 hm3 hS5' hcv hgw5 hS6 hg6 hcs hrl hfs hb5 HCL hov y0 y1 y2 y3 y4 y5 y6 y7 HSW HRW HNW
      go_wp2_with fail
      go_ret2
      rw [HO.out]
      exact ⟨_, rfl, HS6.out, HKW.out, HSX.out, HNB.out, HG6.out⟩
      
  · have hd : decide (st = 0) = false := by rw [decide_eq_false_iff_not]; exact h2
    have HO : Hid (sbO S id L room = dno 11) := hide (by unfold sbO; rw [HST.out, if_neg h2])
    go_wp2_with fail
    go_ret2
    rw [HO.out]
    exact ⟨rfl, HG1.out⟩
end Go.Proofs.YtdjhbecbbmdimaaGreatDoor
namespace Go.Proofs.YtdjhbecbbmdimaaGreatDoor
open Go.RowKit

theorem DU.keep {n m : Nat} {w' V : World} {o : TO} {a : Int} {va : Option Addr} {vn vc : Nat} {ev : Value} (hf : Fsh n w' (.slice va vn vc)) (ht : ∀ W : World, w'.heap.size ≤ W.heap.size → (∀ M, BL.RM w' (.slice va vn vc) M → BL.RM W (.slice va vn vc) M) → ∀ m, m ≤ n → TA m W o (.returned (.tuple #[.agg #[.int .i64 a, .slice va vn vc], ev]))) (hs : w'.heap.size ≤ V.heap.size) (hk : ∀ M, BL.RM w' (.slice va vn vc) M → BL.RM V (.slice va vn vc) M) (hm : m ≤ n) : DU m V o (.returned (.tuple #[.agg #[.int .i64 a, .slice va vn vc], ev])) :=
  ⟨a, va, vn, vc, ev, rfl, fun b hb => ⟨Nat.le_trans hm (hf b hb).1, Nat.lt_of_lt_of_le (hf b hb).2 hs⟩, fun W h1 h2 m' h3 => ht W (Nat.le_trans hs h1) (fun M h => h2 M (hk M h)) m' (Nat.le_trans h3 hm)⟩
theorem DU.ta {n m : Nat} {w' : World} {o : TO} {e : Ending} (h : DU n w' o e) (hm : m ≤ n) : TA m w' o e := by
  obtain ⟨a, va, vn, vc, ev, rfl, _, h2⟩ := h
  exact h2 w' (Nat.le_refl _) (fun _ h => h) m hm
def tuO (cd qt nm av : Int) (ml : List BL.Mk) : TO :=
  if cd = 1 then toO [99, 114, 101, 100, 105, 116] (BL.creditO av ml qt)
  else if cd = 2 then toO [100, 101, 98, 105, 116] (BL.debitO av ml qt 0)
  else if cd = 3 then toO [109, 97, 114, 107] (BL.markO av ml qt nm)
  else toO [117, 110, 109, 97, 114, 107] (BL.unmarkO av ml qt nm)
theorem tuO_er {cd qt nm av : Int} {ml : List BL.Mk} {t : TypeId} {x : Value} (hr : BL.Rt av ml) (h : tuO cd qt nm av ml = .no t x) : NoR t x := by
  unfold tuO at h
  split at h
  · exact toO_er h (fun u y hn => credit_er hr hn)
  · split at h
    · exact toO_er h (fun u y hn => debit_er hr hn)
    · split at h
      · exact toO_er h (fun u y hn => mark_er hr hn)
      · exact toO_er h (fun u y hn => unmark_er hr hn)
theorem three_below (w : World) (o1 o2 o3 : Obj) : Below w.heap.size w (((w.alloc o1).alloc o2).alloc o3) := (two_below w o1 o2).alloc (by simp; omega) o3
theorem three_new (w : World) (o1 o2 o3 : Obj) : (((w.alloc o1).alloc o2).alloc o3).heap[w.heap.size]? = some o1 ∧ (((w.alloc o1).alloc o2).alloc o3).heap[w.heap.size + 1]? = some o2 ∧ (((w.alloc o1).alloc o2).alloc o3).heap[w.heap.size + 1 + 1]? = some o3 := by
  have h := two_new w o1 o2
  refine ⟨alloc_block h.1, alloc_block h.2, ?_⟩
  have h3 := alloc_new ((w.alloc o1).alloc o2) o3
  simpa using h3
set_option maxRecDepth 100000 in
set_option maxHeartbeats 4000000 in
theorem turned_any (av cd ac as_ qt nm id : Int) (mv : Value) (ml : List BL.Mk) (la : Option Addr) (ln lc : Nat) (pa : Option Addr) (pn pc : Nat) (w : World) (hr : BL.RM w mv ml) (ht : BL.Rt av ml) (hq : qt ≤ BL.top) :
    Calls Tryz.prog 54 #[.agg #[.int .i64 av, mv], .agg #[.int .i64 cd, .int .i64 ac, .int .i64 as_, .int .i64 qt, .int .i64 nm, .int .i64 id, .slice la ln lc, .slice pa pn pc]] w fun r w' => DU w.heap.size w' (tuO cd qt nm av ml) r ∧ Below w.heap.size w w' := by
  obtain ⟨ma, mc, hmv⟩ := BL.rm_lt hr
  subst hmv
  have B0 := hide (three_below w (.cells #[.int .i64 av, .slice ma ml.length mc] 60) (.cells #[.int .i64 cd, .int .i64 ac, .int .i64 as_, .int .i64 qt, .int .i64 nm, .int .i64 id, .slice la ln lc, .slice pa pn pc] 25) (.cells #[.int .i64 0, .slice none 0 0] 60))
  have HR := hide (hr.later B0.out)
  have HT := hide (rt_ok ht)
  have HL8 := hide (show ml.length ≤ 4611686018427387904 by have := HT.out.2.2; omega)
  have N0 := three_new w (.cells #[.int .i64 av, .slice ma ml.length mc] 60) (.cells #[.int .i64 cd, .int .i64 ac, .int .i64 as_, .int .i64 qt, .int .i64 nm, .int .i64 id, .slice la ln lc, .slice pa pn pc] 25) (.cells #[.int .i64 0, .slice none 0 0] 60)
  obtain ⟨y0, y1, y2, y3, y4, y5, y6, y7⟩ := eight_cells N0.2.1 rfl
  obtain ⟨x0, x1⟩ := pair_cells N0.1 rfl
  have HN := hide N0.2.2
  clear hr ht N0
  by_cases h1 : cd = 1
  · subst h1
    have HO : Hid (tuO 1 qt nm av ml = toO [99, 114, 101, 100, 105, 116] (BL.creditO av ml qt)) := hide (if_pos rfl)
    go_enter Tryz.func54, Tryz.ntmps54
    go_wp2_with fail
    refine (BL.credit_any av qt _ ml _ HR.out HT.out.1 HT.out.2.1 hq HL8.out).mono ?_
    rintro e w1 ⟨hA, hb⟩
    obtain ⟨a, va, vn, vc, ev, rfl, hfs, hta⟩ := DU.of hA
    clear hA
    have B1 := B0.out.trans (hb.mono B0.out.size)
    have NR := blk_later HN.out hb
    have hne : ∀ b, (Value.slice va vn vc).ownBlock = some b → b ≠ (w.heap.size + 1 + 1) := fun b hb2 => by have h1 := (hfs b hb2).1; have h2 : (w.heap.size + 1 + 1) < _ := (Array.getElem?_eq_some_iff.1 HN.out).1; omega
    obtain ⟨V0, hV0⟩ : ∃ x, w1.setCell ⟨(w.heap.size + 1 + 1), 0, none⟩ (.int .i64 a) = x := ⟨_, rfl⟩
    have M0 := setB NR 0 (.int .i64 a) rfl
    have b0 := B1.setCell (p := ⟨(w.heap.size + 1 + 1), 0, none⟩) (by show w.heap.size ≤ (w.heap.size + 1 + 1); omega) (.int .i64 a)
    have k0 : ∀ b, b ≠ (w.heap.size + 1 + 1) → (w1.setCell ⟨(w.heap.size + 1 + 1), 0, none⟩ (.int .i64 a)).heap[b]? = w1.heap[b]? := fun b hb2 => Below.heap_setCell w1 ⟨(w.heap.size + 1 + 1), 0, none⟩ (.int .i64 a) b hb2
    have s0 : w1.heap.size ≤ (w1.setCell ⟨(w.heap.size + 1 + 1), 0, none⟩ (.int .i64 a)).heap.size := by simp
    rw [hV0] at M0 b0 k0 s0
    obtain ⟨V1, hV1⟩ : ∃ x, V0.setCell ⟨(w.heap.size + 1 + 1), 1, none⟩ (.slice va vn vc) = x := ⟨_, rfl⟩
    have M1 := setB M0 1 (.slice va vn vc) rfl
    have b1 := b0.setCell (p := ⟨(w.heap.size + 1 + 1), 1, none⟩) (by show w.heap.size ≤ (w.heap.size + 1 + 1); omega) (.slice va vn vc)
    have k1 : ∀ b, b ≠ (w.heap.size + 1 + 1) → (V0.setCell ⟨(w.heap.size + 1 + 1), 1, none⟩ (.slice va vn vc)).heap[b]? = V0.heap[b]? := fun b hb2 => Below.heap_setCell V0 ⟨(w.heap.size + 1 + 1), 1, none⟩ (.slice va vn vc) b hb2
    have s1 : V0.heap.size ≤ (V0.setCell ⟨(w.heap.size + 1 + 1), 1, none⟩ (.slice va vn vc)).heap.size := by simp
    rw [hV1] at M1 b1 k1 s1
    have HDU := hide (DU.keep (m := w.heap.size) hfs hta (Nat.le_trans s0 s1) (fun M hM => rmM_kept hM (Nat.le_trans s0 s1) (fun b hb2 _ => (k1 b (hne b hb2)).trans (k0 b (hne b hb2)))) B0.out.size)
    have HBF := hide b1
    obtain ⟨r0, r1⟩ := pair_cells NR rfl
    obtain ⟨u0, u1⟩ := pair_cells M0 rfl
    obtain ⟨d0, d1⟩ := pair_cells M1 rfl
    have f0 := nofz NR 0
    have f1 := nofz M0 1
    clear hb hfs hta B1 NR hne M0 b0 k0 s0 M1 b1 k1 s1
    go_wp2_with fail
    exact bodyPost_ret (v := .tuple #[.agg #[.int .i64 a, .slice va vn vc], ev]) (by simp [results, Tryz.results54, go_sem, d0, d1]) rfl ⟨by rw [HO.out]; exact HDU.out, HBF.out⟩
  · have g1 : decide (cd = 1) = false := by rw [decide_eq_false_iff_not]; exact h1
    by_cases h2 : cd = 2
    · subst h2
      have HO : Hid (tuO 2 qt nm av ml = toO [100, 101, 98, 105, 116] (BL.debitO av ml qt 0)) := hide ((if_neg (by decide)).trans (if_pos rfl))
      go_enter Tryz.func54, Tryz.ntmps54
      go_wp2_with fail
      refine (BL.debit_any av qt 0 _ ml _ HR.out HT.out.1 HT.out.2.1 hq HL8.out).mono ?_
      rintro e w1 ⟨hA, hb⟩
      obtain ⟨a, va, vn, vc, ev, rfl, hfs, hta⟩ := DU.of hA
      clear hA
      have B1 := B0.out.trans (hb.mono B0.out.size)
      have NR := blk_later HN.out hb
      have hne : ∀ b, (Value.slice va vn vc).ownBlock = some b → b ≠ (w.heap.size + 1 + 1) := fun b hb2 => by have h1 := (hfs b hb2).1; have h2 : (w.heap.size + 1 + 1) < _ := (Array.getElem?_eq_some_iff.1 HN.out).1; omega
      obtain ⟨V0, hV0⟩ : ∃ x, w1.setCell ⟨(w.heap.size + 1 + 1), 0, none⟩ (.int .i64 a) = x := ⟨_, rfl⟩
      have M0 := setB NR 0 (.int .i64 a) rfl
      have b0 := B1.setCell (p := ⟨(w.heap.size + 1 + 1), 0, none⟩) (by show w.heap.size ≤ (w.heap.size + 1 + 1); omega) (.int .i64 a)
      have k0 : ∀ b, b ≠ (w.heap.size + 1 + 1) → (w1.setCell ⟨(w.heap.size + 1 + 1), 0, none⟩ (.int .i64 a)).heap[b]? = w1.heap[b]? := fun b hb2 => Below.heap_setCell w1 ⟨(w.heap.size + 1 + 1), 0, none⟩ (.int .i64 a) b hb2
      have s0 : w1.heap.size ≤ (w1.setCell ⟨(w.heap.size + 1 + 1), 0, none⟩ (.int .i64 a)).heap.size := by simp
      rw [hV0] at M0 b0 k0 s0
      obtain ⟨V1, hV1⟩ : ∃ x, V0.setCell ⟨(w.heap.size + 1 + 1), 1, none⟩ (.slice va vn vc) = x := ⟨_, rfl⟩
      have M1 := setB M0 1 (.slice va vn vc) rfl
      have b1 := b0.setCell (p := ⟨(w.heap.size + 1 + 1), 1, none⟩) (by show w.heap.size ≤ (w.heap.size + 1 + 1); omega) (.slice va vn vc)
      have k1 : ∀ b, b ≠ (w.heap.size + 1 + 1) → (V0.setCell ⟨(w.heap.size + 1 + 1), 1, none⟩ (.slice va vn vc)).heap[b]? = V0.heap[b]? := fun b hb2 => Below.heap_setCell V0 ⟨(w.heap.size + 1 + 1), 1, none⟩ (.slice va vn vc) b hb2
      have s1 : V0.heap.size ≤ (V0.setCell ⟨(w.heap.size + 1 + 1), 1, none⟩ (.slice va vn vc)).heap.size := by simp
      rw [hV1] at M1 b1 k1 s1
      have HDU := hide (DU.keep (m := w.heap.size) hfs hta (Nat.le_trans s0 s1) (fun M hM => rmM_kept hM (Nat.le_trans s0 s1) (fun b hb2 _ => (k1 b (hne b hb2)).trans (k0 b (hne b hb2)))) B0.out.size)
      have HBF := hide b1
      obtain ⟨r0, r1⟩ := pair_cells NR rfl
      obtain ⟨u0, u1⟩ := pair_cells M0 rfl
      obtain ⟨d0, d1⟩ := pair_cells M1 rfl
      have f0 := nofz NR 0
      have f1 := nofz M0 1
      clear hb hfs hta B1 NR hne M0 b0 k0 s0 M1 b1 k1 s1
      go_wp2_with fail
      exact bodyPost_ret (v := .tuple #[.agg #[.int .i64 a, .slice va vn vc], ev]) (by simp [results, Tryz.results54, go_sem, d0, d1]) rfl ⟨by rw [HO.out]; exact HDU.out, HBF.out⟩
    · have g2 : decide (cd = 2) = false := by rw [decide_eq_false_iff_not]; exact h2
      by_cases h3 : cd = 3
      · subst h3
        have HO : Hid (tuO 3 qt nm av ml = toO [109, 97, 114, 107] (BL.markO av ml qt nm)) := hide ((if_neg (by decide)).trans ((if_neg (by decide)).trans (if_pos rfl)))
        go_enter Tryz.func54, Tryz.ntmps54
        go_wp2_with fail
        refine (BL.mark_any av qt nm _ ml _ HR.out HT.out.1 HT.out.2.1 hq HL8.out).mono ?_
        rintro e w1 ⟨hA, hb⟩
        obtain ⟨a, va, vn, vc, ev, rfl, hfs, hta⟩ := DU.of hA
        clear hA
        have B1 := B0.out.trans (hb.mono B0.out.size)
        have NR := blk_later HN.out hb
        have hne : ∀ b, (Value.slice va vn vc).ownBlock = some b → b ≠ (w.heap.size + 1 + 1) := fun b hb2 => by have h1 := (hfs b hb2).1; have h2 : (w.heap.size + 1 + 1) < _ := (Array.getElem?_eq_some_iff.1 HN.out).1; omega
        obtain ⟨V0, hV0⟩ : ∃ x, w1.setCell ⟨(w.heap.size + 1 + 1), 0, none⟩ (.int .i64 a) = x := ⟨_, rfl⟩
        have M0 := setB NR 0 (.int .i64 a) rfl
        have b0 := B1.setCell (p := ⟨(w.heap.size + 1 + 1), 0, none⟩) (by show w.heap.size ≤ (w.heap.size + 1 + 1); omega) (.int .i64 a)
        have k0 : ∀ b, b ≠ (w.heap.size + 1 + 1) → (w1.setCell ⟨(w.heap.size + 1 + 1), 0, none⟩ (.int .i64 a)).heap[b]? = w1.heap[b]? := fun b hb2 => Below.heap_setCell w1 ⟨(w.heap.size + 1 + 1), 0, none⟩ (.int .i64 a) b hb2
        have s0 : w1.heap.size ≤ (w1.setCell ⟨(w.heap.size + 1 + 1), 0, none⟩ (.int .i64 a)).heap.size := by simp
        rw [hV0] at M0 b0 k0 s0
        obtain ⟨V1, hV1⟩ : ∃ x, V0.setCell ⟨(w.heap.size + 1 + 1), 1, none⟩ (.slice va vn vc) = x := ⟨_, rfl⟩
        have M1 := setB M0 1 (.slice va vn vc) rfl
        have b1 := b0.setCell (p := ⟨(w.heap.size + 1 + 1), 1, none⟩) (by show w.heap.size ≤ (w.heap.size + 1 + 1); omega) (.slice va vn vc)
        have k1 : ∀ b, b ≠ (w.heap.size + 1 + 1) → (V0.setCell ⟨(w.heap.size + 1 + 1), 1, none⟩ (.slice va vn vc)).heap[b]? = V0.heap[b]? := fun b hb2 => Below.heap_setCell V0 ⟨(w.heap.size + 1 + 1), 1, none⟩ (.slice va vn vc) b hb2
        have s1 : V0.heap.size ≤ (V0.setCell ⟨(w.heap.size + 1 + 1), 1, none⟩ (.slice va vn vc)).heap.size := by simp
        rw [hV1] at M1 b1 k1 s1
        have HDU := hide (DU.keep (m := w.heap.size) hfs hta (Nat.le_trans s0 s1) (fun M hM => rmM_kept hM (Nat.le_trans s0 s1) (fun b hb2 _ => (k1 b (hne b hb2)).trans (k0 b (hne b hb2)))) B0.out.size)
        have HBF := hide b1
        obtain ⟨r0, r1⟩ := pair_cells NR rfl
        obtain ⟨u0, u1⟩ := pair_cells M0 rfl
        obtain ⟨d0, d1⟩ := pair_cells M1 rfl
        have f0 := nofz NR 0
        have f1 := nofz M0 1
        clear hb hfs hta B1 NR hne M0 b0 k0 s0 M1 b1 k1 s1
        go_wp2_with fail
        exact bodyPost_ret (v := .tuple #[.agg #[.int .i64 a, .slice va vn vc], ev]) (by simp [results, Tryz.results54, go_sem, d0, d1]) rfl ⟨by rw [HO.out]; exact HDU.out, HBF.out⟩
      · have g3 : decide (cd = 3) = false := by rw [decide_eq_false_iff_not]; exact h3
        have HO : Hid (tuO cd qt nm av ml = toO [117, 110, 109, 97, 114, 107] (BL.unmarkO av ml qt nm)) := hide ((if_neg h1).trans ((if_neg h2).trans (if_neg h3)))
        go_enter Tryz.func54, Tryz.ntmps54
        go_wp2_with fail
        refine (BL.unmark_any av qt nm _ ml _ HR.out HT.out.1 HT.out.2.1 hq HL8.out).mono ?_
        rintro e w1 ⟨hA, hb⟩
        obtain ⟨a, va, vn, vc, ev, rfl, hfs, hta⟩ := DU.of hA
        clear hA
        have B1 := B0.out.trans (hb.mono B0.out.size)
        have NR := blk_later HN.out hb
        have hne : ∀ b, (Value.slice va vn vc).ownBlock = some b → b ≠ (w.heap.size + 1 + 1) := fun b hb2 => by have h1 := (hfs b hb2).1; have h2 : (w.heap.size + 1 + 1) < _ := (Array.getElem?_eq_some_iff.1 HN.out).1; omega
        obtain ⟨V0, hV0⟩ : ∃ x, w1.setCell ⟨(w.heap.size + 1 + 1), 0, none⟩ (.int .i64 a) = x := ⟨_, rfl⟩
        have M0 := setB NR 0 (.int .i64 a) rfl
        have b0 := B1.setCell (p := ⟨(w.heap.size + 1 + 1), 0, none⟩) (by show w.heap.size ≤ (w.heap.size + 1 + 1); omega) (.int .i64 a)
        have k0 : ∀ b, b ≠ (w.heap.size + 1 + 1) → (w1.setCell ⟨(w.heap.size + 1 + 1), 0, none⟩ (.int .i64 a)).heap[b]? = w1.heap[b]? := fun b hb2 => Below.heap_setCell w1 ⟨(w.heap.size + 1 + 1), 0, none⟩ (.int .i64 a) b hb2
        have s0 : w1.heap.size ≤ (w1.setCell ⟨(w.heap.size + 1 + 1), 0, none⟩ (.int .i64 a)).heap.size := by simp
        rw [hV0] at M0 b0 k0 s0
        obtain ⟨V1, hV1⟩ : ∃ x, V0.setCell ⟨(w.heap.size + 1 + 1), 1, none⟩ (.slice va vn vc) = x := ⟨_, rfl⟩
        have M1 := setB M0 1 (.slice va vn vc) rfl
        have b1 := b0.setCell (p := ⟨(w.heap.size + 1 + 1), 1, none⟩) (by show w.heap.size ≤ (w.heap.size + 1 + 1); omega) (.slice va vn vc)
        have k1 : ∀ b, b ≠ (w.heap.size + 1 + 1) → (V0.setCell ⟨(w.heap.size + 1 + 1), 1, none⟩ (.slice va vn vc)).heap[b]? = V0.heap[b]? := fun b hb2 => Below.heap_setCell V0 ⟨(w.heap.size + 1 + 1), 1, none⟩ (.slice va vn vc) b hb2
        have s1 : V0.heap.size ≤ (V0.setCell ⟨(w.heap.size + 1 + 1), 1, none⟩ (.slice va vn vc)).heap.size := by simp
        rw [hV1] at M1 b1 k1 s1
        have HDU := hide (DU.keep (m := w.heap.size) hfs hta (Nat.le_trans s0 s1) (fun M hM => rmM_kept hM (Nat.le_trans s0 s1) (fun b hb2 _ => (k1 b (hne b hb2)).trans (k0 b (hne b hb2)))) B0.out.size)
        have HBF := hide b1
        obtain ⟨r0, r1⟩ := pair_cells NR rfl
        obtain ⟨u0, u1⟩ := pair_cells M0 rfl
        obtain ⟨d0, d1⟩ := pair_cells M1 rfl
        have f0 := nofz NR 0
        have f1 := nofz M0 1
        clear hb hfs hta B1 NR hne M0 b0 k0 s0 M1 b1 k1 s1
        go_wp2_with fail
        exact bodyPost_ret (v := .tuple #[.agg #[.int .i64 a, .slice va vn vc], ev]) (by simp [results, Tryz.results54, go_sem, d0, d1]) rfl ⟨by rw [HO.out]; exact HDU.out, HBF.out⟩
set_option maxRecDepth 100000 in
set_option maxHeartbeats 4000000 in
theorem do1_any (av cd ac as_ qt nm id : Int) (mv : Value) (ml : List BL.Mk) (la : Option Addr) (ln lc : Nat) (pa : Option Addr) (pn pc O : Nat) (w : World) (hO : w.heap[O]? = some (.cells #[.int .i64 cd, .int .i64 ac, .int .i64 as_, .int .i64 qt, .int .i64 nm, .int .i64 id, .slice la ln lc, .slice pa pn pc] 25 (0, 0))) (hr : BL.RM w mv ml) (ht : BL.Rt av ml) (hq : qt ≤ BL.top) :
    Calls Tryz.prog 53 #[.agg #[.int .i64 av, mv], .pointer (some ⟨O, 0, none⟩)] w fun r w' => TA w.heap.size w' (tuO cd qt nm av ml) r ∧ Below w.heap.size w w' := by
  obtain ⟨ma, mc, hmv⟩ := BL.rm_lt hr
  subst hmv
  have B0 := hide (two_below w (.cells #[.int .i64 av, .slice ma ml.length mc] 60) (.cells #[.int .i64 0, .slice none 0 0] 60))
  have HC := hide (turned_any av cd ac as_ qt nm id _ ml la ln lc pa pn pc _ (hr.later B0.out) ht hq)
  have N0 := two_new w (.cells #[.int .i64 av, .slice ma ml.length mc] 60) (.cells #[.int .i64 0, .slice none 0 0] 60)
  obtain ⟨y0, y1, y2, y3, y4, y5, y6, y7⟩ := eight_cells (blk_later hO B0.out) rfl
  obtain ⟨x0, x1⟩ := pair_cells N0.1 rfl
  have HN := hide N0.2
  clear hr ht N0 hO
  go_enter Tryz.func53, Tryz.ntmps53
  go_wp2_with fail
  refine HC.out.mono ?_
  rintro e w1 ⟨hA, hb⟩
  obtain ⟨a, va, vn, vc, ev, rfl, hfs, hta⟩ := hA
  clear HC
  have B1 := B0.out.trans (hb.mono B0.out.size)
  have NR := blk_later HN.out hb
  have hne : ∀ b, (Value.slice va vn vc).ownBlock = some b → b ≠ (w.heap.size + 1) := fun b hb2 => by have h1 := (hfs b hb2).1; have h2 : (w.heap.size + 1) < _ := (Array.getElem?_eq_some_iff.1 HN.out).1; omega
  obtain ⟨V0, hV0⟩ : ∃ x, w1.setCell ⟨(w.heap.size + 1), 0, none⟩ (.int .i64 a) = x := ⟨_, rfl⟩
  have M0 := setB NR 0 (.int .i64 a) rfl
  have b0 := B1.setCell (p := ⟨(w.heap.size + 1), 0, none⟩) (by show w.heap.size ≤ (w.heap.size + 1); omega) (.int .i64 a)
  have k0 : ∀ b, b ≠ (w.heap.size + 1) → (w1.setCell ⟨(w.heap.size + 1), 0, none⟩ (.int .i64 a)).heap[b]? = w1.heap[b]? := fun b hb2 => Below.heap_setCell w1 ⟨(w.heap.size + 1), 0, none⟩ (.int .i64 a) b hb2
  have s0 : w1.heap.size ≤ (w1.setCell ⟨(w.heap.size + 1), 0, none⟩ (.int .i64 a)).heap.size := by simp
  rw [hV0] at M0 b0 k0 s0
  obtain ⟨V1, hV1⟩ : ∃ x, V0.setCell ⟨(w.heap.size + 1), 1, none⟩ (.slice va vn vc) = x := ⟨_, rfl⟩
  have M1 := setB M0 1 (.slice va vn vc) rfl
  have b1 := b0.setCell (p := ⟨(w.heap.size + 1), 1, none⟩) (by show w.heap.size ≤ (w.heap.size + 1); omega) (.slice va vn vc)
  have k1 : ∀ b, b ≠ (w.heap.size + 1) → (V0.setCell ⟨(w.heap.size + 1), 1, none⟩ (.slice va vn vc)).heap[b]? = V0.heap[b]? := fun b hb2 => Below.heap_setCell V0 ⟨(w.heap.size + 1), 1, none⟩ (.slice va vn vc) b hb2
  have s1 : V0.heap.size ≤ (V0.setCell ⟨(w.heap.size + 1), 1, none⟩ (.slice va vn vc)).heap.size := by simp
  rw [hV1] at M1 b1 k1 s1
  have HDU := hide (DU.keep (m := w.heap.size) hfs hta (Nat.le_trans s0 s1) (fun M hM => rmM_kept hM (Nat.le_trans s0 s1) (fun b hb2 _ => (k1 b (hne b hb2)).trans (k0 b (hne b hb2)))) B0.out.size)
  have HBF := hide b1
  obtain ⟨r0, r1⟩ := pair_cells NR rfl
  obtain ⟨u0, u1⟩ := pair_cells M0 rfl
  obtain ⟨d0, d1⟩ := pair_cells M1 rfl
  have f0 := nofz NR 0
  have f1 := nofz M0 1
  clear hb hfs hta B1 NR hne M0 b0 k0 s0 M1 b1 k1 s1
  go_wp2_with fail
  exact bodyPost_ret (v := .tuple #[.agg #[.int .i64 a, .slice va vn vc], ev]) (by simp [results, Tryz.results53, go_sem, d0, d1]) rfl ⟨HDU.out.ta (Nat.le_refl _), HBF.out⟩
end Go.Proofs.YtdjhbecbbmdimaaGreatDoor
namespace Go.Proofs.YtdjhbecbbmdimaaGreatDoor
open Go.RowKit

def doO (S : Ky → CX) (cd ac as_ qt nm id : Int) (L : List LG.El) (room : Bool) : DO :=
  if cd = 5 then sbO S id L room else if cd = 6 then cnO S id else if cd = 7 then stO S id
  else match tuO cd qt nm (S (ac, as_)).av (S (ac, as_)).ml with
    | .ok a M => .ok 0 (updX S (ac, as_) { S (ac, as_) with av := a, ml := M })
    | .no t x => .no t x
theorem DA.from {w w0 w' : World} {B g n cap : Nat} {E : List En} {o : DO} {r : Ending} (h : DA w0 w' B g n cap E o r) (hb : Below w.heap.size w w0) : DA w w' B g n cap E o r := by
  cases o with
  | no t x => exact ⟨h.1, grown_trans (gr_of hb) h.2⟩
  | ok st S =>
    obtain ⟨E', h1, h2, h3, h4, h5, h6⟩ := h
    exact ⟨E', h1, h2, h3, h4, fun e he b hb2 => (h5 e he b hb2).imp (fun k => k) (fun k => Nat.le_trans hb.size k), grown_trans (gr_of hb) h6⟩
theorem DA.form {w w' : World} {B g n cap : Nat} {E : List En} {o : DO} {r : Ending} (h : DA w w' B g n cap E o r) : ∃ s ev, r = .returned (.tuple #[.int .i64 s, ev]) := by
  cases o with
  | no t x => exact ⟨0, _, h.1⟩
  | ok st S => obtain ⟨E', h1, _⟩ := h; exact ⟨st, _, h1⟩
theorem eg_do1 : ∀ args w, (callFunc 53 args).run Tryz.prog w = .ok (.enter 53 args) w := enters_of Tryz.func53 (by kernel_rfl) rfl
set_option maxRecDepth 100000 in
set_option maxHeartbeats 1000000 in
theorem positionKey_any (cd ac as_ qt nm id : Int) (la : Option Addr) (ln lc : Nat) (pa : Option Addr) (pn pc : Nat) (w : World) :
    Calls Tryz.prog 17 #[.agg #[.int .i64 cd, .int .i64 ac, .int .i64 as_, .int .i64 qt, .int .i64 nm, .int .i64 id, .slice la ln lc, .slice pa pn pc]] w fun r w' => r = .returned (.agg #[.int .i64 ac, .int .i64 as_]) ∧ Below w.heap.size w w' := by
  have B0 := hide (two_below w (.cells #[.int .i64 cd, .int .i64 ac, .int .i64 as_, .int .i64 qt, .int .i64 nm, .int .i64 id, .slice la ln lc, .slice pa pn pc] 25) (.cells #[.int .i64 ac, .int .i64 as_] 39))
  have N0 := alloc_new w (.cells #[.int .i64 cd, .int .i64 ac, .int .i64 as_, .int .i64 qt, .int .i64 nm, .int .i64 id, .slice la ln lc, .slice pa pn pc] 25)
  obtain ⟨y0, y1, y2, y3, y4, y5, y6, y7⟩ := eight_cells N0 rfl
  clear N0
  go_enter Tryz.func17, Tryz.ntmps17
  go_wp2_with fail
  exact bodyPost_ret (v := .agg #[.int .i64 ac, .int .i64 as_]) (by simp [results, Tryz.results17, go_sem]) rfl ⟨rfl, B0.out⟩
set_option maxRecDepth 100000 in
set_option maxHeartbeats 4000000 in
theorem do_any (B g cap : Nat) (E : List En) (S : Ky → CX) (cd ac as_ qt nm id : Int) (lv : Value) (pa : Option Addr) (pn pc : Nat) (L : List LG.El) (room : Bool) (w : World) (hS : SH w B (.slice (some ⟨g, 0, none⟩) E.length cap) E) (hinc : Inc (eks E)) (hX : SX E S) (hR : RtE E) (h0 : 0 < E.length) (h1 : E.length ≤ 1000000)
    (hL : LG.RM w lv L) (hlg : ∀ b, lv.ownBlock = some b → b ≠ g) (hl : L.length ≤ 1000000)
    (hkr : cd = 5 ∨ cd = 6 ∨ cd = 7 → rK id ∈ eks E) (hK : cd = 5 → ∀ l ∈ L, srcK l ∈ eks E ∧ tgtK l ∈ eks E ∧ l.2.2.2.1 ≤ BL.top) (hkp : ¬ (cd = 5 ∨ cd = 6 ∨ cd = 7) → (ac, as_) ∈ eks E ∧ qt ≤ BL.top) :
    Calls Tryz.prog 39 #[.slice (some ⟨g, 0, none⟩) E.length cap, .agg #[.int .i64 cd, .int .i64 ac, .int .i64 as_, .int .i64 qt, .int .i64 nm, .int .i64 id, lv, .slice pa pn pc], .bool room] w fun r w' => DA w w' B g E.length cap E (doO S cd ac as_ qt nm id L room) r := by
  obtain ⟨la, lc, hlv⟩ := LG.rm_lt hL
  subst hlv
  have B0 := hide ((Below.refl w.heap.size w).alloc (Nat.le_refl _) (.cells #[.int .i64 cd, .int .i64 ac, .int .i64 as_, .int .i64 qt, .int .i64 nm, .int .i64 id, .slice la L.length lc, .slice pa pn pc] 25))
  have N0 := hide (alloc_new w (.cells #[.int .i64 cd, .int .i64 ac, .int .i64 as_, .int .i64 qt, .int .i64 nm, .int .i64 id, .slice la L.length lc, .slice pa pn pc] 25))
  obtain ⟨y0, y1, y2, y3, y4, y5, y6, y7⟩ := eight_cells N0.out rfl
  by_cases g5 : cd = 5
  · have HC := hide (submit_any B g cap E S cd ac as_ qt nm id _ pa pn pc L room _ (hS.later B0.out) hinc hX hR (hkr (.inl g5)) h0 h1 (hL.later B0.out) hlg hl (hK g5))
    have HO : Hid (doO S cd ac as_ qt nm id L room = sbO S id L room) := hide (if_pos g5)
    subst g5
    clear hS hinc hX hR hL hlg hkr hK hkp
    go_enter Tryz.func39, Tryz.ntmps39
    go_wp2_with fail
    refine HC.out.mono ?_
    intro r w1 hA
    have hD := hA.from B0.out
    rw [← HO.out] at hD
    obtain ⟨s, ev, rfl⟩ := hD.form
    have HD := hide hD
    clear hA hD HC
    go_wp2_with fail
    go_ret2
    exact HD.out
  · have d5 : decide (cd = 5) = false := by rw [decide_eq_false_iff_not]; exact g5
    by_cases g6 : cd = 6
    · have HC := hide (cancel_any B g cap E S id _ (hS.later B0.out) hinc hX (hkr (.inr (.inl g6))) h1)
      have HO : Hid (doO S cd ac as_ qt nm id L room = cnO S id) := hide ((if_neg g5).trans (if_pos g6))
      subst g6
      clear hS hinc hX hR hL hlg hkr hK hkp d5 g5
      go_enter Tryz.func39, Tryz.ntmps39
      go_wp2_with fail
      refine HC.out.mono ?_
      intro r w1 hA
      have hD := hA.from B0.out
      rw [← HO.out] at hD
      obtain ⟨s, ev, rfl⟩ := hD.form
      have HD := hide hD
      clear hA hD HC
      go_wp2_with fail
      go_ret2
      exact HD.out
    · have d6 : decide (cd = 6) = false := by rw [decide_eq_false_iff_not]; exact g6
      by_cases g7 : cd = 7
      · have HC := hide (status_any B g cap E S id _ (hS.later B0.out) hinc hX (hkr (.inr (.inr g7))) h1)
        have HO : Hid (doO S cd ac as_ qt nm id L room = stO S id) := hide ((if_neg g5).trans ((if_neg g6).trans (if_pos g7)))
        subst g7
        clear hS hinc hX hR hL hlg hkr hK hkp d5 g5 d6 g6
        go_enter Tryz.func39, Tryz.ntmps39
        go_wp2_with fail
        refine HC.out.mono ?_
        intro r w1 hA
        have hD := hA.from B0.out
        rw [← HO.out] at hD
        obtain ⟨s, ev, rfl⟩ := hD.form
        have HD := hide hD
        clear hA hD HC
        go_wp2_with fail
        go_ret2
        exact HD.out
      · have d7 : decide (cd = 7) = false := by rw [decide_eq_false_iff_not]; exact g7
        obtain ⟨hkp1, hkp2⟩ := hkp (fun h => h.elim g5 (fun h => h.elim g6 g7))
        obtain ⟨i, e, hi, hek⟩ := eks_mem hkp1
        have hm := List.mem_of_getElem? hi
        have hcx : S (ac, as_) = e.now.cx := by rw [← hek, ← hX e hm]
        have HO0 : Hid (doO S cd ac as_ qt nm id L room = match tuO cd qt nm e.now.av e.now.ml with
          | .ok a M => .ok 0 (updX S (ac, as_) { e.now.cx with av := a, ml := M })
          | .no t x => .no t x) := hide (by unfold doO; rw [if_neg g5, if_neg g6, if_neg g7, hcx]; rfl)
        have HPK := hide (positionKey_any cd ac as_ qt nm id la L.length lc pa pn pc (w.alloc (.cells #[.int .i64 cd, .int .i64 ac, .int .i64 as_, .int .i64 qt, .int .i64 nm, .int .i64 id, .slice la L.length lc, .slice pa pn pc] 25)))
        have HF := hide (fun (w1 : World) (hb : Below w.heap.size w w1) (hN : w1.heap[w.heap.size]? = some (.cells #[.int .i64 cd, .int .i64 ac, .int .i64 as_, .int .i64 qt, .int .i64 nm, .int .i64 id, .slice la L.length lc, .slice pa pn pc] 25 (0, 0))) (W : World) (hW : Below w1.heap.size w1 W) => (do1_any e.now.av cd ac as_ qt nm id _ e.now.ml la L.length lc pa pn pc w.heap.size W (blk_later hN hW) ((((hS.later hb).ent e hm).2.1).later hW) (hR e hm) hkp2).mono fun r w' ⟨h1, h2⟩ => (⟨h1.mono hW.size, h2⟩ : TA w1.heap.size w' (tuO cd qt nm e.now.av e.now.ml) r ∧ Below W.heap.size W w'))
        have HS := hide hS
        have HX := hide hX
        have HI := hide hinc
        have HII := hide hi
        have HEK := hide hek
        have HG0 : Hid (w.grownBy (w.alloc (.cells #[.int .i64 cd, .int .i64 ac, .int .i64 as_, .int .i64 qt, .int .i64 nm, .int .i64 id, .slice la L.length lc, .slice pa pn pc] 25)) (some g)) := hide (gr_of B0.out)
        clear hS hinc hX hR hL hlg hkr hK hkp hkp1 hi hek hm hcx
        go_enter Tryz.func39, Tryz.ntmps39
        go_wp2_with fail
        refine HPK.out.mono ?_
        rintro r w1 ⟨rfl, hb1⟩
        have B1 := B0.out.trans (hb1.mono B0.out.size)
        have hF := HF.out w1 B1 (blk_later N0.out hb1)
        have hS1 := HS.out.later B1
        have HB1 := hide B1
        cases hc : tuO cd qt nm e.now.av e.now.ml with
        | no t x =>
          rw [hc] at hF
          have hT := turn_no B g cap E i e 53 (.pointer (some ⟨w.heap.size, 0, none⟩)) t x w1 hS1 HI.out HII.out h1 eg_do1 hF
          rw [HEK.out] at hT
          have HT := hide hT
          have HO : Hid (doO S cd ac as_ qt nm id L room = .no t x) := hide (by rw [HO0.out, hc])
          clear hF hS1 B1 hb1 hc hT HO0 HPK
          go_wp2_with fail
          refine HT.out.mono ?_
          rintro r w2 ⟨rfl, hb2⟩
          have HG : Hid (w.grownBy w2 (some g)) := hide (gr_of (HB1.out.trans (hb2.mono HB1.out.size)))
          clear hb2 HT
          go_wp2_with fail
          go_ret2
          rw [HO.out]
          exact ⟨rfl, HG.out⟩
        | ok a M =>
          rw [hc] at hF
          have hT := turn_ok B g cap E i e 53 (.pointer (some ⟨w.heap.size, 0, none⟩)) a M w1 hS1 HI.out HII.out h1 eg_do1 hF
          rw [show (Value.agg #[.int .i64 e.k.1, .int .i64 e.k.2]) = .agg #[.int .i64 ac, .int .i64 as_] by rw [HEK.out]] at hT
          have HT := hide hT
          have HO : Hid (doO S cd ac as_ qt nm id L room = .ok 0 (updX S (ac, as_) { e.now.cx with av := a, ml := M })) := hide (by rw [HO0.out, hc])
          clear hF hS1 B1 hb1 hc hT HO0 HPK
          go_wp2_with fail
          refine HT.out.mono ?_
          rintro r w2 ⟨v, rfl, hS2, hg2, hf2⟩
          have HS2 := hide hS2
          have HG : Hid (w.grownBy w2 (some g)) := hide (grown_trans (gr_of HB1.out) hg2)
          have HKW := hide (KW.one HII.out { e.now with av := a, ml := M, mv := v })
          have HNB : Hid (NB w.heap.size E (E.set i { e with now := { e.now with av := a, ml := M, mv := v } })) := hide (NB.one HII.out { e.now with av := a, ml := M, mv := v } (fun b hb => hb.elim (fun k => .inr (Nat.le_trans HB1.out.size (hf2 b k).1)) (fun k => .inl (.inr k))))
          have HSX : Hid (SX (E.set i { e with now := { e.now with av := a, ml := M, mv := v } }) (updX S (ac, as_) { e.now.cx with av := a, ml := M })) := hide (by rw [← HEK.out]; exact HX.out.one HI.out HII.out { e.now with av := a, ml := M, mv := v })
          clear hS2 hg2 hf2 HT
          go_wp2_with fail
          go_ret2
          rw [HO.out]
          exact ⟨_, rfl, HS2.out, HKW.out, HSX.out, HNB.out, HG.out⟩
end Go.Proofs.YtdjhbecbbmdimaaGreatDoor
