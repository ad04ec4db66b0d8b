/-
  My own text: NP11, NP12 in one.
-/
import Derived.Test.YtbaideeiljeamaaGreatDoorNP10
import Derived.Test.YtbaideeiljeamaaGreatDoorNG2
namespace Go.Proofs.YtbaideeiljeamaaGreatDoor
open Go.RowKit

/-- What the program's tables must hold. -/
structure Wd (w : World) : Prop where
  pow : AM.Pow w
  days : MDays w
  typs : Typs w
  wds : LWds w
theorem Wd.later {w w' : World} (h : Wd w) (hb : Below w.heap.size w w') : Wd w' := ⟨h.pow.later hb, h.days.below hb, h.typs.later hb, h.wds.later hb⟩
theorem PlOk.later {w w' : World} {g : Nat} {n : Ntc} {la : Option Addr} {ln lc : Nat} {pv : Array Value} {out : List TG.Tr} (h : PlOk w g n la ln lc pv out) (hb : Below w.heap.size w w') : PlOk w' g n la ln lc pv out := by
  obtain ⟨h1, h2, h3⟩ := h
  have tr : ∀ {W : World}, Below w'.heap.size w' W → Below w.heap.size w W := fun hW => hb.trans (hW.mono hb.size)
  refine ⟨h1, h2, ?_⟩
  rcases h3 with ⟨h7, th, hB, hT⟩ | ⟨h7, hl, hW⟩
  · refine .inl ⟨h7, th, fun W hW => hB W (tr hW), ?_⟩
    rcases hT with hT | ⟨e, t, ho, hw⟩
    · exact .inl hT
    · exact .inr ⟨e, t, ho, fun W hW => hw W (tr hW)⟩
  · exact .inr ⟨h7, hl, fun m t hm W g' hb' hX => hW m t hm W g' (tr hb') hX⟩
/-- Places and what they write, one by one. -/
def AllOk (w : World) (g : Nat) (n : Ntc) (la : Option Addr) (ln lc : Nat) : List (Array Value) → List (List TG.Tr) → Prop
  | [], [] => True
  | p :: ps, o :: os => PlOk w g n la ln lc p o ∧ AllOk w g n la ln lc ps os
  | _, _ => False
theorem AllOk.len {w : World} {g : Nat} {n : Ntc} {la : Option Addr} {ln lc : Nat} : ∀ {ps : List (Array Value)} {os : List (List TG.Tr)}, AllOk w g n la ln lc ps os → os.length = ps.length
  | [], [], _ => rfl
  | p :: ps, o :: os, h => by rw [List.length_cons, List.length_cons, AllOk.len h.2]
theorem AllOk.at {w : World} {g : Nat} {n : Ntc} {la : Option Addr} {ln lc : Nat} : ∀ {ps : List (Array Value)} {os : List (List TG.Tr)}, AllOk w g n la ln lc ps os → ∀ (k : Nat) (pv : Array Value) (o : List TG.Tr), ps[k]? = some pv → os[k]? = some o → PlOk w g n la ln lc pv o
  | [], [], _, k, pv, o, h1, _ => by simp at h1
  | p :: ps, q :: os, h, 0, pv, o, h1, h2 => by
    simp at h1 h2; subst h1 h2; exact h.1
  | p :: ps, q :: os, h, k + 1, pv, o, h1, h2 => by
    simp at h1 h2; exact AllOk.at h.2 k pv o h1 h2
/-- A row of places in every later world. -/
theorem row_any {w : World} {b c g : Nat} {n : Ntc} {la : Option Addr} {ln lc : Nat} {pvs : List (Array Value)} {outs : List (List TG.Tr)} (kids : List TG.Tr) {K : Nat} (hk : outs.flatten = kids) (hn : NOk n) (hX : Bx w g n (.slice la ln lc)) (hP : PR8 w b pvs) (hA : AllOk w g n la ln lc pvs outs)
    (hK : pvs.length = K) (hsz : K ≤ 100) (hln : ln ≤ 100) (hlc : ln ≤ lc) (hla : 0 < ln → ∃ lb lo, la = some ⟨lb, lo, none⟩) (hfl : kids.length ≤ 900) :
    ∀ W : World, Below w.heap.size w W → Calls Tryz.prog 15 #[.slice (some ⟨b, 0, none⟩) K c, .pointer (some ⟨g, 0, none⟩)] W fun e w' => ∃ ka kc, e = .returned (.slice ka kids.length kc) ∧ TG.PA w' (fun x => W.heap.size ≤ x ∧ x < w'.heap.size) (.slice ka kids.length kc) kids ∧ Below W.heap.size W w' := by
  intro W hW
  subst hk hK
  have hP2 := hP.low hW
  exact nwrite_any pvs outs b c g n la ln lc W hn (hX.later hW) hA.len hP2.1 hP2.2 (fun k pv o h1 h2 => (hA.at k pv o h1 h2).later hW) hsz hln hlc hla hfl
theorem f8_one (a b : List UInt8) (x y z : Value) (hx : x.oneCell' = true) (hy : y.oneCell' = true) (hz : z.oneCell' = true) : (fP a b x y z).all (·.oneCell') = true := by
  rw [← Array.all_toList]
  refine List.all_eq_true.2 fun u hu => ?_
  simp only [fP, List.mem_cons, List.not_mem_nil, or_false] at hu
  rcases hu with rfl | rfl | rfl | rfl | rfl | rfl | rfl | rfl <;> first | rfl | assumption
theorem b8_one (a : List UInt8) (x z : Value) (k : Bool) (hx : x.oneCell' = true) (hz : z.oneCell' = true) : (bP a x z k).all (·.oneCell') = true := by
  rw [← Array.all_toList]
  refine List.all_eq_true.2 fun u hu => ?_
  simp only [bP, List.mem_cons, List.not_mem_nil, or_false] at hu
  rcases hu with rfl | rfl | rfl | rfl | rfl | rfl | rfl | rfl <;> first | rfl | assumption
/-- A field's place. -/
theorem fOk {w : World} {g : Nat} {n : Ntc} {la : Option Addr} {ln lc : Nat} (fid : FuncId) (caps : Array Value) (tag qual T : List UInt8) (tk th : Value) (ht : tk.oneCell' = true) (hh : th.oneCell' = true) (y : Bool) (hE : ∀ (W : World) (a : Array Value), (callFunc fid a).run Tryz.prog W = .ok (.enter fid a) W)
    (hB : ∀ W : World, Below w.heap.size w W → Calls Tryz.prog 37 #[.agg (fP tag qual (.func (Fn.func fid) #[] caps) tk th), .pointer (some ⟨g, 0, none⟩)] W fun e w' => e = .returned (.bool y) ∧ Below W.heap.size W w')
    (hT : y = true → ∀ W : World, Below w.heap.size w W → Calls Tryz.prog fid (#[.pointer (some ⟨g, 0, none⟩)] ++ caps) W fun e w' => e = .returned (.string ⟨T.toArray⟩) ∧ Below W.heap.size W w') :
    PlOk w g n la ln lc (fP tag qual (.func (Fn.func fid) #[] caps) tk th) (if y then [fldT tag qual T] else []) := by
  refine ⟨rfl, f8_one _ _ _ _ _ rfl ht hh, .inl ⟨rfl, y, hB, ?_⟩⟩
  cases y
  · exact .inl ⟨rfl, rfl⟩
  · refine .inr ⟨rfl, _, rfl, fun W hW => ?_⟩
    refine (placeField_any fid caps tag qual T tk th false g W hE (fun W2 h2 => hT rfl W2 (hW.trans (h2.mono hW.size)))).mono ?_
    rintro e w' ⟨rfl, hb⟩
    exact ⟨none, 0, rfl, TG.PA.nil _ _, hb⟩
/-- A block's place. -/
theorem bOk {w : World} {g : Nat} {n : Ntc} {la : Option Addr} {ln lc : Nat} (nm : List UInt8) (va : Option Addr) (vn vc : Nat) (kids : List TG.Tr) (th : Value) (hh : th.oneCell' = true) (y : Bool) (hnm : nm.isEmpty = false)
    (hB : ∀ W : World, Below w.heap.size w W → Calls Tryz.prog 37 #[.agg (bP nm (.slice va vn vc) th false), .pointer (some ⟨g, 0, none⟩)] W fun e w' => e = .returned (.bool y) ∧ Below W.heap.size W w')
    (hT : y = true → ∀ W : World, Below w.heap.size w W → Calls Tryz.prog 15 #[.slice va vn vc, .pointer (some ⟨g, 0, none⟩)] W fun e w' => ∃ ka kc, e = .returned (.slice ka kids.length kc) ∧ TG.PA w' (fun x => W.heap.size ≤ x ∧ x < w'.heap.size) (.slice ka kids.length kc) kids ∧ Below W.heap.size W w') :
    PlOk w g n la ln lc (bP nm (.slice va vn vc) th false) (if y then [blkT nm kids] else []) := by
  refine ⟨rfl, b8_one _ _ _ _ rfl hh, .inl ⟨rfl, y, hB, ?_⟩⟩
  cases y
  · exact .inl ⟨rfl, rfl⟩
  · refine .inr ⟨rfl, _, rfl, fun W hW => ?_⟩
    exact placeBlock_any nm .nilFunc .nilFunc th false va vn vc kids g W hnm (fun W2 h2 => hT rfl W2 (hW.trans (h2.mono hW.size)))
theorem fAll {w : World} {g : Nat} {n : Ntc} {la : Option Addr} {ln lc : Nat} (fid : FuncId) (caps : Array Value) (tag qual T : List UInt8) (tk : Value) (ht : tk.oneCell' = true) (hE : ∀ (W : World) (a : Array Value), (callFunc fid a).run Tryz.prog W = .ok (.enter fid a) W)
    (hT : ∀ W : World, Below w.heap.size w W → Calls Tryz.prog fid (#[.pointer (some ⟨g, 0, none⟩)] ++ caps) W fun e w' => e = .returned (.string ⟨T.toArray⟩) ∧ Below W.heap.size W w') :
    PlOk w g n la ln lc (fP tag qual (.func (Fn.func fid) #[] caps) tk .nilFunc) [fldT tag qual T] :=
  fOk fid caps tag qual T tk .nilFunc ht rfl true hE (fun W _ => belongsAll_any _ _ _ _ _ _ _ g W) (fun _ => hT)
theorem bAll {w : World} {g : Nat} {n : Ntc} {la : Option Addr} {ln lc : Nat} (nm : List UInt8) (va : Option Addr) (vn vc : Nat) (kids : List TG.Tr) (hnm : nm.isEmpty = false)
    (hT : ∀ W : World, Below w.heap.size w W → Calls Tryz.prog 15 #[.slice va vn vc, .pointer (some ⟨g, 0, none⟩)] W fun e w' => ∃ ka kc, e = .returned (.slice ka kids.length kc) ∧ TG.PA w' (fun x => W.heap.size ≤ x ∧ x < w'.heap.size) (.slice ka kids.length kc) kids ∧ Below W.heap.size W w') :
    PlOk w g n la ln lc (bP nm (.slice va vn vc) .nilFunc false) [blkT nm kids] :=
  bOk nm va vn vc kids .nilFunc rfl true hnm (fun W _ => belongsAll_any _ _ _ _ _ _ _ g W) (fun _ => hT)
theorem app1 (a : Value) : (#[a] : Array Value) ++ #[] = #[a] := rfl
theorem app2 (a b : Value) : (#[a] : Array Value) ++ #[b] = #[a, b] := rfl
theorem Bx.nx {w : World} {g : Nat} {n : Ntc} {v : Value} (h : Bx w g n v) : ∀ {W : World}, Below w.heap.size w W → Bx W g n v := fun hW => h.later hW
set_option maxRecDepth 100000 in
/-- The row of a link's block. -/
theorem rowL_ok {w : World} {g c4 lb lo m lc : Nat} {n : Ntc} (p : Lnk) (hn : NOk n) (hX : Bx w g n (.slice (some ⟨lb, lo, none⟩) (m + 1) lc)) (hm : m ≤ 1000) (hF : w.cell? ⟨c4, 0, none⟩ = some (.func (Fn.func 48) #[] #[])) (h0 : w.cell? ⟨lb, lo + m * 2, none⟩ = some (.int .i64 p.1)) (h1 : w.cell? ⟨lb, lo + m * 2 + 1, none⟩ = some (.string ⟨p.2.toArray⟩)) (hk : 1 ≤ p.1 ∧ p.1 ≤ 3) (hl : p.2.length ≤ 140737488355328) (hW : Wd w) :
    AllOk w g n (some ⟨lb, lo, none⟩) (m + 1) lc (rowL c4) [[fldT [50, 50, 70] [76, 73, 78, 75] (kindT p.1)], [fldT [50, 48, 67] [82, 69, 76, 65] p.2]] := by
  refine ⟨fAll _ _ _ _ _ _ rfl (fun _ _ => rfl) (fun W hb => ?_), fAll _ _ _ _ _ _ rfl (fun _ _ => rfl) (fun W hb => ?_), trivial⟩
  · rw [app1]; exact tellKind_any n lb lo m lc g p.1 W hn (hX.later hb) hm (cell_later hb h0) hk.1 hk.2 (hW.wds.later hb)
  · rw [app2]; exact tellRela_any n lb lo m lc g c4 p.2 W hn (hX.later hb) hm (cell_later hb hF) (cell_later hb h1) hl
set_option maxRecDepth 100000 in
/-- The place of links. -/
theorem lOk {w : World} {g c4 bL : Nat} {n : Ntc} {la : Option Addr} {lc : Nat} {ls : List Lnk} (hn : NOk n) (hG : Good n ls) (hLO : LOk ls) (hR : RL w (.slice la ls.length lc) ls) (hF : w.cell? ⟨c4, 0, none⟩ = some (.func (Fn.func 48) #[] #[])) (hP : PR8 w bL (rowL c4)) (hW : Wd w) (hlc : ls.length ≤ lc) :
    PlOk w g n la ls.length lc (bP [76, 73, 78, 75] (.slice (some ⟨bL, 0, none⟩) 2 2) .nilFunc true) (ls.map linkT) := by
  refine ⟨rfl, b8_one _ _ _ _ rfl rfl, .inr ⟨rfl, by simp, fun m t hm W g' hb hX => ?_⟩⟩
  rw [List.getElem?_map] at hm
  obtain ⟨p, hp, rfl⟩ := Option.map_eq_some_iff.1 hm
  have hml : m < ls.length := (List.getElem?_eq_some_iff.1 hp).1
  have hmem : p ∈ ls := List.mem_of_getElem? hp
  obtain ⟨a, cap, hv, hc⟩ := hR
  injection hv with e1 e2 e3
  subst e1 e3
  rcases hc with rfl | ⟨lb, lo, rfl, hlt, hc⟩
  · simp at hml
  have h0 := cell_later hb (hc m p hp).1
  have h1 := cell_later hb (hc m p hp).2
  have hf := hG.few
  exact placeBlock_any [76, 73, 78, 75] .nilFunc .nilFunc .nilFunc true (some ⟨bL, 0, none⟩) 2 2 _ g' W rfl
    (row_any _ rfl hn hX (hP.low hb) (rowL_ok p hn hX (by omega) (cell_later hb hF) h0 h1 (hG.kinds p hmem) (hLO p hmem) (hW.later hb)) rfl (by decide) (by omega) (by omega) (fun _ => ⟨lb, lo, rfl⟩) (show (2 : Nat) ≤ 900 by decide))

set_option maxRecDepth 100000 in
set_option maxHeartbeats 4000000 in
/-- The message of a right notice. -/
theorem msgWrite_any {w : World} {g bM : Nat} {n : Ntc} {la : Option Addr} {lc : Nat} {ls : List Lnk} (hn : NOk n) (hG : Good n ls) (hLO : LOk ls) (hq1 : n.qty ≤ 9223372036854775807) (ha1 : n.amt ≤ 9223372036854775807) (hX : Bx w g n (.slice la ls.length lc)) (hR : RL w (.slice la ls.length lc) ls) (hlc : ls.length ≤ lc) (hW : Wd w) (hM : MsgM w bM) :
    ∀ W : World, Below w.heap.size w W → Calls Tryz.prog 15 #[.slice (some ⟨bM, 0, none⟩) 4 4, .pointer (some ⟨g, 0, none⟩)] W fun e w' => ∃ ka kc, e = .returned (.slice ka (msgT n ls).length kc) ∧ TG.PA w' (fun x => W.heap.size ≤ x ∧ x < w'.heap.size) (.slice ka (msgT n ls).length kc) (msgT n ls) ∧ Below W.heap.size W w' := by
  obtain ⟨c1, c2, c4, c5, c6, c7, c8, c9, c10, bL, bG, bT, bF, bS, bA, bD, f1, f2, f4, f5, f6, f7, f8, f9, f10, pL, pG, pT, pF, pS, pA, pD, pM⟩ := hM
  have hfew := hG.few
  have hla : 0 < ls.length → ∃ lb lo, la = some ⟨lb, lo, none⟩ := fun hp => by
    obtain ⟨a, cap, hv, hc⟩ := hR
    injection hv with e1 e2 e3
    subst e1 e3
    rcases hc with rfl | ⟨lb, lo, rfl, _⟩
    · simp at hp
    · exact ⟨lb, lo, rfl⟩
  have kG : AllOk w g n la ls.length lc (rowG c1 c2 bL) [[fldT [50, 48, 67] [83, 69, 77, 69] n.ref], [fldT [50, 51, 71] [] (funcT n)], [fldT [50, 50, 70] [84, 89, 80, 69] (typeT n)], if n.cn then [fldT [50, 48, 67] [80, 82, 69, 86] n.prev] else [], ls.map linkT] := by
    refine ⟨fAll _ _ _ _ _ _ rfl (fun _ _ => rfl) (fun W hb => ?_), fAll _ _ _ _ _ _ rfl (fun _ _ => rfl) (fun W hb => ?_), fAll _ _ _ _ _ _ rfl (fun _ _ => rfl) (fun W hb => ?_), fOk _ _ _ _ _ _ _ rfl rfl n.cn (fun _ _ => rfl) (fun W hb => ?_) (fun _ W hb => ?_), lOk hn hG hLO hR f4 pL hW hlc, trivial⟩
    · rw [app2]; exact tellRef_any g c1 g 0 n.ref W (cell_later hb f1) (atRef_any g W) ((hX.later hb).ref hn.code) hn.ref
    · rw [app1]; exact tellFunction_any n _ g W hn (hX.later hb)
    · rw [app1]; exact tellType_any n _ g W hn (hX.later hb) (hW.typs.later hb)
    · exact belongsIf_any 45 n.cn _ _ _ _ _ _ _ g W (fun _ _ => rfl) (fun W2 h2 => isCancel_any n _ g W2 hn ((hX.later hb).later h2))
    · rw [app2]; exact tellPrev_any g c2 g 1 n.prev W (cell_later hb f2) (atPrev_any g W) ((hX.later hb).prev hn.code) hn.prev
  have kT : AllOk w g n la ls.length lc (rowT c5 c6) [[fldT [57, 56, 65] [84, 82, 65, 68] (dayT n.tr)], [fldT [57, 56, 65] [83, 69, 84, 84] (dayT n.st)], [fldT [51, 53, 66] [] (codeT n)], [fldT [50, 50, 70] [80, 82, 73, 82] (pdT n.pri.toNat 4)]] := by
    refine ⟨fAll _ _ _ _ _ _ rfl (fun _ _ => rfl) (fun W hb => ?_), fAll _ _ _ _ _ _ rfl (fun _ _ => rfl) (fun W hb => ?_), fAll _ _ _ _ _ _ rfl (fun _ _ => rfl) (fun W hb => ?_), fAll _ _ _ _ _ _ rfl (fun _ _ => rfl) (fun W hb => ?_), trivial⟩
    · rw [app2]; exact tellTrade_any g c5 g 5 n.tr W (cell_later hb f5) (atTrade_any g W) ((hX.later hb).tr hn.code) hG.tr (hW.pow.later hb) (hide (hW.days.below hb))
    · rw [app2]; exact tellSettle_any g c6 g 6 n.st W (cell_later hb f6) (atSettle_any g W) ((hX.later hb).st hn.code) hG.st (hW.pow.later hb) (hide (hW.days.below hb))
    · rw [app1]; exact tellCode_any n _ g W hn (hX.later hb)
    · rw [app1]; exact tellPriority_any n _ g W hn (hX.later hb) (hW.pow.later hb) hG.pri0 hG.pri1
  have kF : AllOk w g n la ls.length lc (rowF c7) [[fldT [51, 54, 66] [83, 69, 84, 84] (qtyT n)], [fldT [57, 55, 65] [83, 65, 70, 69] n.acc]] := by
    refine ⟨fAll _ _ _ _ _ _ rfl (fun _ _ => rfl) (fun W hb => ?_), fAll _ _ _ _ _ _ rfl (fun _ _ => rfl) (fun W hb => ?_), trivial⟩
    · rw [app1]; exact tellQty_any n _ g W hn (hX.later hb) (hW.pow.later hb) hG.qty0 hq1
    · rw [app2]; exact tellAccount_any g c7 g 20 n.acc W (cell_later hb f7) (atAccount_any g W) ((hX.later hb).acc hn.code) hn.acc
  have kS : AllOk w g n la ls.length lc (rowS c8 c9 c10) [if n.rc then [fldT [57, 53, 80] [68, 69, 65, 71] n.agt] else [], if !n.rc then [fldT [57, 53, 80] [82, 69, 65, 71] n.agt] else [], [fldT [57, 55, 65] [83, 65, 70, 69] n.oth]] := by
    refine ⟨fOk _ _ _ _ _ _ _ rfl rfl n.rc (fun _ _ => rfl) (fun W hb => ?_) (fun _ W hb => ?_), fOk _ _ _ _ _ _ _ rfl rfl (!n.rc) (fun _ _ => rfl) (fun W hb => ?_) (fun _ W hb => ?_), fAll _ _ _ _ _ _ rfl (fun _ _ => rfl) (fun W hb => ?_), trivial⟩
    · exact belongsIf_any 61 n.rc _ _ _ _ _ _ _ g W (fun _ _ => rfl) (fun W2 h2 => isReceive_any n _ g W2 hn ((hX.later hb).later h2))
    · rw [app2]; exact tellAgent_any g c8 g 21 n.agt W (cell_later hb f8) (atAgent_any g W) ((hX.later hb).agt hn.code) hn.agt
    · exact belongsIf_any 62 (!n.rc) _ _ _ _ _ _ _ g W (fun _ _ => rfl) (fun W2 h2 => isDeliver_any n _ g W2 hn ((hX.later hb).later h2))
    · rw [app2]; exact tellAgent_any g c9 g 21 n.agt W (cell_later hb f9) (atAgent_any g W) ((hX.later hb).agt hn.code) hn.agt
    · rw [app2]; exact tellOther_any g c10 g 22 n.oth W (cell_later hb f10) (atOther_any g W) ((hX.later hb).oth hn.code) hn.oth
  have kA : n.py = true → AllOk w g n la ls.length lc rowA [[fldT [49, 57, 65] [83, 69, 84, 84] (monT n)]] := fun hpy => by
    refine ⟨fAll _ _ _ _ _ _ rfl (fun _ _ => rfl) (fun W hb => ?_), trivial⟩
    rw [app1]; exact tellMoney_any n _ g W hn (hX.later hb) (hW.pow.later hb) (hG.amt0 hpy) ha1 (hG.cur hpy)
  have eS : (([if n.rc then [fldT [57, 53, 80] [68, 69, 65, 71] n.agt] else [], if !n.rc then [fldT [57, 53, 80] [82, 69, 65, 71] n.agt] else [], [fldT [57, 55, 65] [83, 65, 70, 69] n.oth]]) : List (List TG.Tr)).flatten = sidesT n := by
    unfold sidesT sideT; cases n.rc <;> rfl
  have kD : AllOk w g n la ls.length lc (rowD bS bA) [[blkT [83, 69, 84, 80, 82, 84, 89] (sidesT n)], if n.py then [amtT n] else []] := by
    refine ⟨bAll _ _ _ _ _ rfl (row_any _ eS hn hX pS kS rfl (by decide) (by omega) hlc hla (by simp [sidesT])), bOk _ _ _ _ _ _ rfl n.py rfl (fun W hb => ?_) (fun hpy => row_any _ rfl hn hX pA (kA hpy) rfl (by decide) (by omega) hlc hla (by simp)), trivial⟩
    exact belongsIf_any 64 n.py _ _ _ _ _ _ _ g W (fun _ _ => rfl) (fun W2 h2 => isPay_any n _ g W2 hn ((hX.later hb).later h2))
  have eG : (([[fldT [50, 48, 67] [83, 69, 77, 69] n.ref], [fldT [50, 51, 71] [] (funcT n)], [fldT [50, 50, 70] [84, 89, 80, 69] (typeT n)], if n.cn then [fldT [50, 48, 67] [80, 82, 69, 86] n.prev] else [], ls.map linkT]) : List (List TG.Tr)).flatten = genlT n ls := by
    unfold genlT gen4T gen3T; cases n.cn <;> simp
  have eD : (([[blkT [83, 69, 84, 80, 82, 84, 89] (sidesT n)], if n.py then [amtT n] else []]) : List (List TG.Tr)).flatten = setdT n := by
    unfold setdT; cases n.py <;> simp
  have lG : (genlT n ls).length ≤ 900 := by
    unfold genlT gen4T gen3T; cases n.cn <;> simp <;> omega
  have lD : (setdT n).length ≤ 900 := by
    unfold setdT; cases n.py <;> simp
  have kM : AllOk w g n la ls.length lc (rowM bG bT bF bD) [[blkT [71, 69, 78, 76] (genlT n ls)], [blkT [84, 82, 65, 68, 68, 69, 84] (tradT n)], [blkT [70, 73, 65, 67] (fiacT n)], [blkT [83, 69, 84, 68, 69, 84] (setdT n)]] :=
    ⟨bAll _ _ _ _ _ rfl (row_any _ eG hn hX pG kG rfl (by decide) (by omega) hlc hla lG), bAll _ _ _ _ _ rfl (row_any (tradT n) rfl hn hX pT kT rfl (by decide) (by omega) hlc hla (show (4 : Nat) ≤ 900 by decide)), bAll _ _ _ _ _ rfl (row_any (fiacT n) rfl hn hX pF kF rfl (by decide) (by omega) hlc hla (show (2 : Nat) ≤ 900 by decide)), bAll _ _ _ _ _ rfl (row_any _ eD hn hX pD kD rfl (by decide) (by omega) hlc hla lD), trivial⟩
  exact row_any (msgT n ls) rfl hn hX pM kM rfl (by decide) (by omega) hlc hla (by simp [msgT])
end Go.Proofs.YtbaideeiljeamaaGreatDoor
namespace Go.Proofs.YtbaideeiljeamaaGreatDoor
open Go.RowKit

set_option maxRecDepth 100000 in
set_option maxHeartbeats 2000000 in
/-- A right notice is written. -/
theorem nWrite_ok (n : Ntc) (la : Option Addr) (lc : Nat) (ls : List Lnk) (w : World) (hn : NOk n) (h0 : noticeE n ls = 0) (hL : LOk ls) (hq1 : n.qty ≤ 9223372036854775807) (ha1 : n.amt ≤ 9223372036854775807) (hR : RL w (.slice la ls.length lc) ls) (hlc : ls.length ≤ lc) (hW : Wd w) (HO : Hid (LC.HeadOffice w)) :
    Calls Tryz.prog 6 #[.agg (nC n (.slice la ls.length lc))] w fun e w' => (∃ ka kc, e = .returned (.tuple #[.slice ka (msgT n ls).length kc, .nilIface]) ∧ TG.PA w' (fun x => w.heap.size ≤ x ∧ x < w'.heap.size) (.slice ka (msgT n ls).length kc) (msgT n ls)) ∧ Below w.heap.size w w' := by
  have hG := notice_good h0
  have hfew := hG.few
  have HCK := hide (fun (W : World) (h : RL W (.slice la ls.length lc) ls) (h1 : Hid (MDays W)) (h2 : Hid (LC.HeadOffice W)) => nCheck_any n (.slice la ls.length lc) ls W hn h hL (by omega) h1 h2)
  have e0 : (if termsE n ≠ 0 then termsE n else linksE n.ref ls) = 0 := h0
  rw [e0, errV_zero] at HCK
  have HMS := hide (fun W : World => message_any W)
  have HMW := hide (fun (W : World) (g bM : Nat) (hX : Bx W g n (.slice la ls.length lc)) (hR : RL W (.slice la ls.length lc) ls) (hW : Wd W) (hM : MsgM W bM) => msgWrite_any hn hG hL hq1 ha1 hX hR hlc hW hM W (Below.refl _ _))
  have HSZ : Hid ((Tryz.prog.info? 26).map (·.size) = some (nC n (.slice la ls.length lc)).size) := by show _ = _; rw [nC_size n _ hn.code]; exact Tryz.sizeNtc
  have HRL := hide hR
  have HW := hide hW
  have X0 := hide (Bx.new w n (.slice la ls.length lc))
  have B0 := hide ((Below.refl w.heap.size w).alloc (Nat.le_refl _) (.cells (nC n (.slice la ls.length lc)) 26))
  clear hn hL hR hlc hW hG hfew e0 h0 hq1 ha1
  generalize msgT n ls = M at *
  go_enter Tryz.func6, Tryz.ntmps6
  go_wp2_with (refine wpList_load_row rfl 26 (.tmp 1) rfl w.heap.size rfl _ (nC n (.slice la ls.length lc)) _ _ X0.out Tryz.underlying26 rfl HSZ.out ?_)
  refine (HCK.out _ (HRL.out.later B0.out) (hide (HW.out.days.below B0.out)) (hide (HO.out.below B0.out))).mono ?_
  rintro e w1 ⟨rfl, hb1⟩
  have X1 := hide (X0.out.later hb1)
  have B1 := hide (B0.out.trans (hb1.mono B0.out.size))
  clear hb1 X0 B0
  go_wp2_with fail
  refine (HMS.out _).mono ?_
  rintro e w2 ⟨bM, rfl, hM, hb2⟩
  have X2 := hide (X1.out.later hb2)
  have B2 := hide (B1.out.trans (hb2.mono B1.out.size))
  have HM2 := hide hM
  clear hb2 X1 B1 hM
  go_wp2_with fail
  refine (HMW.out _ _ _ X2.out (HRL.out.later B2.out) (HW.out.later B2.out) HM2.out).mono ?_
  rintro e w3 ⟨ka, kc, rfl, hpa, hb3⟩
  have B3 := hide (B2.out.trans (hb3.mono B2.out.size))
  have HPA := hide hpa
  have S2 := hide B2.out.size
  clear hb3 hpa
  go_wp2_with fail
  go_ret2
  exact ⟨⟨ka, kc, rfl, TG.PA_kept (fun _ _ _ => rfl) (Nat.le_refl _) (fun x hx _ => ⟨by have := S2.out; omega, hx.2⟩) _ _ _ (Nat.le_refl _) HPA.out⟩, B3.out⟩
set_option maxRecDepth 100000 in
set_option maxHeartbeats 2000000 in
/-- A wrong one is refused. -/
theorem nWrite_bad (n : Ntc) (v : Value) (ls : List Lnk) (w : World) (hn : NOk n) (h0 : noticeE n ls ≠ 0) (hL : LOk ls) (hR : RL w v ls) (hlen : ls.length ≤ 9223372036854775807) (HM : Hid (MDays w)) (HO : Hid (LC.HeadOffice w)) :
    Calls Tryz.prog 6 #[.agg (nC n v)] w fun e w' => e = .returned (.tuple #[.slice none 0 0, errV (noticeE n ls)]) ∧ Below w.heap.size w w' := by
  have HCK : Hid (∀ W : World, RL W v ls → Hid (MDays W) → Hid (LC.HeadOffice W) → Calls Tryz.prog 14 #[.agg (nC n v)] W fun e w' => e = .returned (errV (noticeE n ls)) ∧ Below W.heap.size W w') := hide (fun W h h1 h2 => nCheck_any n v ls W hn h hL hlen h1 h2)
  have HSZ : Hid ((Tryz.prog.info? 26).map (·.size) = some (nC n v).size) := by show _ = _; rw [nC_size n _ hn.code]; exact Tryz.sizeNtc
  have hp : errV (noticeE n ls) = .iface 50 (.int .i64 (noticeE n ls)) := errV_pos (by have := (noticeE_in n ls).1; omega)
  have HRL := hide hR
  have X0 := hide (Bx.new w n v)
  have B0 := hide ((Below.refl w.heap.size w).alloc (Nat.le_refl _) (.cells (nC n v) 26))
  rw [hp] at HCK ⊢
  clear hn hL hR hlen h0 hp
  generalize noticeE n ls = N at *
  go_enter Tryz.func6, Tryz.ntmps6
  go_wp2_with (refine wpList_load_row rfl 26 (.tmp 1) rfl w.heap.size rfl _ (nC n v) _ _ X0.out Tryz.underlying26 rfl HSZ.out ?_)
  refine (HCK.out _ (HRL.out.later B0.out) (hide (HM.out.below B0.out)) (hide (HO.out.below B0.out))).mono ?_
  rintro e w1 ⟨rfl, hb1⟩
  have B1 := hide (B0.out.trans (hb1.mono B0.out.size))
  clear hb1 X0 B0
  go_wp2_with fail
  go_ret2
  exact ⟨rfl, B1.out⟩
end Go.Proofs.YtbaideeiljeamaaGreatDoor
