/-
  My own text: VS3, VS4 in one.
-/
import Derived.Test.YtdjhbecbbmdimaaGreatDoorVS2
import Derived.Test.YtdjhbecbbmdimaaGreatDoorBM2
namespace Go.Proofs.YtdjhbecbbmdimaaGreatDoor
open Go.RowKit

/-- What a turn answers. -/
inductive TO where
  | ok (a : Int) (M : List BL.Mk)
  | no (t : TypeId) (x : Value)
def TA (n : Nat) (w' : World) (o : TO) (r : Ending) : Prop := match o with
  | .no t x => r = .returned (.tuple #[.agg #[.int .i64 0, .slice none 0 0], .iface t x])
  | .ok a M => ∃ v, r = .returned (.tuple #[.agg #[.int .i64 a, v], .nilIface]) ∧ BL.RM w' v M ∧ Fsh n w' v
theorem CA.of {w : World} {B g n cap : Nat} {E : List En} (h : SH w B (.slice (some ⟨g, 0, none⟩) n cap) E) {e : En} (he : e ∈ E) {v : Value} {w2 : World} (hv : Fsh w.heap.size w2 v) {a : Int} {M : List BL.Mk} : CA (.slice (some ⟨g, 0, none⟩) n cap) { e.now with av := a, ml := M, mv := v } := by
  intro b hb
  have hg : g < w.heap.size := by
    rcases h.own.2 with ⟨hv, _⟩ | ⟨g', cap', cur, hv, _, hh, _⟩
    · cases hv
    · injection hv with e1 e2 e3
      injection e1 with e4
      injection e4 with e5 e6 e7
      subst e5
      exact (Array.getElem?_eq_some_iff.1 hh).1
  cases hb
  refine ⟨fun e1 => ?_, ((h.ap e he).2 g rfl).2⟩
  have := (hv g e1).1
  omega
set_option maxRecDepth 100000 in
set_option maxHeartbeats 2000000 in
theorem turn_no (B g cap : Nat) (E : List En) (i : Nat) (e : En) (fid : FuncId) (cp : Value) (t : TypeId) (x : Value) (w : World) (hS : SH w B (.slice (some ⟨g, 0, none⟩) E.length cap) E) (hinc : Inc (eks E)) (hi : E[i]? = some e) (h1 : E.length ≤ 1000000)
    (eg : ∀ args w, (callFunc fid args).run Tryz.prog w = .ok (.enter fid args) w)
    (hF : ∀ W, Below w.heap.size w W → Calls Tryz.prog fid #[.agg #[.int .i64 e.now.av, e.now.mv], cp] W fun r w' => TA w.heap.size w' (.no t x) r ∧ Below W.heap.size W w') :
    Calls Tryz.prog 52 #[.slice (some ⟨g, 0, none⟩) E.length cap, .agg #[.int .i64 e.k.1, .int .i64 e.k.2], .func (Fn.func fid) #[] #[cp]] w fun r w' => r = .returned (.iface t x) ∧ Below w.heap.size w w' := by
  have hil := (List.getElem?_eq_some_iff.1 hi).1
  have B0 := hide ((Below.refl w.heap.size w).alloc (Nat.le_refl _) (.cells #[.int .i64 e.k.1, .int .i64 e.k.2] 39))
  obtain ⟨y0, y1⟩ := pair_cells (alloc_new w (.cells #[.int .i64 e.k.1, .int .i64 e.k.2] 39)) rfl
  have HA := hide (at_any B g cap E i e _ (hS.later B0.out) hinc hi h1)
  have HS := hide hS
  have HI := hide hi
  have HF := hide hF
  clear hS hinc hi hF
  go_enter Tryz.func52, Tryz.ntmps52
  go_wp2_with fail
  refine HA.out.mono ?_
  rintro r w1 ⟨rfl, hb⟩
  have B1 := hide (B0.out.trans (hb.mono B0.out.size))
  have hcs := (HS.out.later B1.out).cells HI.out
  have c6 := hcs.2.2.2.2.2.2.1
  have c7 : w1.cell? ⟨g, i * 10 + 6 + 1, none⟩ = some e.now.mv := hcs.2.2.2.2.2.2.2.1
  have HC := hide (HF.out w1 B1.out)
  obtain ⟨ma, mc, hmv⟩ := BL.rm_lt ((HS.out.later B1.out).ent e (List.mem_of_getElem? HI.out)).2.1
  generalize e.now.mv = mv at c7 HC hmv
  subst hmv
  clear hb hcs HA y0 y1
  go_wp2_with fail
  refine HC.out.mono ?_
  rintro r w2 ⟨hr, hb⟩
  have hr2 : r = .returned (.tuple #[.agg #[.int .i64 0, .slice none 0 0], .iface t x]) := hr
  subst hr2
  have B2 := hide ((B1.out.trans (hb.mono B1.out.size)).alloc (Nat.le_trans B1.out.size hb.size) (.cells #[.int .i64 0, .slice none 0 0] 60))
  clear hr hb HC c6 c7
  go_wp2_with fail
  go_ret
  exact ⟨rfl, B2.out⟩
set_option maxRecDepth 100000 in
set_option maxHeartbeats 2000000 in
theorem turn_ok (B g cap : Nat) (E : List En) (i : Nat) (e : En) (fid : FuncId) (cp : Value) (a : Int) (M : List BL.Mk) (w : World) (hS : SH w B (.slice (some ⟨g, 0, none⟩) E.length cap) E) (hinc : Inc (eks E)) (hi : E[i]? = some e) (h1 : E.length ≤ 1000000)
    (eg : ∀ args w, (callFunc fid args).run Tryz.prog w = .ok (.enter fid args) w)
    (hF : ∀ W, Below w.heap.size w W → Calls Tryz.prog fid #[.agg #[.int .i64 e.now.av, e.now.mv], cp] W fun r w' => TA w.heap.size w' (.ok a M) r ∧ Below W.heap.size W w') :
    Calls Tryz.prog 52 #[.slice (some ⟨g, 0, none⟩) E.length cap, .agg #[.int .i64 e.k.1, .int .i64 e.k.2], .func (Fn.func fid) #[] #[cp]] w fun r w' => ∃ v, r = .returned .nilIface ∧ SH w' B (.slice (some ⟨g, 0, none⟩) E.length cap) (E.set i { e with now := { e.now with av := a, ml := M, mv := v } }) ∧ w.grownBy w' (some g) ∧ Fsh w.heap.size w' v := by
  have hil := (List.getElem?_eq_some_iff.1 hi).1
  have B0 := hide ((Below.refl w.heap.size w).alloc (Nat.le_refl _) (.cells #[.int .i64 e.k.1, .int .i64 e.k.2] 39))
  obtain ⟨y0, y1⟩ := pair_cells (alloc_new w (.cells #[.int .i64 e.k.1, .int .i64 e.k.2] 39)) rfl
  have HA := hide (at_any B g cap E i e _ (hS.later B0.out) hinc hi h1)
  have HS := hide hS
  have HI := hide hi
  have HF := hide hF
  clear hS hinc hi hF
  go_enter Tryz.func52, Tryz.ntmps52
  go_wp2_with fail
  refine HA.out.mono ?_
  rintro r w1 ⟨rfl, hb⟩
  have B1 := hide (B0.out.trans (hb.mono B0.out.size))
  have hcs := (HS.out.later B1.out).cells HI.out
  have c6 := hcs.2.2.2.2.2.2.1
  have c7 : w1.cell? ⟨g, i * 10 + 6 + 1, none⟩ = some e.now.mv := hcs.2.2.2.2.2.2.2.1
  have HC := hide (HF.out w1 B1.out)
  obtain ⟨ma, mc, hmv⟩ := BL.rm_lt ((HS.out.later B1.out).ent e (List.mem_of_getElem? HI.out)).2.1
  rw [hmv] at c7 HC
  clear hb hcs HA y0 y1
  go_wp2_with fail
  refine HC.out.mono ?_
  rintro r w2 ⟨hr, hb⟩
  obtain ⟨v, hr2, hrm, hfs⟩ : ∃ v, r = .returned (.tuple #[.agg #[.int .i64 a, v], .nilIface]) ∧ BL.RM w2 v M ∧ Fsh w.heap.size w2 v := hr
  subst hr2
  obtain ⟨va, vc, hv⟩ := BL.rm_lt hrm
  subst hv
  have b2 := B1.out.trans (hb.mono B1.out.size)
  have b3 := (Below.refl w2.heap.size w2).alloc (Nat.le_refl _) (.cells #[.int .i64 a, .slice va M.length vc] 60)
  have B3 := b2.trans (b3.mono b2.size)
  have hS3 := HS.out.later B3
  have hm := List.mem_of_getElem? HI.out
  have hmvn : e.now.mv = .slice ma e.now.ml.length mc := hmv
  obtain ⟨hS4, hg4⟩ := hS3.two HI.out { e.now with av := a, ml := M, mv := .slice va M.length vc } 6 (.int .i64 a) (.slice va M.length vc) (by decide) rfl ⟨hrm.later b3, (hS3.ent e hm).2.2.1, fun b hb => hb.elim (fun k => Nat.lt_of_lt_of_le (hfs b k).2 b3.size) (fun k => (hS3.ent e hm).2.2.2 b (.inr k))⟩ (CA.of HS.out hm hfs)
  have HS4 := hide hS4
  have HG4 : Hid (w.grownBy _ (some g)) := hide (grown_trans (show w.grownBy _ (some g) from ⟨B3.os, B3.tape, B3.output, B3.size, fun k hk _ => B3.block k hk⟩) hg4)
  have HFS : Hid (Fsh w.heap.size ((((w2.alloc (.cells #[.int .i64 a, .slice va M.length vc] 60)).setCell ⟨g, i * 10 + 6, none⟩ (.int .i64 a)).setCell ⟨g, i * 10 + 6 + 1, none⟩ (.slice va M.length vc))) (.slice va M.length vc)) := hide (hfs.later (by simp))
  have N3 := alloc_new w2 (.cells #[.int .i64 a, .slice va M.length vc] 60)
  obtain ⟨p0, p1⟩ := pair_cells N3 rfl
  have hc3 := hS3.cells HI.out
  have d6 := hc3.2.2.2.2.2.2.1
  have d7 : (w2.alloc (.cells #[.int .i64 a, .slice va M.length vc] 60)).cell? ⟨g, i * 10 + 6 + 1, none⟩ = some e.now.mv := hc3.2.2.2.2.2.2.2.1
  have f6 := hS3.froz (i * 10 + 6)
  have f7 := hS3.froz (i * 10 + 6 + 1)
  rw [hmvn] at d7
  clear hb HC c6 c7 hS4 hg4 hS3 hc3 b2 b3 B3 hrm hfs N3 hmv hmvn
  go_wp2_with fail
  go_ret
  exact ⟨_, rfl, HS4.out, HG4.out, HFS.out⟩
end Go.Proofs.YtdjhbecbbmdimaaGreatDoor
namespace Go.Proofs.YtdjhbecbbmdimaaGreatDoor
open Go.RowKit

def toO (s : List UInt8) : BL.Out → TO
  | .ok a M => .ok a M
  | .no t x => .no 197 (.agg #[.string ⟨s.toArray⟩, .iface t x])
/-- A position and an error, whichever. -/
def DU (n : Nat) (w' : World) (o : TO) (e : Ending) : Prop := ∃ (a : Int) (va : Option Addr) (vn vc : Nat) (ev : Value), e = .returned (.tuple #[.agg #[.int .i64 a, .slice va vn vc], ev]) ∧ Fsh n w' (.slice va vn vc) ∧ ∀ W : World, w'.heap.size ≤ W.heap.size → (∀ M, BL.RM w' (.slice va vn vc) M → BL.RM W (.slice va vn vc) M) → ∀ m, m ≤ n → TA m W o (.returned (.tuple #[.agg #[.int .i64 a, .slice va vn vc], ev]))
theorem DU.of {w w' : World} {s : List UInt8} {o : BL.Out} {e : Ending} (h : BL.Ans w w' s o e) : DU w.heap.size w' (toO s o) e := by
  cases o with
  | no t x => exact ⟨0, none, 0, 0, _, h, fun b hb => (by cases hb), fun W _ _ m _ => rfl⟩
  | ok a M =>
    obtain ⟨v, he, hO⟩ := h
    obtain ⟨va, vc, hv⟩ := BL.rm_lt (BL.OM.rm hO)
    subst hv
    exact ⟨a, va, M.length, vc, .nilIface, he, fun b hb => World.ownsRow.lt hO b hb, fun W hsz hW m hm => ⟨_, rfl, hW M (BL.OM.rm hO), fun b hb => ⟨Nat.le_trans hm (World.ownsRow.lt hO b hb).1, Nat.lt_of_lt_of_le (World.ownsRow.lt hO b hb).2 hsz⟩⟩⟩
theorem rt_ok {av : Int} {L : List BL.Mk} (h : BL.Rt av L) : BL.MOk L ∧ av ≤ BL.top ∧ L.length ≤ 8 := ⟨BL.Rt.mok h, BL.Rt.top h, h.few⟩
set_option maxRecDepth 100000 in
set_option maxHeartbeats 2000000 in
theorem take_any (l : LG.El) (O : Nat) (av : Int) (mv : Value) (ml : List BL.Mk) (w : World) (hO : w.heap[O]? = some (.cells #[.int .i64 l.1, .int .i64 l.2.1, .int .i64 l.2.2.1, .int .i64 l.2.2.2.1, .int .i64 l.2.2.2.2] 43 (0, 0))) (hr : BL.RM w mv ml) (ht : BL.Rt av ml) (hq : l.2.2.2.1 ≤ BL.top) :
    Calls Tryz.prog 108 #[.agg #[.int .i64 av, mv], .pointer (some ⟨O, 0, none⟩)] w fun r w' => TA w.heap.size w' (toO [100, 101, 98, 105, 116] (BL.debitO av ml l.2.2.2.1 l.2.2.2.2)) r ∧ Below w.heap.size w w' := by
  obtain ⟨ma, mc, hmv⟩ := BL.rm_lt hr
  subst hmv
  have B0 := hide (two_below w (.cells #[.int .i64 av, .slice ma ml.length mc] 60) (.cells #[.int .i64 0, .slice none 0 0] 60))
  have HR := hide (hr.later B0.out)
  have HT := hide (rt_ok ht)
  have HL8 := hide (show ml.length ≤ 4611686018427387904 by have := HT.out.2.2; omega)
  have N0 := two_new w (.cells #[.int .i64 av, .slice ma ml.length mc] 60) (.cells #[.int .i64 0, .slice none 0 0] 60)
  have NO := five_cells (blk_later hO B0.out) rfl
  obtain ⟨l0, l1, l2, l3, l4⟩ := NO
  obtain ⟨x0, x1⟩ := pair_cells N0.1 rfl
  have HN := hide N0.2
  clear hO hr ht N0
  go_enter Tryz.func108, Tryz.ntmps108
  go_wp2_with fail
  refine (BL.debit_any av l.2.2.2.1 l.2.2.2.2 _ ml _ HR.out HT.out.1 HT.out.2.1 hq HL8.out).mono ?_
  rintro e w1 ⟨hA, hb⟩
  obtain ⟨a, va, vn, vc, ev, rfl, hfs, hta⟩ := DU.of hA
  have B1 := B0.out.trans (hb.mono B0.out.size)
  have NR := blk_later HN.out hb
  have hlow : (w.heap.size + 1) < w1.heap.size := (Array.getElem?_eq_some_iff.1 NR).1
  have hne : ∀ b, (Value.slice va vn vc).ownBlock = some b → b ≠ (w.heap.size + 1) := fun b hb2 => by have h1 := (hfs b hb2).1; have h2 : (w.heap.size + 1) < _ := (Array.getElem?_eq_some_iff.1 HN.out).1; omega
  obtain ⟨V0, hV0⟩ : ∃ x, w1.setCell ⟨w.heap.size + 1, 0, none⟩ (.int .i64 a) = x := ⟨_, rfl⟩
  have M0 := setB NR 0 (.int .i64 a) rfl
  have b0 := B1.setCell (p := ⟨w.heap.size + 1, 0, none⟩) (by show w.heap.size ≤ (w.heap.size + 1); omega) (.int .i64 a)
  have k0 : ∀ b, b ≠ (w.heap.size + 1) → (w1.setCell ⟨w.heap.size + 1, 0, none⟩ (.int .i64 a)).heap[b]? = w1.heap[b]? := fun b hb2 => Below.heap_setCell w1 ⟨w.heap.size + 1, 0, none⟩ (.int .i64 a) b hb2
  have s0 : w1.heap.size ≤ (w1.setCell ⟨w.heap.size + 1, 0, none⟩ (.int .i64 a)).heap.size := by simp
  rw [hV0] at M0 b0 k0 s0
  obtain ⟨V1, hV1⟩ : ∃ x, V0.setCell ⟨w.heap.size + 1, 1, none⟩ (.slice va vn vc) = x := ⟨_, rfl⟩
  have M1 := setB M0 1 (.slice va vn vc) rfl
  have b1 := b0.setCell (p := ⟨w.heap.size + 1, 1, none⟩) (by show w.heap.size ≤ (w.heap.size + 1); omega) (.slice va vn vc)
  have k1 : ∀ b, b ≠ (w.heap.size + 1) → (V0.setCell ⟨w.heap.size + 1, 1, none⟩ (.slice va vn vc)).heap[b]? = V0.heap[b]? := fun b hb2 => Below.heap_setCell V0 ⟨w.heap.size + 1, 1, none⟩ (.slice va vn vc) b hb2
  have s1 : V0.heap.size ≤ (V0.setCell ⟨w.heap.size + 1, 1, none⟩ (.slice va vn vc)).heap.size := by simp
  rw [hV1] at M1 b1 k1 s1
  have HTA := hide (hta V1 (Nat.le_trans s0 s1) (fun M hM => rmM_kept hM (Nat.le_trans s0 s1) (fun b hb2 _ => (k1 b (hne b hb2)).trans (k0 b (hne b hb2)))) w.heap.size B0.out.size)
  have HBF := hide b1
  obtain ⟨r0, r1⟩ := pair_cells NR rfl
  obtain ⟨u0, u1⟩ := pair_cells M0 rfl
  obtain ⟨d0, d1⟩ := pair_cells M1 rfl
  have f0 := nofz NR 0
  have f1 := nofz M0 1
  clear hA hb hfs hta B1 NR hlow hne M0 b0 k0 s0 M1 b1 k1 s1
  go_wp2_with fail
  exact bodyPost_ret (v := .tuple #[.agg #[.int .i64 a, .slice va vn vc], ev]) (by simp [results, Tryz.results108, go_sem, d0, d1]) rfl ⟨HTA.out, HBF.out⟩
set_option maxRecDepth 100000 in
set_option maxHeartbeats 2000000 in
theorem give_any (l : LG.El) (O : Nat) (av : Int) (mv : Value) (ml : List BL.Mk) (w : World) (hO : w.heap[O]? = some (.cells #[.int .i64 l.1, .int .i64 l.2.1, .int .i64 l.2.2.1, .int .i64 l.2.2.2.1, .int .i64 l.2.2.2.2] 43 (0, 0))) (hr : BL.RM w mv ml) (ht : BL.Rt av ml) (hq : l.2.2.2.1 ≤ BL.top) :
    Calls Tryz.prog 109 #[.agg #[.int .i64 av, mv], .pointer (some ⟨O, 0, none⟩)] w fun r w' => TA w.heap.size w' (toO [99, 114, 101, 100, 105, 116] (BL.creditO av ml l.2.2.2.1)) r ∧ Below w.heap.size w w' := by
  obtain ⟨ma, mc, hmv⟩ := BL.rm_lt hr
  subst hmv
  have B0 := hide (two_below w (.cells #[.int .i64 av, .slice ma ml.length mc] 60) (.cells #[.int .i64 0, .slice none 0 0] 60))
  have HR := hide (hr.later B0.out)
  have HT := hide (rt_ok ht)
  have HL8 := hide (show ml.length ≤ 4611686018427387904 by have := HT.out.2.2; omega)
  have N0 := two_new w (.cells #[.int .i64 av, .slice ma ml.length mc] 60) (.cells #[.int .i64 0, .slice none 0 0] 60)
  have NO := five_cells (blk_later hO B0.out) rfl
  obtain ⟨l0, l1, l2, l3, l4⟩ := NO
  obtain ⟨x0, x1⟩ := pair_cells N0.1 rfl
  have HN := hide N0.2
  clear hO hr ht N0
  go_enter Tryz.func109, Tryz.ntmps109
  go_wp2_with fail
  refine (BL.credit_any av l.2.2.2.1 _ ml _ HR.out HT.out.1 HT.out.2.1 hq HL8.out).mono ?_
  rintro e w1 ⟨hA, hb⟩
  obtain ⟨a, va, vn, vc, ev, rfl, hfs, hta⟩ := DU.of hA
  have B1 := B0.out.trans (hb.mono B0.out.size)
  have NR := blk_later HN.out hb
  have hlow : (w.heap.size + 1) < w1.heap.size := (Array.getElem?_eq_some_iff.1 NR).1
  have hne : ∀ b, (Value.slice va vn vc).ownBlock = some b → b ≠ (w.heap.size + 1) := fun b hb2 => by have h1 := (hfs b hb2).1; have h2 : (w.heap.size + 1) < _ := (Array.getElem?_eq_some_iff.1 HN.out).1; omega
  obtain ⟨V0, hV0⟩ : ∃ x, w1.setCell ⟨w.heap.size + 1, 0, none⟩ (.int .i64 a) = x := ⟨_, rfl⟩
  have M0 := setB NR 0 (.int .i64 a) rfl
  have b0 := B1.setCell (p := ⟨w.heap.size + 1, 0, none⟩) (by show w.heap.size ≤ (w.heap.size + 1); omega) (.int .i64 a)
  have k0 : ∀ b, b ≠ (w.heap.size + 1) → (w1.setCell ⟨w.heap.size + 1, 0, none⟩ (.int .i64 a)).heap[b]? = w1.heap[b]? := fun b hb2 => Below.heap_setCell w1 ⟨w.heap.size + 1, 0, none⟩ (.int .i64 a) b hb2
  have s0 : w1.heap.size ≤ (w1.setCell ⟨w.heap.size + 1, 0, none⟩ (.int .i64 a)).heap.size := by simp
  rw [hV0] at M0 b0 k0 s0
  obtain ⟨V1, hV1⟩ : ∃ x, V0.setCell ⟨w.heap.size + 1, 1, none⟩ (.slice va vn vc) = x := ⟨_, rfl⟩
  have M1 := setB M0 1 (.slice va vn vc) rfl
  have b1 := b0.setCell (p := ⟨w.heap.size + 1, 1, none⟩) (by show w.heap.size ≤ (w.heap.size + 1); omega) (.slice va vn vc)
  have k1 : ∀ b, b ≠ (w.heap.size + 1) → (V0.setCell ⟨w.heap.size + 1, 1, none⟩ (.slice va vn vc)).heap[b]? = V0.heap[b]? := fun b hb2 => Below.heap_setCell V0 ⟨w.heap.size + 1, 1, none⟩ (.slice va vn vc) b hb2
  have s1 : V0.heap.size ≤ (V0.setCell ⟨w.heap.size + 1, 1, none⟩ (.slice va vn vc)).heap.size := by simp
  rw [hV1] at M1 b1 k1 s1
  have HTA := hide (hta V1 (Nat.le_trans s0 s1) (fun M hM => rmM_kept hM (Nat.le_trans s0 s1) (fun b hb2 _ => (k1 b (hne b hb2)).trans (k0 b (hne b hb2)))) w.heap.size B0.out.size)
  have HBF := hide b1
  obtain ⟨r0, r1⟩ := pair_cells NR rfl
  obtain ⟨u0, u1⟩ := pair_cells M0 rfl
  obtain ⟨d0, d1⟩ := pair_cells M1 rfl
  have f0 := nofz NR 0
  have f1 := nofz M0 1
  clear hA hb hfs hta B1 NR hlow hne M0 b0 k0 s0 M1 b1 k1 s1
  go_wp2_with fail
  exact bodyPost_ret (v := .tuple #[.agg #[.int .i64 a, .slice va vn vc], ev]) (by simp [results, Tryz.results109, go_sem, d0, d1]) rfl ⟨HTA.out, HBF.out⟩
end Go.Proofs.YtdjhbecbbmdimaaGreatDoor
