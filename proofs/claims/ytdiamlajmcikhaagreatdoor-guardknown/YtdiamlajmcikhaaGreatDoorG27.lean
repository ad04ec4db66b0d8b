/-
  My own text: QRs, G27 in one.
-/
import Derived.Test.YtdiamlajmcikhaaGreatDoorQRz
import Derived.Test.YtdiamlajmcikhaaGreatDoorG26
namespace Go.Proofs.YtdiamlajmcikhaaGreatDoor
open Go.RowKit

section
variable {P : Program} {ops : Array Oper} {Q : Exit → Act → World → Prop} {md : Region.Mode} {S : World → Prop} {zs : List Nat}
/-- None of them has come. -/
def unl (zs : List Nat) (ls : Array Bool) : Bool := zs.all fun z => !ls.getD z true
theorem unl_set {ls : Array Bool} {j : Nat} (hj : j ∉ zs) : unl zs (ls.setIfInBounds j true) = unl zs ls := by
  unfold unl
  rw [Bool.eq_iff_iff, List.all_eq_true, List.all_eq_true]
  have e : ∀ z ∈ zs, (ls.setIfInBounds j true).getD z true = ls.getD z true := fun z hz => getD_set_ne true (fun e => hj (e ▸ hz))
  exact ⟨fun h z hz => by rw [← e z hz]; exact h z hz, fun h z hz => by rw [e z hz]; exact h z hz⟩
def anyS (P : Program) (md : Region.Mode) (ops : Array Oper) (Q : Exit → Act → World → Prop) (S : World → Prop) (zs : List Nat) : Nat → Array Bool → Act → World → Prop
  | 0, ls, a, w => Region.ready md ops ls = [] ∧ Q .normal a w
  | f + 1, ls, a, w => (Region.ready md ops ls = [] → Q .normal a w) ∧ ∀ i ∈ Region.ready md ops ls, wpOp P ops Q i (fun a' w' => (unl zs (ls.setIfInBounds i true) = true → S w') ∧ anyS P md ops Q S zs f (ls.setIfInBounds i true) a' w') a w
theorem anyS_any : ∀ (f : Nat) (ls : Array Bool) (a : Act) (w : World), anyS P md ops Q S zs f ls a w → wpAny P md ops Q f ls a w
  | 0, _, _, _, h => h
  | f + 1, _, _, _, h => ⟨h.1, fun i hi => wpOp_mono (fun a' w' h' => anyS_any f _ a' w' h'.2) (h.2 i hi)⟩
theorem anyS_first {i : Nat} {oi : Oper} {v : Value} (hi : ops[i]? = some oi) (hsel : ∀ (j : Nat) (o : Oper) cs b, ops[j]? = some o → o.op ≠ .select cs b) (hQ : ∀ c a w, Q (.panic c) (a.put oi.dst v) w → Q (.panic c) a w) (hz : zs.all (fun z => waitsB md ops z i) = true) (hiz : i ∉ zs) :
    ∀ (f : Nat) (ls : Array Bool) (a : Act) (w : World), (∀ j oj, ops[j]? = some oj → j ≠ i → ls.getD j true = false → (∀ e ∈ oj.after, Region.binds md e = true → e.on ≠ i) → oi.apart ops oj = true) →
      i ∈ Region.ready md ops ls → YieldsIf P ops S oi v a → unl zs ls = true → S w → anyS P md ops Q S zs f (ls.setIfInBounds i true) (a.put oi.dst v) w → anyS P md ops Q S zs (f + 1) ls a w := by
  intro f
  induction f with
  | zero =>
    intro ls a w _ hr hy _ hS H
    refine ⟨fun h => (by rw [h] at hr; cases hr), fun j hj => ?_⟩
    by_cases hji : j = i
    · subst hji; exact hy.wpOp hi hS ⟨fun _ => hS, H⟩
    · have := ready_mono hj hji
      rw [H.1] at this; cases this
  | succ f ih =>
    intro ls a w hfree hr hy hu hS H
    refine ⟨fun h => (by rw [h] at hr; cases hr), fun j hj => ?_⟩
    have hun := (mem_ready.1 hr).1
    by_cases hji : j = i
    · subst hji; exact hy.wpOp hi hS ⟨fun _ => hS, H⟩
    · have hjz : j ∉ zs := fun e => waits_not (List.all_eq_true.1 hz j e) hun hj
      have h1 := H.2 j (ready_mono hj hji)
      obtain ⟨hjun, oj, hoj, hall⟩ := mem_ready.1 hj
      have hno : ∀ e ∈ oj.after, Region.binds md e = true → e.on ≠ i := by
        intro e he hb heq
        have h2 := hall e he hb
        rw [heq] at h2
        rcases Nat.lt_or_ge i ls.size with h' | h'
        · simp [h'] at hun h2; rw [hun] at h2; cases h2
        · simp [Array.getElem?_eq_none h'] at h2
      have h2 := wpOp_putIf hoj (hfree j oj hoj hji hjun hno) (fun cs b => hsel i oi cs b hi) (fun cs b => hsel j oj cs b hoj) hQ hy h1
      refine wpOp_mono (fun a' w' h3 => ?_) h2
      have hS' : S w' := h3.2.1 (by rw [unl_set hjz, unl_set hiz]; exact hu)
      refine ⟨fun _ => hS', ih (ls.setIfInBounds j true) a' w' (fun k ok hk hki hku hkn => hfree k ok hk hki ?_ hkn) (ready_mono hr (Ne.symm hji)) h3.1 (by rw [unl_set hjz]; exact hu) hS' ?_⟩
      · by_cases hjk : j = k
        · subst hjk; exact hjun
        · rwa [getD_set_ne true hjk] at hku
      · rw [Array.setIfInBounds_comm _ _ hji]; exact h3.2.2
/-- What reads no memory. -/
theorem anyS_pure {i : Nat} {oi : Oper} {v : Value} (hi : ops[i]? = some oi) (hsel : ∀ (j : Nat) (o : Oper) cs b, ops[j]? = some o → o.op ≠ .select cs b) (hQ : ∀ c a w, Q (.panic c) (a.put oi.dst v) w → Q (.panic c) a w) (hiz : i ∉ zs) :
    ∀ (f : Nat) (ls : Array Bool) (a : Act) (w : World), (∀ j oj, ops[j]? = some oj → j ≠ i → ls.getD j true = false → (∀ e ∈ oj.after, Region.binds md e = true → e.on ≠ i) → oi.apart ops oj = true) →
      i ∈ Region.ready md ops ls → YieldsIf P ops (fun _ => True) oi v a → (unl zs ls = true → S w) → anyS P md ops Q S zs f (ls.setIfInBounds i true) (a.put oi.dst v) w → anyS P md ops Q S zs (f + 1) ls a w := by
  intro f
  induction f with
  | zero =>
    intro ls a w _ hr hy hS H
    refine ⟨fun h => (by rw [h] at hr; cases hr), fun j hj => ?_⟩
    by_cases hji : j = i
    · subst hji; exact hy.wpOp hi trivial ⟨fun e => hS (by rw [← e, unl_set hiz]), H⟩
    · have := ready_mono hj hji
      rw [H.1] at this; cases this
  | succ f ih =>
    intro ls a w hfree hr hy hS H
    refine ⟨fun h => (by rw [h] at hr; cases hr), fun j hj => ?_⟩
    have hun := (mem_ready.1 hr).1
    by_cases hji : j = i
    · subst hji; exact hy.wpOp hi trivial ⟨fun e => hS (by rw [← e, unl_set hiz]), H⟩
    · have h1 := H.2 j (ready_mono hj hji)
      obtain ⟨hjun, oj, hoj, hall⟩ := mem_ready.1 hj
      have hno : ∀ e ∈ oj.after, Region.binds md e = true → e.on ≠ i := by
        intro e he hb heq
        have h2 := hall e he hb
        rw [heq] at h2
        rcases Nat.lt_or_ge i ls.size with h' | h'
        · simp [h'] at hun h2; rw [hun] at h2; cases h2
        · simp [Array.getElem?_eq_none h'] at h2
      have h2 := wpOp_putIf (S := fun _ => True) hoj (hfree j oj hoj hji hjun hno) (fun cs b => hsel i oi cs b hi) (fun cs b => hsel j oj cs b hoj) hQ hy h1
      refine wpOp_mono (fun a' w' h3 => ?_) h2
      have hS' : unl zs (ls.setIfInBounds j true) = true → S w' := fun e => h3.2.1 (by rw [← Array.setIfInBounds_comm _ _ hji, unl_set hiz]; exact e)
      refine ⟨hS', ih (ls.setIfInBounds j true) a' w' (fun k ok hk hki hku hkn => hfree k ok hk hki ?_ hkn) (ready_mono hr (Ne.symm hji)) h3.1 hS' ?_⟩
      · by_cases hjk : j = k
        · subst hjk; exact hjun
        · rwa [getD_set_ne true hjk] at hku
      · rw [Array.setIfInBounds_comm _ _ hji]; exact h3.2.2
/-- Taken ahead: what it yields lies in slot d. -/
theorem sk1 {f : Nat} {ls : Array Bool} {tmps : Array Value} {df : List Deferred} {w : World} {oi : Oper} {v : Value} (i d : Nat) (ls' : Array Bool) (hi : ops[i]? = some oi) (hd : oi.dst = some d)
    (hs : Region.noSelect ops = true) (hf : Region.free md ops ls i = true) (hr : (Region.ready md ops ls).contains i = true) (hz : zs.all (fun z => waitsB md ops z i) = true) (hiz : zs.contains i = false) (hu : unl zs ls = true)
    (hQ : ∀ c a w, Q (.panic c) (a.put oi.dst v) w → Q (.panic c) a w) (hl : ls.setIfInBounds i true = ls')
    (hw : Region.wanted oi (yielded ops tmps) = true) (hy : ∀ w, S w → (execOp (Act.eval ⟨tmps, df⟩) oi).run P w = .ok (.value v) w) (hS : S w)
    (h : anyS P md ops Q S zs f ls' ⟨tmps.setIfInBounds d v, df⟩ w) : anyS P md ops Q S zs (f + 1) ls ⟨tmps, df⟩ w := by
  refine anyS_first hi (Region.noSelect_spec hs) hQ hz (fun e => by rw [List.contains_iff_mem.2 e] at hiz; cases hiz) f ls _ w (Region.free_spec hi hf) (by simpa using hr) (Or.inl ⟨hw, hy⟩) hu hS ?_
  rw [hl, hd]; exact h
theorem sk0 {f : Nat} {ls : Array Bool} {tmps : Array Value} {df : List Deferred} {w : World} {oi : Oper} {v : Value} (i d : Nat) (ls' : Array Bool) (hi : ops[i]? = some oi) (hd : oi.dst = some d)
    (hs : Region.noSelect ops = true) (hf : Region.free md ops ls i = true) (hr : (Region.ready md ops ls).contains i = true) (hiz : zs.contains i = false)
    (hQ : ∀ c a w, Q (.panic c) (a.put oi.dst v) w → Q (.panic c) a w) (hl : ls.setIfInBounds i true = ls')
    (hw : Region.wanted oi (yielded ops tmps) = true) (hy : ∀ w, (execOp (Act.eval ⟨tmps, df⟩) oi).run P w = .ok (.value v) w) (hS : unl zs ls = true → S w)
    (h : anyS P md ops Q S zs f ls' ⟨tmps.setIfInBounds d v, df⟩ w) : anyS P md ops Q S zs (f + 1) ls ⟨tmps, df⟩ w := by
  refine anyS_pure hi (Region.noSelect_spec hs) hQ (fun e => by rw [List.contains_iff_mem.2 e] at hiz; cases hiz) f ls _ w (Region.free_spec hi hf) (by simpa using hr) (Or.inl ⟨hw, fun w _ => hy w⟩) hS ?_
  rw [hl, hd]; exact h
/-- Passed by: its guard says no. -/
theorem sk2 {f : Nat} {ls : Array Bool} {tmps : Array Value} {df : List Deferred} {w : World} {oi : Oper} (i d : Nat) (ls' : Array Bool) (hi : ops[i]? = some oi) (hd : oi.dst = some d)
    (hs : Region.noSelect ops = true) (hf : Region.free md ops ls i = true) (hr : (Region.ready md ops ls).contains i = true) (hiz : zs.contains i = false)
    (hQ : ∀ c a w, Q (.panic c) (a.put oi.dst undef) w → Q (.panic c) a w) (hl : ls.setIfInBounds i true = ls')
    (hw : Region.wanted oi (yielded ops tmps) = false) (hS : unl zs ls = true → S w)
    (h : anyS P md ops Q S zs f ls' ⟨tmps.setIfInBounds d undef, df⟩ w) : anyS P md ops Q S zs (f + 1) ls ⟨tmps, df⟩ w := by
  refine anyS_pure hi (Region.noSelect_spec hs) hQ (fun e => by rw [List.contains_iff_mem.2 e] at hiz; cases hiz) f ls _ w (Region.free_spec hi hf) (by simpa using hr) (Or.inr ⟨hw, rfl⟩) hS ?_
  rw [hl, hd]; exact h
/-- The one that may come up. -/
theorem s_ready {f : Nat} {ls : Array Bool} {a : Act} {w : World} {oi : Oper} (i : Nat) (ls' : Array Bool) (hi : ops[i]? = some oi) (hr : Region.ready md ops ls = [i]) (hl : ls.setIfInBounds i true = ls')
    (hw : Region.wanted oi (yielded ops a.tmps) = true)
    (h : ∀ K' : Act → World → Prop, Shut (∀ a w, (unl zs ls' = true → S w) → anyS P md ops Q S zs f ls' a w → K' a w) → Oper.wp P oi a w K' Q) : anyS P md ops Q S zs (f + 1) ls a w := by
  refine ⟨fun h0 => (by rw [hr] at h0; cases h0), fun j hj => ?_⟩
  rw [hr] at hj
  obtain rfl := List.mem_singleton.1 hj
  refine wpOp_step hi (fun K' hK => ?_)
  rw [if_pos hw]
  rw [hl] at hK
  exact h K' (fun a w h1 h2 => hK a w ⟨h1, h2⟩)
theorem s_done {ls : Array Bool} {a : Act} {w : World} (hr : Region.ready md ops ls = []) (h : Q .normal a w) : ∀ f, anyS P md ops Q S zs f ls a w
  | 0 => ⟨hr, h⟩
  | _ + 1 => ⟨fun _ => h, by rw [hr]; simp⟩
theorem s_begins {id : Nat} {a : Act} {w : World} (zs : List Nat) (f : Nat) (ls : Array Bool) (hm : P.follows .mixedOrders = true) (hf : ops.size = f) (hl : Array.replicate ops.size false = ls)
    (h : anyS P .any ops Q S zs f ls a w.drew) : (Code.region id ops true).wp P Q a w := by
  subst hf hl
  exact wp_region_any hm (anyS_any _ _ _ _ h)
end
end Go.Proofs.YtdiamlajmcikhaaGreatDoor
namespace Go.Proofs.YtdiamlajmcikhaaGreatDoor
open Go.RowKit

theorem encL_lenB (o : OpX) (hl : o.legs.length ≤ 3518437208800) (hp : o.pairs.length ≤ 8796093022000) : (encL o).length ≤ 17592186044002 := by
  unfold encL
  (repeat' split) <;> first | (simp; done) | (simp only [List.length_cons, rowLG_len]; omega) | (simp only [List.length_cons, rowKY_len]; omega)
theorem dec_ok (v : Value) (raw : List Int) (w : World) (hv : LN.RM w v raw) (hl : raw.length ≤ 17592186044002) (h : dcE raw = 0) :
    Calls Tryz.prog 10 #[v] w fun e w' => ∃ l p, e = .returned (.tuple #[opV (dcO raw) l p, .nilIface]) ∧ LG.OM w' w.heap.size l (dcO raw).legs ∧ KY.OM w' w.heap.size p (dcO raw).pairs ∧ Below w.heap.size w w' := by
  have := decode_any v raw w hv hl
  unfold DcP at this
  rwa [h, errV_zero] at this
theorem dec_bad (v : Value) (raw : List Int) (w : World) (hv : LN.RM w v raw) (hl : raw.length ≤ 17592186044002) (h : ¬ dcE raw = 0) :
    Calls Tryz.prog 10 #[v] w fun e w' => ∃ l p, e = .returned (.tuple #[opV (dcO raw) l p, .iface 50 (.int .i64 (dcE raw))]) ∧ LG.OM w' w.heap.size l (dcO raw).legs ∧ KY.OM w' w.heap.size p (dcO raw).pairs ∧ Below w.heap.size w w' := by
  have := decode_any v raw w hv hl
  unfold DcP at this
  have hr := dcE_rng raw
  rwa [errV_pos (by omega)] at this
theorem enc_ok (o : OpX) (lv pv : Value) (w : World) (hL : LG.RM w lv o.legs) (hP : KY.RM w pv o.pairs) (hl : o.legs.length ≤ 3518437208800) (hp : o.pairs.length ≤ 8796093022000) (h : encE o = 0) :
    Calls Tryz.prog 34 #[opV o lv pv] w fun e w' => ∃ v', e = .returned (.tuple #[v', .nilIface]) ∧ LN.OM w' w.heap.size v' (encL o) ∧ Below w.heap.size w w' := by
  have := encode_any o lv pv w hL hP hl hp
  unfold EcP at this
  rwa [h, errV_zero] at this
theorem enc_bad (o : OpX) (lv pv : Value) (w : World) (hL : LG.RM w lv o.legs) (hP : KY.RM w pv o.pairs) (hl : o.legs.length ≤ 3518437208800) (hp : o.pairs.length ≤ 8796093022000) (h : ¬ encE o = 0) :
    Calls Tryz.prog 34 #[opV o lv pv] w fun e w' => ∃ v', e = .returned (.tuple #[v', .iface 50 (.int .i64 (encE o))]) ∧ LN.OM w' w.heap.size v' (encL o) ∧ Below w.heap.size w w' := by
  have := encode_any o lv pv w hL hP hl hp
  unfold EcP at this
  rwa [errV_pos (by revert h; unfold encE; split <;> omega)] at this
/-- The boxes of two operations. -/
structure BX (w : World) (o p : OpX) (lo po lp pp : Value) (W : World) : Prop where
  low : Below w.heap.size w W
  bo : W.heap[w.heap.size]? = some (.cells #[.int .i64 o.code, .int .i64 o.acc, .int .i64 o.ass, .int .i64 o.qty, .int .i64 o.name, .int .i64 o.id, lo, po] 26 (0, 0))
  bp : W.heap[w.heap.size + 1]? = some (.cells #[.int .i64 p.code, .int .i64 p.acc, .int .i64 p.ass, .int .i64 p.qty, .int .i64 p.name, .int .i64 p.id, lp, pp] 26 (0, 0))
theorem BX.later {w : World} {o p : OpX} {lo po lp pp : Value} {W W' : World} (x : BX w o p lo po lp pp W) (hb : Below W.heap.size W W') : BX w o p lo po lp pp W' :=
  ⟨x.low.trans (hb.mono x.low.size), blk_later x.bo hb, blk_later x.bp hb⟩
set_option maxRecDepth 100000 in
set_option maxHeartbeats 4000000 in
theorem guardBack_law (o p : OpX) (lv pv lv2 pv2 rv : Value) (raw : List Int) (w : World) (hE : ErrType w) (hL : LG.RM w lv o.legs) (hP : KY.RM w pv o.pairs) (hL2 : LG.RM w lv2 p.legs) (hP2 : KY.RM w pv2 p.pairs) (hR : LN.RM w rv raw) (hl : o.legs.length ≤ 3518437208800) (hp : o.pairs.length ≤ 8796093022000) (hl2 : p.legs.length ≤ 3518437208800) (hp2 : p.pairs.length ≤ 8796093022000) (hr : raw.length ≤ 17592186044000) :
    Calls Tryz.prog 15 #[opV o lv pv, opV p lv2 pv2, rv] w fun e w' => e = .returned (.bool true) ∧ Below w.heap.size w w' := by
  obtain ⟨la, lc, hlv⟩ := LG.rm_lt hL
  subst hlv
  obtain ⟨pa, pc, hpv⟩ := KY.rm_lt hP
  subst hpv
  obtain ⟨la2, lc2, hlv2⟩ := LG.rm_lt hL2
  subst hlv2
  obtain ⟨pa2, pc2, hpv2⟩ := KY.rm_lt hP2
  subst hpv2
  obtain ⟨ra, rc, hrv⟩ := LN.rm_lt hR
  subst hrv
  have HW := hide (fun (W : World) (hb : Below w.heap.size w W) => works_any W (hE.below hb))
  have hlr := dcO_lenB raw hr
  have HRV := hide (fun (W : World) (hb : Below w.heap.size w W) => hR.later hb)
  have HD0 := hide (fun (h : dcE raw = 0) (W : World) (hb : Below w.heap.size w W) => dec_ok _ raw W (hR.later hb) (by omega) h)
  have HD1 := hide (fun (h : ¬ dcE raw = 0) (W : World) (hb : Below w.heap.size w W) => dec_bad _ raw W (hR.later hb) (by omega) h)
  have HE0 := hide (fun (h : dcE raw = 0) (l1 p1 : Value) (W : World) (h1 : LG.RM W l1 (dcO raw).legs) (h2 : KY.RM W p1 (dcO raw).pairs) => enc_ok (dcO raw) l1 p1 W h1 h2 hlr.1 hlr.2 (enc_dc raw h).1)
  have HX0 := hide (fun (h : dcE raw = 0) => (enc_dc raw h).2)
  have HSR := hide (fun (va vb : Value) (W : World) (h1 : LN.RM W va raw) (h2 : LN.RM W vb raw) => LN.sameM_any va vb raw raw W h1 h2 (by omega) (by omega))
  simp only [decide_true] at HSR
  have HEo0 := hide (fun (h : encE o = 0) (W : World) (hb : Below w.heap.size w W) => enc_ok o _ _ W (hL.later hb) (hP.later hb) hl hp h)
  have HEo1 := hide (fun (h : ¬ encE o = 0) (W : World) (hb : Below w.heap.size w W) => enc_bad o _ _ W (hL.later hb) (hP.later hb) hl hp h)
  have HEp0 := hide (fun (h : encE p = 0) (W : World) (hb : Below w.heap.size w W) => enc_ok p _ _ W (hL2.later hb) (hP2.later hb) hl2 hp2 h)
  have HEp1 := hide (fun (h : ¬ encE p = 0) (W : World) (hb : Below w.heap.size w W) => enc_bad p _ _ W (hL2.later hb) (hP2.later hb) hl2 hp2 h)
  have HOo := hide (fun (W : World) (hb : Below w.heap.size w W) => own_any o _ _ W (hL.later hb) (hP.later hb) hl hp)
  have HOp := hide (fun (W : World) (hb : Below w.heap.size w W) => own_any p _ _ W (hL2.later hb) (hP2.later hb) hl2 hp2)
  have hlo := encL_lenB o hl hp
  have hlp := encL_lenB p hl2 hp2
  have hqo := ownO_len o hl hp
  have hqp := ownO_len p hl2 hp2
  have HSL := hide (fun (va vb : Value) (W : World) (h1 : LN.RM W va (encL o)) (h2 : LN.RM W vb (encL p)) => LN.sameM_any va vb (encL o) (encL p) W h1 h2 (by omega) (by omega))
  have HSO := hide (fun (l1 p1 l2 p2 : Value) (W : World) (h1 : LG.RM W l1 (ownO o).legs) (h2 : LG.RM W l2 (ownO o).legs) (h3 : KY.RM W p1 (ownO o).pairs) (h4 : KY.RM W p2 (ownO o).pairs) => sameOp_any (ownO o) (ownO o) l1 p1 l2 p2 W h1 h2 h3 h4 hqo.1 hqo.2 hqo.1 hqo.2)
  have HSP := hide (fun (l1 p1 l2 p2 : Value) (W : World) (h1 : LG.RM W l1 (ownO o).legs) (h2 : LG.RM W l2 (ownO p).legs) (h3 : KY.RM W p1 (ownO o).pairs) (h4 : KY.RM W p2 (ownO p).pairs) => sameOp_any (ownO o) (ownO p) l1 p1 l2 p2 W h1 h2 h3 h4 hqo.1 hqo.2 hqp.1 hqp.2)
  have HDL := hide (fun (hc : 1 ≤ o.code ∧ o.code ≤ 8) (v : Value) (W : World) (h : LN.RM W v (encL o)) => dec_ok v (encL o) W h hlo (dc_enc o hc).1)
  have HDE := hide (fun (hc : 1 ≤ o.code ∧ o.code ≤ 8) => (dc_enc o hc).2)
  have HAL := hide (fun (hc : 1 ≤ o.code ∧ o.code ≤ 8) => alike_own o p hc)
  have HEK := hide (encE_ok (o := o))
  clear hE hL hP hL2 hP2 hR hl hp hl2 hp2 hr hlr hlo hlp hqo hqp
  unfold opV at HD0 HD1 HE0 HEo0 HEo1 HEp0 HEp1 HOo HOp HSO HSP HDL ⊢
  have X00 := two_new w (.cells #[.int .i64 o.code, .int .i64 o.acc, .int .i64 o.ass, .int .i64 o.qty, .int .i64 o.name, .int .i64 o.id, .slice la o.legs.length lc, .slice pa o.pairs.length pc] 26) (.cells #[.int .i64 p.code, .int .i64 p.acc, .int .i64 p.ass, .int .i64 p.qty, .int .i64 p.name, .int .i64 p.id, .slice la2 p.legs.length lc2, .slice pa2 p.pairs.length pc2] 26)
  have X0 := hide (show BX w o p (.slice la o.legs.length lc) (.slice pa o.pairs.length pc) (.slice la2 p.legs.length lc2) (.slice pa2 p.pairs.length pc2) _ from ⟨two_below w (.cells #[.int .i64 o.code, .int .i64 o.acc, .int .i64 o.ass, .int .i64 o.qty, .int .i64 o.name, .int .i64 o.id, .slice la o.legs.length lc, .slice pa o.pairs.length pc] 26) (.cells #[.int .i64 p.code, .int .i64 p.acc, .int .i64 p.ass, .int .i64 p.qty, .int .i64 p.name, .int .i64 p.id, .slice la2 p.legs.length lc2, .slice pa2 p.pairs.length pc2] 26), X00.1, X00.2⟩)
  clear X00
  obtain ⟨x0, x1, x2, x3, x4, x5, x6, x7⟩ := eight_cells X0.out.bo rfl
  by_cases hc : 1 ≤ o.code ∧ o.code ≤ 8
  · have HE1 := hide (HEo0.out (HEK.out.2 hc))
    have HD := hide (HDL.out hc)
    have hq := HDE.out hc
    have HA := hide (HAL.out hc)
    rw [hq] at HD
    have k1 : decide (1 ≤ o.code) = true := decide_eq_true hc.1
    have k2 : decide (o.code ≤ 8) = true := decide_eq_true hc.2
    clear hc hq HDL HDE HAL HEK HEo0 HEo1
    generalize ownO o = q at *
    generalize ownO p = q2 at *
    generalize encL o = X at *
    generalize encL p = Y at *
    go_enter Tryz.func15, Tryz.ntmps15
    go_wp2_with fail
    refine (HE1.out _ X0.out.low).mono ?_
    rintro e w1 ⟨v1, rfl, hV1, hb⟩
    have X1 := hide (X0.out.later hb)
    have V1 := hide hV1.rm
    obtain ⟨va, vc, rfl⟩ := LN.OM.slice hV1
    clear hb hV1 X0 x0 x1 x2 x3 x4 x5 x6 x7
    obtain ⟨x0, x1, x2, x3, x4, x5, x6, x7⟩ := eight_cells X1.out.bo rfl
    go_wp2_with fail
    go_region_held3 (fun W => W.cell? ⟨w.heap.size, 0, none⟩ = some (.int .i64 o.code)) (go_keep) ((go_at_call 4; refine (HW.out _ X1.out.low.drew).mono ?_; rintro e w2 ⟨rfl, hb2⟩; have X2 := hide (X1.out.later (drew_below.trans hb2)); have V2 := hide (V1.out.later (drew_below.trans hb2)); obtain ⟨z0, z1, z2, z3, z4, z5, z6, z7⟩ := eight_cells X2.out.bo rfl; clear hb2))
    go_wp2_with fail
    refine (HD.out _ _ V2.out).mono ?_
    rintro e w3 ⟨lx, px, rfl, hLx, hPx, hb⟩
    obtain ⟨xa, xc, rfl⟩ := LG.rm_lt hLx.rm
    obtain ⟨xb, xd, rfl⟩ := KY.rm_lt hPx.rm
    have b3 := hide (hb.alloc hb.size (.cells #[.int .i64 q.code, .int .i64 q.acc, .int .i64 q.ass, .int .i64 q.qty, .int .i64 q.name, .int .i64 q.id, .slice xa q.legs.length xc, .slice xb q.pairs.length xd] 26))
    have A3 := hide ((Below.refl w3.heap.size w3).alloc (Nat.le_refl _) (.cells #[.int .i64 q.code, .int .i64 q.acc, .int .i64 q.ass, .int .i64 q.qty, .int .i64 q.name, .int .i64 q.id, .slice xa q.legs.length xc, .slice xb q.pairs.length xd] 26))
    have X3 := hide (X2.out.later b3.out)
    have V3 := hide (V2.out.later b3.out)
    have CX := hide (alloc_new w3 (.cells #[.int .i64 q.code, .int .i64 q.acc, .int .i64 q.ass, .int .i64 q.qty, .int .i64 q.name, .int .i64 q.id, .slice xa q.legs.length xc, .slice xb q.pairs.length xd] 26))
    have LX := hide (hLx.rm.later A3.out)
    have PX := hide (hPx.rm.later A3.out)
    clear hb hLx hPx A3 b3 X1 V1 X2 V2 x0 x1 x2 x3 x4 x5 x6 x7 z0 z1 z2 z3 z4 z5 z6 z7
    obtain ⟨y0, y1, y2, y3, y4, y5, y6, y7⟩ := eight_cells X3.out.bp rfl
    by_cases hgp : encE p = 0
    · have HP1 := hide (HEp0.out hgp)
      clear HEp0 HEp1
      go_wp2_with fail
      refine (HP1.out _ X3.out.low).mono ?_
      rintro e w4 ⟨v4, rfl, hV4, hb⟩
      have X4 := hide (X3.out.later hb)
      have V4 := hide (V3.out.later hb)
      have CX4 := hide (blk_later CX.out hb)
      have LX4 := hide (LX.out.later hb)
      have PX4 := hide (PX.out.later hb)
      have M4 := hide hV4.rm
      obtain ⟨ma, mc, rfl⟩ := LN.OM.slice hV4
      clear hb hV4 X3 V3 CX LX PX y0 y1 y2 y3 y4 y5 y6 y7
      obtain ⟨x0, x1, x2, x3, x4, x5, x6, x7⟩ := eight_cells X4.out.bo rfl
      go_wp2_with fail
      refine (HOo.out _ X4.out.low).mono ?_
      rintro e w5 ⟨lq, pq, rfl, hLq, hPq, hb⟩
      obtain ⟨qa, qc, rfl⟩ := LG.rm_lt hLq.rm
      obtain ⟨qb, qd, rfl⟩ := KY.rm_lt hPq.rm
      have b5 := hide (hb.alloc hb.size (.cells #[.int .i64 q.code, .int .i64 q.acc, .int .i64 q.ass, .int .i64 q.qty, .int .i64 q.name, .int .i64 q.id, .slice qa q.legs.length qc, .slice qb q.pairs.length qd] 26))
      have A5 := hide ((Below.refl w5.heap.size w5).alloc (Nat.le_refl _) (.cells #[.int .i64 q.code, .int .i64 q.acc, .int .i64 q.ass, .int .i64 q.qty, .int .i64 q.name, .int .i64 q.id, .slice qa q.legs.length qc, .slice qb q.pairs.length qd] 26))
      have X5 := hide (X4.out.later b5.out)
      have V5 := hide (V4.out.later b5.out)
      have CX5 := hide (blk_later CX4.out b5.out)
      have LX5 := hide (LX4.out.later b5.out)
      have PX5 := hide (PX4.out.later b5.out)
      have M5 := hide (M4.out.later b5.out)
      have CQ := hide (alloc_new w5 (.cells #[.int .i64 q.code, .int .i64 q.acc, .int .i64 q.ass, .int .i64 q.qty, .int .i64 q.name, .int .i64 q.id, .slice qa q.legs.length qc, .slice qb q.pairs.length qd] 26))
      have LQ := hide (hLq.rm.later A5.out)
      have PQ := hide (hPq.rm.later A5.out)
      clear hb hLq hPq A5 b5 X4 V4 CX4 LX4 PX4 M4 x0 x1 x2 x3 x4 x5 x6 x7
      obtain ⟨x0, x1, x2, x3, x4, x5, x6, x7⟩ := eight_cells CX5.out rfl
      obtain ⟨y0, y1, y2, y3, y4, y5, y6, y7⟩ := eight_cells CQ.out rfl
      go_wp2_with fail
      refine (HSO.out _ _ _ _ _ LX5.out LQ.out PX5.out PQ.out).mono ?_
      rintro e w6 ⟨b6, rfl, hb6, hb⟩
      obtain rfl : b6 = true := hb6.2 (by trivial)
      have X6 := hide (X5.out.later hb)
      have V6 := hide (V5.out.later hb)
      have M6 := hide (M5.out.later hb)
      have CQ6 := hide (blk_later CQ.out hb)
      have LQ6 := hide (LQ.out.later hb)
      have PQ6 := hide (PQ.out.later hb)
      clear hb hb6 X5 V5 CX5 LX5 PX5 M5 CQ LQ PQ x0 x1 x2 x3 x4 x5 x6 x7 y0 y1 y2 y3 y4 y5 y6 y7
      obtain ⟨x0, x1, x2, x3, x4, x5, x6, x7⟩ := eight_cells X6.out.bp rfl
      obtain ⟨y0, y1, y2, y3, y4, y5, y6, y7⟩ := eight_cells CQ6.out rfl
      go_wp2_with fail
      go_region_held3 (fun W => W.cell? ⟨w.heap.size + 1, 0, none⟩ = some (.int .i64 p.code) ∧ W.cell? ⟨w.heap.size + 1, 1, none⟩ = some (.int .i64 p.acc) ∧ W.cell? ⟨w.heap.size + 1, 2, none⟩ = some (.int .i64 p.ass) ∧ W.cell? ⟨w.heap.size + 1, 3, none⟩ = some (.int .i64 p.qty) ∧ W.cell? ⟨w.heap.size + 1, 4, none⟩ = some (.int .i64 p.name) ∧ W.cell? ⟨w.heap.size + 1, 5, none⟩ = some (.int .i64 p.id) ∧ W.cell? ⟨w.heap.size + 1, 6, none⟩ = some (.slice la2 p.legs.length lc2) ∧ W.cell? ⟨w.heap.size + 1, 7, none⟩ = some (.slice pa2 p.pairs.length pc2) ∧ W.cell? ⟨w5.heap.size, 0, none⟩ = some (.int .i64 q.code) ∧ W.cell? ⟨w5.heap.size, 1, none⟩ = some (.int .i64 q.acc) ∧ W.cell? ⟨w5.heap.size, 2, none⟩ = some (.int .i64 q.ass) ∧ W.cell? ⟨w5.heap.size, 3, none⟩ = some (.int .i64 q.qty) ∧ W.cell? ⟨w5.heap.size, 4, none⟩ = some (.int .i64 q.name) ∧ W.cell? ⟨w5.heap.size, 5, none⟩ = some (.int .i64 q.id) ∧ W.cell? ⟨w5.heap.size, 6, none⟩ = some (.slice qa q.legs.length qc) ∧ W.cell? ⟨w5.heap.size, 7, none⟩ = some (.slice qb q.pairs.length qd)) (go_keep) ((first
        | (go_at_call 39; refine (HOp.out _ X6.out.low.drew).mono ?_; rintro e w7 ⟨lr, pr, rfl, hLr, hPr, hb7⟩; have bb7 := hide (show Below w6.heap.size w6 w7 from drew_below.trans hb7); have X7 := hide (X6.out.later bb7.out); have V7 := hide (V6.out.later bb7.out); have M7 := hide (M6.out.later bb7.out); have CQ7 := hide (blk_later CQ6.out bb7.out); have LQ7 := hide (LQ6.out.later bb7.out); have PQ7 := hide (PQ6.out.later bb7.out); have LR7 := hide hLr.rm; have PR7 := hide hPr.rm; obtain ⟨x07, x17, x27, x37, x47, x57, x67, x77⟩ := eight_cells X7.out.bp rfl; obtain ⟨y07, y17, y27, y37, y47, y57, y67, y77⟩ := eight_cells CQ7.out rfl; clear hLr hPr hb7 bb7)
        | (go_at_call 27; refine (HSP.out _ _ _ _ _ LQ7.out LR7.out PQ7.out PR7.out).mono ?_; rintro e w8 ⟨b8, rfl, hb8, hb9⟩; have X8 := hide (X7.out.later hb9); have V8 := hide (V7.out.later hb9); have M8 := hide (M7.out.later hb9); have CQ8 := hide (blk_later CQ7.out hb9); have HB8 := hide hb8; obtain ⟨x08, x18, x28, x38, x48, x58, x68, x78⟩ := eight_cells X8.out.bp rfl; obtain ⟨y08, y18, y28, y38, y48, y58, y68, y78⟩ := eight_cells CQ8.out rfl; clear hb8 hb9)))
      clear x07 x17 x27 x37 x47 x57 x67 x77 y07 y17 y27 y37 y47 y57 y67 y77 x08 x18 x28 x38 x48 x58 x68 x78 y08 y18 y28 y38 y48 y58 y68 y78 X6 V6 M6 CQ6 LQ6 PQ6 X7 V7 M7 CQ7 LQ7 PQ7 LR7 PR7 CQ8
      go_wp2_with fail
      refine (HSL.out _ _ _ V8.out M8.out).mono ?_
      rintro e w9 ⟨rfl, hb⟩
      have X9 := hide (X8.out.later hb)
      have hbd : decide (X = Y) = b8 := by
        cases hd : b8
        · refine decide_eq_false (fun h => ?_)
          have := HB8.out.2 (HA.out.1 ⟨hgp, h⟩)
          rw [hd] at this; cases this
        · exact decide_eq_true (HA.out.2 (HB8.out.1 hd)).2
      rw [hbd]
      clear hb hbd X8 V8 M8 HB8
      have hbb : (b8 != b8) = false := by simp
      go_wp2_with fail
      by_cases h0 : dcE raw = 0
      · have HT := hide (HD0.out h0)
        have HT2 := hide (HE0.out h0)
        have hX0 := HX0.out h0
        rw [hX0] at HT2
        clear h0 hX0 HD0 HD1 HE0 HX0
        generalize dcO raw = D0 at *
        go_wp2_with fail
        refine (HT.out _ X9.out.low).mono ?_
        rintro e wt ⟨lt, pt, rfl, hLt, hPt, hb⟩
        obtain ⟨ta, tc, rfl⟩ := LG.rm_lt hLt.rm
        obtain ⟨ua, uc, rfl⟩ := KY.rm_lt hPt.rm
        have A1 := hide ((Below.refl wt.heap.size wt).alloc (Nat.le_refl _) (.cells #[.int .i64 D0.code, .int .i64 D0.acc, .int .i64 D0.ass, .int .i64 D0.qty, .int .i64 D0.name, .int .i64 D0.id, .slice ta D0.legs.length tc, .slice ua D0.pairs.length uc] 26))
        have HB1 := hide ((X9.out.low.trans (hb.mono X9.out.low.size)).alloc (Nat.le_trans X9.out.low.size hb.size) (.cells #[.int .i64 D0.code, .int .i64 D0.acc, .int .i64 D0.ass, .int .i64 D0.qty, .int .i64 D0.name, .int .i64 D0.id, .slice ta D0.legs.length tc, .slice ua D0.pairs.length uc] 26))
        have CT := hide (alloc_new wt (.cells #[.int .i64 D0.code, .int .i64 D0.acc, .int .i64 D0.ass, .int .i64 D0.qty, .int .i64 D0.name, .int .i64 D0.id, .slice ta D0.legs.length tc, .slice ua D0.pairs.length uc] 26))
        have LT := hide (hLt.rm.later A1.out)
        have PT := hide (hPt.rm.later A1.out)
        clear hb hLt hPt A1
        obtain ⟨t0, t1, t2, t3, t4, t5, t6, t7⟩ := eight_cells CT.out rfl
        go_wp2_with fail
        refine (HT2.out _ _ _ LT.out PT.out).mono ?_
        rintro e wu ⟨vu, rfl, hVu, hb⟩
        have HB2 := hide (HB1.out.trans (hb.mono HB1.out.size))
        have VU := hide hVu.rm
        obtain ⟨vua, vuc, rfl⟩ := LN.OM.slice hVu
        clear hb hVu
        go_wp2_with fail
        refine (HSR.out _ _ _ VU.out (HRV.out _ HB2.out)).mono ?_
        rintro e wv ⟨rfl, hb⟩
        have HB3 := hide (HB2.out.trans (hb.mono HB2.out.size))
        clear hb
        go_wp2_with fail
        go_ret
        exact ⟨rfl, HB3.out⟩
      · have HT := hide (HD1.out h0)
        clear h0 HD0 HD1 HE0 HX0
        generalize dcO raw = D0 at *
        generalize dcE raw = d0 at *
        go_wp2_with fail
        refine (HT.out _ X9.out.low).mono ?_
        rintro e wt ⟨lt, pt, rfl, hLt, hPt, hb⟩
        obtain ⟨ta, tc, rfl⟩ := LG.rm_lt hLt.rm
        obtain ⟨ua, uc, rfl⟩ := KY.rm_lt hPt.rm
        have HB1 := hide ((X9.out.low.trans (hb.mono X9.out.low.size)).alloc (Nat.le_trans X9.out.low.size hb.size) (.cells #[.int .i64 D0.code, .int .i64 D0.acc, .int .i64 D0.ass, .int .i64 D0.qty, .int .i64 D0.name, .int .i64 D0.id, .slice ta D0.legs.length tc, .slice ua D0.pairs.length uc] 26))
        clear hb hLt hPt
        go_wp2_with fail
        go_ret
        exact ⟨rfl, HB1.out⟩
    · have HP1 := hide (HEp1.out hgp)
      clear HEp0 HEp1
      generalize hge : encE p = ge at *
      go_wp2_with fail
      refine (HP1.out _ X3.out.low).mono ?_
      rintro e w4 ⟨v4, rfl, hV4, hb⟩
      have X4 := hide (X3.out.later hb)
      have V4 := hide (V3.out.later hb)
      have CX4 := hide (blk_later CX.out hb)
      have LX4 := hide (LX.out.later hb)
      have PX4 := hide (PX.out.later hb)
      have M4 := hide hV4.rm
      obtain ⟨ma, mc, rfl⟩ := LN.OM.slice hV4
      clear hb hV4 X3 V3 CX LX PX y0 y1 y2 y3 y4 y5 y6 y7
      obtain ⟨x0, x1, x2, x3, x4, x5, x6, x7⟩ := eight_cells X4.out.bo rfl
      go_wp2_with fail
      refine (HOo.out _ X4.out.low).mono ?_
      rintro e w5 ⟨lq, pq, rfl, hLq, hPq, hb⟩
      obtain ⟨qa, qc, rfl⟩ := LG.rm_lt hLq.rm
      obtain ⟨qb, qd, rfl⟩ := KY.rm_lt hPq.rm
      have b5 := hide (hb.alloc hb.size (.cells #[.int .i64 q.code, .int .i64 q.acc, .int .i64 q.ass, .int .i64 q.qty, .int .i64 q.name, .int .i64 q.id, .slice qa q.legs.length qc, .slice qb q.pairs.length qd] 26))
      have A5 := hide ((Below.refl w5.heap.size w5).alloc (Nat.le_refl _) (.cells #[.int .i64 q.code, .int .i64 q.acc, .int .i64 q.ass, .int .i64 q.qty, .int .i64 q.name, .int .i64 q.id, .slice qa q.legs.length qc, .slice qb q.pairs.length qd] 26))
      have X5 := hide (X4.out.later b5.out)
      have V5 := hide (V4.out.later b5.out)
      have CX5 := hide (blk_later CX4.out b5.out)
      have LX5 := hide (LX4.out.later b5.out)
      have PX5 := hide (PX4.out.later b5.out)
      have M5 := hide (M4.out.later b5.out)
      have CQ := hide (alloc_new w5 (.cells #[.int .i64 q.code, .int .i64 q.acc, .int .i64 q.ass, .int .i64 q.qty, .int .i64 q.name, .int .i64 q.id, .slice qa q.legs.length qc, .slice qb q.pairs.length qd] 26))
      have LQ := hide (hLq.rm.later A5.out)
      have PQ := hide (hPq.rm.later A5.out)
      clear hb hLq hPq A5 b5 X4 V4 CX4 LX4 PX4 M4 x0 x1 x2 x3 x4 x5 x6 x7
      obtain ⟨x0, x1, x2, x3, x4, x5, x6, x7⟩ := eight_cells CX5.out rfl
      obtain ⟨y0, y1, y2, y3, y4, y5, y6, y7⟩ := eight_cells CQ.out rfl
      go_wp2_with fail
      refine (HSO.out _ _ _ _ _ LX5.out LQ.out PX5.out PQ.out).mono ?_
      rintro e w6 ⟨b6, rfl, hb6, hb⟩
      obtain rfl : b6 = true := hb6.2 (by trivial)
      have X6 := hide (X5.out.later hb)
      have V6 := hide (V5.out.later hb)
      have M6 := hide (M5.out.later hb)
      have CQ6 := hide (blk_later CQ.out hb)
      have LQ6 := hide (LQ.out.later hb)
      have PQ6 := hide (PQ.out.later hb)
      clear hb hb6 X5 V5 CX5 LX5 PX5 M5 CQ LQ PQ x0 x1 x2 x3 x4 x5 x6 x7 y0 y1 y2 y3 y4 y5 y6 y7
      obtain ⟨x0, x1, x2, x3, x4, x5, x6, x7⟩ := eight_cells X6.out.bp rfl
      obtain ⟨y0, y1, y2, y3, y4, y5, y6, y7⟩ := eight_cells CQ6.out rfl
      go_wp2_with fail
      go_region_held3 (fun W => W.cell? ⟨w.heap.size + 1, 0, none⟩ = some (.int .i64 p.code) ∧ W.cell? ⟨w.heap.size + 1, 1, none⟩ = some (.int .i64 p.acc) ∧ W.cell? ⟨w.heap.size + 1, 2, none⟩ = some (.int .i64 p.ass) ∧ W.cell? ⟨w.heap.size + 1, 3, none⟩ = some (.int .i64 p.qty) ∧ W.cell? ⟨w.heap.size + 1, 4, none⟩ = some (.int .i64 p.name) ∧ W.cell? ⟨w.heap.size + 1, 5, none⟩ = some (.int .i64 p.id) ∧ W.cell? ⟨w.heap.size + 1, 6, none⟩ = some (.slice la2 p.legs.length lc2) ∧ W.cell? ⟨w.heap.size + 1, 7, none⟩ = some (.slice pa2 p.pairs.length pc2) ∧ W.cell? ⟨w5.heap.size, 0, none⟩ = some (.int .i64 q.code) ∧ W.cell? ⟨w5.heap.size, 1, none⟩ = some (.int .i64 q.acc) ∧ W.cell? ⟨w5.heap.size, 2, none⟩ = some (.int .i64 q.ass) ∧ W.cell? ⟨w5.heap.size, 3, none⟩ = some (.int .i64 q.qty) ∧ W.cell? ⟨w5.heap.size, 4, none⟩ = some (.int .i64 q.name) ∧ W.cell? ⟨w5.heap.size, 5, none⟩ = some (.int .i64 q.id) ∧ W.cell? ⟨w5.heap.size, 6, none⟩ = some (.slice qa q.legs.length qc) ∧ W.cell? ⟨w5.heap.size, 7, none⟩ = some (.slice qb q.pairs.length qd)) (go_keep) ((first
        | (go_at_call 39; refine (HOp.out _ X6.out.low.drew).mono ?_; rintro e w7 ⟨lr, pr, rfl, hLr, hPr, hb7⟩; have bb7 := hide (show Below w6.heap.size w6 w7 from drew_below.trans hb7); have X7 := hide (X6.out.later bb7.out); have V7 := hide (V6.out.later bb7.out); have M7 := hide (M6.out.later bb7.out); have CQ7 := hide (blk_later CQ6.out bb7.out); have LQ7 := hide (LQ6.out.later bb7.out); have PQ7 := hide (PQ6.out.later bb7.out); have LR7 := hide hLr.rm; have PR7 := hide hPr.rm; obtain ⟨x07, x17, x27, x37, x47, x57, x67, x77⟩ := eight_cells X7.out.bp rfl; obtain ⟨y07, y17, y27, y37, y47, y57, y67, y77⟩ := eight_cells CQ7.out rfl; clear hLr hPr hb7 bb7)
        | (go_at_call 27; refine (HSP.out _ _ _ _ _ LQ7.out LR7.out PQ7.out PR7.out).mono ?_; rintro e w8 ⟨b8, rfl, hb8, hb9⟩; have X8 := hide (X7.out.later hb9); have V8 := hide (V7.out.later hb9); have M8 := hide (M7.out.later hb9); have CQ8 := hide (blk_later CQ7.out hb9); have HB8 := hide hb8; obtain ⟨x08, x18, x28, x38, x48, x58, x68, x78⟩ := eight_cells X8.out.bp rfl; obtain ⟨y08, y18, y28, y38, y48, y58, y68, y78⟩ := eight_cells CQ8.out rfl; clear hb8 hb9)))
      clear x07 x17 x27 x37 x47 x57 x67 x77 y07 y17 y27 y37 y47 y57 y67 y77 x08 x18 x28 x38 x48 x58 x68 x78 y08 y18 y28 y38 y48 y58 y68 y78 X6 V6 M6 CQ6 LQ6 PQ6 X7 V7 M7 CQ7 LQ7 PQ7 LR7 PR7 CQ8
      obtain rfl : b8 = false := by
        cases hd : b8
        · rfl
        · exact absurd (HA.out.2 (HB8.out.1 hd)).1 hgp
      go_wp2_with fail
      by_cases h0 : dcE raw = 0
      · have HT := hide (HD0.out h0)
        have HT2 := hide (HE0.out h0)
        have hX0 := HX0.out h0
        rw [hX0] at HT2
        clear h0 hX0 HD0 HD1 HE0 HX0
        generalize dcO raw = D0 at *
        go_wp2_with fail
        refine (HT.out _ X8.out.low).mono ?_
        rintro e wt ⟨lt, pt, rfl, hLt, hPt, hb⟩
        obtain ⟨ta, tc, rfl⟩ := LG.rm_lt hLt.rm
        obtain ⟨ua, uc, rfl⟩ := KY.rm_lt hPt.rm
        have A1 := hide ((Below.refl wt.heap.size wt).alloc (Nat.le_refl _) (.cells #[.int .i64 D0.code, .int .i64 D0.acc, .int .i64 D0.ass, .int .i64 D0.qty, .int .i64 D0.name, .int .i64 D0.id, .slice ta D0.legs.length tc, .slice ua D0.pairs.length uc] 26))
        have HB1 := hide ((X8.out.low.trans (hb.mono X8.out.low.size)).alloc (Nat.le_trans X8.out.low.size hb.size) (.cells #[.int .i64 D0.code, .int .i64 D0.acc, .int .i64 D0.ass, .int .i64 D0.qty, .int .i64 D0.name, .int .i64 D0.id, .slice ta D0.legs.length tc, .slice ua D0.pairs.length uc] 26))
        have CT := hide (alloc_new wt (.cells #[.int .i64 D0.code, .int .i64 D0.acc, .int .i64 D0.ass, .int .i64 D0.qty, .int .i64 D0.name, .int .i64 D0.id, .slice ta D0.legs.length tc, .slice ua D0.pairs.length uc] 26))
        have LT := hide (hLt.rm.later A1.out)
        have PT := hide (hPt.rm.later A1.out)
        clear hb hLt hPt A1
        obtain ⟨t0, t1, t2, t3, t4, t5, t6, t7⟩ := eight_cells CT.out rfl
        go_wp2_with fail
        refine (HT2.out _ _ _ LT.out PT.out).mono ?_
        rintro e wu ⟨vu, rfl, hVu, hb⟩
        have HB2 := hide (HB1.out.trans (hb.mono HB1.out.size))
        have VU := hide hVu.rm
        obtain ⟨vua, vuc, rfl⟩ := LN.OM.slice hVu
        clear hb hVu
        go_wp2_with fail
        refine (HSR.out _ _ _ VU.out (HRV.out _ HB2.out)).mono ?_
        rintro e wv ⟨rfl, hb⟩
        have HB3 := hide (HB2.out.trans (hb.mono HB2.out.size))
        clear hb
        go_wp2_with fail
        go_ret
        exact ⟨rfl, HB3.out⟩
      · have HT := hide (HD1.out h0)
        clear h0 HD0 HD1 HE0 HX0
        generalize dcO raw = D0 at *
        generalize dcE raw = d0 at *
        go_wp2_with fail
        refine (HT.out _ X8.out.low).mono ?_
        rintro e wt ⟨lt, pt, rfl, hLt, hPt, hb⟩
        obtain ⟨ta, tc, rfl⟩ := LG.rm_lt hLt.rm
        obtain ⟨ua, uc, rfl⟩ := KY.rm_lt hPt.rm
        have HB1 := hide ((X8.out.low.trans (hb.mono X8.out.low.size)).alloc (Nat.le_trans X8.out.low.size hb.size) (.cells #[.int .i64 D0.code, .int .i64 D0.acc, .int .i64 D0.ass, .int .i64 D0.qty, .int .i64 D0.name, .int .i64 D0.id, .slice ta D0.legs.length tc, .slice ua D0.pairs.length uc] 26))
        clear hb hLt hPt
        go_wp2_with fail
        go_ret
        exact ⟨rfl, HB1.out⟩
  have hne : ¬ encE o = 0 := fun h => hc (HEK.out.1 h)
  by_cases h1 : 1 ≤ o.code
  · have k1 : decide (1 ≤ o.code) = true := decide_eq_true h1
    have k2 : decide (o.code ≤ 8) = false := decide_eq_false (by omega)
    clear h1
    have HE1 := hide (HEo1.out hne)
    clear hne hc HDL HDE HAL HEK HEo0 HEo1 HEp0 HEp1 HOo HOp HSO HSP HSL
    generalize encE o = ge at *
    generalize encL o = X at *
    go_enter Tryz.func15, Tryz.ntmps15
    go_wp2_with fail
    refine (HE1.out _ X0.out.low).mono ?_
    rintro e w1 ⟨v1, rfl, hV1, hb⟩
    have X1 := hide (X0.out.later hb)
    have V1 := hide hV1.rm
    obtain ⟨va, vc, rfl⟩ := LN.OM.slice hV1
    clear hb hV1 X0 x0 x1 x2 x3 x4 x5 x6 x7
    obtain ⟨x0, x1, x2, x3, x4, x5, x6, x7⟩ := eight_cells X1.out.bo rfl
    go_wp2_with fail
    go_region_held3 (fun W => W.cell? ⟨w.heap.size, 0, none⟩ = some (.int .i64 o.code)) (go_keep) ((go_at_call 4; refine (HW.out _ X1.out.low.drew).mono ?_; rintro e w2 ⟨rfl, hb2⟩; have X2 := hide (X1.out.later (drew_below.trans hb2)); have V2 := hide (V1.out.later (drew_below.trans hb2)); obtain ⟨z0, z1, z2, z3, z4, z5, z6, z7⟩ := eight_cells X2.out.bo rfl; clear hb2))
    by_cases h0 : dcE raw = 0
    · have HT := hide (HD0.out h0)
      have HT2 := hide (HE0.out h0)
      have hX0 := HX0.out h0
      rw [hX0] at HT2
      clear h0 hX0 HD0 HD1 HE0 HX0
      generalize dcO raw = D0 at *
      go_wp2_with fail
      refine (HT.out _ X2.out.low).mono ?_
      rintro e wt ⟨lt, pt, rfl, hLt, hPt, hb⟩
      obtain ⟨ta, tc, rfl⟩ := LG.rm_lt hLt.rm
      obtain ⟨ua, uc, rfl⟩ := KY.rm_lt hPt.rm
      have A1 := hide ((Below.refl wt.heap.size wt).alloc (Nat.le_refl _) (.cells #[.int .i64 D0.code, .int .i64 D0.acc, .int .i64 D0.ass, .int .i64 D0.qty, .int .i64 D0.name, .int .i64 D0.id, .slice ta D0.legs.length tc, .slice ua D0.pairs.length uc] 26))
      have HB1 := hide ((X2.out.low.trans (hb.mono X2.out.low.size)).alloc (Nat.le_trans X2.out.low.size hb.size) (.cells #[.int .i64 D0.code, .int .i64 D0.acc, .int .i64 D0.ass, .int .i64 D0.qty, .int .i64 D0.name, .int .i64 D0.id, .slice ta D0.legs.length tc, .slice ua D0.pairs.length uc] 26))
      have CT := hide (alloc_new wt (.cells #[.int .i64 D0.code, .int .i64 D0.acc, .int .i64 D0.ass, .int .i64 D0.qty, .int .i64 D0.name, .int .i64 D0.id, .slice ta D0.legs.length tc, .slice ua D0.pairs.length uc] 26))
      have LT := hide (hLt.rm.later A1.out)
      have PT := hide (hPt.rm.later A1.out)
      clear hb hLt hPt A1
      obtain ⟨t0, t1, t2, t3, t4, t5, t6, t7⟩ := eight_cells CT.out rfl
      go_wp2_with fail
      refine (HT2.out _ _ _ LT.out PT.out).mono ?_
      rintro e wu ⟨vu, rfl, hVu, hb⟩
      have HB2 := hide (HB1.out.trans (hb.mono HB1.out.size))
      have VU := hide hVu.rm
      obtain ⟨vua, vuc, rfl⟩ := LN.OM.slice hVu
      clear hb hVu
      go_wp2_with fail
      refine (HSR.out _ _ _ VU.out (HRV.out _ HB2.out)).mono ?_
      rintro e wv ⟨rfl, hb⟩
      have HB3 := hide (HB2.out.trans (hb.mono HB2.out.size))
      clear hb
      go_wp2_with fail
      go_ret
      exact ⟨rfl, HB3.out⟩
    · have HT := hide (HD1.out h0)
      clear h0 HD0 HD1 HE0 HX0
      generalize dcO raw = D0 at *
      generalize dcE raw = d0 at *
      go_wp2_with fail
      refine (HT.out _ X2.out.low).mono ?_
      rintro e wt ⟨lt, pt, rfl, hLt, hPt, hb⟩
      obtain ⟨ta, tc, rfl⟩ := LG.rm_lt hLt.rm
      obtain ⟨ua, uc, rfl⟩ := KY.rm_lt hPt.rm
      have HB1 := hide ((X2.out.low.trans (hb.mono X2.out.low.size)).alloc (Nat.le_trans X2.out.low.size hb.size) (.cells #[.int .i64 D0.code, .int .i64 D0.acc, .int .i64 D0.ass, .int .i64 D0.qty, .int .i64 D0.name, .int .i64 D0.id, .slice ta D0.legs.length tc, .slice ua D0.pairs.length uc] 26))
      clear hb hLt hPt
      go_wp2_with fail
      go_ret
      exact ⟨rfl, HB1.out⟩
  · have k1 : decide (1 ≤ o.code) = false := decide_eq_false h1
    clear h1
    have HE1 := hide (HEo1.out hne)
    clear hne hc HDL HDE HAL HEK HEo0 HEo1 HEp0 HEp1 HOo HOp HSO HSP HSL
    generalize encE o = ge at *
    generalize encL o = X at *
    go_enter Tryz.func15, Tryz.ntmps15
    go_wp2_with fail
    refine (HE1.out _ X0.out.low).mono ?_
    rintro e w1 ⟨v1, rfl, hV1, hb⟩
    have X1 := hide (X0.out.later hb)
    have V1 := hide hV1.rm
    obtain ⟨va, vc, rfl⟩ := LN.OM.slice hV1
    clear hb hV1 X0 x0 x1 x2 x3 x4 x5 x6 x7
    obtain ⟨x0, x1, x2, x3, x4, x5, x6, x7⟩ := eight_cells X1.out.bo rfl
    go_wp2_with fail
    refine s_begins (S := fun W => W.cell? ⟨w.heap.size, 0, none⟩ = some (.int .i64 o.code)) [] 15 #[false, false, false, false, false, false, false, false, false, false, false, false, false, false, false] (by kernel_rfl) (by kernel_rfl) (by kernel_rfl) ?_
    refine s_ready 0 #[true, false, false, false, false, false, false, false, false, false, false, false, false, false, false] rfl (by kernel_rfl) (by kernel_rfl) (by rfl) (fun K hK => ?_)
    refine op_call_fn 4 #[] (by kernel_rfl) ?_
    refine (HW.out _ X1.out.low.drew).mono ?_
    rintro e w2 ⟨rfl, hb2⟩
    refine ⟨_, rfl, ?_⟩
    have X2 := hide (X1.out.later (drew_below.trans hb2))
    have V2 := hide (V1.out.later (drew_below.trans hb2))
    obtain ⟨z0, z1, z2, z3, z4, z5, z6, z7⟩ := eight_cells X2.out.bo rfl
    have hHeld := hide z0
    clear hb2
    refine hK.out _ _ (fun _ => hHeld.out) ?_
    clear hK K
    simp only [Act.put, List.setIfInBounds_toArray]
    refine sk0 (v := ?_) 1 25 #[true, true, false, false, false, false, false, false, false, false, false, false, false, false, false] rfl rfl (by kernel_rfl) (by kernel_rfl) (by kernel_rfl) (by kernel_rfl) (fun _ _ _ h => h) (by kernel_rfl) (by rfl) ?hy (fun _ => hHeld.out) ?_
    case hy => intro W; first | (go_simp; done) | (go_simp; with_reducible rfl)
    simp only [List.setIfInBounds_toArray, List.set_cons_zero, List.set_cons_succ]
    refine sk0 (v := ?_) 2 26 #[true, true, true, false, false, false, false, false, false, false, false, false, false, false, false] rfl rfl (by kernel_rfl) (by kernel_rfl) (by kernel_rfl) (by kernel_rfl) (fun _ _ _ h => h) (by kernel_rfl) (by rfl) ?hy (fun _ => hHeld.out) ?_
    case hy => intro W; first | (go_simp; done) | (go_simp; with_reducible rfl)
    simp only [List.setIfInBounds_toArray, List.set_cons_zero, List.set_cons_succ]
    refine sk0 (v := ?_) 3 27 #[true, true, true, true, false, false, false, false, false, false, false, false, false, false, false] rfl rfl (by kernel_rfl) (by kernel_rfl) (by kernel_rfl) (by kernel_rfl) (fun _ _ _ h => h) (by kernel_rfl) (by rfl) ?hy (fun _ => hHeld.out) ?_
    case hy => intro W; first | (go_simp; done) | (go_simp; with_reducible rfl)
    simp only [List.setIfInBounds_toArray, List.set_cons_zero, List.set_cons_succ]
    refine sk0 (v := ?_) 4 28 #[true, true, true, true, true, false, false, false, false, false, false, false, false, false, false] rfl rfl (by kernel_rfl) (by kernel_rfl) (by kernel_rfl) (by kernel_rfl) (fun _ _ _ h => h) (by kernel_rfl) (by rfl) ?hy (fun _ => hHeld.out) ?_
    case hy => intro W; first | (go_simp; done) | (go_simp; with_reducible rfl)
    simp only [List.setIfInBounds_toArray, List.set_cons_zero, List.set_cons_succ]
    refine sk0 (v := ?_) 5 29 #[true, true, true, true, true, true, false, false, false, false, false, false, false, false, false] rfl rfl (by kernel_rfl) (by kernel_rfl) (by kernel_rfl) (by kernel_rfl) (fun _ _ _ h => h) (by kernel_rfl) (by rfl) ?hy (fun _ => hHeld.out) ?_
    case hy => intro W; first | (go_simp; done) | (go_simp; with_reducible rfl)
    simp only [List.setIfInBounds_toArray, List.set_cons_zero, List.set_cons_succ]
    refine sk1 (v := ?_) 6 30 #[true, true, true, true, true, true, true, false, false, false, false, false, false, false, false] rfl rfl (by kernel_rfl) (by kernel_rfl) (by kernel_rfl) (by kernel_rfl) (by kernel_rfl) (by kernel_rfl) (fun _ _ _ h => h) (by kernel_rfl) (by rfl) ?hy hHeld.out ?_
    case hy => rintro W e1; first | (go_simp; done) | (go_simp; with_reducible rfl)
    simp only [List.setIfInBounds_toArray, List.set_cons_zero, List.set_cons_succ]
    refine sk0 (v := ?_) 7 31 #[true, true, true, true, true, true, true, true, false, false, false, false, false, false, false] rfl rfl (by kernel_rfl) (by kernel_rfl) (by kernel_rfl) (by kernel_rfl) (fun _ _ _ h => h) (by kernel_rfl) (by rfl) ?hy (fun _ => hHeld.out) ?_
    case hy => intro W; first | (go_simp; done) | (go_simp; with_reducible rfl)
    simp only [List.setIfInBounds_toArray, List.set_cons_zero, List.set_cons_succ]
    refine sk0 (v := ?_) 8 32 #[true, true, true, true, true, true, true, true, true, false, false, false, false, false, false] rfl rfl (by kernel_rfl) (by kernel_rfl) (by kernel_rfl) (by kernel_rfl) (fun _ _ _ h => h) (by kernel_rfl) (by rfl) ?hy (fun _ => hHeld.out) ?_
    case hy => intro W; first | (go_simp; done) | (go_simp; with_reducible rfl)
    simp only [List.setIfInBounds_toArray, List.set_cons_zero, List.set_cons_succ]
    refine sk2 9 33 #[true, true, true, true, true, true, true, true, true, true, false, false, false, false, false] rfl rfl (by kernel_rfl) (by kernel_rfl) (by kernel_rfl) (by kernel_rfl) (fun _ _ _ h => h) (by kernel_rfl) (by rfl) (fun _ => hHeld.out) ?_
    simp only [List.setIfInBounds_toArray, List.set_cons_zero, List.set_cons_succ]
    refine sk2 10 34 #[true, true, true, true, true, true, true, true, true, true, true, false, false, false, false] rfl rfl (by kernel_rfl) (by kernel_rfl) (by kernel_rfl) (by kernel_rfl) (fun _ _ _ h => h) (by kernel_rfl) (by rfl) (fun _ => hHeld.out) ?_
    simp only [List.setIfInBounds_toArray, List.set_cons_zero, List.set_cons_succ]
    refine sk2 11 35 #[true, true, true, true, true, true, true, true, true, true, true, true, false, false, false] rfl rfl (by kernel_rfl) (by kernel_rfl) (by kernel_rfl) (by kernel_rfl) (fun _ _ _ h => h) (by kernel_rfl) (by rfl) (fun _ => hHeld.out) ?_
    simp only [List.setIfInBounds_toArray, List.set_cons_zero, List.set_cons_succ]
    refine sk0 (v := ?_) 12 36 #[true, true, true, true, true, true, true, true, true, true, true, true, true, false, false] rfl rfl (by kernel_rfl) (by kernel_rfl) (by kernel_rfl) (by kernel_rfl) (fun _ _ _ h => h) (by kernel_rfl) (by rfl) ?hy (fun _ => hHeld.out) ?_
    case hy => intro W; first | (go_simp; done) | (go_simp; with_reducible rfl)
    simp only [List.setIfInBounds_toArray, List.set_cons_zero, List.set_cons_succ]
    refine sk0 (v := ?_) 13 37 #[true, true, true, true, true, true, true, true, true, true, true, true, true, true, false] rfl rfl (by kernel_rfl) (by kernel_rfl) (by kernel_rfl) (by kernel_rfl) (fun _ _ _ h => h) (by kernel_rfl) (by rfl) ?hy (fun _ => hHeld.out) ?_
    case hy => intro W; first | (go_simp; done) | (go_simp; with_reducible rfl)
    simp only [List.setIfInBounds_toArray, List.set_cons_zero, List.set_cons_succ]
    refine sk0 (v := ?_) 14 38 #[true, true, true, true, true, true, true, true, true, true, true, true, true, true, true] rfl rfl (by kernel_rfl) (by kernel_rfl) (by kernel_rfl) (by kernel_rfl) (fun _ _ _ h => h) (by kernel_rfl) (by rfl) ?hy (fun _ => hHeld.out) ?_
    case hy => intro W; first | (go_simp; done) | (go_simp; with_reducible rfl)
    simp only [List.setIfInBounds_toArray, List.set_cons_zero, List.set_cons_succ]
    refine s_done (by kernel_rfl) ?_ _
    by_cases h0 : dcE raw = 0
    · have HT := hide (HD0.out h0)
      have HT2 := hide (HE0.out h0)
      have hX0 := HX0.out h0
      rw [hX0] at HT2
      clear h0 hX0 HD0 HD1 HE0 HX0
      generalize dcO raw = D0 at *
      go_wp2_with fail
      refine (HT.out _ X2.out.low).mono ?_
      rintro e wt ⟨lt, pt, rfl, hLt, hPt, hb⟩
      obtain ⟨ta, tc, rfl⟩ := LG.rm_lt hLt.rm
      obtain ⟨ua, uc, rfl⟩ := KY.rm_lt hPt.rm
      have A1 := hide ((Below.refl wt.heap.size wt).alloc (Nat.le_refl _) (.cells #[.int .i64 D0.code, .int .i64 D0.acc, .int .i64 D0.ass, .int .i64 D0.qty, .int .i64 D0.name, .int .i64 D0.id, .slice ta D0.legs.length tc, .slice ua D0.pairs.length uc] 26))
      have HB1 := hide ((X2.out.low.trans (hb.mono X2.out.low.size)).alloc (Nat.le_trans X2.out.low.size hb.size) (.cells #[.int .i64 D0.code, .int .i64 D0.acc, .int .i64 D0.ass, .int .i64 D0.qty, .int .i64 D0.name, .int .i64 D0.id, .slice ta D0.legs.length tc, .slice ua D0.pairs.length uc] 26))
      have CT := hide (alloc_new wt (.cells #[.int .i64 D0.code, .int .i64 D0.acc, .int .i64 D0.ass, .int .i64 D0.qty, .int .i64 D0.name, .int .i64 D0.id, .slice ta D0.legs.length tc, .slice ua D0.pairs.length uc] 26))
      have LT := hide (hLt.rm.later A1.out)
      have PT := hide (hPt.rm.later A1.out)
      clear hb hLt hPt A1
      obtain ⟨t0, t1, t2, t3, t4, t5, t6, t7⟩ := eight_cells CT.out rfl
      go_wp2_with fail
      refine (HT2.out _ _ _ LT.out PT.out).mono ?_
      rintro e wu ⟨vu, rfl, hVu, hb⟩
      have HB2 := hide (HB1.out.trans (hb.mono HB1.out.size))
      have VU := hide hVu.rm
      obtain ⟨vua, vuc, rfl⟩ := LN.OM.slice hVu
      clear hb hVu
      go_wp2_with fail
      refine (HSR.out _ _ _ VU.out (HRV.out _ HB2.out)).mono ?_
      rintro e wv ⟨rfl, hb⟩
      have HB3 := hide (HB2.out.trans (hb.mono HB2.out.size))
      clear hb
      go_wp2_with fail
      go_ret
      exact ⟨rfl, HB3.out⟩
    · have HT := hide (HD1.out h0)
      clear h0 HD0 HD1 HE0 HX0
      generalize dcO raw = D0 at *
      generalize dcE raw = d0 at *
      go_wp2_with fail
      refine (HT.out _ X2.out.low).mono ?_
      rintro e wt ⟨lt, pt, rfl, hLt, hPt, hb⟩
      obtain ⟨ta, tc, rfl⟩ := LG.rm_lt hLt.rm
      obtain ⟨ua, uc, rfl⟩ := KY.rm_lt hPt.rm
      have HB1 := hide ((X2.out.low.trans (hb.mono X2.out.low.size)).alloc (Nat.le_trans X2.out.low.size hb.size) (.cells #[.int .i64 D0.code, .int .i64 D0.acc, .int .i64 D0.ass, .int .i64 D0.qty, .int .i64 D0.name, .int .i64 D0.id, .slice ta D0.legs.length tc, .slice ua D0.pairs.length uc] 26))
      clear hb hLt hPt
      go_wp2_with fail
      go_ret
      exact ⟨rfl, HB1.out⟩
end Go.Proofs.YtdiamlajmcikhaaGreatDoor
