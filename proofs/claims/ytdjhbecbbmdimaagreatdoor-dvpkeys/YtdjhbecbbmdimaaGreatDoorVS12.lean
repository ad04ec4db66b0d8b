/-
  My own text: VS11, VS12 in one.
-/
import Derived.Test.YtdjhbecbbmdimaaGreatDoorVS10
import Derived.Test.YtdjhbecbbmdimaaGreatDoorBE2
namespace Go.Proofs.YtdjhbecbbmdimaaGreatDoor
open Go.RowKit

/-- What a sheet holds under its keys. -/
def SX (E : List En) (S : Ky → CX) : Prop := ∀ e ∈ E, e.now.cx = S e.k
def updX (S : Ky → CX) (k : Ky) (c : CX) : Ky → CX := fun x => if x = k then c else S x
/-- Keys and what was are the same. -/
def KW (E E' : List En) : Prop := E'.length = E.length ∧ ∀ (i : Nat) (a b : En), E[i]? = some a → E'[i]? = some b → b.k = a.k ∧ b.was = a.was
/-- All lists of the second are the first's, or new. -/
def NB (N : Nat) (E E' : List En) : Prop := ∀ e ∈ E', ∀ b, e.now.mv.ownBlock = some b ∨ e.now.lv.ownBlock = some b → (∃ a ∈ E, a.now.mv.ownBlock = some b ∨ a.now.lv.ownBlock = some b) ∨ N ≤ b
theorem KW.refl (E : List En) : KW E E := ⟨rfl, fun i a b h k => by rw [h] at k; injection k with k; subst k; exact ⟨rfl, rfl⟩⟩
theorem NB.refl (N : Nat) (E : List En) : NB N E E := fun e he _ hb => .inl ⟨e, he, hb⟩
theorem KW.trans {E F G : List En} (h : KW E F) (k : KW F G) : KW E G := ⟨k.1.trans h.1, fun i a c ha hc => by
  have hi : i < F.length := by have := (List.getElem?_eq_some_iff.1 hc).1; rw [k.1] at this; exact this
  have hf : F[i]? = some F[i] := List.getElem?_eq_getElem hi
  have h1 := h.2 i a _ ha hf
  have h2 := k.2 i _ c hf hc
  exact ⟨h2.1.trans h1.1, h2.2.trans h1.2⟩⟩
theorem NB.trans {N M : Nat} {E F G : List En} (h : NB N E F) (k : NB M F G) (hm : N ≤ M) : NB N E G := fun e he b hb => by
  rcases k e he b hb with ⟨a, ha, hb2⟩ | h2
  · exact h a ha b hb2
  · exact .inr (Nat.le_trans hm h2)
theorem KW.keys {E F : List En} (h : KW E F) : eks F = eks E := by
  refine List.ext_getElem? (fun i => ?_)
  unfold eks
  rw [List.getElem?_map, List.getElem?_map]
  cases ha : E[i]? with
  | none =>
    have := List.getElem?_eq_none_iff.1 ha
    rw [List.getElem?_eq_none (by rw [h.1]; exact this)]
  | some a =>
    have hi := (List.getElem?_eq_some_iff.1 ha).1
    have hf : F[i]? = some (F[i]'(by rw [h.1]; exact hi)) := List.getElem?_eq_getElem _
    rw [hf]
    exact congrArg some (h.2 i a _ ha hf).1
theorem KW.one {E : List En} {i : Nat} {e : En} (hi : E[i]? = some e) (c : Cl) : KW E (E.set i { e with now := c }) := ⟨by rw [List.length_set], fun j a b ha hb => by
  rw [List.getElem?_set] at hb
  by_cases h : i = j
  · subst h
    rw [if_pos rfl] at hb
    rw [hi] at ha
    injection ha with ha
    have hl := (List.getElem?_eq_some_iff.1 hi).1
    rw [if_pos hl] at hb
    injection hb with hb
    subst ha; subst hb
    exact ⟨rfl, rfl⟩
  · rw [if_neg h, ha] at hb
    injection hb with hb
    subst hb
    exact ⟨rfl, rfl⟩⟩
theorem NB.one {N : Nat} {E : List En} {i : Nat} {e : En} (hi : E[i]? = some e) (c : Cl) (hc : ∀ b, c.mv.ownBlock = some b ∨ c.lv.ownBlock = some b → (e.now.mv.ownBlock = some b ∨ e.now.lv.ownBlock = some b) ∨ N ≤ b) : NB N E (E.set i { e with now := c }) := fun x hx b hb => by
  rcases List.mem_or_eq_of_mem_set hx with hx | hx
  · exact .inl ⟨x, hx, hb⟩
  · subst hx
    rcases hc b hb with k | k
    · exact .inl ⟨e, List.mem_of_getElem? hi, k⟩
    · exact .inr k
theorem SX.one {E : List En} {S : Ky → CX} (h : SX E S) (hinc : Inc (eks E)) {i : Nat} {e : En} (hi : E[i]? = some e) (c : Cl) : SX (E.set i { e with now := c }) (updX S e.k c.cx) := fun x hx => by
  obtain ⟨j, hj⟩ := List.mem_iff_getElem?.1 hx
  rw [List.getElem?_set] at hj
  unfold updX
  by_cases hij : i = j
  · subst hij
    rw [if_pos rfl, if_pos (List.getElem?_eq_some_iff.1 hi).1] at hj
    injection hj with hj
    subst hj
    rw [if_pos rfl]
  · rw [if_neg hij] at hj
    have hne : x.k ≠ e.k := fun hk => by
      have h1 := eks_at hi
      have h2 := eks_at hj
      rw [hk] at h2
      rcases Nat.lt_or_gt_of_ne hij with h3 | h3
      · have := inc_at hinc h1 h2 h3
        exact absurd this (by unfold ltK; omega)
      · have := inc_at hinc h2 h1 h3
        exact absurd this (by unfold ltK; omega)
    rw [if_neg hne]
    exact h x (List.mem_of_getElem? hj)
/-- What an operation does on a sheet. -/
inductive DO where
  | ok (st : Int) (S : Ky → CX)
  | no (t : TypeId) (x : Value)
abbrev dno (k : Int) : DO := .no 52 (.int .i64 k)
def DA (w w' : World) (B g n cap : Nat) (E : List En) (o : DO) (r : Ending) : Prop := match o with
  | .no t x => r = .returned (.tuple #[.int .i64 0, .iface t x]) ∧ w.grownBy w' (some g)
  | .ok st S => ∃ E', r = .returned (.tuple #[.int .i64 st, .nilIface]) ∧ SH w' B (.slice (some ⟨g, 0, none⟩) n cap) E' ∧ KW E E' ∧ SX E' S ∧ NB w.heap.size E E' ∧ w.grownBy w' (some g)
theorem gr_of {w w' : World} {g : Nat} (h : Below w.heap.size w w') : w.grownBy w' (some g) := ⟨h.os, h.tape, h.output, h.size, fun k hk _ => h.block k hk⟩
def rK (id : Int) : Ky := (-1, id)
def stO (S : Ky → CX) (id : Int) : DO := if (S (rK id)).st = 0 then dno 10 else .ok (S (rK id)).st S
def cnO (S : Ky → CX) (id : Int) : DO := if (S (rK id)).st = 0 then dno 10 else if (S (rK id)).st = 1 then .ok 3 (updX S (rK id) { S (rK id) with st := 3 }) else dno 21
set_option maxRecDepth 100000 in
set_option maxHeartbeats 2000000 in
theorem record_any (B g cap : Nat) (E : List En) (i : Nat) (e : En) (id : Int) (w : World) (hS : SH w B (.slice (some ⟨g, 0, none⟩) E.length cap) E) (hinc : Inc (eks E)) (hi : E[i]? = some e) (hk : e.k = rK id) (h1 : E.length ≤ 1000000) :
    Calls Tryz.prog 75 #[.slice (some ⟨g, 0, none⟩) E.length cap, .int .i64 id] w fun r w' => r = .returned (.pointer (some ⟨g, i * 10 + 8, none⟩)) ∧ Below w.heap.size w w' := by
  have HS := hide hS
  have HR := hide (recordKey_any id w)
  have HA : Hid (∀ W, Below w.heap.size w W → Calls Tryz.prog 78 #[.slice (some ⟨g, 0, none⟩) E.length cap, .agg #[.int .i64 (-1), .int .i64 id]] W fun r w' => r = .returned (.pointer (some ⟨g, i * 10 + 6, none⟩)) ∧ Below W.heap.size W w') := hide (fun W hb => by
    have h := at_any B g cap E i e W (hS.later hb) hinc hi h1
    rw [hk] at h
    exact h)
  clear hS hinc hi hk
  go_enter Tryz.func75, Tryz.ntmps75
  go_wp2_with fail
  refine HR.out.mono ?_
  rintro r w1 ⟨rfl, hb1⟩
  have H1 := hide (HA.out w1 hb1)
  have B1 := hide hb1
  clear hb1 HR
  go_wp2_with fail
  refine H1.out.mono ?_
  rintro r w2 ⟨rfl, hb2⟩
  have B2 := hide (B1.out.trans (hb2.mono B1.out.size))
  clear hb2
  go_wp2_with fail
  go_ret
  exact ⟨rfl, B2.out⟩
set_option maxRecDepth 100000 in
set_option maxHeartbeats 2000000 in
theorem status_any (B g cap : Nat) (E : List En) (S : Ky → CX) (id : Int) (w : World) (hS : SH w B (.slice (some ⟨g, 0, none⟩) E.length cap) E) (hinc : Inc (eks E)) (hX : SX E S) (hk : rK id ∈ eks E) (h1 : E.length ≤ 1000000) :
    Calls Tryz.prog 51 #[.slice (some ⟨g, 0, none⟩) E.length cap, .int .i64 id] w fun r w' => DA w w' B g E.length cap E (stO S id) r := by
  obtain ⟨i, e, hi, hek⟩ := eks_mem hk
  have HR := hide (record_any B g cap E i e id w hS hinc hi hek h1)
  have HS := hide hS
  have HX := hide hX
  have HN := hide hinc
  have HEK := hide hek
  have hcx : S (rK id) = e.now.cx := by rw [← hek, ← hX e (List.mem_of_getElem? hi)]
  have HI := hide hi
  obtain ⟨st, hste⟩ : ∃ st, e.now.st = st := ⟨_, rfl⟩
  have HO : Hid (stO S id = if st = 0 then dno 10 else .ok st S) := hide (by unfold stO; rw [hcx, show e.now.cx.st = st from hste])
  have HSt := hide hste
  clear hS hinc hX hi hek hcx hk hste
  go_enter Tryz.func51, Tryz.ntmps51
  go_wp2_with fail
  refine HR.out.mono ?_
  rintro r w1 ⟨rfl, hb1⟩
  have c8 := ((HS.out.later hb1).cells HI.out).2.2.2.2.2.2.2.2.1
  rw [HSt.out] at c8
  have HG : Hid (w.grownBy w1 (some g)) := hide (gr_of hb1)
  have HS1 := hide (HS.out.later hb1)
  clear hb1 HR
  by_cases h0 : st = 0
  · have HO1 := hide (HO.out.trans (if_pos h0))
    subst h0
    go_wp2_with fail
    go_ret2
    rw [HO1.out]
    exact ⟨rfl, HG.out⟩
  · have hd : decide (st = 0) = false := by rw [decide_eq_false_iff_not]; exact h0
    have HO1 := hide (HO.out.trans (if_neg h0))
    go_wp2_with fail
    go_ret2
    rw [HO1.out]
    exact ⟨E, rfl, HS1.out, KW.refl E, HX.out, NB.refl _ E, HG.out⟩
set_option maxRecDepth 100000 in
set_option maxHeartbeats 2000000 in
theorem cancel_any (B g cap : Nat) (E : List En) (S : Ky → CX) (id : Int) (w : World) (hS : SH w B (.slice (some ⟨g, 0, none⟩) E.length cap) E) (hinc : Inc (eks E)) (hX : SX E S) (hk : rK id ∈ eks E) (h1 : E.length ≤ 1000000) :
    Calls Tryz.prog 50 #[.slice (some ⟨g, 0, none⟩) E.length cap, .int .i64 id] w fun r w' => DA w w' B g E.length cap E (cnO S id) r := by
  obtain ⟨i, e, hi, hek⟩ := eks_mem hk
  have HR := hide (record_any B g cap E i e id w hS hinc hi hek h1)
  have HS := hide hS
  have HX := hide hX
  have HN := hide hinc
  have HEK := hide hek
  have hcx : S (rK id) = e.now.cx := by rw [← hek, ← hX e (List.mem_of_getElem? hi)]
  have HI := hide hi
  obtain ⟨st, hste⟩ : ∃ st, e.now.st = st := ⟨_, rfl⟩
  have HO : Hid (cnO S id = if st = 0 then dno 10 else if st = 1 then .ok 3 (updX S (rK id) { e.now.cx with st := 3 }) else dno 21) := hide (by unfold cnO; rw [hcx, show e.now.cx.st = st from hste])
  have HSt := hide hste
  clear hS hinc hX hi hek hcx hk hste
  go_enter Tryz.func50, Tryz.ntmps50
  go_wp2_with fail
  refine HR.out.mono ?_
  rintro r w1 ⟨rfl, hb1⟩
  have c8 := ((HS.out.later hb1).cells HI.out).2.2.2.2.2.2.2.2.1
  rw [HSt.out] at c8
  have HG : Hid (w.grownBy w1 (some g)) := hide (gr_of hb1)
  have HS1 := hide (HS.out.later hb1)
  clear hb1 HR
  by_cases h0 : st = 0
  · have HO1 := hide (HO.out.trans (if_pos h0))
    subst h0
    go_wp2_with fail
    go_ret2
    rw [HO1.out]
    exact ⟨rfl, HG.out⟩
  · have hd : decide (st = 0) = false := by rw [decide_eq_false_iff_not]; exact h0
    by_cases h2 : st = 1
    · have HO1 := hide ((HO.out.trans (if_neg h0)).trans (if_pos h2))
      have hm := List.mem_of_getElem? HI.out
      obtain ⟨hS2, hg2⟩ := HS1.out.one HI.out { e.now with st := 3 } 8 (.int .i64 3) (by decide) rfl (HS1.out.ent e hm).2 (HS1.out.ap e hm).2
      have HS2 := hide hS2
      have HG2 := hide (grown_trans HG.out hg2)
      have f8 := HS1.out.froz (i * 10 + 8)
      have HKW := hide (KW.one HI.out { e.now with st := 3 })
      have HNB : Hid (NB w.heap.size E (E.set i { e with now := { e.now with st := 3 } })) := hide (NB.one HI.out { e.now with st := 3 } (fun b hb => .inl hb))
      have HSX : Hid (SX (E.set i { e with now := { e.now with st := 3 } }) (updX S (rK id) { e.now.cx with st := 3 })) := hide (by rw [← HEK.out]; exact HX.out.one HN.out HI.out { e.now with st := 3 })
      subst h2
      clear hS2 hg2 h0
      go_wp2_with fail
      go_ret2
      rw [HO1.out]
      exact ⟨_, rfl, HS2.out, HKW.out, HSX.out, HNB.out, HG2.out⟩
    · have hd2 : decide (st = 1) = false := by rw [decide_eq_false_iff_not]; exact h2
      have HO1 := hide ((HO.out.trans (if_neg h0)).trans (if_neg h2))
      go_wp2_with fail
      go_ret2
      rw [HO1.out]
      exact ⟨rfl, HG.out⟩
end Go.Proofs.YtdjhbecbbmdimaaGreatDoor
namespace Go.Proofs.YtdjhbecbbmdimaaGreatDoor
open Go.RowKit

/-- An error's number, alone. -/
def NoE (t : TypeId) (x : Value) : Prop := t = 52 ∧ ∃ k : Int, 1 ≤ k ∧ k ≤ 24 ∧ x = .int .i64 k
/-- A refusal of layer 14 about a number. -/
def NoR (t : TypeId) (x : Value) : Prop := t = 197 ∧ ∃ (s : List UInt8) (k : Int), 1 ≤ k ∧ k ≤ 24 ∧ x = .agg #[.string ⟨s.toArray⟩, .iface 52 (.int .i64 k)]
theorem bg_er {av q : Int} {L : List BL.Mk} {t : TypeId} {x : Value} (hr : BL.Rt av L) (h : BL.bg av L q = some (t, x)) : NoE t x := by
  unfold BL.bg at h
  have h0 := (BL.ck_right (BL.Rt.top hr)).2 hr
  rw [if_neg (by rw [h0]; simp)] at h
  split at h
  · injection h with h
    injection h with h1 h2
    exact ⟨h1.symm, 16, by decide, by decide, h2.symm⟩
  · cases h
theorem eno_er {k : Int} {t : TypeId} {x : Value} (h : BL.eno k = .no t x) (h1 : 1 ≤ k) (h2 : k ≤ 24) : NoE t x := by
  injection h with a b
  exact ⟨a.symm, k, h1, h2, b.symm⟩
theorem debit_er {av q n : Int} {L : List BL.Mk} {t : TypeId} {x : Value} (hr : BL.Rt av L) (h : BL.debitO av L q n = .no t x) : NoE t x := by
  unfold BL.debitO at h
  cases hb : BL.bg av L q with
  | some p => rw [hb] at h; obtain ⟨u, y⟩ := p; injection h with h1 h2; subst h1 h2; exact bg_er hr hb
  | none =>
    rw [hb] at h
    simp only at h
    split at h
    · exact eno_er h (by decide) (by decide)
    · split at h
      · exact eno_er h (by decide) (by decide)
      · split at h <;> cases h
theorem credit_er {av q : Int} {L : List BL.Mk} {t : TypeId} {x : Value} (hr : BL.Rt av L) (h : BL.creditO av L q = .no t x) : NoE t x := by
  unfold BL.creditO at h
  cases hb : BL.bg av L q with
  | some p => rw [hb] at h; obtain ⟨u, y⟩ := p; injection h with h1 h2; subst h1 h2; exact bg_er hr hb
  | none =>
    rw [hb] at h
    simp only at h
    split at h
    · exact eno_er h (by decide) (by decide)
    · cases h
theorem mark_er {av q n : Int} {L : List BL.Mk} {t : TypeId} {x : Value} (hr : BL.Rt av L) (h : BL.markO av L q n = .no t x) : NoE t x := by
  unfold BL.markO at h
  cases hb : BL.bg av L q with
  | some p => rw [hb] at h; obtain ⟨u, y⟩ := p; injection h with h1 h2; subst h1 h2; exact bg_er hr hb
  | none =>
    rw [hb] at h
    simp only at h
    split at h
    · exact eno_er h (by decide) (by decide)
    · split at h
      · exact eno_er h (by decide) (by decide)
      · split at h
        · exact eno_er h (by decide) (by decide)
        · cases h
theorem unmark_er {av q n : Int} {L : List BL.Mk} {t : TypeId} {x : Value} (hr : BL.Rt av L) (h : BL.unmarkO av L q n = .no t x) : NoE t x := by
  unfold BL.unmarkO at h
  cases hb : BL.bg av L q with
  | some p => rw [hb] at h; obtain ⟨u, y⟩ := p; injection h with h1 h2; subst h1 h2; exact bg_er hr hb
  | none =>
    rw [hb] at h
    simp only at h
    split at h
    · exact eno_er h (by decide) (by decide)
    · split at h
      · exact eno_er h (by decide) (by decide)
      · cases h
theorem toO_er {s : List UInt8} {o : BL.Out} {t : TypeId} {x : Value} (h : toO s o = .no t x) (he : ∀ u y, o = .no u y → NoE u y) : NoR t x := by
  cases o with
  | ok a M => cases h
  | no u y =>
    obtain ⟨hu, k, h1, h2, hy⟩ := he u y rfl
    injection h with a b
    exact ⟨a.symm, s, k, h1, h2, by rw [← b, hu, hy]⟩
/-- Right positions under keys. -/
def RP (P : Ky → Pos) (K : List Ky) : Prop := ∀ k ∈ K, BL.Rt (P k).1 (P k).2
theorem RP.upd {P : Ky → Pos} {K : List Ky} (h : RP P K) {k : Ky} {a : Int} {M : List BL.Mk} (hr : BL.Rt a M) : RP (upd P k (a, M)) K := fun x hx => by
  by_cases e : x = k
  · have : Go.Proofs.YtdjhbecbbmdimaaGreatDoor.upd P k (a, M) x = (a, M) := if_pos e
    rw [this]; exact hr
  · have : Go.Proofs.YtdjhbecbbmdimaaGreatDoor.upd P k (a, M) x = P x := if_neg e
    rw [this]; exact h x hx
theorem dbs_er {K : List Ky} : ∀ {L : List LG.El} {P : Ky → Pos}, RP P K → (∀ l ∈ L, srcK l ∈ K ∧ tgtK l ∈ K) → (∀ Q, dbs P L = .ok Q → RP Q K) ∧ ∀ t x, dbs P L = .no t x → NoR t x
  | [], P, h, _ => ⟨fun Q e => by injection e with e; rw [← e]; exact h, fun t x e => by cases e⟩
  | l :: r, P, h, hl => by
    have hs := h _ (hl l List.mem_cons_self).1
    unfold dbs
    cases hd : dbO P l with
    | no t x => exact ⟨fun Q e => (by cases e), fun u y e => by
        injection e with e1 e2
        subst e1 e2
        exact toO_er hd (fun u y hn => debit_er hs hn)⟩
    | ok a M => exact dbs_er (h.upd (BL.debit_ok (BL.Rt.top hs) (toO_ok hd)).2.2.1) (fun x hx => hl x (List.mem_cons_of_mem _ hx))
theorem crs_er {K : List Ky} : ∀ {L : List LG.El} {P : Ky → Pos}, RP P K → (∀ l ∈ L, srcK l ∈ K ∧ tgtK l ∈ K) → (∀ Q, crs P L = .ok Q → RP Q K) ∧ ∀ t x, crs P L = .no t x → NoR t x
  | [], P, h, _ => ⟨fun Q e => by injection e with e; rw [← e]; exact h, fun t x e => by cases e⟩
  | l :: r, P, h, hl => by
    have hs := h _ (hl l List.mem_cons_self).2
    unfold crs
    cases hd : crO P l with
    | no t x => exact ⟨fun Q e => (by cases e), fun u y e => by
        injection e with e1 e2
        subst e1 e2
        exact toO_er hd (fun u y hn => credit_er hs hn)⟩
    | ok a M => exact crs_er (h.upd (BL.credit_ok (BL.Rt.top hs) (toO_ok hd)).2.2.1) (fun x hx => hl x (List.mem_cons_of_mem _ hx))
theorem mvs_er {K : List Ky} {L : List LG.El} {P : Ky → Pos} (h : RP P K) (hl : ∀ l ∈ L, srcK l ∈ K ∧ tgtK l ∈ K) : (∀ Q, mvs P L = .ok Q → RP Q K) ∧ ∀ t x, mvs P L = .no t x → NoR t x := by
  unfold mvs
  have hd := dbs_er h hl
  cases hc : dbs P L with
  | no t x => exact ⟨fun Q e => (by cases e), fun u y e => by injection e with e1 e2; subst e1 e2; exact hd.2 t x hc⟩
  | ok Q => exact crs_er (hd.1 Q hc) hl
/-- Positions of what stands under keys. -/
def psX (S : Ky → CX) : Ky → Pos := fun k => ((S k).av, (S k).ml)
def posX (S : Ky → CX) (P : Ky → Pos) : Ky → CX := fun k => { S k with av := (P k).1, ml := (P k).2 }
theorem SX.sp {E : List En} {S : Ky → CX} (h : SX E S) : SP E (psX S) := fun e he => by
  unfold psX
  rw [← h e he]
  rfl
theorem SX.rp {E : List En} {S : Ky → CX} (h : SX E S) (hr : RtE E) : RP (psX S) (eks E) := fun k hk => by
  obtain ⟨i, e, hi, rfl⟩ := eks_mem hk
  unfold psX
  rw [← h e (List.mem_of_getElem? hi)]
  exact hr e (List.mem_of_getElem? hi)
theorem SR.kw {E F : List En} (h : SR E F) : KW E F := ⟨h.1, fun i a b ha hb => ⟨(h.2 i a b ha hb).1, (h.2 i a b ha hb).2.1⟩⟩
theorem SR.from {E F : List En} (h : SR E F) {e : En} (he : e ∈ F) : ∃ a ∈ E, SRe a e := by
  obtain ⟨j, hj⟩ := List.mem_iff_getElem?.1 he
  have hl : j < E.length := by have := (List.getElem?_eq_some_iff.1 hj).1; rw [h.1] at this; exact this
  have ha : E[j]? = some E[j] := List.getElem?_eq_getElem hl
  exact ⟨_, List.mem_of_getElem? ha, h.2 j _ e ha hj⟩
theorem SR.sx {E F : List En} {S : Ky → CX} {P : Ky → Pos} (h : SR E F) (hX : SX E S) (hP : SP F P) : SX F (posX S P) := fun e he => by
  obtain ⟨a, ha, hk, _, hs, hl, _⟩ := h.from he
  have h1 := hX a ha
  have h2 := hP e he
  unfold posX
  rw [← h2, hk, ← h1]
  show (⟨e.now.av, e.now.ml, e.now.st, e.now.ll⟩ : CX) = ⟨e.now.av, e.now.ml, a.now.st, a.now.ll⟩
  rw [hs, hl]
theorem SR.nb {N : Nat} {E F : List En} (h : SR E F) (hM : MB N E F) : NB N E F := fun e he b hb => by
  rcases hb with hb | hb
  · rcases hM e he b hb with ⟨a, ha, hab⟩ | h2
    · exact .inl ⟨a, ha, .inl hab⟩
    · exact .inr h2
  · obtain ⟨a, ha, _, _, _, _, hv⟩ := h.from he
    exact .inl ⟨a, ha, .inr (by rw [← hv]; exact hb)⟩
end Go.Proofs.YtdjhbecbbmdimaaGreatDoor
