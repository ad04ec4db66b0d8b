/-
  My own text: VS5, VS6 in one.
-/
import Derived.Test.YtdjhbecbbmdimaaGreatDoorVS4
namespace Go.Proofs.YtdjhbecbbmdimaaGreatDoor
open Go.RowKit

theorem Tryz.infoEn : (Tryz.prog.info? 103).map (fun i => (i.zero, i.size, i.bytes)) = some (some (.agg #[.int .i64 0, .int .i64 0, .int .i64 0, .slice none 0 0, .int .i64 0, .slice none 0 0, .int .i64 0, .slice none 0 0, .int .i64 0, .slice none 0 0]), 10, 144) := by kernel_rfl
theorem ec_one {w : World} : ∀ {E : List En}, (∀ e ∈ E, EO w e) → ∀ u ∈ ec E, u.oneCell' = true
  | [], _, u, hu => by cases hu
  | e :: t, h, u, hu => by
    have h0 := h e (by simp)
    obtain ⟨a1, c1, e1⟩ := BL.rm_lt h0.1.1
    obtain ⟨a2, c2, e2⟩ := LG.rm_lt h0.1.2.1
    obtain ⟨a3, c3, e3⟩ := BL.rm_lt h0.2.1
    obtain ⟨a4, c4, e4⟩ := LG.rm_lt h0.2.2.1
    rcases List.mem_append.1 (show u ∈ e.vs ++ ec t from hu) with hu | hu
    · unfold En.vs at hu
      rw [e1, e2, e3, e4] at hu
      simp only [List.mem_cons, List.not_mem_nil, or_false] at hu
      rcases hu with rfl | rfl | rfl | rfl | rfl | rfl | rfl | rfl | rfl | rfl <;> rfl
    · exact ec_one (fun e he => h e (List.mem_cons_of_mem _ he)) u hu
theorem eqNilE (a : Addr) (n c : Nat) (W : World) : (binOp .eql 81 (.slice (some a) n c) (.slice none 0 0)).run Tryz.prog W = .ok (.bool false) W := by kernel_rfl
set_option maxRecDepth 100000 in
set_option maxHeartbeats 1000000 in
theorem cloneS_any (B g cap : Nat) (E : List En) (w : World) (hS : SH w B (.slice (some ⟨g, 0, none⟩) E.length cap) E) (h0 : 0 < E.length) (h1 : E.length ≤ 1000000) :
    Calls Tryz.prog 107 #[.slice (some ⟨g, 0, none⟩) E.length cap] w fun r w' => ∃ g2 cap2, r = .returned (.slice (some ⟨g2, 0, none⟩) E.length cap2) ∧ SH w' w.heap.size (.slice (some ⟨g2, 0, none⟩) E.length cap2) E ∧ Below w.heap.size w w' := by
  obtain ⟨i0, hi, hz0, hz1, hz2⟩ := info_parts Tryz.infoEn
  have b1 := (Below.refl w.heap.size w).alloc (Nat.le_refl _) (.cells #[] 103)
  have hE := empty_own w 103 10
  have hS1 := hS.later b1
  obtain ⟨v2, w2, hrun, hO, hg, _⟩ := run_append_own (P := Tryz.prog) (w.alloc (.cells #[] 103)) w.heap.size 81 81 103 i0 _ 10 144 Tryz.underlying81 hi hz0 hz1 hz2 rfl (by decide) (.slice (some ⟨w.heap.size, 0, none⟩) 0 0) 0 [] hE ⟨g, 0, none⟩ E.length cap (ec E) (ec_len E) (fun j u hj => by
    rw [Addr.add_lit, Nat.zero_add]
    exact (World.ownsRow.cellAt hS1.own j (by have := (List.getElem?_eq_some_iff.1 hj).1; rw [ec_len] at this; exact this)).trans hj) (ec_one hS1.ent) (by unfold maxLen; omega) (by omega) (by simp)
  rw [List.nil_append, Nat.zero_add] at hO
  have hB := b1.grown hg (by simp) (fun k e => (World.ownsRow.lt hE k e).1)
  obtain ⟨g2, cap2, hv2, hg2, _⟩ := World.ownsRow.form hO h0
  subst hv2
  have HS : Hid (SH w2 w.heap.size (.slice (some ⟨g2, 0, none⟩) E.length cap2) E) := hide ⟨hO, fun e he => (hS.ent e he).later hB, fun e he => ⟨fun b hb => by
      cases hb
      have hl := (hS.ent e he).1.2.2
      exact ⟨fun k => by have : g2 < w.heap.size := hl _ (.inl k); omega, fun k => by have : g2 < w.heap.size := hl _ (.inr k); omega⟩, fun b hb => by
      cases hb
      have hl := (hS.ent e he).2.2.2
      exact ⟨fun k => by have : g2 < w.heap.size := hl _ (.inl k); omega, fun k => by have : g2 < w.heap.size := hl _ (.inr k); omega⟩⟩⟩
  have HB := hide hB
  have HRN := hide hrun
  have qs := eqNilE ⟨g, 0, none⟩ E.length cap
  clear hS hS1 b1 hE hrun hO hg hB hi hz0 hz1 hz2 hg2
  go_enter Tryz.func107, Tryz.ntmps107
  go_wp2_with (at_builtin; refine Lib.wpList_append_run _ rfl _ _ _ _ rfl _ _ rfl rfl _ _ HRN.out ?_)
  go_ret
  exact ⟨_, _, rfl, HS.out, HB.out⟩
/-- copy(dst, src) of sheets of one length. -/
theorem run_copyS (w : World) (ty : TypeId) (g cap g2 cap2 n : Nat) (cs : List Value) (hn : cs.length = n * 10) (hsrc : ∀ j v, cs[j]? = some v → w.cell? ⟨g2, j, none⟩ = some v) (hc : ∀ j, j < cs.length → (w.cell? ⟨g, j, none⟩).isSome = true) (hf : ∀ j, j < cs.length → w.frozen? ⟨g, j, none⟩ = false) (h1 : ∀ v ∈ cs, v.oneCell' = true) :
    (Builtin.copy_ #[81, 81] ty #[.slice (some ⟨g, 0, none⟩) n cap, .slice (some ⟨g2, 0, none⟩) n cap2]).run Tryz.prog w = .ok (goInt n) (w.setCells g 0 cs) := by
  obtain ⟨i0, hi, hz0, hz1, hz2⟩ := info_parts Tryz.infoEn
  have hl := run_firstCells_some (P := Tryz.prog) (w := w) 10 n ⟨g2, 0, none⟩ n cap2 cs hn (fun j v hj => by rw [Addr.add_lit, Nat.zero_add]; exact hsrc j v hj)
  have hst := run_storeCells_cells (P := Tryz.prog) g 0 cs 0 w (by simpa using hc) (by simpa using hf) h1
  simp [Builtin.copy_, run_underlying Tryz.underlying81, Builtin.lenOf, sizeOf, typeInfo, hi, hz1, hl, hst]
theorem setCells_all {w : World} {B g n cap s : Nat} {e : TypeId} {xs vs : List Value} (h : w.ownsRow B e s (.slice (some ⟨g, 0, none⟩) n cap) n xs) (hl : vs.length = xs.length) : (w.setCells g 0 vs).ownsRow B e s (.slice (some ⟨g, 0, none⟩) n cap) n vs ∧ w.grownBy (w.setCells g 0 vs) (some g) := by
  obtain ⟨xs', h1, _, h3⟩ := setCells_own vs 0 w xs h
  have hx := h.1
  have hx' := h1.1
  have e1 : xs' = vs := by
    refine List.ext_getElem (by omega) (fun j hj1 hj2 => ?_)
    have hin := World.cell?_setCells_in g vs 0 w (fun j hj => by
      rw [Nat.zero_add, World.ownsRow.cellAt h j (by omega), List.getElem?_eq_getElem (by omega)]; rfl) j hj2
    rw [Nat.zero_add, World.ownsRow.cellAt h1 j (by omega), List.getElem?_eq_getElem hj1] at hin
    exact Option.some.inj hin
  rw [← e1]
  rw [← e1] at h1 h3
  exact ⟨h1, h3⟩
abbrev Pos := Int × List BL.Mk
def upd (P : Ky → Pos) (k : Ky) (p : Pos) : Ky → Pos := fun x => if x = k then p else P x
def srcK (l : LG.El) : Ky := (l.1, l.2.2.1)
def tgtK (l : LG.El) : Ky := (l.2.1, l.2.2.1)
inductive MR where
  | ok (P : Ky → Pos)
  | no (t : TypeId) (x : Value)
def dbO (P : Ky → Pos) (l : LG.El) : TO := toO [100, 101, 98, 105, 116] (BL.debitO (P (srcK l)).1 (P (srcK l)).2 l.2.2.2.1 l.2.2.2.2)
def crO (P : Ky → Pos) (l : LG.El) : TO := toO [99, 114, 101, 100, 105, 116] (BL.creditO (P (tgtK l)).1 (P (tgtK l)).2 l.2.2.2.1)
def dbs (P : Ky → Pos) : List LG.El → MR
  | [] => .ok P
  | l :: r => match dbO P l with
    | .ok a M => dbs (upd P (srcK l) (a, M)) r
    | .no t x => .no t x
def crs (P : Ky → Pos) : List LG.El → MR
  | [] => .ok P
  | l :: r => match crO P l with
    | .ok a M => crs (upd P (tgtK l) (a, M)) r
    | .no t x => .no t x
def mvs (P : Ky → Pos) (L : List LG.El) : MR := match dbs P L with
  | .ok P' => crs P' L
  | .no t x => .no t x
theorem dbs_step {P Q : Ky → Pos} {L : List LG.El} {k : Nat} {l : LG.El} (h : dbs P (L.take k) = .ok Q) (hl : L[k]? = some l) : dbs P (L.take (k + 1)) = (match dbO Q l with | .ok a M => .ok (upd Q (srcK l) (a, M)) | .no t x => .no t x) := by
  rw [List.take_add_one, hl]
  show dbs P (L.take k ++ [l]) = _
  generalize L.take k = T at h
  induction T generalizing P with
  | nil =>
    injection h with h
    subst h
    show (match dbO P l with | .ok a M => dbs (upd P (srcK l) (a, M)) [] | .no t x => .no t x) = _
    cases dbO P l <;> rfl
  | cons a t ih =>
    show (match dbO P a with | .ok b M => dbs (upd P (srcK a) (b, M)) (t ++ [l]) | .no u x => .no u x) = _
    unfold dbs at h
    cases ha : dbO P a with
    | no u x => rw [ha] at h; cases h
    | ok b M => rw [ha] at h; exact ih h
theorem dbs_no {P Q : Ky → Pos} {L : List LG.El} {k : Nat} {l : LG.El} {t : TypeId} {x : Value} (h : dbs P (L.take k) = .ok Q) (hl : L[k]? = some l) (hn : dbO Q l = .no t x) : dbs P L = .no t x := by
  have hk := (List.getElem?_eq_some_iff.1 hl).1
  have e : L = L.take k ++ (l :: L.drop (k + 1)) := by
    have := List.getElem?_eq_some_iff.1 hl
    obtain ⟨h1, h2⟩ := this
    rw [← h2, List.getElem_cons_drop h1, List.take_append_drop]
  rw [e]
  generalize L.take k = T at h
  generalize L.drop (k + 1) = D
  induction T generalizing P with
  | nil =>
    injection h with h
    subst h
    show (match dbO P l with | .ok b M => dbs (upd P (srcK l) (b, M)) D | .no u x => .no u x) = _
    rw [hn]
  | cons a r ih =>
    show (match dbO P a with | .ok b M => dbs (upd P (srcK a) (b, M)) (r ++ (l :: D)) | .no u x => .no u x) = _
    unfold dbs at h
    cases ha : dbO P a with
    | no u x => rw [ha] at h; cases h
    | ok b M => rw [ha] at h; exact ih h
theorem crs_step {P Q : Ky → Pos} {L : List LG.El} {k : Nat} {l : LG.El} (h : crs P (L.take k) = .ok Q) (hl : L[k]? = some l) : crs P (L.take (k + 1)) = (match crO Q l with | .ok a M => .ok (upd Q (tgtK l) (a, M)) | .no t x => .no t x) := by
  rw [List.take_add_one, hl]
  show crs P (L.take k ++ [l]) = _
  generalize L.take k = T at h
  induction T generalizing P with
  | nil =>
    injection h with h
    subst h
    show (match crO P l with | .ok a M => crs (upd P (tgtK l) (a, M)) [] | .no t x => .no t x) = _
    cases crO P l <;> rfl
  | cons a t ih =>
    show (match crO P a with | .ok b M => crs (upd P (tgtK a) (b, M)) (t ++ [l]) | .no u x => .no u x) = _
    unfold crs at h
    cases ha : crO P a with
    | no u x => rw [ha] at h; cases h
    | ok b M => rw [ha] at h; exact ih h
theorem crs_no {P Q : Ky → Pos} {L : List LG.El} {k : Nat} {l : LG.El} {t : TypeId} {x : Value} (h : crs P (L.take k) = .ok Q) (hl : L[k]? = some l) (hn : crO Q l = .no t x) : crs P L = .no t x := by
  have hk := (List.getElem?_eq_some_iff.1 hl).1
  have e : L = L.take k ++ (l :: L.drop (k + 1)) := by
    have := List.getElem?_eq_some_iff.1 hl
    obtain ⟨h1, h2⟩ := this
    rw [← h2, List.getElem_cons_drop h1, List.take_append_drop]
  rw [e]
  generalize L.take k = T at h
  generalize L.drop (k + 1) = D
  induction T generalizing P with
  | nil =>
    injection h with h
    subst h
    show (match crO P l with | .ok b M => crs (upd P (tgtK l) (b, M)) D | .no u x => .no u x) = _
    rw [hn]
  | cons a r ih =>
    show (match crO P a with | .ok b M => crs (upd P (tgtK a) (b, M)) (r ++ (l :: D)) | .no u x => .no u x) = _
    unfold crs at h
    cases ha : crO P a with
    | no u x => rw [ha] at h; cases h
    | ok b M => rw [ha] at h; exact ih h
end Go.Proofs.YtdjhbecbbmdimaaGreatDoor
namespace Go.Proofs.YtdjhbecbbmdimaaGreatDoor
open Go.RowKit

/-- The positions of a sheet. -/
def SP (E : List En) (P : Ky → Pos) : Prop := ∀ e ∈ E, (e.now.av, e.now.ml) = P e.k
def RtE (E : List En) : Prop := ∀ e ∈ E, BL.Rt e.now.av e.now.ml
/-- All but the positions as it was. -/
def SRe (a b : En) : Prop := b.k = a.k ∧ b.was = a.was ∧ b.now.st = a.now.st ∧ b.now.ll = a.now.ll ∧ b.now.lv = a.now.lv
def SR (E F : List En) : Prop := F.length = E.length ∧ ∀ (i : Nat) (a b : En), E[i]? = some a → F[i]? = some b → SRe a b
theorem SR.refl (E : List En) : SR E E := ⟨rfl, fun i a b h k => by rw [h] at k; injection k with k; subst k; exact ⟨rfl, rfl, rfl, rfl, rfl⟩⟩
theorem SR.keys {E F : List En} (h : SR E F) : eks F = eks E := by
  unfold eks
  refine List.ext_getElem? (fun i => ?_)
  rw [List.getElem?_map, List.getElem?_map]
  by_cases hi : i < E.length
  · have h1 := List.getElem?_eq_getElem hi
    have h2 := List.getElem?_eq_getElem (show i < F.length by rw [h.1]; exact hi)
    rw [h1, h2]
    exact congrArg some (h.2 i _ _ h1 h2).1
  · rw [List.getElem?_eq_none (by have := h.1; omega), List.getElem?_eq_none (by have := h.1; omega)]
theorem SR.set {E F : List En} (h : SR E F) {i : Nat} {e : En} (hi : F[i]? = some e) {a : Int} {M : List BL.Mk} {v : Value} : SR E (F.set i { e with now := { e.now with av := a, ml := M, mv := v } }) := by
  refine ⟨by rw [List.length_set]; exact h.1, fun j x y hx hy => ?_⟩
  by_cases e1 : j = i
  · subst e1
    rw [List.getElem?_set_self (List.getElem?_eq_some_iff.1 hi).1] at hy
    injection hy with hy
    subst hy
    exact h.2 j x e hx hi
  · rw [List.getElem?_set_ne (Ne.symm e1)] at hy
    exact h.2 j x y hx hy
theorem eks_mem {E : List En} {k : Ky} (h : k ∈ eks E) : ∃ (i : Nat) (e : En), E[i]? = some e ∧ e.k = k := by
  obtain ⟨e, he, rfl⟩ := List.mem_map.1 h
  obtain ⟨i, hi, hie⟩ := List.getElem_of_mem he
  exact ⟨i, e, by rw [List.getElem?_eq_getElem hi, hie], rfl⟩
theorem SP.set {E : List En} {P : Ky → Pos} (h : SP E P) (hinc : Inc (eks E)) {i : Nat} {e : En} (hi : E[i]? = some e) {a : Int} {M : List BL.Mk} {v : Value} : SP (E.set i { e with now := { e.now with av := a, ml := M, mv := v } }) (upd P e.k (a, M)) := by
  intro x hx
  obtain ⟨j, hj, hjx⟩ := List.getElem_of_mem hx
  have hx2 : (E.set i { e with now := { e.now with av := a, ml := M, mv := v } })[j]? = some x := by rw [List.getElem?_eq_getElem hj, hjx]
  by_cases e1 : j = i
  · subst e1
    rw [List.getElem?_set_self (List.getElem?_eq_some_iff.1 hi).1] at hx2
    injection hx2 with hx2
    subst hx2
    unfold upd
    rw [if_pos rfl]
  · rw [List.getElem?_set_ne (Ne.symm e1)] at hx2
    have hne : x.k ≠ e.k := by
      rcases Nat.lt_or_gt_of_ne e1 with k | k
      · exact ltK_ne (inc_at hinc (eks_at hx2) (eks_at hi) k)
      · exact (ltK_ne (inc_at hinc (eks_at hi) (eks_at hx2) k)).symm
    unfold upd
    rw [if_neg hne]
    exact h x (List.mem_of_getElem? hx2)
theorem RtE.set {E : List En} (h : RtE E) {i : Nat} {e : En} {a : Int} {M : List BL.Mk} {v : Value} (hr : BL.Rt a M) : RtE (E.set i { e with now := { e.now with av := a, ml := M, mv := v } }) := fun x hx => by
  rcases List.mem_or_eq_of_mem_set hx with hx | hx
  · exact h x hx
  · subst hx; exact hr
/-- The lists of marks of a sheet's entries are those of another's, or new. -/
def MB (N : Nat) (E0 E : List En) : Prop := ∀ e ∈ E, ∀ b, e.now.mv.ownBlock = some b → (∃ a ∈ E0, a.now.mv.ownBlock = some b) ∨ N ≤ b
theorem MB.refl (N : Nat) (E : List En) : MB N E E := fun e he _ hb => .inl ⟨e, he, hb⟩
/-- The lists of a sheet's entries lie elsewhere. -/
def AE (v : Value) (N : Nat) (E0 E : List En) : Prop := (∀ e ∈ E, CA v e.was ∧ CA v e.now) ∧ MB N E0 E
theorem AE.set {E0 E : List En} {g n cap m N : Nat} {w' : World} (h : AE (.slice (some ⟨g, 0, none⟩) n cap) N E0 E) {i : Nat} {e : En} (hi : E[i]? = some e) {a : Int} {M : List BL.Mk} {v : Value} (hv : Fsh m w' v) (hm : g < m) (hN : N ≤ m) : AE (.slice (some ⟨g, 0, none⟩) n cap) N E0 (E.set i { e with now := { e.now with av := a, ml := M, mv := v } }) := by
  refine ⟨fun x hx => ?_, fun x hx b hb => ?_⟩
  · rcases List.mem_or_eq_of_mem_set hx with hx | hx
    · exact h.1 x hx
    · subst hx
      have hE := h.1 e (List.mem_of_getElem? hi)
      refine ⟨hE.1, fun b hb => ?_⟩
      cases hb
      exact ⟨fun k => by have : m ≤ g := (hv g k).1; omega, (hE.2 g rfl).2⟩
  · rcases List.mem_or_eq_of_mem_set hx with hx | hx
    · exact h.2 x hx b hb
    · subst hx
      exact .inr (Nat.le_trans hN (hv b hb).1)
theorem TA.mono {m n : Nat} {w' : World} {o : TO} {r : Ending} (h : TA n w' o r) (hm : m ≤ n) : TA m w' o r := by
  cases o with
  | no t x => exact h
  | ok a M =>
    obtain ⟨v, h1, h2, h3⟩ := h
    exact ⟨v, h1, h2, fun b hb => ⟨Nat.le_trans hm (h3 b hb).1, (h3 b hb).2⟩⟩
theorem eg_take : ∀ args w, (callFunc 108 args).run Tryz.prog w = .ok (.enter 108 args) w := enters_of Tryz.func108 (by kernel_rfl) rfl
theorem eg_give : ∀ args w, (callFunc 109 args).run Tryz.prog w = .ok (.enter 109 args) w := enters_of Tryz.func109 (by kernel_rfl) rfl
theorem toO_ok {s : List UInt8} {o : BL.Out} {a : Int} {M : List BL.Mk} (h : toO s o = .ok a M) : o = .ok a M := by
  cases o with
  | ok b N => injection h with h1 h2; subst h1 h2; rfl
  | no t x => cases h
/-- What a move answers. -/
def MA (w w' : World) (B g n cap : Nat) (E : List En) (o : MR) (r : Ending) : Prop := match o with
  | .no t x => r = .returned (.iface t x) ∧ Below w.heap.size w w'
  | .ok P => ∃ E', r = .returned .nilIface ∧ SH w' B (.slice (some ⟨g, 0, none⟩) n cap) E' ∧ SR E E' ∧ SP E' P ∧ RtE E' ∧ MB w.heap.size E E' ∧ w.grownBy w' (some g)
set_option maxRecDepth 100000 in
set_option maxHeartbeats 8000000 in
theorem move_any (B g cap : Nat) (E : List En) (P : Ky → Pos) (lv : Value) (L : List LG.El) (w : World) (hS : SH w B (.slice (some ⟨g, 0, none⟩) E.length cap) E) (hinc : Inc (eks E)) (hP : SP E P) (hR : RtE E) (h0 : 0 < E.length) (h1 : E.length ≤ 1000000)
    (hL : LG.RM w lv L) (hl : L.length ≤ 1000000) (hK : ∀ l ∈ L, srcK l ∈ eks E ∧ tgtK l ∈ eks E ∧ l.2.2.2.1 ≤ BL.top) :
    Calls Tryz.prog 76 #[.slice (some ⟨g, 0, none⟩) E.length cap, lv] w fun r w' => MA w w' B g E.length cap E (mvs P L) r := by
  have HC := hide (cloneS_any B g cap E w hS h0 h1)
  have HSS := hide hS
  have HI := hide hinc
  have HP := hide hP
  have HRt := hide hR
  have HKS := hide hK
  obtain ⟨_, _, _, _, hgl, _⟩ := hS.form h0
  have HGl : Hid (g < w.heap.size) := hide (by
    rcases hS.own.2 with ⟨hv, _⟩ | ⟨g', cap', cur, hv, _, hh, _⟩
    · cases hv
    · injection hv with e1 e2 e3
      injection e1 with e4
      injection e4 with e5 e6 e7
      subst e5
      exact (Array.getElem?_eq_some_iff.1 hh).1)
  obtain ⟨la, lc, hlv, _, hcs⟩ := hL
  subst hlv
  obtain ⟨lb, lo, hlo⟩ : ∃ lb lo, (0 < L.length → la = some ⟨lb, lo, none⟩ ∧ lb < w.heap.size) ∧ ∀ (j : Nat) (p : LG.El), L[j]? = some p → w.cell? ⟨lb, lo + j * 5, none⟩ = some (.int .i64 p.1) ∧ w.cell? ⟨lb, lo + j * 5 + 1, none⟩ = some (.int .i64 p.2.1) ∧ w.cell? ⟨lb, lo + j * 5 + 2, none⟩ = some (.int .i64 p.2.2.1) ∧ w.cell? ⟨lb, lo + j * 5 + 3, none⟩ = some (.int .i64 p.2.2.2.1) ∧ w.cell? ⟨lb, lo + j * 5 + 4, none⟩ = some (.int .i64 p.2.2.2.2) := by
    rcases hcs with h | ⟨b, off, h2, h3, h4⟩
    · exact ⟨0, 0, fun k => by rw [h] at k; simp at k, fun j p hj => by rw [h] at hj; simp at hj⟩
    · exact ⟨b, off, fun _ => ⟨h2, h3⟩, h4⟩
  have HLC := hide hlo.2
  have HLB : Hid (0 < L.length → lb < w.heap.size) := hide (fun k => (hlo.1 k).2)
  have HLA : Hid (0 < L.length → la = some ⟨lb, lo, none⟩) := hide (fun k => (hlo.1 k).1)
  clear hS hinc hP hR hK hcs hlo hgl
  go_enter Tryz.func76, Tryz.ntmps76
  go_wp2_with fail
  refine HC.out.mono ?_
  rintro r w1 ⟨g2, cap2, rfl, hS1, hb1⟩
  obtain ⟨F0, hF0⟩ : ∃ F, F = E := ⟨_, rfl⟩
  have HS0 : Hid (SH w1 w.heap.size (.slice (some ⟨g2, 0, none⟩) E.length cap2) F0) := hide (by rw [hF0]; exact hS1)
  have HX0 : Hid (SR E F0 ∧ SP F0 P ∧ RtE F0 ∧ AE (.slice (some ⟨g, 0, none⟩) E.length cap) w.heap.size E F0) := hide (by rw [hF0]; exact ⟨SR.refl E, HP.out, HRt.out, HSS.out.ap, MB.refl _ _⟩)
  have HB0 := hide hb1
  have HG2 : Hid (w.heap.size ≤ g2) := hide (by
    rcases hS1.own.2 with ⟨hv, _⟩ | ⟨g', cap', cur, hv, h, _⟩
    · cases hv
    · injection hv with e1 e2 e3
      injection e1 with e4
      injection e4 with e5 e6 e7
      subst e5
      exact h)
  clear hS1 hb1 HC hF0
  go_wp2_with fail
  go_loopw [18] (fun i wr => ∃ (k : Nat) (F : List En) (Q : Ky → Pos), k ≤ L.length ∧ i = .int .i64 (k : Int) ∧ Hid (dbs P (L.take k) = .ok Q) ∧ Hid (SH wr w.heap.size (.slice (some ⟨g2, 0, none⟩) E.length cap2) F) ∧ Hid (SR E F ∧ SP F Q ∧ RtE F ∧ AE (.slice (some ⟨g, 0, none⟩) E.length cap) w.heap.size E F) ∧ Hid (Below w.heap.size w wr)) (fun i _ => L.length - (intOf i).toNat)
  case atStart => exact ⟨0, F0, P, Nat.zero_le _, rfl, hide rfl, HS0, HX0, HB0⟩
  case round =>
    clear HS0 HX0 HB0
    obtain ⟨k, F, Q, hk, rfl, HD, HS, HX, HB⟩ := hrel
    by_cases hlt : k < L.length
    · obtain ⟨⟨q0, q1, q2, q3, q4⟩, hx⟩ : ∃ p, L[k]? = some p := ⟨_, List.getElem?_eq_getElem hlt⟩
      have hd : decide ((k : Int) < (L.length : Int)) = true := by rw [decide_eq_true_eq]; omega
      obtain ⟨c0, c1, c2, c3, c4⟩ := HLC.out k _ hx
      have hbl := HLB.out (by omega)
      have hla := HLA.out (by omega)
      subst hla
      have z0 := (HB.out.cell (p := ⟨lb, _, none⟩) hbl).trans c0
      have z1 := (HB.out.cell (p := ⟨lb, _, none⟩) hbl).trans c1
      have z2 := (HB.out.cell (p := ⟨lb, _, none⟩) hbl).trans c2
      have z3 := (HB.out.cell (p := ⟨lb, _, none⟩) hbl).trans c3
      have z4 := (HB.out.cell (p := ⟨lb, _, none⟩) hbl).trans c4
      have k0 : (0 : Int) ≤ (k : Int) := by omega
      have k1 : (k : Int) < (L.length : Int) := by omega
      have b1 := (Below.refl wr.heap.size wr).alloc (Nat.le_refl _) (.cells #[.int .i64 q0, .int .i64 q1, .int .i64 q2, .int .i64 q3, .int .i64 q4] 43)
      have N1 := hide (alloc_new wr (.cells #[.int .i64 q0, .int .i64 q1, .int .i64 q2, .int .i64 q3, .int .i64 q4] 43))
      have HS1 := hide (HS.out.later b1)
      have HB1 := hide (HB.out.trans (b1.mono HB.out.size))
      obtain ⟨y0, y1, y2, y3, y4⟩ := five_cells N1.out rfl
      have HSo := hide (source_any q0 q1 q2 q3 q4 (wr.alloc (.cells #[.int .i64 q0, .int .i64 q1, .int .i64 q2, .int .i64 q3, .int .i64 q4] 43)))
      have HHX := hide hx
      clear c0 c1 c2 c3 c4 b1 hx
      go_wp2_with fail
      refine HSo.out.mono ?_
      rintro r w2 ⟨rfl, hb⟩
      have HS2 := hide (HS1.out.later hb)
      have HB2 := hide (HB1.out.trans (hb.mono HB1.out.size))
      have N2 := hide (blk_later N1.out hb)
      obtain ⟨O, hO⟩ : ∃ O, wr.heap.size = O := ⟨_, rfl⟩
      rw [hO] at N2 ⊢
      clear hb z0 z1 z2 z3 z4 y0 y1 y2 y3 y4 HSo N1 HS1 HB1 hO
      have hks := HKS.out _ (List.mem_of_getElem? HHX.out)
      have hFl : F.length = E.length := HX.out.1.1
      have hekF : eks F = eks E := HX.out.1.keys
      obtain ⟨i, e, hie, hek⟩ := eks_mem (E := F) (k := srcK (q0, q1, q2, q3, q4)) (by rw [hekF]; exact hks.1)
      have hk1 : e.k.1 = q0 := by rw [hek]; rfl
      have hk2 : e.k.2 = q2 := by rw [hek]; rfl
      have hpos : (e.now.av, e.now.ml) = Q (srcK (q0, q1, q2, q3, q4)) := by rw [← hek]; exact HX.out.2.1 e (List.mem_of_getElem? hie)
      have hrt := HX.out.2.2.1 e (List.mem_of_getElem? hie)
      have hS2 := HS2.out
      rw [← hFl] at hS2
      have hincF : Inc (eks F) := by rw [hekF]; exact HI.out
      have hdo : dbO Q (q0, q1, q2, q3, q4) = toO [100, 101, 98, 105, 116] (BL.debitO e.now.av e.now.ml q3 q4) := by unfold dbO; rw [← hpos]
      have hF : ∀ W, Below w2.heap.size w2 W → Calls Tryz.prog 108 #[.agg #[.int .i64 e.now.av, e.now.mv], .pointer (some ⟨O, 0, none⟩)] W fun r w' => TA w2.heap.size w' (dbO Q (q0, q1, q2, q3, q4)) r ∧ Below W.heap.size W w' := fun W hW => by
        rw [hdo]
        exact (take_any (q0, q1, q2, q3, q4) O e.now.av e.now.mv e.now.ml W (blk_later N2.out hW) (((hS2.ent e (List.mem_of_getElem? hie)).2.1).later hW) hrt hks.2.2).mono fun r w' ⟨h1, h2⟩ => ⟨h1.mono hW.size, h2⟩
      cases hc : dbO Q (q0, q1, q2, q3, q4) with
      | no tt xx =>
        rw [hc] at hF
        have HT := hide (turn_no w.heap.size g2 cap2 F i e 108 (.pointer (some ⟨O, 0, none⟩)) tt xx w2 hS2 hincF hie (by omega) eg_take hF)
        rw [hFl, hk1, hk2] at HT
        have HNO : Hid (mvs P L = .no tt xx) := hide (by unfold mvs; rw [dbs_no HD.out HHX.out hc])
        clear hS2 hF hc hdo hpos hrt hks hincF hekF hFl hk1 hk2
        go_wp2_with fail
        refine HT.out.mono ?_
        rintro r w3 ⟨rfl, hb⟩
        have HB3 := hide (HB2.out.trans (hb.mono HB2.out.size))
        clear hb HT
        go_wp2_with fail
        go_ret
        rw [HNO.out]
        exact ⟨rfl, HB3.out⟩
      | ok aa MM =>
        rw [hc] at hF
        have HT := hide (turn_ok w.heap.size g2 cap2 F i e 108 (.pointer (some ⟨O, 0, none⟩)) aa MM w2 hS2 hincF hie (by omega) eg_take hF)
        rw [hFl, hk1, hk2] at HT
        have hok := BL.debit_ok (BL.Rt.top hrt) (toO_ok (by rw [← hdo]; exact hc))
        have HST := hide (dbs_step HD.out HHX.out)
        rw [hc] at HST
        have HSPx : Hid (∀ v, SP (F.set i { e with now := { e.now with av := aa, ml := MM, mv := v } }) (upd Q (srcK (q0, q1, q2, q3, q4)) (aa, MM))) := hide (fun v => by rw [← hek]; exact HX.out.2.1.set hincF hie)
        have HIE := hide hie
        have HRM := hide hok.2.2.1
        clear hS2 hF hc hdo hpos hrt hks hincF hekF hFl hk1 hk2 hie hok
        go_wp2_with fail
        refine HT.out.mono ?_
        rintro r w3 ⟨v, rfl, hS3, hg3, hf3⟩
        have HS3 := hide hS3
        have HB3 := hide (HB2.out.grown hg3 HB2.out.size (fun b hb => by cases hb; exact HG2.out))
        have HX3 : Hid (SR E (F.set i { e with now := { e.now with av := aa, ml := MM, mv := v } }) ∧ SP (F.set i { e with now := { e.now with av := aa, ml := MM, mv := v } }) (upd Q (srcK (q0, q1, q2, q3, q4)) (aa, MM)) ∧ RtE (F.set i { e with now := { e.now with av := aa, ml := MM, mv := v } }) ∧ AE (.slice (some ⟨g, 0, none⟩) E.length cap) w.heap.size E (F.set i { e with now := { e.now with av := aa, ml := MM, mv := v } })) := hide ⟨HX.out.1.set HIE.out, HSPx.out v, HX.out.2.2.1.set HRM.out, HX.out.2.2.2.set HIE.out hf3 (by have := HB2.out.size; have := HGl.out; omega) HB2.out.size⟩
        clear hS3 hg3 hf3 HT
        go_wp2_with fail
        go_roundw
        case rel => exact ⟨k + 1, _, _, hlt, by go_num, HST, HS3, HX3, HB3⟩
        case measure => simp [intOf]; omega
    · have hd : decide ((k : Int) < (L.length : Int)) = false := by rw [decide_eq_false_iff_not]; omega
      have HD0 : Hid (dbs P L = .ok Q) := hide (by have := HD.out; rw [List.take_of_length_le (by omega)] at this; exact this)
      obtain ⟨Q0, hQ0⟩ : ∃ x, x = Q := ⟨_, rfl⟩
      rw [← hQ0] at HD0 HX
      clear hQ0 HD
      obtain ⟨F0, hF0⟩ : ∃ x, x = F := ⟨_, rfl⟩
      rw [← hF0] at HS HX
      clear hF0
      have HS0 := hide HS.out
      have HX0 := hide HX.out
      have HB0 := hide HB.out
      clear HS HX HB
      go_wp2_with fail
      clear hlt hk hd
      go_loopw [34] (fun i wr => ∃ (k : Nat) (F : List En) (Q : Ky → Pos), k ≤ L.length ∧ i = .int .i64 (k : Int) ∧ Hid (crs Q0 (L.take k) = .ok Q) ∧ Hid (SH wr w.heap.size (.slice (some ⟨g2, 0, none⟩) E.length cap2) F) ∧ Hid (SR E F ∧ SP F Q ∧ RtE F ∧ AE (.slice (some ⟨g, 0, none⟩) E.length cap) w.heap.size E F) ∧ Hid (Below w.heap.size w wr)) (fun i _ => L.length - (intOf i).toNat)
      case atStart => exact ⟨0, F0, Q0, Nat.zero_le _, rfl, hide rfl, HS0, HX0, HB0⟩
      case round =>
        clear HS0 HX0 HB0
        obtain ⟨k, F, Q, hk, rfl, HD, HS, HX, HB⟩ := hrel
        by_cases hlt : k < L.length
        · obtain ⟨⟨q0, q1, q2, q3, q4⟩, hx⟩ : ∃ p, L[k]? = some p := ⟨_, List.getElem?_eq_getElem hlt⟩
          have hd : decide ((k : Int) < (L.length : Int)) = true := by rw [decide_eq_true_eq]; omega
          obtain ⟨c0, c1, c2, c3, c4⟩ := HLC.out k _ hx
          have hbl := HLB.out (by omega)
          have hla := HLA.out (by omega)
          subst hla
          have z0 := (HB.out.cell (p := ⟨lb, _, none⟩) hbl).trans c0
          have z1 := (HB.out.cell (p := ⟨lb, _, none⟩) hbl).trans c1
          have z2 := (HB.out.cell (p := ⟨lb, _, none⟩) hbl).trans c2
          have z3 := (HB.out.cell (p := ⟨lb, _, none⟩) hbl).trans c3
          have z4 := (HB.out.cell (p := ⟨lb, _, none⟩) hbl).trans c4
          have k0 : (0 : Int) ≤ (k : Int) := by omega
          have k1 : (k : Int) < (L.length : Int) := by omega
          have b1 := (Below.refl wr.heap.size wr).alloc (Nat.le_refl _) (.cells #[.int .i64 q0, .int .i64 q1, .int .i64 q2, .int .i64 q3, .int .i64 q4] 43)
          have N1 := hide (alloc_new wr (.cells #[.int .i64 q0, .int .i64 q1, .int .i64 q2, .int .i64 q3, .int .i64 q4] 43))
          have HS1 := hide (HS.out.later b1)
          have HB1 := hide (HB.out.trans (b1.mono HB.out.size))
          obtain ⟨y0, y1, y2, y3, y4⟩ := five_cells N1.out rfl
          have HSo := hide (target_any q0 q1 q2 q3 q4 (wr.alloc (.cells #[.int .i64 q0, .int .i64 q1, .int .i64 q2, .int .i64 q3, .int .i64 q4] 43)))
          have HHX := hide hx
          clear c0 c1 c2 c3 c4 b1 hx
          go_wp2_with fail
          refine HSo.out.mono ?_
          rintro r w2 ⟨rfl, hb⟩
          have HS2 := hide (HS1.out.later hb)
          have HB2 := hide (HB1.out.trans (hb.mono HB1.out.size))
          have N2 := hide (blk_later N1.out hb)
          obtain ⟨O, hO⟩ : ∃ O, wr.heap.size = O := ⟨_, rfl⟩
          rw [hO] at N2 ⊢
          clear hb z0 z1 z2 z3 z4 y0 y1 y2 y3 y4 HSo N1 HS1 HB1 hO
          have hks := HKS.out _ (List.mem_of_getElem? HHX.out)
          have hFl : F.length = E.length := HX.out.1.1
          have hekF : eks F = eks E := HX.out.1.keys
          obtain ⟨i, e, hie, hek⟩ := eks_mem (E := F) (k := tgtK (q0, q1, q2, q3, q4)) (by rw [hekF]; exact hks.2.1)
          have hk1 : e.k.1 = q1 := by rw [hek]; rfl
          have hk2 : e.k.2 = q2 := by rw [hek]; rfl
          have hpos : (e.now.av, e.now.ml) = Q (tgtK (q0, q1, q2, q3, q4)) := by rw [← hek]; exact HX.out.2.1 e (List.mem_of_getElem? hie)
          have hrt := HX.out.2.2.1 e (List.mem_of_getElem? hie)
          have hS2 := HS2.out
          rw [← hFl] at hS2
          have hincF : Inc (eks F) := by rw [hekF]; exact HI.out
          have hdo : crO Q (q0, q1, q2, q3, q4) = toO [99, 114, 101, 100, 105, 116] (BL.creditO e.now.av e.now.ml q3) := by unfold crO; rw [← hpos]
          have hF : ∀ W, Below w2.heap.size w2 W → Calls Tryz.prog 109 #[.agg #[.int .i64 e.now.av, e.now.mv], .pointer (some ⟨O, 0, none⟩)] W fun r w' => TA w2.heap.size w' (crO Q (q0, q1, q2, q3, q4)) r ∧ Below W.heap.size W w' := fun W hW => by
            rw [hdo]
            exact (give_any (q0, q1, q2, q3, q4) O e.now.av e.now.mv e.now.ml W (blk_later N2.out hW) (((hS2.ent e (List.mem_of_getElem? hie)).2.1).later hW) hrt hks.2.2).mono fun r w' ⟨h1, h2⟩ => ⟨h1.mono hW.size, h2⟩
          cases hc : crO Q (q0, q1, q2, q3, q4) with
          | no tt xx =>
            rw [hc] at hF
            have HT := hide (turn_no w.heap.size g2 cap2 F i e 109 (.pointer (some ⟨O, 0, none⟩)) tt xx w2 hS2 hincF hie (by omega) eg_give hF)
            rw [hFl, hk1, hk2] at HT
            have HNO : Hid (mvs P L = .no tt xx) := hide (by unfold mvs; rw [HD0.out]; exact crs_no HD.out HHX.out hc)
            clear hS2 hF hc hdo hpos hrt hks hincF hekF hFl hk1 hk2
            go_wp2_with fail
            refine HT.out.mono ?_
            rintro r w3 ⟨rfl, hb⟩
            have HB3 := hide (HB2.out.trans (hb.mono HB2.out.size))
            clear hb HT
            go_wp2_with fail
            go_ret
            rw [HNO.out]
            exact ⟨rfl, HB3.out⟩
          | ok aa MM =>
            rw [hc] at hF
            have HT := hide (turn_ok w.heap.size g2 cap2 F i e 109 (.pointer (some ⟨O, 0, none⟩)) aa MM w2 hS2 hincF hie (by omega) eg_give hF)
            rw [hFl, hk1, hk2] at HT
            have hok := BL.credit_ok (BL.Rt.top hrt) (toO_ok (by rw [← hdo]; exact hc))
            have HST := hide (crs_step HD.out HHX.out)
            rw [hc] at HST
            have HSPx : Hid (∀ v, SP (F.set i { e with now := { e.now with av := aa, ml := MM, mv := v } }) (upd Q (tgtK (q0, q1, q2, q3, q4)) (aa, MM))) := hide (fun v => by rw [← hek]; exact HX.out.2.1.set hincF hie)
            have HIE := hide hie
            have HRM := hide hok.2.2.1
            clear hS2 hF hc hdo hpos hrt hks hincF hekF hFl hk1 hk2 hie hok
            go_wp2_with fail
            refine HT.out.mono ?_
            rintro r w3 ⟨v, rfl, hS3, hg3, hf3⟩
            have HS3 := hide hS3
            have HB3 := hide (HB2.out.grown hg3 HB2.out.size (fun b hb => by cases hb; exact HG2.out))
            have HX3 : Hid (SR E (F.set i { e with now := { e.now with av := aa, ml := MM, mv := v } }) ∧ SP (F.set i { e with now := { e.now with av := aa, ml := MM, mv := v } }) (upd Q (tgtK (q0, q1, q2, q3, q4)) (aa, MM)) ∧ RtE (F.set i { e with now := { e.now with av := aa, ml := MM, mv := v } }) ∧ AE (.slice (some ⟨g, 0, none⟩) E.length cap) w.heap.size E (F.set i { e with now := { e.now with av := aa, ml := MM, mv := v } })) := hide ⟨HX.out.1.set HIE.out, HSPx.out v, HX.out.2.2.1.set HRM.out, HX.out.2.2.2.set HIE.out hf3 (by have := HB2.out.size; have := HGl.out; omega) HB2.out.size⟩
            clear hS3 hg3 hf3 HT
            go_wp2_with fail
            go_roundw
            case rel => exact ⟨k + 1, _, _, hlt, by go_num, HST, HS3, HX3, HB3⟩
            case measure => simp [intOf]; omega
        · have hd : decide ((k : Int) < (L.length : Int)) = false := by rw [decide_eq_false_iff_not]; omega
          have HM : Hid (mvs P L = .ok Q) := hide (by have := HD.out; rw [List.take_of_length_le (by omega)] at this; unfold mvs; rw [HD0.out]; exact this)
          have hFl : F.length = E.length := HX.out.1.1
          have hSw := HSS.out.later HB.out
          have hSF := HS.out
          have hcp : ∀ ty, (Builtin.copy_ #[81, 81] ty #[.slice (some ⟨g, 0, none⟩) E.length cap, .slice (some ⟨g2, 0, none⟩) E.length cap2]).run Tryz.prog wr = .ok (goInt E.length) (wr.setCells g 0 (ec F)) := fun ty => run_copyS wr ty g cap g2 cap2 E.length (ec F) (by rw [ec_len, hFl]) (fun j v hj => by
              have hjl := (List.getElem?_eq_some_iff.1 hj).1
              rw [ec_len] at hjl
              have ho := hSF.own
              rw [hFl] at ho
              exact (World.ownsRow.cellAt ho j (by omega)).trans hj) (fun j hj => by
              rw [ec_len] at hj
              rw [World.ownsRow.cellAt hSw.own j (by omega), List.getElem?_eq_getElem (by rw [ec_len]; omega)]; rfl) (fun j _ => hSw.froz j) (ec_one hSF.ent)
          obtain ⟨ho, hg⟩ := setCells_all (vs := ec F) hSw.own (by rw [ec_len, ec_len, hFl])
          have HFin : Hid (SH (wr.setCells g 0 (ec F)) B (.slice (some ⟨g, 0, none⟩) E.length cap) F) := hide (SH.turned hg (by rw [hFl]; exact ho) (fun e he => ⟨hSF.ent e he, HX.out.2.2.2.1 e he⟩))
          have HGf : Hid (w.grownBy (wr.setCells g 0 (ec F)) (some g)) := hide (grown_trans (show w.grownBy wr (some g) from ⟨HB.out.os, HB.out.tape, HB.out.output, HB.out.size, fun k hk _ => HB.out.block k hk⟩) hg)
          generalize wr.setCells g 0 (ec F) = W9 at hcp HFin HGf
          clear ho hg hSw hSF hFl
          go_wp2_with fail
          go_ret
          rw [HM.out]
          exact ⟨F, rfl, HFin.out, HX.out.1, HX.out.2.1, HX.out.2.2.1, HX.out.2.2.2.2, HGf.out⟩
end Go.Proofs.YtdjhbecbbmdimaaGreatDoor
