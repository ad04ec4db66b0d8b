/-
  My own text: layer 19: the calls of a queue in order.
-/
import Derived.Test.YtknnojjfdfkdmaaGreatDoorU13
namespace Go.Proofs.YtknnojjfdfkdmaaGreatDoor
open Go.RowKit Go.Extern Go.MapKept Go.ChangeMaps

theorem Ok.rdL {Z : Qx} (h : Ok Z) : Z.Rd = Z.A.filter (fun y => (Z.T y).st == 1) :=
  sr_uniq h.o.sr (h.o.sa.sublist List.filter_sublist) (fun y => by rw [h.o.rd y, List.mem_filter, beq_iff_eq])
theorem Ok.one {Z : Qx} (h : Ok Z) {x y : Nat} (hx : x ∈ Z.A) (hy : y ∈ Z.A) (e : (Z.T x).id = (Z.T y).id) : x = y := by
  have a1 := (h.nm _ (ep x)).2 ⟨x, hx, rfl, rfl⟩
  have a2 := (h.nm _ (ep y)).2 ⟨y, hy, rfl, rfl⟩
  rw [e] at a1
  rw [a1] at a2
  exact ep_inj (Option.some.inj a2)
theorem Ok.named {Z : Qx} (h : Ok Z) (id : Int) : (Z.N id = none ∧ ∀ x ∈ Z.A, (Z.T x).id ≠ id) ∨ ∃ x ∈ Z.A, (Z.T x).id = id ∧ Z.N id = some (ep x) := by
  cases hN : Z.N id with
  | none => exact .inl ⟨rfl, fun x hx e => by have := (h.nm id (ep x)).2 ⟨x, hx, rfl, e⟩; rw [hN] at this; cases this⟩
  | some u =>
    obtain ⟨x, hx, hu, hi⟩ := (h.nm id u).1 hN
    exact .inr ⟨x, hx, hi, by rw [hu]⟩
/-- Have two lists a key in common? -/
def meetsB (a b : List Ky) : Bool := a.any fun x => decide (x ∈ b)
theorem meetsB_iff {a b : List Ky} : meetsB a b = true ↔ ∃ k ∈ a, k ∈ b := by unfold meetsB; simp
theorem touchQ_any (O : Nat → Prop) (q : Nat) (v : Value) (L : List Ky) (Z : Qx) (w : World) (h : QS O w q Z) (hv : KY.RM w v L) (hl : L.length ≤ 8796093022000) (hLK : ∀ k ∈ L, KOK k) (hfr : 0 < L.length → ∀ g, v.ownBlock = some g → ¬ O g) :
    Calls Tryz.prog 10 #[.pointer (some ⟨q, 0, none⟩), v] w fun r w' => ∃ Z', r = .returned (.int .i64 ((Z'.Rd.length : Int) - (Z.Rd.length : Int))) ∧ QTo O w w' q Z' ∧ Z'.room = Z.room ∧ Z'.n = Z.n ∧ Z'.A = Z.A ∧ ∀ y ∈ Z.A, Z'.T y = if meetsB (Z.T y).keys L = true then tcE (Z.T y) else Z.T y := by
  refine (touchK_any (Oo O w) q v L Z w h.qm h.ok.o (fun g hg => .inr hg) hv hl hLK (fun h0 g hg hlt hF => hF.elim (hfr h0 g hg) (fun e => by omega))).mono ?_
  rintro r w' ⟨R, v', rfl, hT⟩
  have hP : ∀ y, y ∈ L.flatMap Z.C ↔ y ∈ Z.A ∧ meetsB (Z.T y).keys L = true := fun y => by
    rw [List.mem_flatMap, meetsB_iff]
    constructor
    · rintro ⟨k, hk, hy⟩
      obtain ⟨h1, h2⟩ := (h.ok.o.cm k y).1 hy
      exact ⟨h1, k, h2, hk⟩
    · rintro ⟨h1, k, h2, hk⟩
      exact ⟨k, hk, (h.ok.o.cm k y).2 ⟨h1, h2⟩⟩
  have hTT : ∀ y ∈ Z.A, tcP Z.T (L.flatMap Z.C) y = if meetsB (Z.T y).keys L = true then tcE (Z.T y) else Z.T y := fun y hy => by
    unfold tcP
    by_cases hm : meetsB (Z.T y).keys L = true
    · rw [if_pos hm, if_pos ((hP y).2 ⟨hy, hm⟩)]
    · rw [if_neg hm, if_neg (fun e => hm ((hP y).1 e).2)]
  have hst1 : ∀ e : Et, e.st = 0 ∨ e.st = 1 ∨ e.st = 2 → ((tcE e).st = 1 ↔ e.st = 1 ∨ e.st = 0) ∧ ((tcE e).st = 0 ∨ (tcE e).st = 1 ∨ (tcE e).st = 2) := fun e he => by
    unfold tcE
    rcases he with h0 | h1 | h2
    · rw [if_pos h0]; simp [h0]
    · rw [if_neg (by omega), if_neg (by omega)]; simp [h1]
    · rw [if_neg (by omega), if_pos h2]; simp [h2]
  refine ⟨_, rfl, QTo.mk hT.qm (h.ok.turn rfl rfl rfl rfl rfl (fun y => ?_) hT.rd.sr (fun y => ?_) (fun y hy => ?_)) hT.fw, rfl, rfl, rfl, hTT⟩
  · dsimp only; unfold tcP; split
    · exact ⟨(tcE_came _).1, (tcE_came _).2.1, (tcE_came _).2.2.1⟩
    · exact ⟨rfl, rfl, rfl⟩
  · dsimp only
    rw [hT.rd.mem y, h.ok.o.rd y]
    constructor
    · rintro (⟨h1, h2⟩ | ⟨h1, h2⟩)
      · refine ⟨h1, ?_⟩
        rw [hTT y h1]; split
        · exact (hst1 _ (.inr (.inl h2))).1.2 (.inl h2)
        · exact h2
      · have hy := (hP y).1 h1
        refine ⟨hy.1, ?_⟩
        rw [hTT y hy.1, if_pos hy.2]
        exact (hst1 _ (.inl h2)).1.2 (.inr h2)
    · rintro ⟨h1, h2⟩
      rw [hTT y h1] at h2
      split at h2
      · rename_i hm
        rcases (hst1 _ (h.ok.st y h1)).1.1 h2 with h3 | h3
        · exact .inl ⟨h1, h3⟩
        · exact .inr ⟨(hP y).2 ⟨h1, hm⟩, h3⟩
      · exact .inl ⟨h1, h2⟩
  · dsimp only
    rw [hTT y hy]; split
    · exact (hst1 _ (h.ok.st y hy)).2
    · exact h.ok.st y hy
/-- One entry's state is another. -/
theorem Ok.set {Z Z' : Qx} (h : Ok Z) {x : Nat} (e' : Et) (hA : Z'.A = Z.A) (hX : Z'.X = Z.X) (hn : Z'.n = Z.n) (hN : Z'.N = Z.N) (hC : Z'.C = Z.C) (hT : Z'.T = fun y => if y = x then e' else Z.T y) (he : e'.came = (Z.T x).came ∧ e'.keys = (Z.T x).keys ∧ e'.id = (Z.T x).id) (hs : Sr (fun y => (Z.T y).came) Z'.Rd) (hr : ∀ y, y ∈ Z'.Rd ↔ y ∈ Z.A ∧ (if y = x then e'.st = 1 else (Z.T y).st = 1)) (hst : e'.st = 0 ∨ e'.st = 1 ∨ e'.st = 2) : Ok Z' := by
  refine h.turn hA hX hn hN hC (fun y => ?_) hs (fun y => ?_) (fun y hy => ?_)
  · rw [hT]; dsimp only; by_cases e : y = x
    · rw [if_pos e, e]; exact he
    · rw [if_neg e]; exact ⟨rfl, rfl, rfl⟩
  · rw [hr y, hT]; dsimp only; by_cases e : y = x
    · rw [if_pos e, if_pos e]
    · rw [if_neg e, if_neg e]
  · rw [hT]; dsimp only; by_cases e : y = x
    · rw [if_pos e]; exact hst
    · rw [if_neg e]; exact h.st y hy
theorem takeQ_any (O : Nat → Prop) (q : Nat) (Z : Qx) (w : World) (h : QS O w q Z) :
    Calls Tryz.prog 11 #[.pointer (some ⟨q, 0, none⟩)] w fun r w' =>
      (Z.Rd = [] ∧ r = .returned (.tuple #[.int .i64 0, .bool false]) ∧ QTo O w w' q Z) ∨
      (∃ x t Z', Z.Rd = x :: t ∧ x ∈ Z.A ∧ r = .returned (.tuple #[.int .i64 (Z.T x).id, .bool true]) ∧ QTo O w w' q Z' ∧ Z'.room = Z.room ∧ Z'.n = Z.n ∧ Z'.A = Z.A ∧ Z'.T = fun y => if y = x then { Z.T x with st := 2, tch := false } else Z.T y) := by
  have hRX : ∀ y ∈ Z.Rd, y ∈ Z.X := fun y hy => h.ok.o.sx y ((h.ok.o.rd y).1 hy).1
  cases hR : Z.Rd with
  | nil =>
    refine (take_no _ q Z w h.qm hR).mono ?_
    rintro r w' ⟨rfl, rfl⟩
    exact .inl ⟨rfl, rfl, QTo.same h (Below.refl _ _)⟩
  | cons x t =>
    refine (take_yes (Oo O w) q x t Z w h.qm (fun g hg => .inr hg) hR h.ok.o.sr hRX h.ok.o.rlen).mono ?_
    rintro r w' ⟨rfl, ⟨v', m1⟩, m2⟩
    have hxR : x ∈ Z.Rd := by rw [hR]; simp
    have hx := (h.ok.o.rd x).1 hxR
    have hT : ttc (tst Z.T x 2) x false = fun y => if y = x then { Z.T x with st := 2, tch := false } else Z.T y := by
      funext y; unfold ttc tst
      by_cases e : y = x
      · rw [if_pos e, if_pos e, if_pos rfl]
      · rw [if_neg e, if_neg e, if_neg e]
    rw [hT] at m1
    have hsr := h.ok.o.sr
    rw [hR] at hsr
    obtain ⟨s1, s2⟩ := List.pairwise_cons.1 hsr
    refine .inr ⟨x, t, _, rfl, hx.1, rfl, QTo.mk m1 (h.ok.set { Z.T x with st := 2, tch := false } rfl rfl rfl rfl rfl rfl ⟨rfl, rfl, rfl⟩ s2 (fun y => ?_) (.inr (.inr rfl))) m2, rfl, rfl, rfl, rfl⟩
    dsimp only
    by_cases e : y = x
    · rw [if_pos e, e]
      constructor
      · intro hm; have := s1 x hm; omega
      · rintro ⟨_, h2⟩; cases h2
    · rw [if_neg e, ← h.ok.o.rd y, hR, List.mem_cons]
      constructor
      · exact .inr
      · rintro (h1 | h1)
        · exact absurd h1 e
        · exact h1
theorem backQ_any (O : Nat → Prop) (q : Nat) (id : Int) (Z : Qx) (w : World) (h : QS O w q Z) (hid : IOK id) :
    Calls Tryz.prog 13 #[.pointer (some ⟨q, 0, none⟩), .int .i64 id] w fun r w' =>
      ((∀ x ∈ Z.A, (Z.T x).id = id → (Z.T x).st ≠ 2) ∧ r = .returned (.bool false) ∧ QTo O w w' q Z) ∨
      (∃ x Z', x ∈ Z.A ∧ (Z.T x).id = id ∧ (Z.T x).st = 2 ∧ r = .returned (.bool (Z.T x).tch) ∧ QTo O w w' q Z' ∧ Z'.room = Z.room ∧ Z'.n = Z.n ∧ Z'.A = Z.A ∧ Z'.T = fun y => if y = x then { Z.T x with st := if (Z.T x).tch = true then 1 else 0 } else Z.T y) := by
  have hRX : ∀ y ∈ Z.Rd, y ∈ Z.X := fun y hy => h.ok.o.sx y ((h.ok.o.rd y).1 hy).1
  rcases h.ok.named id with ⟨hN, hno⟩ | ⟨x, hx, hi, hN⟩
  · refine (back_none _ q id Z w h.qm hid hN).mono ?_
    rintro r w' ⟨rfl, rfl⟩
    exact .inl ⟨fun x hx e => absurd e (hno x hx), rfl, QTo.same h (Below.refl _ _)⟩
  · have hxX := h.ok.o.sx x hx
    by_cases h2 : (Z.T x).st = 2
    · cases ht : (Z.T x).tch with
      | false =>
        refine (back_idle (Oo O w) q x id Z w h.qm hid hN hxX h2 ht).mono ?_
        rintro r w' ⟨rfl, m1, m2⟩
        refine .inr ⟨x, _, hx, hi, h2, by rw [ht], QTo.mk m1 (h.ok.set { Z.T x with st := 0 } rfl rfl rfl rfl rfl rfl ⟨rfl, rfl, rfl⟩ h.ok.o.sr (fun y => ?_) (.inl rfl)) m2, rfl, rfl, rfl, ?_⟩
        · dsimp only
          rw [h.ok.o.rd y]
          by_cases e : y = x
          · rw [if_pos e, e, h2]; simp
          · rw [if_neg e]
        · dsimp only; rw [if_neg (by rw [ht]; decide)]; rfl
      | true =>
        refine (back_ready (Oo O w) q x id Z w h.qm (fun g hg => .inr hg) hid hN hxX h2 ht h.ok.o.sr hRX h.ok.o.rlen).mono ?_
        rintro r w' ⟨rfl, ⟨v', m1⟩, m2⟩
        have hno : hasC (fun y => (Z.T y).came) (Z.T x).came Z.Rd = false := by
          cases hb : hasC (fun y => (Z.T y).came) (Z.T x).came Z.Rd with
          | false => rfl
          | true =>
            obtain ⟨y, hy, e⟩ := hasC_iff.1 hb
            have hy2 := (h.ok.o.rd y).1 hy
            obtain rfl : y = x := sr_inj h.ok.o.sa hy2.1 hx e
            omega
        refine .inr ⟨x, _, hx, hi, h2, by rw [ht], QTo.mk m1 (h.ok.set { Z.T x with st := 1 } rfl rfl rfl rfl rfl rfl ⟨rfl, rfl, rfl⟩ (sr_insE h.ok.o.sr hno) (fun y => ?_) (.inr (.inl rfl))) m2, rfl, rfl, rfl, ?_⟩
        · dsimp only
          rw [mem_insE, h.ok.o.rd y]
          by_cases e : y = x
          · rw [if_pos e, e]; simp [hx]
          · rw [if_neg e]; simp [e]
        · dsimp only; rw [if_pos ht]; rfl
    · refine (back_not _ q x id Z w h.qm hid hN hxX h2).mono ?_
      rintro r w' ⟨rfl, rfl⟩
      exact .inl ⟨fun y hy e => by rw [h.ok.one hy hx (by rw [e, hi])]; exact h2, rfl, QTo.same h (Below.refl _ _)⟩
theorem removeQ_any (O : Nat → Prop) (q : Nat) (id : Int) (Z : Qx) (w : World) (h : QS O w q Z) (hid : IOK id) :
    Calls Tryz.prog 42 #[.pointer (some ⟨q, 0, none⟩), .int .i64 id] w fun r w' =>
      ((∀ x ∈ Z.A, (Z.T x).id ≠ id) ∧ r = .returned (.bool false) ∧ QTo O w w' q Z) ∨
      (∃ x Z', x ∈ Z.A ∧ (Z.T x).id = id ∧ r = .returned (.bool true) ∧ QTo O w w' q Z' ∧ Z'.room = Z.room ∧ Z'.n = Z.n ∧ Z'.A = Z.A.filter (fun y => decide (y ≠ x)) ∧ Z'.T = Z.T) := by
  rcases h.ok.named id with ⟨hN, hno⟩ | ⟨x, hx, hi, hN⟩
  · refine (remove_no _ q id Z w h.qm hid hN).mono ?_
    rintro r w' ⟨rfl, rfl⟩
    exact .inl ⟨hno, rfl, QTo.same h (Below.refl _ _)⟩
  · have hk := h.ok.ks x hx
    refine (remove_yes (Oo O w) q x id Z w h.qm (fun g hg => .inr hg) hid hN (h.ok.o.sx x hx) hk.2.1 hk.1 hk.2.2 ⟨h.ok.o.sa, h.ok.o.sx, h.ok.o.la⟩ ⟨h.ok.o.sr, fun y hy => h.ok.o.sx y ((h.ok.o.rd y).1 hy).1, h.ok.o.rlen⟩ (fun k => ⟨h.ok.o.sc k, fun y hy => h.ok.o.sx y ((h.ok.o.cm k y).1 hy).1, h.ok.o.clen k⟩)).mono ?_
    rintro r w' ⟨rfl, Z', m1, m2, m3⟩
    obtain ⟨o1, o2⟩ := h.ok.rem m2 hx hi
    exact .inr ⟨x, Z', hx, hi, rfl, QTo.mk m1 o1 m3, m2.room, m2.n, o2, m2.T⟩
theorem lenQ_any (O : Nat → Prop) (q : Nat) (Z : Qx) (w : World) (h : QS O w q Z) :
    Calls Tryz.prog 23 #[.pointer (some ⟨q, 0, none⟩)] w fun r w' => r = .returned (.int .i64 (Z.A.length : Int)) ∧ w' = w := len_any _ q Z w h.qm
theorem itemsQ_any (O : Nat → Prop) (q : Nat) (Z : Qx) (w : World) (h : QS O w q Z) :
    Calls Tryz.prog 15 #[.pointer (some ⟨q, 0, none⟩)] w fun r w' => ∃ v', r = .returned v' ∧ OI w' w.heap.size v' (Z.A.map fun x => (Z.T x).id) ∧ Below w.heap.size w w' := items_any _ q Z w h.qm h.ok.o.sx h.ok.o.la
theorem idleQ_any (O : Nat → Prop) (q : Nat) (Z : Qx) (w : World) (h : QS O w q Z) :
    Calls Tryz.prog 12 #[.pointer (some ⟨q, 0, none⟩)] w fun r w' => ∃ v', r = .returned v' ∧ OI w' w.heap.size v' ((Z.A.filter fun x => (Z.T x).st == 0).map fun x => (Z.T x).id) ∧ Below w.heap.size w w' := idle_any _ q Z w h.qm h.ok.o.sx h.ok.o.la
end Go.Proofs.YtknnojjfdfkdmaaGreatDoor
