/-
  My own text: layer 19: the document's queue in memory; find, New, Full.
-/
import Derived.Test.YtknnojjfdfkdmaaGreatDoorU16
import Derived.Test.YtknnojjfdfkdmaaGreatDoorSEP
namespace Go.Proofs.YtknnojjfdfkdmaaGreatDoor
open Go.RowKit Go.Extern Go.MapKept Go.ChangeMaps

/-- One of the document's entries. -/
structure De where
  id : Int
  ks : List Ky
  ka : Option Addr
  kc : Nat
  is : Int
  tc : Bool
def De.kv (p : De) : Value := .slice p.ka p.ks.length p.kc
def dcl : List De → List Value
  | [] => []
  | p :: t => .int .i64 p.id :: p.kv :: .int .i64 p.is :: .bool p.tc :: dcl t
theorem dcl_app (a b : List De) : dcl (a ++ b) = dcl a ++ dcl b := by
  induction a with
  | nil => rfl
  | cons p t ih => show _ :: _ :: _ :: _ :: dcl (t ++ b) = _; rw [ih]; rfl
theorem dcl_len (a : List De) : (dcl a).length = a.length * 4 := by
  induction a with
  | nil => rfl
  | cons p t ih => show (dcl t).length + 1 + 1 + 1 + 1 = (t.length + 1) * 4; rw [ih]; omega
theorem dcl_at : ∀ {a : List De} {j : Nat} {p : De}, a[j]? = some p → (dcl a)[j * 4]? = some (.int .i64 p.id) ∧ (dcl a)[j * 4 + 1]? = some p.kv ∧ (dcl a)[j * 4 + 2]? = some (.int .i64 p.is) ∧ (dcl a)[j * 4 + 3]? = some (.bool p.tc)
  | q :: t, 0, p, h => by obtain rfl := Option.some.inj h; exact ⟨rfl, rfl, rfl, rfl⟩
  | q :: t, j + 1, p, h => by
    have ih := dcl_at (a := t) (j := j) (p := p) h
    refine ⟨?_, ?_, ?_, ?_⟩
    · rw [show (j + 1) * 4 = j * 4 + 1 + 1 + 1 + 1 by omega]; exact ih.1
    · rw [show (j + 1) * 4 + 1 = j * 4 + 1 + 1 + 1 + 1 + 1 by omega]; exact ih.2.1
    · rw [show (j + 1) * 4 + 2 = j * 4 + 2 + 1 + 1 + 1 + 1 by omega]; exact ih.2.2.1
    · rw [show (j + 1) * 4 + 3 = j * 4 + 3 + 1 + 1 + 1 + 1 by omega]; exact ih.2.2.2
theorem dcl_is {L : List De} {j : Nat} {p : De} (h : L[j]? = some p) (x : Int) : dcl (L.set j { p with is := x }) = (dcl L).set (j * 4 + 2) (.int .i64 x) := by
  induction L generalizing j with
  | nil => simp at h
  | cons q t ih =>
    cases j with
    | zero => obtain rfl := Option.some.inj h; rfl
    | succ j =>
      have := ih (j := j) h
      rw [List.set_cons_succ, show (j + 1) * 4 + 2 = j * 4 + 2 + 1 + 1 + 1 + 1 by omega]
      show _ :: _ :: _ :: _ :: dcl _ = _
      rw [this]; rfl
theorem dcl_tc {L : List De} {j : Nat} {p : De} (h : L[j]? = some p) (x : Bool) : dcl (L.set j { p with tc := x }) = (dcl L).set (j * 4 + 3) (.bool x) := by
  induction L generalizing j with
  | nil => simp at h
  | cons q t ih =>
    cases j with
    | zero => obtain rfl := Option.some.inj h; rfl
    | succ j =>
      have := ih (j := j) h
      rw [List.set_cons_succ, show (j + 1) * 4 + 3 = j * 4 + 3 + 1 + 1 + 1 + 1 by omega]
      show _ :: _ :: _ :: _ :: dcl _ = _
      rw [this]; rfl
theorem Tryz.infoDe : (Tryz.prog.info? 79).map (fun i => (i.zero, i.size, i.bytes)) = some (some (.agg #[.int .i64 0, .slice none 0 0, .int .i64 0, .bool false]), 4, 48) := by kernel_rfl
abbrev OD (w : World) (B : Nat) (v : Value) (L : List De) : Prop := w.ownsRow B 79 4 v L.length (dcl L)
theorem OD.slc {w : World} {B : Nat} {v : Value} {L : List De} (h : OD w B v L) : (v = .slice none 0 0 ∧ L = []) ∨ ∃ g cap, v = .slice (some ⟨g, 0, none⟩) L.length cap ∧ L.length ≤ cap ∧ g < w.heap.size ∧ (∀ j, w.frozen? ⟨g, j, none⟩ = false) ∧ ∀ j p, L[j]? = some p → w.cell? ⟨g, j * 4, none⟩ = some (.int .i64 p.id) ∧ w.cell? ⟨g, j * 4 + 1, none⟩ = some p.kv ∧ w.cell? ⟨g, j * 4 + 2, none⟩ = some (.int .i64 p.is) ∧ w.cell? ⟨g, j * 4 + 3, none⟩ = some (.bool p.tc) := by
  have h' := h
  rcases h.2 with ⟨rfl, h0⟩ | ⟨g, cap, cur, rfl, hb, hh, hn, h3⟩
  · exact .inl ⟨rfl, List.eq_nil_of_length_eq_zero h0⟩
  · refine .inr ⟨g, cap, rfl, hn, (Array.getElem?_eq_some_iff.1 hh).1, fun j => clr_row hh j, fun j p hj => ?_⟩
    have hjl := (List.getElem?_eq_some_iff.1 hj).1
    obtain ⟨e0, e1, e2, e3⟩ := dcl_at hj
    exact ⟨(h'.cellAt (j * 4) (by omega)).trans e0, (h'.cellAt (j * 4 + 1) (by omega)).trans e1, (h'.cellAt (j * 4 + 2) (by omega)).trans e2, (h'.cellAt (j * 4 + 3) (by omega)).trans e3⟩
/-- The document's queue in memory. -/
structure DQ (w : World) (B r : Nat) (room : Int) (vl : Value) (E : List De) : Prop where
  hd : w.heap[r]? = some (.cells #[.int .i64 room, vl] 56 (0, 0))
  row : OD w B vl E
  ks : ∀ e ∈ E, KY.OM w B e.kv e.ks ∧ e.ks.length ≤ 8796093022000
  br : B ≤ r
  bw : B ≤ w.heap.size
def ftD (r : Nat) (vl : Value) (E : List De) : Nat → Prop := fun g => g = r ∨ vl.ownBlock = some g ∨ ∃ e ∈ E, e.kv.ownBlock = some g
theorem DQ.keep {w w' : World} {B r : Nat} {room : Int} {vl : Value} {E : List De} (h : DQ w B r room vl E) (hs : w.heap.size ≤ w'.heap.size) (hk : ∀ g, ftD r vl E g → w'.heap[g]? = w.heap[g]?) : DQ w' B r room vl E :=
  ⟨(hk r (.inl rfl)).trans h.hd, owns_blk h.row (fun g hg => hk g (.inr (.inl hg))), fun e he => ⟨owns_blk (h.ks e he).1 (fun g hg => hk g (.inr (.inr ⟨e, he, hg⟩))), (h.ks e he).2⟩, h.br, Nat.le_trans h.bw hs⟩
theorem DQ.lt {w : World} {B r : Nat} {room : Int} {vl : Value} {E : List De} (h : DQ w B r room vl E) {g : Nat} (hg : ftD r vl E g) : g < w.heap.size := by
  rcases hg with rfl | hg | ⟨e, he, hg⟩
  · exact (Array.getElem?_eq_some_iff.1 h.hd).1
  · exact (World.ownsRow.lt h.row g hg).2
  · exact (World.ownsRow.lt (h.ks e he).1 g hg).2
theorem DQ.lo {w : World} {B r : Nat} {room : Int} {vl : Value} {E : List De} (h : DQ w B r room vl E) {g : Nat} (hg : ftD r vl E g) : B ≤ g := by
  rcases hg with rfl | hg | ⟨e, he, hg⟩
  · exact h.br
  · exact (World.ownsRow.lt h.row g hg).1
  · exact (World.ownsRow.lt (h.ks e he).1 g hg).1
theorem DQ.later {w w' : World} {B r : Nat} {room : Int} {vl : Value} {E : List De} (h : DQ w B r room vl E) (hb : Below w.heap.size w w') : DQ w' B r room vl E := h.keep hb.size (fun g hg => hb.block g (h.lt hg))
def DCp (B r : Nat) (room : Int) (vl : Value) (E : List De) : Cp := ⟨ftD r vl E, fun w => DQ w B r room vl E⟩
theorem DCp.ok (B r : Nat) (room : Int) (vl : Value) (E : List De) : (DCp B r room vl E).Ok := ⟨fun _ _ h hs hk => h.keep hs hk, fun _ h _ hg => h.lt hg⟩
theorem DQ.c0 {w : World} {B r : Nat} {room : Int} {vl : Value} {E : List De} (h : DQ w B r room vl E) : w.cell? ⟨r, 0, none⟩ = some (.int .i64 room) := by rw [cell_of_row _ _ 0 _ _ _ h.hd]; rfl
theorem DQ.c1 {w : World} {B r : Nat} {room : Int} {vl : Value} {E : List De} (h : DQ w B r room vl E) : w.cell? ⟨r, 1, none⟩ = some vl := by rw [cell_of_row _ _ 1 _ _ _ h.hd]; rfl
theorem DQ.sl {w : World} {B r : Nat} {room : Int} {vl : Value} {E : List De} (h : DQ w B r room vl E) : ∃ a c, vl = .slice a E.length c := by
  rcases h.row.slc with ⟨rfl, rfl⟩ | ⟨g, cap, rfl, _⟩
  · exact ⟨_, _, rfl⟩
  · exact ⟨_, _, rfl⟩
theorem blk_types {w : World} {g : Nat} {c d : Array Value} {t u : TypeId} {f f' : Nat × Nat} (h : w.heap[g]? = some (.cells c t f)) (k : w.heap[g]? = some (.cells d u f')) : t = u := by
  rw [h] at k; injection k with k; injection k
/-- A cell of an entry is set. -/
theorem DQ.set {w : World} {B r g cap : Nat} {room : Int} {E E' : List De} (h : DQ w B r room (.slice (some ⟨g, 0, none⟩) E.length cap) E) (o : Nat) (u : Value) (hl : E'.length = E.length) (hn : dcl E' = (dcl E).set o u) (hk : ∀ e ∈ E', ∃ e0 ∈ E, e.kv = e0.kv ∧ e.ks = e0.ks) :
    DQ (w.setCell ⟨g, o, none⟩ u) B r room (.slice (some ⟨g, 0, none⟩) E'.length cap) E' := by
  obtain ⟨s1, s2⟩ := World.ownsRow.stored h.row o u
  have hne : ∀ y, y ≠ g → (w.setCell ⟨g, o, none⟩ u).heap[y]? = w.heap[y]? := fun y hy => Below.heap_setCell _ _ _ y hy
  obtain ⟨cg, fg, hg⟩ := ownsRow_kind h.row g rfl
  refine ⟨by rw [hl]; exact (hne r (fun e => by rw [← e] at hg; exact absurd (blk_types h.hd hg) (by decide))).trans h.hd, by unfold OD; rw [hl, hn]; exact s1, fun e he => ?_, h.br, by simpa [World.setCell] using h.bw⟩
  obtain ⟨e0, he0, q1, q2⟩ := hk e he
  rw [q1, q2]
  refine ⟨owns_blk (h.ks e0 he0).1 (fun y hy => hne y (fun e => ?_)), (h.ks e0 he0).2⟩
  obtain ⟨cy, fy, hy'⟩ := ownsRow_kind (h.ks e0 he0).1 y hy
  rw [e] at hy'
  exact absurd (blk_types hy' hg) (by decide)
theorem set_kv {E : List De} {j : Nat} {p p' : De} (hp : E[j]? = some p) (he : p'.kv = p.kv ∧ p'.ks = p.ks) : ∀ e ∈ E.set j p', ∃ e0 ∈ E, e.kv = e0.kv ∧ e.ks = e0.ks := fun e h => by
  rcases List.mem_or_eq_of_mem_set h with h1 | h1
  · exact ⟨e, h1, rfl, rfl⟩
  · rw [h1]; exact ⟨p, List.mem_of_getElem? hp, he.1, he.2⟩
theorem DQ.setIs {w : World} {B r g cap : Nat} {room : Int} {E : List De} (h : DQ w B r room (.slice (some ⟨g, 0, none⟩) E.length cap) E) {j : Nat} {p : De} (hp : E[j]? = some p) (x : Int) : DQ (w.setCell ⟨g, j * 4 + 2, none⟩ (.int .i64 x)) B r room (.slice (some ⟨g, 0, none⟩) E.length cap) (E.set j { p with is := x }) := by
  have := h.set (E' := E.set j { p with is := x }) (j * 4 + 2) (.int .i64 x) (by simp) (dcl_is hp x) (set_kv hp ⟨rfl, rfl⟩)
  rwa [List.length_set] at this
theorem DQ.setTc {w : World} {B r g cap : Nat} {room : Int} {E : List De} (h : DQ w B r room (.slice (some ⟨g, 0, none⟩) E.length cap) E) {j : Nat} {p : De} (hp : E[j]? = some p) (x : Bool) : DQ (w.setCell ⟨g, j * 4 + 3, none⟩ (.bool x)) B r room (.slice (some ⟨g, 0, none⟩) E.length cap) (E.set j { p with tc := x }) := by
  have := h.set (E' := E.set j { p with tc := x }) (j * 4 + 3) (.bool x) (by simp) (dcl_tc hp x) (set_kv hp ⟨rfl, rfl⟩)
  rwa [List.length_set] at this
/-- What a call of the document's queue leaves. -/
structure DTo (w w' : World) (B r : Nat) (room : Int) (vl : Value) (E : List De) (vl' : Value) (E' : List De) : Prop where
  q : DQ w' B r room vl' E'
  f : FS (ftD r vl E) w w'
  n : ∀ g, ftD r vl' E' g → ftD r vl E g ∨ w.heap.size ≤ g
theorem DTo.same {w w' : World} {B r : Nat} {room : Int} {vl : Value} {E : List De} (h : DQ w B r room vl E) (hb : Below w.heap.size w w') : DTo w w' B r room vl E vl E := ⟨h.later hb, FS.below hb, fun _ hg => .inl hg⟩
/-- The place of an id. -/
def fdD (id : Int) : List De → Int
  | [] => -1
  | p :: t => if p.id = id then 0 else if fdD id t < 0 then -1 else fdD id t + 1
theorem fdD_none {id : Int} : ∀ {L : List De}, (∀ p ∈ L, p.id ≠ id) → fdD id L = -1
  | [], _ => rfl
  | p :: t, h => by
    unfold fdD
    rw [if_neg (h p (by simp)), fdD_none (fun q hq => h q (by simp [hq])), if_pos (by omega)]
theorem fdD_some {id : Int} : ∀ {L : List De} {j : Nat} {p : De}, L[j]? = some p → p.id = id → (∀ i q, i < j → L[i]? = some q → q.id ≠ id) → fdD id L = (j : Int)
  | p :: t, 0, q, h, e, _ => by
    obtain rfl := Option.some.inj h
    unfold fdD; rw [if_pos e]; rfl
  | p :: t, j + 1, q, h, e, hn => by
    have ih := fdD_some (L := t) (j := j) (p := q) h e (fun i r hi hr => hn (i + 1) r (by omega) hr)
    unfold fdD
    rw [if_neg (hn 0 p (by omega) rfl), ih, if_neg (by omega)]
    omega
set_option maxRecDepth 100000 in
set_option maxHeartbeats 1000000 in
theorem rfind_any (B r : Nat) (room id : Int) (vl : Value) (E : List De) (w : World) (h : DQ w B r room vl E) (hl : E.length ≤ 8796093022000) :
    Calls Tryz.prog 59 #[.pointer (some ⟨r, 0, none⟩), .int .i64 id] w fun e w' => e = .returned (.int .i64 (fdD id E)) ∧ w' = w := by
  have HS := hide h.row.slc
  obtain ⟨a, c, rfl⟩ := h.sl
  have k1 := h.c1
  have HL := hide hl
  clear h hl
  obtain ⟨R, HR⟩ : ∃ R, Hid (fdD id E = R) := ⟨_, hide rfl⟩
  rw [HR.out]
  go_enter Tryz.func59, Tryz.ntmps59
  go_wp2_with fail
  go_loopw [5] (fun i wr => ∃ k : Nat, k ≤ E.length ∧ i = .int .i64 (k : Int) ∧ Hid (∀ i q, i < k → E[i]? = some q → q.id ≠ id) ∧ wr = w) (fun i _ => E.length - (intOf i).toNat)
  case atStart => exact ⟨0, Nat.zero_le _, rfl, hide (fun i q hi => by omega), rfl⟩
  case round =>
    obtain ⟨k, hk, rfl, HN, rfl⟩ := hrel
    by_cases hlt : k < E.length
    · obtain ⟨p, hp⟩ : ∃ p, E[k]? = some p := ⟨_, List.getElem?_eq_getElem hlt⟩
      rcases HS.out with ⟨_, h0⟩ | ⟨g, cap, hv, _, _, _, hc⟩
      · rw [h0] at hlt; simp at hlt
      injection hv with hv1 hv2 hv3
      clear hv2 hv3
      have c0 := (hc k p hp).1
      subst hv1
      obtain ⟨hd1, i0, i1, wk⟩ := ix hlt HL.out
      have HP := hide hp
      clear hc hp
      cases hE : (p.id == id) with
      | true =>
        have HF : Hid (R = (k : Int)) := hide (by rw [← HR.out]; exact fdD_some HP.out (by simpa using hE) HN.out)
        go_wp2_with fail
        go_ret
        exact ⟨by rw [HF.out]; rfl, rfl⟩
      | false =>
        have HN2 : Hid (∀ i q, i < k + 1 → E[i]? = some q → q.id ≠ id) := hide (fun i q hi hq => by
          by_cases e : i = k
          · subst e
            rw [HP.out] at hq
            obtain rfl := Option.some.inj hq
            simpa using hE
          · exact HN.out i q (by omega) hq)
        go_wp2_with fail
        go_roundw
        case rel => exact ⟨k + 1, hlt, congrArg (Value.int .i64) wk, HN2, trivial⟩
        case measure => first | exact meas_up hlt | (rw [wk]; exact meas_up hlt)
    · have e : k = E.length := by omega
      subst e
      have HF : Hid (R = -1) := hide (by
        rw [← HR.out]
        refine fdD_none (fun p hp => ?_)
        obtain ⟨i, hi⟩ := List.getElem?_of_mem hp
        exact HN.out i p (List.getElem?_eq_some_iff.1 hi).1 hi)
      go_wp2_with fail
      go_ret
      exact ⟨by rw [HF.out]; rfl, rfl⟩
end Go.Proofs.YtknnojjfdfkdmaaGreatDoor
