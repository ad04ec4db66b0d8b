/-
  My own text: what a pruning leaves, by mathematics; three chains beside one another.
-/
import Derived.Test.YtnjjehlfgoggfaaDoorHC19
namespace Go.Proofs.YtnjjehlfgoggfaaDoor
open Go.RowKit Go.Shelf

theorem ab_none (q : Int) : ∀ (L : List Ver), (∀ p ∈ L, q < p.1) → ab q L = 0
  | [], _ => rfl
  | p :: r, h => by unfold ab; rw [if_pos (h p (List.mem_cons_self ..))]
theorem ab_drop (q : Int) : ∀ (L : List Ver) (m : Nat), Ris L → ab q (L.drop m) = ab q L - m
  | [], m, _ => by rw [List.drop_nil]; show 0 = 0 - m; omega
  | _ :: _, 0, _ => rfl
  | p :: r, m + 1, h => by
    have ih := ab_drop q r m h.2
    rw [List.drop_succ_cons, ih]
    by_cases hq : q < p.1
    · have h0 : ab q r = 0 := ab_none q r (fun a ha => by have := h.1 a ha; omega)
      have e : ab q (p :: r) = 0 := by rw [ab, if_pos hq]
      rw [e, h0]; omega
    · have e : ab q (p :: r) = ab q r + 1 := by rw [ab, if_neg hq]
      rw [e]; omega
theorem ab_mono {n q : Int} (h : n ≤ q) : ∀ L : List Ver, ab n L ≤ ab q L
  | [] => Nat.le_refl _
  | p :: r => by
    have ih := ab_mono h r
    by_cases h1 : n < p.1
    · rw [ab, if_pos h1]; exact Nat.zero_le _
    · rw [ab, if_neg h1, ab, if_neg (by omega)]; omega
/-- What counts at q, its text, and whether there is one. -/
def atS (q : Int) (L : List Ver) : List UInt8 := if ab q L = 0 then [] else match L[ab q L - 1]? with | some p => p.2 | none => []
def atB (q : Int) (L : List Ver) : Bool := decide (0 < ab q L)
theorem atq_any (q : Int) (B cb : Nat) (L : List Ver) (w : World) (h : CH w B cb L) (hr : Ris L) (hl : L.length ≤ 4611686018427387904) :
    Calls Tryd.prog 42 #[.pointer (some ⟨cb, 0, none⟩), .int .i64 q] w fun e w' => e = .returned (.tuple #[.string ⟨(atS q L).toArray⟩, .bool (atB q L)]) ∧ Below w.heap.size w w' := by
  by_cases h0 : ab q L = 0
  · have e1 : atS q L = [] := by unfold atS; rw [if_pos h0]
    have e2 : atB q L = false := by unfold atB; rw [h0]; rfl
    rw [e1, e2]
    exact at_no q B cb L w h hr hl h0
  · obtain ⟨k, hk⟩ : ∃ k, ab q L = k + 1 := ⟨ab q L - 1, by omega⟩
    have hlt : k < L.length := by have := ab_le q L; omega
    obtain ⟨p, hp⟩ : ∃ p, L[k]? = some p := ⟨_, List.getElem?_eq_getElem hlt⟩
    have e1 : atS q L = p.2 := by unfold atS; rw [if_neg h0, hk, Nat.add_sub_cancel, hp]
    have e2 : atB q L = true := by unfold atB; rw [hk]; simp
    rw [e1, e2]
    exact at_yes q B cb L k p w h hr hl hk hp
theorem atS_pr {n q : Int} {L : List Ver} (hr : Ris L) (h : n ≤ q) : atS q (L.drop (ab n L - 1)) = atS q L ∧ atB q (L.drop (ab n L - 1)) = atB q L := by
  have h1 := ab_mono h L
  have h2 := ab_drop q L (ab n L - 1) hr
  rcases Nat.eq_zero_or_pos (ab n L) with h0 | h0
  · rw [h0, show 0 - 1 = 0 from rfl, List.drop_zero]; exact ⟨rfl, rfl⟩
  · unfold atS atB
    rw [h2, if_neg (show ¬ ab q L - (ab n L - 1) = 0 by omega), if_neg (show ¬ ab q L = 0 by omega), List.getElem?_drop, show ab n L - 1 + (ab q L - (ab n L - 1) - 1) = ab q L - 1 by omega]
    exact ⟨rfl, by rw [decide_eq_true (show 0 < ab q L - (ab n L - 1) by omega), decide_eq_true (show 0 < ab q L by omega)]⟩
theorem atB_pr {q : Int} {L : List Ver} (hr : Ris L) (m : Nat) (h : atB q (L.drop m) = true) : atB q L = true := by
  unfold atB at h ⊢
  rw [ab_drop q L m hr] at h
  have := of_decide_eq_true h
  exact decide_eq_true (by omega)
/-- The last one. -/
def laP (L : List Ver) : Ver := match L[L.length - 1]? with | some p => p | none => (0, [])
def laB (L : List Ver) : Bool := decide (0 < L.length)
theorem lastq_any (B cb : Nat) (L : List Ver) (w : World) (h : CH w B cb L) (hr : Ris L) (hm : ∀ p ∈ L, p.1 ≤ 9223372036854775807) (hl : L.length ≤ 4611686018427387904) :
    Calls Tryd.prog 32 #[.pointer (some ⟨cb, 0, none⟩)] w fun e w' => e = .returned (.tuple #[.string ⟨(laP L).2.toArray⟩, .int .i64 (laP L).1, .bool (laB L)]) ∧ Below w.heap.size w w' := by
  rcases Nat.eq_zero_or_pos L.length with h0 | h0
  · obtain rfl := List.eq_nil_of_length_eq_zero h0
    exact last_no B cb [] w h hr hl rfl
  · obtain ⟨k, hk⟩ : ∃ k, L.length = k + 1 := ⟨L.length - 1, by omega⟩
    obtain ⟨p, hp⟩ : ∃ p, L[k]? = some p := ⟨_, List.getElem?_eq_getElem (by omega)⟩
    have e1 : laP L = p := by unfold laP; rw [hk, Nat.add_sub_cancel, hp]
    have e2 : laB L = true := decide_eq_true h0
    rw [e1, e2]
    exact last_yes B cb L k p w h hr hl (by rw [ab_max L hm]; exact hk) hp
theorem la_pr {L : List Ver} {m : Nat} (h : m = 0 ∨ m < L.length) : laP (L.drop m) = laP L ∧ laB (L.drop m) = laB L := by
  rcases h with rfl | h
  · rw [List.drop_zero]; exact ⟨rfl, rfl⟩
  · unfold laP laB
    rw [List.getElem?_drop, List.length_drop, show m + (L.length - m - 1) = L.length - 1 by omega]
    exact ⟨rfl, by rw [decide_eq_true (show 0 < L.length - m by omega), decide_eq_true (show 0 < L.length by omega)]⟩
theorem m_ok (n : Int) (L : List Ver) : ab n L - 1 = 0 ∨ ab n L - 1 < L.length := by have := ab_le n L; omega
/-- Rows of two chains are not one. -/
def Ap (c d : Nat) (W : World) : Prop := ∀ v v', W.cell? ⟨c, 0, none⟩ = some v → W.cell? ⟨d, 0, none⟩ = some v' → ∀ g, v.ownBlock = some g → v'.ownBlock ≠ some g
theorem Ap.symm {c d : Nat} {W : World} (h : Ap c d W) : Ap d c W := fun v v' hv hv' g hg e => h v' v hv' hv g e hg
theorem Ap.same {c d : Nat} {W W' : World} (h : Ap c d W) (e1 : W'.cell? ⟨c, 0, none⟩ = W.cell? ⟨c, 0, none⟩) (e2 : W'.cell? ⟨d, 0, none⟩ = W.cell? ⟨d, 0, none⟩) : Ap c d W' := fun v v' hv hv' => h v v' (by rw [← e1]; exact hv) (by rw [← e2]; exact hv')
theorem CH.row_in {W : World} {B cb : Nat} {L : List Ver} (h : CH W B cb L) : ∀ v, W.cell? ⟨cb, 0, none⟩ = some v → ∀ g, v.ownBlock = some g → B ≤ g ∧ g < W.heap.size := by
  intro v hv g hg
  obtain ⟨_, v', em, hh, ho, _⟩ := h
  have : W.cell? ⟨cb, 0, none⟩ = some v' := by rw [cell_of_row W cb 0 _ _ _ hh]; rfl
  rw [this] at hv
  cases hv
  exact ho.lt hg
/-- Another chain than the one that is changed. -/
theorem CH.other {W W' : World} {B B' c d : Nat} {X Y : List Ver} (hf : Fr W W' c) (hx : CH W B c X) (hy : CH W B' d Y) (hne : c ≠ d) (hap : Ap c d W) : CH W' B' d Y ∧ W'.cell? ⟨d, 0, none⟩ = W.cell? ⟨d, 0, none⟩ ∧ Ap c d W' := by
  have hin := hy.row_in
  obtain ⟨q1, v, em, hh, ho, hn⟩ := id hy
  obtain ⟨_, vx, ex, hxx, _, _⟩ := id hx
  have hd : W'.heap[d]? = W.heap[d]? := hf.block d hy.lt (Ne.symm hne) (hx.row_ne hh (by decide))
  have hc : W.cell? ⟨d, 0, none⟩ = some v := by rw [cell_of_row W d 0 _ _ _ hh]; rfl
  have hcd : W'.cell? ⟨d, 0, none⟩ = W.cell? ⟨d, 0, none⟩ := by unfold World.cell?; rw [hd]
  refine ⟨⟨q1, v, em, hd.trans hh, ho.kept (fun g hg => hf.block g (hin v hc g hg).2 (fun e => ?_) (fun u hu e => hap u v hu hc g e hg)), hn⟩, hcd, fun u u' hu hu' g hg e => ?_⟩
  · exact hy.row_ne hxx (by decide) v hc (by rw [← e]; exact hg)
  · rw [hcd] at hu'
    rcases hf.row u hu g hg with q | ⟨u0, hu0, q⟩
    · have := (hin u' hu' g e).2; omega
    · exact hap u0 u' hu0 hu' g q e
/-- Three chains. -/
structure TS (w : World) (bn cx cy cz : Nat) (n : Int) (X Y Z : List Ver) (W : World) : Prop where
  x : CH W cx cx X
  y : CH W cy cy Y
  z : CH W cz cz Z
  nb : Box W bn 3 (.int .i64 n)
  low : Below w.heap.size w W
  ne : w.heap.size ≤ cx ∧ w.heap.size ≤ cy ∧ w.heap.size ≤ cz ∧ cx ≠ cy ∧ cx ≠ cz ∧ cy ≠ cz ∧ bn ≠ cx ∧ bn ≠ cy ∧ bn ≠ cz
  xy : Ap cx cy W
  xz : Ap cx cz W
  yz : Ap cy cz W
theorem TS.later {w W W' : World} {bn cx cy cz : Nat} {n : Int} {X Y Z : List Ver} (h : TS w bn cx cy cz n X Y Z W) (hb : Below W.heap.size W W') : TS w bn cx cy cz n X Y Z W' := by
  have ex := hb.cell (p := ⟨cx, 0, none⟩) h.x.lt
  have ey := hb.cell (p := ⟨cy, 0, none⟩) h.y.lt
  have ez := hb.cell (p := ⟨cz, 0, none⟩) h.z.lt
  exact ⟨h.x.later hb, h.y.later hb, h.z.later hb, h.nb.later hb, h.low.trans (hb.mono h.low.size), h.ne, h.xy.same ex ey, h.xz.same ex ez, h.yz.same ey ez⟩
theorem TS.onX {w W W' : World} {bn cx cy cz : Nat} {n : Int} {X X' Y Z : List Ver} (h : TS w bn cx cy cz n X Y Z W) (hc : CH W' cx cx X') (hf : Fr W W' cx) : TS w bn cx cy cz n X' Y Z W' := by
  obtain ⟨n1, n2, n3, n4, n5, n6, n7, n8, n9⟩ := h.ne
  obtain ⟨y1, y2, y3⟩ := CH.other hf h.x h.y n4 h.xy
  obtain ⟨z1, z2, z3⟩ := CH.other hf h.x h.z n5 h.xz
  exact ⟨hc, y1, z1, hf.box h.x h.nb (by decide) n7, h.low.trans ((hf.below h.x).mono n1), h.ne, y3, z3, h.yz.same y2 z2⟩
theorem TS.onZ {w W W' : World} {bn cx cy cz : Nat} {n : Int} {X Y Z Z' : List Ver} (h : TS w bn cx cy cz n X Y Z W) (hc : CH W' cz cz Z') (hf : Fr W W' cz) : TS w bn cx cy cz n X Y Z' W' := by
  obtain ⟨n1, n2, n3, n4, n5, n6, n7, n8, n9⟩ := h.ne
  obtain ⟨x1, x2, x3⟩ := CH.other hf h.z h.x (Ne.symm n5) h.xz.symm
  obtain ⟨y1, y2, y3⟩ := CH.other hf h.z h.y (Ne.symm n6) h.yz.symm
  exact ⟨x1, y1, hc, hf.box h.z h.nb (by decide) n9, h.low.trans ((hf.below h.z).mono n3), h.ne, h.xy.same x2 y2, x3.symm, y3.symm⟩
theorem cell_set {W : World} {b c : Nat} (hne : c ≠ b) (u : Value) : (W.setCell ⟨b, 0, none⟩ u).cell? ⟨c, 0, none⟩ = W.cell? ⟨c, 0, none⟩ := by unfold World.cell?; rw [Below.heap_setCell _ _ _ c hne]
theorem TS.set {w W : World} {bn cx cy cz b : Nat} {n : Int} {X Y Z : List Ver} {u : Value} (h : TS w bn cx cy cz n X Y Z W) (hb : Box W b 3 u) (h1 : bn ≠ b) (h2 : b ≠ cx) (h3 : b ≠ cy) (h4 : b ≠ cz) (h5 : w.heap.size ≤ b) (u' : Value) : TS w bn cx cy cz n X Y Z (W.setCell ⟨b, 0, none⟩ u') :=
  ⟨h.x.set hb (by decide) h2 u', h.y.set hb (by decide) h3 u', h.z.set hb (by decide) h4 u', h.nb.other h1 u', h.low.setCell (p := ⟨b, 0, none⟩) h5 u', h.ne, h.xy.same (cell_set (Ne.symm h2) u') (cell_set (Ne.symm h3) u'), h.xz.same (cell_set (Ne.symm h2) u') (cell_set (Ne.symm h4) u'), h.yz.same (cell_set (Ne.symm h3) u') (cell_set (Ne.symm h4) u')⟩
theorem cell_grown {V V' : World} {row : Option Nat} {c : Nat} {B : Nat} {L : List Ver} (h : CH V B c L) (hg : V.grownBy V' row) (hr : ∀ r, row = some r → ∃ o : Obj, V.heap[r]? = some o ∧ o.isCells = false) : V'.cell? ⟨c, 0, none⟩ = V.cell? ⟨c, 0, none⟩ := by
  obtain ⟨_, v, em, hh, _⟩ := h
  unfold World.cell?
  rw [grown_cells hg hr hh, hh]
theorem TS.grown {w V V' : World} {bn cx cy cz D : Nat} {n : Int} {X Y Z : List Ver} {row : Option Nat} (h : TS w bn cx cy cz n X Y Z V) (hD : w.heap.size ≤ D) (hg : V.grownBy V' row) (hr : ∀ r, row = some r → D ≤ r ∧ ∃ o : Obj, V.heap[r]? = some o ∧ o.isCells = false) : TS w bn cx cy cz n X Y Z V' := by
  have hr' : ∀ r, row = some r → ∃ o : Obj, V.heap[r]? = some o ∧ o.isCells = false := fun r e => (hr r e).2
  have ex := cell_grown h.x hg hr'
  have ey := cell_grown h.y hg hr'
  have ez := cell_grown h.z hg hr'
  exact ⟨h.x.grown hg hr', h.y.grown hg hr', h.z.grown hg hr', grown_cells hg hr' h.nb, ⟨hg.os.trans h.low.os, hg.tape.trans h.low.tape, hg.output.trans h.low.output, Nat.le_trans h.low.size hg.size, fun k hk => (hg.block k (Nat.lt_of_lt_of_le hk h.low.size) (fun e => by have := (hr k e.symm).1; omega)).trans (h.low.block k hk)⟩, h.ne, h.xy.same ex ey, h.xz.same ex ez, h.yz.same ey ez⟩
/-- Three chains that were built one behind the other. -/
theorem TS.made {w w0 w1 w2 w3 : World} {bn cx cy cz : Nat} {n : Int} {L : List Ver} (hbn : Box w0 bn 3 (.int .i64 n)) (h0 : Below w.heap.size w w0) (c1 : w0.heap.size ≤ cx) (x1 : CH w1 cx cx L) (b1 : Below w0.heap.size w0 w1) (c2 : w1.heap.size ≤ cy) (y2 : CH w2 cy cy L) (b2 : Below w1.heap.size w1 w2) (c3 : w2.heap.size ≤ cz) (z3 : CH w3 cz cz L) (b3 : Below w2.heap.size w2 w3) : TS w bn cx cy cz n L L L w3 := by
  have b13 := b2.trans (b3.mono b2.size)
  have lx := x1.lt
  have ly := y2.lt
  have lb := hbn.lt
  have s0 := h0.size
  have s1 := b1.size
  have s2 := b2.size
  have ex := b13.cell (p := ⟨cx, 0, none⟩) lx
  have ey := b3.cell (p := ⟨cy, 0, none⟩) ly
  refine ⟨x1.later b13, y2.later b3, z3, (hbn.later b1).later b13, (h0.trans (b1.mono s0)).trans (b13.mono (Nat.le_trans s0 s1)), by omega, fun v v' hv hv' g hg e => ?_, fun v v' hv hv' g hg e => ?_, fun v v' hv hv' g hg e => ?_⟩
  · rw [ex] at hv
    rw [ey] at hv'
    have := (x1.row_in v hv g hg).2
    have := (y2.row_in v' hv' g e).1
    omega
  · rw [ex] at hv
    have := (x1.row_in v hv g hg).2
    have := (z3.row_in v' hv' g e).1
    omega
  · rw [ey] at hv
    have := (y2.row_in v hv g hg).2
    have := (z3.row_in v' hv' g e).1
    omega
/-- A row of numbers. -/
def RN (w : World) (v : Value) (l : List Int) : Prop := ∃ a cap, v = .slice a l.length cap ∧ ∀ (i : Nat) (q : Int), l[i]? = some q → ∃ g off, a = some ⟨g, off, none⟩ ∧ w.cell? ⟨g, off + i, none⟩ = some (.int .i64 q)
end Go.Proofs.YtnjjehlfgoggfaaDoor
