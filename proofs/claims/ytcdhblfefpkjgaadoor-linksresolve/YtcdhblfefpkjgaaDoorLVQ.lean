/-
  My own text: LVP, LVQ in one.
-/
import Derived.Test.YtcdhblfefpkjgaaDoorLVO
import Derived.Test.YtcdhblfefpkjgaaDoorN10
namespace Go.Proofs.YtcdhblfefpkjgaaDoor
open Go.RowKit

set_option maxRecDepth 100000 in
set_option maxHeartbeats 2000000 in
theorem sameLinks_any (va vb : Value) (l : List Lk) (w : World) (ha : NT.RL w va l) (hb : NT.RL w vb l) (hl : l.length ≤ 1000000) :
    Calls Tryd.prog 34 #[va, vb] w fun e w' => e = .returned (.bool true) ∧ Below w.heap.size w w' := by
  obtain ⟨aa, ca, rfl, hra⟩ := ha
  obtain ⟨ab, cb, rfl, hrb⟩ := hb
  have HRA := hide hra
  have HRB := hide hrb
  have HL := hide hl
  obtain ⟨n, hn⟩ : ∃ n, l.length = n := ⟨_, rfl⟩
  have HN := hide hn
  rw [hn]
  have hne : ((n : Int) != (n : Int)) = false := by simp
  clear hra hrb hl hn
  go_enter Tryd.func34, Tryd.ntmps34
  go_wp2_with fail
  go_loopw [5] (fun i wr => ∃ k : Nat, i = .int .i64 (k : Int) ∧ Hid (k ≤ n) ∧ Hid (Below w.heap.size w wr)) (fun i _ => n - (intOf i).toNat)
  case atStart => exact ⟨0, rfl, hide (Nat.zero_le _), hide (Below.refl _ _)⟩
  case round =>
    obtain ⟨k, rfl, HK, HB⟩ := hrel
    by_cases hlt : k < n
    · obtain ⟨⟨kd, r⟩, hp⟩ : ∃ p, l[k]? = some p := ⟨_, List.getElem?_eq_getElem (by rw [HN.out]; exact hlt)⟩
      obtain ⟨ba, oa, rfl, hal, hac⟩ := HRA.out.resolve_left (fun h => by rw [h] at hp; simp at hp)
      obtain ⟨bb, ob, rfl, hbl, hbc⟩ := HRB.out.resolve_left (fun h => by rw [h] at hp; simp at hp)
      have c0 := (HB.out.cell (p := ⟨ba, oa + k * 2, none⟩) hal).trans (hac k _ hp).1
      have c1 := (HB.out.cell (p := ⟨ba, oa + k * 2 + 1, none⟩) hal).trans (hac k _ hp).2
      have c1' : wr.cell? ⟨ba, oa + (k * 2 + 1), none⟩ = some (.string ⟨r.toArray⟩) := c1
      have d0 := (HB.out.cell (p := ⟨bb, ob + k * 2, none⟩) hbl).trans (hbc k _ hp).1
      have d1 := (HB.out.cell (p := ⟨bb, ob + k * 2 + 1, none⟩) hbl).trans (hbc k _ hp).2
      have d1' : wr.cell? ⟨bb, ob + (k * 2 + 1), none⟩ = some (.string ⟨r.toArray⟩) := d1
      dsimp only at c0 c1 d0 d1
      have wk := wrap_up hlt (by rw [← HN.out]; exact HL.out)
      have i0 : (0 : Int) ≤ (k : Int) := Int.natCast_nonneg _
      have i1 : (k : Int) < (n : Int) := Int.ofNat_lt.2 hlt
      have hneq2 := NT.run_neq_lnk kd r
      clear hal hbl hac hbc hp
      go_wp2_with fail
      go_quiet (fail)
      go_wp2_with fail
      go_roundw
      case rel => exact ⟨k + 1, iv_succ wk, hide hlt, hide (NT.below_dN HB.out _)⟩
      case measure => exact meas_j wk hlt
    · go_wp2_with fail
      go_ret
      exact ⟨rfl, HB.out⟩
set_option maxRecDepth 100000 in
set_option maxHeartbeats 2000000 in
theorem sameNotice_any (n : NT.Ntc) (va vb : Value) (l : List Lk) (w : World) (hn : NT.NOk n) (ha : NT.RL w va l) (hb : NT.RL w vb l) (hl : l.length ≤ 1000000) :
    Calls Tryd.prog 11 #[.agg (NT.nC n va), .agg (NT.nC n vb)] w fun e w' => e = .returned (.bool true) ∧ Below w.heap.size w w' := by
  have hc := hn.code
  have X0 := (NT.Bx.new w n va).alloc (.cells (NT.nC n vb) 27)
  have Y0 : NT.Bx ((w.alloc (.cells (NT.nC n va) 27)).alloc (.cells (NT.nC n vb) 27)) (w.heap.size + 1) n vb := NT.alloc2_new w _ _
  have B0 := hide (((Below.refl w.heap.size w).alloc (Nat.le_refl _) (.cells (NT.nC n va) 27)).alloc (by simp) (.cells (NT.nC n vb) 27))
  have HSL := hide (sameLinks_any va vb l _ (ha.later B0.out) (hb.later B0.out) hl)
  have x0 := X0.ref hc
  have y0 := Y0.ref hc
  have x1 := X0.prev hc
  have y1 := Y0.prev hc
  have x2 := X0.cn hc
  have y2 := Y0.cn hc
  have x3 := X0.rc hc
  have y3 := Y0.rc hc
  have x4 := X0.py hc
  have y4 := Y0.py hc
  have x5 := X0.tr hc
  have y5 := Y0.tr hc
  have x6 := X0.st hc
  have y6 := Y0.st hc
  have x8 := X0.qty hc
  have y8 := Y0.qty hc
  have x9 := X0.acc hc
  have y9 := Y0.acc hc
  have x10 := X0.agt hc
  have y10 := Y0.agt hc
  have x11 := X0.oth hc
  have y11 := Y0.oth hc
  have x12 := X0.amt hc
  have y12 := Y0.amt hc
  have x13 := X0.cur hc
  have y13 := Y0.cur hc
  have x14 := X0.pri hc
  have y14 := Y0.pri hc
  have x15 := X0.links hc
  have y15 := Y0.links hc
  obtain ⟨aa, ca, hva, _⟩ := ha
  obtain ⟨ab, cb, hvb, _⟩ := hb
  subst hva
  subst hvb
  have zx := X0.code hc
  have zy := Y0.code hc
  have HSI : Hid ((Tryd.prog.info? 24).map (·.size) = some (LC.cel n.code).toList.length) := by show _ = _; rw [Array.length_toList, LC.cel_size, hc]; exact LC.Tryd.sizeIsin
  have hneq : ∀ W : World, (binOp .neq 24 (.agg (LC.cel n.code)) (.agg (LC.cel n.code))).run Tryd.prog W = .ok (.bool false) W := fun W => by
    rw [LC.run_neq_cel Tryd.underlying24 n.code n.code hc hc W]; simp
  clear X0 Y0 hl hn hc
  go_enter Tryd.func11, Tryd.ntmps11
  go_wp2_with (first
    | (refine wpList_load_mid rfl 24 (.tmp 52) rfl w.heap.size 7 rfl (LC.cel n.code).toList _ zx Tryd.underlying24 rfl HSI.out ?_; rw [Array.toArray_toList])
    | (refine wpList_load_mid rfl 24 (.tmp 54) rfl (w.heap.size + 1) 7 rfl (LC.cel n.code).toList _ zy Tryd.underlying24 rfl HSI.out ?_; rw [Array.toArray_toList]))
  refine HSL.out.mono ?_
  rintro e w1 ⟨rfl, hb1⟩
  have HB1 := hide (B0.out.trans (hb1.mono B0.out.size))
  clear hb1
  go_wp2_with fail
  go_ret
  exact ⟨rfl, HB1.out⟩
end Go.Proofs.YtcdhblfefpkjgaaDoor
namespace Go.Proofs.YtcdhblfefpkjgaaDoor
open Go.RowKit

/-- A notice: its fields, its links as a value and as a list. -/
abbrev Nt := NT.Ntc × Value × List Lk
def nR (NS : List Nt) : List (List UInt8) := NS.map fun p => p.1.ref
def nL (NS : List Nt) : List (List Lk) := NS.map fun p => p.2.2
def nP (NS : List Nt) (x : Nat) : Int := match NS[x]? with | some p => p.1.pri | none => 0
theorem nR_len (NS : List Nt) : (nR NS).length = NS.length := by simp [nR]
theorem nL_len (NS : List Nt) : (nL NS).length = NS.length := by simp [nL]
/-- A row of notices. -/
def RN (w : World) (v : Value) (NS : List Nt) : Prop := ∃ a cap, v = .slice a NS.length cap ∧ (NS = [] ∨ ∃ b off, a = some ⟨b, off, none⟩ ∧ b < w.heap.size ∧ ∀ i p, NS[i]? = some p → w.rangeAt b (off + i * 27) (NT.nC p.1 p.2.1).toList ∧ NT.RL w p.2.1 p.2.2)
theorem range_later {w w' : World} {b o : Nat} {l : List Value} (h : w.rangeAt b o l) (hb : Below w.heap.size w w') (hlt : b < w.heap.size) : w'.rangeAt b o l := fun j u hj => (hb.cell (p := ⟨b, _, none⟩) hlt).trans (h j u hj)
theorem RN.later {w w' : World} {v : Value} {NS : List Nt} (h : RN w v NS) (hb : Below w.heap.size w w') : RN w' v NS := by
  obtain ⟨a, cap, hv, hr⟩ := h
  refine ⟨a, cap, hv, ?_⟩
  rcases hr with hr | ⟨b, off, ha, hl, hx⟩
  · exact .inl hr
  · exact .inr ⟨b, off, ha, Nat.lt_of_lt_of_le hl hb.size, fun i p hp => ⟨range_later (hx i p hp).1 hb hl, (hx i p hp).2.later hb⟩⟩
theorem nC_at {n : NT.Ntc} {v : Value} (hc : n.code.length = 12) : (NT.nC n v).toList[0]? = some (.string ⟨n.ref.toArray⟩) ∧ (NT.nC n v).toList[25]? = some (.int .i64 n.pri) ∧ (NT.nC n v).toList[26]? = some v := by
  obtain ⟨c0, c1, c2, c3, c4, c5, c6, c7, c8, c9, c10, c11, he⟩ := NT.nC_cases hc
  unfold NT.nC NT.nb
  rw [he]
  exact ⟨rfl, rfl, rfl⟩
theorem RN.na {w : World} {v : Value} {NS : List Nt} (h : RN w v NS) (hc : ∀ p ∈ NS, p.1.code.length = 12) : NA w v (nR NS) (nL NS) (nP NS) := by
  obtain ⟨a, cap, hv, hr⟩ := h
  have at' : ∀ x, x < NS.length → ∃ p, NS[x]? = some p ∧ p.1.code.length = 12 := fun x hx => ⟨_, List.getElem?_eq_getElem hx, hc _ (List.getElem_mem hx)⟩
  refine ⟨⟨a, cap, by rw [nR_len]; exact hv, ?_⟩, ⟨a, cap, by rw [nL_len]; exact hv, ?_⟩, ⟨a, cap, by rw [nR_len]; exact hv, ?_⟩, by rw [nR_len, nL_len]⟩
  · rcases hr with hr | ⟨b, off, ha, hl, hx⟩
    · left; rw [hr]; rfl
    · refine .inr ⟨b, off, ha, hl, fun x k hk => ?_⟩
      unfold nR at hk
      rw [List.getElem?_map] at hk
      obtain ⟨p, hp, rfl⟩ := Option.map_eq_some_iff.1 hk
      have := (hx x p hp).1 0 _ (nC_at (hc p (List.mem_of_getElem? hp))).1
      exact this
  · rcases hr with hr | ⟨b, off, ha, hl, hx⟩
    · left; rw [hr]; rfl
    · refine .inr ⟨b, off, ha, hl, fun x l hk => ?_⟩
      unfold nL at hk
      rw [List.getElem?_map] at hk
      obtain ⟨p, hp, rfl⟩ := Option.map_eq_some_iff.1 hk
      obtain ⟨h1, la, lc, hlv, h3⟩ := hx x p hp
      have h2 := h1 26 _ (nC_at (hc p (List.mem_of_getElem? hp))).2.2
      exact ⟨la, lc, by rw [← hlv]; exact h2, h3⟩
  · rcases hr with hr | ⟨b, off, ha, hl, hx⟩
    · left; rw [hr]; rfl
    · refine .inr ⟨b, off, ha, hl, fun x hk => ?_⟩
      obtain ⟨p, hp, hcl⟩ := at' x (by rw [nR_len] at hk; exact hk)
      have := (hx x p hp).1 25 _ (nC_at hcl).2.1
      have e : nP NS x = p.1.pri := by unfold nP; rw [hp]
      rw [e]; exact this
/-- Their cells. -/
def nl (NS : List Nt) : List Value := NS.flatMap fun p => (NT.nC p.1 p.2.1).toList
theorem nl_snoc (NS : List Nt) (p : Nt) : nl (NS ++ [p]) = nl NS ++ (NT.nC p.1 p.2.1).toList := by unfold nl; rw [List.flatMap_append]; simp
theorem nl_len {NS : List Nt} (hc : ∀ p ∈ NS, p.1.code.length = 12) : (nl NS).length = NS.length * 27 := by
  induction NS with
  | nil => rfl
  | cons p t ih =>
    have h1 := ih fun q hq => hc q (List.mem_cons_of_mem _ hq)
    have h2 : (NT.nC p.1 p.2.1).toList.length = 27 := by rw [Array.length_toList]; exact NT.nC_size p.1 p.2.1 (hc p List.mem_cons_self)
    show ((NT.nC p.1 p.2.1).toList ++ nl t).length = _
    rw [List.length_append, h1, h2, List.length_cons]; omega
theorem nl_at {NS : List Nt} (hc : ∀ p ∈ NS, p.1.code.length = 12) : ∀ {i : Nat} {p : Nt}, NS[i]? = some p → ∀ j u, (NT.nC p.1 p.2.1).toList[j]? = some u → (nl NS)[i * 27 + j]? = some u := by
  induction NS with
  | nil => intro i p hp; simp at hp
  | cons q t ih =>
    intro i p hp j u hu
    have h2 : (NT.nC q.1 q.2.1).toList.length = 27 := by rw [Array.length_toList]; exact NT.nC_size q.1 q.2.1 (hc q List.mem_cons_self)
    have e : nl (q :: t) = (NT.nC q.1 q.2.1).toList ++ nl t := rfl
    cases i with
    | zero =>
      have hq : q = p := by simpa using hp
      subst hq
      rw [e, List.getElem?_append_left (by have := (List.getElem?_eq_some_iff.1 hu).1; omega), Nat.zero_mul, Nat.zero_add]
      exact hu
    | succ i =>
      have hp' : t[i]? = some p := by simpa using hp
      have := ih (fun q hq => hc q (List.mem_cons_of_mem _ hq)) hp' j u hu
      rw [e, List.getElem?_append_right (by rw [h2]; omega), h2, show (i + 1) * 27 + j - 27 = i * 27 + j by omega]
      exact this
/-- The row of lent notices. -/
structure IX (B : Nat) (w0 w : World) (vin : Value) (NS : List Nt) : Prop where
  row : w.ownsRow B 27 27 vin NS.length (nl NS)
  lent : ∀ p ∈ NS, ∃ gl cl, p.2.1 = .slice (some ⟨gl, 0, none⟩) p.2.2.length cl ∧ NT.LentL w B gl cl p.2.2
  code : ∀ p ∈ NS, NT.NOk p.1
  low : Below B w0 w
  bs : B ≤ w.heap.size
theorem lent_low {w : World} {B B' g cap : Nat} {l : List Lk} (h : NT.LentL w B g cap l) (hB : B' ≤ B) : NT.LentL w B' g cap l := ⟨Nat.le_trans hB h.base, owns_low h.own hB⟩
theorem IX.later {B : Nat} {w0 w w' : World} {vin : Value} {NS : List Nt} (h : IX B w0 w vin NS) (hb : Below w.heap.size w w') : IX B w0 w' vin NS :=
  ⟨owns_lat h.row hb, fun p hp => by obtain ⟨gl, cl, h1, h2⟩ := h.lent p hp; exact ⟨gl, cl, h1, h2.later hb⟩, h.code, h.low.trans (hb.mono h.bs), Nat.le_trans h.bs hb.size⟩
theorem IX.push {B : Nat} {w0 w w' : World} {vin v' : Value} {NS : List Nt} {n : NT.Ntc} {ls : List Lk} {gl cl : Nat} (h : IX B w0 w vin NS) (hl : NT.LentL w B gl cl ls) (hn : NT.NOk n)
    (ho : w'.ownsRow B 27 27 v' (NS.length + 1) (nl NS ++ (NT.nC n (.slice (some ⟨gl, 0, none⟩) ls.length cl)).toList)) (hg : w.grownBy w' vin.ownBlock) : IX B w0 w' v' (NS ++ [(n, .slice (some ⟨gl, 0, none⟩) ls.length cl, ls)]) := by
  have hk : ∀ {g c : Nat} {l : List Lk}, NT.LentL w B g c l → NT.LentL w' B g c l := fun {g c l} h2 => h2.block (hg.block g (World.ownsRow.lt h2.own g rfl).2 (fun e => by
    obtain ⟨_, c1, f1, h3⟩ := okind h.row g e.symm
    obtain ⟨_, c2, f2, h4⟩ := okind h2.own g rfl
    rw [h3] at h4
    injection h4 with h4
    injection h4 with _ h4 _
    exact absurd h4 (by decide)))
  refine ⟨by rw [List.length_append, nl_snoc]; exact ho, fun p hp => ?_, fun p hp => ?_, h.low.grown hg h.bs (fun q hq => (World.ownsRow.lt h.row q hq).1), Nat.le_trans h.bs hg.size⟩
  · rcases List.mem_append.1 hp with hp | hp
    · obtain ⟨g, c, h1, h2⟩ := h.lent p hp; exact ⟨g, c, h1, hk h2⟩
    · have e : p = (n, .slice (some ⟨gl, 0, none⟩) ls.length cl, ls) := by simpa using hp
      subst e
      exact ⟨gl, cl, rfl, hk hl⟩
  · rcases List.mem_append.1 hp with hp | hp
    · exact h.code p hp
    · have e : p = (n, .slice (some ⟨gl, 0, none⟩) ls.length cl, ls) := by simpa using hp
      subst e; exact hn
theorem IX.rn {B : Nat} {w0 w : World} {vin : Value} {NS : List Nt} (h : IX B w0 w vin NS) : RN w vin NS := by
  have hc : ∀ p ∈ NS, p.1.code.length = 12 := fun p hp => (h.code p hp).code
  rcases h.row.2 with ⟨hv, h0⟩ | ⟨g, cap, cur, hv, hb, hh, hx⟩
  · have e : NS = [] := List.length_eq_zero_iff.1 h0
    subst e
    exact ⟨none, 0, hv, .inl rfl⟩
  · refine ⟨some ⟨g, 0, none⟩, cap, hv, .inr ⟨g, 0, rfl, (Array.getElem?_eq_some_iff.1 hh).1, fun i p hp => ⟨fun j u hj => ?_, ?_⟩⟩⟩
    · have hr := h.row
      rw [hv] at hr
      have h27 : j < 27 := by have := (List.getElem?_eq_some_iff.1 hj).1; rw [Array.length_toList, NT.nC_size _ _ (hc p (List.mem_of_getElem? hp))] at this; exact this
      have hil := (List.getElem?_eq_some_iff.1 hp).1
      rw [Nat.zero_add, World.ownsRow.cellAt hr (i * 27 + j) (by omega)]
      exact nl_at hc hp j u hj
    · obtain ⟨gl, cl, h1, h2⟩ := h.lent p (List.mem_of_getElem? hp)
      rw [h1]; exact h2.rl
theorem IX.nil (w : World) : IX w.heap.size w w (.slice none 0 0) [] := ⟨World.ownsRow_nil _ _ _ _, fun p hp => (by cases hp), fun p hp => (by cases hp), Below.refl _ _, Nat.le_refl _⟩
end Go.Proofs.YtcdhblfefpkjgaaDoor
