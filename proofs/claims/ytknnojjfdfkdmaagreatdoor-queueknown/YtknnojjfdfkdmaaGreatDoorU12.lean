/-
  My own text: layer 19: Touch.
-/
import Derived.Test.YtknnojjfdfkdmaaGreatDoorU11
namespace Go.Proofs.YtknnojjfdfkdmaaGreatDoor
open Go.RowKit Go.Extern Go.MapKept Go.ChangeMaps

theorem tcE_tcE (e : Et) : tcE (tcE e) = tcE e := by
  unfold tcE
  by_cases h0 : e.st = 0
  · rw [if_pos h0]; simp
  · rw [if_neg h0]
    by_cases h2 : e.st = 2
    · rw [if_pos h2]; simp [h2]
    · rw [if_neg h2, if_neg h0, if_neg h2]
/-- Those of P are touched. -/
def tcP (T : Nat → Et) (P : List Nat) : Nat → Et := fun y => if y ∈ P then tcE (T y) else T y
theorem tcE_came (e : Et) : (tcE e).came = e.came ∧ (tcE e).keys = e.keys ∧ (tcE e).id = e.id ∧ (tcE e).kv = e.kv := by
  unfold tcE; split
  · exact ⟨rfl, rfl, rfl, rfl⟩
  · split <;> exact ⟨rfl, rfl, rfl, rfl⟩
theorem tcP_came (T : Nat → Et) (P : List Nat) : (fun y => (tcP T P y).came) = fun y => (T y).came := by
  funext y; unfold tcP; split
  · exact (tcE_came _).1
  · rfl
theorem tcP_nil (T : Nat → Et) : tcP T [] = T := by funext y; unfold tcP; rw [if_neg (by simp)]
theorem tcP_snoc (T : Nat → Et) (P : List Nat) (x : Nat) : tcT (tcP T P) x = tcP T (P ++ [x]) := by
  funext y
  unfold tcT
  by_cases e : y = x
  · subst e
    rw [if_pos rfl]
    show tcE (if y ∈ P then tcE (T y) else T y) = if y ∈ P ++ [y] then tcE (T y) else T y
    rw [show (if y ∈ P ++ [y] then tcE (T y) else T y) = tcE (T y) from if_pos (by simp)]
    split
    · exact tcE_tcE _
    · rfl
  · rw [if_neg e]
    unfold tcP
    by_cases h : y ∈ P
    · rw [if_pos h, if_pos (by simp [h])]
    · rw [if_neg h, if_neg (by simp [h, e])]
theorem sr_len {c : Nat → Int} {A R : List Nat} (hA : Sr c A) (hR : Sr c R) (h : ∀ y ∈ R, y ∈ A) : R.length ≤ A.length := by
  have : R = A.filter (fun y => decide (y ∈ R)) := sr_uniq hR (hA.sublist List.filter_sublist) (fun x => by
    rw [List.mem_filter]
    constructor
    · intro hx; exact ⟨h x hx, by simpa using hx⟩
    · intro hx; simpa using hx.2)
  rw [this]
  exact List.length_filter_le _ _
/-- The ready ones while touching goes on. -/
structure RdP (Z : Qx) (P R : List Nat) : Prop where
  sr : Sr (fun y => (Z.T y).came) R
  mem : ∀ y, y ∈ R ↔ y ∈ Z.Rd ∨ (y ∈ P ∧ (Z.T y).st = 0)
/-- What a queue's rows are to one another. -/
structure Ok0 (Z : Qx) : Prop where
  sa : Sr (fun y => (Z.T y).came) Z.A
  sx : ∀ y ∈ Z.A, y ∈ Z.X
  la : Z.A.length ≤ 8796093022000
  sr : Sr (fun y => (Z.T y).came) Z.Rd
  rd : ∀ y, y ∈ Z.Rd ↔ y ∈ Z.A ∧ (Z.T y).st = 1
  sc : ∀ k, Sr (fun y => (Z.T y).came) (Z.C k)
  cm : ∀ k y, y ∈ Z.C k ↔ y ∈ Z.A ∧ k ∈ (Z.T y).keys
theorem Ok0.rlen {Z : Qx} (h : Ok0 Z) : Z.Rd.length ≤ 8796093022000 := Nat.le_trans (sr_len h.sa h.sr (fun y hy => ((h.rd y).1 hy).1)) h.la
theorem Ok0.clen {Z : Qx} (h : Ok0 Z) (k : Ky) : (Z.C k).length ≤ 8796093022000 := Nat.le_trans (sr_len h.sa (h.sc k) (fun y hy => ((h.cm k y).1 hy).1)) h.la
theorem RdP.sub {Z : Qx} {P R : List Nat} (h : RdP Z P R) (hO : Ok0 Z) (hP : ∀ y ∈ P, y ∈ Z.A) : ∀ y ∈ R, y ∈ Z.A := fun y hy => by
  rcases (h.mem y).1 hy with h1 | h1
  · exact ((hO.rd y).1 h1).1
  · exact hP y h1.1
theorem RdP.len {Z : Qx} {P R : List Nat} (h : RdP Z P R) (hO : Ok0 Z) (hP : ∀ y ∈ P, y ∈ Z.A) : R.length ≤ 8796093022000 := Nat.le_trans (sr_len hO.sa h.sr (h.sub hO hP)) hO.la
theorem RdP.step {Z : Qx} {P R : List Nat} (h : RdP Z P R) (hO : Ok0 Z) (hP : ∀ y ∈ P, y ∈ Z.A) {x : Nat} (hx : x ∈ Z.A) : RdP Z (P ++ [x]) (if (tcP Z.T P x).st = 0 then insE (fun y => (Z.T y).came) x R else R) := by
  by_cases h0 : (tcP Z.T P x).st = 0
  · rw [if_pos h0]
    have hxP : x ∉ P := fun hm => by
      unfold tcP at h0
      rw [if_pos hm] at h0
      unfold tcE at h0
      split at h0
      · cases h0
      · split at h0
        · rename_i h1 h2; exact h1 h0
        · rename_i h1 h2; exact h1 h0
    have hst : (Z.T x).st = 0 := by unfold tcP at h0; rw [if_neg hxP] at h0; exact h0
    have hno : hasC (fun y => (Z.T y).came) (Z.T x).came R = false := by
      cases hb : hasC (fun y => (Z.T y).came) (Z.T x).came R with
      | false => rfl
      | true =>
        obtain ⟨y, hy, e⟩ := hasC_iff.1 hb
        obtain rfl : y = x := sr_inj hO.sa (h.sub hO hP y hy) hx e
        rcases (h.mem y).1 hy with h1 | h1
        · have := ((hO.rd y).1 h1).2; omega
        · exact absurd h1.1 hxP
    refine ⟨sr_insE h.sr hno, fun y => ?_⟩
    rw [mem_insE, h.mem y, List.mem_append, List.mem_singleton]
    constructor
    · rintro (rfl | h1 | h1)
      · exact .inr ⟨.inr rfl, hst⟩
      · exact .inl h1
      · exact .inr ⟨.inl h1.1, h1.2⟩
    · rintro (h1 | ⟨h1 | h1, h2⟩)
      · exact .inr (.inl h1)
      · exact .inr (.inr ⟨h1, h2⟩)
      · exact .inl h1
  · rw [if_neg h0]
    refine ⟨h.sr, fun y => ?_⟩
    rw [h.mem y, List.mem_append, List.mem_singleton]
    constructor
    · rintro (h1 | h1)
      · exact .inl h1
      · exact .inr ⟨.inl h1.1, h1.2⟩
    · rintro (h1 | ⟨h1 | h1, h2⟩)
      · exact .inl h1
      · exact .inr ⟨h1, h2⟩
      · subst h1
        by_cases hm : y ∈ P
        · exact .inr ⟨hm, h2⟩
        · unfold tcP at h0
          rw [if_neg hm] at h0
          exact absurd h2 h0
/-- The state while touching goes on. -/
structure TS (F : Nat → Prop) (w wr : World) (q : Nat) (Z : Qx) (P R : List Nat) (v : Value) : Prop where
  qm : QM F wr q { Z with T := tcP Z.T P, vr := v, Rd := R }
  rd : RdP Z P R
  pa : ∀ y ∈ P, y ∈ Z.A
  fw : Fw F w wr
theorem TS.step_call {F : Nat → Prop} {w wr : World} {q x : Nat} {Z : Qx} {P R : List Nat} {v : Value} (h : TS F w wr q Z P R v) (hO : Ok0 Z) (hF : ∀ g, w.heap.size ≤ g → F g) (hx : x ∈ Z.A) :
    Calls Tryz.prog 30 #[.pointer (some ⟨q, 0, none⟩), .pointer (some ⟨x, 0, none⟩)] wr fun r w' => r = .returned (.tuple #[]) ∧ ∃ R' v', TS F w w' q Z (P ++ [x]) R' v' := by
  refine (touch_any F q x _ wr h.qm (fun g hg => hF g (Nat.le_trans h.fw.size hg)) (hO.sx x hx) (by dsimp only; rw [tcP_came]; exact h.rd.sr) (fun y hy => hO.sx y (h.rd.sub hO h.pa y hy)) (h.rd.len hO h.pa)).mono ?_
  rintro r w' ⟨rfl, ⟨v', h1⟩, h2⟩
  dsimp only at h1
  rw [tcP_came, tcP_snoc] at h1
  exact ⟨rfl, _, v', h1, h.rd.step hO h.pa hx, fun y hy => by rcases List.mem_append.1 hy with h3 | h3; exact h.pa y h3; rw [List.mem_singleton.1 h3]; exact hx, h.fw.trans h2⟩
theorem TS.later {F : Nat → Prop} {w wr w' : World} {q : Nat} {Z : Qx} {P R : List Nat} {v : Value} (h : TS F w wr q Z P R v) (hb : Below wr.heap.size wr w') : TS F w w' q Z P R v := ⟨h.qm.later hb, h.rd, h.pa, h.fw.trans (Fw.below hb)⟩
theorem flat_snoc (C : Ky → List Nat) {L : List Ky} {j : Nat} {k : Ky} (h : L[j]? = some k) : (L.take (j + 1)).flatMap C = (L.take j).flatMap C ++ C k := by
  rw [List.take_add_one, h]
  simp
theorem ix {n m : Nat} (h : n < m) (hm : m ≤ 8796093022000) : decide ((n : Int) < (m : Int)) = true ∧ (0 : Int) ≤ (n : Int) ∧ (n : Int) < (m : Int) ∧ wrap64 ((n : Int) + 1) = (n : Int) + 1 :=
  ⟨decide_eq_true (by omega), by omega, by omega, by unfold wrap64; omega⟩
set_option maxRecDepth 100000 in
set_option maxHeartbeats 500000 in
theorem touchK_any (F : Nat → Prop) (q : Nat) (v : Value) (L : List Ky) (Z : Qx) (w : World) (h : QM F w q Z) (hO : Ok0 Z) (hF : ∀ g, w.heap.size ≤ g → F g) (hv : KY.RM w v L) (hl : L.length ≤ 8796093022000) (hLK : ∀ k ∈ L, KOK k) (hfr : 0 < L.length → ∀ g, v.ownBlock = some g → g < w.heap.size → ¬ F g) :
    Calls Tryz.prog 10 #[.pointer (some ⟨q, 0, none⟩), v] w fun r w' => ∃ R v', r = .returned (.int .i64 ((R.length : Int) - (Z.Rd.length : Int))) ∧ TS F w w' q Z (L.flatMap Z.C) R v' := by
  obtain ⟨a, c, rfl⟩ := KY.rm_lt hv
  have q4 := h.cells.2.2.2.2.1
  obtain ⟨ar, cr, hvr⟩ := h.rdy.slc
  rw [hvr] at q4
  have HT0 : Hid (TS F w w q Z [] Z.Rd Z.vr) := hide ⟨by rw [tcP_nil]; exact h, ⟨hO.sr, fun y => by simp⟩, fun y hy => (by cases hy), Fw.refl _ _⟩
  have HO := hide hO
  have HF' := hide hF
  have HV := hide hv
  have HL := hide hl
  have HLK := hide hLK
  have HFR := hide hfr
  clear h hO hF hv hl hLK hfr hvr
  go_enter Tryz.func10, Tryz.ntmps10
  go_wp2_with fail
  go_loopw [17] (fun i wr => ∃ (j : Nat) (R : List Nat) (v : Value), j ≤ L.length ∧ i = .int .i64 (j : Int) ∧ Hid (TS F w wr q Z ((L.take j).flatMap Z.C) R v)) (fun i _ => L.length - (intOf i).toNat)
  case atStart => exact ⟨0, Z.Rd, Z.vr, Nat.zero_le _, rfl, HT0⟩
  case round =>
    clear HT0 q4
    obtain ⟨j, R, vR, hj, rfl, HS⟩ := hrel
    by_cases hlt : j < L.length
    · obtain ⟨⟨k1, k2⟩, hk⟩ : ∃ p, L[j]? = some p := ⟨_, List.getElem?_eq_getElem hlt⟩
      obtain ⟨ga, gcap, hgv, _, hgr⟩ := HV.out
      injection hgv with hv1 hv2 hv3
      clear hv2 hv3
      obtain ⟨gb, goff, hga, hgl, hgc⟩ := hgr.resolve_left (fun h => by rw [h] at hlt; simp at hlt)
      have hfb : wr.heap[gb]? = w.heap[gb]? := HS.out.fw.block gb hgl (HFR.out (Nat.lt_of_le_of_lt (Nat.zero_le j) hlt) gb (by rw [hv1, hga]; rfl) hgl)
      have z0 : wr.cell? ⟨gb, goff + j * 2, none⟩ = some (.int .i64 k1) := (World.cell?_of_block (w := w) (a := ⟨gb, _, none⟩) hfb).trans (hgc j _ hk).1
      have z1 : wr.cell? ⟨gb, goff + j * 2 + 1, none⟩ = some (.int .i64 k2) := (World.cell?_of_block (w := w) (a := ⟨gb, _, none⟩) hfb).trans (hgc j _ hk).2
      have z1' : wr.cell? ⟨gb, goff + (j * 2 + 1), none⟩ = some (.int .i64 k2) := z1
      subst hga
      subst hv1
      have hKOK : KOK (k1, k2) := HLK.out _ (List.mem_of_getElem? hk)
      obtain ⟨hd1, i0, i1, wk⟩ := ix hlt HL.out
      obtain ⟨W8, hW8⟩ : ∃ W8, wr.alloc (.cells #[.int .i64 k1, .int .i64 k2] 23) = W8 := ⟨_, rfl⟩
      have b8 : Below wr.heap.size wr W8 := by rw [← hW8]; exact (Below.refl _ _).alloc (Nat.le_refl _) _
      have kb8 : W8.heap[wr.heap.size]? = some (.cells #[.int .i64 k1, .int .i64 k2] 23 (0, 0)) := by rw [← hW8]; exact alloc_new wr _
      obtain ⟨s0, s1⟩ := pair_cells kb8 rfl
      have h8 := HS.out.later b8
      have q5 : W8.cell? ⟨q, 5, none⟩ = some (.map (some Z.mw)) := h8.qm.cells.2.2.2.2.2
      have hlk0 := fun n : Nat => wt_look (w := W8.drewN n) (k := (k1, k2)) (h8.qm.wt.later ⟨rfl, rfl, rfl, Nat.le_refl _, fun _ _ => rfl⟩) hKOK
      dsimp only at hlk0
      have hrow := h8.qm.row (k1, k2)
      dsimp only at hrow
      obtain ⟨ai, ci, hRf⟩ := hrow.slc
      rw [hRf] at hlk0
      have HRF := hide hRf
      have H8 := hide h8
      have HK := hide hk
      obtain ⟨M, hM⟩ : ∃ M, Z.C (k1, k2) = M := ⟨_, rfl⟩
      rw [hM] at hlk0 HRF
      have HM := hide hM
      have hlk : ∀ W, (∃ n, W = W8.drewN n) → (Instr.lookup 58 (.map (some Z.mw)) (.agg #[.int .i64 k1, .int .i64 k2]) false).run Tryz.prog W = .ok (.slice ai M.length ci) W := by
        rintro W ⟨n, rfl⟩; exact hlk0 n
      have hlk1 := hlk W8.drew ⟨1, rfl⟩
      have q5d : W8.drew.cell? ⟨q, 5, none⟩ = some (.map (some Z.mw)) := q5
      have d0 : W8.drew.cell? ⟨wr.heap.size, 0, none⟩ = some (.int .i64 k1) := s0
      have d1 : W8.drew.cell? ⟨wr.heap.size, 1, none⟩ = some (.int .i64 k2) := s1
      clear hgr hgl hgc hk hKOK b8 kb8 h8 hrow hRf hM hlk0 hlk hfb
      go_wp2_with fail
      go_region_held3 (fun W => W.cell? ⟨q, 5, none⟩ = some (.map (some Z.mw)) ∧ W.cell? ⟨wr.heap.size, 0, none⟩ = some (.int .i64 k1) ∧ W.cell? ⟨wr.heap.size, 1, none⟩ = some (.int .i64 k2)) (go_keep) ((fail))
      have H9 : Hid (TS F w W8.drew q Z ((L.take j).flatMap Z.C ++ M.take 0) R vR) := hide (by rw [List.take_zero, List.append_nil]; exact H8.out.later ⟨rfl, rfl, rfl, Nat.le_refl _, fun _ _ => rfl⟩)
      rename_i hheld
      clear hheld HS H8 z0 z1 z1' s0 s1 d0 d1 q5 q5d hlk1 hW8
      obtain ⟨W1, hW1⟩ : ∃ W1, W8.drew = W1 := ⟨_, rfl⟩
      rw [hW1] at H9 ⊢
      clear hW1
      obtain ⟨kb, hkb⟩ : ∃ kb, wr.heap.size = kb := ⟨_, rfl⟩
      rw [hkb]
      clear hkb
      obtain ⟨W0, rfl⟩ : ∃ W0, W0 = wr := ⟨wr, rfl⟩
      go_wp2_with fail
      go_loopw [28] (fun i wr => ∃ (n : Nat) (R : List Nat) (v : Value), n ≤ M.length ∧ i = .int .i64 (n : Int) ∧ Hid (TS F w wr q Z ((L.take j).flatMap Z.C ++ M.take n) R v)) (fun i _ => M.length - (intOf i).toNat)
      case atStart => exact ⟨0, R, vR, Nat.zero_le _, rfl, H9⟩
      case round =>
        clear H9
        obtain ⟨n, R1, v1, hn, rfl, HS1⟩ := hrel
        by_cases hltn : n < M.length
        · obtain ⟨x, hx⟩ : ∃ p, M[n]? = some p := ⟨_, List.getElem?_eq_getElem hltn⟩
          have hrow := HS1.out.qm.row (k1, k2)
          dsimp only at hrow
          rw [HM.out, HRF.out] at hrow
          rcases hrow.get with ⟨_, h0⟩ | ⟨rb, roff, rcap, rcur, hrv, _, _, _, _, hrc⟩
          · rw [h0] at hltn; simp at hltn
          injection hrv with hr1 hr2 hr3
          clear hr2 hr3
          have c0 : wr.cell? ⟨rb, roff + n, none⟩ = some (.pointer (some ⟨x, 0, none⟩)) := hrc n x hx
          subst hr1
          have hxA : x ∈ Z.A := ((HO.out.cm (k1, k2) x).1 (by rw [HM.out]; exact List.mem_of_getElem? hx)).1
          have HCL := hide (HS1.out.step_call HO.out HF'.out hxA)
          have HTK : Hid ((L.take j).flatMap Z.C ++ M.take n ++ [x] = (L.take j).flatMap Z.C ++ M.take (n + 1)) := hide (by rw [List.append_assoc, List.take_add_one, hx]; rfl)
          obtain ⟨hdn, m0, m1, wn⟩ := ix hltn (by have := HO.out.clen (k1, k2); rw [HM.out] at this; exact this)
          clear hrow hrc hx hxA
          go_wp2_with fail
          refine HCL.out.mono ?_
          rintro r w9 ⟨rfl, R', v', h9⟩
          rw [HTK.out] at h9
          have HS2 := hide h9
          clear h9 HCL
          go_wp2_with fail
          go_roundw
          case rel => exact ⟨n + 1, R', v', hltn, congrArg (Value.int .i64) wn, HS2⟩
          case measure => first | exact meas_up hltn | (rw [wn]; exact meas_up hltn)
        · have e : n = M.length := by omega
          subst e
          have HS2 : Hid (TS F w wr q Z ((L.take (j + 1)).flatMap Z.C) R1 v1) := hide (by rw [flat_snoc Z.C HK.out, HM.out]; have := HS1.out; rwa [List.take_length] at this)
          go_wp2_with fail
          go_roundw
          case rel => exact ⟨j + 1, R1, v1, hlt, congrArg (Value.int .i64) wk, HS2⟩
          case measure => first | exact meas_up hlt | (rw [wk]; exact meas_up hlt)
    · have e : j = L.length := by omega
      subst e
      have hs := HS.out
      have r4 := hs.qm.cells.2.2.2.2.1
      dsimp only at r4
      obtain ⟨a4, c4, hv4⟩ := hs.qm.rdy.slc
      dsimp only at hv4
      rw [hv4] at r4
      have hl4 := hs.rd.len HO.out hs.pa
      have hl0 := HO.out.rlen
      have wD : wrap64 ((R.length : Int) - (Z.Rd.length : Int)) = (R.length : Int) - (Z.Rd.length : Int) := by unfold wrap64; omega
      clear hs hv4 hl4 hl0
      go_wp2_with fail
      go_ret
      exact ⟨R, vR, congrArg (fun x => Ending.returned (Value.int .i64 x)) wD, by have := HS.out; rwa [List.take_length] at this⟩
end Go.Proofs.YtknnojjfdfkdmaaGreatDoor
