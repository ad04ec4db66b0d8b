/-
  My own text: calls of writers, as a list; what they write.
-/
import Derived.Test.YthalmfbcdkihgaaDoorWM2
namespace Go.Proofs.YthalmfbcdkihgaaDoor
open Go.RowKit Go.Extern

structure Pt where
  on : Int
  kd : Int
  x : Int
  s : List UInt8
/-- A number's bits with a sign. -/
def sgn (x : Int) : Int := if x < 9223372036854775808 then x else x - 18446744073709551616
theorem sgn_rng {x : Int} (h0 : 0 ≤ x) (h1 : x < 18446744073709551616) : -9223372036854775808 ≤ sgn x ∧ sgn x ≤ 9223372036854775807 := by unfold sgn; split <;> omega
theorem sgn_wrap {x : Int} (h0 : 0 ≤ x) (h1 : x < 18446744073709551616) : wrap64 x = sgn x := by unfold sgn wrap64; split <;> omega
/-- What a call writes. -/
def encP (p : Pt) : List UInt8 := if p.kd = 0 then form p.x else if p.kd = 1 then form (foldI (sgn p.x)) else if p.kd = 2 then form (p.s.length : Int) ++ p.s else []
theorem encP_len (p : Pt) : (encP p).length ≤ 9 + p.s.length := by
  unfold encP
  split
  · have := form_le p.x; omega
  · split
    · have := form_le (foldI (sgn p.x)); omega
    · split
      · rw [List.length_append]; have := form_le (p.s.length : Int); omega
      · simp
def encAll : List Pt → List UInt8
  | [] => []
  | p :: r => encP p ++ encAll r
theorem encAll_app (a b : List Pt) : encAll (a ++ b) = encAll a ++ encAll b := by
  induction a with
  | nil => rfl
  | cons p r ih => show encP p ++ encAll (r ++ b) = encP p ++ encAll r ++ encAll b; rw [ih, List.append_assoc]
/-- How many bytes the texts have. -/
def totS : List Pt → Nat
  | [] => 0
  | p :: r => p.s.length + totS r
theorem totS_app (a b : List Pt) : totS (a ++ b) = totS a + totS b := by
  induction a with
  | nil => simp [totS]
  | cons p r ih => show p.s.length + totS (r ++ b) = p.s.length + totS r + totS b; rw [ih]; omega
theorem totS_take (a : List Pt) (k : Nat) : totS (a.take k) ≤ totS a := by
  have h := totS_app (a.take k) (a.drop k)
  rw [List.take_append_drop] at h; omega
theorem encAll_len (a : List Pt) : (encAll a).length ≤ 9 * a.length + totS a := by
  induction a with
  | nil => simp [encAll, totS]
  | cons p r ih =>
    show (encP p ++ encAll r).length ≤ 9 * (r.length + 1) + (p.s.length + totS r)
    rw [List.length_append]; have := encP_len p; omega
theorem pt_at {l : List Pt} {k : Nat} (h : k < l.length) : ∃ x, l[k]? = some x := ⟨l[k], List.getElem?_eq_getElem h⟩
theorem ptake_snoc {l : List Pt} {k : Nat} {p : Pt} (h : l[k]? = some p) : l.take (k + 1) = l.take k ++ [p] := by rw [List.take_add_one, h]; rfl
/-- A call as a value; one that is of the types' bounds. -/
def ptV (p : Pt) : Value := .agg #[.int .i64 p.on, .int .i64 p.kd, .int .u64 p.x, .string ⟨p.s.toArray⟩]
def okP (p : Pt) : Prop := 0 ≤ p.x ∧ p.x < 18446744073709551616 ∧ p.s.length ≤ 140737488355328
/-- A slice of calls. -/
def RP (w : World) (v : Value) (ps : List Pt) : Prop :=
  ∃ a cap, v = .slice a ps.length cap ∧ (ps = [] ∨ ∃ b off, a = some ⟨b, off, none⟩ ∧ b < w.heap.size ∧ ∀ j p, ps[j]? = some p →
    w.cell? ⟨b, off + j * 4, none⟩ = some (.int .i64 p.on) ∧ w.cell? ⟨b, off + j * 4 + 1, none⟩ = some (.int .i64 p.kd) ∧ w.cell? ⟨b, off + j * 4 + 2, none⟩ = some (.int .u64 p.x) ∧ w.cell? ⟨b, off + j * 4 + 3, none⟩ = some (.string ⟨p.s.toArray⟩))
theorem RP.later {w w1 : World} {v : Value} {ps : List Pt} (h : RP w v ps) (hb : Below w.heap.size w w1) : RP w1 v ps := by
  obtain ⟨a, cap, hv, h | ⟨b, off, ha, hlt, hc⟩⟩ := h
  · exact ⟨a, cap, hv, .inl h⟩
  · refine ⟨a, cap, hv, .inr ⟨b, off, ha, Nat.lt_of_lt_of_le hlt hb.size, fun j p hj => ?_⟩⟩
    obtain ⟨c0, c1, c2, c3⟩ := hc j p hj
    exact ⟨(hb.cell hlt).trans c0, (hb.cell hlt).trans c1, (hb.cell hlt).trans c2, (hb.cell hlt).trans c3⟩

set_option maxRecDepth 100000 in
set_option maxHeartbeats 1000000 in
theorem lay_any (p : Pt) (B q : Nat) (v : Value) (l : List UInt8) (w : World) (hp : okP p) (hw : Wr w B q v l) (hl : l.length + p.s.length ≤ 140737488355200) :
    Calls Tryd.prog 42 #[.pointer (some ⟨q, 0, none⟩), ptV p] w fun e w' => e = .returned (.tuple #[]) ∧ ∃ v', Wr w' B q v' (l ++ encP p) ∧ Moved w w' q v v' := by
  obtain ⟨x0, x1, _⟩ := hp
  obtain ⟨on, kd, x, s⟩ := p
  unfold ptV
  simp only [] at x0 x1 hl ⊢
  obtain ⟨o, ho⟩ : ∃ o, Hid (Obj.cells #[.int .i64 on, .int .i64 kd, .int .u64 x, .string ⟨s.toArray⟩] 54 = o) := ⟨_, hide rfl⟩
  have hb : Below w.heap.size w (w.alloc (.cells #[.int .i64 on, .int .i64 kd, .int .u64 x, .string ⟨s.toArray⟩] 54)) := (Below.refl _ _).alloc (Nat.le_refl _) _
  have HW := hide (hw.later hb)
  have HMV : Hid (∀ w' v', Moved (w.alloc (.cells #[.int .i64 on, .int .i64 kd, .int .u64 x, .string ⟨s.toArray⟩] 54)) w' q v v' → Moved w w' q v v') := hide fun w' v' h => (((Moved.refl w q v).below hb).trans h)
  clear hw hb ho
  by_cases k0 : kd = 0
  · subst k0
    have HE : Hid (encP ⟨on, 0, x, s⟩ = form x) := hide (by unfold encP; rw [if_pos rfl])
    rw [HE.out]
    have HU := hide (writeUint_any x B q v l _ x0 x1 HW.out (by omega))
    go_enter Tryd.func42, Tryd.ntmps42
    go_wp2_with fail
    refine HU.out.mono ?_
    rintro en w2 ⟨rfl, v2, hw2, hm2⟩
    have HH := hide (And.intro hw2 (HMV.out _ _ hm2))
    clear hw2 hm2
    go_wp2_with fail
    go_end0
    exact ⟨rfl, v2, HH.out⟩
  have d0 : (kd == 0) = false := by simpa using k0
  by_cases k1 : kd = 1
  · subst k1
    have HE : Hid (encP ⟨on, 1, x, s⟩ = form (foldI (sgn x))) := hide (by unfold encP; rw [if_neg (by simp), if_pos rfl])
    rw [HE.out]
    obtain ⟨g0, g1⟩ := sgn_rng x0 x1
    have HS := hide (sgn_wrap x0 x1)
    have HU := hide (writeInt_any (sgn x) B q v l _ g0 g1 HW.out (by omega))
    rw [← HS.out] at HU
    go_enter Tryd.func42, Tryd.ntmps42
    go_wp2_with fail
    refine HU.out.mono ?_
    rintro en w2 ⟨rfl, v2, hw2, hm2⟩
    rw [HS.out] at hw2
    have HH := hide (And.intro hw2 (HMV.out _ _ hm2))
    clear hw2 hm2
    go_wp2_with fail
    go_end0
    exact ⟨rfl, v2, HH.out⟩
  have d1 : (kd == 1) = false := by simpa using k1
  by_cases k2 : kd = 2
  · subst k2
    have HE : Hid (encP ⟨on, 2, x, s⟩ = form (s.length : Int) ++ s) := hide (by unfold encP; rw [if_neg (by simp), if_neg (by simp), if_pos rfl])
    rw [HE.out]
    have HU := hide (writeText_any s B q v l _ HW.out (by omega))
    go_enter Tryd.func42, Tryd.ntmps42
    go_wp2_with fail
    refine HU.out.mono ?_
    rintro en w2 ⟨rfl, v2, hw2, hm2⟩
    have HH := hide (And.intro hw2 (HMV.out _ _ hm2))
    clear hw2 hm2
    go_wp2_with fail
    go_end0
    exact ⟨rfl, v2, HH.out⟩
  have d2 : (kd == 2) = false := by simpa using k2
  have HE : Hid (encP ⟨on, kd, x, s⟩ = []) := hide (by unfold encP; rw [if_neg k0, if_neg k1, if_neg k2])
  rw [HE.out, List.append_nil]
  clear k0 k1 k2
  go_enter Tryd.func42, Tryd.ntmps42
  go_wp2_with fail
  go_end0
  exact ⟨rfl, v, HW.out, HMV.out _ _ (Moved.refl _ _ _)⟩

def VastB (ps : List Pt) (e : Ending) : Prop := ∃ b, e = .returned (.bool b) ∧ (b = false → totS ps ≤ 16777216)
set_option maxRecDepth 100000 in
set_option maxHeartbeats 1000000 in
theorem vast_any (v : Value) (ps : List Pt) (w : World) (hv : RP w v ps) (hok : ∀ p ∈ ps, okP p) (hn : ps.length ≤ 140737488355328) :
    Calls Tryd.prog 40 #[v] w fun e w' => VastB ps e ∧ w' = w := by
  obtain ⟨a, cap, rfl, hr⟩ := hv
  go_enter Tryd.func40, Tryd.ntmps40
  go_wp2_with fail
  go_loop [3, 4] (fun z i => ∃ k : Nat, k ≤ ps.length ∧ i = .int .i64 k ∧ z = .int .i64 (totS (ps.take k) : Int)) (fun _ i => ps.length - (intOf i).toNat)
  case atStart => exact ⟨0, Nat.zero_le _, rfl, rfl⟩
  case round =>
    obtain ⟨k, hk, rfl, rfl⟩ := hrel
    obtain ⟨T, hT⟩ : ∃ T, Hid (totS (ps.take k) = T) := ⟨_, hide rfl⟩
    rw [hT.out]
    have HFIN : Hid (T ≤ 16777216 → k = ps.length → totS ps ≤ 16777216) := hide fun h1 h2 => by rw [← hT.out, h2, List.take_length] at h1; exact h1
    by_cases hlt : k < ps.length
    · have dk : decide ((k : Int) < (ps.length : Int)) = true := by rw [decide_eq_true_eq]; omega
      by_cases hbig : T ≤ 16777216
      · have db : decide ((T : Int) ≤ 16777216) = true := by rw [decide_eq_true_eq]; omega
        obtain ⟨p, hp⟩ := pt_at hlt
        rcases hr with h0 | ⟨b, off, rfl, hbl, hc⟩
        · rw [h0] at hlt; simp at hlt
        obtain ⟨_, _, _, c3⟩ := hc k p hp
        have hps := (hok p (List.mem_of_getElem? hp)).2.2
        have hsz := bytes_size' p.s
        have HTS : Hid (totS (ps.take (k + 1)) = T + p.s.length) := hide (by rw [ptake_snoc hp, totS_app, hT.out]; simp [totS])
        clear hc hp
        go_wp2_with fail
        go_round
        case rel => exact ⟨k + 1, by omega, by go_num, by rw [HTS.out]; go_num⟩
        case measure => simp [intOf]; omega
      · have db : decide ((T : Int) ≤ 16777216) = false := by rw [decide_eq_false_iff_not]; omega
        clear hr
        go_wp2_with fail
        go_ret
        exact ⟨⟨_, rfl, fun h => by simp at h; omega⟩, rfl⟩
    · have dk : decide ((k : Int) < (ps.length : Int)) = false := by rw [decide_eq_false_iff_not]; omega
      have hkk : k = ps.length := by omega
      clear hr
      go_wp2_with fail
      go_ret
      exact ⟨⟨_, rfl, fun h => HFIN.out (by simp at h; omega) hkk⟩, rfl⟩
end Go.Proofs.YthalmfbcdkihgaaDoor
