/-
  My own text: QE1, GKL, QE2, QE3 in one.
-/
import Derived.Test.YtknnojjfdfkdmaaGreatDoorQD5
import Derived.Test.YtknnojjfdfkdmaaGreatDoorGKR
namespace Go.Proofs.YtknnojjfdfkdmaaGreatDoor
open Go.RowKit Go.Extern Go.MapKept Go.ChangeMaps

/-- An entry of the program's and one of the document's. -/
structure RlD (e : Et) (p : De) : Prop where
  id : e.id = p.id
  ks : ∀ k, k ∈ e.keys ↔ k ∈ p.ks
  st : e.st = p.is
  tc : e.tch = p.tc
structure RelD (Z : Qx) (E : List De) : Prop where
  len : Z.A.length = E.length
  at' : ∀ (j x : Nat) (p : De), Z.A[j]? = some x → E[j]? = some p → RlD (Z.T x) p
theorem RelD.get {Z : Qx} {E : List De} (h : RelD Z E) {j x : Nat} (hx : Z.A[j]? = some x) : ∃ p, E[j]? = some p ∧ RlD (Z.T x) p := by
  have hl := (List.getElem?_eq_some_iff.1 hx).1
  have hl2 : j < E.length := by rw [← h.len]; exact hl
  exact ⟨E[j], List.getElem?_eq_getElem hl2, h.at' j x _ hx (List.getElem?_eq_getElem hl2)⟩
theorem RelD.got {Z : Qx} {E : List De} (h : RelD Z E) {j : Nat} {p : De} (hp : E[j]? = some p) : ∃ x, Z.A[j]? = some x ∧ RlD (Z.T x) p := by
  have hl := (List.getElem?_eq_some_iff.1 hp).1
  have hl2 : j < Z.A.length := by rw [h.len]; exact hl
  exact ⟨Z.A[j], List.getElem?_eq_getElem hl2, h.at' j _ p (List.getElem?_eq_getElem hl2) hp⟩
theorem RelD.has {Z : Qx} {E : List De} (h : RelD Z E) (id : Int) : (∃ x ∈ Z.A, (Z.T x).id = id) ↔ ∃ p ∈ E, p.id = id := by
  constructor
  · rintro ⟨x, hx, hi⟩
    obtain ⟨j, hj⟩ := List.getElem?_of_mem hx
    obtain ⟨p, hp, hr⟩ := h.get hj
    exact ⟨p, List.mem_of_getElem? hp, by rw [← hr.id, hi]⟩
  · rintro ⟨p, hp, hi⟩
    obtain ⟨j, hj⟩ := List.getElem?_of_mem hp
    obtain ⟨x, hx, hr⟩ := h.got hj
    exact ⟨x, List.mem_of_getElem? hx, by rw [hr.id, hi]⟩
theorem nodup_at {A : List Nat} (hn : A.Nodup) {i j x : Nat} (hi : A[i]? = some x) (hj : A[j]? = some x) : i = j := by
  have hi' := List.getElem?_eq_some_iff.1 hi
  have hj' := List.getElem?_eq_some_iff.1 hj
  rcases Nat.lt_trichotomy i j with h | h | h
  · have := List.pairwise_iff_getElem.1 hn i j hi'.1 hj'.1 h
    rw [hi'.2, hj'.2] at this; exact absurd rfl this
  · exact h
  · have := List.pairwise_iff_getElem.1 hn j i hj'.1 hi'.1 h
    rw [hi'.2, hj'.2] at this; exact absurd rfl this
/-- An id stands at one place. -/
theorem RelD.place {Z : Qx} {E : List De} (hO : Ok Z) (h : RelD Z E) {x j : Nat} {p : De} (hx : x ∈ Z.A) (hp : E[j]? = some p) (hi : (Z.T x).id = p.id) : Z.A[j]? = some x ∧ RlD (Z.T x) p := by
  obtain ⟨y, hy, hr⟩ := h.got hp
  have : y = x := hO.one (List.mem_of_getElem? hy) hx (by rw [hr.id, hi])
  subst this
  exact ⟨hy, hr⟩
theorem RelD.put {Z Z' : Qx} {E : List De} {x : Nat} {p : De} (h : RelD Z E) (hA : Z'.A = Z.A ++ [x]) (hT : ∀ y ∈ Z.A, Z'.T y = Z.T y) (hp : RlD (Z'.T x) p) : RelD Z' (E ++ [p]) := by
  refine ⟨by rw [hA]; simp [h.len], fun j y r hy hr => ?_⟩
  rw [hA] at hy
  have hl := (List.getElem?_eq_some_iff.1 hr).1
  by_cases hj : j < E.length
  · rw [List.getElem?_append_left (by rw [h.len]; exact hj)] at hy
    rw [List.getElem?_append_left hj] at hr
    rw [hT y (List.mem_of_getElem? hy)]
    exact h.at' j y r hy hr
  · have e : j = E.length := by simp at hl; omega
    rw [e, ← h.len] at hy
    rw [e] at hr
    simp at hy hr
    subst hy hr
    exact hp
theorem meetsB_left {a b K : List Ky} (h : ∀ k, k ∈ a ↔ k ∈ b) : meetsB a K = meetsB b K := by
  rw [Bool.eq_iff_iff, meetsB_iff, meetsB_iff]
  exact ⟨fun ⟨k, h1, h2⟩ => ⟨k, (h k).1 h1, h2⟩, fun ⟨k, h1, h2⟩ => ⟨k, (h k).2 h1, h2⟩⟩
theorem RelD.touch {Z Z' : Qx} {E : List De} {K : List Ky} (h : RelD Z E) (hA : Z'.A = Z.A) (hT : ∀ y ∈ Z.A, Z'.T y = if meetsB (Z.T y).keys K = true then tcE (Z.T y) else Z.T y) : RelD Z' (E.map (tcD K)) := by
  refine ⟨by rw [hA]; simp [h.len], fun j y r hy hr => ?_⟩
  rw [hA] at hy
  rw [List.getElem?_map] at hr
  obtain ⟨p, hp, rfl⟩ := Option.map_eq_some_iff.1 hr
  have h2 := h.at' j y p hy hp
  rw [hT y (List.mem_of_getElem? hy), meetsB_left h2.ks]
  unfold tcD
  by_cases hm : meetsB p.ks K = true
  · rw [if_pos hm, if_pos hm]
    have hc := tcE_came (Z.T y)
    unfold tcE at hc ⊢
    by_cases h0 : p.is = 0
    · rw [if_pos (h2.st.trans h0)] at hc ⊢
      rw [if_pos h0]
      exact ⟨h2.id, h2.ks, rfl, h2.tc⟩
    · rw [if_neg (by rw [h2.st]; exact h0)] at hc ⊢
      rw [if_neg h0]
      by_cases h3 : p.is = 2
      · rw [if_pos (h2.st.trans h3)] at hc ⊢
        rw [if_pos h3]
        exact ⟨h2.id, h2.ks, h2.st, rfl⟩
      · rw [if_neg (by rw [h2.st]; exact h3)] at hc ⊢
        rw [if_neg h3]
        exact h2
  · rw [if_neg hm, if_neg hm]; exact h2
theorem RelD.upd {Z Z' : Qx} {E : List De} {x j : Nat} {p' : De} {e' : Et} (hO : Ok Z) (h : RelD Z E) (hA : Z'.A = Z.A) (hT : Z'.T = fun y => if y = x then e' else Z.T y) (hj : Z.A[j]? = some x) (hp : RlD e' p') : RelD Z' (E.set j p') := by
  refine ⟨by rw [hA]; simp [h.len], fun i y r hy hr => ?_⟩
  rw [hA] at hy
  by_cases e : i = j
  · subst e
    have hl : i < E.length := by rw [← h.len]; exact (List.getElem?_eq_some_iff.1 hj).1
    rw [hj] at hy
    obtain rfl := Option.some.inj hy
    rw [List.getElem?_set_self hl] at hr
    obtain rfl := Option.some.inj hr
    rw [hT]; dsimp only; rw [if_pos rfl]; exact hp
  · rw [List.getElem?_set_ne (fun q => e q.symm)] at hr
    have hne : y ≠ x := fun q => by
      subst q
      exact e (nodup_at (sr_nodup hO.o.sa) hy hj)
    rw [hT]; dsimp only; rw [if_neg hne]
    exact h.at' i y r hy hr
theorem filter_neD : ∀ {A : List Nat} {j x : Nat}, A.Nodup → A[j]? = some x → A.filter (fun y => decide (y ≠ x)) = A.eraseIdx j
  | y :: t, 0, x, hn, h => by
    obtain rfl : y = x := Option.some.inj h
    obtain ⟨h1, _⟩ := List.nodup_cons.1 hn
    rw [List.filter_cons_of_neg (by simp), List.eraseIdx_cons_zero]
    exact List.filter_eq_self.2 (fun z hz => by simp; intro e; exact h1 (by rw [← e]; exact hz))
  | y :: t, j + 1, x, hn, h => by
    obtain ⟨h1, h2⟩ := List.nodup_cons.1 hn
    have hm : x ∈ t := List.mem_of_getElem? (by simpa using h : t[j]? = some x)
    rw [List.filter_cons_of_pos (by simp; intro e; exact h1 (by rw [e]; exact hm)), List.eraseIdx_cons_succ, filter_neD h2 (by simpa using h)]
theorem RelD.rem {Z Z' : Qx} {E : List De} {x j : Nat} (hO : Ok Z) (h : RelD Z E) (hA : Z'.A = Z.A.filter (fun y => decide (y ≠ x))) (hT : Z'.T = Z.T) (hj : Z.A[j]? = some x) : RelD Z' (E.eraseIdx j) := by
  have hA2 := hA
  rw [filter_neD (sr_nodup hO.o.sa) hj] at hA2
  refine ⟨by rw [hA2, List.length_eraseIdx, List.length_eraseIdx, h.len], fun i y r hy hr => ?_⟩
  rw [hA2, List.getElem?_eraseIdx] at hy
  rw [List.getElem?_eraseIdx] at hr
  rw [hT]
  split at hy
  · rename_i hlt
    rw [if_pos hlt] at hr
    exact h.at' i y r hy hr
  · rename_i hlt
    rw [if_neg hlt] at hr
    exact h.at' (i + 1) y r hy hr
theorem RelD.filter {Z : Qx} (P : Et → Bool) (Q : De → Bool) (hPQ : ∀ e p, RlD e p → P e = Q p) {f : Et → Int} {g : De → Int} (hfg : ∀ e p, RlD e p → f e = g p) : ∀ {A : List Nat} {E : List De}, A.length = E.length → (∀ (j x : Nat) (p : De), A[j]? = some x → E[j]? = some p → RlD (Z.T x) p) → (A.filter (fun x => P (Z.T x))).map (fun x => f (Z.T x)) = (E.filter Q).map g
  | [], [], _, _ => rfl
  | [], p :: E, h, _ => by simp at h
  | x :: A, [], h, _ => by simp at h
  | x :: A, p :: E, h, ha => by
    have h1 := ha 0 x p rfl rfl
    have h2 := RelD.filter P Q hPQ hfg (A := A) (E := E) (by simpa using h) (fun j y r hy hr => ha (j + 1) y r (by simpa using hy) (by simpa using hr))
    have e := hPQ _ _ h1
    cases hk : Q p with
    | true => rw [List.filter_cons_of_pos (by rw [e, hk]), List.filter_cons_of_pos hk, List.map_cons, List.map_cons, hfg _ _ h1, h2]
    | false => rw [List.filter_cons_of_neg (by rw [e, hk]; decide), List.filter_cons_of_neg (by rw [hk]; decide), h2]
theorem idD_all (P : De → Bool) (E : List De) : idD P E E.length = (E.filter P).map (·.id) := by unfold idD; rw [List.take_length]
theorem RelD.items {Z : Qx} {E : List De} (h : RelD Z E) : (Z.A.map fun x => (Z.T x).id) = idD (fun _ => true) E E.length := by
  have := RelD.filter (Z := Z) (fun _ => true) (fun _ => true) (fun _ _ _ => rfl) (f := (·.id)) (g := (·.id)) (fun _ _ hr => hr.id) h.len h.at'
  rw [idD_all, ← this]
  congr 1
  exact (List.filter_eq_self.2 (fun _ _ => rfl)).symm
theorem RelD.idles {Z : Qx} {E : List De} (h : RelD Z E) : ((Z.A.filter fun x => (Z.T x).st == 0).map fun x => (Z.T x).id) = idD (fun e => e.is == 0) E E.length := by
  rw [idD_all]
  exact RelD.filter (Z := Z) (fun e => e.st == 0) (fun e => e.is == 0) (fun _ _ hr => by rw [hr.st]) (f := (·.id)) (g := (·.id)) (fun _ _ hr => hr.id) h.len h.at'
theorem RelD.rdn {Z : Qx} {E : List De} (hO : Ok Z) (h : RelD Z E) : Z.Rd.length = (E.filter (fun e => e.is == 1)).length := by
  have := RelD.filter (Z := Z) (fun e => e.st == 1) (fun e => e.is == 1) (fun _ _ hr => by rw [hr.st]) (f := (·.id)) (g := (·.id)) (fun _ _ hr => hr.id) h.len h.at'
  have h2 := congrArg List.length this
  rw [List.length_map, List.length_map] at h2
  rw [hO.rdL]; exact h2
theorem touch_cnt (K : List Ky) : ∀ (E : List De), ((E.map (tcD K)).filter (fun e => e.is == 1)).length = (E.filter (fun e => e.is == 1)).length + (E.filter (fun e => meetsB e.ks K && e.is == 0)).length
  | [] => rfl
  | p :: E => by
    have ih := touch_cnt K E
    rw [List.map_cons, List.filter_cons, List.filter_cons, List.filter_cons]
    unfold tcD
    by_cases hm : meetsB p.ks K = true
    · rw [if_pos hm, hm]
      by_cases h0 : p.is = 0
      · rw [if_pos h0]; simp [h0]; unfold tcD at ih; omega
      · rw [if_neg h0]
        by_cases h2 : p.is = 2
        · rw [if_pos h2]; simp [h2]; unfold tcD at ih; omega
        · rw [if_neg h2]
          by_cases h1 : p.is = 1
          · simp [h1]; unfold tcD at ih; omega
          · simp [h0, h1]; unfold tcD at ih; omega
    · rw [if_neg hm]
      have hm' : meetsB p.ks K = false := by simpa using hm
      rw [hm']
      by_cases h1 : p.is = 1
      · simp [h1]; unfold tcD at ih; omega
      · simp [h1]; unfold tcD at ih; omega
theorem ctD_all (K : List Ky) (E : List De) : ctD K E E.length = (E.filter (fun e => meetsB e.ks K && e.is == 0)).length := by unfold ctD; rw [List.take_length]
theorem RelD.touched {Z Z' : Qx} {E : List De} {K : List Ky} (hO : Ok Z) (hO' : Ok Z') (h : RelD Z E) (h' : RelD Z' (E.map (tcD K))) : (Z'.Rd.length : Int) - (Z.Rd.length : Int) = (ctD K E E.length : Int) := by
  rw [h.rdn hO, h'.rdn hO', touch_cnt, ctD_all]; omega
theorem filter_firstD {P : Nat → Bool} : ∀ {A : List Nat} {k x : Nat}, A[k]? = some x → P x = true → (∀ j y, j < k → A[j]? = some y → P y = false) → ∃ t, A.filter P = x :: t
  | [], k, x, h, _, _ => by simp at h
  | y :: A, 0, x, h, hP, _ => by
    obtain rfl : y = x := Option.some.inj h
    exact ⟨_, List.filter_cons_of_pos hP⟩
  | y :: A, k + 1, x, h, hP, hn => by
    have h0 := hn 0 y (by omega) rfl
    rw [List.filter_cons_of_neg (by rw [h0]; decide)]
    exact filter_firstD (k := k) (by simpa using h) hP (fun j z hj hz => hn (j + 1) z (by omega) (by simpa using hz))
theorem RelD.rd1 {Z : Qx} {E : List De} (hO : Ok Z) (h : RelD Z E) {k : Nat} {p : De} (hp : E[k]? = some p) (hr : p.is = 1) (hn : ∀ j q, j < k → E[j]? = some q → q.is ≠ 1) : ∃ x t, Z.Rd = x :: t ∧ Z.A[k]? = some x ∧ RlD (Z.T x) p := by
  obtain ⟨x, hx, hR⟩ := h.got hp
  obtain ⟨t, ht⟩ := filter_firstD (P := fun y => (Z.T y).st == 1) hx (by show ((Z.T x).st == 1) = true; rw [hR.st, hr]; rfl) (fun j y hj hy => by
    obtain ⟨p', hp', hR'⟩ := h.get hy
    show ((Z.T y).st == 1) = false
    rw [hR'.st]; simpa using hn j p' hj hp')
  exact ⟨x, t, by rw [hO.rdL]; exact ht, hx, hR⟩
theorem RelD.rd0 {Z : Qx} {E : List De} (hO : Ok Z) (h : RelD Z E) (hn : ∀ p ∈ E, p.is ≠ 1) : Z.Rd = [] := by
  refine List.eq_nil_of_length_eq_zero ((h.rdn hO).trans ?_)
  rw [List.length_eq_zero_iff, List.filter_eq_nil_iff]
  intro p hp
  simpa using hn p hp
end Go.Proofs.YtknnojjfdfkdmaaGreatDoor
namespace Go.Proofs.YtknnojjfdfkdmaaGreatDoor.KY
open Go.RowKit

/-- The number of a mark behind. -/
def mk5 (i : Int) : Int := i
theorem mark90_any (i : Int) (w : World) :
    Calls Tryz.prog 77 #[.int .i64 90, .int .i64 i] w fun e w' => e = .returned (.agg #[.int .i64 (-100), .int .i64 (mk5 i)]) ∧ Below w.heap.size w w' :=
  markM_any 90 i w (by omega) (by omega)
def mkM (i : Int) : El := (-100, mk5 i)
def marksM : List El := (List.range 16).map fun i : Nat => mkM (i : Int)
theorem marksM_len : marksM.length = 16 := by simp [marksM]
theorem marksM_at {j : Nat} (h : j < 16) : marksM[j]? = some (mkM (j : Int)) := by
  unfold marksM; rw [List.getElem?_map, List.getElem?_range h]; rfl
set_option maxRecDepth 100000 in
set_option maxHeartbeats 2000000 in
theorem fullMarks_any (v : Value) (l : List El) (w : World) (hv : RM w v l) (hl : l.length ≤ 8796093022000) :
    Calls Tryz.prog 58 #[v] w fun e w' => ∃ v', e = .returned v' ∧ w'.ownsRow w.heap.size 23 2 v' (l.length + 16) (mc (l ++ marksM)) ∧ Below w.heap.size w w' := by
  obtain ⟨a, cap, rfl, _, hr⟩ := hv
  obtain ⟨i0, hi, hz0, hz1, hz2⟩ := info_parts Tryz.infoMk
  go_enter Tryz.func58, Tryz.ntmps58
  go_wp2_with fail
  go_loopw [3, 4] (fun o i wr => ∃ k : Nat, k ≤ l.length ∧ i = .int .i64 k ∧ wr.ownsRow w.heap.size 23 2 o k (mc (l.take k)) ∧ Below w.heap.size w wr) (fun _ i _ => l.length - (intOf i).toNat)
  case atStart => exact ⟨0, Nat.zero_le _, rfl, World.ownsRow_nil w w.heap.size 23 2, Below.refl _ _⟩
  case round =>
    obtain ⟨k, hk, rfl, hown, hB⟩ := hrel
    by_cases hlt : k < l.length
    · obtain ⟨⟨q0, q1⟩, hx⟩ : ∃ p, l[k]? = some p := ⟨_, List.getElem?_eq_getElem hlt⟩
      rcases hr with h0 | ⟨b, off, rfl, hbl, hc⟩
      · rw [h0] at hlt; simp at hlt
      have c0 : wr.cell? ⟨b, off + k * 2, none⟩ = some (.int .i64 q0) := (hB.cell (p := ⟨b, _, none⟩) hbl).trans (hc k _ hx).1
      have c1 : wr.cell? ⟨b, off + k * 2 + 1, none⟩ = some (.int .i64 q1) := (hB.cell (p := ⟨b, _, none⟩) hbl).trans (hc k _ hx).2
      have c0' : wr.cell? ⟨b, off + (k * 2), none⟩ = some (.int .i64 q0) := c0
      have c1' : wr.cell? ⟨b, off + (k * 2 + 1), none⟩ = some (.int .i64 q1) := c1
      have HT := hide (mc_take hx)
      clear hc hx
      go_wp2_with (first
        | (at_builtin; refine wpList_append_own_wide _ rfl _ _ 24 rfl w.heap.size 23 i0 (.agg #[.int .i64 0, .int .i64 0]) 2 16 Tryz.underlying24 hi hz0 hz1 hz2 rfl (by decide) _ _ _ rfl (hown.alloc _) ⟨_, 0, none⟩ 1 1 [.int .i64 q0, .int .i64 q1] rfl rfl ?c1 ?c2 ?c3 ?c4 ?c5 ?_)
        | go_in)
      case c2 => exact ⟨rfl, rfl⟩
      case c3 => unfold maxLen; omega
      case c4 => omega
      case c5 => have := hB.size; simp; omega
      intro v' w1 hown' hgrow _
      have hB1 : Below w.heap.size w w1 := (hB.alloc hB.size _).grown hgrow (by have := hB.size; simp; omega) (fun k hk => (hown.lt k hk).1)
      clear hown hgrow
      go_wp2_with fail
      go_roundw
      case rel => exact ⟨k + 1, by omega, by go_num, by rw [HT.out]; exact hown', hB1⟩
      case measure => simp [intOf]; omega
    · have hk' : k = l.length := by omega
      subst hk'
      rw [List.take_length] at hown
      clear hr
      go_wp2_with fail
      go_loopw [3, 5] (fun o i wr => ∃ k : Nat, k ≤ 16 ∧ i = .int .i64 k ∧ wr.ownsRow w.heap.size 23 2 o (l.length + k) (mc (l ++ marksM.take k)) ∧ Below w.heap.size w wr) (fun _ i _ => 16 - (intOf i).toNat)
      case atStart => exact ⟨0, Nat.zero_le _, rfl, by rw [List.take_zero, List.append_nil]; exact hown, hB⟩
      case round =>
        clear hown hB
        obtain ⟨k, hk, rfl, hown, hB⟩ := hrel
        by_cases hlt : k < 16
        · have HT : Hid (mc (l ++ marksM.take (k + 1)) = mc (l ++ marksM.take k) ++ [.int .i64 (-100), .int .i64 (mk5 (k : Int))]) := by
            show _ = _
            rw [mc_app, mc_take (marksM_at hlt), ← List.append_assoc, ← mc_app]; rfl
          have HMK := hide (fun W : World => mark90_any (k : Int) W)
          generalize mk5 (k : Int) = m at *
          go_wp2_with fail
          refine (HMK.out _).mono ?_
          rintro e w1 ⟨rfl, hb1⟩
          have hown1 : w1.ownsRow w.heap.size 23 2 u3 (l.length + k) (mc (l ++ marksM.take k)) := owns_lat hown hb1
          have hB1 := hB.trans (hb1.mono hB.size)
          clear hown hB hb1
          go_wp2_with (first
            | (at_builtin; refine wpList_append_own_wide _ rfl _ _ 24 rfl w.heap.size 23 i0 (.agg #[.int .i64 0, .int .i64 0]) 2 16 Tryz.underlying24 hi hz0 hz1 hz2 rfl (by decide) _ _ _ rfl (hown1.alloc _) ⟨_, 0, none⟩ 1 1 [.int .i64 (-100), .int .i64 m] rfl rfl ?d1 ?d2 ?d3 ?d4 ?d5 ?_)
            | go_in)
          case d1 =>
            intro j u hj
            match j, hj with
            | 0, hj => simp at hj; subst hj; simp [Addr.add]
            | 1, hj => simp at hj; subst hj; simp [Addr.add]
          case d2 => intro u hu; simp at hu; first | (rcases hu with rfl | rfl <;> rfl) | (rcases hu with rfl | rfl <;> rfl)
          case d3 => unfold maxLen; omega
          case d4 => omega
          case d5 => have := hB1.size; simp; omega
          intro v' w2 hown' hgrow _
          have hB2 : Below w.heap.size w w2 := (hB1.alloc hB1.size _).grown hgrow (by have := hB1.size; simp; omega) (fun k hk => (hown1.lt k hk).1)
          clear hown1 hgrow
          go_wp2_with fail
          go_roundw
          case rel => exact ⟨k + 1, by omega, by go_num, by rw [HT.out, ← Nat.add_assoc]; exact hown', hB2⟩
          case measure => simp [intOf]; omega
        · have hk' : k = 16 := by omega
          subst hk'
          rw [List.take_of_length_le (by rw [marksM_len]; omega)] at hown
          go_wp2_with fail
          go_ret
          exact ⟨_, rfl, hown, hB⟩

/-- A list of links that was lent, in block g, from B on. -/
structure LentM (w : World) (B g cap : Nat) (l : List El) : Prop where
  base : B ≤ g
  own : w.ownsRow B 23 2 (.slice (some ⟨g, 0, none⟩) (l.length + 16) cap) (l.length + 16) (mc (l ++ marksM))
theorem LentM.later {w w' : World} {B g cap : Nat} {l : List El} (h : LentM w B g cap l) (hb : Below w.heap.size w w') : LentM w' B g cap l := ⟨h.base, owns_lat h.own hb⟩
theorem LentM.parts {w : World} {B g cap : Nat} {l : List El} (h : LentM w B g cap l) : g < w.heap.size ∧ l.length + 16 ≤ cap ∧ (∀ (j : Nat) (p : El), (l ++ marksM)[j]? = some p → w.cell? ⟨g, j * 2, none⟩ = some (.int .i64 p.1) ∧ w.cell? ⟨g, j * 2 + 1, none⟩ = some (.int .i64 p.2)) := by
  have h' := h.own
  rcases h'.2 with ⟨h0, _⟩ | ⟨g', cap', cur, hv, hb, hh, hn2, _⟩
  · cases h0
  · cases hv
    refine ⟨(Array.getElem?_eq_some_iff.1 hh).1, hn2, fun j p hj => ?_⟩
    have hjl : j < l.length + 16 := by have := (List.getElem?_eq_some_iff.1 hj).1; rw [List.length_append, marksM_len] at this; exact this
    have e := mc_at hj
    exact ⟨(h'.cellAt (j * 2) (by omega)).trans e.1, (h'.cellAt (j * 2 + 1) (by omega)).trans e.2⟩
theorem LentM.rm {w : World} {B g cap : Nat} {l : List El} (h : LentM w B g cap l) : RM w (.slice (some ⟨g, 0, none⟩) l.length cap) l := by
  obtain ⟨h1, h2, h3⟩ := h.parts
  refine ⟨_, _, rfl, by omega, .inr ⟨g, 0, rfl, h1, fun j p hj => ?_⟩⟩
  have := h3 j p (by rw [List.getElem?_append_left (List.getElem?_eq_some_iff.1 hj).1]; exact hj)
  rw [Nat.zero_add]; exact this
set_option maxRecDepth 100000 in
set_option maxHeartbeats 1000000 in
theorem lentMarks_any (v : Value) (l : List El) (w : World) (hv : RM w v l) (hl : l.length ≤ 8796093022000) :
    Calls Tryz.prog 36 #[v] w fun e w' => ∃ g cap, e = .returned (.slice (some ⟨g, 0, none⟩) l.length cap) ∧ LentM w' w.heap.size g cap l ∧ Below w.heap.size w w' := by
  have HF := hide (fullMarks_any v l w hv hl)
  obtain ⟨a, cap0, rfl, _, _⟩ := hv
  go_enter Tryz.func36, Tryz.ntmps36
  go_wp2_with fail
  refine HF.out.mono ?_
  rintro e w1 ⟨v', rfl, hown, hb1⟩
  obtain ⟨g, cap, hv, hgb, hglt⟩ := World.ownsRow.form hown (by omega)
  subst hv
  have HL : Hid (LentM w1 w.heap.size g cap l) := hide ⟨hgb, hown⟩
  obtain ⟨_, hcap, _⟩ := HL.out.parts
  have hne : ¬ cap = l.length := by omega
  have hle : (l.length : Int) ≤ (cap : Int) := by omega
  have HB := hide hb1
  clear hown hb1
  go_wp2_with fail
  go_ret
  exact ⟨g, cap, rfl, HL.out, HB.out⟩
set_option maxRecDepth 100000 in
set_option maxHeartbeats 4000000 in
theorem keptFullMarks_any (v : Value) (l : List El) (B g cap : Nat) (w : World) (hv : RM w v l) (hk : LentM w B g cap l) (hl : l.length ≤ 8796093022000) :
    Calls Tryz.prog 63 #[.slice (some ⟨g, 0, none⟩) (l.length + 16) cap, v] w fun e w' => e = .returned (.bool true) ∧ Below w.heap.size w w' := by
  have HK := hide hk
  obtain ⟨hglt, hgcap, hcells⟩ := hk.parts
  have HC := hide hcells
  have HG := hide hglt
  obtain ⟨a, cap0, rfl, _, hr⟩ := hv
  have HR := hide hr
  have hneq := run_neq_mk
  clear hk hcells hglt hr
  go_enter Tryz.func63, Tryz.ntmps63
  go_wp2_with fail
  go_loopw [5] (fun i wr => ∃ k : Nat, k ≤ l.length + 16 ∧ i = .int .i64 k ∧ Hid (Below w.heap.size w wr)) (fun i _ => l.length + 16 - (intOf i).toNat)
  case atStart => exact ⟨0, Nat.zero_le _, rfl, hide (Below.refl _ _)⟩
  case round =>
    obtain ⟨k, hk, rfl, HB⟩ := hrel
    have HMK := hide (fun W : World => mark90_any ((k : Int) - (l.length : Int)) W)
    by_cases hlt : k < l.length
    · obtain ⟨⟨q0, q1⟩, hp⟩ : ∃ p, l[k]? = some p := ⟨_, List.getElem?_eq_getElem hlt⟩
      obtain ⟨b, off, ha, hbl, hc⟩ := HR.out.resolve_left (fun h => by rw [h] at hlt; simp at hlt)
      have HP1 := hide (hc k _ hp)
      have HP2 := hide (HC.out k _ (by rw [List.getElem?_append_left hlt]; exact hp))
      have HBL := hide hbl
      subst ha
      clear hc hp hbl
      generalize mk5 ((k : Int) - (l.length : Int)) = m at *
      go_wp2_with fail
      refine (HMK.out _).mono ?_
      rintro e w1 ⟨rfl, hb1⟩
      have B1 := hide (HB.out.trans (hb1.mono HB.out.size))
      clear hb1
      have BA := hide (B1.out.alloc B1.out.size (.cells #[.int .i64 (-100), .int .i64 m] 23))
      have BC := hide (B1.out.alloc B1.out.size (.cells #[.int .i64 q0, .int .i64 q1] 23))
      have c0 := (BA.out.cell (p := ⟨b, off + k * 2, none⟩) HBL.out).trans HP1.out.1
      have c1 := (BA.out.cell (p := ⟨b, off + k * 2 + 1, none⟩) HBL.out).trans HP1.out.2
      have d0 := (BC.out.cell (p := ⟨g, k * 2, none⟩) HG.out).trans HP2.out.1
      have d1 := (BC.out.cell (p := ⟨g, k * 2 + 1, none⟩) HG.out).trans HP2.out.2
      have q := alloc_new w1 (.cells #[.int .i64 q0, .int .i64 q1] 23)
      have ee := cellsA q rfl
      obtain ⟨e0, e1⟩ := ee
      have hneq2 := run_neq_mk q0 q1
      clear q hneq
      go_wp2_with fail
      have BC2 := hide BC.out
      generalize w1.alloc (.cells #[.int .i64 q0, .int .i64 q1] 23) = Y at *
      go_quiet (fail)
      go_wp2_with fail
      go_roundw
      case rel => exact ⟨k + 1, by omega, by go_num, hide (below_dN BC2.out _)⟩
      case measure => simp [intOf]; omega
    · by_cases hend : k < l.length + 16
      · have HP2 := hide (HC.out k (mkM ((k : Int) - (l.length : Int))) (by
          rw [List.getElem?_append_right (by omega), marksM_at (by omega)]
          congr 2; omega))
        unfold mkM at HP2
        generalize mk5 ((k : Int) - (l.length : Int)) = m at *
        go_wp2_with fail
        refine (HMK.out _).mono ?_
        rintro e w1 ⟨rfl, hb1⟩
        have B1 := hide (HB.out.trans (hb1.mono HB.out.size))
        clear hb1
        have BC := hide (B1.out.alloc B1.out.size (.cells #[.int .i64 (-100), .int .i64 m] 23))
        have d0 := (BC.out.cell (p := ⟨g, k * 2, none⟩) HG.out).trans HP2.out.1
        have d1 := (BC.out.cell (p := ⟨g, k * 2 + 1, none⟩) HG.out).trans HP2.out.2
        have q := alloc_new w1 (.cells #[.int .i64 (-100), .int .i64 m] 23)
        have ee := cellsA q rfl
        obtain ⟨e0, e1⟩ := ee
        have hneq2 := run_neq_mk (-100) m
        clear q hneq
        go_wp2_with fail
        generalize w1.alloc (.cells #[.int .i64 (-100), .int .i64 m] 23) = Y at *
        go_quiet (fail)
        go_wp2_with fail
        go_roundw
        case rel => exact ⟨k + 1, by omega, by go_num, hide (below_dN BC.out _)⟩
        case measure => simp [intOf]; omega
      · have hk' : k = l.length + 16 := by omega
        subst hk'
        go_wp2_with fail
        go_ret
        exact ⟨rfl, HB.out⟩
set_option maxRecDepth 100000 in
set_option maxHeartbeats 1000000 in
theorem keptMarks_any (v : Value) (l : List El) (B g cap : Nat) (w : World) (hv : RM w v l) (hk : LentM w B g cap l) (hl : l.length ≤ 8796093022000) :
    Calls Tryz.prog 43 #[.slice (some ⟨g, 0, none⟩) l.length cap, v] w fun e w' => e = .returned (.bool true) ∧ Below w.heap.size w w' := by
  have HF := hide (keptFullMarks_any v l B g cap w hv hk hl)
  obtain ⟨_, hcap, _⟩ := hk.parts
  obtain ⟨a, cap0, rfl, _, _⟩ := hv
  clear hk
  by_cases hq : cap = l.length + 16
  · subst hq
    go_enter Tryz.func43, Tryz.ntmps43
    go_wp2_with fail
    refine HF.out.mono ?_
    rintro e w1 ⟨rfl, hb1⟩
    go_wp2_with fail
    go_ret
    exact ⟨rfl, hb1⟩
  · have hle : ((l.length : Int) + 16) ≤ (cap : Int) := by omega
    go_enter Tryz.func43, Tryz.ntmps43
    go_wp2_with fail
    refine HF.out.mono ?_
    rintro e w1 ⟨rfl, hb1⟩
    go_wp2_with fail
    go_ret
    exact ⟨rfl, hb1⟩
end Go.Proofs.YtknnojjfdfkdmaaGreatDoor.KY
namespace Go.Proofs.YtknnojjfdfkdmaaGreatDoor
open Go.RowKit Go.Extern Go.MapKept Go.ChangeMaps

def QCp (O : Nat → Prop) (q : Nat) (Z : Qx) : Cp := ⟨O, fun w => QS O w q Z⟩
theorem QCp.ok (O : Nat → Prop) (q : Nat) (Z : Qx) : (QCp O q Z).Ok := ⟨fun _ _ h hs hk => h.kept hk hs, fun _ h g hg => h.lt g hg⟩
theorem FS.of_fw {O : Nat → Prop} {w w' : World} (h : Fw O w w') : FS O w w' := ⟨h.os, h.tape, h.output, h.size, h.block⟩
/-- Keys that were lent. -/
def LCp (B g cap : Nat) (K : List Ky) : Cp := ⟨fun y => y = g, fun w => KY.LentM w B g cap K⟩
theorem LCp.ok (B g cap : Nat) (K : List Ky) : (LCp B g cap K).Ok := ⟨fun _ _ h _ hk => ⟨h.base, owns_blk h.own (fun y hy => by
  have e : g = y := Option.some.inj hy
  rw [← e]; exact hk g rfl)⟩, fun _ h y hy => by rw [hy]; exact h.parts.1⟩
def P2 (base : List Cp) (i j : Nat) (c d : Cp) : List Cp := (base.set i c).set j d
theorem P2.i {base : List Cp} {i j : Nat} {c d : Cp} (hi : i < base.length) (hij : i ≠ j) : (P2 base i j c d)[i]? = some c := by
  unfold P2; rw [List.getElem?_set_ne (fun e => hij e.symm), List.getElem?_set_self hi]
theorem P2.j {base : List Cp} {i j : Nat} {c d : Cp} (hj : j < base.length) : (P2 base i j c d)[j]? = some d := by
  unfold P2; rw [List.getElem?_set_self (by rw [List.length_set]; exact hj)]
theorem P2.m {base : List Cp} {i j m : Nat} {c d : Cp} (hi : m ≠ i) (hj : m ≠ j) : (P2 base i j c d)[m]? = base[m]? := by
  unfold P2; rw [List.getElem?_set_ne (fun e => hj e.symm), List.getElem?_set_ne (fun e => hi e.symm)]
theorem P2.seti {base : List Cp} {i j : Nat} {c d c' : Cp} (hij : i ≠ j) : (P2 base i j c d).set i c' = P2 base i j c' d := by
  unfold P2; rw [List.set_comm _ _ (fun e => hij e.symm), List.set_set]
theorem P2.setj {base : List Cp} {i j : Nat} {c d d' : Cp} : (P2 base i j c d).set j d' = P2 base i j c d' := by
  unfold P2; rw [List.set_set]
theorem P2.setm {base : List Cp} {i j m : Nat} {c d e : Cp} (hi : m ≠ i) (hj : m ≠ j) : (P2 base i j c d).set m e = P2 (base.set m e) i j c d := by
  unfold P2; rw [List.set_comm _ _ (fun q => hj q.symm), List.set_comm _ _ (fun q => hi q.symm)]
theorem P2.app {base ds : List Cp} {i j : Nat} {c d : Cp} (hi : i < base.length) (hj : j < base.length) : P2 (base ++ ds) i j c d = P2 base i j c d ++ ds := by
  unfold P2; rw [List.set_append_left _ _ hi, List.set_append_left _ _ (by rw [List.length_set]; exact hj)]
/-- A queue of the program's at i, one of the document's at j. -/
structure SQ (w0 w : World) (base : List Cp) (i j : Nat) (O : Nat → Prop) (q : Nat) (Z : Qx) (r : Nat) (room : Int) (vl : Value) (E : List De) : Prop where
  sep : Sep w0 w (P2 base i j (QCp O q Z) (DCp w0.heap.size r room vl E))
  il : i < base.length
  jl : j < base.length
  ne : i ≠ j
section
variable {w0 w w' : World} {base ds : List Cp} {i j : Nat} {O : Nat → Prop} {q : Nat} {Z Z' : Qx} {r : Nat} {room : Int} {vl vl' : Value} {E E' : List De}
theorem SQ.bl (h : SQ w0 w base i j O q Z r room vl E) : Below w0.heap.size w0 w := h.sep.bl
theorem SQ.qs (h : SQ w0 w base i j O q Z r room vl E) : QS O w q Z := h.sep.is i _ (P2.i h.il h.ne)
theorem SQ.dq (h : SQ w0 w base i j O q Z r room vl E) : DQ w w0.heap.size r room vl E := h.sep.is j _ (P2.j h.jl)
theorem SQ.later (h : SQ w0 w base i j O q Z r room vl E) (hb : Below w.heap.size w w') : SQ w0 w' base i j O q Z r room vl E := ⟨h.sep.later hb, h.il, h.jl, h.ne⟩
theorem SQ.qt (h : SQ w0 w base i j O q Z r room vl E) (hq : QTo O w w' q Z') : ∃ O', SQ w0 w' base i j O' q Z' r room vl E := by
  obtain ⟨O', p1, p2, p3⟩ := hq
  have s := h.sep.step (c' := QCp O' q Z') (P2.i h.il h.ne) (FS.of_fw p3) (QCp.ok _ _ _) p1 p2
  rw [P2.seti h.ne] at s
  exact ⟨O', s, h.il, h.jl, h.ne⟩
theorem SQ.dt (h : SQ w0 w base i j O q Z r room vl E) (hd : DTo w w' w0.heap.size r room vl E vl' E') : SQ w0 w' base i j O q Z r room vl' E' := by
  have s := h.sep.step (c' := DCp w0.heap.size r room vl' E') (P2.j h.jl) hd.f (DCp.ok _ _ _ _ _) hd.q hd.n
  rw [P2.setj] at s
  exact ⟨s, h.il, h.jl, h.ne⟩
theorem SQ.add {c : Cp} (h : SQ w0 w base i j O q Z r room vl E) (hb : Below w.heap.size w w') (hok : c.Ok) (hp : c.P w') (hn : ∀ g, c.O g → w.heap.size ≤ g) : SQ w0 w' (base ++ [c]) i j O q Z r room vl E := by
  have s := h.sep.new (c := c) hb hok hp hn
  rw [← P2.app h.il h.jl] at s
  exact ⟨s, by rw [List.length_append]; have := h.il; omega, by rw [List.length_append]; have := h.jl; omega, h.ne⟩
theorem SQ.drop (h : SQ w0 w (base ++ ds) i j O q Z r room vl E) (hi : i < base.length) (hj : j < base.length) : SQ w0 w base i j O q Z r room vl E := by
  have s := h.sep
  rw [P2.app hi hj] at s
  exact ⟨s.front, hi, hj, h.ne⟩
theorem SQ.at' {m : Nat} {c : Cp} (h : SQ w0 w base i j O q Z r room vl E) (hi : m ≠ i) (hj : m ≠ j) (hm : base[m]? = some c) : c.P w := h.sep.is m c (by rw [P2.m hi hj]; exact hm)
theorem SQ.notO {m : Nat} {c : Cp} (h : SQ w0 w base i j O q Z r room vl E) (hi : m ≠ i) (hj : m ≠ j) (hm : base[m]? = some c) {g : Nat} (hg : c.O g) : ¬ O g := fun e => h.sep.dj m i c _ (by rw [P2.m hi hj]; exact hm) (P2.i h.il h.ne) hi g hg e
theorem SQ.other {m : Nat} {c c' : Cp} (h : SQ w0 w base i j O q Z r room vl E) (hi : m ≠ i) (hj : m ≠ j) (hm : base[m]? = some c) (hf : FS c.O w w') (hok : c'.Ok) (hp : c'.P w') (hn : ∀ g, c'.O g → c.O g ∨ w.heap.size ≤ g) : SQ w0 w' (base.set m c') i j O q Z r room vl E := by
  have s := h.sep.step (c' := c') (i := m) (by rw [P2.m hi hj]; exact hm) hf hok hp hn
  rw [P2.setm hi hj] at s
  exact ⟨s, by rw [List.length_set]; exact h.il, by rw [List.length_set]; exact h.jl, h.ne⟩
/-- What holds between the two. -/
structure SR (Z : Qx) (room : Int) (E : List De) (n : Nat) : Prop where
  rel : RelD Z E
  rm : Z.room = room
  ar : (Z.A.length : Int) ≤ room
  nn : Z.n ≤ (n : Int)
theorem SR.up {n m : Nat} (h : SR Z room E n) (hm : n ≤ m) : SR Z room E m := ⟨h.rel, h.rm, h.ar, by have := h.nn; omega⟩
/-- Put by both: what they answer, told ahead. -/
theorem put_both {n : Nat} (hS : SR Z room E n) (hO : Ok Z) (hn : n < 2932031007402) {id : Int} (hid : IOK id) {K : List Ky} (hKl : K.length ≤ 8796093022000) (hKK : ∀ k ∈ K, KOK k) :
    ∃ (C : Int) (V : Value), (∀ W, ErrType W → Calls Tryz.prog 9 #[V, .int .i64 C] W fun e w' => e = .returned (.bool true) ∧ Below W.heap.size W w') ∧
      ∀ (w0 w : World) (base : List Cp) (i j : Nat) (O : Nat → Prop) (q r : Nat) (vl v : Value), SQ w0 w base i j O q Z r room vl E → KY.RM w v K →
        Calls Tryz.prog 37 #[.pointer (some ⟨r, 0, none⟩), .int .i64 id, v] w fun e w1 => e = .returned (.int .i64 C) ∧ ∃ vl' E', Hid (SQ w0 w1 base i j O q Z r room vl' E') ∧
          Hid (∀ (w2 : World) (base2 : List Cp) (O2 : Nat → Prop) (v2 : Value), SQ w0 w2 base2 i j O2 q Z r room vl' E' → KY.RM w2 v2 K →
            Calls Tryz.prog 8 #[.pointer (some ⟨q, 0, none⟩), .int .i64 id, v2] w2 fun e w3 => e = .returned V ∧ ∃ O' Z', Hid (SQ w0 w3 base2 i j O' q Z' r room vl' E') ∧ Hid (SR Z' room E' (n + 1))) := by
  have hnn := hS.nn
  have hEl : E.length < 2932031007402 := by have := hO.an; have := hS.rel.len; omega
  by_cases hin : ∃ p ∈ E, p.id = id
  · refine ⟨11, er 11, fun W hE => ?_, fun w0 w base i j O q r vl v h hv => ?_⟩
    · have := plain_errno 11 11 W (by decide) (by decide) hE
      exact this
    · refine (rput_any _ r room id vl v K E w h.dq hEl hv hKl).mono ?_
      rintro e w1 (⟨_, rfl, hb⟩ | ⟨hno, _⟩ | ⟨hno, _⟩)
      · refine ⟨rfl, vl, E, hide (h.later hb), hide (fun w2 base2 O2 v2 h2 hv2 => ?_)⟩
        refine (putQ_any O2 q id v2 K Z w2 h2.qs hid hv2 hKl hKK (by omega)).mono ?_
        rintro e w3 (⟨_, rfl, hq⟩ | ⟨hno, _⟩ | ⟨hno, _⟩)
        · obtain ⟨O', h3⟩ := h2.qt hq
          exact ⟨rfl, O', Z, hide h3, hide (hS.up (Nat.le_succ n))⟩
        · obtain ⟨x, hx, hi⟩ := (hS.rel.has id).2 hin
          exact absurd hi (hno x hx)
        · obtain ⟨x, hx, hi⟩ := (hS.rel.has id).2 hin
          exact absurd hi (hno x hx)
      · obtain ⟨p, hp, hi⟩ := hin
        exact absurd hi (hno p hp)
      · obtain ⟨p, hp, hi⟩ := hin
        exact absurd hi (hno p hp)
  · have hno' : ∀ x ∈ Z.A, (Z.T x).id ≠ id := fun x hx e => hin ((hS.rel.has id).1 ⟨x, hx, e⟩)
    have hlen := hS.rel.len
    have hrm := hS.rm
    have har := hS.ar
    by_cases hfl : room ≤ (E.length : Int)
    · refine ⟨20, er 20, fun W hE => ?_, fun w0 w base i j O q r vl v h hv => ?_⟩
      · exact plain_errno 20 20 W (by decide) (by decide) hE
      · refine (rput_any _ r room id vl v K E w h.dq hEl hv hKl).mono ?_
        rintro e w1 (⟨hi, _⟩ | ⟨_, _, rfl, hb⟩ | ⟨_, hlt, _⟩)
        · exact absurd hi hin
        · refine ⟨rfl, vl, E, hide (h.later hb), hide (fun w2 base2 O2 v2 h2 hv2 => ?_)⟩
          refine (putQ_any O2 q id v2 K Z w2 h2.qs hid hv2 hKl hKK (by omega)).mono ?_
          rintro e w3 (⟨⟨x, hx, hi⟩, _⟩ | ⟨_, _, rfl, hq⟩ | ⟨_, hne, _⟩)
          · exact absurd hi (hno' x hx)
          · obtain ⟨O', h3⟩ := h2.qt hq
            exact ⟨rfl, O', Z, hide h3, hide (hS.up (Nat.le_succ n))⟩
          · exact absurd (by omega) hne
        · omega
    · refine ⟨0, .nilIface, fun W hE => ?_, fun w0 w base i j O q r vl v h hv => ?_⟩
      · exact plain_nil 0 W
      · refine (rput_any _ r room id vl v K E w h.dq hEl hv hKl).mono ?_
        rintro e w1 (⟨hi, _⟩ | ⟨_, hle, _⟩ | ⟨_, _, rfl, vl', ka, kc, hd⟩)
        · exact absurd hi hin
        · omega
        · refine ⟨rfl, vl', _, hide (h.dt hd), hide (fun w2 base2 O2 v2 h2 hv2 => ?_)⟩
          refine (putQ_any O2 q id v2 K Z w2 h2.qs hid hv2 hKl hKK (by omega)).mono ?_
          rintro e w3 (⟨⟨x, hx, hi⟩, _⟩ | ⟨_, heq, _⟩ | ⟨_, _, rfl, Z', x, K', kv', hq, hr, hn', hA, hT, hx, hTx, hK⟩)
          · exact absurd hi (hno' x hx)
          · omega
          · obtain ⟨O', h3⟩ := h2.qt hq
            exact ⟨rfl, O', Z', hide h3, hide ⟨hS.rel.put hA hT (by rw [hTx]; exact ⟨rfl, hK, rfl, rfl⟩), by rw [hr]; exact hrm, by rw [hA, List.length_append]; show ((Z.A.length + 1 : Nat) : Int) ≤ room; omega, by rw [hn']; omega⟩⟩
end
end Go.Proofs.YtknnojjfdfkdmaaGreatDoor
namespace Go.Proofs.YtknnojjfdfkdmaaGreatDoor
open Go.RowKit Go.Extern Go.MapKept Go.ChangeMaps

theorem first_is : ∀ {E : List De}, (∃ p ∈ E, p.is = 1) → ∃ (k : Nat) (p : De), E[k]? = some p ∧ p.is = 1 ∧ ∀ i q, i < k → E[i]? = some q → q.is ≠ 1
  | [], h => by obtain ⟨p, hp, _⟩ := h; cases hp
  | a :: t, h => by
    by_cases ha : a.is = 1
    · exact ⟨0, a, rfl, ha, fun i q hi => by omega⟩
    · obtain ⟨k, p, h1, h2, h3⟩ := first_is (E := t) (by
        obtain ⟨p, hp, hi⟩ := h
        rcases List.mem_cons.1 hp with e | hp
        · rw [e] at hi; exact absurd hi ha
        · exact ⟨p, hp, hi⟩)
      refine ⟨k + 1, p, h1, h2, fun i q hi hq => ?_⟩
      cases i with
      | zero => obtain rfl := Option.some.inj hq; exact ha
      | succ i => exact h3 i q (by omega) hq
section
variable {Z : Qx} {room : Int} {E : List De} {n : Nat}
theorem touch_both (hS : SR Z room E n) (hO : Ok Z) {K : List Ky} (hKl : K.length ≤ 8796093022000) (hKK : ∀ k ∈ K, KOK k) :
    ∀ (w0 w : World) (base : List Cp) (i j : Nat) (O : Nat → Prop) (q r : Nat) (vl v : Value), SQ w0 w base i j O q Z r room vl E → KY.RM w v K → (0 < K.length → ∀ g, v.ownBlock = some g → g < w0.heap.size) →
      Calls Tryz.prog 38 #[.pointer (some ⟨r, 0, none⟩), v] w fun e w1 => e = .returned (.int .i64 (ctD K E E.length : Int)) ∧ Hid (SQ w0 w1 base i j O q Z r room vl (E.map (tcD K))) ∧
        Hid (∀ (w2 : World) (base2 : List Cp) (O2 : Nat → Prop) (v2 : Value), SQ w0 w2 base2 i j O2 q Z r room vl (E.map (tcD K)) → KY.RM w2 v2 K → (0 < K.length → ∀ g, v2.ownBlock = some g → ¬ O2 g) →
          Calls Tryz.prog 10 #[.pointer (some ⟨q, 0, none⟩), v2] w2 fun e w3 => e = .returned (.int .i64 (ctD K E E.length : Int)) ∧ ∃ O' Z', Hid (SQ w0 w3 base2 i j O' q Z' r room vl (E.map (tcD K))) ∧ Hid (SR Z' room (E.map (tcD K)) n)) := by
  intro w0 w base i j O q r vl v h hv hf
  have hEl : E.length ≤ 8796093022000 := by have := hO.an; have := hO.nb; have := hS.rel.len; omega
  refine (rtouch_any _ r room vl v K E w h.dq hEl hv hKl (fun h0 g hg hft => by have := h.dq.lo hft; have := hf h0 g hg; omega)).mono ?_
  rintro e w1 ⟨rfl, hd⟩
  refine ⟨rfl, hide (h.dt hd), hide (fun w2 base2 O2 v2 h2 hv2 hf2 => ?_)⟩
  refine (touchQ_any O2 q v2 K Z w2 h2.qs hv2 hKl hKK hf2).mono ?_
  rintro e w3 ⟨Z', rfl, hq, hr, hn, hA, hT⟩
  obtain ⟨O', h3⟩ := h2.qt hq
  have hrel := hS.rel.touch (K := K) hA hT
  exact ⟨by rw [RelD.touched hO h3.qs.ok hS.rel hrel], O', Z', hide h3, hide ⟨hrel, by rw [hr]; exact hS.rm, by rw [hA]; exact hS.ar, by rw [hn]; exact hS.nn⟩⟩
theorem take_both (hS : SR Z room E n) (hO : Ok Z) :
    ∃ (I : Int) (b : Bool), ∀ (w0 w : World) (base : List Cp) (i j : Nat) (O : Nat → Prop) (q r : Nat) (vl : Value), SQ w0 w base i j O q Z r room vl E →
      Calls Tryz.prog 39 #[.pointer (some ⟨r, 0, none⟩)] w fun e w1 => e = .returned (.tuple #[.int .i64 I, .bool b]) ∧ ∃ E', Hid (SQ w0 w1 base i j O q Z r room vl E') ∧
        Hid (∀ (w2 : World) (base2 : List Cp) (O2 : Nat → Prop), SQ w0 w2 base2 i j O2 q Z r room vl E' →
          Calls Tryz.prog 11 #[.pointer (some ⟨q, 0, none⟩)] w2 fun e w3 => e = .returned (.tuple #[.int .i64 I, .bool b]) ∧ ∃ O' Z', Hid (SQ w0 w3 base2 i j O' q Z' r room vl E') ∧ Hid (SR Z' room E' n)) := by
  have hEl : E.length ≤ 8796093022000 := by have := hO.an; have := hO.nb; have := hS.rel.len; omega
  by_cases hex : ∃ p ∈ E, p.is = 1
  · obtain ⟨k, p, hp, hi, hfst⟩ : ∃ (k : Nat) (p : De), E[k]? = some p ∧ p.is = 1 ∧ ∀ i q, i < k → E[i]? = some q → q.is ≠ 1 := first_is hex
    refine ⟨p.id, true, fun w0 w base i j O q r vl h => ?_⟩
    refine (rtake_any _ r room vl E w h.dq hEl).mono ?_
    rintro e w1 (⟨hno, _⟩ | ⟨k', p', hp', hi', hf', rfl, hd⟩)
    · exact absurd hi (hno p (List.mem_of_getElem? hp))
    · have hkk : k' = k := by
        rcases Nat.lt_trichotomy k' k with hlt | heq | hlt
        · exact absurd hi' (hfst k' p' hlt hp')
        · exact heq
        · exact absurd hi (hf' k p hlt hp)
      subst hkk
      rw [hp] at hp'
      obtain rfl := Option.some.inj hp'
      refine ⟨rfl, _, hide (h.dt hd), hide (fun w2 base2 O2 h2 => ?_)⟩
      obtain ⟨x, t, hR, hx, hrl⟩ := hS.rel.rd1 hO hp hi hfst
      refine (takeQ_any O2 q Z w2 h2.qs).mono ?_
      rintro e w3 (⟨h0, _⟩ | ⟨x', t', Z', hR', _, rfl, hq, hr, hn, hA, hT⟩)
      · rw [h0] at hR; cases hR
      · rw [hR] at hR'
        obtain ⟨rfl, _⟩ := List.cons.inj hR'
        obtain ⟨O', h3⟩ := h2.qt hq
        exact ⟨by rw [hrl.id], O', Z', hide h3, hide ⟨hS.rel.upd hO hA hT hx ⟨hrl.id, hrl.ks, rfl, rfl⟩, by rw [hr]; exact hS.rm, by rw [hA]; exact hS.ar, by rw [hn]; exact hS.nn⟩⟩
  · have hno : ∀ p ∈ E, p.is ≠ 1 := fun p hp e => hex ⟨p, hp, e⟩
    refine ⟨0, false, fun w0 w base i j O q r vl h => ?_⟩
    refine (rtake_any _ r room vl E w h.dq hEl).mono ?_
    rintro e w1 (⟨_, rfl, rfl⟩ | ⟨k', p', hp', hi', _⟩)
    · refine ⟨rfl, E, hide h, hide (fun w2 base2 O2 h2 => ?_)⟩
      refine (takeQ_any O2 q Z w2 h2.qs).mono ?_
      rintro e w3 (⟨_, rfl, hq⟩ | ⟨x', t', Z', hR', _⟩)
      · obtain ⟨O', h3⟩ := h2.qt hq
        exact ⟨rfl, O', Z, hide h3, hide hS⟩
      · rw [hS.rel.rd0 hO hno] at hR'; cases hR'
    · exact absurd hi' (hno p' (List.mem_of_getElem? hp'))
theorem back_both (hS : SR Z room E n) (hO : Ok Z) {id : Int} (hid : IOK id) :
    ∃ (b : Bool), ∀ (w0 w : World) (base : List Cp) (i j : Nat) (O : Nat → Prop) (q r : Nat) (vl : Value), SQ w0 w base i j O q Z r room vl E →
      Calls Tryz.prog 40 #[.pointer (some ⟨r, 0, none⟩), .int .i64 id] w fun e w1 => e = .returned (.bool b) ∧ ∃ E', Hid (SQ w0 w1 base i j O q Z r room vl E') ∧
        Hid (∀ (w2 : World) (base2 : List Cp) (O2 : Nat → Prop), SQ w0 w2 base2 i j O2 q Z r room vl E' →
          Calls Tryz.prog 13 #[.pointer (some ⟨q, 0, none⟩), .int .i64 id] w2 fun e w3 => e = .returned (.bool b) ∧ ∃ O' Z', Hid (SQ w0 w3 base2 i j O' q Z' r room vl E') ∧ Hid (SR Z' room E' n)) := by
  have hEl : E.length ≤ 8796093022000 := by have := hO.an; have := hO.nb; have := hS.rel.len; omega
  by_cases hex : ∃ p ∈ E, p.id = id ∧ p.is = 2
  · obtain ⟨p, hpm, hpi, hp2⟩ := hex
    obtain ⟨k, hp⟩ := List.getElem?_of_mem hpm
    obtain ⟨x, hx, hrl⟩ := hS.rel.got hp
    have hxA := List.mem_of_getElem? hx
    refine ⟨p.tc, fun w0 w base i j O q r vl h => ?_⟩
    refine (rback_any _ r room id vl E w h.dq hEl).mono ?_
    rintro e w1 (⟨hno, _⟩ | ⟨k', p', hp', hi', hcase⟩)
    · exact absurd hpi (hno p hpm)
    · obtain ⟨hk1, hk2⟩ := hS.rel.place hO hxA hp' (by rw [hrl.id, hpi, hi'])
      have hkk : k' = k := nodup_at (sr_nodup hO.o.sa) hk1 hx
      subst hkk
      rw [hp] at hp'
      obtain rfl := Option.some.inj hp'
      rcases hcase with ⟨hne, _⟩ | ⟨_, rfl, hd⟩
      · exact absurd hp2 hne
      · refine ⟨rfl, _, hide (h.dt hd), hide (fun w2 base2 O2 h2 => ?_)⟩
        refine (backQ_any O2 q id Z w2 h2.qs hid).mono ?_
        rintro e w3 (⟨hno, _⟩ | ⟨x', Z', hx', hi'', hst, rfl, hq, hr, hn, hA, hT⟩)
        · exact absurd (hrl.st.trans hp2) (hno x hxA (by rw [hrl.id, hpi]))
        · have hxx : x' = x := hO.one hx' hxA (by rw [hi'', hrl.id, hpi])
          subst hxx
          obtain ⟨O', h3⟩ := h2.qt hq
          exact ⟨by rw [hrl.tc], O', Z', hide h3, hide ⟨hS.rel.upd hO hA hT hx ⟨hrl.id, hrl.ks, by dsimp only; rw [hrl.tc], hrl.tc⟩, by rw [hr]; exact hS.rm, by rw [hA]; exact hS.ar, by rw [hn]; exact hS.nn⟩⟩
  · refine ⟨false, fun w0 w base i j O q r vl h => ?_⟩
    have prog : ∀ (w2 : World) (base2 : List Cp) (O2 : Nat → Prop), SQ w0 w2 base2 i j O2 q Z r room vl E → Calls Tryz.prog 13 #[.pointer (some ⟨q, 0, none⟩), .int .i64 id] w2 fun e w3 => e = .returned (.bool false) ∧ ∃ O' Z', Hid (SQ w0 w3 base2 i j O' q Z' r room vl E) ∧ Hid (SR Z' room E n) := fun w2 base2 O2 h2 => by
      refine (backQ_any O2 q id Z w2 h2.qs hid).mono ?_
      rintro e w3 (⟨_, rfl, hq⟩ | ⟨x', Z', hx', hi'', hst, _⟩)
      · obtain ⟨O', h3⟩ := h2.qt hq
        exact ⟨rfl, O', Z, hide h3, hide hS⟩
      · obtain ⟨j', hj'⟩ := List.getElem?_of_mem hx'
        obtain ⟨p', hp', hr'⟩ := hS.rel.get hj'
        exact absurd ⟨p', List.mem_of_getElem? hp', by rw [← hr'.id, hi''], by rw [← hr'.st, hst]⟩ hex
    refine (rback_any _ r room id vl E w h.dq hEl).mono ?_
    rintro e w1 (⟨_, rfl, rfl⟩ | ⟨k', p', hp', hi', ⟨_, rfl, rfl⟩ | ⟨h2, _⟩⟩)
    · exact ⟨rfl, E, hide h, hide prog⟩
    · exact ⟨rfl, E, hide h, hide prog⟩
    · exact absurd ⟨p', List.mem_of_getElem? hp', hi', h2⟩ hex
theorem remove_both (hS : SR Z room E n) (hO : Ok Z) (hEl : E.length ≤ 2932031007402) {id : Int} (hid : IOK id) :
    ∃ (b : Bool), ∀ (w0 w : World) (base : List Cp) (i j : Nat) (O : Nat → Prop) (q r : Nat) (vl : Value), SQ w0 w base i j O q Z r room vl E →
      Calls Tryz.prog 41 #[.pointer (some ⟨r, 0, none⟩), .int .i64 id] w fun e w1 => e = .returned (.bool b) ∧ ∃ vl' E', Hid (SQ w0 w1 base i j O q Z r room vl' E') ∧
        Hid (∀ (w2 : World) (base2 : List Cp) (O2 : Nat → Prop), SQ w0 w2 base2 i j O2 q Z r room vl' E' →
          Calls Tryz.prog 42 #[.pointer (some ⟨q, 0, none⟩), .int .i64 id] w2 fun e w3 => e = .returned (.bool b) ∧ ∃ O' Z', Hid (SQ w0 w3 base2 i j O' q Z' r room vl' E') ∧ Hid (SR Z' room E' n)) := by
  by_cases hex : ∃ p ∈ E, p.id = id
  · refine ⟨true, fun w0 w base i j O q r vl h => ?_⟩
    refine (rremove_any _ r room id vl E w h.dq hEl).mono ?_
    rintro e w1 (⟨hno, _⟩ | ⟨k, p, vl', hp, hpi, rfl, hd⟩)
    · obtain ⟨p, hp, hi⟩ := hex
      exact absurd hi (hno p hp)
    · obtain ⟨x, hx, hrl⟩ := hS.rel.got hp
      have hxA := List.mem_of_getElem? hx
      refine ⟨rfl, vl', _, hide (h.dt hd), hide (fun w2 base2 O2 h2 => ?_)⟩
      refine (removeQ_any O2 q id Z w2 h2.qs hid).mono ?_
      rintro e w3 (⟨hno, _⟩ | ⟨x', Z', hx', hi'', rfl, hq, hr, hn, hA, hT⟩)
      · exact absurd (by rw [hrl.id, hpi]) (hno x hxA)
      · have hxx : x' = x := hO.one hx' hxA (by rw [hi'', hrl.id, hpi])
        subst hxx
        obtain ⟨O', h3⟩ := h2.qt hq
        have hle : Z'.A.length ≤ Z.A.length := by rw [hA]; exact List.length_filter_le _ _
        exact ⟨rfl, O', Z', hide h3, hide ⟨hS.rel.rem hO hA hT hx, by rw [hr]; exact hS.rm, by have := hS.ar; omega, by rw [hn]; exact hS.nn⟩⟩
  · refine ⟨false, fun w0 w base i j O q r vl h => ?_⟩
    refine (rremove_any _ r room id vl E w h.dq hEl).mono ?_
    rintro e w1 (⟨_, rfl, rfl⟩ | ⟨k, p, vl', hp, hpi, _⟩)
    · refine ⟨rfl, vl, E, hide h, hide (fun w2 base2 O2 h2 => ?_)⟩
      refine (removeQ_any O2 q id Z w2 h2.qs hid).mono ?_
      rintro e w3 (⟨_, rfl, hq⟩ | ⟨x', Z', hx', hi'', _⟩)
      · obtain ⟨O', h3⟩ := h2.qt hq
        exact ⟨rfl, O', Z, hide h3, hide hS⟩
      · exact absurd ((hS.rel.has id).1 ⟨x', hx', hi''⟩) hex
    · exact absurd ⟨p, List.mem_of_getElem? hp, hpi⟩ hex
end
end Go.Proofs.YtknnojjfdfkdmaaGreatDoor
