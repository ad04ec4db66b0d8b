/-
  My own text: LVF, LS4, LS5 in one.
-/
import Derived.Test.YtcdhblfefpkjgaaDoorLS0
import Derived.Test.YtcdhblfefpkjgaaDoorLV9
import Derived.Test.YtcdhblfefpkjgaaDoorLS2
import Derived.Test.YtcdhblfefpkjgaaDoorLV6
namespace Go.Proofs.YtcdhblfefpkjgaaDoor
open Go.RowKit

theorem Nxt.congr {n : Nat} {E : List (Nat × Nat)} {pr pr2 : Nat → Int} {row : List Nat} {x : Nat} (h : Nxt n E pr row x) (e : ∀ k, k < n → pr k = pr2 k) : Nxt n E pr2 row x :=
  ⟨h.1, fun y hy hne => by
    have := h.2 y hy hne
    unfold bf at this ⊢
    rw [← e x h.1.1, ← e y hy.1]; exact this⟩
theorem Gr'.congr {n : Nat} {E : List (Nat × Nat)} {pr pr2 : Nat → Int} {row : List Nat} (h : Gr' n E pr row) (e : ∀ k, k < n → pr k = pr2 k) : Gr' n E pr2 row := by
  induction h with
  | nil => exact .nil
  | step _ hx ih => exact ih.step (hx.congr e)
/-- The heads of groups; how many groups; their edges, their priorities; how many links. -/
def hdR (R : List (List UInt8)) (T : List (List Lk)) : Nat → Nat := rk (pn (tU (wOf R) T T.length))
def hsR (R : List (List UInt8)) (T : List (List Lk)) : List Nat := hsT (hdR R T) R.length
def eR (R : List (List UInt8)) (T : List (List Lk)) : List (Nat × Nat) := pn (btw (nuL (hdR R T) R.length) (tU (bOf R) T T.length))
def prR (R : List (List UInt8)) (T : List (List Lk)) (pr : Nat → Int) : Nat → Int := fun k => um pr (((hsR R T).map (memT (hdR R T) R.length)).getD k [])
def KT (T : List (List Lk)) : Nat → Nat := fun x => (T.getD x []).length
theorem hdR_ok (R : List (List UInt8)) (T : List (List Lk)) (n : Nat) : HdOk (hdR R T) n := ⟨fun x _ => (rk_le _ x).1, fun x _ => (rk_le _ x).2⟩
/-- What is answered: lists, an error's number with its places. -/
inductive AnsR (R : List (List UInt8)) (T : List (List Lk)) (pr : Nat → Int) : List (List Nat) → Int × Int × Int → Prop
  | many (h : tooB R.length (KT T) = true) : AnsR R T pr [] (5, 0, 0)
  | twice (h : tooB R.length (KT T) = false) (x : Nat) (p : List UInt8) (hx : R[x]? = some p) (hm : p ∈ R.take x) (ho : Once R x) : AnsR R T pr [] (11, 0, (x : Int))
  | link (h : tooB R.length (KT T) = false) (ho : Once R R.length) (x i : Nat) (l : List Lk) (q : Lk) (no : Int) (hl : T[x]? = some l) (hq : l[i]? = some q) (hr : Rgt R T x i) (hw : ¬ LkK q ∧ no = 24 ∨ LkK q ∧ q.2 ∉ R ∧ no = 10) : AnsR R T pr [] (no, (x : Int), (i : Int))
  | loop (h : tooB R.length (KT T) = false) (ho : Once R R.length) (hr : Rgt R T T.length 0) (row : List Nat) (hg : Gr' (hsR R T).length (eR R T) (prR R T pr) row) (hn : ∀ y, ¬ Av (hsR R T).length (eR R T) row y) (hl : row.length ≠ (hsR R T).length) : AnsR R T pr [] (12, 0, 0)
  | good (h : tooB R.length (KT T) = false) (ho : Once R R.length) (hr : Rgt R T T.length 0) (row : List Nat) (hg : Gr' (hsR R T).length (eR R T) (prR R T pr) row) (hn : ∀ y, ¬ Av (hsR R T).length (eR R T) row y) (hl : row.length = (hsR R T).length) : AnsR R T pr (row.map fun k => gX (hdR R T) R.length R.length k) (0, 0, 0)
theorem Once.none {R : List (List UInt8)} {x : Nat} {p : List UInt8} (h : Once R R.length) (hx : R[x]? = some p) (hm : p ∈ R.take x) : False := h x p (List.getElem?_eq_some_iff.1 hx).1 hx hm
theorem lk_bad {R : List (List UInt8)} {q : Lk} {no : Int} (hw : ¬ LkK q ∧ no = 24 ∨ LkK q ∧ q.2 ∉ R ∧ no = 10) (h : LkOk R q) : False := by
  rcases hw with ⟨h1, _⟩ | ⟨_, h1, _⟩
  · exact h1 h.1
  · exact h1 h.2
theorem Rgt.none {R : List (List UInt8)} {T : List (List Lk)} {x i : Nat} {l : List Lk} {q : Lk} {no : Int} (h : Rgt R T T.length 0) (hl : T[x]? = some l) (hq : l[i]? = some q) (hw : ¬ LkK q ∧ no = 24 ∨ LkK q ∧ q.2 ∉ R ∧ no = 10) : False :=
  lk_bad hw (h.1 x l (List.getElem?_eq_some_iff.1 hl).1 hl q (List.mem_of_getElem? hq))
theorem Rgt.same {R : List (List UInt8)} {T : List (List Lk)} {x i x' i' : Nat} {l l' : List Lk} {q q' : Lk} {no no' : Int} (hr : Rgt R T x i) (hl : T[x]? = some l) (hq : l[i]? = some q) (hw : ¬ LkK q ∧ no = 24 ∨ LkK q ∧ q.2 ∉ R ∧ no = 10)
    (hr' : Rgt R T x' i') (hl' : T[x']? = some l') (hq' : l'[i']? = some q') (hw' : ¬ LkK q' ∧ no' = 24 ∨ LkK q' ∧ q'.2 ∉ R ∧ no' = 10) : x = x' ∧ i = i' ∧ no = no' := by
  have hx : x = x' := by
    rcases Nat.lt_trichotomy x x' with h | h | h
    · exact (lk_bad hw (hr'.1 x l h hl q (List.mem_of_getElem? hq))).elim
    · exact h
    · exact (lk_bad hw' (hr.1 x' l' h hl' q' (List.mem_of_getElem? hq'))).elim
  subst hx
  rw [hl] at hl'
  obtain rfl := Option.some.inj hl'
  have hi : i = i' := by
    rcases Nat.lt_trichotomy i i' with h | h | h
    · exact (lk_bad hw (hr'.2 l i q hl h hq)).elim
    · exact h
    · exact (lk_bad hw' (hr.2 l i' q' hl h hq')).elim
  subst hi
  rw [hq] at hq'
  obtain rfl := Option.some.inj hq'
  refine ⟨rfl, rfl, ?_⟩
  rcases hw with ⟨a, b⟩ | ⟨a, _, b⟩ <;> rcases hw' with ⟨c, d⟩ | ⟨c, _, d⟩
  · rw [b, d]
  · exact (a c).elim
  · exact (c a).elim
  · rw [b, d]
theorem AnsR.uniq {R : List (List UInt8)} {T : List (List Lk)} {pr : Nat → Int} {X X' : List (List Nat)} {b b' : Int × Int × Int} (h : AnsR R T pr X b) (h' : AnsR R T pr X' b') : X = X' ∧ b = b' := by
  have key : ∀ {row row' : List Nat}, Gr' (hsR R T).length (eR R T) (prR R T pr) row → (∀ y, ¬ Av (hsR R T).length (eR R T) row y) → Gr' (hsR R T).length (eR R T) (prR R T pr) row' → (∀ y, ¬ Av (hsR R T).length (eR R T) row' y) → row = row' := fun a b c d => a.uniq c b d
  cases h with
  | many h =>
    cases h' with
    | many => exact ⟨rfl, rfl⟩
    | twice k => rw [h] at k; cases k
    | link k => rw [h] at k; cases k
    | loop k => rw [h] at k; cases k
    | good k => rw [h] at k; cases k
  | twice h x p hx hm ho =>
    cases h' with
    | many k => rw [h] at k; cases k
    | twice k x' p' hx' hm' ho' =>
      have e : x = x' := by
        rcases Nat.lt_trichotomy x x' with q | q | q
        · exact (ho' x p q hx hm).elim
        · exact q
        · exact (ho x' p' q hx' hm').elim
      subst e; exact ⟨rfl, rfl⟩
    | link k ho' => exact (Once.none ho' hx hm).elim
    | loop k ho' => exact (Once.none ho' hx hm).elim
    | good k ho' => exact (Once.none ho' hx hm).elim
  | link h ho x i l q no hl hq hr hw =>
    cases h' with
    | many k => rw [h] at k; cases k
    | twice k x' p' hx' hm' => exact (Once.none ho hx' hm').elim
    | link k ho' x' i' l' q' no' hl' hq' hr' hw' =>
      obtain ⟨rfl, rfl, rfl⟩ := Rgt.same hr hl hq hw hr' hl' hq' hw'
      exact ⟨rfl, rfl⟩
    | loop k ho' hr' => exact (Rgt.none hr' hl hq hw).elim
    | good k ho' hr' => exact (Rgt.none hr' hl hq hw).elim
  | loop h ho hr row hg hn hl =>
    cases h' with
    | many k => rw [h] at k; cases k
    | twice k x' p' hx' hm' => exact (Once.none ho hx' hm').elim
    | link k ho' x' i' l' q' no' hl' hq' hr' hw' => exact (Rgt.none hr hl' hq' hw').elim
    | loop k ho' hr' => exact ⟨rfl, rfl⟩
    | good k ho' hr' row' hg' hn' hl' => rw [key hg hn hg' hn'] at hl; exact (hl hl').elim
  | good h ho hr row hg hn hl =>
    cases h' with
    | many k => rw [h] at k; cases k
    | twice k x' p' hx' hm' => exact (Once.none ho hx' hm').elim
    | link k ho' x' i' l' q' no' hl' hq' hr' hw' => exact (Rgt.none hr hl' hq' hw').elim
    | loop k ho' hr' row' hg' hn' hl' => rw [← key hg hn hg' hn'] at hl'; exact (hl' hl).elim
    | good k ho' hr' row' hg' hn' hl' => rw [key hg hn hg' hn']; exact ⟨rfl, rfl⟩
/-- The error as a value. -/
def erR (b : Int × Int × Int) : Value := if b.1 = 10 ∨ b.1 = 11 ∨ b.1 = 24 then .iface 80 (.agg #[.int .i64 b.1, .int .i64 b.2.1, .int .i64 b.2.2]) else errV b.1
/-- Notices in memory. -/
structure NA (w : World) (v : Value) (R : List (List UInt8)) (T : List (List Lk)) (pr : Nat → Int) : Prop where
  rf : NF w v R
  ln : NL w v T
  pz : NP w v R.length pr
  len : T.length = R.length
theorem NF.later {w w' : World} {v : Value} {R : List (List UInt8)} (h : NF w v R) (hb : Below w.heap.size w w') : NF w' v R := by
  obtain ⟨a, cap, hv, hr⟩ := h
  refine ⟨a, cap, hv, ?_⟩
  rcases hr with hr | ⟨b, off, ha, hl, hx⟩
  · exact .inl hr
  · exact .inr ⟨b, off, ha, Nat.lt_of_lt_of_le hl hb.size, fun x k h => (hb.cell (p := ⟨b, _, none⟩) hl).trans (hx x k h)⟩
theorem NP.later {w w' : World} {v : Value} {n : Nat} {pr : Nat → Int} (h : NP w v n pr) (hb : Below w.heap.size w w') : NP w' v n pr := by
  obtain ⟨a, cap, hv, hr⟩ := h
  refine ⟨a, cap, hv, ?_⟩
  rcases hr with hr | ⟨b, off, ha, hl, hx⟩
  · exact .inl hr
  · exact .inr ⟨b, off, ha, Nat.lt_of_lt_of_le hl hb.size, fun x h => (hb.cell (p := ⟨b, _, none⟩) hl).trans (hx x h)⟩
theorem NA.later {w w' : World} {v : Value} {R : List (List UInt8)} {T : List (List Lk)} {pr : Nat → Int} (h : NA w v R T pr) (hb : Below w.heap.size w w') : NA w' v R T pr := ⟨h.rf.later hb, h.ln.later hb, h.pz.later hb, h.len⟩
theorem KT_at {T : List (List Lk)} {x : Nat} {l : List Lk} (h : T[x]? = some l) : KT T x = l.length := by unfold KT; rw [List.getD_eq_getElem?_getD, h]; rfl
theorem NL.nk {w : World} {v : Value} {T : List (List Lk)} (h : NL w v T) : NK w v T.length (KT T) := by
  obtain ⟨a, cap, hv, hr⟩ := h
  refine ⟨a, cap, hv, ?_⟩
  rcases hr with hr | ⟨b, off, ha, hl, hx⟩
  · left; rw [hr]; rfl
  · refine .inr ⟨b, off, ha, hl, fun x hlt => ?_⟩
    obtain ⟨la, lc, h1, _⟩ := hx x _ (List.getElem?_eq_getElem hlt)
    exact ⟨la, lc, by rw [KT_at (List.getElem?_eq_getElem hlt)]; exact h1⟩
theorem tooB_no {n : Nat} {K : Nat → Nat} (h : tooB n K = false) : n ≤ 4096 ∧ ∀ x, x < n → K x ≤ 16 := by
  have h2 : ∀ x, x < n → ¬ 16 < K x := fun x hx hk => by rw [tooB_yes hx hk] at h; cases h
  rw [tooB_rest h2] at h
  exact ⟨by have := of_decide_eq_false h; omega, fun x hx => by have := h2 x hx; omega⟩
/-- Rows of one's own in a row of one's own. -/
structure RW (w : World) (B : Nat) (v : Value) (TL : List (Value × List Int)) : Prop where
  row : w.ownsRow B 41 1 v TL.length (TL.map (·.1))
  own : ∀ u ∈ TL, IN.OM w B u.1 u.2
  ap : ∀ (i j : Nat) (u u' : Value × List Int) (g : Nat), TL[i]? = some u → TL[j]? = some u' → u.1.ownBlock = some g → u'.1.ownBlock = some g → i = j
  len : ∀ u ∈ TL, u.2.length ≤ 4096
theorem RW.later {w w' : World} {B : Nat} {v : Value} {TL : List (Value × List Int)} (h : RW w B v TL) (hb : Below w.heap.size w w') : RW w' B v TL := ⟨owns_lat h.row hb, fun u hu => (h.own u hu).later hb, h.ap, h.len⟩
theorem RW.nil (w : World) (B : Nat) : RW w B (.slice none 0 0) [] := ⟨World.ownsRow_nil _ _ _ _, fun u hu => (by cases hu), fun i j u u' g hi => (by simp at hi), fun u hu => (by cases hu)⟩
end Go.Proofs.YtcdhblfefpkjgaaDoor
namespace Go.Proofs.YtcdhblfefpkjgaaDoor
open Go.RowKit

/-- A row told by places of another. -/
structure Via (L R : List Nat) (f : Nat → Nat) : Prop where
  len : R.length = L.length
  at_ : ∀ t : Nat, R[t]? = L[f t]?
/-- Where things come from when [a, m) and [m, b) change places. -/
def rho (a m b t : Nat) : Nat := if t < a then t else if t < a + (b - m) then t - a + m else if t < b then t - (a + (b - m)) + a else t
/-- Where things come from when [a, a + k) and [b, b + k) are swapped. -/
def sgm (a b k t : Nat) : Nat := if a ≤ t ∧ t < a + k then t - a + b else if b ≤ t ∧ t < b + k then t - b + a else t
theorem Via.refl (L : List Nat) : Via L L (fun t => t) := ⟨rfl, fun _ => rfl⟩
theorem Via.congr {L R : List Nat} {f g : Nat → Nat} (h : Via L R f) (e : ∀ t, f t = g t) : Via L R g := ⟨h.len, fun t => by rw [h.at_, e]⟩
theorem Via.comp {L M R : List Nat} {f g : Nat → Nat} (h : Via L M f) (k : Via M R g) : Via L R (fun t => f (g t)) := ⟨k.len.trans h.len, fun t => by rw [k.at_, h.at_]⟩
/-- One more pair is swapped. -/
theorem Via.swap {L M : List Nat} {a b k x y : Nat} (h : Via L M (sgm a b k)) (hab : a + k < b) (hx : M[a + k]? = some x) (hy : M[b + k]? = some y) : Via L ((M.set (a + k) y).set (b + k) x) (sgm a b (k + 1)) := by
  have h1 := (List.getElem?_eq_some_iff.1 hx).1
  have h2 := (List.getElem?_eq_some_iff.1 hy).1
  refine ⟨by rw [List.length_set, List.length_set]; exact h.len, fun t => ?_⟩
  rw [List.getElem?_set, List.getElem?_set]
  by_cases e : b + k = t
  · subst e
    rw [if_pos rfl, if_pos (by rw [List.length_set]; exact h2)]
    have e2 : sgm a b (k + 1) (b + k) = a + k := by unfold sgm; rw [if_neg (by omega), if_pos (by omega)]; omega
    have e3 : sgm a b k (a + k) = a + k := by unfold sgm; rw [if_neg (by omega), if_neg (by omega)]
    rw [e2, ← hx, h.at_, e3]
  · rw [if_neg e]
    by_cases e1 : a + k = t
    · subst e1
      rw [if_pos rfl, if_pos h1]
      have e2 : sgm a b (k + 1) (a + k) = b + k := by unfold sgm; rw [if_pos (by omega)]; omega
      have e3 : sgm a b k (b + k) = b + k := by unfold sgm; rw [if_neg (by omega), if_neg (by omega)]
      rw [e2, ← hy, h.at_, e3]
    · rw [if_neg e1, h.at_]
      congr 1
      unfold sgm
      repeat' split
      all_goals omega
theorem sgm_zero (a b t : Nat) : t = sgm a b 0 t := by unfold sgm; rw [if_neg (by omega), if_neg (by omega)]
/-- The three steps of a rotation. -/
theorem rot_gt {m i j t : Nat} (hi : i ≤ m) (hj : 0 < j) (h : j < i) : sgm (m - i) m j (rho (m - (i - j)) m (m + j) t) = rho (m - i) m (m + j) t := by
  unfold sgm rho
  repeat' split
  all_goals omega
theorem rot_lt {m i j t : Nat} (hi : i ≤ m) (hj : 0 < i) (h : i < j) : sgm (m - i) (m + j - i) i (rho (m - i) m (m + (j - i)) t) = rho (m - i) m (m + j) t := by
  unfold sgm rho
  repeat' split
  all_goals omega
theorem rot_eq {m i t : Nat} (hi : i ≤ m) : sgm (m - i) m i t = rho (m - i) m (m + i) t := by
  unfold sgm rho
  repeat' split
  all_goals omega
theorem rho_none {a m b t : Nat} (h : a = m ∨ m = b) (ham : a ≤ m) (hmb : m ≤ b) : rho a m b t = t := by
  unfold rho
  repeat' split
  all_goals omega
theorem rho_rng {a m b t : Nat} (ham : a ≤ m) (hmb : m ≤ b) : (a ≤ t ∧ t < b → a ≤ rho a m b t ∧ rho a m b t < b) ∧ (t < a ∨ b ≤ t → rho a m b t = t) := by
  unfold rho
  constructor
  · intro h; repeat' split
    all_goals omega
  · intro h; repeat' split
    all_goals omega
/-- Stably so: those that come ahead are more urgent. -/
theorem SI.rot {pr : Nat → Int} {n : Nat} {L R : List Nat} {s m e : Nat} (h : SI pr n L) (hv : Via L R (rho s m e)) (hs : s ≤ m) (hm : m ≤ e) (hlt : ∀ u v x y : Nat, s ≤ u → u < m → m ≤ v → v < e → L[u]? = some x → L[v]? = some y → pr x < pr y) : SI pr n R := by
  refine ⟨hv.len.trans h.len, fun j x hx => h.lt _ x (by rw [← hv.at_]; exact hx), fun u v x y huv hx hy hp => ?_⟩
  rw [hv.at_] at hx hy
  by_cases q : rho s m e u < rho s m e v
  · exact h.st _ _ x y q hx hy hp
  · exfalso
    have hne : rho s m e u ≠ rho s m e v := by
      intro q2
      revert q2
      unfold rho
      repeat' split
      all_goals omega
    have h2 : s ≤ rho s m e v ∧ rho s m e v < m ∧ m ≤ rho s m e u ∧ rho s m e u < e := by
      revert q hne
      unfold rho
      repeat' split
      all_goals omega
    have := hlt _ _ y x h2.1 h2.2.1 h2.2.2.1 h2.2.2.2 hy hx
    omega
theorem Srt.none {pr : Nat → Int} {L : List Nat} {a b : Nat} (h : b ≤ a + 1) : Srt pr L a b := fun u v x y h1 h2 h3 => by omega
/-- The least place of the second run that isn't ahead of x. -/
def FB (f : Nat → Prop) (lo hi i : Nat) : Prop := lo ≤ i ∧ i ≤ hi ∧ (i = lo ∨ f (i - 1)) ∧ (i = hi ∨ ¬ f i)
/-- One thing ahead of a run, put into it. -/
theorem merge_one {pr : Nat → Int} {n a b i x : Nat} {L R : List Nat} (h : SI pr n L) (hab : a + 1 < b) (hbn : b ≤ n) (hx : L[a]? = some x) (hs : Srt pr L (a + 1) b)
    (hf : FB (fun t => ∃ y, L[t]? = some y ∧ pr x < pr y) (a + 1) b i) (hv : Via L R (rho a (a + 1) i)) : SI pr n R ∧ Srt pr R a b ∧ (∀ t, t < a ∨ b ≤ t → R[t]? = L[t]?) ∧ (∀ j z : Nat, a ≤ j → j < b → R[j]? = some z → ∃ k, a ≤ k ∧ k < b ∧ L[k]? = some z) := by
  obtain ⟨f1, f2, f3, f4⟩ := hf
  have up : ∀ t y, a + 1 ≤ t → t < i → L[t]? = some y → pr x < pr y := fun t y h1 h2 hy => by
    rcases f3 with q | ⟨z, hz, hp⟩
    · omega
    · by_cases e : t = i - 1
      · subst e; rw [hy] at hz; cases hz; exact hp
      · have := hs t (i - 1) y z h1 (by omega) (by omega) hy hz; omega
  have dn : ∀ t y, i ≤ t → t < b → L[t]? = some y → pr y ≤ pr x := fun t y h1 h2 hy => by
    rcases f4 with q | q
    · omega
    · obtain ⟨z, hz⟩ : ∃ z, L[i]? = some z := ⟨_, List.getElem?_eq_getElem (by rw [h.len]; omega)⟩
      have h3 : pr z ≤ pr x := by
        apply Classical.byContradiction
        intro h4
        exact q ⟨z, hz, by omega⟩
      by_cases e : t = i
      · subst e; rw [hy] at hz; cases hz; exact h3
      · have := hs i t z y (by omega) (by omega) h2 hz hy; omega
  refine ⟨h.rot hv (by omega) (by omega) (fun u v p q h1 h2 h3 h4 hp hq => ?_), fun u v p q h1 h2 h3 hp hq => ?_, fun t ht => ?_, fun j z h1 h2 hz => ?_⟩
  · have e : u = a := by omega
    subst e; rw [hx] at hp; cases hp
    exact up v q h3 h4 hq
  · rw [hv.at_] at hp hq
    have hu : rho a (a + 1) i u = if u + 1 < i then u + 1 else if u + 1 = i then a else u := by unfold rho; (repeat' split) <;> omega
    have hw : rho a (a + 1) i v = if v + 1 < i then v + 1 else if v + 1 = i then a else v := by unfold rho; (repeat' split) <;> omega
    rw [hu] at hp
    rw [hw] at hq
    by_cases c1 : v + 1 < i
    · rw [if_pos c1] at hq
      rw [if_pos (by omega)] at hp
      exact hs _ _ p q (by omega) (by omega) (by omega) hp hq
    · rw [if_neg c1] at hq
      by_cases c2 : v + 1 = i
      · rw [if_pos c2] at hq
        rw [hx] at hq; cases hq
        rw [if_pos (by omega)] at hp
        have := up (u + 1) p (by omega) (by omega) hp
        omega
      · rw [if_neg c2] at hq
        by_cases d1 : u + 1 < i
        · rw [if_pos d1] at hp
          have h5 := up _ p (by omega) (by omega) hp
          have h6 := dn v q (by omega) h3 hq
          omega
        · rw [if_neg d1] at hp
          by_cases d2 : u + 1 = i
          · rw [if_pos d2] at hp
            rw [hx] at hp; cases hp
            exact dn v q (by omega) h3 hq
          · rw [if_neg d2] at hp
            exact hs u v p q (by omega) h2 h3 hp hq
  · rw [hv.at_, (rho_rng (by omega) (by omega)).2 (by omega)]
  · rw [hv.at_] at hz
    by_cases c : j < i
    · have := (rho_rng (a := a) (m := a + 1) (b := i) (t := j) (by omega) (by omega)).1 ⟨h1, c⟩
      exact ⟨_, this.1, by omega, hz⟩
    · rw [(rho_rng (by omega) (by omega)).2 (by omega)] at hz
      exact ⟨j, h1, h2, hz⟩
/-- One thing behind a run, put into it. -/
theorem merge_last {pr : Nat → Int} {n a m i x : Nat} {L R : List Nat} (h : SI pr n L) (ham : a < m) (hmn : m < n) (hx : L[m]? = some x) (hs : Srt pr L a m)
    (hf : FB (fun t => ∃ y, L[t]? = some y ∧ pr x ≤ pr y) a m i) (hv : Via L R (rho i m (m + 1))) : SI pr n R ∧ Srt pr R a (m + 1) ∧ (∀ t, t < a ∨ m + 1 ≤ t → R[t]? = L[t]?) ∧ (∀ j z : Nat, a ≤ j → j < m + 1 → R[j]? = some z → ∃ k, a ≤ k ∧ k < m + 1 ∧ L[k]? = some z) := by
  obtain ⟨f1, f2, f3, f4⟩ := hf
  have up : ∀ t y, a ≤ t → t < i → L[t]? = some y → pr x ≤ pr y := fun t y h1 h2 hy => by
    rcases f3 with q | ⟨z, hz, hp⟩
    · omega
    · by_cases e : t = i - 1
      · subst e; rw [hy] at hz; cases hz; exact hp
      · have := hs t (i - 1) y z h1 (by omega) (by omega) hy hz; omega
  have dn : ∀ t y, i ≤ t → t < m → L[t]? = some y → pr y < pr x := fun t y h1 h2 hy => by
    rcases f4 with q | q
    · omega
    · obtain ⟨z, hz⟩ : ∃ z, L[i]? = some z := ⟨_, List.getElem?_eq_getElem (by rw [h.len]; omega)⟩
      have h3 : pr z < pr x := by
        apply Classical.byContradiction
        intro h4
        exact q ⟨z, hz, by omega⟩
      by_cases e : t = i
      · subst e; rw [hy] at hz; cases hz; exact h3
      · have := hs i t z y (by omega) (by omega) h2 hz hy; omega
  refine ⟨h.rot hv (by omega) (by omega) (fun u v p q h1 h2 h3 h4 hp hq => ?_), fun u v p q h1 h2 h3 hp hq => ?_, fun t ht => ?_, fun j z h1 h2 hz => ?_⟩
  · have e : v = m := by omega
    subst e; rw [hx] at hq; cases hq
    exact dn u p h1 h2 hp
  · rw [hv.at_] at hp hq
    have hu : rho i m (m + 1) u = if u < i then u else if u = i then m else if u < m + 1 then u - 1 else u := by unfold rho; (repeat' split) <;> omega
    have hw : rho i m (m + 1) v = if v < i then v else if v = i then m else if v < m + 1 then v - 1 else v := by unfold rho; (repeat' split) <;> omega
    rw [hu] at hp
    rw [hw] at hq
    by_cases c1 : v < i
    · rw [if_pos c1] at hq
      rw [if_pos (by omega)] at hp
      exact hs _ _ p q (by omega) (by omega) (by omega) hp hq
    · rw [if_neg c1] at hq
      by_cases c2 : v = i
      · rw [if_pos c2] at hq
        rw [hx] at hq; cases hq
        rw [if_pos (by omega)] at hp
        exact up u p (by omega) (by omega) hp
      · rw [if_neg c2, if_pos (by omega)] at hq
        by_cases d1 : u < i
        · rw [if_pos d1] at hp
          exact hs u (v - 1) p q h1 (by omega) (by omega) hp hq
        · rw [if_neg d1] at hp
          by_cases d2 : u = i
          · rw [if_pos d2] at hp
            rw [hx] at hp; cases hp
            have := dn (v - 1) q (by omega) (by omega) hq
            omega
          · rw [if_neg d2, if_pos (by omega)] at hp
            exact hs (u - 1) (v - 1) p q (by omega) (by omega) (by omega) hp hq
  · rw [hv.at_, (rho_rng (by omega) (by omega)).2 (by omega)]
  · rw [hv.at_] at hz
    by_cases c : j < i
    · rw [(rho_rng (by omega) (by omega)).2 (by omega)] at hz
      exact ⟨j, h1, h2, hz⟩
    · have := (rho_rng (a := i) (m := m) (b := m + 1) (t := j) (by omega) (by omega)).1 ⟨by omega, h2⟩
      exact ⟨_, by omega, by omega, hz⟩
/-- Two runs: the search for the turning place. -/
structure TP (pr : Nat → Int) (L : List Nat) (a m b s0 r0 s : Nat) : Prop where
  lo : s0 ≤ s
  hi : s ≤ r0
  dn : s = s0 ∨ ∀ x y : Nat, L[s - 1]? = some x → L[(a + b) / 2 + m - s]? = some y → pr y ≤ pr x
  up : s = r0 ∨ ∀ x y : Nat, L[s]? = some x → L[(a + b) / 2 + m - s - 1]? = some y → pr x < pr y
def sT (a m b : Nat) : Nat := if (a + b) / 2 < m then (a + b) / 2 + m - b else a
def rT (a m b : Nat) : Nat := if (a + b) / 2 < m then (a + b) / 2 else m
theorem tp_rng {a m b : Nat} (ham : a < m) (hmb : m < b) : a ≤ sT a m b ∧ sT a m b ≤ rT a m b ∧ rT a m b ≤ m ∧ rT a m b ≤ (a + b) / 2 ∧ (a + b) / 2 + m - sT a m b ≤ b ∧ m ≤ (a + b) / 2 + m - rT a m b ∧ (sT a m b = a ∨ (a + b) / 2 + m - sT a m b = b) ∧ (rT a m b = m ∨ (a + b) / 2 + m - rT a m b = m) := by
  unfold sT rT
  split <;> omega
/-- Behind the turn each half is told apart. -/
theorem TP.cut {pr : Nat → Int} {n a m b s : Nat} {L R : List Nat} (h : SI pr n L) (ham : a < m) (hmb : m < b) (hbn : b ≤ n) (h1 : Srt pr L a m) (h2 : Srt pr L m b) (ht : TP pr L a m b (sT a m b) (rT a m b) s) (hv : Via L R (rho s m ((a + b) / 2 + m - s))) :
    SI pr n R ∧ Srt pr R a s ∧ Srt pr R s ((a + b) / 2) ∧ Srt pr R ((a + b) / 2) ((a + b) / 2 + m - s) ∧ Srt pr R ((a + b) / 2 + m - s) b ∧ (∀ u v x y : Nat, a ≤ u → u < (a + b) / 2 → (a + b) / 2 ≤ v → v < b → R[u]? = some x → R[v]? = some y → pr y ≤ pr x) ∧ (∀ t, t < a ∨ b ≤ t → R[t]? = L[t]?) ∧ (∀ j z : Nat, a ≤ j → j < b → R[j]? = some z → ∃ k, a ≤ k ∧ k < b ∧ L[k]? = some z) := by
  obtain ⟨q1, q2, q3, q4, q5, q6, q7, q8⟩ := tp_rng ham hmb
  obtain ⟨t1, t2, t3, t4⟩ := ht
  obtain ⟨c, hc⟩ : ∃ c, (a + b) / 2 = c := ⟨_, rfl⟩
  have hca : a < c ∧ c < b := by omega
  rw [hc] at q4 q5 q6 q7 q8 t3 t4 hv ⊢
  obtain ⟨e, he⟩ : ∃ e, c + m - s = e := ⟨_, rfl⟩
  rw [he] at t3 t4 hv ⊢
  have hsm : s ≤ m := by omega
  have hme : m ≤ e := by omega
  have heb : e ≤ b := by omega
  have hsc : s ≤ c := by omega
  have hce : c ≤ e := by omega
  have get : ∀ t, t < n → ∃ x, L[t]? = some x := fun t ht => ⟨_, List.getElem?_eq_getElem (by rw [h.len]; exact ht)⟩
  -- the second run's beginning is ahead of the first run's end
  have key : ∀ u v x y : Nat, s ≤ u → u < m → m ≤ v → v < e → L[u]? = some x → L[v]? = some y → pr x < pr y := by
    intro u v x y a1 a2 a3 a4 hx hy
    have hs2 : s ≠ rT a m b := by intro q; omega
    obtain ⟨x0, hx0⟩ := get s (by omega)
    obtain ⟨y0, hy0⟩ := get (e - 1) (by omega)
    have hlt := t4.resolve_left hs2 x0 y0 hx0 hy0
    have g1 : pr x ≤ pr x0 := by
      by_cases q : u = s
      · subst q; rw [hx] at hx0; cases hx0; exact Int.le_refl _
      · exact h1 s u x0 x (by omega) (by omega) a2 hx0 hx
    have g2 : pr y0 ≤ pr y := by
      by_cases q : v = e - 1
      · subst q; rw [hy] at hy0; cases hy0; exact Int.le_refl _
      · exact h2 v (e - 1) y y0 a3 (by omega) (by omega) hy hy0
    omega
  -- what stays ahead is ahead of what stays behind
  have far : ∀ u v x y : Nat, a ≤ u → u < s → e ≤ v → v < b → L[u]? = some x → L[v]? = some y → pr y ≤ pr x := by
    intro u v x y a1 a2 a3 a4 hx hy
    have hs2 : s ≠ sT a m b := by intro q; omega
    obtain ⟨x0, hx0⟩ := get (s - 1) (by omega)
    obtain ⟨y0, hy0⟩ := get e (by omega)
    have hle := t3.resolve_left hs2 x0 y0 hx0 hy0
    have g1 : pr x0 ≤ pr x := by
      by_cases q : u = s - 1
      · subst q; rw [hx] at hx0; cases hx0; exact Int.le_refl _
      · exact h1 u (s - 1) x x0 a1 (by omega) (by omega) hx hx0
    have g2 : pr y ≤ pr y0 := by
      by_cases q : v = e
      · subst q; rw [hy] at hy0; cases hy0; exact Int.le_refl _
      · exact h2 e v y0 y hme (by omega) a4 hy0 hy
    omega
  have hi : ∀ t, t < s → rho s m e t = t := fun t ht => by unfold rho; rw [if_pos ht]
  have hj : ∀ t, s ≤ t → t < c → rho s m e t = t - s + m ∧ m ≤ rho s m e t ∧ rho s m e t < e := fun t h1 h2 => by unfold rho; rw [if_neg (by omega), if_pos (by omega)]; omega
  have hk : ∀ t, c ≤ t → t < e → rho s m e t = t - c + s ∧ s ≤ rho s m e t ∧ rho s m e t < m := fun t h1 h2 => by unfold rho; rw [if_neg (by omega), if_neg (by omega), if_pos (by omega)]; omega
  have hl : ∀ t, e ≤ t → rho s m e t = t := fun t h1 => by unfold rho; rw [if_neg (by omega), if_neg (by omega), if_neg (by omega)]
  refine ⟨h.rot hv hsm hme key, fun u v x y a1 a2 a3 hx hy => ?_, fun u v x y a1 a2 a3 hx hy => ?_, fun u v x y a1 a2 a3 hx hy => ?_, fun u v x y a1 a2 a3 hx hy => ?_, fun u v x y a1 a2 a3 a4 hx hy => ?_, fun t ht => ?_, fun j z a1 a2 hz => ?_⟩
  · rw [hv.at_, hi _ (by omega)] at hx hy
    exact h1 u v x y a1 a2 (by omega) hx hy
  · rw [hv.at_] at hx hy
    have g1 := hj u (by omega) (by omega)
    have g2 := hj v (by omega) (by omega)
    exact h2 _ _ x y g1.2.1 (by omega) (by omega) hx hy
  · rw [hv.at_] at hx hy
    have g1 := hk u (by omega) (by omega)
    have g2 := hk v (by omega) (by omega)
    exact h1 _ _ x y (by omega) (by omega) g2.2.2 hx hy
  · rw [hv.at_, hl _ (by omega)] at hx hy
    exact h2 u v x y (by omega) a2 a3 hx hy
  · rw [hv.at_] at hx hy
    by_cases u1 : u < s
    · rw [hi _ u1] at hx
      by_cases v1 : v < e
      · have g2 := hk v a3 v1
        exact h1 u _ x y a1 (by omega) g2.2.2 hx hy
      · rw [hl _ (by omega)] at hy
        exact far u v x y a1 u1 (by omega) a4 hx hy
    · have g1 := hj u (by omega) a2
      by_cases v1 : v < e
      · have g2 := hk v a3 v1
        have := key _ _ y x g2.2.1 g2.2.2 g1.2.1 g1.2.2 hy hx
        omega
      · rw [hl _ (by omega)] at hy
        exact h2 _ v x y g1.2.1 (by omega) a4 hx hy
  · rw [hv.at_, (rho_rng hsm hme).2 (by omega)]
  · rw [hv.at_] at hz
    by_cases c1 : s ≤ j ∧ j < e
    · have := (rho_rng (a := s) (m := m) (b := e) (t := j) hsm hme).1 c1
      exact ⟨_, by omega, by omega, hz⟩
    · rw [(rho_rng hsm hme).2 (by omega)] at hz
      exact ⟨j, a1, a2, hz⟩
/-- What a merge leaves. -/
structure Mgd (pr : Nat → Int) (n a b : Nat) (L R : List Nat) : Prop where
  si : SI pr n R
  srt : Srt pr R a b
  out : ∀ t, t < a ∨ b ≤ t → R[t]? = L[t]?
  ins : ∀ j z : Nat, a ≤ j → j < b → R[j]? = some z → ∃ k, a ≤ k ∧ k < b ∧ L[k]? = some z
/-- Two halves, each sorted, one all ahead of the other. -/
theorem Mgd.join {pr : Nat → Int} {n a c b : Nat} {L R R1 R2 : List Nat} (hac : a ≤ c) (hcb : c ≤ b) (hcut : ∀ u v x y : Nat, a ≤ u → u < c → c ≤ v → v < b → R[u]? = some x → R[v]? = some y → pr y ≤ pr x) (hout : ∀ t, t < a ∨ b ≤ t → R[t]? = L[t]?) (hins : ∀ j z : Nat, a ≤ j → j < b → R[j]? = some z → ∃ k, a ≤ k ∧ k < b ∧ L[k]? = some z)
    (h1 : Mgd pr n a c R R1) (h2 : Mgd pr n c b R1 R2) : Mgd pr n a b L R2 := by
  have back : ∀ j z, a ≤ j → j < b → R2[j]? = some z → ∃ k, ((j < c → k < c) ∧ (c ≤ j → c ≤ k)) ∧ a ≤ k ∧ k < b ∧ R[k]? = some z := by
    intro j z q1 q2 hz
    by_cases e : j < c
    · rw [h2.out j (.inl e)] at hz
      obtain ⟨k, k1, k2, k3⟩ := h1.ins j z q1 e hz
      exact ⟨k, ⟨fun _ => k2, fun q => by omega⟩, k1, by omega, k3⟩
    · obtain ⟨k, k1, k2, k3⟩ := h2.ins j z (by omega) q2 hz
      rw [h1.out k (.inr k1)] at k3
      exact ⟨k, ⟨fun q => by omega, fun _ => k1⟩, by omega, k2, k3⟩
  refine ⟨h2.si, fun u v x y q1 q2 q3 hx hy => ?_, fun t ht => ?_, fun j z q1 q2 hz => ?_⟩
  · by_cases e1 : v < c
    · rw [h2.out u (.inl (by omega))] at hx
      rw [h2.out v (.inl e1)] at hy
      exact h1.srt u v x y q1 q2 e1 hx hy
    · by_cases e2 : c ≤ u
      · exact h2.srt u v x y e2 q2 q3 hx hy
      · obtain ⟨k, ⟨k1, _⟩, k2, _, k3⟩ := back u x q1 (by omega) hx
        obtain ⟨l, ⟨_, l1⟩, _, l2, l3⟩ := back v y (by omega) q3 hy
        exact hcut k l x y k2 (k1 (by omega)) (l1 (by omega)) l2 k3 l3
  · rw [h2.out t (by omega), h1.out t (by omega)]
    exact hout t ht
  · obtain ⟨k, _, k2, k3, k4⟩ := back j z q1 q2 hz
    exact hins k z k2 k3 k4
theorem Mgd.refl {pr : Nat → Int} {n a b : Nat} {L : List Nat} (h : SI pr n L) (hs : Srt pr L a b) : Mgd pr n a b L L := ⟨h, hs, fun _ _ => rfl, fun j _ h1 h2 hz => ⟨j, h1, h2, hz⟩⟩
/-- A run of two of which one is none. -/
theorem Srt.whole {pr : Nat → Int} {L : List Nat} {a s c : Nat} (h1 : Srt pr L a s) (h2 : Srt pr L s c) (h : s = a ∨ s = c) : Srt pr L a c := by
  rcases h with rfl | rfl
  · exact h2
  · exact h1
end Go.Proofs.YtcdhblfefpkjgaaDoor
namespace Go.Proofs.YtcdhblfefpkjgaaDoor
open Go.RowKit

set_option maxRecDepth 100000 in
set_option maxHeartbeats 4000000 in
theorem swapRange_any (a b k n P cap : Nat) (lv : Value) (L : List Nat) (w : World) (hN : NV w P L) (hl : L.length = n) (hab : a + k ≤ b) (hbn : b + k ≤ n) (hn : n ≤ 4096) :
    Calls Tryd.prog 64 #[.slice (some ⟨P, 0, none⟩) n cap, .int .i64 (a : Int), .int .i64 (b : Int), .int .i64 (k : Int), lv] w fun e w' => (∃ u, e = .returned u) ∧ ∃ L', NV w' P L' ∧ Via L L' (sgm a b k) ∧ w.grownBy w' (some P) := by
  have HB := hide (And.intro hab (And.intro hbn hn))
  have HL := hide hl
  go_enter Tryd.func64, Tryd.ntmps64
  go_wp2_with fail
  go_loopw [10] (fun i wr => ∃ (j : Nat) (M : List Nat), j ≤ k ∧ i = .int .i64 (j : Int) ∧ Hid (NV wr P M) ∧ Hid (Via L M (sgm a b j)) ∧ Hid (w.grownBy wr (some P))) (fun i _ => k - (intOf i).toNat)
  case atStart => exact ⟨0, L, Nat.zero_le _, rfl, hide hN, hide ((Via.refl L).congr (sgm_zero a b)), hide (gb_refl _ _)⟩
  case round =>
    clear hN hab hbn hn hl
    obtain ⟨j, M, hj, rfl, HV, HM, HG⟩ := hrel
    by_cases hlt : j < k
    · have hd1 : decide ((j : Int) < (k : Int)) = true := by rw [decide_eq_true_eq]; omega
      have hd1' : decide (j < k) = true := decide_eq_true hlt
      have wj : wrap64 ((j : Int) + 1) = (j : Int) + 1 := by have := HB.out; unfold wrap64; omega
      obtain ⟨pa, hpa⟩ : ∃ pa, Hid (a + j = pa) := ⟨_, hide rfl⟩
      obtain ⟨pb, hpb⟩ : ∃ pb, Hid (b + j = pb) := ⟨_, hide rfl⟩
      have wa : wrap64 ((a : Int) + (j : Int)) = (pa : Int) := by have := HB.out; have := hpa.out; unfold wrap64; omega
      have wa2 : IntKind.i64.wrap ((a : Int) + (j : Int)) = (pa : Int) := by have := HB.out; have := hpa.out; rw [IntKind.wrap_i64]; omega
      have wb : wrap64 ((b : Int) + (j : Int)) = (pb : Int) := by have := HB.out; have := hpb.out; unfold wrap64; omega
      have wb2 : IntKind.i64.wrap ((b : Int) + (j : Int)) = (pb : Int) := by have := HB.out; have := hpb.out; rw [IntKind.wrap_i64]; omega
      have hpan : pa < n := by have := HB.out; have := hpa.out; omega
      have hpbn : pb < n := by have := HB.out; have := hpb.out; omega
      have i0 : (0 : Int) ≤ (pa : Int) := by omega
      have i1 : (pa : Int) < (n : Int) := by omega
      have i2 : (0 : Int) ≤ (pb : Int) := by omega
      have i3 : (pb : Int) < (n : Int) := by omega
      have hMl : M.length = n := by rw [HM.out.len]; exact HL.out
      obtain ⟨x, hx⟩ : ∃ x, M[pa]? = some x := ⟨_, List.getElem?_eq_getElem (by omega)⟩
      obtain ⟨y, hy⟩ : ∃ y, M[pb]? = some y := ⟨_, List.getElem?_eq_getElem (by omega)⟩
      have HX := hide hx
      have HY := hide hy
      have HNE : Hid (pa ≠ pb) := hide (by have := HB.out; have := hpa.out; have := hpb.out; omega)
      obtain ⟨V0, hV0⟩ : ∃ V, World.drew wr = V := ⟨_, rfl⟩
      have HV0 : Hid (NV V0 P M ∧ w.grownBy V0 (some P)) := hide (by rw [← hV0]; exact ⟨HV.out, gb_drew HG.out⟩)
      obtain ⟨V1, hV1⟩ : ∃ V, V0.setCell ⟨P, pa, none⟩ (.int .i64 (y : Int)) = V := ⟨_, rfl⟩
      obtain ⟨V2, hV2⟩ : ∃ V, V1.setCell ⟨P, pb, none⟩ (.int .i64 (x : Int)) = V := ⟨_, rfl⟩
      have HV1 : Hid (NV V1 P (M.set pa y)) := hide (by rw [← hV1]; exact HV0.out.1.set pa y)
      have HV2 : Hid (NV V2 P ((M.set pa y).set pb x)) := hide (by rw [← hV2]; exact HV1.out.set pb x)
      have HG2 : Hid (w.grownBy V2 (some P)) := hide (by
        rw [← hV2, ← hV1]
        exact gb_trans HV0.out.2 (gb_trans (gb_set V0 P pa _) (gb_set _ P pb _)))
      have HM2 : Hid (Via L ((M.set pa y).set pb x) (sgm a b (j + 1))) := hide (by
        have h := HM.out.swap (x := x) (y := y) (by have := HB.out; omega) (by rw [hpa.out]; exact HX.out) (by rw [hpb.out]; exact HY.out)
        rw [hpa.out, hpb.out] at h
        exact h)
      have HF : Hid (∀ (W : World) (q : Nat), (W = V0 ∨ W = V1) → W.frozen? ⟨P, q, none⟩ = false) := hide (fun W q h => by
        rcases h with rfl | rfl
        · exact HV0.out.1.frozen q
        · exact HV1.out.frozen q)
      have hHeld : Hid (V0.cell? ⟨P, pb, none⟩ = some (.int .i64 (y : Int)) ∧ V0.cell? ⟨P, pa, none⟩ = some (.int .i64 (x : Int))) := hide ⟨HV0.out.1.cell HY.out, HV0.out.1.cell HX.out⟩
      have CX0 : Hid (V0.cell? ⟨P, pa, none⟩ = some (.int .i64 (x : Int))) := hide hHeld.out.2
      have CX1 : Hid (V1.cell? ⟨P, pb, none⟩ = some (.int .i64 (y : Int))) := hide (HV1.out.cell (by rw [List.getElem?_set_ne HNE.out]; exact HY.out))
      clear HV HM HG hx hy hMl hpan hpbn
      go_wp2_with fail
      refine s_begins (S := fun W : World => W.cell? ⟨P, pb, none⟩ = some (.int .i64 (y : Int)) ∧ W.cell? ⟨P, pa, none⟩ = some (.int .i64 (x : Int))) [21, 23] 24 #[false, false, false, false, false, false, false, false, false, false, false, false, false, false, false, false, false, false, false, false, false, false, false, false] (by kernel_rfl) (by kernel_rfl) (by kernel_rfl) ?_
      rw [hV0]
      clear hV0
      refine sk0 (v := ?_) 0 16 #[true, false, false, false, false, false, false, false, false, false, false, false, false, false, false, false, false, false, false, false, false, false, false, false] rfl rfl (by kernel_rfl) (by kernel_rfl) (by kernel_rfl) (by kernel_rfl) (fun _ _ _ h => h) (by kernel_rfl) (by rfl) ?hy (fun _ => hHeld.out) ?_
      case hy => intro W; first | (go_simp; done) | (go_simp; with_reducible rfl)
      simp only [List.setIfInBounds_toArray, List.set_cons_zero, List.set_cons_succ]
      refine sk0 (v := ?_) 1 17 #[true, true, false, false, false, false, false, false, false, false, false, false, false, false, false, false, false, false, false, false, false, false, false, false] rfl rfl (by kernel_rfl) (by kernel_rfl) (by kernel_rfl) (by kernel_rfl) (fun _ _ _ h => h) (by kernel_rfl) (by rfl) ?hy (fun _ => hHeld.out) ?_
      case hy => intro W; first | (go_simp; done) | (go_simp; with_reducible rfl)
      simp only [List.setIfInBounds_toArray, List.set_cons_zero, List.set_cons_succ]
      refine sk0 (v := ?_) 2 18 #[true, true, true, false, false, false, false, false, false, false, false, false, false, false, false, false, false, false, false, false, false, false, false, false] rfl rfl (by kernel_rfl) (by kernel_rfl) (by kernel_rfl) (by kernel_rfl) (fun _ _ _ h => h) (by kernel_rfl) (by rfl) ?hy (fun _ => hHeld.out) ?_
      case hy => intro W; first | (go_simp; done) | (go_simp; with_reducible rfl)
      simp only [List.setIfInBounds_toArray, List.set_cons_zero, List.set_cons_succ]
      refine sk0 (v := ?_) 3 19 #[true, true, true, true, false, false, false, false, false, false, false, false, false, false, false, false, false, false, false, false, false, false, false, false] rfl rfl (by kernel_rfl) (by kernel_rfl) (by kernel_rfl) (by kernel_rfl) (fun _ _ _ h => h) (by kernel_rfl) (by rfl) ?hy (fun _ => hHeld.out) ?_
      case hy => intro W; first | (go_simp; done) | (go_simp; with_reducible rfl)
      simp only [List.setIfInBounds_toArray, List.set_cons_zero, List.set_cons_succ]
      refine sk0 (v := ?_) 4 20 #[true, true, true, true, true, false, false, false, false, false, false, false, false, false, false, false, false, false, false, false, false, false, false, false] rfl rfl (by kernel_rfl) (by kernel_rfl) (by kernel_rfl) (by kernel_rfl) (fun _ _ _ h => h) (by kernel_rfl) (by rfl) ?hy (fun _ => hHeld.out) ?_
      case hy => intro W; first | (go_simp; done) | (go_simp; with_reducible rfl)
      simp only [List.setIfInBounds_toArray, List.set_cons_zero, List.set_cons_succ]
      refine sk0 (v := ?_) 5 21 #[true, true, true, true, true, true, false, false, false, false, false, false, false, false, false, false, false, false, false, false, false, false, false, false] rfl rfl (by kernel_rfl) (by kernel_rfl) (by kernel_rfl) (by kernel_rfl) (fun _ _ _ h => h) (by kernel_rfl) (by rfl) ?hy (fun _ => hHeld.out) ?_
      case hy => intro W; first | (go_simp; done) | (go_simp; with_reducible rfl)
      simp only [List.setIfInBounds_toArray, List.set_cons_zero, List.set_cons_succ]
      refine sk0 (v := ?_) 6 22 #[true, true, true, true, true, true, true, false, false, false, false, false, false, false, false, false, false, false, false, false, false, false, false, false] rfl rfl (by kernel_rfl) (by kernel_rfl) (by kernel_rfl) (by kernel_rfl) (fun _ _ _ h => h) (by kernel_rfl) (by rfl) ?hy (fun _ => hHeld.out) ?_
      case hy => intro W; first | (go_simp; done) | (go_simp; with_reducible rfl)
      simp only [List.setIfInBounds_toArray, List.set_cons_zero, List.set_cons_succ]
      refine sk0 (v := ?_) 7 23 #[true, true, true, true, true, true, true, true, false, false, false, false, false, false, false, false, false, false, false, false, false, false, false, false] rfl rfl (by kernel_rfl) (by kernel_rfl) (by kernel_rfl) (by kernel_rfl) (fun _ _ _ h => h) (by kernel_rfl) (by rfl) ?hy (fun _ => hHeld.out) ?_
      case hy => intro W; first | (go_simp; done) | (go_simp; with_reducible rfl)
      simp only [List.setIfInBounds_toArray, List.set_cons_zero, List.set_cons_succ]
      refine sk0 (v := ?_) 8 24 #[true, true, true, true, true, true, true, true, true, false, false, false, false, false, false, false, false, false, false, false, false, false, false, false] rfl rfl (by kernel_rfl) (by kernel_rfl) (by kernel_rfl) (by kernel_rfl) (fun _ _ _ h => h) (by kernel_rfl) (by rfl) ?hy (fun _ => hHeld.out) ?_
      case hy => intro W; first | (go_simp; done) | (go_simp; with_reducible rfl)
      simp only [List.setIfInBounds_toArray, List.set_cons_zero, List.set_cons_succ]
      refine sk0 (v := ?_) 9 25 #[true, true, true, true, true, true, true, true, true, true, false, false, false, false, false, false, false, false, false, false, false, false, false, false] rfl rfl (by kernel_rfl) (by kernel_rfl) (by kernel_rfl) (by kernel_rfl) (fun _ _ _ h => h) (by kernel_rfl) (by rfl) ?hy (fun _ => hHeld.out) ?_
      case hy => intro W; first | (go_simp; done) | (go_simp; with_reducible rfl)
      simp only [List.setIfInBounds_toArray, List.set_cons_zero, List.set_cons_succ]
      refine sk0 (v := ?_) 10 26 #[true, true, true, true, true, true, true, true, true, true, true, false, false, false, false, false, false, false, false, false, false, false, false, false] rfl rfl (by kernel_rfl) (by kernel_rfl) (by kernel_rfl) (by kernel_rfl) (fun _ _ _ h => h) (by kernel_rfl) (by rfl) ?hy (fun _ => hHeld.out) ?_
      case hy => intro W; first | (go_simp; done) | (go_simp; with_reducible rfl)
      simp only [List.setIfInBounds_toArray, List.set_cons_zero, List.set_cons_succ]
      refine sk0 (v := ?_) 11 27 #[true, true, true, true, true, true, true, true, true, true, true, true, false, false, false, false, false, false, false, false, false, false, false, false] rfl rfl (by kernel_rfl) (by kernel_rfl) (by kernel_rfl) (by kernel_rfl) (fun _ _ _ h => h) (by kernel_rfl) (by rfl) ?hy (fun _ => hHeld.out) ?_
      case hy => intro W; first | (go_simp; done) | (go_simp; with_reducible rfl)
      simp only [List.setIfInBounds_toArray, List.set_cons_zero, List.set_cons_succ]
      refine sk0 (v := ?_) 12 28 #[true, true, true, true, true, true, true, true, true, true, true, true, true, false, false, false, false, false, false, false, false, false, false, false] rfl rfl (by kernel_rfl) (by kernel_rfl) (by kernel_rfl) (by kernel_rfl) (fun _ _ _ h => h) (by kernel_rfl) (by rfl) ?hy (fun _ => hHeld.out) ?_
      case hy => intro W; first | (go_simp; done) | (go_simp; with_reducible rfl)
      simp only [List.setIfInBounds_toArray, List.set_cons_zero, List.set_cons_succ]
      refine sk1 (v := ?_) 13 29 #[true, true, true, true, true, true, true, true, true, true, true, true, true, true, false, false, false, false, false, false, false, false, false, false] rfl rfl (by kernel_rfl) (by kernel_rfl) (by kernel_rfl) (by kernel_rfl) (by kernel_rfl) (by kernel_rfl) (fun _ _ _ h => h) (by kernel_rfl) (by rfl) ?hy hHeld.out ?_
      case hy => rintro W ⟨s1, s2⟩; first | (go_simp; done) | (go_simp; with_reducible rfl)
      simp only [List.setIfInBounds_toArray, List.set_cons_zero, List.set_cons_succ]
      refine sk0 (v := ?_) 14 30 #[true, true, true, true, true, true, true, true, true, true, true, true, true, true, true, false, false, false, false, false, false, false, false, false] rfl rfl (by kernel_rfl) (by kernel_rfl) (by kernel_rfl) (by kernel_rfl) (fun _ _ _ h => h) (by kernel_rfl) (by rfl) ?hy (fun _ => hHeld.out) ?_
      case hy => intro W; first | (go_simp; done) | (go_simp; with_reducible rfl)
      simp only [List.setIfInBounds_toArray, List.set_cons_zero, List.set_cons_succ]
      refine sk0 (v := ?_) 15 31 #[true, true, true, true, true, true, true, true, true, true, true, true, true, true, true, true, false, false, false, false, false, false, false, false] rfl rfl (by kernel_rfl) (by kernel_rfl) (by kernel_rfl) (by kernel_rfl) (fun _ _ _ h => h) (by kernel_rfl) (by rfl) ?hy (fun _ => hHeld.out) ?_
      case hy => intro W; first | (go_simp; done) | (go_simp; with_reducible rfl)
      simp only [List.setIfInBounds_toArray, List.set_cons_zero, List.set_cons_succ]
      refine sk0 (v := ?_) 16 32 #[true, true, true, true, true, true, true, true, true, true, true, true, true, true, true, true, true, false, false, false, false, false, false, false] rfl rfl (by kernel_rfl) (by kernel_rfl) (by kernel_rfl) (by kernel_rfl) (fun _ _ _ h => h) (by kernel_rfl) (by rfl) ?hy (fun _ => hHeld.out) ?_
      case hy => intro W; first | (go_simp; done) | (go_simp; with_reducible rfl)
      simp only [List.setIfInBounds_toArray, List.set_cons_zero, List.set_cons_succ]
      refine sk0 (v := ?_) 17 33 #[true, true, true, true, true, true, true, true, true, true, true, true, true, true, true, true, true, true, false, false, false, false, false, false] rfl rfl (by kernel_rfl) (by kernel_rfl) (by kernel_rfl) (by kernel_rfl) (fun _ _ _ h => h) (by kernel_rfl) (by rfl) ?hy (fun _ => hHeld.out) ?_
      case hy => intro W; first | (go_simp; done) | (go_simp; with_reducible rfl)
      simp only [List.setIfInBounds_toArray, List.set_cons_zero, List.set_cons_succ]
      refine sk0 (v := ?_) 18 34 #[true, true, true, true, true, true, true, true, true, true, true, true, true, true, true, true, true, true, true, false, false, false, false, false] rfl rfl (by kernel_rfl) (by kernel_rfl) (by kernel_rfl) (by kernel_rfl) (fun _ _ _ h => h) (by kernel_rfl) (by rfl) ?hy (fun _ => hHeld.out) ?_
      case hy => intro W; first | (go_simp; done) | (go_simp; with_reducible rfl)
      simp only [List.setIfInBounds_toArray, List.set_cons_zero, List.set_cons_succ]
      refine sk1 (v := ?_) 19 35 #[true, true, true, true, true, true, true, true, true, true, true, true, true, true, true, true, true, true, true, true, false, false, false, false] rfl rfl (by kernel_rfl) (by kernel_rfl) (by kernel_rfl) (by kernel_rfl) (by kernel_rfl) (by kernel_rfl) (fun _ _ _ h => h) (by kernel_rfl) (by rfl) ?hy hHeld.out ?_
      case hy => rintro W ⟨s1, s2⟩; first | (go_simp; done) | (go_simp; with_reducible rfl)
      simp only [List.setIfInBounds_toArray, List.set_cons_zero, List.set_cons_succ]
      refine s_ready 20 #[true, true, true, true, true, true, true, true, true, true, true, true, true, true, true, true, true, true, true, true, true, false, false, false] rfl (by kernel_rfl) (by kernel_rfl) (by rfl) (fun K hK => ?_)
      go_simp
      refine hK.out _ _ (fun _ => hHeld.out) ?_
      clear hK K
      have fz0 := HF.out V0 pa (.inl rfl)
      have cx0 := CX0.out
      refine s_ready 21 #[true, true, true, true, true, true, true, true, true, true, true, true, true, true, true, true, true, true, true, true, true, true, false, false] rfl (by kernel_rfl) (by kernel_rfl) (by rfl) (fun K hK => ?_)
      go_simp
      refine hK.out _ _ (fun h => absurd h (by decide)) ?_
      clear hK K
      refine s_ready 22 #[true, true, true, true, true, true, true, true, true, true, true, true, true, true, true, true, true, true, true, true, true, true, true, false] rfl (by kernel_rfl) (by kernel_rfl) (by rfl) (fun K hK => ?_)
      go_simp
      refine hK.out _ _ (fun h => absurd h (by decide)) ?_
      clear hK K
      have fz1 := HF.out V1 pb (.inr rfl)
      have cx1 := CX1.out
      refine s_ready 23 #[true, true, true, true, true, true, true, true, true, true, true, true, true, true, true, true, true, true, true, true, true, true, true, true] rfl (by kernel_rfl) (by kernel_rfl) (by rfl) (fun K hK => ?_)
      go_simp
      refine hK.out _ _ (fun h => absurd h (by decide)) ?_
      clear hK K
      refine s_done (by kernel_rfl) ?_ _
      clear hV1 hV2 cx0 fz0 cx1 fz1
      go_wp2_with fail
      go_roundw
      case rel => exact ⟨j + 1, (M.set pa y).set pb x, hlt, by first | exact iv_succ wj | rfl, HV2, HM2, HG2⟩
      case measure => first | exact meas_j wj hlt | (simp [intOf]; omega)
    · have e : j = k := by omega
      subst e
      have hd1 : decide ((j : Int) < (j : Int)) = false := by simp
      have hd1' : decide (j < j) = false := by simp
      go_wp2_with fail
      refine bodyPost_end (v := .tuple #[]) ?r1 ?r2 ?r3
      case r1 => exact results_none rfl _ _ _
      case r2 => rfl
      case r3 => exact ⟨⟨_, rfl⟩, M, HV.out, HM.out, HG.out⟩
set_option maxRecDepth 100000 in
set_option maxHeartbeats 4000000 in
theorem rotate_any (a m b n P cap : Nat) (lv : Value) (L : List Nat) (w : World) (hN : NV w P L) (hl : L.length = n) (ham : a < m) (hmb : m < b) (hbn : b ≤ n) (hn : n ≤ 4096) :
    Calls Tryd.prog 63 #[.slice (some ⟨P, 0, none⟩) n cap, .int .i64 (a : Int), .int .i64 (m : Int), .int .i64 (b : Int), lv] w fun e w' => (∃ u, e = .returned u) ∧ ∃ L', NV w' P L' ∧ Via L L' (rho a m b) ∧ w.grownBy w' (some P) := by
  have HB := hide (And.intro (And.intro ham hmb) (And.intro hbn hn))
  obtain ⟨i0, hi0⟩ : ∃ i, Hid (a + i = m) := ⟨m - a, hide (by omega)⟩
  obtain ⟨j0, hj0⟩ : ∃ j, Hid (m + j = b) := ⟨b - m, hide (by omega)⟩
  have wi : wrap64 ((m : Int) - (a : Int)) = (i0 : Int) := by have := hi0.out; unfold wrap64; omega
  have wi2 : IntKind.i64.wrap ((m : Int) - (a : Int)) = (i0 : Int) := by have := hi0.out; rw [IntKind.wrap_i64]; omega
  have wj : wrap64 ((b : Int) - (m : Int)) = (j0 : Int) := by have := hj0.out; unfold wrap64; omega
  have wj2 : IntKind.i64.wrap ((b : Int) - (m : Int)) = (j0 : Int) := by have := hj0.out; rw [IntKind.wrap_i64]; omega
  have HL := hide hl
  go_enter Tryd.func63, Tryd.ntmps63
  go_wp2_with fail
  go_loopw [10, 11] (fun iv jv wr => ∃ (i j : Nat) (M : List Nat), iv = .int .i64 (i : Int) ∧ jv = .int .i64 (j : Int) ∧ Hid (0 < i ∧ 0 < j ∧ i ≤ m ∧ m + j ≤ n) ∧ Hid (NV wr P M) ∧ Hid (M.length = n) ∧ Hid (∀ R, Via M R (rho (m - i) m (m + j)) → Via L R (rho a m b)) ∧ Hid (w.grownBy wr (some P))) (fun iv jv _ => (intOf iv).toNat + (intOf jv).toNat)
  case atStart => exact ⟨i0, j0, L, rfl, rfl, hide (by have := hi0.out; have := hj0.out; omega), hide hN, hide hl, hide (fun R h => by have h1 := hi0.out; have h2 := hj0.out; rw [show m - i0 = a by omega, h2] at h; exact h), hide (gb_refl _ _)⟩
  case round =>
    clear hN hl ham hmb hbn hn wi wi2 wj wj2
    obtain ⟨i, j, M, rfl, rfl, HI, HV, HML, HR, HG⟩ := hrel
    obtain ⟨p, hp⟩ : ∃ p, Hid (m - i = p) := ⟨_, hide rfl⟩
    have wp : wrap64 ((m : Int) - (i : Int)) = (p : Int) := by have := HI.out; have := hp.out; have := HB.out; unfold wrap64; omega
    have wp2 : IntKind.i64.wrap ((m : Int) - (i : Int)) = (p : Int) := by have := HI.out; have := hp.out; have := HB.out; rw [IntKind.wrap_i64]; omega
    by_cases hij : i = j
    · subst hij
      have hne := nat_eq i
      have HS := hide (swapRange_any p m i n P cap lv M wr HV.out HML.out (by have := HI.out; have := hp.out; omega) (by have := HI.out; omega) HB.out.2.2)
      have HR1 := HR
      have HIM : Hid (i ≤ m) := hide HI.out.2.2.1
      clear HV HML HI
      go_wp2_with fail
      refine HS.out.mono ?_
      rintro e w1 ⟨⟨u, rfl⟩, L', h1, h2, h3⟩
      have HF : Hid (∃ L', NV w1 P L' ∧ Via L L' (rho a m b) ∧ w.grownBy w1 (some P)) := hide ⟨L', h1, HR1.out L' (by
        have h4 := h2
        rw [← hp.out] at h4
        exact h4.congr (fun t => rot_eq HIM.out)), gb_trans HG.out h3⟩
      clear h1 h2 h3 HS HR HR1 HG
      go_wp2_with fail
      refine bodyPost_end (v := .tuple #[]) ?r1 ?r2 ?r3
      case r1 => exact results_none rfl _ _ _
      case r2 => rfl
      case r3 => exact ⟨⟨_, rfl⟩, HF.out⟩
    · have hne := nat_ne hij
      by_cases hgt : j < i
      · have hd2 : decide ((j : Int) < (i : Int)) = true := by rw [decide_eq_true_eq]; omega
        have hd2' : decide (j < i) = true := decide_eq_true hgt
        obtain ⟨i2, hi2⟩ : ∃ i2, Hid (i - j = i2) := ⟨_, hide rfl⟩
        have wd : wrap64 ((i : Int) - (j : Int)) = (i2 : Int) := by have := HI.out; have := hi2.out; have := HB.out; unfold wrap64; omega
        have wd2 : IntKind.i64.wrap ((i : Int) - (j : Int)) = (i2 : Int) := by have := HI.out; have := hi2.out; have := HB.out; rw [IntKind.wrap_i64]; omega
        have HS := hide (swapRange_any p m j n P cap lv M wr HV.out HML.out (by have := HI.out; have := hp.out; omega) (by have := HI.out; omega) HB.out.2.2)
        have HGT := hide hgt
        clear HV hgt hij
        go_wp2_with fail
        refine HS.out.mono ?_
        rintro e w1 ⟨⟨u, rfl⟩, L', h1, h2, h3⟩
        have HV1 := hide h1
        have HM1 : Hid (L'.length = n) := hide (by rw [h2.len]; exact HML.out)
        have HG1 := hide (gb_trans HG.out h3)
        have HR1 : Hid (∀ R, Via L' R (rho (m - i2) m (m + j)) → Via L R (rho a m b)) := hide (fun R h => by
          refine HR.out R ((h2.comp h).congr (fun t => ?_))
          rw [← hi2.out, ← hp.out]
          exact rot_gt (by have := HI.out; omega) (by have := HI.out; omega) HGT.out)
        have HI1 : Hid (0 < i2 ∧ 0 < j ∧ i2 ≤ m ∧ m + j ≤ n) := hide (by have := HI.out; have := hi2.out; have := HGT.out; omega)
        have HLT : Hid (i2 < i) := hide (by have := HI.out; have := hi2.out; omega)
        clear h1 h2 h3 HS HR HG HML HI
        go_wp2_with fail
        go_roundw
        case rel => exact ⟨i2, j, L', rfl, rfl, HI1, HV1, HM1, HR1, HG1⟩
        case measure => have := HLT.out; simp [intOf]; omega
      · have hd2 : decide ((j : Int) < (i : Int)) = false := by rw [decide_eq_false_iff_not]; omega
        have hd2' : decide (j < i) = false := decide_eq_false hgt
        obtain ⟨j2, hj2⟩ : ∃ j2, Hid (j - i = j2) := ⟨_, hide rfl⟩
        have wd : wrap64 ((j : Int) - (i : Int)) = (j2 : Int) := by have := HI.out; have := hj2.out; have := HB.out; unfold wrap64; omega
        have wd2 : IntKind.i64.wrap ((j : Int) - (i : Int)) = (j2 : Int) := by have := HI.out; have := hj2.out; have := HB.out; rw [IntKind.wrap_i64]; omega
        obtain ⟨mj, hmj⟩ : ∃ mj, Hid (m + j = mj) := ⟨_, hide rfl⟩
        obtain ⟨q, hq⟩ : ∃ q, Hid (m + j - i = q) := ⟨_, hide rfl⟩
        have ws : wrap64 ((m : Int) + (j : Int)) = (mj : Int) := by have := HI.out; have := hmj.out; have := HB.out; unfold wrap64; omega
        have ws2 : IntKind.i64.wrap ((m : Int) + (j : Int)) = (mj : Int) := by have := HI.out; have := hmj.out; have := HB.out; rw [IntKind.wrap_i64]; omega
        have wq : wrap64 ((mj : Int) - (i : Int)) = (q : Int) := by have := HI.out; have := hmj.out; have := hq.out; have := HB.out; unfold wrap64; omega
        have wq2 : IntKind.i64.wrap ((mj : Int) - (i : Int)) = (q : Int) := by have := HI.out; have := hmj.out; have := hq.out; have := HB.out; rw [IntKind.wrap_i64]; omega
        have HLTJ : Hid (i < j) := hide (by omega)
        have HS := hide (swapRange_any p q i n P cap lv M wr HV.out HML.out (by have := HI.out; have := hp.out; have := hq.out; omega) (by have := HI.out; have := hq.out; omega) HB.out.2.2)
        clear HV hgt hij
        go_wp2_with fail
        refine HS.out.mono ?_
        rintro e w1 ⟨⟨u, rfl⟩, L', h1, h2, h3⟩
        have HV1 := hide h1
        have HM1 : Hid (L'.length = n) := hide (by rw [h2.len]; exact HML.out)
        have HG1 := hide (gb_trans HG.out h3)
        have HR1 : Hid (∀ R, Via L' R (rho (m - i) m (m + j2)) → Via L R (rho a m b)) := hide (fun R h => by
          refine HR.out R ((h2.comp h).congr (fun t => ?_))
          rw [← hj2.out, ← hp.out, ← hq.out]
          exact rot_lt (by have := HI.out; omega) (by have := HI.out; omega) HLTJ.out)
        have HI1 : Hid (0 < i ∧ 0 < j2 ∧ i ≤ m ∧ m + j2 ≤ n) := hide (by have := HI.out; have := hj2.out; have := HLTJ.out; omega)
        have HLT : Hid (j2 < j) := hide (by have := HI.out; have := hj2.out; omega)
        clear h1 h2 h3 HS HR HG HML HI
        go_wp2_with fail
        go_roundw
        case rel => exact ⟨i, j2, L', rfl, rfl, HI1, HV1, HM1, HR1, HG1⟩
        case measure => have := HLT.out; simp [intOf]; omega
end Go.Proofs.YtcdhblfefpkjgaaDoor
