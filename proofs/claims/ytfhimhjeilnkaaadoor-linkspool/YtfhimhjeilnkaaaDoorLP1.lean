/-
  My own text: layer 23: rows of rows of legs in memory; a map from ways to places.
-/
import Derived.Test.YtfhimhjeilnkaaaDoorLP0
import Derived.Test.YtfhimhjeilnkaaaDoorU0
namespace Go.Proofs.YtfhimhjeilnkaaaDoor
open Go.RowKit

/-- A row of legs and where it lies. -/
structure LR where
  l : List LG.El
  a : Option Addr
  c : Nat
def LR.v (p : LR) : Value := .slice p.a p.l.length p.c
structure LL (W : World) (v : Value) (T : List LR) : Prop where
  each : ∀ p ∈ T, LG.RM W p.v p.l
  row : ∃ a cap, v = .slice a T.length cap ∧ T.length ≤ cap ∧ (T = [] ∨ ∃ b off, a = some ⟨b, off, none⟩ ∧ b < W.heap.size ∧ ∀ (j : Nat) (p : LR), T[j]? = some p → W.cell? ⟨b, off + j, none⟩ = some p.v)
theorem LL.later {w w' : World} {v : Value} {T : List LR} (h : LL w v T) (hb : Below w.heap.size w w') : LL w' v T := by
  refine ⟨fun p hp => (h.each p hp).later hb, ?_⟩
  obtain ⟨a, cap, hv, hc, hr⟩ := h.row
  refine ⟨a, cap, hv, hc, ?_⟩
  rcases hr with hr | ⟨b, off, ha, hlt, hx⟩
  · exact .inl hr
  · exact .inr ⟨b, off, ha, Nat.lt_of_lt_of_le hlt hb.size, fun j p hj => (hb.cell (p := ⟨b, _, none⟩) hlt).trans (hx j p hj)⟩
theorem LL.lt {w : World} {v : Value} {T : List LR} (h : LL w v T) : ∃ a cap, v = .slice a T.length cap := by
  obtain ⟨a, cap, hv, _⟩ := h.row
  exact ⟨a, cap, hv⟩
/-- All legs of the first rows. -/
def Fi (T : List LR) (i : Nat) : List LG.El := ((T.take i).map LR.l).flatten
def Fa (T : List LR) : List LG.El := (T.map LR.l).flatten
theorem Fi_zero (T : List LR) : Fi T 0 = [] := rfl
theorem Fi_succ {T : List LR} {i : Nat} {p : LR} (h : T[i]? = some p) : Fi T (i + 1) = Fi T i ++ p.l := by
  unfold Fi
  rw [List.take_add_one, h]
  simp
theorem Fi_all (T : List LR) : Fi T T.length = Fa T := by unfold Fi Fa; rw [List.take_length]
theorem Fi_split {T : List LR} {i : Nat} {p : LR} (h : T[i]? = some p) : ∃ G, Fa T = Fi T i ++ (p.l ++ G) := by
  have hi := (List.getElem?_eq_some_iff.1 h).1
  refine ⟨((T.drop (i + 1)).map LR.l).flatten, ?_⟩
  unfold Fa Fi
  conv => lhs; rw [← List.take_append_drop i T]
  rw [List.map_append, List.flatten_append]
  congr 1
  rw [List.drop_eq_getElem_cons hi, List.map_cons, List.flatten_cons, (List.getElem?_eq_some_iff.1 h).2]
theorem Fk_split {T : List LR} {i k : Nat} {p : LR} {x : LG.El} (h : T[i]? = some p) (hx : p.l[k]? = some x) : ∃ G, Fa T = (Fi T i ++ p.l.take k) ++ x :: G := by
  obtain ⟨G, hG⟩ := Fi_split h
  have hk := (List.getElem?_eq_some_iff.1 hx).1
  refine ⟨p.l.drop (k + 1) ++ G, ?_⟩
  rw [hG]
  conv => lhs; rw [← List.take_append_drop k p.l]
  rw [List.drop_eq_getElem_cons hk, (List.getElem?_eq_some_iff.1 hx).2]
  simp
theorem Fk_succ {A l : List LG.El} {k : Nat} {x : LG.El} (hx : l[k]? = some x) : A ++ l.take (k + 1) = (A ++ l.take k) ++ [x] := by
  rw [List.take_add_one, hx, List.append_assoc]; rfl
theorem Fk_all (A l : List LG.El) : A ++ l.take l.length = A ++ l := by rw [List.take_length]
theorem Fa_len {T : List LR} {i : Nat} {p : LR} (h : T[i]? = some p) : (Fi T i).length + p.l.length ≤ (Fa T).length := by
  obtain ⟨G, hG⟩ := Fi_split h
  rw [hG]; simp
theorem Fk_len {T : List LR} {i k : Nat} {p : LR} (h : T[i]? = some p) : (Fi T i ++ p.l.take k).length ≤ (Fa T).length := by
  have := Fa_len h
  have h2 : (p.l.take k).length ≤ p.l.length := by rw [List.length_take]; omega
  rw [List.length_append]; omega
theorem len_Fa {T : List LR} {i : Nat} {p : LR} (h : T[i]? = some p) : p.l.length ≤ (Fa T).length := by
  have := Fa_len h; omega
def wv (k : LG.El) : Value := .agg #[.int .i64 k.1, .int .i64 k.2.1, .int .i64 k.2.2.1, .int .i64 k.2.2.2.1, .int .i64 k.2.2.2.2]
theorem Tryd.laidOutM : laidOutB Tryd.prog = true := by kernel_rfl
theorem lawLeg : Go.Maps.Keyed Tryd.prog 43 := Go.Maps.Keyed.of_law (deep_law_laid Tryd.laidOutM (m := 3) (by omega) (of_decide_eq_true (by kernel_rfl)) (by kernel_rfl) (by kernel_rfl))
theorem keyOf_wv (k : LG.El) (h : WOK k) : ∃ l, keyOf Tryd.prog 43 (wv k) = some l := by
  obtain ⟨a, b, c, d, e⟩ := k
  obtain ⟨wa, wb, wc, wd, we⟩ := h
  dsimp only at wa wb wc wd we
  obtain ⟨m, hm⟩ : ∃ m, Tryd.prog.types.size = m + 1 := ⟨135 - 1, by kernel_rfl⟩
  have hk : Tryd.prog.keyType 43 = true := by kernel_rfl
  have c2 : Tryd.prog.cellsOf 43 = 5 := by kernel_rfl
  have c1 : Tryd.prog.cellsOf 3 = 1 := by kernel_rfl
  have c3 : Tryd.prog.cellsOf 2 = 1 := by kernel_rfl
  have hu := Tryd.underlying43
  have hi := Tryd.underlying3
  have hj := Tryd.underlying2
  unfold keyOf
  simp only [hu]
  rw [if_pos (by simp [hk, wv, Value.formed, hu, c2]), hm]
  unfold Program.keyLits
  simp [hu, wv, Value.cells, c2, c1, c3, Program.keyLits, hi, hj, wa, wb, wc, wd, we]
theorem wv_inj (a b : LG.El) (h : wv a = wv b) : a = b := by
  obtain ⟨a1, a2, a3, a4, a5⟩ := a
  obtain ⟨b1, b2, b3, b4, b5⟩ := b
  simp [wv] at h
  obtain ⟨h1, h2, h3, h4, h5⟩ := h
  simp [h1, h2, h3, h4, h5]
theorem stays_wv (k : LG.El) (W : World) : (Instr.keyThatStays (wv k) (wv k)).run Tryd.prog W = .ok (wv k) W := by
  have : Instr.sameBits 10000 (wv k) (wv k) = true := by simp [wv, Instr.sameBits]
  simp [Instr.keyThatStays, this]
/-- What the map holds. -/
def plM (out : List LG.El) (k : LG.El) : Option Value := (fndK out k).map fun j => .int .i64 (j : Int)
theorem pl_look {w : World} {m : Nat} {out : List LG.El} {k : LG.El} (h : MP wv WOK w m (plM out)) (hk : WOK k) :
    (Instr.lookup 44 (.map (some m)) (wv k) true).run Tryd.prog w = .ok (.tuple #[(plM out k).getD (.int .i64 0), .bool (plM out k).isSome]) w :=
  h.look Tryd.underlying44 lawLeg keyOf_wv wv_inj (z := .int .i64 0) (fun W => by kernel_rfl) hk true
theorem pl_put {w : World} {m : Nat} {out : List LG.El} {p : LG.El} (h : MP wv WOK w m (plM out)) (hk : WOK p) (hn : fndK out (wayE p) = none) :
    ∃ w', (Instr.mapUpdate 44 (.map (some m)) (wv (wayE p)) (.int .i64 (out.length : Int))).run Tryd.prog w = .ok () w' ∧ MP wv WOK w' m (plM (out ++ [p])) ∧ w.grownBy w' (some m) := by
  obtain ⟨w', h1, h2, h3, _⟩ := h.put Tryd.underlying44 lawLeg keyOf_wv wv_inj stays_wv hk.way (.int .i64 (out.length : Int))
  refine ⟨w', h1, ?_, h3⟩
  have : plM (out ++ [p]) = fun x => if x = wayE p then some (.int .i64 (out.length : Int)) else plM out x := by
    funext x
    unfold plM
    rw [fndK_snoc hn]
    by_cases e : x = wayE p
    · rw [if_pos e, if_pos e]; rfl
    · rw [if_neg e, if_neg e]
  rw [this]
  exact h2
/-- The program's memory. -/
structure PS (w : World) (B m : Nat) (out : List LG.El) (v : Value) (W : World) : Prop where
  om : LG.OM W B v out
  mp : MP wv WOK W m (plM out)
  lo : Below w.heap.size w W
  sz : B ≤ W.heap.size
  ml : w.heap.size ≤ m ∧ m < B
theorem PS.later {w W W' : World} {B m : Nat} {out : List LG.El} {v : Value} (h : PS w B m out v W) (hb : Below W.heap.size W W') : PS w B m out v W' :=
  ⟨h.om.later hb, h.mp.later hb, h.lo.trans (hb.mono h.lo.size), Nat.le_trans h.sz hb.size, h.ml⟩
theorem PS.put {w W W' : World} {B m : Nat} {out : List LG.El} {v : Value} (h : PS w B m out v W) (hg : W.grownBy W' (some m)) : LG.OM W' B v out ∧ Below w.heap.size w W' ∧ B ≤ W'.heap.size :=
  ⟨owns_blk h.om fun g hg' => hg.block g (World.ownsRow.lt h.om g hg').2 (fun e => by have := (World.ownsRow.lt h.om g hg').1; have := h.ml.2; injection e with e; omega), h.lo.grown hg h.lo.size (fun g e => by injection e with e; subst e; exact h.ml.1), Nat.le_trans h.sz hg.size⟩
theorem mc_set1 : ∀ {l : List LG.El} {i : Nat} {y : LG.El} (q : Int), l[i]? = some y → LG.mc (l.set i (addE y q)) = (LG.mc l).set (i * 5 + 3) (.int .i64 q)
  | [], i, y, q, h => by simp at h
  | x :: t, 0, y, q, h => by
    simp at h; subst h; rfl
  | x :: t, i + 1, y, q, h => by
    have h' : t[i]? = some y := by simpa using h
    rw [List.set_cons_succ, show (i + 1) * 5 + 3 = i * 5 + 3 + 1 + 1 + 1 + 1 + 1 by omega]
    show _ :: _ :: _ :: _ :: _ :: LG.mc (t.set i (addE y q)) = _
    rw [mc_set1 q h']
    rfl
theorem PS.set {w W : World} {B m P cap j : Nat} {out : List LG.El} {y : LG.El} (h : PS w B m out (.slice (some ⟨P, 0, none⟩) out.length cap) W) (hj : out[j]? = some y) (q : Int) :
    PS w B m (out.set j (addE y q)) (.slice (some ⟨P, 0, none⟩) out.length cap) (W.setCell ⟨P, j * 5 + 3, none⟩ (.int .i64 q)) := by
  have h1 := h.om
  have hP : B ≤ P := (World.ownsRow.lt h.om P rfl).1
  unfold LG.OM at h1
  obtain ⟨s0, g0⟩ := h1.stored (j * 5 + 3) (.int .i64 q)
  rw [← mc_set1 q hj] at s0
  refine ⟨?_, ?_, h.lo.grown g0 h.lo.size (fun g e => by injection e with e; subst e; have := h.ml; omega), Nat.le_trans h.sz g0.size, h.ml⟩
  · unfold LG.OM; rw [List.length_set]; exact s0
  · have : plM (out.set j (addE y q)) = plM out := by
      funext x; unfold plM; rw [fndK_set hj (way_add y q)]
    rw [this]
    exact h.mp.kept (g0.block m h.mp.lt (fun e => by injection e with e; have := h.ml.2; omega))
theorem PS.drewN {w W : World} {B m : Nat} {out : List LG.El} {v : Value} (h : PS w B m out v W) (q : Nat) : PS w B m out v (W.drewN q) := ⟨h.om, h.mp, below_dN h.lo q, h.sz, h.ml⟩
end Go.Proofs.YtfhimhjeilnkaaaDoor
