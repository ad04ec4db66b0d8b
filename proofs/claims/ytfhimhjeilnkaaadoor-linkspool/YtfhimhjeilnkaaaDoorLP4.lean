/-
  My own text: layer 23: the law LinksPool.
-/
import Derived.Test.YtfhimhjeilnkaaaDoorLP2
import Derived.Test.YtfhimhjeilnkaaaDoorLP3
import Derived.Test.YtfhimhjeilnkaaaDoorLW1
import Derived.Test.YtfhimhjeilnkaaaDoorGLL
import Derived.Test.YtfhimhjeilnkaaaDoorGLA
import Derived.Test.YtfhimhjeilnkaaaDoorGLS
import Derived.Test.YtfhimhjeilnkaaaDoorQT2
import Derived.Test.YtfhimhjeilnkaaaDoorGr0
namespace Go.Proofs.YtfhimhjeilnkaaaDoor
open Go.RowKit

/-- Two rows in a literal, each of its own. -/
theorem two_allL {W : World} {B na nb ca cb : Nat} {aa ab : Option Addr} {M N : List LG.El} (ha : LG.OM W B (.slice aa na ca) M) (hb : LG.OM W B (.slice ab nb cb) N) (hd : ∀ x, (Value.slice aa na ca).ownBlock = some x → (Value.slice ab nb cb).ownBlock = some x → False) :
    LG.AllM (W.alloc (.cells #[.slice aa na ca, .slice ab nb cb] 23)) B W.heap.size 2 (fun k => if k = 0 then aa else ab) (fun k => if k = 0 then na else nb) (fun k => if k = 0 then ca else cb) (fun k => if k = 0 then M else N) := by
  have hN := alloc_new W (.cells #[.slice aa na ca, .slice ab nb cb] 23)
  obtain ⟨c0, c1⟩ := pair_cells hN rfl
  have hlt : W.heap.size < (W.alloc (.cells #[.slice aa na ca, .slice ab nb cb] 23)).heap.size := by simp
  refine ⟨hlt, fun k hk => ?_, fun k hk => ?_, fun k hk => ?_, fun j k g hj hk h1 h2 => ?_⟩
  · match k, hk with
    | 0, _ => exact c0
    | 1, _ => exact c1
  · match k, hk with
    | 0, _ => exact World.ownsRow.alloc ha _
    | 1, _ => exact World.ownsRow.alloc hb _
  · match k, hk with
    | 0, _ => exact fun e => by have := (World.ownsRow.lt ha _ e).2; omega
    | 1, _ => exact fun e => by have := (World.ownsRow.lt hb _ e).2; omega
  · match j, k, hj, hk with
    | 0, 0, _, _ => rfl
    | 1, 1, _, _ => rfl
    | 0, 1, _, _ => exact (hd g h1 h2).elim
    | 1, 0, _, _ => exact (hd g h2 h1).elim
theorem pstep_err {o : List LG.El} {p : LG.El} {e : Int} (h : pstep o p = .error e) : e = 16 ∨ e = 9 := by
  unfold pstep at h
  split at h
  · injection h with h; exact .inl h.symm
  · split at h
    · cases h
    · split at h
      · cases h
      · split at h
        · injection h with h; exact .inr h.symm
        · cases h
theorem fold_err : ∀ (F o : List LG.El) {e : Int}, F.foldlM pstep o = .error e → e = 16 ∨ e = 9
  | [], o, e, h => by cases h
  | p :: F, o, e, h => by
    rw [List.foldlM_cons] at h
    cases hp : pstep o p with
    | error e' =>
      rw [hp] at h
      injection h with h
      subst h
      exact pstep_err hp
    | ok o' =>
      rw [hp] at h
      exact fold_err F o' h
theorem poolF_rng (F : List LG.El) : 0 ≤ (poolF F).2 ∧ (poolF F).2 ≤ 24 ∧ (poolF F).1.length ≤ 4 := by
  unfold poolF
  cases h : F.foldlM pstep [] with
  | error e => rcases fold_err F [] h with rfl | rfl <;> simp
  | ok out =>
    dsimp only
    split
    · simp
    · split
      · simp
      · simp; omega
/-- The rows that are lent. -/
structure IR (w1 : World) (T : List LR) (i : Nat) (U : List LR) (v : Value) (W : World) : Prop where
  own : W.ownsRow w1.heap.size 23 1 v U.length (U.map LR.v)
  len : U.length = i
  lent : ∀ (j : Nat) (q p : LR), U[j]? = some q → T[j]? = some p → q.l = p.l ∧ ∃ g, q.a = some ⟨g, 0, none⟩ ∧ LG.LentM W w1.heap.size g q.c p.l
  lo : Below w1.heap.size w1 W
theorem lent_down {w : World} {B B' g cap : Nat} {l : List LG.El} (h : LG.LentM w B g cap l) (hB : B' ≤ B) : LG.LentM w B' g cap l := by
  refine ⟨Nat.le_trans hB h.base, h.own.1, ?_⟩
  rcases h.own.2 with h2 | ⟨g', c', cur, hv, hg, hh, h3⟩
  · exact .inl h2
  · exact .inr ⟨g', c', cur, hv, Nat.le_trans hB hg, hh, h3⟩
theorem lent_kind {w : World} {B g cap : Nat} {l : List LG.El} (h : LG.LentM w B g cap l) : ∃ c fz, w.heap[g]? = some (.cells c 43 fz) := ownsRow_kind h.own g rfl
theorem IR.later {w1 W W' : World} {T U : List LR} {i : Nat} {v : Value} (h : IR w1 T i U v W) (hb : Below W.heap.size W W') : IR w1 T i U v W' :=
  ⟨owns_lat h.own hb, h.len, fun j q p hq hp => by
    obtain ⟨e, g, hg, hl⟩ := h.lent j q p hq hp
    exact ⟨e, g, hg, hl.later hb⟩, h.lo.trans (hb.mono h.lo.size)⟩
theorem IR.app {w1 W W' : World} {T U : List LR} {i g cap : Nat} {v v' : Value} {p : LR} (h : IR w1 T i U v W) (hi : T[i]? = some p) (hl : LG.LentM W w1.heap.size g cap p.l)
    (hown : W'.ownsRow w1.heap.size 23 1 v' (U.length + 1) (U.map LR.v ++ [.slice (some ⟨g, 0, none⟩) p.l.length cap])) (hg : W.grownBy W' v.ownBlock) :
    IR w1 T (i + 1) (U ++ [⟨p.l, some ⟨g, 0, none⟩, cap⟩]) v' W' := by
  have hk : ∀ {g : Nat} {cap : Nat} {l : List LG.El}, LG.LentM W w1.heap.size g cap l → LG.LentM W' w1.heap.size g cap l := fun {g cap l} hl => ⟨hl.base, owns_blk hl.own fun b hb => by
    have hb' : g = b := by injection hb with hb
    subst hb'
    obtain ⟨c, fz, hc⟩ := lent_kind hl
    exact hg.block g (Array.getElem?_eq_some_iff.1 hc).1 (fun e => by
      obtain ⟨c2, f2, hc2⟩ := ownsRow_kind h.own g e.symm
      rw [hc] at hc2
      injection hc2 with hc2
      injection hc2 with _ hc2 _
      exact absurd hc2 (by decide))⟩
  refine ⟨by rw [List.length_append, List.map_append]; exact hown, by rw [List.length_append, h.len]; rfl, fun j q p' hq hp => ?_, h.lo.grown hg h.lo.size (fun b hb => (World.ownsRow.lt h.own b hb).1)⟩
  rw [List.getElem?_append] at hq
  split at hq
  · obtain ⟨e, g', hg', hl'⟩ := h.lent j q p' hq hp
    exact ⟨e, g', hg', hk hl'⟩
  · rename_i hj
    rw [List.getElem?_singleton] at hq
    split at hq
    · rename_i hj2
      injection hq with hq
      subst hq
      have hji : j = i := by have := h.len; omega
      subst hji
      rw [hi] at hp
      injection hp with hp
      subst hp
      exact ⟨rfl, g, rfl, hk hl⟩
    · cases hq
theorem IR.ll {w1 W : World} {T U : List LR} {v : Value} (h : IR w1 T T.length U v W) : LL W v U ∧ Fa U = Fa T := by
  have hm : U.map LR.l = T.map LR.l := by
    apply List.ext_getElem?
    intro j
    rw [List.getElem?_map, List.getElem?_map]
    by_cases hj : j < U.length
    · obtain ⟨q, hq⟩ : ∃ q, U[j]? = some q := ⟨_, List.getElem?_eq_getElem hj⟩
      obtain ⟨p, hp⟩ : ∃ p, T[j]? = some p := ⟨_, List.getElem?_eq_getElem (by have := h.len; omega)⟩
      rw [hq, hp]
      simp [(h.lent j q p hq hp).1]
    · rw [List.getElem?_eq_none (by omega), List.getElem?_eq_none (by have := h.len; omega)]
  refine ⟨⟨fun q hq => ?_, ?_⟩, by unfold Fa; rw [hm]⟩
  · obtain ⟨j, hj⟩ := List.getElem?_of_mem hq
    have hjl := (List.getElem?_eq_some_iff.1 hj).1
    obtain ⟨p, hp⟩ : ∃ p, T[j]? = some p := ⟨_, List.getElem?_eq_getElem (by have := h.len; omega)⟩
    obtain ⟨e, g, hg, hl⟩ := h.lent j q p hj hp
    have := hl.rm
    rw [← e] at this
    unfold LR.v
    rw [hg]
    exact this
  · rcases h.own.2 with ⟨rfl, h0⟩ | ⟨g, cap, cur, rfl, hb, hh, hn2, h3⟩
    · exact ⟨none, 0, by rw [h0], by omega, .inl (List.eq_nil_of_length_eq_zero h0)⟩
    · refine ⟨_, cap, rfl, hn2, .inr ⟨g, 0, rfl, (Array.getElem?_eq_some_iff.1 hh).1, fun j p hj => ?_⟩⟩
      have hjl := (List.getElem?_eq_some_iff.1 hj).1
      rw [Nat.zero_add, World.ownsRow.cellAt h.own j (by omega), List.getElem?_map, hj]
      rfl
end Go.Proofs.YtfhimhjeilnkaaaDoor
