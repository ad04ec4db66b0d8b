/-
  My own text: regions that draw their order, whose callees make new memory alone: one walk in the order of the text, over the class of worlds that have grown.
-/
import Derived.Test.YtmojckejjjlkjabErr
import Derived.BigQuiet
import Derived.Deep.MidRow
namespace Go.Proofs.Ytmojckejjjlkjab
open Go.RowKit

theorem region_class {P : Program} {C : World → Prop} {id : Nat} {Q : Exit → Act → World → Prop} {a : Act} {w : World} {l : List Oper} (hm : P.follows .mixedOrders = true) (hB : Region.lexB .any l.toArray = true) (hC : C w.drew)
    (h : wpQuiet P l.toArray C (fun a' => ∀ w', C w' → Q .normal a' w') l a) : (Code.region id l.toArray true).wp P Q a w :=
  wp_region_quiet hm hB hC (by simpa using h)
theorem rng_later {W w' : World} {b : Nat} {cs : List Value} (hb : Below W.heap.size W w') (h : W.rangeAt b 0 cs) : w'.rangeAt b 0 cs := fun j v hv => by
  have h1 := h j v hv
  rw [hb.cell (p := ⟨b, 0 + j, none⟩) (World.block_lt_of_cell? W _ h1)]; exact h1
theorem quiet_load {P : Program} {o : Oper} {a : Act} {C : World → Prop} {K : Act → Prop} (ty : TypeId) (x : Operand) (h : o.op = .load ty x) (b : Nat) (hx : a.eval x = .pointer (some ⟨b, 0, none⟩)) (cs : List Value) (d : TypeDesc)
    (hc : ∀ w, C w → w.rangeAt b 0 cs) (hu : P.underlying ty = some d) (hd : d.isRow = true) (hi : (P.info? ty).map (·.size) = some cs.length) (hk : K (a.put o.dst (.agg cs.toArray))) : o.quiet P a C K :=
  ⟨_, fun w hw => by
    have hr := run_loadAt_mid (P := P) w b 0 ty cs d (hc w hw) hu hd hi
    unfold Oper.quietAt
    simp [execOp, h, hx, hr, Oper.quietUpon], hk⟩
theorem quiet_load_at {P : Program} {o : Oper} {a : Act} {C : World → Prop} {K : Act → Prop} (ty : TypeId) (x : Operand) (h : o.op = .load ty x) (b n : Nat) (hx : a.eval x = .pointer (some ⟨b, n, none⟩)) (cs : List Value) (d : TypeDesc)
    (hc : ∀ w, C w → w.rangeAt b n cs) (hu : P.underlying ty = some d) (hd : d.isRow = true) (hi : (P.info? ty).map (·.size) = some cs.length) (hk : K (a.put o.dst (.agg cs.toArray))) : o.quiet P a C K :=
  ⟨_, fun w hw => by
    have hr := run_loadAt_mid (P := P) w b n ty cs d (hc w hw) hu hd hi
    unfold Oper.quietAt
    simp [execOp, h, hx, hr, Oper.quietUpon], hk⟩
end Go.Proofs.Ytmojckejjjlkjab
