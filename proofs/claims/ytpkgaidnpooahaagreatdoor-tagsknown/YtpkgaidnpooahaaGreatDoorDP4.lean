/-
  My own text: the document's reading: one item more. (Printed by mkadd.py out of DP4.base.)
-/
import Derived.Test.YtpkgaidnpooahaaGreatDoorDP3
import Derived.Test.YtpkgaidnpooahaaGreatDoorQRz
import Derived.Deep.MidRow
import Derived.Deep.RegionWith
import Derived.BigRegion
namespace Go.Proofs.YtpkgaidnpooahaaGreatDoor
open Go.RowKit Go.Extern

section
variable {P : Program} {ops : Array Oper} {Q : Exit → Act → World → Prop} {md : Region.Mode} {S : World → Prop} {z : Nat}
theorem zy {f : Nat} {ls : Array Bool} {tmps : Array Value} {df : List Deferred} {w : World} {oi : Oper} {v : Value} (i d : Nat) (ls' : Array Bool) (hi : ops[i]? = some oi) (hd : oi.dst = some d)
    (hs : Region.noSelect ops = true) (hf : Region.free md ops ls i = true) (hr : (Region.ready md ops ls).contains i = true) (hz : waitsB md ops z i = true)
    (hQ : ∀ c a w, Q (.panic c) (a.put oi.dst v) w → Q (.panic c) a w) (hl : ls.setIfInBounds i true = ls')
    (hy : YieldsIf P ops S oi v ⟨tmps, df⟩) (hS : S w)
    (h : anyZ P md ops Q S z f ls' ⟨tmps.setIfInBounds d v, df⟩ w) : anyZ P md ops Q S z (f + 1) ls ⟨tmps, df⟩ w := by
  refine anyZ_first hi (Region.noSelect_spec hs) hQ hz f ls _ w (Region.free_spec hi hf) (by simpa using hr) hy hS ?_
  rw [hl, hd]; exact h
end
theorem run_app_itm (w : World) (ty : TypeId) (B : Nat) (v : Value) (n : Nat) (xs : List Value) (hown : w.ownsRow B 25 5 v n xs)
    (b : Nat) (news : List Value) (hl : news.length = 5) (hnews : w.rangeAt b 0 news) (h1 : ∀ u ∈ news, u.oneCell' = true) (hB : B ≤ w.heap.size) (hsz : n ≤ 1099511627776) :
    ∃ v' w', (Builtin.append_ #[23, 23] ty #[v, .slice (some ⟨b, 0, none⟩) 1 1]).run Tryz.prog w = .ok v' w' ∧ w'.ownsRow B 25 5 v' (n + 1) (xs ++ news) ∧ w.grownBy w' v.ownBlock ∧ (∀ g, v'.ownBlock = some g → v.ownBlock = some g ∨ w.heap.size ≤ g) := by
  have hnews' : ∀ j u, news[j]? = some u → w.cell? ((⟨b, 0, none⟩ : Addr).add j) = some u := fun j u hj => by rw [Addr.add_mid]; exact hnews j u hj
  obtain ⟨i0, hi, hz0, hz1, hz2⟩ := info_parts Tryz.infoItmq
  rcases hown.2 with ⟨hv, h0⟩ | ⟨g, cap, cur, hv, hb, hh, hn2, hn3⟩
  · subst hv; subst h0
    obtain rfl : xs = [] := List.eq_nil_of_length_eq_zero (by simpa using hown.1)
    obtain ⟨v', w', hrun, r1, r2, _⟩ := run_append_own (P := Tryz.prog) w w.heap.size 23 ty 25 i0 _ 5 88 Tryz.underlying23 hi hz0 hz1 hz2 zItmq (by decide) (.slice none 0 0) 0 [] (World.ownsRow_nil w _ _ 5) ⟨b, 0, none⟩ 1 1 news hl hnews' h1 (by unfold maxLen; omega) (by omega) (Nat.le_refl _)
    exact ⟨v', w', hrun, World.ownsRow.mono r1 hB, r2, fun g hg => .inr (own_ltq r1 g hg).1⟩
  · subst hv
    by_cases hroom : n + 1 ≤ cap
    · obtain ⟨w', hr, h2, h3⟩ := run_append_own_spare (P := Tryz.prog) w B 23 ty 25 i0 5 Tryz.underlying23 hi hz1 g n cap xs hown ⟨b, 0, none⟩ 1 1 news hl hnews' h1 hroom
      exact ⟨_, w', hr, h2, h3, fun g' hg' => .inl hg'⟩
    · obtain ⟨v', w', hrun, r1, r2⟩ := run_append_arg_grows (P := Tryz.prog) w 23 ty 25 i0 _ 5 88 Tryz.underlying23 hi hz0 hz1 hz2 zItmq (by decide) ⟨g, 0, none⟩ n cap xs hown.1 (World.ownsRow.cells hown rfl) ⟨b, 0, none⟩ 1 1 news hl hnews' (by omega) (by unfold maxLen; omega) (by omega)
      exact ⟨v', w', hrun, World.ownsRow.mono r1 hB, ⟨r2.os, r2.tape, r2.output, r2.size, fun k hk _ => r2.block k hk (by intro e; cases e)⟩, fun g' hg' => .inr (own_ltq r1 g' hg').1⟩
theorem op_app_itm {o : Oper} {a : Act} {K : Act → World → Prop} {Q : Exit → Act → World → Prop} {w : World} (s x : Operand) (ho : o.op = .call { callee := .builtin .append, args := #[s, x], argTypes := #[23, 23] }) (v : Value) (b m c : Nat) (hs : a.eval s = v) (hx : a.eval x = .slice (some ⟨b, 0, none⟩) m c)
    (v' : Value) (w' : World) (hr : (Builtin.append_ #[23, 23] o.type #[v, .slice (some ⟨b, 0, none⟩) m c]).run Tryz.prog w = .ok v' w') (h : K (a.put o.dst v') w') : o.wp Tryz.prog a w K Q := by
  unfold Oper.wp execOp
  simp only [ho, resolve, invoke, builtin, Sem.run_bind, Sem.run_pure, Result.andThen_ok, List.map_toArray, List.map_cons, List.map_nil, hs, hx, hr]
  exact h
theorem dp_form {w : World} {B : Nat} {e : TypeId} {k : Nat} {v : Value} {n : Nat} {xs : List Value} (h : w.ownsRow B e k v n xs) (hn : 0 < n) : ∃ g cap, v = .slice (some ⟨g, 0, none⟩) n cap ∧ B ≤ g ∧ g < w.heap.size := by
  rcases h.2 with ⟨_, h0⟩ | ⟨g, cap, cur, hv, hb, hh, _⟩
  · omega
  · exact ⟨g, cap, hv, hb, (Array.getElem?_eq_some_iff.1 hh).1⟩
theorem dp_cap {w : World} {B : Nat} {e : TypeId} {k : Nat} {a : Option Addr} {cap m : Nat} {n : Nat} {xs : List Value} (h : w.ownsRow B e k (.slice a m cap) n xs) : n ≤ cap := by
  rcases h.2 with ⟨h1, rfl⟩ | ⟨g, c, cur, h1, _, _, h3, h4, _⟩
  · injection h1 with _ _ h2; subst h2; exact Nat.le_refl _
  · injection h1 with _ _ h2; subst h2; exact h3
/-- The last item is another one. -/
theorem LV.put {w : World} {B g cap : Nat} {P : Nat → Prop} {l : List Tr} {a b : Tr} {V : List Value} {u y : Value} (h : LV w B P (.slice (some ⟨g, 0, none⟩) (l.length + 1) cap) (l ++ [a]) (V ++ [u]))
    (hy : PT w (fun x => P x ∧ (Value.slice (some ⟨g, 0, none⟩) (l.length + 1) cap).ownBlock ≠ some x) y b.kids) :
    LV (w.setCells g (l.length * 5) (iC b.itm y).toList) B P (.slice (some ⟨g, 0, none⟩) (l.length + 1) cap) (l ++ [b]) (V ++ [y]) := by
  have hl : l.length = V.length := by have := h.len; simp at this; omega
  have hO := own_set (own_set (own_set (own_set (own_set h.row (g := g) rfl (l.length * 5) (.string ⟨b.itm.tag.toArray⟩)) (g := g) rfl (l.length * 5 + 1) (.string ⟨b.itm.qual.toArray⟩)) (g := g) rfl (l.length * 5 + 1 + 1) (.string ⟨b.itm.text.toArray⟩)) (g := g) rfl (l.length * 5 + 1 + 1 + 1) (.string ⟨b.itm.name.toArray⟩)) (g := g) rfl (l.length * 5 + 1 + 1 + 1 + 1) y
  have hw : ((((w.setCell ⟨g, l.length * 5, none⟩ (.string ⟨b.itm.tag.toArray⟩)).setCell ⟨g, l.length * 5 + 1, none⟩ (.string ⟨b.itm.qual.toArray⟩)).setCell ⟨g, l.length * 5 + 1 + 1, none⟩ (.string ⟨b.itm.text.toArray⟩)).setCell ⟨g, l.length * 5 + 1 + 1 + 1, none⟩ (.string ⟨b.itm.name.toArray⟩)).setCell ⟨g, l.length * 5 + 1 + 1 + 1 + 1, none⟩ y = w.setCells g (l.length * 5) (iC b.itm y).toList := by
    unfold iC; rfl
  rw [hw] at hO
  have he : (((((ic (l ++ [a]) (V ++ [u])).set (l.length * 5) (.string ⟨b.itm.tag.toArray⟩)).set (l.length * 5 + 1) (.string ⟨b.itm.qual.toArray⟩)).set (l.length * 5 + 1 + 1) (.string ⟨b.itm.text.toArray⟩)).set (l.length * 5 + 1 + 1 + 1) (.string ⟨b.itm.name.toArray⟩)).set (l.length * 5 + 1 + 1 + 1 + 1) y = ic (l ++ [b]) (V ++ [y]) := by
    have hx := ic_len _ _ hl
    rw [ic_snoc _ _ _ _ hl, ic_snoc _ _ _ _ hl, List.set_append_right _ _ (by omega), List.set_append_right _ _ (by omega), List.set_append_right _ _ (by omega), List.set_append_right _ _ (by omega), List.set_append_right _ _ (by omega), hx, Nat.sub_self, Nat.add_sub_cancel_left, show l.length * 5 + 1 + 1 - l.length * 5 = 2 by omega, show l.length * 5 + 1 + 1 + 1 - l.length * 5 = 3 by omega, show l.length * 5 + 1 + 1 + 1 + 1 - l.length * 5 = 4 by omega]
    rfl
  rw [he] at hO
  have hk : ∀ x, x ≠ g → (w.setCells g (l.length * 5) (iC b.itm y).toList).heap[x]? = w.heap[x]? := fun x hx => by
    rw [← hw]
    repeat rw [Below.heap_setCell _ _ _ x hx]
  have hs : (w.setCells g (l.length * 5) (iC b.itm y).toList).heap.size = w.heap.size := by rw [← hw]; simp [World.setCell]
  refine ⟨by simp [hl], by simpa using hO, h.own, fun j c x h1 h2 => ?_⟩
  by_cases hj : j < l.length
  · rw [List.getElem?_append_left hj] at h1
    rw [List.getElem?_append_left (by omega)] at h2
    exact PT_kept (fun k hk' _ => hk k (fun e => hk'.2 (by rw [e]; rfl))) (by rw [hs]; exact Nat.le_refl _) (fun k hk' _ => hk') _ _ _ (Nat.le_refl _) (h.kids j c x (by rw [List.getElem?_append_left hj]; exact h1) (by rw [List.getElem?_append_left (by omega)]; exact h2))
  · rw [List.getElem?_append_right (by omega)] at h1
    rw [List.getElem?_append_right (by omega)] at h2
    have hj0 : j - l.length = 0 := by have := (List.getElem?_eq_some_iff.1 h1).1; simp at this; omega
    rw [hj0] at h1; rw [← hl, hj0] at h2
    simp at h1 h2; subst h1; subst h2
    exact PT_kept (fun k hk' _ => hk k (fun e => hk'.2 (by rw [e]; rfl))) (by rw [hs]; exact Nat.le_refl _) (fun k hk' _ => hk') _ _ _ (Nat.le_refl _) hy
theorem setCells_heap {g : Nat} : ∀ (vs : List Value) (o : Nat) (w : World) (x : Nat), x ≠ g → (w.setCells g o vs).heap[x]? = w.heap[x]?
  | [], _, _, _, _ => rfl
  | v :: r, o, w, x, hx => by rw [World.setCells, setCells_heap r (o + 1) _ x hx, Below.heap_setCell _ _ _ x hx]
theorem setCells_size : ∀ (vs : List Value) (g o : Nat) (w : World), (w.setCells g o vs).heap.size = w.heap.size
  | [], _, _, _ => rfl
  | v :: r, g, o, w => by rw [World.setCells, setCells_size r g (o + 1)]; simp [World.setCell]
theorem dp_bset {B g : Nat} {a : World} (hg : B ≤ g) : ∀ (vs : List Value) (o : Nat) (w : World), Below B a w → Below B a (w.setCells g o vs)
  | [], _, _, h => h
  | v :: r, o, w, h => by rw [World.setCells]; exact dp_bset hg r (o + 1) _ (h.setCell hg v)
def a0 : Tr := .mk ⟨[], [], [], []⟩ []
theorem LV.there {w : World} {B g cap : Nat} {P : Nat → Prop} {l : List Tr} {a : Tr} {V : List Value} (h : LV w B P (.slice (some ⟨g, 0, none⟩) (l.length + 1) cap) (l ++ [a]) V) : w.there g (l.length * 5) 5 := by
  intro j hj
  have hlen : (ic (l ++ [a]) V).length = (l ++ [a]).length * 5 := ic_len _ _ h.len.symm
  have hlt : l.length * 5 + j < (ic (l ++ [a]) V).length := by rw [hlen]; simp; omega
  have hc := World.ownsRow.cells h.row rfl (l.length * 5 + j) _ (List.getElem?_eq_getElem hlt)
  rw [Addr.add_lit, Nat.zero_add] at hc
  exact ⟨by rw [hc]; rfl, World.ownsRow.frozenAt (by simpa using h.row) (l.length * 5 + j)⟩
/-- The last item of the innermost block is another one. -/
theorem DM.put {w : World} {B R L cap g c : Nat} {lab : Nat → Nat} {lv : List (List UInt8 × List Tr)} {vs : List Value} {nm : List UInt8} {l : List Tr} {a b : Tr} {V : List Value} {u y : Value} {fl : Bool} (h : DM w B R L cap lab (lv ++ [(nm, l ++ [a])]) (vs ++ [.slice (some ⟨g, 0, none⟩) (l.length + 1) c]) fl)
    (hV : LV w B (fun x => lab x = lv.length + 2) (.slice (some ⟨g, 0, none⟩) (l.length + 1) c) (l ++ [a]) (V ++ [u])) (hy : PT w (fun x => lab x = lv.length + 2 ∧ (Value.slice (some ⟨g, 0, none⟩) (l.length + 1) c).ownBlock ≠ some x) y b.kids) :
    DM (w.setCells g (l.length * 5) (iC b.itm y).toList) B R L cap lab (lv ++ [(nm, l ++ [b])]) (vs ++ [.slice (some ⟨g, 0, none⟩) (l.length + 1) c]) fl := by
  have hl := h.top.1
  have hg := hV.own g rfl
  have keep : ∀ x, lab x ≠ lv.length + 2 → (w.setCells g (l.length * 5) (iC b.itm y).toList).heap[x]? = w.heap[x]? := fun x hx => setCells_heap _ _ _ x (fun e => hx (by rw [e]; exact hg))
  refine ⟨?_, ?_, by simp [hl], fun k q x h1 h2 => ?_, h.lR, h.lL, h.bR⟩
  · have := h.bx
    unfold Bk at this ⊢
    rw [keep R (by rw [h.lR]; omega), this]; simp
  · have r1 := owns_blkq h.row (w' := w.setCells g (l.length * 5) (iC b.itm y).toList) (fun y e => by cases e; exact keep L (by rw [h.lL]; omega))
    rw [lvC_snoc _ _ _ _ hl] at r1 ⊢
    simpa using r1
  · by_cases hk : k < lv.length
    · rw [List.getElem?_append_left hk] at h1
      rw [List.getElem?_append_left (by omega)] at h2
      obtain ⟨V', hV'⟩ := h.lvl k q x (by rw [List.getElem?_append_left hk]; exact h1) (by rw [List.getElem?_append_left (by omega)]; exact h2)
      exact ⟨V', hV'.kept (by rw [setCells_size]; exact Nat.le_refl _) (fun y hy _ => keep y (by rw [hy]; omega)) (fun y hy _ => hy)⟩
    · have hk0 : k - lv.length = 0 := by rw [List.getElem?_append_right (by omega)] at h1; have := (List.getElem?_eq_some_iff.1 h1).1; simp at this; omega
      rw [List.getElem?_append_right (by omega), hk0] at h1
      rw [List.getElem?_append_right (by omega), ← hl, hk0] at h2
      simp at h1 h2; subst h1; subst h2
      have ke : k = lv.length := by omega
      subst ke
      exact ⟨_, hV.put hy⟩
set_option maxRecDepth 100000 in
set_option maxHeartbeats 4000000 in
theorem add_any {B R L cap : Nat} {lab : Nat → Nat} {lv : List (List UInt8 × List Tr)} {vs : List Value} {nm : List UInt8} {l : List Tr} {v : Value} {fl : Bool} (a : Tr) (u : Value) (w : World) (h : DM w B R L cap lab (lv ++ [(nm, l)]) (vs ++ [v]) fl)
    (hu : PT w (fun x => lab x = lv.length + 2 ∧ v.ownBlock ≠ some x) u a.kids) (hn : lv.length ≤ 100) (hl : l.length ≤ 2097152) :
    Calls Tryz.prog 78 #[.pointer (some ⟨R, 0, none⟩), .agg (iC a.itm u)] w fun e w' => e = .returned (.tuple #[]) ∧ (∃ lab' v', DM w' B R L cap lab' (lv ++ [(nm, l ++ [a])]) (vs ++ [v']) fl) ∧ Below B w w' := by
  obtain ⟨V, hV⟩ := h.top.2.1
  obtain ⟨ua, ucap, hu1, hu2⟩ := hu
  have HU : Hid (PT w (fun x => lab x = lv.length + 2 ∧ v.ownBlock ≠ some x) (.slice ua a.kids.length ucap) a.kids) := hide ⟨ua, ucap, rfl, hu2⟩
  subst hu1
  clear hu2
  obtain ⟨va, vcap, hv⟩ := st_shape hV.row
  subst hv
  obtain ⟨m, hm⟩ : ∃ m, m = lv.length := ⟨_, rfl⟩
  have hBw : B ≤ w.heap.size := by have := h.bx.lt; have := h.bR; omega
  have hcp : l.length ≤ vcap := dp_cap hV.row
  have H := hide h
  have HV := hide hV
  have HL := hide hl
  unfold iC
  have c0 : (w.alloc (.cells #[.string ⟨a.itm.tag.toArray⟩, .string ⟨a.itm.qual.toArray⟩, .string ⟨a.itm.text.toArray⟩, .string ⟨a.itm.name.toArray⟩, .slice ua a.kids.length ucap] 25)).cell? ⟨R, 0, none⟩ = some (.slice (some ⟨L, 0, none⟩) (m + 1) cap) := by
    have := (h.bx.alloc (.cells #[.string ⟨a.itm.tag.toArray⟩, .string ⟨a.itm.qual.toArray⟩, .string ⟨a.itm.text.toArray⟩, .string ⟨a.itm.name.toArray⟩, .slice ua a.kids.length ucap] 25)).cell 0
    simp only [List.getElem?_toArray, List.getElem?_cons_zero, List.length_append, List.length_cons, List.length_nil, Nat.zero_add, ← hm] at this
    exact this
  have hm1 : m ≤ 100 := by omega
  have HM := hide hm
  clear hm h hV hn hl
  go_enter Tryz.func78, Tryz.ntmps78
  go_wp2_with fail
  go_region_with fail
  · have BW := hide ((((Below.refl w.heap.size w).alloc (Nat.le_refl _) (.cells #[.string ⟨a.itm.tag.toArray⟩, .string ⟨a.itm.qual.toArray⟩, .string ⟨a.itm.text.toArray⟩, .string ⟨a.itm.name.toArray⟩, .slice ua a.kids.length ucap] 25)).alloc (by simp) (.cells #[.bool false] 4)).drew.drew)
    have RG : Hid ((((w.alloc (.cells #[.string ⟨a.itm.tag.toArray⟩, .string ⟨a.itm.qual.toArray⟩, .string ⟨a.itm.text.toArray⟩, .string ⟨a.itm.name.toArray⟩, .slice ua a.kids.length ucap] 25)).alloc (.cells #[.bool false] 4)).drew.drew).rangeAt w.heap.size 0 [.string ⟨a.itm.tag.toArray⟩, .string ⟨a.itm.qual.toArray⟩, .string ⟨a.itm.text.toArray⟩, .string ⟨a.itm.name.toArray⟩, .slice ua a.kids.length ucap]) := hide (fun j u hj => by
      rw [Nat.zero_add]
      show ((w.alloc (.cells #[.string ⟨a.itm.tag.toArray⟩, .string ⟨a.itm.qual.toArray⟩, .string ⟨a.itm.text.toArray⟩, .string ⟨a.itm.name.toArray⟩, .slice ua a.kids.length ucap] 25)).alloc (.cells #[.bool false] 4)).cell? _ = _
      rw [World.cell?_alloc_lt _ _ ⟨w.heap.size, j, none⟩ (by simp)]
      match j, hj with
      | 0, hj => simp at hj; subst hj; simp
      | 1, hj => simp at hj; subst hj; simp
      | 2, hj => simp at hj; subst hj; simp
      | 3, hj => simp at hj; subst hj; simp
      | 4, hj => simp at hj; subst hj; simp)
    clear c0
    generalize ((w.alloc (.cells #[.string ⟨a.itm.tag.toArray⟩, .string ⟨a.itm.qual.toArray⟩, .string ⟨a.itm.text.toArray⟩, .string ⟨a.itm.name.toArray⟩, .slice ua a.kids.length ucap] 25)).alloc (.cells #[.bool false] 4)).drew = W0 at *
    obtain ⟨W1, hW1⟩ : ∃ W1, W1 = W0.drew := ⟨_, rfl⟩
    rw [← hW1] at BW RG
    have D1 := hide (H.out.later BW.out)
    have V1 := hide (HV.out.kept (P' := fun x => lab x = lv.length + 2) BW.out.size (fun x _ hx => BW.out.block x hx) (fun x hx _ => hx))
    have U1 := hide (PT_kept (S' := fun x => lab x = lv.length + 2 ∧ (Value.slice va l.length vcap).ownBlock ≠ some x) (fun x _ hx => BW.out.block x hx) BW.out.size (fun x hx _ => hx) _ _ _ (Nat.le_refl _) HU.out)
    obtain ⟨X, hX⟩ : ∃ X, X = w.heap.size := ⟨_, rfl⟩
    rw [← hX] at RG ⊢
    have HX : Hid (X < W1.heap.size) := hide (World.block_lt_of_cell? W1 ⟨X, 0 + 0, none⟩ (RG.out 0 _ rfl))
    have C0 : Hid (W1.cell? ⟨R, 0, none⟩ = some (.slice (some ⟨L, 0, none⟩) (m + 1) cap)) := hide (by
      have := D1.out.bx.cell 0
      simp only [List.getElem?_toArray, List.getElem?_cons_zero, List.length_append, List.length_cons, List.length_nil, Nat.zero_add, ← HM.out] at this
      exact this)
    have C1 : Hid (W1.cell? ⟨L, m * 2 + 1, none⟩ = some (.slice va l.length vcap)) := hide (by rw [HM.out]; exact D1.out.top.2.2.2)
    have BN := hide ((Below.refl W1.heap.size W1).alloc (Nat.le_refl _) (.cells #[.string ⟨a.itm.tag.toArray⟩, .string ⟨a.itm.qual.toArray⟩, .string ⟨a.itm.text.toArray⟩, .string ⟨a.itm.name.toArray⟩, .slice ua a.kids.length ucap] 25))
    have D2 := hide (D1.out.later BN.out)
    have V2 := hide (V1.out.kept (P' := fun x => lab x = lv.length + 2) BN.out.size (fun x _ hx => BN.out.block x hx) (fun x hx _ => hx))
    have U2 := hide (PT_kept (S' := fun x => lab x = lv.length + 2 ∧ (Value.slice va l.length vcap).ownBlock ≠ some x) (fun x _ hx => BN.out.block x hx) BN.out.size (fun x hx _ => hx) _ _ _ (Nat.le_refl _) U1.out)
    have C0n := hide ((BN.out.cell (p := ⟨R, 0, none⟩) (D1.out.bx.lt)).trans C0.out)
    have C1n := hide ((BN.out.cell (p := ⟨L, m * 2 + 1, none⟩) ((own_ltq D1.out.row L rfl).2)).trans C1.out)
    have X1n := hide (World.rangeAt_alloc RG.out (.cells #[.string ⟨a.itm.tag.toArray⟩, .string ⟨a.itm.qual.toArray⟩, .string ⟨a.itm.text.toArray⟩, .string ⟨a.itm.name.toArray⟩, .slice ua a.kids.length ucap] 25))
    have HVX : Hid (∀ x, (Value.slice va l.length vcap).ownBlock = some x → x < w.heap.size) := hide (fun x hx => (own_ltq HV.out.row x hx).2)
    obtain ⟨v', w2, hrun, hown, hgrow, hfresh⟩ := run_app_itm (W1.alloc (.cells #[.string ⟨a.itm.tag.toArray⟩, .string ⟨a.itm.qual.toArray⟩, .string ⟨a.itm.text.toArray⟩, .string ⟨a.itm.name.toArray⟩, .slice ua a.kids.length ucap] 25)) 23 B (.slice va l.length vcap) l.length (ic l V) V2.out.row W1.heap.size [.string ⟨a.itm.tag.toArray⟩, .string ⟨a.itm.qual.toArray⟩, .string ⟨a.itm.text.toArray⟩, .string ⟨a.itm.name.toArray⟩, .slice ua a.kids.length ucap] rfl (fun j u hj => by
      rw [Nat.zero_add]
      match j, hj with
      | 0, hj => simp at hj; subst hj; simp
      | 1, hj => simp at hj; subst hj; simp
      | 2, hj => simp at hj; subst hj; simp
      | 3, hj => simp at hj; subst hj; simp
      | 4, hj => simp at hj; subst hj; simp) (by intro u hu; simp at hu; (repeat' (first | (rcases hu with rfl | hu) | subst hu)) <;> rfl) (by have := BW.out.size; simp; omega) (by have := HL.out; omega)
    obtain ⟨g', c', rfl, hgB, hgl⟩ := dp_form hown (by omega)
    have HRUN := hide hrun
    have HOWN := hide hown
    have HGR := hide hgrow
    have HFR := hide hfresh
    have hneR : some R ≠ (Value.slice va l.length vcap).ownBlock := fun e => by have := HV.out.own R e.symm; rw [H.out.lR] at this; omega
    have hneL : some L ≠ (Value.slice va l.length vcap).ownBlock := fun e => by have := HV.out.own L e.symm; rw [H.out.lL] at this; omega
    have hneX : some X ≠ (Value.slice va l.length vcap).ownBlock := fun e => by have := HVX.out X e.symm; omega
    have C0g := hide (hgrow.cell C0n.out hneR)
    have C1g := hide (hgrow.cell C1n.out hneL)
    have X1g : Hid (w2.rangeAt X 0 [.string ⟨a.itm.tag.toArray⟩, .string ⟨a.itm.qual.toArray⟩, .string ⟨a.itm.text.toArray⟩, .string ⟨a.itm.name.toArray⟩, .slice ua a.kids.length ucap]) := hide (fun j u hj => hgrow.cell (X1n.out j u hj) hneX)
    have HLb : Hid (B ≤ L) := hide (own_ltq D1.out.row L rfl).1
    have L2 : Hid (L < w2.heap.size) := hide (World.block_lt_of_cell? w2 ⟨L, m * 2 + 1, none⟩ C1g.out)
    have F2 : Hid (w2.frozen? ⟨L, m * 2 + 1, none⟩ = false) := hide (by
      have r := owns_blkq D2.out.row (w' := w2) (fun g e => by cases e; exact hgrow.block L (own_ltq D2.out.row L rfl).2 hneL)
      exact World.ownsRow.frozenAt r (m * 2 + 1))
    have B2 : Hid (Below B w w2) := hide (((BW.out.mono hBw).trans (BN.out.mono (by have := BW.out.size; omega))).grown hgrow (by have := BW.out.size; simp; omega) (fun g e => (own_ltq HV.out.row g e).1))
    clear hrun hown hgrow hfresh hneR hneL hneX
    go_wp2_with fail
    refine z_begins (S := fun W => W.cell? ⟨R, 0, none⟩ = some (.slice (some ⟨L, 0, none⟩) (m + 1) cap) ∧ W.cell? ⟨L, m * 2 + 1, none⟩ = some (.slice va l.length vcap) ∧ W.rangeAt X 0 [.string ⟨a.itm.tag.toArray⟩, .string ⟨a.itm.qual.toArray⟩, .string ⟨a.itm.text.toArray⟩, .string ⟨a.itm.name.toArray⟩, .slice ua a.kids.length ucap]) 18 19 #[false, false, false, false, false, false, false, false, false, false, false, false, false, false, false, false, false, false, false] (by kernel_rfl) (by kernel_rfl) (by kernel_rfl) ?hS0 (fun hHeld => ?_)
    case hS0 => rw [← hW1]; exact ⟨C0.out, C1.out, RG.out⟩
    rw [← hW1] at hHeld ⊢
    clear hW1
    refine zk (v := ?_) 0 28 #[true, false, false, false, false, false, false, false, false, false, false, false, false, false, false, false, false, false, false] rfl rfl (by kernel_rfl) (by kernel_rfl) (by kernel_rfl) (by kernel_rfl) (fun _ _ _ h => h) (by kernel_rfl) (by rfl) ?hy hHeld ?_
    case hy => rintro W ⟨hS1, hS2, hS3⟩; first | (go_simp; done) | (go_simp; with_reducible rfl) | (go_simp; rw [if_pos (by omega)])
    simp only [List.setIfInBounds_toArray, List.set_cons_zero, List.set_cons_succ]
    refine zk (v := ?_) 1 29 #[true, true, false, false, false, false, false, false, false, false, false, false, false, false, false, false, false, false, false] rfl rfl (by kernel_rfl) (by kernel_rfl) (by kernel_rfl) (by kernel_rfl) (fun _ _ _ h => h) (by kernel_rfl) (by rfl) ?hy hHeld ?_
    case hy => rintro W ⟨hS1, hS2, hS3⟩; first | (go_simp; done) | (go_simp; with_reducible rfl) | (go_simp; rw [if_pos (by omega)])
    simp only [List.setIfInBounds_toArray, List.set_cons_zero, List.set_cons_succ]
    refine zk (v := ?_) 2 30 #[true, true, true, false, false, false, false, false, false, false, false, false, false, false, false, false, false, false, false] rfl rfl (by kernel_rfl) (by kernel_rfl) (by kernel_rfl) (by kernel_rfl) (fun _ _ _ h => h) (by kernel_rfl) (by rfl) ?hy hHeld ?_
    case hy => rintro W ⟨hS1, hS2, hS3⟩; first | (go_simp; done) | (go_simp; with_reducible rfl) | (go_simp; rw [if_pos (by omega)])
    simp only [List.setIfInBounds_toArray, List.set_cons_zero, List.set_cons_succ]
    refine zk (v := ?_) 3 31 #[true, true, true, true, false, false, false, false, false, false, false, false, false, false, false, false, false, false, false] rfl rfl (by kernel_rfl) (by kernel_rfl) (by kernel_rfl) (by kernel_rfl) (fun _ _ _ h => h) (by kernel_rfl) (by rfl) ?hy hHeld ?_
    case hy => rintro W ⟨hS1, hS2, hS3⟩; first | (go_simp; done) | (go_simp; with_reducible rfl) | (go_simp; rw [if_pos (by omega)])
    simp only [List.setIfInBounds_toArray, List.set_cons_zero, List.set_cons_succ]
    refine zk (v := ?_) 4 32 #[true, true, true, true, true, false, false, false, false, false, false, false, false, false, false, false, false, false, false] rfl rfl (by kernel_rfl) (by kernel_rfl) (by kernel_rfl) (by kernel_rfl) (fun _ _ _ h => h) (by kernel_rfl) (by rfl) ?hy hHeld ?_
    case hy => rintro W ⟨hS1, hS2, hS3⟩; first | (go_simp; done) | (go_simp; with_reducible rfl) | (go_simp; rw [if_pos (by omega)])
    simp only [List.setIfInBounds_toArray, List.set_cons_zero, List.set_cons_succ]
    refine zk (v := ?_) 5 33 #[true, true, true, true, true, true, false, false, false, false, false, false, false, false, false, false, false, false, false] rfl rfl (by kernel_rfl) (by kernel_rfl) (by kernel_rfl) (by kernel_rfl) (fun _ _ _ h => h) (by kernel_rfl) (by rfl) ?hy hHeld ?_
    case hy => rintro W ⟨hS1, hS2, hS3⟩; first | (go_simp; done) | (go_simp; with_reducible rfl) | (go_simp; rw [if_pos (by omega)])
    simp only [List.setIfInBounds_toArray, List.set_cons_zero, List.set_cons_succ]
    refine zk (v := ?_) 6 34 #[true, true, true, true, true, true, true, false, false, false, false, false, false, false, false, false, false, false, false] rfl rfl (by kernel_rfl) (by kernel_rfl) (by kernel_rfl) (by kernel_rfl) (fun _ _ _ h => h) (by kernel_rfl) (by rfl) ?hy hHeld ?_
    case hy => rintro W ⟨hS1, hS2, hS3⟩; first | (go_simp; done) | (go_simp; with_reducible rfl) | (go_simp; rw [if_pos (by omega)])
    simp only [List.setIfInBounds_toArray, List.set_cons_zero, List.set_cons_succ]
    refine zk (v := ?_) 7 35 #[true, true, true, true, true, true, true, true, false, false, false, false, false, false, false, false, false, false, false] rfl rfl (by kernel_rfl) (by kernel_rfl) (by kernel_rfl) (by kernel_rfl) (fun _ _ _ h => h) (by kernel_rfl) (by rfl) ?hy hHeld ?_
    case hy => rintro W ⟨hS1, hS2, hS3⟩; first | (go_simp; done) | (go_simp; with_reducible rfl) | (go_simp; rw [if_pos (by omega)])
    simp only [List.setIfInBounds_toArray, List.set_cons_zero, List.set_cons_succ]
    refine zk (v := ?_) 8 36 #[true, true, true, true, true, true, true, true, true, false, false, false, false, false, false, false, false, false, false] rfl rfl (by kernel_rfl) (by kernel_rfl) (by kernel_rfl) (by kernel_rfl) (fun _ _ _ h => h) (by kernel_rfl) (by rfl) ?hy hHeld ?_
    case hy => rintro W ⟨hS1, hS2, hS3⟩; first | (go_simp; done) | (go_simp; with_reducible rfl) | (go_simp; rw [if_pos (by omega)])
    simp only [List.setIfInBounds_toArray, List.set_cons_zero, List.set_cons_succ]
    refine zk (v := ?_) 9 37 #[true, true, true, true, true, true, true, true, true, true, false, false, false, false, false, false, false, false, false] rfl rfl (by kernel_rfl) (by kernel_rfl) (by kernel_rfl) (by kernel_rfl) (fun _ _ _ h => h) (by kernel_rfl) (by rfl) ?hy hHeld ?_
    case hy => rintro W ⟨hS1, hS2, hS3⟩; first | (go_simp; done) | (go_simp; with_reducible rfl) | (go_simp; rw [if_pos (by omega)])
    simp only [List.setIfInBounds_toArray, List.set_cons_zero, List.set_cons_succ]
    refine zk (v := ?_) 10 38 #[true, true, true, true, true, true, true, true, true, true, true, false, false, false, false, false, false, false, false] rfl rfl (by kernel_rfl) (by kernel_rfl) (by kernel_rfl) (by kernel_rfl) (fun _ _ _ h => h) (by kernel_rfl) (by rfl) ?hy hHeld ?_
    case hy => rintro W ⟨hS1, hS2, hS3⟩; first | (go_simp; done) | (go_simp; with_reducible rfl) | (go_simp; rw [if_pos (by omega)])
    simp only [List.setIfInBounds_toArray, List.set_cons_zero, List.set_cons_succ]
    refine zk (v := ?_) 11 39 #[true, true, true, true, true, true, true, true, true, true, true, true, false, false, false, false, false, false, false] rfl rfl (by kernel_rfl) (by kernel_rfl) (by kernel_rfl) (by kernel_rfl) (fun _ _ _ h => h) (by kernel_rfl) (by rfl) ?hy hHeld ?_
    case hy => rintro W ⟨hS1, hS2, hS3⟩; first | (go_simp; done) | (go_simp; with_reducible rfl) | (go_simp; rw [if_pos (by omega)])
    simp only [List.setIfInBounds_toArray, List.set_cons_zero, List.set_cons_succ]
    refine zk (v := ?_) 12 40 #[true, true, true, true, true, true, true, true, true, true, true, true, true, false, false, false, false, false, false] rfl rfl (by kernel_rfl) (by kernel_rfl) (by kernel_rfl) (by kernel_rfl) (fun _ _ _ h => h) (by kernel_rfl) (by rfl) ?hy hHeld ?_
    case hy => rintro W ⟨hS1, hS2, hS3⟩; first | (go_simp; done) | (go_simp; with_reducible rfl) | (go_simp; rw [if_pos (by omega)])
    simp only [List.setIfInBounds_toArray, List.set_cons_zero, List.set_cons_succ]
    refine zy (v := .agg #[.string ⟨a.itm.tag.toArray⟩, .string ⟨a.itm.qual.toArray⟩, .string ⟨a.itm.text.toArray⟩, .string ⟨a.itm.name.toArray⟩, .slice ua a.kids.length ucap]) 13 41 #[true, true, true, true, true, true, true, true, true, true, true, true, true, true, false, false, false, false, false] rfl rfl (by kernel_rfl) (by kernel_rfl) (by kernel_rfl) (by kernel_rfl) (fun _ _ _ h => h) (by kernel_rfl) (yieldsIf_load_mid (by rfl) 25 (.tmp 3) rfl X 0 rfl [.string ⟨a.itm.tag.toArray⟩, .string ⟨a.itm.qual.toArray⟩, .string ⟨a.itm.text.toArray⟩, .string ⟨a.itm.name.toArray⟩, .slice ua a.kids.length ucap] _ (fun _ h => h.2.2) Tryz.underlying25 rfl Tryz.sizeItm) hHeld ?_
    simp only [List.setIfInBounds_toArray, List.set_cons_zero, List.set_cons_succ]
    refine z_ready 14 #[true, true, true, true, true, true, true, true, true, true, true, true, true, true, true, false, false, false, false] rfl (by kernel_rfl) (by kernel_rfl) (by rfl) (fun K hK => ?_)
    go_simp
    refine hK.out _ _ (fun _ => ⟨?hc0, ?hc1, ?hc2⟩) (fun hHeld => ?_)
    case hc0 => exact C0n.out
    case hc1 => exact C1n.out
    case hc2 => exact X1n.out
    replace hHeld := hHeld (by decide)
    clear hK K
    refine z_ready 15 #[true, true, true, true, true, true, true, true, true, true, true, true, true, true, true, true, false, false, false] rfl (by kernel_rfl) (by kernel_rfl) (by rfl) (fun K hK => ?_)
    refine op_app_itm _ _ rfl _ _ 1 1 rfl rfl _ w2 HRUN.out ?_
    (try simp only [Act.put, List.setIfInBounds_toArray])
    refine hK.out _ _ (fun _ => ⟨C0g.out, C1g.out, X1g.out⟩) (fun hHeld => ?_)
    replace hHeld := hHeld (by decide)
    clear hK K
    refine z_ready 16 #[true, true, true, true, true, true, true, true, true, true, true, true, true, true, true, true, true, false, false] rfl (by kernel_rfl) (by kernel_rfl) (by rfl) (fun K hK => ?_)
    go_simp
    rw [if_pos (show (m : Int) < (m : Int) + 1 by omega)]
    go_simp
    refine hK.out _ _ (fun _ => hHeld) (fun hHeld => ?_)
    replace hHeld := hHeld (by decide)
    clear hK K
    refine z_ready 17 #[true, true, true, true, true, true, true, true, true, true, true, true, true, true, true, true, true, true, false] rfl (by kernel_rfl) (by kernel_rfl) (by rfl) (fun K hK => ?_)
    go_simp
    refine hK.out _ _ (fun _ => hHeld) (fun hHeld => ?_)
    replace hHeld := hHeld (by decide)
    clear hK K
    refine z_ready 18 #[true, true, true, true, true, true, true, true, true, true, true, true, true, true, true, true, true, true, true] rfl (by kernel_rfl) (by kernel_rfl) (by rfl) (fun K hK => ?_)
    have c1g := C1g.out
    have f2 := F2.out
    go_simp
    refine hK.out _ _ (fun h => absurd rfl h) (fun _ => ?_)
    clear hK K
    refine z_done (by kernel_rfl) ?_ _
    have D3 : Hid (DM (w2.setCell ⟨L, m * 2 + 1, none⟩ (.slice (some ⟨g', 0, none⟩) (l.length + 1) c')) B R L cap (fun x => if (W1.alloc (.cells #[.string ⟨a.itm.tag.toArray⟩, .string ⟨a.itm.qual.toArray⟩, .string ⟨a.itm.text.toArray⟩, .string ⟨a.itm.name.toArray⟩, .slice ua a.kids.length ucap] 25)).heap.size ≤ x then lv.length + 2 else lab x) (lv ++ [(nm, l ++ [a])]) (vs ++ [.slice (some ⟨g', 0, none⟩) (l.length + 1) c']) fl) := hide (by
      rw [HM.out]
      exact D2.out.add V2.out HOWN.out HGR.out HFR.out U2.out)
    go_wp2_with fail
    go_end0
    exact ⟨rfl, ⟨_, _, D3.out⟩, B2.out.setCell HLb.out _⟩
  · have BW := hide ((((Below.refl w.heap.size w).alloc (Nat.le_refl _) (.cells #[.string ⟨a.itm.tag.toArray⟩, .string ⟨a.itm.qual.toArray⟩, .string ⟨a.itm.text.toArray⟩, .string ⟨a.itm.name.toArray⟩, .slice ua a.kids.length ucap] 25)).alloc (by simp) (.cells #[.bool true] 4)).drew.drew)
    have RG : Hid ((((w.alloc (.cells #[.string ⟨a.itm.tag.toArray⟩, .string ⟨a.itm.qual.toArray⟩, .string ⟨a.itm.text.toArray⟩, .string ⟨a.itm.name.toArray⟩, .slice ua a.kids.length ucap] 25)).alloc (.cells #[.bool true] 4)).drew.drew).rangeAt w.heap.size 0 [.string ⟨a.itm.tag.toArray⟩, .string ⟨a.itm.qual.toArray⟩, .string ⟨a.itm.text.toArray⟩, .string ⟨a.itm.name.toArray⟩, .slice ua a.kids.length ucap]) := hide (fun j u hj => by
      rw [Nat.zero_add]
      show ((w.alloc (.cells #[.string ⟨a.itm.tag.toArray⟩, .string ⟨a.itm.qual.toArray⟩, .string ⟨a.itm.text.toArray⟩, .string ⟨a.itm.name.toArray⟩, .slice ua a.kids.length ucap] 25)).alloc (.cells #[.bool true] 4)).cell? _ = _
      rw [World.cell?_alloc_lt _ _ ⟨w.heap.size, j, none⟩ (by simp)]
      match j, hj with
      | 0, hj => simp at hj; subst hj; simp
      | 1, hj => simp at hj; subst hj; simp
      | 2, hj => simp at hj; subst hj; simp
      | 3, hj => simp at hj; subst hj; simp
      | 4, hj => simp at hj; subst hj; simp)
    clear c0
    generalize ((w.alloc (.cells #[.string ⟨a.itm.tag.toArray⟩, .string ⟨a.itm.qual.toArray⟩, .string ⟨a.itm.text.toArray⟩, .string ⟨a.itm.name.toArray⟩, .slice ua a.kids.length ucap] 25)).alloc (.cells #[.bool true] 4)).drew = W0 at *
    obtain ⟨W1, hW1⟩ : ∃ W1, W1 = W0.drew := ⟨_, rfl⟩
    rw [← hW1] at BW RG
    have D1 := hide (H.out.later BW.out)
    have V1 := hide (HV.out.kept (P' := fun x => lab x = lv.length + 2) BW.out.size (fun x _ hx => BW.out.block x hx) (fun x hx _ => hx))
    have U1 := hide (PT_kept (S' := fun x => lab x = lv.length + 2 ∧ (Value.slice va l.length vcap).ownBlock ≠ some x) (fun x _ hx => BW.out.block x hx) BW.out.size (fun x hx _ => hx) _ _ _ (Nat.le_refl _) HU.out)
    obtain ⟨X, hX⟩ : ∃ X, X = w.heap.size := ⟨_, rfl⟩
    rw [← hX] at RG ⊢
    have HX : Hid (X < W1.heap.size) := hide (World.block_lt_of_cell? W1 ⟨X, 0 + 0, none⟩ (RG.out 0 _ rfl))
    have C0 : Hid (W1.cell? ⟨R, 0, none⟩ = some (.slice (some ⟨L, 0, none⟩) (m + 1) cap)) := hide (by
      have := D1.out.bx.cell 0
      simp only [List.getElem?_toArray, List.getElem?_cons_zero, List.length_append, List.length_cons, List.length_nil, Nat.zero_add, ← HM.out] at this
      exact this)
    have C1 : Hid (W1.cell? ⟨L, m * 2 + 1, none⟩ = some (.slice va l.length vcap)) := hide (by rw [HM.out]; exact D1.out.top.2.2.2)
    have BN := hide ((Below.refl W1.heap.size W1).alloc (Nat.le_refl _) (.cells #[.string ⟨#[]⟩, .string ⟨#[]⟩, .string ⟨#[]⟩, .string ⟨#[]⟩, .slice none 0 0] 25))
    have D2 := hide (D1.out.later BN.out)
    have V2 := hide (V1.out.kept (P' := fun x => lab x = lv.length + 2) BN.out.size (fun x _ hx => BN.out.block x hx) (fun x hx _ => hx))
    have U2 := hide (PT_kept (S' := fun x => lab x = lv.length + 2 ∧ (Value.slice va l.length vcap).ownBlock ≠ some x) (fun x _ hx => BN.out.block x hx) BN.out.size (fun x hx _ => hx) _ _ _ (Nat.le_refl _) U1.out)
    have C0n := hide ((BN.out.cell (p := ⟨R, 0, none⟩) (D1.out.bx.lt)).trans C0.out)
    have C1n := hide ((BN.out.cell (p := ⟨L, m * 2 + 1, none⟩) ((own_ltq D1.out.row L rfl).2)).trans C1.out)
    have X1n := hide (World.rangeAt_alloc RG.out (.cells #[.string ⟨#[]⟩, .string ⟨#[]⟩, .string ⟨#[]⟩, .string ⟨#[]⟩, .slice none 0 0] 25))
    have HVX : Hid (∀ x, (Value.slice va l.length vcap).ownBlock = some x → x < w.heap.size) := hide (fun x hx => (own_ltq HV.out.row x hx).2)
    obtain ⟨v', w2, hrun, hown, hgrow, hfresh⟩ := run_app_itm (W1.alloc (.cells #[.string ⟨#[]⟩, .string ⟨#[]⟩, .string ⟨#[]⟩, .string ⟨#[]⟩, .slice none 0 0] 25)) 23 B (.slice va l.length vcap) l.length (ic l V) V2.out.row W1.heap.size [.string ⟨#[]⟩, .string ⟨#[]⟩, .string ⟨#[]⟩, .string ⟨#[]⟩, .slice none 0 0] rfl (fun j u hj => by
      rw [Nat.zero_add]
      match j, hj with
      | 0, hj => simp at hj; subst hj; simp
      | 1, hj => simp at hj; subst hj; simp
      | 2, hj => simp at hj; subst hj; simp
      | 3, hj => simp at hj; subst hj; simp
      | 4, hj => simp at hj; subst hj; simp) (by intro u hu; simp at hu; (repeat' (first | (rcases hu with rfl | hu) | subst hu)) <;> rfl) (by have := BW.out.size; simp; omega) (by have := HL.out; omega)
    obtain ⟨g', c', rfl, hgB, hgl⟩ := dp_form hown (by omega)
    have HRUN := hide hrun
    have HOWN := hide hown
    have HGR := hide hgrow
    have HFR := hide hfresh
    have hneR : some R ≠ (Value.slice va l.length vcap).ownBlock := fun e => by have := HV.out.own R e.symm; rw [H.out.lR] at this; omega
    have hneL : some L ≠ (Value.slice va l.length vcap).ownBlock := fun e => by have := HV.out.own L e.symm; rw [H.out.lL] at this; omega
    have hneX : some X ≠ (Value.slice va l.length vcap).ownBlock := fun e => by have := HVX.out X e.symm; omega
    have C0g := hide (hgrow.cell C0n.out hneR)
    have C1g := hide (hgrow.cell C1n.out hneL)
    have X1g : Hid (w2.rangeAt X 0 [.string ⟨a.itm.tag.toArray⟩, .string ⟨a.itm.qual.toArray⟩, .string ⟨a.itm.text.toArray⟩, .string ⟨a.itm.name.toArray⟩, .slice ua a.kids.length ucap]) := hide (fun j u hj => hgrow.cell (X1n.out j u hj) hneX)
    have HLb : Hid (B ≤ L) := hide (own_ltq D1.out.row L rfl).1
    have L2 : Hid (L < w2.heap.size) := hide (World.block_lt_of_cell? w2 ⟨L, m * 2 + 1, none⟩ C1g.out)
    have F2 : Hid (w2.frozen? ⟨L, m * 2 + 1, none⟩ = false) := hide (by
      have r := owns_blkq D2.out.row (w' := w2) (fun g e => by cases e; exact hgrow.block L (own_ltq D2.out.row L rfl).2 hneL)
      exact World.ownsRow.frozenAt r (m * 2 + 1))
    have B2 : Hid (Below B w w2) := hide (((BW.out.mono hBw).trans (BN.out.mono (by have := BW.out.size; omega))).grown hgrow (by have := BW.out.size; simp; omega) (fun g e => (own_ltq HV.out.row g e).1))
    clear hrun hown hgrow hfresh hneR hneL hneX
    go_wp2_with fail
    refine z_begins (S := fun W => W.cell? ⟨R, 0, none⟩ = some (.slice (some ⟨L, 0, none⟩) (m + 1) cap) ∧ W.cell? ⟨L, m * 2 + 1, none⟩ = some (.slice va l.length vcap) ∧ W.rangeAt X 0 [.string ⟨a.itm.tag.toArray⟩, .string ⟨a.itm.qual.toArray⟩, .string ⟨a.itm.text.toArray⟩, .string ⟨a.itm.name.toArray⟩, .slice ua a.kids.length ucap]) 14 15 #[false, false, false, false, false, false, false, false, false, false, false, false, false, false, false] (by kernel_rfl) (by kernel_rfl) (by kernel_rfl) ?hS0 (fun hHeld => ?_)
    case hS0 => rw [← hW1]; exact ⟨C0.out, C1.out, RG.out⟩
    rw [← hW1] at hHeld ⊢
    clear hW1
    refine zk (v := ?_) 0 13 #[true, false, false, false, false, false, false, false, false, false, false, false, false, false, false] rfl rfl (by kernel_rfl) (by kernel_rfl) (by kernel_rfl) (by kernel_rfl) (fun _ _ _ h => h) (by kernel_rfl) (by rfl) ?hy hHeld ?_
    case hy => rintro W ⟨hS1, hS2, hS3⟩; first | (go_simp; done) | (go_simp; with_reducible rfl) | (go_simp; rw [if_pos (by omega)])
    simp only [List.setIfInBounds_toArray, List.set_cons_zero, List.set_cons_succ]
    refine zk (v := ?_) 1 14 #[true, true, false, false, false, false, false, false, false, false, false, false, false, false, false] rfl rfl (by kernel_rfl) (by kernel_rfl) (by kernel_rfl) (by kernel_rfl) (fun _ _ _ h => h) (by kernel_rfl) (by rfl) ?hy hHeld ?_
    case hy => rintro W ⟨hS1, hS2, hS3⟩; first | (go_simp; done) | (go_simp; with_reducible rfl) | (go_simp; rw [if_pos (by omega)])
    simp only [List.setIfInBounds_toArray, List.set_cons_zero, List.set_cons_succ]
    refine zk (v := ?_) 2 15 #[true, true, true, false, false, false, false, false, false, false, false, false, false, false, false] rfl rfl (by kernel_rfl) (by kernel_rfl) (by kernel_rfl) (by kernel_rfl) (fun _ _ _ h => h) (by kernel_rfl) (by rfl) ?hy hHeld ?_
    case hy => rintro W ⟨hS1, hS2, hS3⟩; first | (go_simp; done) | (go_simp; with_reducible rfl) | (go_simp; rw [if_pos (by omega)])
    simp only [List.setIfInBounds_toArray, List.set_cons_zero, List.set_cons_succ]
    refine zk (v := ?_) 3 16 #[true, true, true, true, false, false, false, false, false, false, false, false, false, false, false] rfl rfl (by kernel_rfl) (by kernel_rfl) (by kernel_rfl) (by kernel_rfl) (fun _ _ _ h => h) (by kernel_rfl) (by rfl) ?hy hHeld ?_
    case hy => rintro W ⟨hS1, hS2, hS3⟩; first | (go_simp; done) | (go_simp; with_reducible rfl) | (go_simp; rw [if_pos (by omega)])
    simp only [List.setIfInBounds_toArray, List.set_cons_zero, List.set_cons_succ]
    refine zk (v := ?_) 4 17 #[true, true, true, true, true, false, false, false, false, false, false, false, false, false, false] rfl rfl (by kernel_rfl) (by kernel_rfl) (by kernel_rfl) (by kernel_rfl) (fun _ _ _ h => h) (by kernel_rfl) (by rfl) ?hy hHeld ?_
    case hy => rintro W ⟨hS1, hS2, hS3⟩; first | (go_simp; done) | (go_simp; with_reducible rfl) | (go_simp; rw [if_pos (by omega)])
    simp only [List.setIfInBounds_toArray, List.set_cons_zero, List.set_cons_succ]
    refine zk (v := ?_) 5 18 #[true, true, true, true, true, true, false, false, false, false, false, false, false, false, false] rfl rfl (by kernel_rfl) (by kernel_rfl) (by kernel_rfl) (by kernel_rfl) (fun _ _ _ h => h) (by kernel_rfl) (by rfl) ?hy hHeld ?_
    case hy => rintro W ⟨hS1, hS2, hS3⟩; first | (go_simp; done) | (go_simp; with_reducible rfl) | (go_simp; rw [if_pos (by omega)])
    simp only [List.setIfInBounds_toArray, List.set_cons_zero, List.set_cons_succ]
    refine zk (v := ?_) 6 19 #[true, true, true, true, true, true, true, false, false, false, false, false, false, false, false] rfl rfl (by kernel_rfl) (by kernel_rfl) (by kernel_rfl) (by kernel_rfl) (fun _ _ _ h => h) (by kernel_rfl) (by rfl) ?hy hHeld ?_
    case hy => rintro W ⟨hS1, hS2, hS3⟩; first | (go_simp; done) | (go_simp; with_reducible rfl) | (go_simp; rw [if_pos (by omega)])
    simp only [List.setIfInBounds_toArray, List.set_cons_zero, List.set_cons_succ]
    refine zk (v := ?_) 7 20 #[true, true, true, true, true, true, true, true, false, false, false, false, false, false, false] rfl rfl (by kernel_rfl) (by kernel_rfl) (by kernel_rfl) (by kernel_rfl) (fun _ _ _ h => h) (by kernel_rfl) (by rfl) ?hy hHeld ?_
    case hy => rintro W ⟨hS1, hS2, hS3⟩; first | (go_simp; done) | (go_simp; with_reducible rfl) | (go_simp; rw [if_pos (by omega)])
    simp only [List.setIfInBounds_toArray, List.set_cons_zero, List.set_cons_succ]
    refine zy (v := .agg #[.string ⟨a.itm.tag.toArray⟩, .string ⟨a.itm.qual.toArray⟩, .string ⟨a.itm.text.toArray⟩, .string ⟨a.itm.name.toArray⟩, .slice ua a.kids.length ucap]) 8 21 #[true, true, true, true, true, true, true, true, true, false, false, false, false, false, false] rfl rfl (by kernel_rfl) (by kernel_rfl) (by kernel_rfl) (by kernel_rfl) (fun _ _ _ h => h) (by kernel_rfl) (yieldsIf_load_mid (by rfl) 25 (.tmp 3) rfl X 0 rfl [.string ⟨a.itm.tag.toArray⟩, .string ⟨a.itm.qual.toArray⟩, .string ⟨a.itm.text.toArray⟩, .string ⟨a.itm.name.toArray⟩, .slice ua a.kids.length ucap] _ (fun _ h => h.2.2) Tryz.underlying25 rfl Tryz.sizeItm) hHeld ?_
    simp only [List.setIfInBounds_toArray, List.set_cons_zero, List.set_cons_succ]
    refine zk (v := ?_) 9 22 #[true, true, true, true, true, true, true, true, true, true, false, false, false, false, false] rfl rfl (by kernel_rfl) (by kernel_rfl) (by kernel_rfl) (by kernel_rfl) (fun _ _ _ h => h) (by kernel_rfl) (by rfl) ?hy hHeld ?_
    case hy => rintro W ⟨hS1, hS2, hS3⟩; first | (go_simp; done) | (go_simp; with_reducible rfl) | (go_simp; rw [if_pos (by omega)])
    simp only [List.setIfInBounds_toArray, List.set_cons_zero, List.set_cons_succ]
    refine z_ready 10 #[true, true, true, true, true, true, true, true, true, true, true, false, false, false, false] rfl (by kernel_rfl) (by kernel_rfl) (by rfl) (fun K hK => ?_)
    go_simp
    refine hK.out _ _ (fun _ => ⟨?hc0, ?hc1, ?hc2⟩) (fun hHeld => ?_)
    case hc0 => exact C0n.out
    case hc1 => exact C1n.out
    case hc2 => exact X1n.out
    replace hHeld := hHeld (by decide)
    clear hK K
    refine z_ready 11 #[true, true, true, true, true, true, true, true, true, true, true, true, false, false, false] rfl (by kernel_rfl) (by kernel_rfl) (by rfl) (fun K hK => ?_)
    refine op_app_itm _ _ rfl _ _ 1 1 rfl rfl _ w2 HRUN.out ?_
    (try simp only [Act.put, List.setIfInBounds_toArray])
    refine hK.out _ _ (fun _ => ⟨C0g.out, C1g.out, X1g.out⟩) (fun hHeld => ?_)
    replace hHeld := hHeld (by decide)
    clear hK K
    refine z_ready 12 #[true, true, true, true, true, true, true, true, true, true, true, true, true, false, false] rfl (by kernel_rfl) (by kernel_rfl) (by rfl) (fun K hK => ?_)
    go_simp
    rw [if_pos (show (m : Int) < (m : Int) + 1 by omega)]
    go_simp
    refine hK.out _ _ (fun _ => hHeld) (fun hHeld => ?_)
    replace hHeld := hHeld (by decide)
    clear hK K
    refine z_ready 13 #[true, true, true, true, true, true, true, true, true, true, true, true, true, true, false] rfl (by kernel_rfl) (by kernel_rfl) (by rfl) (fun K hK => ?_)
    go_simp
    refine hK.out _ _ (fun _ => hHeld) (fun hHeld => ?_)
    replace hHeld := hHeld (by decide)
    clear hK K
    refine z_ready 14 #[true, true, true, true, true, true, true, true, true, true, true, true, true, true, true] rfl (by kernel_rfl) (by kernel_rfl) (by rfl) (fun K hK => ?_)
    have c1g := C1g.out
    have f2 := F2.out
    go_simp
    refine hK.out _ _ (fun h => absurd rfl h) (fun _ => ?_)
    clear hK K
    refine z_done (by kernel_rfl) ?_ _
    have D3 : Hid (DM (w2.setCell ⟨L, m * 2 + 1, none⟩ (.slice (some ⟨g', 0, none⟩) (l.length + 1) c')) B R L cap (fun x => if (W1.alloc (.cells #[.string ⟨#[]⟩, .string ⟨#[]⟩, .string ⟨#[]⟩, .string ⟨#[]⟩, .slice none 0 0] 25)).heap.size ≤ x then lv.length + 2 else lab x) (lv ++ [(nm, l ++ [a0])]) (vs ++ [.slice (some ⟨g', 0, none⟩) (l.length + 1) c']) fl) := hide (by
      rw [HM.out]
      exact D2.out.add V2.out HOWN.out HGR.out HFR.out ⟨none, 0, rfl, .inl rfl⟩)
    have hLg : g' ≠ L := fun e => by
      rcases HFR.out g' rfl with h1 | h1
      · have := HV.out.own g' h1; rw [e, H.out.lL] at this; omega
      · have := (own_ltq D2.out.row L rfl).2; omega
    have U3 : Hid (PT (w2.setCell ⟨L, m * 2 + 1, none⟩ (.slice (some ⟨g', 0, none⟩) (l.length + 1) c')) (fun x => (if (W1.alloc (.cells #[.string ⟨#[]⟩, .string ⟨#[]⟩, .string ⟨#[]⟩, .string ⟨#[]⟩, .slice none 0 0] 25)).heap.size ≤ x then lv.length + 2 else lab x) = lv.length + 2 ∧ (Value.slice (some ⟨g', 0, none⟩) (l.length + 1) c').ownBlock ≠ some x) (.slice ua a.kids.length ucap) a.kids) := hide (PT_kept (fun x hx hx2 => (Below.heap_setCell w2 ⟨L, m * 2 + 1, none⟩ _ x (fun e => by
        have e2 : x = L := e
        have := hx.1; rw [e2, H.out.lL] at this; omega)).trans (HGR.out.block x hx2 (fun e => hx.2 e.symm))) (by simpa [World.setCell] using HGR.out.size) (fun x hx hx2 => ⟨by rw [if_neg (by omega)]; exact hx.1, fun e => by
        rcases HFR.out x e with h1 | h1
        · exact hx.2 h1
        · omega⟩) _ _ _ (Nat.le_refl _) U2.out)
    obtain ⟨V', hV'⟩ := D3.out.top.2.1
    have HTH := hide hV'.there
    have DD : Hid (DM ((w2.setCell ⟨L, m * 2 + 1, none⟩ (.slice (some ⟨g', 0, none⟩) (l.length + 1) c')).setCells g' (l.length * 5) [.string ⟨a.itm.tag.toArray⟩, .string ⟨a.itm.qual.toArray⟩, .string ⟨a.itm.text.toArray⟩, .string ⟨a.itm.name.toArray⟩, .slice ua a.kids.length ucap]) B R L cap (fun x => if (W1.alloc (.cells #[.string ⟨#[]⟩, .string ⟨#[]⟩, .string ⟨#[]⟩, .string ⟨#[]⟩, .slice none 0 0] 25)).heap.size ≤ x then lv.length + 2 else lab x) (lv ++ [(nm, l ++ [a])]) (vs ++ [.slice (some ⟨g', 0, none⟩) (l.length + 1) c']) fl) := by
      rcases List.eq_nil_or_concat V' with rfl | ⟨V0, u0, hc⟩
      · have := hV'.len; simp at this
      · rw [List.concat_eq_append] at hc
        subst hc
        exact hide (D3.out.put hV' U3.out)
    have HBE : Hid (Below B w ((w2.setCell ⟨L, m * 2 + 1, none⟩ (.slice (some ⟨g', 0, none⟩) (l.length + 1) c')).setCells g' (l.length * 5) [.string ⟨a.itm.tag.toArray⟩, .string ⟨a.itm.qual.toArray⟩, .string ⟨a.itm.text.toArray⟩, .string ⟨a.itm.name.toArray⟩, .slice ua a.kids.length ucap])) := hide (dp_bset hgB _ _ _ (B2.out.setCell HLb.out _))
    have HONE : Hid ((#[.string ⟨a.itm.tag.toArray⟩, .string ⟨a.itm.qual.toArray⟩, .string ⟨a.itm.text.toArray⟩, .string ⟨a.itm.name.toArray⟩, .slice ua a.kids.length ucap] : Array Value).all (·.oneCell') = true) := hide (by simp [Value.oneCell'])
    clear hV' c1g f2
    generalize w2.setCell ⟨L, m * 2 + 1, none⟩ (.slice (some ⟨g', 0, none⟩) (l.length + 1) c') = w3 at *
    go_wp2_with (refine wpList_store_mid rfl 25 _ _ rfl g' (l.length * 5) #[.string ⟨a.itm.tag.toArray⟩, .string ⟨a.itm.qual.toArray⟩, .string ⟨a.itm.text.toArray⟩, .string ⟨a.itm.name.toArray⟩, .slice ua a.kids.length ucap] rfl rfl HTH.out Tryz.sizeItm HONE.out ?_)
    go_wp2_with fail
    go_end0
    exact ⟨rfl, ⟨_, _, DD.out⟩, HBE.out⟩

end Go.Proofs.YtpkgaidnpooahaaGreatDoor
