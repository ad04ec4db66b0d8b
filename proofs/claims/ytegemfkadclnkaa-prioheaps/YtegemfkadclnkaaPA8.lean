/-
  My own text: append that tells where the row lies; a new heap; Len, Peek, Pop.
-/
import Derived.Test.YtegemfkadclnkaaPA7
import Derived.Laws.ResultCell
namespace Go.Proofs.Ytegemfkadclnkaa
open Go.RowKit

theorem run_append_own2 {P : Program} (w : World) (base : Nat) (t ty e : TypeId) (i : TypeInfo) (z : Value) (size bytes : Nat) (ht : P.underlying t = some (.slice e)) (hi : P.info? e = some i) (hz : i.zero = some z)
    (hsize : i.size = size) (hby : i.bytes = bytes) (hzs : z.cells.size = size) (hsz : 0 < size)
    (v : Value) (n : Nat) (xs : List Value) (hown : w.ownsRow base e size v n xs)
    (a : Addr) (m c : Nat) (news : List Value) (hl : news.length = m * size) (hnews : ∀ j u, news[j]? = some u → w.cell? (a.add j) = some u) (h1 : ∀ u ∈ news, u.oneCell' = true)
    (h63 : n + m ≤ maxLen) (hbytes : (n + m) * bytes ≤ 140737488355328) (hbase : base ≤ w.heap.size) :
    ∃ v' w', (Builtin.append_ #[t, t] ty #[v, .slice (some a) m c]).run P w = .ok v' w' ∧ w'.ownsRow base e size v' (n + m) (xs ++ news) ∧ w.grownBy w' v.ownBlock ∧ (∀ g, v'.ownBlock = some g → v.ownBlock = some g ∨ w.heap.size ≤ g) := by
  rcases hown.2 with ⟨rfl, rfl⟩ | ⟨g, cap, cur, rfl, hb, hh, hn1, hn2, hcs, hct⟩
  · obtain rfl : xs = [] := List.eq_nil_of_length_eq_zero (by have := hown.1; omega)
    obtain ⟨v', w', hrun, r1, r2, _⟩ := run_append_own (P := P) w w.heap.size t ty e i z size bytes ht hi hz hsize hby hzs hsz (.slice none 0 0) 0 [] (World.ownsRow_nil w _ _ size) a m c news hl hnews h1 h63 hbytes (Nat.le_refl _)
    exact ⟨v', w', hrun, r1.mono hbase, r2, fun g hg => .inr (r1.lt g hg).1⟩
  · by_cases hroom : n + m ≤ cap
    · obtain ⟨v', w', hrun, r1, r2, _⟩ := run_append_own (P := P) w base t ty e i z size bytes ht hi hz hsize hby hzs hsz _ n xs hown a m c news hl hnews h1 h63 hbytes hbase
      have hrun2 := run_append_room_cells (P := P) w t ty e i ht hi g 0 n cap a m c news (by rw [hsize]; exact hl) hnews h1 hroom (fun j hj => by
        have h7 : (n + m) * size ≤ cap * size := Nat.mul_le_mul_right _ hroom
        rw [Nat.add_mul] at h7
        have hlt : 0 + n * i.size + j < cur.size := by rw [hcs, hsize]; omega
        rw [cell_of_row w g _ cur e (0, 0) hh, Array.getElem?_eq_getElem hlt]; rfl) (fun j _ => by unfold World.frozen?; simp [hh])
      rw [hrun] at hrun2
      injection hrun2 with e1 _
      exact ⟨v', w', hrun, r1, r2, fun g' hg' => .inl (by rw [e1] at hg'; exact hg')⟩
    · obtain ⟨v', w', hrun, r1, r2⟩ := run_append_arg_grows (P := P) w t ty e i z size bytes ht hi hz hsize hby hzs hsz ⟨g, 0, none⟩ n cap xs hown.1 (fun j u hj => World.ownsRow.cells hown (g := g) rfl j u hj) a m c news hl hnews (by omega) h63 hbytes
      exact ⟨v', w', hrun, r1.mono hbase, ⟨r2.os, r2.tape, r2.output, r2.size, fun x hx _ => r2.block x hx (by intro e; cases e)⟩, fun g' hg' => .inr (r1.lt g' hg').1⟩
set_option maxRecDepth 100000 in
set_option maxHeartbeats 1000000 in
theorem new_any (lf : FuncId) (B : Nat) (w : World) :
    Calls Try.prog 4 #[.func (Fn.func lf) #[] #[]] w fun e w' => e = .returned (.pointer (some ⟨w.heap.size + 1, 0, none⟩)) ∧ HP w' B (w.heap.size + 1) w.heap.size lf (.slice none 0 0) [] 0 ∧ Below w.heap.size w w' := by
  have hs : (w.alloc (.cells #[.func (Fn.func lf) #[] #[]] 26)).heap.size = w.heap.size + 1 := by simp
  have HH : Hid (HP ((w.alloc (.cells #[.func (Fn.func lf) #[] #[]] 26)).alloc (.cells #[.slice none 0 0, .func (Fn.func 23) #[] #[.pointer (some ⟨w.heap.size, 0, none⟩)], .int .i64 0] 55)) B (w.heap.size + 1) w.heap.size lf (.slice none 0 0) [] 0) := hide
    ⟨by rw [← hs]; exact alloc_new _ _, by rw [Below.heap_alloc _ _ _ (by simp)]; exact alloc_new w _, World.ownsRow_nil _ _ _ 3⟩
  have HB := hide (((Below.refl w.heap.size w).alloc (Nat.le_refl _) (.cells #[.func (Fn.func lf) #[] #[]] 26)).alloc (by simp) (.cells #[.slice none 0 0, .func (Fn.func 23) #[] #[.pointer (some ⟨w.heap.size, 0, none⟩)], .int .i64 0] 55))
  clear hs
  go_enter Try.func4, Try.ntmps4
  go_wp2_with fail
  go_ret
  exact ⟨rfl, HH.out, HB.out⟩
set_option maxRecDepth 100000 in
theorem len_any (B hb lb : Nat) (lf : FuncId) (v : Value) (E : List En) (N : Nat) (w : World) (h : HP w B hb lb lf v E N) :
    Calls Try.prog 17 #[.pointer (some ⟨hb, 0, none⟩)] w fun e w' => e = .returned (.int .i64 (E.length : Int)) ∧ w' = w := by
  have c0 := h.c0
  obtain ⟨a, cap, rfl, _⟩ := h.row.slc
  clear h
  go_enter Try.func17, Try.ntmps17
  go_wp2_with fail
  go_ret
  exact ⟨rfl, rfl⟩
theorem belowRow {B g : Nat} {w w' : World} {c : Array Value} (h : Below B w w') (hg : B ≤ g) : Below B w (w'.setRow g c) := by
  refine ⟨h.os, h.tape, h.output, ?_, fun k hk => (setRow_other _ _ _ _ (by omega)).trans (h.block k hk)⟩
  have : (w'.setRow g c).heap.size = w'.heap.size := by simp [World.setRow]
  rw [this]; exact h.size
theorem cells2 {w : World} {g : Nat} {a b : Value} {t : TypeId} {fz : Nat × Nat} (h : w.heap[g]? = some (.cells #[a, b] t fz)) : w.cell? ⟨g, 0, none⟩ = some a ∧ w.cell? ⟨g, 1, none⟩ = some b :=
  ⟨by rw [cell_of_row _ _ 0 _ _ _ h]; rfl, by rw [cell_of_row _ _ 1 _ _ _ h]; rfl⟩
/-- The zero pair. -/
abbrev zPr : Obj := .cells #[.int .i64 0, .int .i64 0] 25
set_option maxRecDepth 100000 in
set_option maxHeartbeats 1000000 in
theorem peek_no (B hb lb : Nat) (lf : FuncId) (v : Value) (N : Nat) (w : World) (h : HP w B hb lb lf v [] N) :
    Calls Try.prog 12 #[.pointer (some ⟨hb, 0, none⟩)] w fun e w' => e = .returned (.tuple #[pv (0, 0), .bool false]) ∧ Below w.heap.size w w' := by
  have b1 : Below w.heap.size w (w.alloc zPr) := (Below.refl _ _).alloc (Nat.le_refl _) _
  have c0 := (h.later b1).c0
  obtain ⟨a, cap, hv, _⟩ := h.row.slc
  have hv' : v = .slice a 0 cap := hv
  subst hv'
  have b2 : Below w.heap.size w ((w.alloc zPr).alloc zPr) := b1.alloc (by simp) _
  have r2 : ((w.alloc zPr).alloc zPr).heap[w.heap.size]? = some zPr := (Below.heap_alloc _ _ _ (by simp)).trans (alloc_new w zPr)
  have RD := hide r2
  have B2 := hide b2
  clear h b1 b2 r2 hv
  go_enter Try.func12, Try.ntmps12
  go_wp2_with (refine wpList_store_row rfl 25 _ _ rfl w.heap.size #[.int .i64 0, .int .i64 0] rfl rfl _ _ RD.out Try.sizePr rfl (by simp [Value.oneCell']) ?_)
  refine bodyPost_ret (v := .tuple #[pv (0, 0), .bool false]) ?_ rfl ⟨rfl, belowRow B2.out (Nat.le_refl _)⟩
  rw [results_cell_tmp rfl]
  simp only [asAddr]
  have hld := run_loadVar_row (P := Try.prog) (((w.alloc zPr).alloc zPr).setRow w.heap.size #[.int .i64 0, .int .i64 0]) w.heap.size 25 25 #[.int .i64 0, .int .i64 0] (0, 0) _ (setRow_heap _ _ _ _ _ _ RD.out) Try.underlying25 rfl Try.sizePr
  simp [Result.andThen, hld, pv]
set_option maxRecDepth 100000 in
set_option maxHeartbeats 1000000 in
theorem peek_yes (B hb lb : Nat) (lf : FuncId) (v : Value) (E : List En) (x : En) (N : Nat) (w : World) (h : HP w B hb lb lf v E N) (hx : E[0]? = some x) :
    Calls Try.prog 12 #[.pointer (some ⟨hb, 0, none⟩)] w fun e w' => e = .returned (.tuple #[pv x.1, .bool true]) ∧ Below w.heap.size w w' := by
  have hl := (List.getElem?_eq_some_iff.1 hx).1
  have b1 : Below w.heap.size w (w.alloc zPr) := (Below.refl _ _).alloc (Nat.le_refl _) _
  have h1 := h.later b1
  have c0 := h1.c0
  obtain ⟨g, cap, cur, rfl, hB, hh, hq⟩ := h.row.parts hl
  have rx := OE.range h1.row hx
  have x0 : (w.alloc zPr).cell? ⟨g, 0, none⟩ = some (.int .i64 x.1.1) := rx 0 _ rfl
  have x1 : (w.alloc zPr).cell? ⟨g, 1, none⟩ = some (.int .i64 x.1.2) := rx 1 _ rfl
  have RD := hide (alloc_new w zPr)
  have B2 := hide b1
  have d1 : ((E.length : Int) == 0) = false := by rw [beq_eq_false_iff_ne]; omega
  have k0 : (0 : Int) < (E.length : Int) := by omega
  have k1 : ¬ E.length = 0 := by omega
  clear h b1 h1 rx hB hh hq hx cur
  generalize E.length = n at *
  go_enter Try.func12, Try.ntmps12
  go_wp2_with (refine wpList_store_row rfl 25 _ _ rfl w.heap.size #[.int .i64 x.1.1, .int .i64 x.1.2] rfl rfl _ _ RD.out Try.sizePr rfl (by simp [Value.oneCell']) ?_)
  refine bodyPost_ret (v := .tuple #[pv x.1, .bool true]) ?_ rfl ⟨rfl, belowRow B2.out (Nat.le_refl _)⟩
  rw [results_cell_tmp rfl]
  simp only [asAddr]
  have hld := run_loadVar_row (P := Try.prog) ((w.alloc zPr).setRow w.heap.size #[.int .i64 x.1.1, .int .i64 x.1.2]) w.heap.size 25 25 #[.int .i64 x.1.1, .int .i64 x.1.2] (0, 0) _ (setRow_heap _ _ _ _ _ _ RD.out) Try.underlying25 rfl Try.sizePr
  simp [Result.andThen, hld, pv]
set_option maxRecDepth 100000 in
set_option maxHeartbeats 1000000 in
theorem pop_no (B hb lb : Nat) (lf : FuncId) (v : Value) (N : Nat) (w : World) (h : HP w B hb lb lf v [] N) :
    Calls Try.prog 8 #[.pointer (some ⟨hb, 0, none⟩)] w fun e w' => e = .returned (.tuple #[pv (0, 0), .bool false]) ∧ Below w.heap.size w w' := by
  have b1 : Below w.heap.size w (w.alloc zPr) := (Below.refl _ _).alloc (Nat.le_refl _) _
  have c0 := (h.later b1).c0
  obtain ⟨a, cap, hv, _⟩ := h.row.slc
  have hv' : v = .slice a 0 cap := hv
  subst hv'
  have b2 : Below w.heap.size w ((w.alloc zPr).alloc zPr) := b1.alloc (by simp) _
  have r2 : ((w.alloc zPr).alloc zPr).heap[w.heap.size]? = some zPr := (Below.heap_alloc _ _ _ (by simp)).trans (alloc_new w zPr)
  have RD := hide r2
  have B2 := hide b2
  clear h b1 b2 r2 hv
  go_enter Try.func8, Try.ntmps8
  go_wp2_with (refine wpList_store_row rfl 25 _ _ rfl w.heap.size #[.int .i64 0, .int .i64 0] rfl rfl _ _ RD.out Try.sizePr rfl (by simp [Value.oneCell']) ?_)
  refine bodyPost_ret (v := .tuple #[pv (0, 0), .bool false]) ?_ rfl ⟨rfl, belowRow B2.out (Nat.le_refl _)⟩
  rw [results_cell_tmp rfl]
  simp only [asAddr]
  have hld := run_loadVar_row (P := Try.prog) (((w.alloc zPr).alloc zPr).setRow w.heap.size #[.int .i64 0, .int .i64 0]) w.heap.size 25 25 #[.int .i64 0, .int .i64 0] (0, 0) _ (setRow_heap _ _ _ _ _ _ RD.out) Try.underlying25 rfl Try.sizePr
  simp [Result.andThen, hld, pv]
set_option maxRecDepth 100000 in
set_option maxHeartbeats 1000000 in
theorem pop_yes {lf : FuncId} {k : Pr → Int} (hl : LOk lf k) (x : En) (B hb lb : Nat) (v : Value) (E : List En) (N : Nat) (w : World) (h : HP w B hb lb lf v E N) (hk : HeapOk (ltE k) E) (hx : E[0]? = some x) (hlen : E.length ≤ 5864062014805) (hB : B ≤ w.heap.size) :
    Calls Try.prog 8 #[.pointer (some ⟨hb, 0, none⟩)] w fun e w' => e = .returned (.tuple #[pv x.1, .bool true]) ∧ ∃ v' E', (x :: E').Perm E ∧ HeapOk (ltE k) E' ∧ HP w' B hb lb lf v' E' N ∧ Fq w w' hb v v' := by
  have hl0 := (List.getElem?_eq_some_iff.1 hx).1
  have b1 : Below w.heap.size w (w.alloc zPr) := (Below.refl _ _).alloc (Nat.le_refl _) _
  have h1 := h.later b1
  have c0 := h1.c0
  have HT := hide (takeOut_any hl 0 x B hb lb v E N (w.alloc zPr) h1 hk hx hlen (by have := b1.size; omega))
  have HN := hide (h1.ne_pr (alloc_new w zPr))
  have B1 := hide b1
  obtain ⟨g, cap, cur, rfl, hB', hh, hq⟩ := h.row.parts hl0
  have d1 : ((E.length : Int) == 0) = false := by rw [beq_eq_false_iff_ne]; omega
  have k1 : ¬ E.length = 0 := by omega
  clear h b1 h1 hB' hh hq hx cur hk hl hlen hB hl0
  obtain ⟨n, hn⟩ : ∃ n, Hid (E.length = n) := ⟨_, hide rfl⟩
  rw [hn.out] at c0 HT d1 k1 HN ⊢
  go_enter Try.func8, Try.ntmps8
  go_wp2_with fail
  refine HT.out.mono ?_
  rintro e w2 ⟨rfl, v', E', h1, h2, h3, h4⟩
  have RD := hide ((h4.block w.heap.size (by simp) HN.out.1 HN.out.2.2).trans (alloc_new w zPr))
  have HE := hide (out_end (cs := #[.int .i64 x.1.1, .int .i64 x.1.2]) h3 ((Fq.of_below (hb := hb) B1.out).trans h4) (Nat.le_refl _) RD.out)
  have HP1 := hide h1
  have HP2 := hide h2
  clear h1 h2 h3 h4 HT
  unfold pv
  go_wp2_with (refine wpList_store_row rfl 25 _ _ rfl w.heap.size #[.int .i64 x.1.1, .int .i64 x.1.2] rfl rfl _ _ RD.out Try.sizePr rfl (by simp [Value.oneCell']) ?_)
  refine bodyPost_ret (v := .tuple #[pv x.1, .bool true]) ?_ rfl ⟨rfl, _, _, HP1.out, HP2.out, HE.out.1, HE.out.2⟩
  rw [results_cell_tmp rfl]
  simp only [asAddr]
  have hld := run_loadVar_row (P := Try.prog) (w2.setRow w.heap.size #[.int .i64 x.1.1, .int .i64 x.1.2]) w.heap.size 25 25 #[.int .i64 x.1.1, .int .i64 x.1.2] (0, 0) _ (setRow_heap _ _ _ _ _ _ RD.out) Try.underlying25 rfl Try.sizePr
  simp [Result.andThen, hld, pv]
end Go.Proofs.Ytegemfkadclnkaa
