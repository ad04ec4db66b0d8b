/-
  My own text: SN1, SN0 in one.
-/
import Derived.Test.YtnjjehlfgoggfaaDoorSM10
import Derived.Carry
namespace Go.Proofs.YtnjjehlfgoggfaaDoor
open Go.RowKit Go.Extern Go.MapKept Go.ChangeMaps

def iv (x : Int) : Value := .int .i64 x
def IOK (x : Int) : Prop := (Lit.int .i64 x).wf = true
theorem lawInt : Go.Maps.Keyed Tryd.prog 3 := Go.Maps.int_keyed Tryd.underlying3
theorem keyOf_iv (x : Int) (h : IOK x) : keyOf Tryd.prog 3 (iv x) = some (.int .i64 x) := Go.Maps.keyOf_int_mk Tryd.underlying3 h
theorem iv_inj {a b : Int} (h : iv a = iv b) : a = b := by simpa [iv] using h
/-- The map in memory: its entries, in some order. -/
def RM (W : World) (b : Nat) (R : List (Int × Int)) : Prop :=
  ∃ (es : Array MapEntry) (clock : Nat) (R' : List (Int × Int)), W.heap[b]? = some (.map es clock) ∧ es.toList.map (fun e => (e.key, e.val)) = R'.map (fun p => (iv p.1, iv p.2)) ∧ R'.Perm R ∧ (∀ p ∈ R, IOK p.1) ∧ (R.map (·.1)).Nodup
theorem RM.lt {W : World} {b : Nat} {l : List (Int × Int)} (h : RM W b l) : b < W.heap.size := by
  obtain ⟨es, clock, _, hb, _⟩ := h
  exact (Array.getElem?_eq_some_iff.1 hb).1
theorem RM.kept {W W' : World} {b : Nat} {l : List (Int × Int)} (h : RM W b l) (e : W'.heap[b]? = W.heap[b]?) : RM W' b l := by
  obtain ⟨es, clock, R', hb, h2⟩ := h
  exact ⟨es, clock, R', e.trans hb, h2⟩
theorem RM.later {W W' : World} {b : Nat} {l : List (Int × Int)} (h : RM W b l) (hb : Below W.heap.size W W') : RM W' b l := h.kept (hb.block b h.lt)
theorem RM.map {W : World} {b : Nat} {l : List (Int × Int)} (h : RM W b l) : ∃ es clock, W.heap[b]? = some (.map es clock) := by
  obtain ⟨es, clock, _, hb, _⟩ := h
  exact ⟨es, clock, hb⟩
theorem nd_eq {l : List (Int × Int)} (hn : (l.map (·.1)).Nodup) : ∀ {a b c : Int}, (a, b) ∈ l → (a, c) ∈ l → b = c := by
  induction l with
  | nil => intro a b c h; cases h
  | cons p r ih =>
    rw [List.map_cons, List.nodup_cons] at hn
    intro a b c h1 h2
    rcases List.mem_cons.1 h1 with e1 | e1 <;> rcases List.mem_cons.1 h2 with e2 | e2
    · rw [← e1] at e2; injection e2 with _ e; exact e.symm
    · exact absurd (List.mem_map.2 ⟨_, e2, by rw [← e1]⟩) hn.1
    · exact absurd (List.mem_map.2 ⟨_, e1, by rw [← e2]⟩) hn.1
    · exact ih hn.2 e1 e2
theorem er_perm {α : Type} : ∀ {l : List α} {j : Nat} {x : α}, l[j]? = some x → l.Perm (x :: l.eraseIdx j)
  | y :: r, 0, x, h => by
    obtain rfl : y = x := Option.some.inj h
    exact List.Perm.refl _
  | y :: r, j + 1, x, h => by
    have := er_perm (l := r) (j := j) (x := x) h
    exact (this.cons y).trans (List.Perm.swap _ _ _)
theorem er_map {α β : Type} (f : α → β) : ∀ (l : List α) (j : Nat), (l.eraseIdx j).map f = (l.map f).eraseIdx j
  | [], _ => rfl
  | _ :: _, 0 => rfl
  | x :: r, j + 1 => by simp only [List.eraseIdx_cons_succ, List.map_cons, er_map f r j]
/-- What is found. -/
theorem find_iv {R R' : List (Int × Int)} {es : List MapEntry} (he : es.map (fun e => (e.key, e.val)) = R'.map (fun p => (iv p.1, iv p.2))) (hp : R'.Perm R) (hk : ∀ p ∈ R, IOK p.1) (x : Int) (h : IOK x) (W : World) :
    ((∀ p ∈ R, p.1 ≠ x) ∧ (Instr.findKey 3 (iv x) es).run Tryd.prog W = .ok none W) ∨
    ∃ j n, (x, n) ∈ R ∧ (Instr.findKey 3 (iv x) es).run Tryd.prog W = .ok (some (j, iv n)) W ∧ R'[j]? = some (x, n) := by
  have hkl := keyOf_iv x h
  have hin : ∀ e ∈ es, ∃ p ∈ R', e.key = iv p.1 ∧ e.val = iv p.2 := fun e hm => by
    have : (e.key, e.val) ∈ R'.map (fun p => (iv p.1, iv p.2)) := by rw [← he]; exact List.mem_map.2 ⟨e, hm, rfl⟩
    obtain ⟨p, hp, e1⟩ := List.mem_map.1 this
    injection e1 with e2 e3
    exact ⟨p, hp, e2.symm, e3.symm⟩
  rcases lawInt.find W hkl es (fun e hm => by
    obtain ⟨p, hp', e1, _⟩ := hin e hm
    rw [e1]; exact ⟨_, keyOf_iv p.1 (hk p (hp.mem_iff.1 hp'))⟩) with ⟨h1, h2⟩ | ⟨j, e, h1, h2, h3⟩
  · refine .inl ⟨fun p hpm e1 => ?_, h1⟩
    have : (iv p.1, iv p.2) ∈ es.map (fun e => (e.key, e.val)) := by rw [he]; exact List.mem_map.2 ⟨p, hp.mem_iff.2 hpm, rfl⟩
    obtain ⟨e, hm, e2⟩ := List.mem_map.1 this
    injection e2 with e3 _
    exact h2 e hm (by rw [e3, e1])
  · have hj : (R'.map (fun p => (iv p.1, iv p.2)))[j]? = some (e.key, e.val) := by rw [← he, List.getElem?_map, h2]; rfl
    rw [List.getElem?_map] at hj
    obtain ⟨p, hp', e1⟩ := Option.map_eq_some_iff.1 hj
    injection e1 with e2 e3
    have ek : p.1 = x := iv_inj (e2.trans h3)
    have hpk : R'[j]? = some (x, p.2) := by rw [hp', ← ek]
    exact .inr ⟨j, p.2, hp.mem_iff.1 (List.mem_of_getElem? hpk), by rw [h1, e3], hpk⟩
/-- A look at a reader that isn't there. -/
theorem RM.look_no {W : World} {b : Nat} {R : List (Int × Int)} (h : RM W b R) {x : Int} (hk : IOK x) (h0 : ∀ p ∈ R, p.1 ≠ x) :
    (Instr.lookup 46 (.map (some b)) (.int .i64 x) true).run Tryd.prog W = .ok (.tuple #[.int .i64 0, .bool false]) W := by
  obtain ⟨es, clock, R', hb, he, hp, h1, h2⟩ := h
  have hkl : keyOf Tryd.prog 3 (.int .i64 x) = some (.int .i64 x) := keyOf_iv x hk
  have zero : (zeroValue 3).run Tryd.prog W = .ok (.int .i64 0) W := by kernel_rfl
  rcases find_iv he hp h1 x hk W with ⟨_, hf⟩ | ⟨j, n, hc, _⟩
  · have hf' : (Instr.findKey 3 (.int .i64 x) es.toList).run Tryd.prog W = .ok none W := hf
    simp [Instr.lookup, run_underlying Tryd.underlying46, Go.MapKept.run_getObj_map hb, lawInt.check W _ hkl, hf', zero, Result.andThen]
  · exact absurd rfl (h0 _ hc)
theorem RM.look_yes {W : World} {b : Nat} {R : List (Int × Int)} (h : RM W b R) {x n : Int} (hk : IOK x) (h0 : (x, n) ∈ R) :
    (Instr.lookup 46 (.map (some b)) (.int .i64 x) true).run Tryd.prog W = .ok (.tuple #[.int .i64 n, .bool true]) W := by
  obtain ⟨es, clock, R', hb, he, hp, h1, h2⟩ := h
  have hkl : keyOf Tryd.prog 3 (.int .i64 x) = some (.int .i64 x) := keyOf_iv x hk
  rcases find_iv he hp h1 x hk W with ⟨hn, hf⟩ | ⟨j, n', hc, hf, _⟩
  · exact absurd rfl (hn _ h0)
  · obtain rfl := nd_eq h2 hc h0
    have hf' : (Instr.findKey 3 (.int .i64 x) es.toList).run Tryd.prog W = .ok (some (j, .int .i64 n')) W := hf
    simp [Instr.lookup, run_underlying Tryd.underlying46, Go.MapKept.run_getObj_map hb, lawInt.check W _ hkl, hf', Result.andThen]
/-- A reader that wasn't there is laid down. -/
theorem RM.put {W : World} {b : Nat} {R : List (Int × Int)} (h : RM W b R) {x : Int} (n : Int) (hk : IOK x) (h0 : ∀ p ∈ R, p.1 ≠ x) :
    ∃ W', (Instr.mapUpdate 46 (.map (some b)) (.int .i64 x) (.int .i64 n)).run Tryd.prog W = .ok () W' ∧ RM W' b ((x, n) :: R) ∧ W.grownBy W' (some b) ∧ W'.heap.size = W.heap.size := by
  obtain ⟨es, clock, R', hb, he, hp, h1, h2⟩ := h
  have hkl : keyOf Tryd.prog 3 (.int .i64 x) = some (.int .i64 x) := keyOf_iv x hk
  rcases find_iv he hp h1 x hk W with ⟨hn, hf⟩ | ⟨j, n', hc, _⟩
  · have hf' : (Instr.findKey 3 (.int .i64 x) es.toList).run Tryd.prog W = .ok none W := hf
    refine ⟨setBlock W b (.map (es.push ⟨iv x, iv n, clock⟩) (clock + 1)), ?_, ⟨_, _, R' ++ [(x, n)], heap_setBlock_same hb _, ?_, ?_, ?_, ?_⟩, ⟨rfl, rfl, rfl, by simp [setBlock], fun i _ hi => heap_setBlock_other hb _ (fun e => hi (by rw [e]))⟩, by simp [setBlock]⟩
    · simp [Instr.mapUpdate, run_underlying Tryd.underlying46, Go.MapKept.run_getObj_map hb, lawInt.check W _ hkl, hf', Result.andThen, Go.MapKept.run_setObj_map _ hb, setBlock, iv]
    · simp [he]
    · exact List.perm_append_comm.trans ((hp.cons (x, n)))
    · intro p hp
      rcases List.mem_cons.1 hp with rfl | hp
      · exact hk
      · exact h1 p hp
    · rw [List.map_cons, List.nodup_cons]
      refine ⟨fun hm => ?_, h2⟩
      obtain ⟨p, hp, e⟩ := List.mem_map.1 hm
      exact h0 p hp e
  · exact absurd rfl (h0 _ hc)
/-- A reader is taken out. -/
theorem RM.del {W : World} {b : Nat} {R : List (Int × Int)} (h : RM W b R) {x n : Int} (hk : IOK x) (h0 : (x, n) ∈ R) (ty : TypeId) :
    ∃ W', (Builtin.delete_ #[46, 3] ty #[.map (some b), .int .i64 x]).run Tryd.prog W = .ok (.tuple #[]) W' ∧ RM W' b (endR x R) ∧ W.grownBy W' (some b) ∧ W'.heap.size = W.heap.size := by
  obtain ⟨es, clock, R', hb, he, hp, h1, h2⟩ := h
  have hkl : keyOf Tryd.prog 3 (.int .i64 x) = some (.int .i64 x) := keyOf_iv x hk
  rcases find_iv he hp h1 x hk W with ⟨hn, hf⟩ | ⟨j, n', hc, hf, hj⟩
  · exact absurd rfl (hn _ h0)
  · obtain rfl := nd_eq h2 hc h0
    have hf' : (Instr.findKey 3 (.int .i64 x) es.toList).run Tryd.prog W = .ok (some (j, .int .i64 n')) W := hf
    have hjl : j < R'.length := (List.getElem?_eq_some_iff.1 hj).1
    have hjs : j < es.size := by
      have := congrArg List.length he
      simp at this; omega
    have hsub : (es.eraseIdxIfInBounds j).toList = es.toList.eraseIdx j := by
      unfold Array.eraseIdxIfInBounds
      rw [dif_pos hjs]
      simp
    have hper : (R'.eraseIdx j).Perm (endR x R) := by
      have a1 : R'.Perm ((x, n') :: R'.eraseIdx j) := er_perm hj
      exact List.Perm.cons_inv (a1.symm.trans (hp.trans (endR_perm h2 hc)))
    refine ⟨setBlock W b (.map (es.eraseIdxIfInBounds j) clock), ?_, ⟨_, _, R'.eraseIdx j, heap_setBlock_same hb _, ?_, hper, ?_, ?_⟩, ⟨rfl, rfl, rfl, by simp [setBlock], fun i _ hi => heap_setBlock_other hb _ (fun e => hi (by rw [e]))⟩, by simp [setBlock]⟩
    · simp [Builtin.delete_, run_underlying Tryd.underlying46, MapKept.run_getObj_map hb, lawInt.check W _ hkl, hf', MapKept.run_setObj_map _ hb, Result.andThen, setBlock]
    · rw [hsub, er_map, he, er_map]
    · intro p hp
      exact h1 p (endR_mem.1 hp).1
    · have h3 := ((endR_perm h2 hc).map (·.1)).nodup_iff.1 h2
      rw [List.map_cons, List.nodup_cons] at h3
      exact h3.2
end Go.Proofs.YtnjjehlfgoggfaaDoor
namespace Go.Proofs.YtnjjehlfgoggfaaDoor
open Go.RowKit Go.Extern

/-- A store that is being made: k of its maps are there. -/
structure NJ (w : World) (sb g n rb b0 : Nat) (hdr : Array Value) (k : Nat) (V : World) : Prop where
  sz : V.heap.size = b0 + k
  st : V.heap[sb]? = some (.cells hdr 49 (0, 0))
  ar : ∃ arr, V.heap[g]? = some (.cells arr 50 (0, 0)) ∧ arr.size = n ∧ ∀ i, i < k → arr[i]? = some (.map (some (b0 + i)))
  mb : ∀ i, i < k → MB V (b0 + i) []
  low : Below w.heap.size w V
  rm : V.heap[rb]? = some (.map #[] 0)
theorem NJ.step {w V : World} {sb g n rb b0 k : Nat} {hdr : Array Value} (h : NJ w sb g n rb b0 hdr k V) (h1 : g < b0) (h2 : sb < b0) (h3 : sb ≠ g) (h5 : rb < b0) (h6 : rb ≠ g) (h4 : w.heap.size ≤ g) (hk : k < n) :
    (∃ u, (V.alloc (.map #[] 0)).cell? ⟨g, k, none⟩ = some u) ∧ (V.alloc (.map #[] 0)).frozen? ⟨g, k, none⟩ = false ∧ NJ w sb g n rb b0 hdr (k + 1) ((V.alloc (.map #[] 0)).setCell ⟨g, k, none⟩ (.map (some V.heap.size))) := by
  obtain ⟨arr, q1, q2, q3⟩ := h.ar
  have hb : Below V.heap.size V (V.alloc (.map #[] 0)) := (Below.refl _ _).alloc (Nat.le_refl _) _
  have hs := h.sz
  have c1 : (V.alloc (.map #[] 0)).heap[g]? = some (.cells arr 50 (0, 0)) := (hb.block g (by omega)).trans q1
  have hm := MB.made V
  have e5 := setCell_eq_setRow (V.alloc (.map #[] 0)) g k _ _ _ (.map (some V.heap.size)) c1
  have e6 := setRow_heap (V.alloc (.map #[] 0)) g _ (arr.setIfInBounds k (.map (some V.heap.size))) _ _ c1
  refine ⟨⟨arr[k]'(by omega), by rw [cell_of_row _ g _ _ _ _ c1]; exact Array.getElem?_eq_getElem _⟩, by unfold World.frozen?; simp [c1], ?_⟩
  have oth : ∀ x, x ≠ g → ((V.alloc (.map #[] 0)).setCell ⟨g, k, none⟩ (.map (some V.heap.size))).heap[x]? = (V.alloc (.map #[] 0)).heap[x]? := fun x hx => Below.heap_setCell _ _ _ x hx
  refine ⟨?_, ?_, ⟨arr.setIfInBounds k (.map (some V.heap.size)), by rw [e5]; exact e6, by simp [q2], fun i hi => ?_⟩, fun i hi => ?_, ?_, (oth rb h6).trans ((hb.block rb (by omega)).trans h.rm)⟩
  · simp [World.setCell, hs]; omega
  · exact (oth sb h3).trans ((hb.block sb (by omega)).trans h.st)
  · by_cases e : i = k
    · subst e
      rw [Array.getElem?_setIfInBounds_self_of_lt (by omega), hs]
    · rw [Array.getElem?_setIfInBounds_ne (fun h' => e h'.symm)]; exact q3 i (by omega)
  · by_cases e : i = k
    · subst e
      rw [hs] at hm
      exact hm.kept (oth _ (by omega))
    · exact ((h.mb i (by omega)).later hb).kept (oth _ (by omega))
  · exact (h.low.trans (hb.mono h.low.size)).setCell (p := ⟨g, k, none⟩) h4 _
set_option maxRecDepth 100000 in
set_option maxHeartbeats 1000000 in
theorem newSt_any (s : Int) (n : Nat) (w : World) (hn : (n : Int) = cnt s) :
    Calls Tryd.prog 5 #[.int .i64 s] w fun e w' => ∃ sb m, w.heap.size ≤ sb ∧ e = .returned (.pointer (some ⟨sb, 0, none⟩)) ∧ ST w' sb n m ∧ (∀ i, (m i).2 = []) ∧ (∀ i, i < n → w.heap.size ≤ (m i).1) ∧ Below w.heap.size w w' ∧
      ∃ g rb, w'.heap[sb]? = some (.cells #[.slice (some ⟨g, 0, none⟩) n n, .int .i64 0, .map (some rb), .slice none 0 0] 49 (0, 0)) ∧ w'.heap[rb]? = some (.map #[] 0) ∧ w.heap.size ≤ g ∧ w.heap.size ≤ rb ∧ ∀ i, i < n → (m i).1 ≠ rb := by
  have hlo := cnt_lo s
  have hhi := cnt_hi s
  have HK := hide (fun W => counted_any s W)
  rw [← hn] at HK hlo hhi
  have n1 : 1 ≤ n := by omega
  have n2 : n ≤ 64 := by omega
  have hmk := run_make_row' (P := Tryd.prog) 45 50 (.map none) 8 Tryd.underlying45 Tryd.infoMap rfl .i64 .i64 n (by omega) (by omega)
  have mm : ∀ (t : TypeId) (W : World), (Instr.makeMap t none).run Tryd.prog W = .ok (.map (some W.heap.size)) (W.alloc (.map #[] 0)) := fun t W => run_makeMap t W
  clear hn hlo hhi
  go_enter Tryd.func5, Tryd.ntmps5
  go_wp2_with fail
  refine (HK.out _).mono ?_
  rintro e w1 ⟨rfl, hb1⟩
  have B1 := hide hb1
  clear hb1
  go_wp2_with fail
  have N0 : Hid (NJ w (w1.heap.size + 1 + 1) w1.heap.size n (w1.heap.size + 1) (w1.heap.size + 3) #[.slice (some ⟨w1.heap.size, 0, none⟩) n n, .int .i64 0, .map (some (w1.heap.size + 1)), .slice none 0 0] 0
      (((w1.alloc (.cells (madeCells #[.map none] n) 50)).alloc (.map #[] 0)).alloc (.cells #[.slice (some ⟨w1.heap.size, 0, none⟩) n n, .int .i64 0, .map (some (w1.heap.size + 1)), .slice none 0 0] 49))) := hide (by
    have a1 : Below w1.heap.size w1 (w1.alloc (.cells (madeCells #[.map none] n) 50)) := (Below.refl _ _).alloc (Nat.le_refl _) _
    have b1 := alloc_newV w1 (.cells (madeCells #[.map none] n) 50)
    generalize e1 : w1.alloc (.cells (madeCells #[.map none] n) 50) = U1 at *
    have z1 : U1.heap.size = w1.heap.size + 1 := by rw [← e1]; simp
    have a2 : Below U1.heap.size U1 (U1.alloc (.map #[] 0)) := (Below.refl _ _).alloc (Nat.le_refl _) _
    have b2 := (a2.block w1.heap.size (by omega)).trans b1
    have z2 : (U1.alloc (.map #[] 0)).heap.size = w1.heap.size + 1 + 1 := by simp [z1]
    have b4 : (U1.alloc (.map #[] 0)).heap[w1.heap.size + 1]? = some (.map #[] 0) := by rw [← z1]; exact (Go.MapKept.heap_alloc U1 _).1
    generalize U1.alloc (.map #[] 0) = U2 at *
    have b3 := alloc_newV U2 (.cells #[.slice (some ⟨w1.heap.size, 0, none⟩) n n, .int .i64 0, .map (some (w1.heap.size + 1)), .slice none 0 0] 49)
    have a3 : Below U2.heap.size U2 (U2.alloc (.cells #[.slice (some ⟨w1.heap.size, 0, none⟩) n n, .int .i64 0, .map (some (w1.heap.size + 1)), .slice none 0 0] 49)) := (Below.refl _ _).alloc (Nat.le_refl _) _
    rw [z2] at b3
    refine ⟨by simp [z2], b3, ⟨_, (a3.block w1.heap.size (by omega)).trans b2, size_madeCells _ _, fun i hi => by omega⟩, fun i hi => by omega, ?_, (a3.block _ (by omega)).trans b4⟩
    exact B1.out.trans (((a1.trans (a2.mono (by omega))).trans (a3.mono (by omega))).mono B1.out.size))
  have HS1 := hide B1.out.size
  clear B1 hmk HK
  generalize (((w1.alloc (.cells (madeCells #[.map none] n) 50)).alloc (.map #[] 0)).alloc (.cells #[.slice (some ⟨w1.heap.size, 0, none⟩) n n, .int .i64 0, .map (some (w1.heap.size + 1)), .slice none 0 0] 49)) = V0 at *
  obtain ⟨g, hg⟩ : ∃ g, g = w1.heap.size := ⟨_, rfl⟩
  rw [← hg] at N0 HS1 ⊢
  obtain ⟨sb, hsb⟩ : ∃ sb, sb = g + 1 + 1 := ⟨_, rfl⟩
  rw [← hsb] at N0 ⊢
  have HSB := hide hsb
  clear hg hsb
  obtain ⟨rb, hrb⟩ : ∃ rb, rb = g + 1 := ⟨_, rfl⟩
  rw [← hrb] at N0 ⊢
  have HRB := hide hrb
  clear hrb
  go_loopw [16] (fun i wr => ∃ k : Nat, k ≤ n ∧ i = .int .i64 (k : Int) ∧ Hid (NJ w sb g n rb (g + 3) #[.slice (some ⟨g, 0, none⟩) n n, .int .i64 0, .map (some rb), .slice none 0 0] k wr)) (fun i _ => n - (intOf i).toNat)
  case atStart => exact ⟨0, Nat.zero_le _, rfl, N0⟩
  case round =>
    clear N0
    obtain ⟨k, hk, rfl, HN⟩ := hrel
    by_cases hlt : k < n
    · obtain ⟨⟨u, c1⟩, f1, hN1⟩ := HN.out.step (by omega) (by have := HSB.out; omega) (by have := HSB.out; omega) (by have := HRB.out; omega) (by have := HRB.out; omega) HS1.out hlt
      have hd1 : decide ((k : Int) < (n : Int)) = true := by rw [decide_eq_true_eq]; omega
      have k0 : (0 : Int) ≤ (k : Int) := by omega
      have k1 : (k : Int) < (n : Int) := by omega
      have wk : wrap64 ((k : Int) + 1) = (k : Int) + 1 := by unfold wrap64; omega
      have c0 : wr.cell? ⟨sb, 0, none⟩ = some (.slice (some ⟨g, 0, none⟩) n n) := by rw [cell_of_row wr sb 0 _ _ _ HN.out.st]; rfl
      obtain ⟨W5, hW5⟩ : ∃ W5, wr.alloc (.map #[] 0) = W5 := ⟨_, rfl⟩
      rw [hW5] at c1 f1 hN1
      have HN1 := hide hN1
      clear hN1
      go_wp2_with fail
      go_roundw
      case rel => exact ⟨k + 1, by omega, by go_num, HN1⟩
      case measure => simp [intOf]; omega
    · have e : k = n := by omega
      subst e
      go_wp2_with fail
      go_ret
      obtain ⟨arr, q1, q2, q3⟩ := HN.out.ar
      refine ⟨sb, fun i => (g + 3 + i, []), by have := HSB.out; have := HS1.out; omega, rfl, ⟨⟨_, _, _, _, HN.out.st, arr, q1, q3⟩, fun i hi => HN.out.mb i hi, fun i j _ _ hij => by dsimp only; omega, n1, n2⟩, fun _ => rfl, fun i _ => by have := HS1.out; dsimp only; omega, HN.out.low, g, rb, HN.out.st, HN.out.rm, HS1.out, by have := HRB.out; have := HS1.out; omega, fun i _ => by have := HRB.out; dsimp only; omega⟩
end Go.Proofs.YtnjjehlfgoggfaaDoor
