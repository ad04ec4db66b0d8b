/-
  My own text: all versions of a chain in a row.
-/
import Derived.Test.YtechjcmolccdjaaDoorHC17
namespace Go.Proofs.YtechjcmolccdjaaDoor
open Go.RowKit Go.Shelf

attribute [local go_sem] Oper.semAt_some

theorem wpListIn_append_or {F : Fence} {nF : Nat} {P : Program} {ops : Array Oper} {rest : List Oper} {o : Oper} {a : Act} {Q : Exit → Act → World → Prop} (w : World) (B : Nat) (t e : TypeId) (i : TypeInfo) (z : Value) (k bytes : Nat) (hgd : o.guard = none) (s x : Operand)
    (ho : o.op = .call { callee := .builtin .append, args := #[s, x], argTypes := #[t, t] }) (ht : P.underlying t = some (.slice e)) (hi : P.info? e = some i) (hz : i.zero = some z)
    (hsize : i.size = k) (hby : i.bytes = bytes) (hzs : z.cells.size = k) (hsz : 0 < k) (v : Value) (n : Nat) (xs : List Value) (hs : a.eval s = v) (hO : OR w B e k v n xs) (b : Addr) (c : Nat) (news : List Value) (hx : a.eval x = .slice (some b) 1 c) (hl : news.length = k) (hnews : ∀ j u, news[j]? = some u → w.cell? (b.add j) = some u) (h1 : ∀ u ∈ news, u.oneCell' = true)
    (h63 : n + 1 ≤ maxLen) (hbytes : (n + 1) * bytes ≤ 140737488355328) (hB : B ≤ w.heap.size)
    (h : ∀ v' w', OR w' B e k v' (n + 1) (xs ++ news) → w.grownBy w' v.ownBlock → (∀ g, v'.ownBlock = some g → v.ownBlock = some g ∨ w.heap.size ≤ g) → wpListIn F nF P ops Q rest (a.put o.dst v') w') : wpListIn F nF P ops Q (o :: rest) a w := by
  obtain ⟨v', w', hrun, r1, r2, r3⟩ := run_append_or (P := P) w B t o.type e i z k bytes ht hi hz hsize hby hzs hsz v n xs hO b c news hl hnews h1 h63 hbytes hB
  refine wpListIn_plain hgd fun K hK' => ?_
  unfold Oper.wpIn
  refine ⟨by simp [Oper.about, ho, resolve, Target.leads, Sem.run_pure], ?_⟩
  rw [Oper.semAt_plain F _ _ (by rw [ho]; intro c hc'; cases hc')]
  simp [execOp, ho, resolve, invoke, builtin, hs, hx, hrun, Result.andThen]
  exact hK' _ _ (h v' w' r1 r2 r3)
theorem OR.row_ne {W : World} {B k n b : Nat} {e t : TypeId} {v : Value} {xs : List Value} {c : Array Value} {fz : Nat × Nat} (h : OR W B e k v n xs) (hb : W.heap[b]? = some (.cells c t fz)) (ht : t ≠ e) : v.ownBlock ≠ some b := by
  intro q
  rcases h.2 with ⟨rfl, _⟩ | ⟨g, off, cap, cur, rfl, _, hg, _⟩
  · cases q
  · cases q
    rw [hb] at hg
    injection hg with hg
    injection hg with _ hg _
    exact ht hg
theorem OR.row_no {W : World} {B k n b : Nat} {e : TypeId} {v : Value} {xs : List Value} {o : Obj} (h : OR W B e k v n xs) (hb : W.heap[b]? = some o) (ho : o.isCells = false) : v.ownBlock ≠ some b := by
  intro q
  rcases h.2 with ⟨rfl, _⟩ | ⟨g, off, cap, cur, rfl, _, hg, _⟩
  · cases q
  · cases q
    rw [hb] at hg
    cases hg; cases ho
theorem CH.of_cells {W W' : World} {B cb : Nat} {L : List Ver} (h : CH W B cb L) (hk : ∀ (b : Nat) (c : Array Value) (t : TypeId) (fz : Nat × Nat), W.heap[b]? = some (Obj.cells c t fz) → t ≠ 62 → W'.heap[b]? = some (Obj.cells c t fz)) : CH W' B cb L := by
  obtain ⟨q1, v, em, hh, ho, hn⟩ := h
  refine ⟨q1, v, em, hk _ _ _ _ hh (by decide), ho.kept (fun g hg => ?_), hn⟩
  rcases ho.2 with ⟨rfl, _⟩ | ⟨g', off, cap, cur, rfl, _, h2, _⟩
  · cases hg
  · obtain rfl : g' = g := Option.some.inj hg
    rw [h2]; exact hk _ _ _ _ h2 (by decide)
/-- What the rounds of all leave. -/
structure AI (w : World) (bm bo bc B cb : Nat) (L : List Ver) (most : Int) (s : List Ver) (v : Value) (V : World) : Prop where
  ch : CH V B cb L
  mst : Box V bm 3 (.int .i64 most)
  out : Box V bo 26 v
  row : OR V w.heap.size 62 2 v s.length (vc s)
  bxc : Box V bc 23 (.pointer (some ⟨cb, 0, none⟩))
  low : Below w.heap.size w V
  ne : cb < w.heap.size ∧ w.heap.size ≤ bo ∧ bm ≠ bo ∧ bc ≠ bo
theorem AI.later {w V V' : World} {bm bo bc B cb : Nat} {L s : List Ver} {most : Int} {v : Value} (h : AI w bm bo bc B cb L most s v V) (hb : Below V.heap.size V V') : AI w bm bo bc B cb L most s v V' :=
  ⟨h.ch.later hb, h.mst.later hb, h.out.later hb, h.row.later hb, h.bxc.later hb, h.low.trans (hb.mono h.low.size), h.ne⟩
theorem AI.grown {w V V' : World} {bm bo bc B cb D : Nat} {L s : List Ver} {most : Int} {v : Value} {row : Option Nat} (h : AI w bm bo bc B cb L most s v V) (hD : w.heap.size ≤ D) (hg : V.grownBy V' row) (hr : ∀ r, row = some r → D ≤ r ∧ ∃ o : Obj, V.heap[r]? = some o ∧ o.isCells = false) : AI w bm bo bc B cb L most s v V' := by
  have hr' : ∀ r, row = some r → ∃ o : Obj, V.heap[r]? = some o ∧ o.isCells = false := fun r e => (hr r e).2
  refine ⟨h.ch.grown hg hr', grown_cells hg hr' h.mst, grown_cells hg hr' h.out, h.row.kept (fun g hgg => ?_), grown_cells hg hr' h.bxc, ⟨hg.os.trans h.low.os, hg.tape.trans h.low.tape, hg.output.trans h.low.output, Nat.le_trans h.low.size hg.size, fun k hk => (hg.block k (Nat.lt_of_lt_of_le hk h.low.size) (fun e => by have := (hr k e.symm).1; omega)).trans (h.low.block k hk)⟩, h.ne⟩
  rcases h.row.2 with ⟨rfl, _⟩ | ⟨g', off, cap, cur, rfl, _, h2, _⟩
  · cases hgg
  · obtain rfl : g' = g := Option.some.inj hgg
    rw [h2]; exact grown_cells hg hr' h2
/-- One version more. -/
theorem AI.push {w W W3 w4 : World} {bm bo bc B cb D : Nat} {L s : List Ver} {most : Int} {v v' : Value} {x : Ver} (h : AI w bm bo bc B cb L most s v W) (hW3 : W.alloc (.cells #[.int .i64 x.1, .string ⟨x.2.toArray⟩] 62) = W3)
    (r1 : OR w4 w.heap.size 62 2 v' (s.length + 1) (vc s ++ [.int .i64 x.1, .string ⟨x.2.toArray⟩])) (r2 : W3.grownBy w4 v.ownBlock) :
    Box w4 bo 26 v ∧ AI w bm bo bc B cb L most (s ++ [x]) v' (w4.setCell ⟨bo, 0, none⟩ v') ∧ KpV W (w4.setCell ⟨bo, 0, none⟩ v') ∧ KeepsFrom D W (w4.setCell ⟨bo, 0, none⟩ v') := by
  have hb3 : Below W.heap.size W W3 := by rw [← hW3]; exact (Below.refl _ _).alloc (Nat.le_refl _) _
  obtain ⟨n1, n2, n3, n4⟩ := h.ne
  have hk : ∀ (b : Nat) (c : Array Value) (t : TypeId) (fz : Nat × Nat), W.heap[b]? = some (Obj.cells c t fz) → t ≠ 62 → w4.heap[b]? = some (Obj.cells c t fz) := fun b c t fz hb ht => by
    have h3 := (hb3.block b (Array.getElem?_eq_some_iff.1 hb).1).trans hb
    exact (r2.block b (Array.getElem?_eq_some_iff.1 h3).1 (fun e => (h.row.later hb3).row_ne h3 ht e.symm)).trans h3
  have o4 : Box w4 bo 26 v := hk _ _ _ _ h.out (by decide)
  have m4 : Box w4 bm 3 (.int .i64 most) := hk _ _ _ _ h.mst (by decide)
  have c4 : Box w4 bc 23 (.pointer (some ⟨cb, 0, none⟩)) := hk _ _ _ _ h.bxc (by decide)
  have low4 : Below w.heap.size w w4 := by
    have l3 := h.low.trans (hb3.mono h.low.size)
    refine ⟨r2.os.trans l3.os, r2.tape.trans l3.tape, r2.output.trans l3.output, Nat.le_trans l3.size r2.size, fun k hk' => (r2.block k (Nat.lt_of_lt_of_le hk' l3.size) (fun e => ?_)).trans (l3.block k hk')⟩
    have := ((h.row.later hb3).lt e.symm).1
    omega
  refine ⟨o4, ⟨(h.ch.of_cells hk).set o4 (by decide) (by omega) v', m4.other n3 v', o4.set v', ?_, c4.other n4 v', low4.setCell (p := ⟨bo, 0, none⟩) n2 v', h.ne⟩, KpV.trans ⟨Nat.le_trans hb3.size r2.size, fun g c fz hg => hk g c _ fz hg (by decide)⟩ (KpV.set o4 (by decide) v'), ⟨Nat.le_trans hb3.size (Nat.le_trans r2.size (Nat.le_of_eq (size_set _ _ _).symm)), fun g o _ hg ho => ?_⟩⟩
  · rw [vc_app, List.length_append]
    refine OR.kept (w := w4) (by exact r1) (fun g hg => Below.heap_setCell _ _ _ g (fun e => ?_))
    have o4' : w4.heap[bo]? = some (.cells #[v] 26 (0, 0)) := o4
    exact r1.row_ne o4' (by decide) (by rw [hg, show g = bo from e])
  · have h3 := (hb3.block g (Array.getElem?_eq_some_iff.1 hg).1).trans hg
    have h4 := (r2.block g (Array.getElem?_eq_some_iff.1 h3).1 (fun e => (h.row.later hb3).row_no h3 ho e.symm)).trans h3
    refine (Below.heap_setCell _ _ _ g (fun e => ?_)).trans h4
    have o4' : w4.heap[bo]? = some (.cells #[v] 26 (0, 0)) := o4
    rw [show g = bo from e, o4'] at h4
    cases h4; cases ho
theorem Tryd.infoVersion : (Tryd.prog.info? 62).map (fun i => (i.zero, i.size, i.bytes)) = some (some (.agg #[.int .i64 0, .string ⟨#[]⟩]), 2, 24) := by kernel_rfl
theorem eqNilF (b : Nat) (W : World) : (binOp .eql 73 (.func (Fn.func 54) #[] #[.pointer (some ⟨b, 0, none⟩)]) .nilFunc).run Tryd.prog W = .ok (.bool false) W := by kernel_rfl
set_option maxRecDepth 100000 in
set_option maxHeartbeats 4000000 in
theorem allr_in (B cb : Nat) (L : List Ver) (most : Int) (w : World) (h : CH w B cb L) (hr : Ris L) (hpos : ∀ p ∈ L, 0 ≤ p.1) (hl : L.length ≤ 5864062014804) (hm : (L.length : Int) ≤ most) :
    CallsIn Fence.wide 9 Tryd.prog 10 #[.pointer (some ⟨cb, 0, none⟩), .int .i64 most] w fun e w' => ∃ v, e = .returned v ∧ OR w' w.heap.size 62 2 v L.length (vc L) ∧ Below w.heap.size w w' := by
  obtain ⟨i0, hi, hiz⟩ := Option.map_eq_some_iff.1 Tryd.infoVersion
  simp only [Prod.mk.injEq] at hiz
  obtain ⟨hz0, hz1, hz2⟩ := hiz
  have HI := hide (And.intro hi (And.intro hz0 (And.intro hz1 hz2)))
  have HRI := hide hr
  have HPO := hide hpos
  have HLL := hide hl
  have HMO := hide hm
  have HH := hide h
  have qf := eqNilF
  clear hi hz0 hz1 hz2 hr hpos hl hm h
  refine callsIn_of_wp_marks Tryd.func10 rfl trivial ?_ rfl
  simp only [Tryd.ntmps10, List.size_toArray, List.length_cons, List.length_nil, Nat.reduceAdd, Nat.reduceSub, Array.replicate_succ, Array.replicate_zero, List.push_toArray, List.append_toArray, List.nil_append, List.cons_append]
  refine wpIn_wide.2 ?_
  go_wp2_with fail
  refine (all_any cb _).mono ?_
  rintro e w5 ⟨rfl, rfl⟩
  have P5 : Hid (AI w w.heap.size (w.heap.size + 1) (w.heap.size + 1 + 1) B cb L most [] (.slice none 0 0) (((w.alloc (.cells #[.int .i64 most] 3)).alloc (.cells #[.slice none 0 0] 26)).alloc (.cells #[.pointer (some ⟨cb, 0, none⟩)] 23))) := hide (by
    have b1 : Below w.heap.size w (w.alloc (.cells #[.int .i64 most] 3)) := (Below.refl _ _).alloc (Nat.le_refl _) _
    have m1 := Box.new w 3 (.int .i64 most)
    have z1 : (w.alloc (.cells #[.int .i64 most] 3)).heap.size = w.heap.size + 1 := by simp
    generalize w.alloc (.cells #[.int .i64 most] 3) = U1 at *
    have b2 : Below U1.heap.size U1 (U1.alloc (.cells #[.slice none 0 0] 26)) := (Below.refl _ _).alloc (Nat.le_refl _) _
    have o2 := Box.new U1 26 (.slice none 0 0)
    have z2 : (U1.alloc (.cells #[.slice none 0 0] 26)).heap.size = w.heap.size + 1 + 1 := by simp [z1]
    rw [z1] at o2
    have m2 := m1.later b2
    generalize U1.alloc (.cells #[.slice none 0 0] 26) = U2 at *
    have b3 : Below U2.heap.size U2 (U2.alloc (.cells #[.pointer (some ⟨cb, 0, none⟩)] 23)) := (Below.refl _ _).alloc (Nat.le_refl _) _
    have c3 := Box.new U2 23 (.pointer (some ⟨cb, 0, none⟩))
    rw [z2] at c3
    have bw := (b1.trans (b2.mono b1.size)).trans (b3.mono (Nat.le_trans b1.size b2.size))
    exact ⟨HH.out.later bw, m2.later b3, o2.later b3, OR.nil _ _ _ _, c3, bw, HH.out.lt, by omega, by omega, by omega⟩)
  have ZL : Hid (w.heap.size ≤ (((w.alloc (.cells #[.int .i64 most] 3)).alloc (.cells #[.slice none 0 0] 26)).alloc (.cells #[.pointer (some ⟨cb, 0, none⟩)] 23)).heap.size) := hide P5.out.low.size
  have z6 : (w.alloc (.cells #[.int .i64 most] 3)).heap.size + 1 = w.heap.size + 1 + 1 := by simp
  go_wp2_with fail
  generalize (((w.alloc (.cells #[.int .i64 most] 3)).alloc (.cells #[.slice none 0 0] 26)).alloc (.cells #[.pointer (some ⟨cb, 0, none⟩)] 23)) = W5 at *
  clear z6
  obtain ⟨bc, hbc⟩ : ∃ bc, bc = w.heap.size + 1 + 1 := ⟨_, rfl⟩
  rw [← hbc] at P5 ⊢
  clear hbc
  obtain ⟨bo, hbo⟩ : ∃ bo, bo = w.heap.size + 1 := ⟨_, rfl⟩
  rw [← hbo] at P5 ⊢
  clear hbo
  have HSQ := hide (all_stays 8 (by omega) bc B cb L HRI.out HPO.out (by have := HLL.out; omega) W5)
  refine (wpIn_wide (n := 9)).1 ?_
  refine' loop_leans (F := Fence.wide) (n := 9) rfl (by omega) (gf := 54) (lb := #[.pointer (some ⟨bc, 0, none⟩)]) rfl trivial (enters_of Tryd.func54 (by kernel_rfl) rfl) HSQ.out (fun h k => h.trans k) (fun W l o o' _ h ho _ => KpV.put h ho o') (fun _ => rfl)
    (fun s V => ∃ v, AI w w.heap.size bo bc B cb L most s v V)
    (fun _ _ _ => False)
    (fun s V ⟨v, hs⟩ => ⟨hs.ch, hs.bxc.cell⟩)
    (fun s A C row ⟨v, hs⟩ hg hr => ⟨v, hs.grown ZL.out hg hr⟩)
    (fun _ _ _ _ _ hs _ _ => hs)
    ⟨_, P5.out⟩ _ ?assign ?body ?done ?stop
  case assign =>
    intro l x W K hK
    dsimp only [encP]
    gi_wp2
    exact hK
  case body =>
    rintro l s x W ⟨v, hP⟩ ⟨hs, hx⟩
    have P0 := hide hP
    have c0 := hP.out.cell
    have HSL : Hid (s.length < L.length) := hide (List.getElem?_eq_some_iff.1 hx).1
    clear hP hs hx
    obtain ⟨W3, hW3⟩ : ∃ W3, W.alloc (.cells #[.int .i64 x.1, .string ⟨x.2.toArray⟩] 62) = W3 := ⟨_, rfl⟩
    have HW3 := hide hW3
    have HO3 : Hid (OR W3 w.heap.size 62 2 v s.length (vc s)) := hide (by rw [← hW3]; exact P0.out.row.later ((Below.refl _ _).alloc (Nat.le_refl _) _))
    have HN3 : Hid (∀ j u, ([.int .i64 x.1, .string ⟨x.2.toArray⟩] : List Value)[j]? = some u → W3.cell? ((⟨W.heap.size, 0, none⟩ : Addr).add j) = some u) := hide (fun j u hj => by
      rw [← hW3, Addr.add_lit, cell_of_row _ W.heap.size _ _ _ _ (alloc_newV W _)]
      match j, hj with
      | 0, hj => cases hj; rfl
      | 1, hj => cases hj; rfl)
    have HZ3 : Hid (w.heap.size ≤ W3.heap.size) := hide (by rw [← hW3]; have := P0.out.low.size; simp; omega)
    gi_wp2_with (gi_at_builtin; refine wpListIn_append_or W3 w.heap.size 26 62 i0 _ 2 24 rfl _ _ rfl Tryd.underlying26 HI.out.1 HI.out.2.1 HI.out.2.2.1 HI.out.2.2.2 rfl (by decide) v s.length (vc s) rfl HO3.out ⟨W.heap.size, 0, none⟩ 1 [.int .i64 x.1, .string ⟨x.2.toArray⟩] rfl rfl HN3.out (by intro u hu; simp at hu; rcases hu with rfl | rfl <;> rfl) (by have := HLL.out; have := HSL.out; unfold maxLen; omega) (by have := HLL.out; have := HSL.out; omega) HZ3.out ?_)
    intro v' w4 r1 r2 _
    obtain ⟨a4, cap4, rfl⟩ : ∃ a4 cap4, v' = .slice a4 (s.length + 1) cap4 := by
      rcases r1.2 with ⟨_, e⟩ | ⟨g, off, cap, _, e, _⟩
      · omega
      · exact ⟨_, cap, e⟩
    obtain ⟨o4, A4, K4, F4⟩ := P0.out.push (D := W5.heap.size) HW3.out r1 r2
    have e0 := o4.cell
    have e1 := o4.frozen
    obtain ⟨W6, hW6⟩ : ∃ W6, w4.setCell ⟨bo, 0, none⟩ (.slice a4 (s.length + 1) cap4) = W6 := ⟨_, rfl⟩
    rw [hW6] at A4 K4 F4
    have c6 := A4.out.cell
    have m6 := A4.mst.cell
    have HA4 := hide A4
    have HK4 := hide K4
    have HF4 := hide F4
    obtain ⟨nl, hnl⟩ : ∃ nl, nl = s.length + 1 := ⟨_, rfl⟩
    have d1 : decide (most < (nl : Int)) = false := decide_eq_false (by have := HMO.out; have := HSL.out; omega)
    rw [← hnl] at c6 hW6 ⊢
    clear A4 K4 F4 o4 r1 r2 hnl hW3 c0 HW3
    gi_wp2
    exact ⟨HF4.out, HK4.out, _, HA4.out⟩
  case done =>
    rintro D s W hD rfl ⟨v, hP⟩ hK
    have c0 := hP.out.cell
    have P7 := hide hP
    have HKD := hide hK
    have HDD := hide hD
    clear hP hK hD P5 HSQ
    go_wp2_with fail
    have PZ := P7.out.grown (D := W5.heap.size) ZL.out (grownBy_putObj' W D (.deferred none)) (fun r e => by cases e; exact ⟨HDD.out, _, HKD.out, rfl⟩)
    refine ⟨by simp, .inl ⟨_, _, rfl, run_takeDeferred HKD.out, ?_⟩⟩
    exact ⟨v, results_tmp (fn := Tryd.f10) (t := 4) rfl _ _ _, v, rfl, PZ.row, PZ.low⟩
  case stop =>
    rintro D c s W hD _ hF
    exact hF.elim
/-- All versions of a chain, in a row of their own. -/
theorem allr_any (B cb : Nat) (L : List Ver) (most : Int) (w : World) (h : CH w B cb L) (hr : Ris L) (hpos : ∀ p ∈ L, 0 ≤ p.1) (hl : L.length ≤ 5864062014804) (hm : (L.length : Int) ≤ most) :
    Calls Tryd.prog 10 #[.pointer (some ⟨cb, 0, none⟩), .int .i64 most] w fun e w' => ∃ v, e = .returned v ∧ OR w' w.heap.size 62 2 v L.length (vc L) ∧ Below w.heap.size w w' :=
  callsIn_wide.1 (allr_in B cb L most w h hr hpos hl hm)
end Go.Proofs.YtechjcmolccdjaaDoor
