/-
  My own text: the law ChainWalks.
-/
import Derived.Test.YtechjcmolccdjaaHE5
namespace Go.Proofs.Ytechjcmolccdjaa
open Go.RowKit Go.Shelf

theorem run_store_func (P : Program) (w : World) (a : Addr) (m : Mode) (f : Fn) (x y : Array Value) : (store a (.func f x y) m).run P w = stored P w a (.func f x y) m := run_store P w a _ m rfl
attribute [local go_sem] Oper.semAt_some run_store_func

def outLen (bo : Nat) (V : World) : Nat := match V.cell? ⟨bo, 0, none⟩ with | some (.slice _ n _) => n | _ => 0
theorem outLen_at {bo n c : Nat} {a : Option Addr} {V : World} (h : V.cell? ⟨bo, 0, none⟩ = some (.slice a n c)) : outLen bo V = n := by unfold outLen; rw [h]
theorem ws_more {acts : List Ac} {L : List Ver} {stop : Int} {U s : List Ver} {x : Ver} (hw : WS acts L stop U) (he : WEnd acts L stop U) (h1 : s = U.take s.length) (h2 : s.length ≤ U.length) (h3 : 1 ≤ s.length → (s.length : Int) ≠ stop) (hx : nx (lastN s) (stA acts L s.length) = some x) : s.length < U.length ∧ s ++ [x] = U.take (s.length + 1) := by
  have hlt : s.length < U.length := by
    rcases Nat.lt_or_ge s.length U.length with h | h
    · exact h
    · have e : s.length = U.length := Nat.le_antisymm h2 h
      have es : s = U := by rw [h1, e, List.take_length]
      rcases he with h0 | ⟨h0, h4⟩
      · rw [es, h0] at hx; cases hx
      · rw [← e] at h0 h4; exact absurd h4 (h3 h0)
  refine ⟨hlt, ?_⟩
  obtain ⟨q, hq⟩ : ∃ q, U[s.length]? = some q := ⟨_, List.getElem?_eq_getElem hlt⟩
  have := hw.next _ _ hq
  rw [← h1, hx] at this
  cases this
  rw [List.take_add_one, hq, ← h1]; rfl
theorem ws_done {acts : List Ac} {L : List Ver} {stop : Int} {U s : List Ver} (hw : WS acts L stop U) (h1 : s = U.take s.length) (h2 : s.length ≤ U.length) (hx : nx (lastN s) (stA acts L s.length) = none) : s = U := by
  rcases Nat.lt_or_ge s.length U.length with h | h
  · obtain ⟨q, hq⟩ : ∃ q, U[s.length]? = some q := ⟨_, List.getElem?_eq_getElem h⟩
    have := hw.next _ _ hq
    rw [← h1, hx] at this
    cases this
  · rw [h1, Nat.le_antisymm h2 h, List.take_length]
theorem nx_take {L s : List Ver} (hr : Ris L) (hpos : ∀ p ∈ L, 0 ≤ p.1) (h1 : s = L.take s.length) (h2 : s.length ≤ L.length) : nx (lastN s) L = L[s.length]? := by
  unfold nx
  congr 1
  rcases Nat.eq_zero_or_pos s.length with h0 | h0
  · rw [List.eq_nil_of_length_eq_zero h0, lastN_nil, ab_neg L hpos]; rfl
  · obtain ⟨k, hk⟩ : ∃ k, s.length = k + 1 := ⟨s.length - 1, by omega⟩
    obtain ⟨p, hp⟩ : ∃ p, L[k]? = some p := ⟨_, List.getElem?_eq_getElem (by omega)⟩
    have e : s = L.take k ++ [p] := by rw [h1, hk, List.take_add_one, hp]; rfl
    rw [hk, e, lastN_snoc, ab_self L k p hr hp]
theorem take_more {L s : List Ver} {x : Ver} (h1 : s = L.take s.length) (hx : L[s.length]? = some x) : s.length < L.length ∧ s ++ [x] = L.take (s.length + 1) :=
  ⟨(List.getElem?_eq_some_iff.1 hx).1, by rw [List.take_add_one, hx, ← h1]; rfl⟩
theorem take_done {L s : List Ver} (h1 : s = L.take s.length) (h2 : s.length ≤ L.length) (hx : L[s.length]? = none) : s = L := by
  have := List.getElem?_eq_none_iff.1 hx
  rw [h1, Nat.le_antisymm h2 this, List.take_length]
def cntOf (b : Nat) (V : World) : Nat := match V.cell? ⟨b, 0, none⟩ with | some (.int _ n) => n.toNat | _ => 0
theorem cntOf_at {b n : Nat} {V : World} (h : V.cell? ⟨b, 0, none⟩ = some (.int .i64 (n : Int))) : cntOf b V = n := by unfold cntOf; rw [h]; simp
theorem results_cellW {fn : Func} {p : Tmp} {ty : TypeId} (h : fn.results = #[.cell p ty]) (tmps : Array Value) (P : Program) (w : World) :
    (results fn tmps).run P w = ((asAddr (tmps.getD p undef)).run P w).andThen fun a w₁ => (loadVar ty a).run P w₁ := by
  simp only [results, h]
  simp [Sem.run_bind, Result.andThen]
theorem Box.put {W : World} {b l : Nat} {t : TypeId} {u : Value} {o : Obj} (h : Box W b t u) (hl : W.heap[l]? = some o) (ho : o.isCells = false) (o' : Obj) : Box (W.putObj l o') b t u :=
  (World.putObj_heap_other (fun e => by have h' : W.heap[b]? = some (.cells #[u] t (0, 0)) := h; rw [e, hl] at h'; cases h'; cases ho)).trans h
theorem KB.later {V V' : World} {K : List (Nat × TypeId × Value)} (h : KB V K) (hb : Below V.heap.size V V') : KB V' K := fun p hp => (h p hp).later hb
theorem KB.box {V : World} {K : List (Nat × TypeId × Value)} (h : KB V K) (t : TypeId) (v : Value) : KB (V.alloc (.cells #[v] t)) ((V.heap.size, t, v) :: K) := fun p hp => by
  rcases List.mem_cons.1 hp with rfl | hp
  · exact Box.new V t v
  · exact (h p hp).later ((Below.refl _ _).alloc (Nat.le_refl _) _)
theorem KB.cell {V : World} {K : List (Nat × TypeId × Value)} {p : Nat × TypeId × Value} (h : KB V K) (hp : p ∈ K) : V.cell? ⟨p.1, 0, none⟩ = some p.2.2 := (h p hp).cell
theorem KB.lt {V : World} {K : List (Nat × TypeId × Value)} (h : KB V K) : ∀ p ∈ K, p.1 < V.heap.size := fun p hp => (h p hp).lt
theorem alloc_below (V : World) (o : Obj) : Below V.heap.size V (V.alloc o) := (Below.refl _ _).alloc (Nat.le_refl _) _

set_option maxRecDepth 100000 in
set_option maxHeartbeats 8000000 in
theorem walks_in (vp va : Value) (ps acts : List Ac) (stop : Int) (w : World) (hvp : RAc w vp ps) (hva : RAc w va acts) (hlen : ps.length + 2 * acts.length ≤ 1099511627776) (hN : ∀ p ∈ ps, p.2.1 ≤ 9223372036854775807) (hNa : ∀ p ∈ acts, p.2.1 ≤ 9223372036854775807) :
    CallsIn Fence.wide 12 Try.prog 3 #[vp, va, .int .i64 stop] w fun e w' => e = .returned (.bool true) ∧ Below w.heap.size w w' := by
  have HRP := hide hvp
  have HRA := hide hva
  have HLN := hide hlen
  have HNP := hide hN
  have HNA := hide hNa
  obtain ⟨ga, gcap, rfl, hac⟩ := hva
  have HAC := hide hac
  obtain ⟨pa, pcap, rfl, _⟩ := hvp
  clear hac hlen hN hNa
  refine callsIn_of_wp_marks Try.func3 rfl trivial ?_ rfl
  simp only [Try.ntmps3, List.size_toArray, List.length_cons, List.length_nil, Nat.reduceAdd, Nat.reduceSub, Array.replicate_succ, Array.replicate_zero, List.push_toArray, List.append_toArray, List.nil_append, List.cons_append]
  refine wpIn_wide.2 ?_
  go_wp2_with fail
  -- acts, stop, the answer
  have K3 : Hid (KB (((w.alloc (.cells #[.slice ga acts.length gcap] 22)).alloc (.cells #[.int .i64 stop] 3)).alloc (.cells #[.bool false] 4)) [(w.heap.size, 22, .slice ga acts.length gcap), (w.heap.size + 1, 3, .int .i64 stop), (w.heap.size + 1 + 1, 4, .bool false)] ∧ Below w.heap.size w (((w.alloc (.cells #[.slice ga acts.length gcap] 22)).alloc (.cells #[.int .i64 stop] 3)).alloc (.cells #[.bool false] 4)) ∧ (((w.alloc (.cells #[.slice ga acts.length gcap] 22)).alloc (.cells #[.int .i64 stop] 3)).alloc (.cells #[.bool false] 4)).heap.size = w.heap.size + 1 + 1 + 1) := hide (by
    have x1 := Box.new w 22 (.slice ga acts.length gcap)
    have b1 : Below w.heap.size w (w.alloc (.cells #[.slice ga acts.length gcap] 22)) := (Below.refl _ _).alloc (Nat.le_refl _) _
    have z1 : (w.alloc (.cells #[.slice ga acts.length gcap] 22)).heap.size = w.heap.size + 1 := by simp
    generalize w.alloc (.cells #[.slice ga acts.length gcap] 22) = A1 at *
    have x2 := Box.new A1 3 (.int .i64 stop)
    have b2 : Below A1.heap.size A1 (A1.alloc (.cells #[.int .i64 stop] 3)) := (Below.refl _ _).alloc (Nat.le_refl _) _
    have z2 : (A1.alloc (.cells #[.int .i64 stop] 3)).heap.size = A1.heap.size + 1 := by simp
    rw [z1] at x2 z2
    have y1 := x1.later b2
    have c2 := b1.trans (b2.mono b1.size)
    generalize A1.alloc (.cells #[.int .i64 stop] 3) = A2 at *
    have x3 := Box.new A2 4 (.bool false)
    have b3 : Below A2.heap.size A2 (A2.alloc (.cells #[.bool false] 4)) := (Below.refl _ _).alloc (Nat.le_refl _) _
    have z3 : (A2.alloc (.cells #[.bool false] 4)).heap.size = A2.heap.size + 1 := by simp
    rw [z2] at x3 z3
    refine ⟨fun p hp => ?_, c2.trans (b3.mono c2.size), z3⟩
    simp only [List.mem_cons, List.not_mem_nil, or_false] at hp
    rcases hp with rfl | rfl | rfl
    · exact y1.later b3
    · exact x2.later b3
    · exact x3)
  generalize (((w.alloc (.cells #[.slice ga acts.length gcap] 22)).alloc (.cells #[.int .i64 stop] 3)).alloc (.cells #[.bool false] 4)) = A3 at *
  obtain ⟨bq, hbq⟩ : ∃ bq, bq = w.heap.size + 1 + 1 := ⟨_, rfl⟩
  rw [← hbq] at K3 ⊢
  obtain ⟨bs, hbs⟩ : ∃ bs, bs = w.heap.size + 1 := ⟨_, rfl⟩
  rw [← hbs] at K3 ⊢
  obtain ⟨ba, hba⟩ : ∃ ba, ba = w.heap.size := ⟨_, rfl⟩
  rw [show (Value.pointer (some (⟨w.heap.size, 0, none⟩ : Addr))) = Value.pointer (some (⟨ba, 0, none⟩ : Addr)) by rw [hba]]
  have K3' : Hid (KB A3 [(ba, 22, .slice ga acts.length gcap), (bs, 3, .int .i64 stop), (bq, 4, .bool false)]) := hide (by have := K3.out.1; rw [← hba] at this; exact this)
  have B3 := hide K3.out.2.1
  have HQ : Hid (w.heap.size ≤ ba ∧ ba < bs ∧ bs < bq ∧ bq < A3.heap.size) := hide (by have := K3.out.2.2; omega)
  clear K3 hbq hbs hba
  have HLD := hide (laid_any (.slice pa ps.length pcap) ps A3 (HRP.out.later B3.out) (by have := HLN.out; omega) HNP.out)
  refine HLD.out.mono ?_
  rintro e w4 ⟨cb, a4, c4, rfl, hcr⟩
  clear HLD
  obtain ⟨L, hL⟩ : ∃ L, L = bld ps := ⟨_, rfl⟩
  rw [← hL] at hcr ⊢
  clear hL
  obtain ⟨ln, hln⟩ : ∃ ln, ln = L.length := ⟨_, rfl⟩
  rw [← hln] at hcr ⊢
  have HLL := hide hln
  clear hln
  have C4 := hide hcr
  have K4 := hide (K3'.out.later hcr.low)
  have B4 := hide (B3.out.trans (hcr.low.mono B3.out.size))
  have Z4 : Hid (bq < w4.heap.size ∧ bq < cb ∧ cb < w4.heap.size) := hide (by have := HQ.out; have := hcr.low.size; have := hcr.new; have := hcr.ch.lt; omega)
  clear hcr K3'
  go_wp2_with fail
  -- the chain's box
  have K5 := hide (K4.out.box 23 (.pointer (some ⟨cb, 0, none⟩)))
  have C5 := hide (C4.out.later (alloc_below w4 (.cells #[.pointer (some ⟨cb, 0, none⟩)] 23)))
  have B5 : Hid (Below w.heap.size w (w4.alloc (.cells #[.pointer (some ⟨cb, 0, none⟩)] 23))) := hide (B4.out.alloc B4.out.size _)
  have Z5 : Hid ((w4.alloc (.cells #[.pointer (some ⟨cb, 0, none⟩)] 23)).heap.size = w4.heap.size + 1) := hide (by simp)
  generalize w4.alloc (.cells #[.pointer (some ⟨cb, 0, none⟩)] 23) = A5 at *
  obtain ⟨bx, hbx⟩ : ∃ bx, bx = w4.heap.size := ⟨_, rfl⟩
  rw [← hbx] at K5 Z5 Z4 ⊢
  clear hbx K4 B4 C4
  refine (all_any cb _).mono ?_
  rintro e w6 ⟨rfl, rfl⟩
  obtain ⟨bc, hbc⟩ : ∃ bc, bc = A5.heap.size := ⟨_, rfl⟩
  have K6 := hide (K5.out.box 23 (.pointer (some ⟨cb, 0, none⟩)))
  have C6 := hide (C5.out.later (alloc_below A5 (.cells #[.pointer (some ⟨cb, 0, none⟩)] 23)))
  have B6 : Hid (Below w.heap.size w (A5.alloc (.cells #[.pointer (some ⟨cb, 0, none⟩)] 23))) := hide (B5.out.alloc B5.out.size _)
  have Z6 : Hid ((A5.alloc (.cells #[.pointer (some ⟨cb, 0, none⟩)] 23)).heap.size = bc + 1) := hide (by rw [hbc]; simp)
  rw [← hbc] at K6 ⊢
  have Z5' : Hid (bc = bx + 1) := hide (by rw [hbc]; exact Z5.out)
  generalize A5.alloc (.cells #[.pointer (some ⟨cb, 0, none⟩)] 23) = A6 at *
  clear hbc K5 B5 C5
  have qf := eqNilF bc
  have K7 := hide (K6.out.box 28 (.func (Fn.func 12) #[] #[.pointer (some ⟨bc, 0, none⟩)]))
  have C7 := hide (C6.out.later (alloc_below A6 (.cells #[.func (Fn.func 12) #[] #[.pointer (some ⟨bc, 0, none⟩)]] 28)))
  have B7 : Hid (Below w.heap.size w (A6.alloc (.cells #[.func (Fn.func 12) #[] #[.pointer (some ⟨bc, 0, none⟩)]] 28))) := hide (B6.out.alloc B6.out.size _)
  have x1 := K7.out.cell (p := (ba, 22, .slice ga acts.length gcap)) (by simp)
  have x2 := K7.out.cell (p := (bs, 3, .int .i64 stop)) (by simp)
  dsimp only at x1 x2
  go_wp2_with fail
  have Z7 : Hid ((A6.alloc (.cells #[.func (Fn.func 12) #[] #[.pointer (some ⟨bc, 0, none⟩)]] 28)).heap.size = A6.heap.size + 1) := hide (by simp)
  generalize A6.alloc (.cells #[.func (Fn.func 12) #[] #[.pointer (some ⟨bc, 0, none⟩)]] 28) = A7 at *
  obtain ⟨bw, hbw⟩ : ∃ bw, bw = A6.heap.size := ⟨_, rfl⟩
  rw [← hbw] at K7 Z7 Z6 ⊢
  clear hbw K6 B6 C6 x1 x2
  have HWK := hide (refWalk_any (.slice a4 ln c4) (.slice ga acts.length gcap) acts L stop w.heap.size ps.length A7 (C7.out.row.low (by have := HQ.out; omega)) (HRA.out.later B7.out) C7.out.lk HNA.out (by have := HLN.out; omega) B7.out.size)
  refine HWK.out.mono ?_
  rintro e w8 ⟨U, a1, c1, a2, c2, rfl, hws, hwe, hoU, hoB, hb8⟩
  obtain ⟨Bh, hBh⟩ : ∃ Bh, Bh = stA acts L U.length := ⟨_, rfl⟩
  rw [← hBh] at hoB ⊢
  obtain ⟨lb, hlb⟩ : ∃ lb, lb = Bh.length := ⟨_, rfl⟩
  rw [← hlb] at hoB ⊢
  obtain ⟨lu, hlu⟩ : ∃ lu, lu = U.length := ⟨_, rfl⟩
  rw [← hlu] at hoU ⊢
  have HWS := hide hws
  have HWE := hide hwe
  have HBH := hide hBh
  have HLB := hide hlb
  have HLU := hide hlu
  have HLK := hide (fun k => stA_LK (acts := acts) (L := L) C7.out.lk HNA.out k)
  have HUB : Hid (lu ≤ ps.length + 2 * acts.length) := hide (by have h1 := hws.room; have h2 := (HLK.out U.length).len; have h3 := hlu; rw [← hBh] at h1 h2; omega)
  have O8 := hide hoU
  have P8 := hide hoB
  have K8 := hide (K7.out.later hb8)
  have B8 := hide (B7.out.trans (hb8.mono B7.out.size))
  have C8 := hide (C7.out.ch.later hb8)
  have Z8 : Hid (bw < w8.heap.size) := hide (by have := Z7.out; have := hb8.size; omega)
  have HNEW : Hid (w.heap.size ≤ cb) := hide (by have := HQ.out; have := C7.out.new; omega)
  clear hws hwe hoU hoB hb8 hBh hlb hlu K7 B7 C7 HWK HLL
  have K9 := hide (K8.out.box 24 (.slice a1 lu c1))
  have J9 := hide (alloc_below w8 (.cells #[.slice a1 lu c1] 24))
  have Z9 : Hid ((w8.alloc (.cells #[.slice a1 lu c1] 24)).heap.size = w8.heap.size + 1) := hide (by simp)
  have K10 := hide (K9.out.box 24 (.slice a2 lb c2))
  have J10 := hide (J9.out.trans ((alloc_below (w8.alloc (.cells #[.slice a1 lu c1] 24)) (.cells #[.slice a2 lb c2] 24)).mono J9.out.size))
  have Z10 : Hid (((w8.alloc (.cells #[.slice a1 lu c1] 24)).alloc (.cells #[.slice a2 lb c2] 24)).heap.size = w8.heap.size + 1 + 1) := hide (by simp)
  have K11 := hide (K10.out.box 24 (.slice none 0 0))
  have J11 := hide (J10.out.trans ((alloc_below ((w8.alloc (.cells #[.slice a1 lu c1] 24)).alloc (.cells #[.slice a2 lb c2] 24)) (.cells #[.slice none 0 0] 24)).mono J10.out.size))
  have Z11 : Hid ((((w8.alloc (.cells #[.slice a1 lu c1] 24)).alloc (.cells #[.slice a2 lb c2] 24)).alloc (.cells #[.slice none 0 0] 24)).heap.size = w8.heap.size + 1 + 1 + 1) := hide (by simp)
  have x9 := K11.out.cell (p := (bw, 28, .func (Fn.func 12) #[] #[.pointer (some ⟨bc, 0, none⟩)])) (by simp)
  dsimp only at x9
  go_wp2_with fail
  have ZB : Hid (bw < w8.heap.size) := Z8
  generalize (((w8.alloc (.cells #[.slice a1 lu c1] 24)).alloc (.cells #[.slice a2 lb c2] 24)).alloc (.cells #[.slice none 0 0] 24)) = W5 at *
  obtain ⟨bo, hbo⟩ : ∃ bo, bo = w8.heap.size + 1 + 1 := ⟨_, rfl⟩
  obtain ⟨bh, hbh⟩ : ∃ bh, bh = w8.heap.size + 1 := ⟨_, rfl⟩
  obtain ⟨bu, hbu⟩ : ∃ bu, bu = w8.heap.size := ⟨_, rfl⟩
  have K11' := K11.out
  rw [Z10.out, Z9.out] at K11'
  rw [← hbo] at K11' Z11 ⊢
  rw [← hbh] at K11' ⊢
  rw [← hbu] at K11' ⊢
  obtain ⟨K, hK⟩ : ∃ K : List (Nat × TypeId × Value), K = [(bh, 24, .slice a2 lb c2), (bu, 24, .slice a1 lu c1), (bw, 28, .func (Fn.func 12) #[] #[.pointer (some ⟨bc, 0, none⟩)]), (bc, 23, .pointer (some ⟨cb, 0, none⟩)), (bx, 23, .pointer (some ⟨cb, 0, none⟩)), (ba, 22, .slice ga acts.length gcap), (bs, 3, .int .i64 stop), (bq, 4, .bool false)] := ⟨_, rfl⟩
  rw [← hK] at K11'
  obtain ⟨DD, hDD⟩ : ∃ DD, DD = W5.heap.size := ⟨_, rfl⟩
  have HDD := hide hDD
  have HLNN : Hid (LN w K DD cb bo (.slice a1 lu c1) (.slice a2 lb c2)) := hide (by
    refine ⟨fun p hp => ?_, fun p hp => ?_, ?_, ?_, HNEW.out, fun g hg => ?_, fun g hg => ?_⟩
    · rw [hK] at hp
      simp only [List.mem_cons, List.not_mem_nil, or_false] at hp
      rcases hp with rfl | rfl | rfl | rfl | rfl | rfl | rfl | rfl <;> rfl
    · have hlt : p.1 < ((w8.alloc (.cells #[.slice a1 lu c1] 24)).alloc (.cells #[.slice a2 lb c2] 24)).heap.size := K10.out.lt p (by rw [Z9.out, ← hbh, ← hbu, ← hK]; exact hp)
      rw [Z10.out, ← hbo] at hlt
      omega
    · have := B8.out.size; have := J11.out.size; omega
    · have := B8.out.size; omega
    · have := (O8.out.lt hg).2; have := J11.out.size; omega
    · have := (P8.out.lt hg).2; have := J11.out.size; omega)
  have LG0 : Hid (LG w K DD cb bo (.slice a1 lu c1) (.slice a2 lb c2) U Bh (stA acts L 0) [] (.slice none 0 0) W5) := hide (by
    rw [stA_zero]
    refine ⟨fun p hp => K11' p (List.mem_cons_of_mem _ hp), C8.out.later J11.out, K11' _ (List.mem_cons_self ..), OR.nil _ _ _ _, ?_, ?_, B8.out.trans (J11.out.mono B8.out.size)⟩
    · have := O8.out.later J11.out; rw [HLU.out] at this ⊢; exact this
    · have := P8.out.later J11.out; rw [HLB.out] at this ⊢; exact this)
  have mA : Hid ((ba, 22, .slice ga acts.length gcap) ∈ K) := hide (by rw [hK]; simp)
  have mS : Hid ((bs, 3, .int .i64 stop) ∈ K) := hide (by rw [hK]; simp)
  have mQ : Hid ((bq, 4, .bool false) ∈ K) := hide (by rw [hK]; simp)
  have mX : Hid ((bx, 23, .pointer (some ⟨cb, 0, none⟩)) ∈ K) := hide (by rw [hK]; simp)
  have mC : Hid ((bc, 23, .pointer (some ⟨cb, 0, none⟩)) ∈ K) := hide (by rw [hK]; simp)
  have mW : Hid ((bw, 28, .func (Fn.func 12) #[] #[.pointer (some ⟨bc, 0, none⟩)]) ∈ K) := hide (by rw [hK]; simp)
  have mU : Hid ((bu, 24, .slice a1 lu c1) ∈ K) := hide (by rw [hK]; simp)
  have mB : Hid ((bh, 24, .slice a2 lb c2) ∈ K) := hide (by rw [hK]; simp)
  have HBQ : Hid (w.heap.size ≤ bq) := hide (by have := HQ.out; omega)
  have HLB2 : Hid (LK Bh (ps.length + acts.length)) := hide (by rw [HBH.out]; exact HLK.out _)
  clear K11' K11 K10 K9 K8 J9 J10 J11 Z9 Z10 Z11 O8 P8 B8 C8 Z8 ZB hbo hbh hbu hK hDD x9 Z5 Z5' Z6 Z7 Z4 B3 HQ HNEW
  rename_i K0 hK0
  generalize hact : (Act.mk _ _ : Act) = act
  have REST : ∀ (D : Nat) (W : World), W5.heap.size ≤ D → (∃ a c, LG w K DD cb bo (.slice a1 lu c1) (.slice a2 lb c2) U Bh Bh U (.slice a lu c) W) → W.heap[D]? = some (.deferred (some [])) → K0 { act with defers := { target := .collected D, args := #[] } :: act.defers } W := by
    rintro D W hD ⟨ag, cg, hG⟩ hKD
    refine hK0 _ _ ?_
    subst hact
    dsimp only
    have G1 := hide hG
    have HKD := hide hKD
    have HDZ := hide hD
    have HGL : Hid (U.length ≤ 4611686018427387904 ∧ Bh.length ≤ 4611686018427387904) := hide (by have h1 := HUB.out; have h2 := HLN.out; have h3 := HLB2.out.len; have h4 := HLU.out; omega)
    have E0 : Hid (∀ V, (LG w K DD cb bo (.slice a1 lu c1) (.slice a2 lb c2) U Bh Bh U (.slice ag lu cg) V ∧ V.heap[D]? = some (.deferred (some []))) → Calls Try.prog 8 #[.slice ag lu cg, .slice a1 lu c1] V fun en w' => en = .returned (.bool true) ∧ (LG w K DD cb bo (.slice a1 lu c1) (.slice a2 lb c2) U Bh Bh U (.slice ag lu cg) w' ∧ w'.heap[D]? = some (.deferred (some []))) ∧ w'.cell? ⟨bo, 0, none⟩ = some (.slice ag lu cg) ∧ w'.cell? ⟨bu, 0, none⟩ = some (.slice a1 lu c1) ∧ w'.cell? ⟨bx, 0, none⟩ = some (.pointer (some ⟨cb, 0, none⟩)) ∧ w'.cell? ⟨bh, 0, none⟩ = some (.slice a2 lb c2)) := hide (fun V h => by
      refine (same_any _ _ U V h.1.gr.rv h.1.ru.rv HGL.out.1).mono ?_
      rintro e w' ⟨rfl, hb⟩
      have h' := h.1.later hb
      exact ⟨rfl, ⟨h', (hb.block D (Array.getElem?_eq_some_iff.1 h.2).1).trans h.2⟩, h'.gb.cell, h'.kb.cell mU.out, h'.kb.cell mX.out, h'.kb.cell mB.out⟩)
    have A0 : Hid (∀ V, (LG w K DD cb bo (.slice a1 lu c1) (.slice a2 lb c2) U Bh Bh U (.slice ag lu cg) V ∧ V.heap[D]? = some (.deferred (some []))) → Calls Try.prog 9 #[.pointer (some ⟨cb, 0, none⟩), .int .i64 (lb : Int)] V fun en w' => ∃ a cp, en = .returned (.slice a lb cp) ∧ RV w' (.slice a lb cp) Bh ∧ (LG w K DD cb bo (.slice a1 lu c1) (.slice a2 lb c2) U Bh Bh U (.slice ag lu cg) w' ∧ w'.heap[D]? = some (.deferred (some []))) ∧ w'.cell? ⟨bo, 0, none⟩ = some (.slice ag lu cg) ∧ w'.cell? ⟨bu, 0, none⟩ = some (.slice a1 lu c1) ∧ w'.cell? ⟨bx, 0, none⟩ = some (.pointer (some ⟨cb, 0, none⟩)) ∧ w'.cell? ⟨bh, 0, none⟩ = some (.slice a2 lb c2)) := hide (fun V h => by
      refine (allr_any cb cb Bh (lb : Int) V h.1.ch HLB2.out.ris HLB2.out.pos (by have := HLB2.out.len; have := HLN.out; omega) (by have := HLB.out; omega)).mono ?_
      rintro e w' ⟨v, rfl, ho, hb⟩
      obtain ⟨a, cp, rfl⟩ := ho.slc
      have hr := ho.rv
      have h' := h.1.later hb
      rw [← HLB.out] at hr ⊢
      exact ⟨a, cp, rfl, hr, ⟨h', (hb.block D (Array.getElem?_eq_some_iff.1 h.2).1).trans h.2⟩, h'.gb.cell, h'.kb.cell mU.out, h'.kb.cell mX.out, h'.kb.cell mB.out⟩)
    have E1 : Hid (∀ V a cp, (LG w K DD cb bo (.slice a1 lu c1) (.slice a2 lb c2) U Bh Bh U (.slice ag lu cg) V ∧ V.heap[D]? = some (.deferred (some []))) → RV V (.slice a lb cp) Bh → Calls Try.prog 8 #[.slice a lb cp, .slice a2 lb c2] V fun en w' => en = .returned (.bool true) ∧ (LG w K DD cb bo (.slice a1 lu c1) (.slice a2 lb c2) U Bh Bh U (.slice ag lu cg) w' ∧ w'.heap[D]? = some (.deferred (some []))) ∧ w'.cell? ⟨bo, 0, none⟩ = some (.slice ag lu cg) ∧ w'.cell? ⟨bu, 0, none⟩ = some (.slice a1 lu c1) ∧ w'.cell? ⟨bx, 0, none⟩ = some (.pointer (some ⟨cb, 0, none⟩)) ∧ w'.cell? ⟨bh, 0, none⟩ = some (.slice a2 lb c2)) := hide (fun V a cp h hr => by
      refine (same_any _ _ Bh V hr h.1.rb.rv HGL.out.2).mono ?_
      rintro e w' ⟨rfl, hb⟩
      have h' := h.1.later hb
      exact ⟨rfl, ⟨h', (hb.block D (Array.getElem?_eq_some_iff.1 h.2).1).trans h.2⟩, h'.gb.cell, h'.kb.cell mU.out, h'.kb.cell mX.out, h'.kb.cell mB.out⟩)
    have hS0 : LG w K DD cb bo (.slice a1 lu c1) (.slice a2 lb c2) U Bh Bh U (.slice ag lu cg) W.drew ∧ W.drew.heap[D]? = some (.deferred (some [])) := ⟨hG.later ((Below.refl _ _).drew), hKD⟩
    have t1 := hG.gb.cell
    have t2 := hG.kb.cell mU.out
    have t3 := hG.kb.cell mX.out
    have t4 := hG.kb.cell mB.out
    dsimp only at t2 t3 t4
    clear hG hKD hD LG0
    go_wp2_with fail
    go_region_held3 (fun W => W.cell? ⟨bo, 0, none⟩ = some (.slice ag lu cg) ∧ W.cell? ⟨bu, 0, none⟩ = some (.slice a1 lu c1) ∧ W.cell? ⟨bx, 0, none⟩ = some (.pointer (some ⟨cb, 0, none⟩)) ∧ W.cell? ⟨bh, 0, none⟩ = some (.slice a2 lb c2)) (go_keep) ((first
      | (go_at_call 9; refine (A0.out _ ?_).mono ?_; assumption; rintro e w' ⟨ra, rc, rfl, hRV, hT, hx1, hx2, hx3, hx4⟩)
      | (go_at_call_of 8 c1; refine (E0.out _ ?_).mono ?_; assumption; rintro e w' ⟨rfl, hT, hx1, hx2, hx3, hx4⟩)
      | (go_at_call_of 8 c2; refine (E1.out _ _ _ ?_ ?_).mono ?_; assumption; assumption; rintro e w' ⟨rfl, hT, hx1, hx2, hx3, hx4⟩)))
    clear E0 A0 E1 hS0 t1 t2 t3 t4
    have GT : Hid (LG w K DD cb bo (.slice a1 lu c1) (.slice a2 lb c2) U Bh Bh U (.slice ag lu cg) w' ∧ w'.heap[D]? = some (.deferred (some []))) := hide hT
    have GL2 := hide (GT.out.1.later (alloc_below w' (.cells #[.slice none 0 0] 24)))
    have x9 := GL2.out.kb.cell mW.out
    dsimp only at x9
    obtain ⟨DD2, hDD2⟩ : ∃ DD2, DD2 = (w'.alloc (.cells #[.slice none 0 0] 24)).heap.size := ⟨_, rfl⟩
    obtain ⟨bg, hbg⟩ : ∃ bg, bg = w'.heap.size := ⟨_, rfl⟩
    have zx : (w'.alloc (.cells #[.slice none 0 0] 24)).heap.size = w'.heap.size + 1 := by simp
    have HN2 : Hid (LN w K DD2 cb bg (.slice a1 lu c1) (.slice a2 lb c2)) := hide (by
      have h := GT.out.1
      have z := h.low.size
      refine ⟨HLNN.out.ok, fun p hp => ?_, by omega, by omega, HLNN.out.c, fun g hg => ?_, fun g hg => ?_⟩
      · have := (h.kb p hp).lt; omega
      · have := (h.ru.lt hg).2; omega
      · have := (h.rb.lt hg).2; omega)
    have LG2 : Hid (LG w K DD2 cb bg (.slice a1 lu c1) (.slice a2 lb c2) U Bh Bh [] (.slice none 0 0) (w'.alloc (.cells #[.slice none 0 0] 24))) := hide ⟨GL2.out.kb, GL2.out.ch, by rw [hbg]; exact Box.new w' _ _, OR.nil _ _ _ _, GL2.out.ru, GL2.out.rb, GL2.out.low⟩
    have KD2 : Hid ((w'.alloc (.cells #[.slice none 0 0] 24)).heap[D]? = some (.deferred (some []))) := hide ((Below.heap_alloc _ _ _ (Array.getElem?_eq_some_iff.1 GT.out.2).1).trans GT.out.2)
    have DLT : Hid (D < w'.heap.size) := hide (Array.getElem?_eq_some_iff.1 GT.out.2).1
    clear GT hT hx1 hx2 hx3 hx4 hRV
    go_wp2_with fail
    rw [← hbg]
    generalize (w'.alloc (.cells #[.slice none 0 0] 24)) = Wx at *
    have HDD2 := hide hDD2
    have HBG : Hid (bg < Wx.heap.size ∧ D < Wx.heap.size) := hide (by have := DLT.out; omega)
    clear hDD2 hbg zx x9 GL2 DLT
    have HSQ := hide (all_acts 11 (by omega) bc cb cb lb (outLen bg) (fun _ => Bh) (fun _ => HLB2.out.ris) (fun _ => HGL.out.2) Wx)
    have HSI := hide (fun (bk : Nat) (V : World) => all_acts 9 (by omega) bc cb cb lb (cntOf bk) (fun _ => Bh) (fun _ => HLB2.out.ris) (fun _ => HGL.out.2) V)
    have HCB := hide LG2.out.ch.lt
    have ZL := hide LG2.out.low.size
    obtain ⟨i0, hi, hiz⟩ := Option.map_eq_some_iff.1 Try.infoVersion
    simp only [Prod.mk.injEq] at hiz
    obtain ⟨hz0, hz1, hz2⟩ := hiz
    have HI := hide (And.intro hi (And.intro hz0 (And.intro hz1 hz2)))
    clear hi hz0 hz1 hz2
    refine (wpIn_wide (n := 12)).1 ?_
    refine' loop_leansH (F := Fence.wide) (n := 12) rfl (by omega) (gf := 12) (lb := #[.pointer (some ⟨bc, 0, none⟩)]) rfl trivial (enters_of Try.func12 (by kernel_rfl) rfl) HSQ.out (fun h k => h.trans k) (fun W l o o' hl h ho _ => KpW.put h ho (by have := HCB.out; omega) o') (fun _ => rfl)
      (fun s V => (s = Bh.take s.length ∧ s.length ≤ Bh.length ∧ Wx.heap.size ≤ V.heap.size ∧ V.heap[D]? = some (.deferred (some []))) ∧ ∃ a c, LG w K DD2 cb bg (.slice a1 lu c1) (.slice a2 lb c2) U Bh Bh s (.slice a s.length c) V)
      (fun _ _ _ => False)
      (fun s V ⟨⟨_, h2, _, _⟩, a, c, hG⟩ => ⟨⟨by rw [HLB.out]; exact h2, outLen_at hG.gb.cell⟩, hG.ch, hG.kb.cell mC.out⟩)
      (fun s A C row ⟨⟨h1, h2, h3, h4⟩, a, c, hG⟩ hg hr => ⟨⟨h1, h2, Nat.le_trans h3 hg.size, (hg.block D (Array.getElem?_eq_some_iff.1 h4).1 (fun e => by have := (hr D e.symm).1; have := HBG.out.2; omega)).trans h4⟩, a, c, hG.grown ZL.out hg hr⟩)
      (fun _ _ _ _ _ hF _ _ => hF)
      ⟨⟨by simp, Nat.zero_le _, Nat.le_refl _, KD2.out⟩, none, 0, LG2.out⟩ _ ?assign2 ?body2 ?done2 ?stop2
    case assign2 =>
      intro l x W K hK
      dsimp only [encP]
      gi_wp2
      exact hK
    case stop2 =>
      rintro D2 c s W hD _ hF
      exact hF.elim
    case body2 =>
      clear HSQ LG2 KD2
      rintro l s x W hlE ⟨rr, hrr⟩ ⟨⟨hs1, hs2, hs3, hs4⟩, ag2, cg2, hG⟩ hx
      rw [nx_take HLB2.out.ris HLB2.out.pos hs1 hs2] at hx
      obtain ⟨hlt, htk⟩ := take_more hs1 hx
      have HLT := hide hlt
      have HTK := hide htk
      have HLE := hide hlE
      have HRR := hide hrr
      have HWZ := hide hs3
      have HD4 := hide hs4
      obtain ⟨sl, hsl⟩ : ∃ sl, sl = s.length := ⟨_, rfl⟩
      have HSL := hide hsl
      rw [← hsl] at hG
      have G0 := hide hG
      have gc := hG.gb.cell
      have hc := hG.kb.cell mB.out
      dsimp only at hc
      clear hG hs1 hs2 hs3 hs4 hx hlt htk hsl hlE hrr
      obtain ⟨W7, hW7⟩ : ∃ W7, W.alloc (.cells #[.int .i64 x.1, .string ⟨x.2.toArray⟩] 36) = W7 := ⟨_, rfl⟩
      have HW7 := hide hW7
      have HO7 : Hid (OR W7 DD2 36 2 (.slice ag2 sl cg2) sl (vc s)) := hide (by rw [← hW7]; have := G0.out.gr.later (alloc_below W (.cells #[.int .i64 x.1, .string ⟨x.2.toArray⟩] 36)); rw [← HSL.out] at this; exact this)
      have HN7 : Hid (∀ j u, ([.int .i64 x.1, .string ⟨x.2.toArray⟩] : List Value)[j]? = some u → W7.cell? ((⟨W.heap.size, 0, none⟩ : Addr).add j) = some u) := hide (fun j u hj => by
        rw [← hW7, Addr.add_lit, cell_of_row _ W.heap.size _ _ _ _ (alloc_newV W _)]
        match j, hj with
        | 0, hj => cases hj; rfl
        | 1, hj => cases hj; rfl)
      have HZ7 : Hid (DD2 ≤ W7.heap.size) := hide (by rw [← hW7]; have := HDD2.out; have := HWZ.out; simp; omega)
      have HSZ : Hid (sl + 1 ≤ 5864062014804) := hide (by have := HLB2.out.len; have := HLN.out; have := HLT.out; have := HSL.out; omega)
      gi_wp2_with (gi_at_builtin; refine wpListIn_append_or W7 DD2 24 36 i0 _ 2 24 rfl _ _ rfl Try.underlying24 HI.out.1 HI.out.2.1 HI.out.2.2.1 HI.out.2.2.2 rfl (by decide) (.slice ag2 sl cg2) sl (vc s) rfl HO7.out ⟨W.heap.size, 0, none⟩ 1 [.int .i64 x.1, .string ⟨x.2.toArray⟩] rfl rfl HN7.out (by intro u hu; simp at hu; rcases hu with rfl | rfl <;> rfl) (by have := HSZ.out; unfold maxLen; omega) (by have := HSZ.out; omega) HZ7.out ?_)
      intro v' w8 r1 r2 _
      obtain ⟨a8, c8, rfl⟩ := r1.slc
      obtain ⟨o8, G8, K8, F8⟩ := G0.out.push (E := 0) HN2.out HW7.out (by rw [show s.length + 1 = sl + 1 by rw [HSL.out]]; exact r1) r2
      have e0 := o8.cell
      have e1 := o8.frozen
      obtain ⟨nl, hnl⟩ : ∃ nl, nl = sl + 1 := ⟨_, rfl⟩
      rw [← hnl] at G8 K8 F8 ⊢
      have HNL := hide hnl
      obtain ⟨W9, hW9⟩ : ∃ W9, w8.setCell ⟨bg, 0, none⟩ (.slice a8 nl c8) = W9 := ⟨_, rfl⟩
      rw [hW9] at G8 K8 F8
      have c6 := G8.gb.cell
      have h6 := G8.kb.cell mB.out
      have w6 := G8.kb.cell mW.out
      dsimp only at h6 w6
      have G9 := hide G8
      have KP9 := hide K8
      have KF9 : Hid (KeepsFrom Wx.heap.size W W9) := hide ⟨F8.size, fun g o _ h2 h3 => F8.same g o (Nat.zero_le _) h2 h3⟩
      have d2 : decide ((lb : Int) < (nl : Int)) = false := decide_eq_false (by have := HLT.out; have := HLB.out; have := HSL.out; omega)
      have d3 : ¬ lb < nl := by have := HLT.out; have := HLB.out; have := HSL.out; omega
      have HD9 : Hid (W9.heap[D]? = some (.deferred (some []))) := hide (F8.same D _ (Nat.zero_le _) HD4.out rfl)
      clear G8 K8 F8 o8 r1 r2 hW7 HW7 gc hc HO7 HN7 hnl
      by_cases h20 : 20 < nl
      · have d4 : decide ((20 : Int) < (nl : Int)) = true := decide_eq_true (by omega)
        gi_wp2
        refine ⟨KF9.out, KP9.out, ⟨?_, ?_, Nat.le_trans HWZ.out KF9.out.size, HD9.out⟩, a8, c8, ?_⟩
        · rw [List.length_append]; exact HTK.out
        · rw [List.length_append]; have := HLT.out; simp; omega
        · rw [List.length_append, show s.length + [x].length = nl by rw [HNL.out, HSL.out]; rfl]; exact G9.out
      · have d4 : decide ((20 : Int) < (nl : Int)) = false := decide_eq_false (by omega)
        have x9 := (G9.out.later (alloc_below W9 (.cells #[.int .i64 0] 3))).kb.cell mW.out
        dsimp only at x9
        have GK := hide (G9.out.later (alloc_below W9 (.cells #[.int .i64 0] 3)))
        have BK := hide (Box.new W9 3 (.int .i64 0))
        have KFK : Hid (KeepsFrom Wx.heap.size W (W9.alloc (.cells #[.int .i64 0] 3))) := hide (keeps_trans KF9.out (keeps_below (alloc_below W9 _)))
        have KPK : Hid (KpW cb W (W9.alloc (.cells #[.int .i64 0] 3))) := hide (KP9.out.trans (KpW.later (alloc_below W9 _) G9.out.ch))
        have DK : Hid ((W9.alloc (.cells #[.int .i64 0] 3)).heap[D]? = some (.deferred (some []))) := hide ((Below.heap_alloc _ _ _ (Array.getElem?_eq_some_iff.1 HD9.out).1).trans HD9.out)
        have zk : (W9.alloc (.cells #[.int .i64 0] 3)).heap.size = W9.heap.size + 1 := by simp
        have NKB : Hid ((∀ p ∈ K, p.1 ≠ W9.heap.size) ∧ bg ≠ W9.heap.size ∧ w.heap.size ≤ W9.heap.size ∧ W.heap.size ≤ W9.heap.size ∧ D < W9.heap.size) := hide ⟨fun p hp => by have := (G9.out.kb p hp).lt; omega, by have := G9.out.gb.lt; omega, G9.out.low.size, KF9.out.size, (Array.getElem?_eq_some_iff.1 HD9.out).1⟩
        gi_wp2
        generalize W9.alloc (.cells #[.int .i64 0] 3) = Wk at *
        obtain ⟨bk, hbk⟩ : ∃ bk, bk = W9.heap.size := ⟨_, rfl⟩
        rw [← hbk] at BK NKB zk ⊢
        have LK2 := KFK.out.same _ _ HLE.out HRR.out rfl
        have HZK := hide zk
        clear hbk zk x9 hW9 c6 h6 w6 e0 e1
        have HCK := hide GK.out.ch.lt
        refine' loop_leansN (F := Fence.wide.inRound l) (n := 10) rfl LK2 (by omega) (gf := 12) (lb := #[.pointer (some ⟨bc, 0, none⟩)]) rfl trivial (enters_of Try.func12 (by kernel_rfl) rfl) (Leans.inRound l (HSI.out bk Wk)) (fun h k => h.trans k) (fun V l2 o o' hl h ho _ => KpW.put h ho (by have := HCK.out; omega) o') (fun _ => rfl)
          (fun s2 V => (s2 = Bh.take s2.length ∧ s2.length ≤ Bh.length ∧ KeepsFrom Wx.heap.size W V ∧ KpW cb W V ∧ V.heap[D]? = some (.deferred (some []))) ∧ Box V bk 3 (.int .i64 (s2.length : Int)) ∧ LG w K DD2 cb bg (.slice a1 lu c1) (.slice a2 lb c2) U Bh Bh (s ++ [x]) (.slice a8 nl c8) V)
          (fun _ _ _ => False)
          (fun s2 V ⟨⟨_, h2, _, _, _⟩, hB, hG⟩ => ⟨⟨by rw [HLB.out]; exact h2, cntOf_at hB.cell⟩, hG.ch, hG.kb.cell mC.out⟩)
          (fun s2 A C row ⟨⟨h1, h2, h3, h4, h5⟩, hB, hG⟩ hg hr => ⟨⟨h1, h2, ownFrom_keepsFrom (β := Unit) (B' := Wk.heap.size) (by have := NKB.out; have := HZK.out; omega) () A C row h3 hg hr, h4.trans (KpW.same hg.size (fun g c fz hq => grown_cells hg (fun r e => (hr r e).2) hq) (cell_grown hG.ch hg (fun r e => (hr r e).2))), (hg.block D (Array.getElem?_eq_some_iff.1 h5).1 (fun e => by have := (hr D e.symm).1; have := NKB.out; have := HZK.out; omega)).trans h5⟩, grown_cells hg (fun r e => (hr r e).2) hB, hG.grown (by have := NKB.out; have := HZK.out; omega) hg hr⟩)
          (fun _ _ _ _ _ hF _ _ => hF)
          ⟨⟨by simp, Nat.zero_le _, KFK.out, KPK.out, DK.out⟩, BK.out, GK.out⟩ _ ?assign3 ?body3 ?done3 ?stop3
        case assign3 =>
          intro l2 x2 V K hK
          dsimp only [encP]
          gi_wp2
          exact hK
        case stop3 =>
          rintro c s2 V _ hF
          exact hF.elim
        case body3 =>
          clear HSI KFK KPK DK BK GK
          rintro l2 s2 x2 V _ _ ⟨⟨h1, h2, h3, h4, h5⟩, hB, hG⟩ hx
          rw [nx_take HLB2.out.ris HLB2.out.pos h1 h2] at hx
          obtain ⟨hlt2, htk2⟩ := take_more h1 hx
          have b0 := hB.cell
          have b1 := hB.frozen
          have hc := hG.kb.cell mB.out
          dsimp only at hc
          have wk : wrap64 ((s2.length : Int) + 1) = (s2.length : Int) + 1 := by have := HLB2.out.len; have := HLN.out; unfold wrap64; omega
          have HT2 := hide htk2
          have HL2 := hide hlt2
          have B2 : Hid (Box (V.setCell ⟨bk, 0, none⟩ (.int .i64 ((s2.length : Int) + 1))) bk 3 (.int .i64 ((s2.length : Int) + 1))) := hide (hB.set _)
          have GG2 := hide (hG.set hB rfl NKB.out.1 NKB.out.2.1 NKB.out.2.2.1 (.int .i64 ((s2.length : Int) + 1)))
          have KP2 : Hid (KpW cb V (V.setCell ⟨bk, 0, none⟩ (.int .i64 ((s2.length : Int) + 1)))) := hide (kpw_set hG.ch hB rfl _)
          have KF2 : Hid (∀ E, KeepsFrom E V (V.setCell ⟨bk, 0, none⟩ (.int .i64 ((s2.length : Int) + 1)))) := hide (fun E => (KeepsOthers.setCell _ _ _).from _)
          have D2 : Hid ((V.setCell ⟨bk, 0, none⟩ (.int .i64 ((s2.length : Int) + 1))).heap[D]? = some (.deferred (some []))) := hide ((Below.heap_setCell _ _ _ D (show D ≠ bk by have := NKB.out; omega)).trans h5)
          have H3 := hide h3
          have H4 := hide h4
          have dd : decide ((lb : Int) < (s2.length : Int) + 1) = false := decide_eq_false (by have := HLB.out; omega)
          have HLEN : Hid ((s2 ++ [x2]).length = s2.length + 1) := hide (by rw [List.length_append]; rfl)
          have hcv := (GG2.out).kb.cell mB.out
          have bv := B2.out.cell
          dsimp only at hcv
          generalize hsi : (s2.length : Int) = si at *
          obtain ⟨V2, hV2⟩ : ∃ V2, V.setCell ⟨bk, 0, none⟩ (.int .i64 (si + 1)) = V2 := ⟨_, rfl⟩
          rw [hV2] at B2 GG2 KP2 KF2 D2 hcv bv
          have HSI2 := hide hsi
          clear hB hG h1 h2 h3 h4 h5 hx hlt2 htk2 hsi
          gi_wp2
          refine ⟨KF2.out _, KP2.out, ⟨?_, ?_, keeps_trans H3.out (KF2.out _), H4.out.trans KP2.out, D2.out⟩, ?_, GG2.out⟩
          · rw [HLEN.out]; exact HT2.out
          · rw [HLEN.out]; exact HL2.out
          · rw [HLEN.out]; have := B2.out; rw [← HSI2.out] at this; exact this
        case done3 =>
          rintro s2 V hS ⟨⟨h1, h2, h3, h4, h5⟩, hB, hG⟩
          rw [nx_take HLB2.out.ris HLB2.out.pos h1 h2] at hS
          have e := take_done h1 h2 hS
          rw [e, ← HLB.out] at hB
          have b0 := hB.cell
          have hc := hG.kb.cell mB.out
          dsimp only at hc
          have H3 := hide h3
          have H4 := hide h4
          have H5 := hide h5
          have GG := hide hG
          have nn : ((lb : Int) != (lb : Int)) = false := by simp
          clear h1 h2 h3 h4 h5 hB hG hS e KFK KPK DK BK GK
          gi_wp2
          refine ⟨H3.out, H4.out, ⟨?_, ?_, Nat.le_trans HWZ.out H3.out.size, H5.out⟩, a8, c8, ?_⟩
          · rw [List.length_append]; exact HTK.out
          · rw [List.length_append]; have := HLT.out; simp; omega
          · rw [List.length_append, show s.length + [x].length = nl by rw [HNL.out, HSL.out]; rfl]; exact GG.out
    case done2 =>
      rintro D2 s V hD2 hS ⟨⟨h1, h2, h3, h4⟩, a, c, hG⟩ hK2
      rw [nx_take HLB2.out.ris HLB2.out.pos h1 h2] at hS
      have e := take_done h1 h2 hS
      rw [e, ← HLB.out] at hG
      have gc := hG.gb.cell
      have hc := hG.kb.cell mB.out
      dsimp only at hc
      have GG := hide hG
      have H4 := hide h4
      have HK2 := hide hK2
      have HDL : Hid (Wx.heap.size ≤ D2) := hide hD2
      have HSM := hide (same_any (.slice a lb c) (.slice a2 lb c2) Bh V hG.gr.rv hG.rb.rv HGL.out.2)
      clear h1 h2 h3 h4 hS e hG hK2 hD2 HSQ HSI LG2 KD2
      go_wp2_with fail
      refine HSM.out.mono ?_
      rintro e w9 ⟨rfl, hb9⟩
      have G9 := hide (GG.out.later hb9)
      have D9 : Hid (w9.heap[D]? = some (.deferred (some []))) := hide ((hb9.block D (Array.getElem?_eq_some_iff.1 H4.out).1).trans H4.out)
      have E9 : Hid (w9.heap[D2]? = some (.deferred (some []))) := hide ((hb9.block D2 (Array.getElem?_eq_some_iff.1 HK2.out).1).trans HK2.out)
      have bqB := hide (G9.out.kb _ mQ.out)
      have q0 := bqB.out.cell
      have q1 := bqB.out.frozen
      dsimp only at q0 q1
      clear hb9 GG H4 HK2 HSM gc hc
      go_wp2_with fail
      obtain ⟨Y, hY⟩ : ∃ Y, w9.setCell ⟨bq, 0, none⟩ (.bool true) = Y := ⟨_, rfl⟩
      have YB : Box Y bq 4 (.bool true) := by rw [← hY]; exact bqB.out.set _
      have YL : Below w.heap.size w Y := by rw [← hY]; exact G9.out.low.setCell (p := ⟨bq, 0, none⟩) HBQ.out _
      have YE : Y.heap[D2]? = some (.deferred (some [])) := by rw [← hY]; exact (KeepsOthers.setCell w9 ⟨bq, 0, none⟩ (.bool true)).same _ _ E9.out rfl
      have YD : Y.heap[D]? = some (.deferred (some [])) := by rw [← hY]; exact (KeepsOthers.setCell w9 ⟨bq, 0, none⟩ (.bool true)).same _ _ D9.out rfl
      rw [hY]
      have hne : D ≠ D2 := by have := HBG.out.2; have := HDL.out; omega
      have hw1 : w.heap.size ≤ D2 := by have := ZL.out; have := HDL.out; omega
      have hw2 : w.heap.size ≤ D := by have := HDZ.out; have := HDD.out; have := HLNN.out.d; omega
      have ZD : (Y.putObj D2 (.deferred none)).heap[D]? = some (.deferred (some [])) := (World.putObj_heap_other hne).trans YD
      have ZB := (YB.put YE rfl (.deferred none)).put ZD rfl (.deferred none)
      have z0 := ZB.cell
      have L1 : Below w.heap.size w (Y.putObj D2 (.deferred none)) := below_grown YL (grownBy_putObj' Y D2 (.deferred none)) (fun r e => by cases e; exact hw1)
      have L2 : Below w.heap.size w ((Y.putObj D2 (.deferred none)).putObj D (.deferred none)) := below_grown L1 (grownBy_putObj' _ D (.deferred none)) (fun r e => by cases e; exact hw2)
      refine ⟨by simp, .inl ⟨_, _, rfl, run_takeDeferred YE, ?_⟩⟩
      refine ⟨by simp, .inl ⟨_, _, rfl, run_takeDeferred ZD, ?_⟩⟩
      refine ⟨.bool true, ?_, rfl, L2⟩
      rw [results_cellW rfl]
      clear L1 L2 ZB YB YL YE YD ZD hw1 hw2 hne hY
      generalize ((Y.putObj D2 (.deferred none)).putObj D (.deferred none)) = Z at *
      go_simp
  have HSQ := hide (all_acts 11 (by omega) bc cb cb lu (outLen bo) (fun k => stA acts L k) (fun k => (HLK.out k).ris) (fun k => by have := (HLK.out k).len; have := HLN.out; omega) W5)
  have HCB := hide LG0.out.ch.lt
  have ZL := hide LG0.out.low.size
  obtain ⟨i0, hi, hiz⟩ := Option.map_eq_some_iff.1 Try.infoVersion
  simp only [Prod.mk.injEq] at hiz
  obtain ⟨hz0, hz1, hz2⟩ := hiz
  have HI := hide (And.intro hi (And.intro hz0 (And.intro hz1 hz2)))
  clear hi hz0 hz1 hz2
  refine (wpIn_wide (n := 12)).1 ?_
  refine' loop_leans (F := Fence.wide) (n := 12) rfl (by omega) (gf := 12) (lb := #[.pointer (some ⟨bc, 0, none⟩)]) (by rw [← hact]; rfl) trivial (enters_of Try.func12 (by kernel_rfl) rfl) HSQ.out (fun h k => h.trans k) (fun W l o o' hl h ho _ => KpW.put h ho (by have := HCB.out; omega) o') (fun _ => rfl)
    (fun s V => (s = U.take s.length ∧ s.length ≤ U.length ∧ (1 ≤ s.length → (s.length : Int) ≠ stop) ∧ W5.heap.size ≤ V.heap.size) ∧ ∃ a c, LG w K DD cb bo (.slice a1 lu c1) (.slice a2 lb c2) U Bh (stA acts L s.length) s (.slice a s.length c) V)
    (fun c _ V => c = .exit 0 ∧ ∃ a cc, LG w K DD cb bo (.slice a1 lu c1) (.slice a2 lb c2) U Bh Bh U (.slice a lu cc) V)
    (fun s V ⟨⟨_, h2, _, _⟩, a, c, hG⟩ => ⟨⟨by rw [HLU.out]; exact h2, outLen_at hG.gb.cell⟩, hG.ch, hG.kb.cell mC.out⟩)
    (fun s A C row ⟨⟨h1, h2, h3, h4⟩, a, c, hG⟩ hg hr => ⟨⟨h1, h2, h3, Nat.le_trans h4 hg.size⟩, a, c, hG.grown ZL.out hg hr⟩)
    (fun _ s A C row ⟨e, a, c, hG⟩ hg hr => ⟨e, a, c, hG.grown ZL.out hg hr⟩)
    ⟨⟨by simp, Nat.zero_le _, (fun h => by simp at h), Nat.le_refl _⟩, none, 0, LG0.out⟩ _ ?assign ?body ?done ?stop
  case assign =>
    subst hact
    intro l x W K hK
    dsimp only [encP]
    gi_wp2
    exact hK
  case body =>
    clear REST hK0 HSQ LG0
    rintro l s x W ⟨⟨hs1, hs2, hs3, hs4⟩, ag, cg, hG⟩ hx
    obtain ⟨hlt, htk⟩ := ws_more HWS.out HWE.out hs1 hs2 hs3 hx
    have HLT := hide hlt
    have HTK := hide htk
    obtain ⟨sl, hsl⟩ : ∃ sl, sl = s.length := ⟨_, rfl⟩
    have HSL := hide hsl
    rw [← hsl] at hG
    obtain ⟨M, hM⟩ : ∃ M, M = stA acts L sl := ⟨_, rfl⟩
    rw [← hM] at hG
    have HLM : Hid (LK M (ps.length + acts.length)) := hide (by rw [hM]; exact HLK.out _)
    have HMM := hide hM
    have G0 := hide hG
    have HWZ : Hid (W5.heap.size ≤ W.heap.size) := hide hs4
    have gc := hG.gb.cell
    have ac := hG.kb.cell mA.out
    have xc := hG.kb.cell mX.out
    dsimp only at ac xc
    clear hG hs1 hs2 hs3 hs4 hx hlt htk hsl hM
    by_cases hla : sl < acts.length
    · obtain ⟨⟨pr, AN, AV⟩, hpa⟩ : ∃ p, acts[sl]? = some p := ⟨_, List.getElem?_eq_getElem hla⟩
      obtain ⟨g, off, rfl, q0, q1, q2⟩ := HAC.out sl _ hpa
      dsimp only at q0 q1 q2
      have HQ0 := hide q0
      have HQ1 := hide q1
      have HQ2 := hide q2
      have z0 : W.cell? ⟨g, off + sl * 3, none⟩ = some (.bool pr) := (G0.out.low.cell (World.block_lt_of_cell? _ _ q0)).trans q0
      have z1 : W.cell? ⟨g, off + sl * 3 + 1, none⟩ = some (.int .i64 AN) := (G0.out.low.cell (World.block_lt_of_cell? _ _ q1)).trans q1
      have z2 : W.cell? ⟨g, off + sl * 3 + 2, none⟩ = some (.string ⟨AV.toArray⟩) := (G0.out.low.cell (World.block_lt_of_cell? _ _ q2)).trans q2
      have hd2 : decide ((sl : Int) < (acts.length : Int)) = true := by rw [decide_eq_true_eq]; omega
      have k0 : (0 : Int) ≤ (sl : Int) := by omega
      have k1 : (sl : Int) < (acts.length : Int) := by omega
      have HM2 : Hid (doAc (pr, AN, AV) M = stA acts L (sl + 1)) := hide (by rw [stA_succ hpa, HMM.out])
      have ac' := ac
      have xc' := xc
      clear hpa q0 q1 q2
      gi_wp2
      refine begins_round (S := fun W => W.cell? ⟨bx, 0, none⟩ = some (.pointer (some ⟨cb, 0, none⟩)) ∧ W.cell? ⟨ba, 0, none⟩ = some (.slice (some ⟨g, off, none⟩) acts.length gcap) ∧ W.cell? ⟨bo, 0, none⟩ = some (.slice ag sl cg) ∧ W.cell? ⟨g, off + sl * 3, none⟩ = some (.bool pr) ∧ W.cell? ⟨g, off + sl * 3 + 1, none⟩ = some (.int .i64 AN) ∧ W.cell? ⟨g, off + sl * 3 + 2, none⟩ = some (.string ⟨AV.toArray⟩)) 7 #[false, false, false, false, false, false, false] (by kernel_rfl) (by kernel_rfl) (by kernel_rfl) (by kernel_rfl) ?hL ?hS0 (fun hHeld => ?_)
      case hL => rintro ⟨_, _, h⟩; exact h.elim
      case hS0 => exact ⟨xc', ac', gc, z0, z1, z2⟩
      refine tk (v := ?_) 0 45 #[true, false, false, false, false, false, false] rfl rfl (by kernel_rfl) (by kernel_rfl) (by kernel_rfl) (fun _ _ _ h => h) (by kernel_rfl) (by rfl) ?hy hHeld ?_
      case hy => rintro W ⟨e1, e2, e3, e4, e5, e6⟩; first | (go_simp; done) | (go_simp; with_reducible rfl)
      simp only [List.setIfInBounds_toArray, List.set_cons_zero, List.set_cons_succ]
      refine tk (v := ?_) 1 46 #[true, true, false, false, false, false, false] rfl rfl (by kernel_rfl) (by kernel_rfl) (by kernel_rfl) (fun _ _ _ h => h) (by kernel_rfl) (by rfl) ?hy hHeld ?_
      case hy => rintro W ⟨e1, e2, e3, e4, e5, e6⟩; first | (go_simp; done) | (go_simp; with_reducible rfl)
      simp only [List.setIfInBounds_toArray, List.set_cons_zero, List.set_cons_succ]
      refine tk (v := ?_) 2 47 #[true, true, true, false, false, false, false] rfl rfl (by kernel_rfl) (by kernel_rfl) (by kernel_rfl) (fun _ _ _ h => h) (by kernel_rfl) (by rfl) ?hy hHeld ?_
      case hy => rintro W ⟨e1, e2, e3, e4, e5, e6⟩; first | (go_simp; done) | (go_simp; with_reducible rfl)
      simp only [List.setIfInBounds_toArray, List.set_cons_zero, List.set_cons_succ]
      refine tk (v := ?_) 3 48 #[true, true, true, true, false, false, false] rfl rfl (by kernel_rfl) (by kernel_rfl) (by kernel_rfl) (fun _ _ _ h => h) (by kernel_rfl) (by rfl) ?hy hHeld ?_
      case hy => rintro W ⟨e1, e2, e3, e4, e5, e6⟩; first | (go_simp; done) | (go_simp; with_reducible rfl)
      simp only [List.setIfInBounds_toArray, List.set_cons_zero, List.set_cons_succ]
      refine tk (v := ?_) 4 49 #[true, true, true, true, true, false, false] rfl rfl (by kernel_rfl) (by kernel_rfl) (by kernel_rfl) (fun _ _ _ h => h) (by kernel_rfl) (by rfl) ?hy hHeld ?_
      case hy => rintro W ⟨e1, e2, e3, e4, e5, e6⟩; first | (go_simp; done) | (go_simp; with_reducible rfl)
      simp only [List.setIfInBounds_toArray, List.set_cons_zero, List.set_cons_succ]
      refine tk (v := ?_) 5 50 #[true, true, true, true, true, true, false] rfl rfl (by kernel_rfl) (by kernel_rfl) (by kernel_rfl) (fun _ _ _ h => h) (by kernel_rfl) (by rfl) ?hy hHeld ?_
      case hy => rintro W ⟨e1, e2, e3, e4, e5, e6⟩; first | (go_simp; done) | (go_simp; with_reducible rfl)
      simp only [List.setIfInBounds_toArray, List.set_cons_zero, List.set_cons_succ]
      refine one_ready 6 #[true, true, true, true, true, true, true] rfl (by kernel_rfl) (by kernel_rfl) (by rfl) (fun K hK => ?_)
      go_simp
      refine (act_any (pr, AN, AV) cb cb (ps.length + acts.length) M W.drew (G0.out.later ((Below.refl _ _).drew)).ch HLM.out (by have := HLN.out; omega)).mono ?_
      rintro e W6 ⟨⟨v6, rfl⟩, hc6, hf6⟩
      have hf6' : Fr W W6 cb := ⟨hf6.os, hf6.tape, hf6.output, hf6.size, hf6.block, hf6.row⟩
      have G6 := hide (G0.out.act HLNN.out hc6 hf6')
      have KF6 : Hid (KeepsFrom W5.heap.size W W6) := hide (keeps_fr hf6' G0.out.ch)
      have KP6 : Hid (KpW cb W W6) := hide (KpW.fr hf6' G0.out.ch)
      have gc := G6.out.gb.cell
      have q0 := (G6.out.low.cell (World.block_lt_of_cell? _ _ HQ0.out)).trans HQ0.out
      have q1 := (G6.out.low.cell (World.block_lt_of_cell? _ _ HQ1.out)).trans HQ1.out
      have q2 := (G6.out.low.cell (World.block_lt_of_cell? _ _ HQ2.out)).trans HQ2.out
      have xc' := G6.out.kb.cell mX.out
      have ac' := G6.out.kb.cell mA.out
      dsimp only at xc' ac'
      clear hc6 hf6 hf6'
      go_wp2_with fail
      refine hK.out _ _ ⟨xc', ac', gc, q0, q1, q2⟩ (fun hHeld => ?_)
      clear hK K hHeld q0 q1 q2 xc' ac' gc
      refine wpAnyH_done (by kernel_rfl) ?_ _
      have gc := G6.out.gb.cell
      have sc := G6.out.kb.cell mS.out
      have uc := G6.out.kb.cell mU.out
      dsimp only at sc uc
      obtain ⟨W7, hW7⟩ : ∃ W7, W6.alloc (.cells #[.int .i64 x.1, .string ⟨x.2.toArray⟩] 36) = W7 := ⟨_, rfl⟩
      have HW7 := hide hW7
      have HO7 : Hid (OR W7 DD 36 2 (.slice ag sl cg) sl (vc s)) := hide (by rw [← hW7]; have := G6.out.gr.later (alloc_below W6 (.cells #[.int .i64 x.1, .string ⟨x.2.toArray⟩] 36)); rw [← HSL.out] at this; exact this)
      have HN7 : Hid (∀ j u, ([.int .i64 x.1, .string ⟨x.2.toArray⟩] : List Value)[j]? = some u → W7.cell? ((⟨W6.heap.size, 0, none⟩ : Addr).add j) = some u) := hide (fun j u hj => by
        rw [← hW7, Addr.add_lit, cell_of_row _ W6.heap.size _ _ _ _ (alloc_newV W6 _)]
        match j, hj with
        | 0, hj => cases hj; rfl
        | 1, hj => cases hj; rfl)
      have HZ7 : Hid (DD ≤ W7.heap.size) := hide (by rw [← hW7]; have := HDD.out; have := HWZ.out; have := KF6.out.size; simp; omega)
      gi_wp2_with ((gi_at_builtin; refine wpListIn_append_or W7 DD 24 36 i0 _ 2 24 rfl _ _ rfl Try.underlying24 HI.out.1 HI.out.2.1 HI.out.2.2.1 HI.out.2.2.2 rfl (by decide) (.slice ag sl cg) sl (vc s) rfl HO7.out ⟨W6.heap.size, 0, none⟩ 1 [.int .i64 x.1, .string ⟨x.2.toArray⟩] rfl rfl HN7.out (by intro u hu; simp at hu; rcases hu with rfl | rfl <;> rfl) (by have := HUB.out; have := HLN.out; have := HLT.out; have := HLU.out; have := HSL.out; unfold maxLen; omega) (by have := HUB.out; have := HLN.out; have := HLT.out; have := HLU.out; have := HSL.out; omega) HZ7.out ?_))
      intro v' w8 r1 r2 _
      obtain ⟨a8, c8, rfl⟩ := r1.slc
      obtain ⟨o8, G8, K8, F8⟩ := G6.out.push (E := W5.heap.size) HLNN.out HW7.out (by rw [show s.length + 1 = sl + 1 by rw [HSL.out]]; exact r1) r2
      have e0 := o8.cell
      have e1 := o8.frozen
      obtain ⟨nl, hnl⟩ : ∃ nl, nl = sl + 1 := ⟨_, rfl⟩
      rw [← hnl] at G8 K8 F8 ⊢
      have HNL := hide hnl
      obtain ⟨W9, hW9⟩ : ∃ W9, w8.setCell ⟨bo, 0, none⟩ (.slice a8 nl c8) = W9 := ⟨_, rfl⟩
      rw [hW9] at G8 K8 F8
      have c6 := G8.gb.cell
      have m6 := G8.kb.cell mS.out
      have u6 := G8.kb.cell mU.out
      dsimp only at m6 u6
      have G9 := hide G8
      have KP9 := hide (KP6.out.trans K8)
      have KF9 := hide (keeps_trans KF6.out F8)
      have d2 : decide ((lu : Int) < (nl : Int)) = false := decide_eq_false (by have := HLT.out; have := HLU.out; have := HSL.out; have := HNL.out; omega)
      have d3 : ¬ lu < nl := by have := HLT.out; have := HLU.out; have := HSL.out; have := HNL.out; omega
      clear G8 K8 F8 o8 r1 r2 hW7 HW7 gc sc uc HO7 HN7
      by_cases hst : (nl : Int) = stop
      · have d1 : ((nl : Int) == stop) = true := by rw [beq_iff_eq]; exact hst
        have HE : Hid (s ++ [x] = U ∧ nl = lu) := hide (by
          have h1 := HLT.out
          have h5 : (s ++ [x]).length = U.length := by
            rcases Nat.lt_or_ge (s.length + 1) U.length with h | h
            · exact absurd (by rw [← hst, hnl, HSL.out]) (HWS.out.go (s.length + 1) (by omega) h)
            · rw [List.length_append]; simp; omega
          refine ⟨by rw [HTK.out, show s.length + 1 = U.length by rw [List.length_append] at h5; simpa using h5, List.take_length], ?_⟩
          rw [List.length_append] at h5
          simp only [List.length_cons, List.length_nil] at h5
          rw [hnl, HSL.out, HLU.out]; omega)
        have G10 : Hid (LG w K DD cb bo (.slice a1 lu c1) (.slice a2 lb c2) U Bh Bh U (.slice a8 lu c8) W9) := hide (by
          have := G9.out
          rw [HE.out.1, HE.out.2, HM2.out, show sl + 1 = U.length by rw [← hnl, HE.out.2, HLU.out], ← HBH.out] at this
          exact this)
        clear hst hnl
        gi_wp2
        exact ⟨KF9.out, rfl, _, _, G10.out⟩
      · have d1 : ((nl : Int) == stop) = false := by rw [beq_eq_false_iff_ne]; exact hst
        have HST : Hid ((nl : Int) ≠ stop) := hide hst
        clear hst hnl
        gi_wp2
        refine ⟨KF9.out, KP9.out, ⟨?_, ?_, fun _ => ?_, Nat.le_trans HWZ.out KF9.out.size⟩, a8, c8, ?_⟩
        · rw [List.length_append]; exact HTK.out
        · rw [List.length_append]; have := HLT.out; simp; omega
        · rw [List.length_append]; have := HST.out; rw [HNL.out, HSL.out] at this; exact this
        · have := G9.out
          rw [HM2.out] at this
          rw [List.length_append]
          have e : s.length + [x].length = sl + 1 := by rw [HSL.out]; rfl
          rw [e, ← HNL.out] 
          rw [← HNL.out] at this
          exact this
    · have hd2 : decide ((sl : Int) < (acts.length : Int)) = false := by rw [decide_eq_false_iff_not]; omega
      have HM2 : Hid (M = stA acts L (sl + 1)) := hide (by rw [stA_end (by omega), HMM.out])
      have KF0 : Hid (KeepsFrom W5.heap.size W W) := hide (KeepsFrom.refl _ _)
      have KP0 : Hid (KpW cb W W) := hide (KpW.refl _ _)
      clear gc xc
      have gc := G0.out.gb.cell
      have sc := G0.out.kb.cell mS.out
      have uc := G0.out.kb.cell mU.out
      dsimp only at sc uc
      obtain ⟨W7, hW7⟩ : ∃ W7, W.alloc (.cells #[.int .i64 x.1, .string ⟨x.2.toArray⟩] 36) = W7 := ⟨_, rfl⟩
      have HW7 := hide hW7
      have HO7 : Hid (OR W7 DD 36 2 (.slice ag sl cg) sl (vc s)) := hide (by rw [← hW7]; have := G0.out.gr.later (alloc_below W (.cells #[.int .i64 x.1, .string ⟨x.2.toArray⟩] 36)); rw [← HSL.out] at this; exact this)
      have HN7 : Hid (∀ j u, ([.int .i64 x.1, .string ⟨x.2.toArray⟩] : List Value)[j]? = some u → W7.cell? ((⟨W.heap.size, 0, none⟩ : Addr).add j) = some u) := hide (fun j u hj => by
        rw [← hW7, Addr.add_lit, cell_of_row _ W.heap.size _ _ _ _ (alloc_newV W _)]
        match j, hj with
        | 0, hj => cases hj; rfl
        | 1, hj => cases hj; rfl)
      have HZ7 : Hid (DD ≤ W7.heap.size) := hide (by rw [← hW7]; have := HDD.out; have := HWZ.out; have := KF0.out.size; simp; omega)
      gi_wp2_with ((gi_at_builtin; refine wpListIn_append_or W7 DD 24 36 i0 _ 2 24 rfl _ _ rfl Try.underlying24 HI.out.1 HI.out.2.1 HI.out.2.2.1 HI.out.2.2.2 rfl (by decide) (.slice ag sl cg) sl (vc s) rfl HO7.out ⟨W.heap.size, 0, none⟩ 1 [.int .i64 x.1, .string ⟨x.2.toArray⟩] rfl rfl HN7.out (by intro u hu; simp at hu; rcases hu with rfl | rfl <;> rfl) (by have := HUB.out; have := HLN.out; have := HLT.out; have := HLU.out; have := HSL.out; unfold maxLen; omega) (by have := HUB.out; have := HLN.out; have := HLT.out; have := HLU.out; have := HSL.out; omega) HZ7.out ?_))
      intro v' w8 r1 r2 _
      obtain ⟨a8, c8, rfl⟩ := r1.slc
      obtain ⟨o8, G8, K8, F8⟩ := G0.out.push (E := W5.heap.size) HLNN.out HW7.out (by rw [show s.length + 1 = sl + 1 by rw [HSL.out]]; exact r1) r2
      have e0 := o8.cell
      have e1 := o8.frozen
      obtain ⟨nl, hnl⟩ : ∃ nl, nl = sl + 1 := ⟨_, rfl⟩
      rw [← hnl] at G8 K8 F8 ⊢
      have HNL := hide hnl
      obtain ⟨W9, hW9⟩ : ∃ W9, w8.setCell ⟨bo, 0, none⟩ (.slice a8 nl c8) = W9 := ⟨_, rfl⟩
      rw [hW9] at G8 K8 F8
      have c6 := G8.gb.cell
      have m6 := G8.kb.cell mS.out
      have u6 := G8.kb.cell mU.out
      dsimp only at m6 u6
      have G9 := hide G8
      have KP9 := hide (KP0.out.trans K8)
      have KF9 := hide (keeps_trans KF0.out F8)
      have d2 : decide ((lu : Int) < (nl : Int)) = false := decide_eq_false (by have := HLT.out; have := HLU.out; have := HSL.out; have := HNL.out; omega)
      have d3 : ¬ lu < nl := by have := HLT.out; have := HLU.out; have := HSL.out; have := HNL.out; omega
      clear G8 K8 F8 o8 r1 r2 hW7 HW7 gc sc uc HO7 HN7
      by_cases hst : (nl : Int) = stop
      · have d1 : ((nl : Int) == stop) = true := by rw [beq_iff_eq]; exact hst
        have HE : Hid (s ++ [x] = U ∧ nl = lu) := hide (by
          have h1 := HLT.out
          have h5 : (s ++ [x]).length = U.length := by
            rcases Nat.lt_or_ge (s.length + 1) U.length with h | h
            · exact absurd (by rw [← hst, hnl, HSL.out]) (HWS.out.go (s.length + 1) (by omega) h)
            · rw [List.length_append]; simp; omega
          refine ⟨by rw [HTK.out, show s.length + 1 = U.length by rw [List.length_append] at h5; simpa using h5, List.take_length], ?_⟩
          rw [List.length_append] at h5
          simp only [List.length_cons, List.length_nil] at h5
          rw [hnl, HSL.out, HLU.out]; omega)
        have G10 : Hid (LG w K DD cb bo (.slice a1 lu c1) (.slice a2 lb c2) U Bh Bh U (.slice a8 lu c8) W9) := hide (by
          have := G9.out
          rw [HE.out.1, HE.out.2, HM2.out, show sl + 1 = U.length by rw [← hnl, HE.out.2, HLU.out], ← HBH.out] at this
          exact this)
        clear hst hnl
        gi_wp2
        exact ⟨KF9.out, rfl, _, _, G10.out⟩
      · have d1 : ((nl : Int) == stop) = false := by rw [beq_eq_false_iff_ne]; exact hst
        have HST : Hid ((nl : Int) ≠ stop) := hide hst
        clear hst hnl
        gi_wp2
        refine ⟨KF9.out, KP9.out, ⟨?_, ?_, fun _ => ?_, Nat.le_trans HWZ.out KF9.out.size⟩, a8, c8, ?_⟩
        · rw [List.length_append]; exact HTK.out
        · rw [List.length_append]; have := HLT.out; simp; omega
        · rw [List.length_append]; have := HST.out; rw [HNL.out, HSL.out] at this; exact this
        · have := G9.out
          rw [HM2.out] at this
          rw [List.length_append]
          have e : s.length + [x].length = sl + 1 := by rw [HSL.out]; rfl
          rw [e, ← HNL.out] 
          rw [← HNL.out] at this
          exact this
  case done =>
    rintro D s W hD hS ⟨⟨h1, h2, _, _⟩, a, c, hG⟩ hK
    have e := ws_done HWS.out h1 h2 hS
    refine REST D W hD ⟨a, c, ?_⟩ hK
    rw [e, ← HBH.out, ← HLU.out] at hG
    exact hG
  case stop =>
    rintro D c s W hD _ ⟨rfl, a, cc, hG⟩ hK
    refine wpIn_exit ?_
    exact REST D W hD ⟨a, cc, hG⟩ hK
theorem walks_any (vp va : Value) (ps acts : List Ac) (stop : Int) (w : World) (hvp : RAc w vp ps) (hva : RAc w va acts) (hlen : ps.length + 2 * acts.length ≤ 1099511627776) (hN : ∀ p ∈ ps, p.2.1 ≤ 9223372036854775807) (hNa : ∀ p ∈ acts, p.2.1 ≤ 9223372036854775807) :
    Calls Try.prog 3 #[vp, va, .int .i64 stop] w fun e w' => e = .returned (.bool true) ∧ Below w.heap.size w w' :=
  callsIn_wide.1 (walks_in vp va ps acts stop w hvp hva hlen hN hNa)
end Go.Proofs.Ytechjcmolccdjaa
