/-
  My own text: IC12, IC13 in one.
-/
import Derived.Test.YtehacdijleommaaGreatDoorIC6
import Derived.Test.YtehacdijleommaaGreatDoorHC13
namespace Go.Proofs.YtehacdijleommaaGreatDoor.CI
open Go.RowKit

/-- append to a row without room: all of another row. -/
theorem wp_append_all {P : Program} {ops : Array Oper} {rest : List Oper} {o : Oper} {a : Act} {Q : Exit → Act → World → Prop} (w : World) (t e : TypeId) (i : TypeInfo) (z : Value) (k bytes : Nat) (hgd : o.guard = none) (s x : Operand)
    (ho : o.op = .call { callee := .builtin .append, args := #[s, x], argTypes := #[t, t] }) (ht : P.underlying t = some (.slice e)) (hi : P.info? e = some i) (hz : i.zero = some z)
    (hsize : i.size = k) (hby : i.bytes = bytes) (hzs : z.cells.size = k) (hsz : 0 < k) (b c : Addr) (m cap : Nat) (hs : a.eval s = .slice (some b) 0 0) (hx : a.eval x = .slice (some c) m cap) (news : List Value) (hl : news.length = m * k) (hnews : ∀ j u, news[j]? = some u → w.cell? (c.add j) = some u) (hm : 0 < m)
    (h63 : m ≤ maxLen) (hbytes : m * bytes ≤ 140737488355328)
    (h : ∀ v' w', w'.ownsRow w.heap.size e k v' m news → w.grownBy w' none → wpList P ops Q rest (a.put o.dst v') w') : wpList P ops Q (o :: rest) a w := by
  obtain ⟨v', w', hrun, r1, r2⟩ := run_append_arg_grows (P := P) w t o.type e i z k bytes ht hi hz hsize hby hzs hsz b 0 0 [] (by simp) (fun j u hj => by simp at hj) c m cap news hl hnews (by omega) (by omega) (by rw [Nat.zero_add]; exact hbytes)
  refine wpList_plain hgd fun K hK => ?_
  unfold Oper.wp
  simp [execOp, ho, resolve, invoke, builtin, hs, hx, hrun, Result.andThen]
  rw [Nat.zero_add, List.nil_append] at r1
  exact hK _ _ (h v' w' r1 r2)
theorem below_of_grown {W W' : World} (hg : W.grownBy W' none) : Below W.heap.size W W' := ⟨hg.os, hg.tape, hg.output, hg.size, fun k hk => hg.block k hk (by intro e; cases e)⟩
theorem eqNilS (a : Addr) (n c : Nat) (W : World) : (binOp .eql 105 (.slice (some a) n c) (.slice none 0 0)).run Tryz.prog W = .ok (.bool false) W := by kernel_rfl
set_option maxRecDepth 100000 in
set_option maxHeartbeats 1000000 in
theorem clone_any (v : Value) (B : Nat) (L : List Ver) (w : World) (h : OR w B 148 2 v L.length (vc L)) (h0 : 0 < L.length) (hl : L.length ≤ 5864062014804) :
    Calls Tryz.prog 106 #[v] w fun e w' => (∃ v', e = .returned v' ∧ OR w' w.heap.size 148 2 v' L.length (vc L)) ∧ Below w.heap.size w w' := by
  obtain ⟨g, off, cap, rfl, hc⟩ := h.shape h0
  obtain ⟨i0, hi, hz0, hz1, hz2⟩ := info_parts Tryz.infoVerI
  have HI := hide (And.intro hi (And.intro hz0 (And.intro hz1 hz2)))
  have HC := hide hc
  have HL := hide hl
  have HL0 := hide h0
  have qs := eqNilS ⟨g, off, none⟩ L.length cap
  clear h hi hz0 hz1 hz2 hc hl h0
  go_enter Tryz.func106, Tryz.ntmps106
  go_wp2_with (at_builtin; refine wp_append_all (w.alloc (.cells #[] 148)) 105 148 i0 _ 2 16 rfl _ _ rfl Tryz.underlying105 HI.out.1 HI.out.2.1 HI.out.2.2.1 HI.out.2.2.2 rfl (by decide) ⟨w.heap.size, 0, none⟩ ⟨g, off, none⟩ L.length cap rfl rfl (vc L) (vc_len L) (fun j u hj => by rw [Addr.add_lit]; have h1 := HC.out j u hj; exact (((Below.refl w.heap.size w).alloc (Nat.le_refl _) _).cell (World.block_lt_of_cell? _ _ h1)).trans h1) HL0.out (by have := HL.out; unfold maxLen; omega) (by have := HL.out; omega) ?_)
  intro v' w' r1 r2
  have HR := hide ((OR.of_owns r1).low (show w.heap.size ≤ _ by simp))
  have HB := hide (((Below.refl w.heap.size w).alloc (Nat.le_refl _) (.cells #[] 148)).trans ((below_of_grown r2).mono (by simp)))
  obtain ⟨a4, n4, c4, rfl⟩ : ∃ a4 n4 c4, v' = .slice a4 n4 c4 := by
    rcases r1.2 with ⟨e, _⟩ | ⟨_, _, _, e, _⟩ <;> exact ⟨_, _, _, e⟩
  clear r1 r2
  go_wp2_with fail
  go_ret
  exact ⟨⟨_, rfl, HR.out⟩, HB.out⟩
end Go.Proofs.YtehacdijleommaaGreatDoor.CI
namespace Go.Proofs.YtehacdijleommaaGreatDoor.CI
open Go.RowKit

def Cb (W : World) (cb : Nat) (x y : Value) : Prop := W.heap[cb]? = some (.cells #[x, y] 107 (0, 0))
theorem Cb.c0 {W : World} {cb : Nat} {x y : Value} (h : Cb W cb x y) : W.cell? ⟨cb, 0, none⟩ = some x := by rw [cell_of_row W cb 0 _ _ _ h]; rfl
theorem Cb.c1 {W : World} {cb : Nat} {x y : Value} (h : Cb W cb x y) : W.cell? ⟨cb, 1, none⟩ = some y := by rw [cell_of_row W cb 1 _ _ _ h]; rfl
theorem Cb.fz {W : World} {cb : Nat} {x y : Value} (h : Cb W cb x y) (j : Nat) : W.frozen? ⟨cb, j, none⟩ = false := by
  have h' : W.heap[cb]? = some (.cells #[x, y] 107 (0, 0)) := h
  unfold World.frozen?; simp [h']
theorem Cb.set0 {W : World} {cb : Nat} {x y : Value} (h : Cb W cb x y) (u : Value) : Cb (W.setCell ⟨cb, 0, none⟩ u) cb u y := by
  unfold Cb; rw [setCell_eq_setRow W cb 0 _ _ _ u h]; exact setRow_heap W cb _ _ _ _ h
theorem Cb.set1 {W : World} {cb : Nat} {x y : Value} (h : Cb W cb x y) (u : Value) : Cb (W.setCell ⟨cb, 1, none⟩ u) cb x u := by
  unfold Cb; rw [setCell_eq_setRow W cb 1 _ _ _ u h]; exact setRow_heap W cb _ _ _ _ h
theorem Cb.lt {W : World} {cb : Nat} {x y : Value} (h : Cb W cb x y) : cb < W.heap.size := (Array.getElem?_eq_some_iff.1 h).1
theorem Cb.later {W W' : World} {cb : Nat} {x y : Value} (h : Cb W cb x y) (hb : Below W.heap.size W W') : Cb W' cb x y := (hb.block cb h.lt).trans h
/-- The row behind its first version. -/
theorem _root_.Go.Proofs.YtehacdijleommaaGreatDoor.OR.tailI {w : World} {B g off cap : Nat} {p : Ver} {L : List Ver} (h : OR w B 148 2 (.slice (some ⟨g, off, none⟩) (L.length + 1) cap) (L.length + 1) (vc (p :: L))) :
    w.there g off 2 ∧ L.length + 1 ≤ cap ∧ B ≤ g ∧ g < w.heap.size ∧ OR (w.setCells g off [.int .i64 0, .int .i64 0]) B 148 2 (.slice (some ⟨g, off + 2, none⟩) L.length (cap - 1)) L.length (vc L) := by
  rcases h.2 with ⟨e, _⟩ | ⟨g', off', cap', cur, e, hb, hh, h1, h2, h3, h4⟩
  · cases e
  · cases e
    obtain ⟨cur', hh', hs'⟩ := sc_block [.int .i64 0, .int .i64 0] g off w cur _ _ hh
    refine ⟨fun j hj => ?_, h1, hb, (Array.getElem?_eq_some_iff.1 hh).1, vc_len L, .inr ⟨g, off + 2, cap - 1, cur', rfl, hb, hh', by omega, by omega, by omega, fun j u hj => ?_⟩⟩
    · have hlt : off + j < cur.size := by omega
      rw [cell_of_row w g _ cur _ _ hh, Array.getElem?_eq_getElem hlt]
      exact ⟨rfl, by unfold World.frozen?; simp [hh]⟩
    · rw [World.cell?_setCells_out g _ off w ⟨g, off + 2 + j, none⟩ (fun _ _ => .inr (by simp))]
      have := h4 (j + 2) u hj
      rw [show off + 2 + j = off + (j + 2) by omega]; exact this
/-- What is left alone, by the blocks. -/
theorem fr_of {w Z : World} {cb g off n c : Nat} {y v' y' : Value} (h0 : Cb w cb (.slice (some ⟨g, off, none⟩) n c) y) (e1 : Z.os = w.os) (e2 : Z.tape = w.tape) (e3 : Z.output = w.output) (e4 : w.heap.size ≤ Z.heap.size) (hb : ∀ x, x < w.heap.size → x ≠ cb → x ≠ g → Z.heap[x]? = w.heap[x]?) (hz : Cb Z cb v' y') (hr : ∀ x, v'.ownBlock = some x → x = g ∨ w.heap.size ≤ x) : Fr w Z cb :=
  ⟨e1, e2, e3, e4, fun x h1 h2 h3 => hb x h1 h2 (fun e => h3 _ h0.c0 (by rw [e]; rfl)), fun u hu x hx => by
    rw [hz.c0] at hu
    cases hu
    rcases hr x hx with h | h
    · exact .inr ⟨_, h0.c0, by rw [h]; rfl⟩
    · exact .inl h⟩
set_option maxRecDepth 100000 in
set_option maxHeartbeats 2000000 in
theorem forget_any (B cb : Nat) (p : Ver) (L : List Ver) (w : World) (h : CH w B cb (p :: L)) (h0 : 0 < L.length) (hl : L.length ≤ 5864062014804) :
    Calls Tryz.prog 91 #[.pointer (some ⟨cb, 0, none⟩)] w fun e w' => (∃ v, e = .returned v) ∧ CH w' B cb L ∧ Fr w w' cb := by
  obtain ⟨hB, v, em, hv, ho, hn, hem⟩ := h
  obtain ⟨g, off, cap, rfl, _⟩ := ho.shape (by simp)
  rw [List.length_cons] at ho hv hem
  obtain ⟨ht, hcap, hBg, hgs, ho1⟩ := ho.tailI
  have hgc : g ≠ cb := fun e => hn (by rw [e]; rfl)
  have q0 : Cb w cb (.slice (some ⟨g, off, none⟩) (L.length + 1) cap) (.int .i64 (em : Int)) := hv
  obtain ⟨W1, hW1⟩ : ∃ W1, w.setCells g off [.int .i64 0, .int .i64 0] = W1 := ⟨_, rfl⟩
  have q1 : Cb W1 cb (.slice (some ⟨g, off, none⟩) (L.length + 1) cap) (.int .i64 (em : Int)) := by rw [← hW1]; exact (sc_heap g _ _ w cb (Ne.symm hgc)).trans q0
  rw [hW1] at ho1
  obtain ⟨W2, hW2⟩ : ∃ W2, W1.setCell ⟨cb, 0, none⟩ (.slice (some ⟨g, off + 2, none⟩) L.length (cap - 1)) = W2 := ⟨_, rfl⟩
  have q2 := q1.set0 (.slice (some ⟨g, off + 2, none⟩) L.length (cap - 1))
  rw [hW2] at q2
  obtain ⟨W3, hW3⟩ : ∃ W3, W2.setCell ⟨cb, 1, none⟩ (.int .i64 ((em : Int) + 1)) = W3 := ⟨_, rfl⟩
  have q3 := q2.set1 (.int .i64 ((em : Int) + 1))
  rw [hW3] at q3
  have o3 : OR W3 B 148 2 (.slice (some ⟨g, off + 2, none⟩) L.length (cap - 1)) L.length (vc L) := by
    refine ho1.kept (fun x hx => ?_)
    obtain rfl : g = x := Option.some.inj hx
    rw [← hW3, ← hW2, Below.heap_setCell _ _ _ g hgc, Below.heap_setCell _ _ _ g hgc]
  have fr3 : W3.os = w.os ∧ W3.tape = w.tape ∧ W3.output = w.output ∧ W3.heap.size = w.heap.size ∧ ∀ x, x ≠ cb → x ≠ g → W3.heap[x]? = w.heap[x]? := by
    obtain ⟨a1, a2, a3⟩ := sc_rest [.int .i64 0, .int .i64 0] g off w
    rw [hW1] at a1 a2 a3
    refine ⟨by rw [← hW3, ← hW2]; exact a1, by rw [← hW3, ← hW2]; exact a2, by rw [← hW3, ← hW2]; exact a3, ?_, fun x h1 h2 => ?_⟩
    · rw [← hW3, ← hW2, ← hW1]; simp [World.setCell, sc_size]
    · rw [← hW3, ← hW2, Below.heap_setCell _ _ _ x h1, Below.heap_setCell _ _ _ x h1, ← hW1]; exact sc_heap g _ _ w x h2
  have HF3 := hide fr3
  have HO3 := hide o3
  have HT := hide ht
  have HQ3 := hide q3
  have HQ0 := hide q0
  have a0 := q0.c0
  have b0 := q1.c0
  have b1 := q1.fz 0
  have d0 := q2.c1
  have d1 := q2.fz 1
  have e0 := q3.c0
  have e1 := q3.c1
  have we : wrap64 ((em : Int) + 1) = (em : Int) + 1 := by unfold wrap64; omega
  have i0 : (0 : Int) < ((L.length + 1 : Nat) : Int) := by omega
  have nc : ¬ cap = 1 := by omega
  clear ho ho1 hv q0 q1 q2 q3 o3 fr3 ht hn
  have HGC := hide hgc
  have HBC := hide hB
  by_cases hgt : L.length < em + 1
  · have dg : decide ((L.length : Int) < (em : Int) + 1) = true := decide_eq_true (by omega)
    go_enter Tryz.func91, Tryz.ntmps91
    go_wp2_with (refine wpList_store_mid rfl 148 _ _ rfl g off #[.int .i64 0, .int .i64 0] rfl rfl HT.out Tryz.sizeVerI (by simp [Value.oneCell']) ?_)
    go_quiet (fail)
    have hq := below_dq (Below.refl W3.heap.size W3) nq
    have OQ := hide (HO3.out.later hq)
    have CQ := hide (HQ3.out.later hq)
    have g0 := CQ.out.c0
    have HF4 : Hid ((W3.drewN nq).os = w.os ∧ (W3.drewN nq).tape = w.tape ∧ (W3.drewN nq).output = w.output ∧ (W3.drewN nq).heap.size = w.heap.size ∧ ∀ x, x ≠ cb → x ≠ g → (W3.drewN nq).heap[x]? = w.heap[x]?) := hide HF3.out
    clear hq hW1 hW2 hW3 a0 b0 b1 d0 d1 e0 e1
    generalize W3.drewN nq = W4 at *
    go_wp2_with fail
    refine (clone_any _ B L W4 OQ.out h0 hl).mono ?_
    rintro e w5 ⟨⟨v5, rfl, ho5⟩, hb5⟩
    obtain ⟨g5, off5, cap5, rfl, _⟩ := ho5.shape h0
    have c5 := CQ.out.later hb5
    have hlo := (ho5.lt (g := g5) rfl).1
    have hcl := CQ.out.lt
    obtain ⟨W6, hW6⟩ : ∃ W6, w5.setCell ⟨cb, 0, none⟩ (.slice (some ⟨g5, off5, none⟩) L.length cap5) = W6 := ⟨_, rfl⟩
    have c6 := c5.set0 (.slice (some ⟨g5, off5, none⟩) L.length cap5)
    rw [hW6] at c6
    have c7 := c6.set1 (.int .i64 0)
    have z0 := c5.c0
    have z1 := c5.fz 0
    have z2 := c6.c1
    have z3 := c6.fz 1
    have HE : Hid (CH (W6.setCell ⟨cb, 1, none⟩ (.int .i64 0)) B cb L ∧ Fr w (W6.setCell ⟨cb, 1, none⟩ (.int .i64 0)) cb) := hide (by
      obtain ⟨f1, f2, f3, f4, f5⟩ := HF4.out
      have hne : g5 ≠ cb := by omega
      have hs6 : (W6.setCell ⟨cb, 1, none⟩ (.int .i64 0)).heap.size = w5.heap.size := by rw [← hW6]; simp [World.setCell]
      refine ⟨⟨HBC.out, _, 0, c7, ?_, fun e => hne (Option.some.inj e), Nat.zero_le _⟩, fr_of HQ0.out (by rw [← hW6]; exact hb5.os.trans f1) (by rw [← hW6]; exact hb5.tape.trans f2) (by rw [← hW6]; exact hb5.output.trans f3) (by rw [hs6, ← f4]; exact hb5.size) (fun x h1 h2 h3 => ?_) c7 (fun x hx => .inr (by have e : g5 = x := Option.some.inj hx; omega))⟩
      · refine (ho5.low (show B ≤ _ by have := HBC.out; omega)).kept (fun x hx => ?_)
        obtain rfl : g5 = x := Option.some.inj hx
        rw [Below.heap_setCell _ _ _ g5 hne, ← hW6, Below.heap_setCell _ _ _ g5 hne]
      · rw [Below.heap_setCell _ _ _ x h2, ← hW6, Below.heap_setCell _ _ _ x h2, hb5.block x (by omega)]
        exact f5 x h2 h3)
    clear c5 c6 c7 hb5 ho5 hlo hcl
    go_wp2_with fail
    go_end0
    exact ⟨⟨_, rfl⟩, HE.out.1, HE.out.2⟩
  · have dg : decide ((L.length : Int) < (em : Int) + 1) = false := decide_eq_false (by omega)
    go_enter Tryz.func91, Tryz.ntmps91
    go_wp2_with (refine wpList_store_mid rfl 148 _ _ rfl g off #[.int .i64 0, .int .i64 0] rfl rfl HT.out Tryz.sizeVerI (by simp [Value.oneCell']) ?_)
    go_quiet (fail)
    have HE : Hid (CH (W3.drewN nq) B cb L ∧ Fr w (W3.drewN nq) cb) := hide (by
      obtain ⟨f1, f2, f3, f4, f5⟩ := HF3.out
      have ec : ((em + 1 : Nat) : Int) = (em : Int) + 1 := by omega
      have c3 : CH W3 B cb L := ⟨HBC.out, _, em + 1, by rw [ec]; exact HQ3.out, HO3.out, fun e => HGC.out (Option.some.inj e), by omega⟩
      exact ⟨c3.later (below_dq (Below.refl _ _) nq), fr_of HQ0.out f1 f2 f3 (Nat.le_of_eq f4.symm) (fun x _ h2 h3 => f5 x h2 h3) HQ3.out (fun x hx => .inl (Option.some.inj hx).symm)⟩)
    go_wp2_with fail
    go_end0
    exact ⟨⟨_, rfl⟩, HE.out.1, HE.out.2⟩
end Go.Proofs.YtehacdijleommaaGreatDoor.CI
