/-
  My own text: HC17, HC18, HC19, HC20 in one.
-/
import Derived.Test.YtehacdijleommaaGreatDoorHC16
import Derived.Laws.StructEq
namespace Go.Proofs.YtehacdijleommaaGreatDoor
open Go.RowKit Go.Shelf

attribute [local go_sem] Oper.semAt_some

/-- What a round keeps: all versions in memory. -/
def KpV (A C : World) : Prop := A.heap.size ≤ C.heap.size ∧ ∀ (g : Nat) (c : Array Value) (fz : Nat × Nat), A.heap[g]? = some (Obj.cells c 111 fz) → C.heap[g]? = some (Obj.cells c 111 fz)
theorem KpV.trans {A B C : World} (h : KpV A B) (k : KpV B C) : KpV A C := ⟨Nat.le_trans h.1 k.1, fun g c fz hg => k.2 g c fz (h.2 g c fz hg)⟩
theorem KpV.below {A C : World} (hb : Below A.heap.size A C) : KpV A C := ⟨hb.size, fun g _ _ h => (hb.block g (Array.getElem?_eq_some_iff.1 h).1).trans h⟩
theorem KpV.put {l : Nat} {W : World} {o : Obj} (h : W.heap[l]? = some o) (ho : o.isCells = false) (o' : Obj) : KpV W (W.putObj l o') :=
  ⟨by simp, fun g c fz hg => (World.putObj_heap_other (fun e => by rw [e, h] at hg; cases hg; cases ho)).trans hg⟩
theorem KpV.set {W : World} {b : Nat} {t : TypeId} {u : Value} (h : Box W b t u) (ht : t ≠ 111) (u' : Value) : KpV W (W.setCell ⟨b, 0, none⟩ u') :=
  ⟨Nat.le_of_eq (size_set _ _ _).symm, fun g c fz hg => (Below.heap_setCell _ _ _ g (fun e => by
    have h' : W.heap[b]? = some (.cells #[u] t (0, 0)) := h
    rw [show g = b from e, h'] at hg
    injection hg with hg
    injection hg with _ q _
    exact ht q)).trans hg⟩
set_option maxRecDepth 100000 in
set_option maxHeartbeats 4000000 in
theorem all_stays (n : Nat) (hn : 1 ≤ n) (bc B cb : Nat) (L : List Ver) (hr : Ris L) (hpos : ∀ p ∈ L, 0 ≤ p.1) (hlen : L.length ≤ 4611686018427387904) (w : World) :
    Leans Fence.wide n Tryz.prog 102 #[.pointer (some ⟨bc, 0, none⟩)] encP (fun _ V => CH V B cb L ∧ V.cell? ⟨bc, 0, none⟩ = some (.pointer (some ⟨cb, 0, none⟩))) KpV
      (fun s x => s = L.take s.length ∧ L[s.length]? = some x) (fun s => s = L) (fun _ => True) w := by
  intro l J Jx W hW hJ0 hH hY h0
  have hJ : ∀ s A C, J s A → Below A.heap.size A C → J s C := fun s A C hs hb => hJ0 s A C none hs (grown_of_below hb) (fun r e => by cases e)
  have HA := hide (fun (q : Int) (V : World) (h : CH V B cb L) => above_any q B cb L V h hr hlen)
  have hW0 := hide hW.size
  have hc0 := (hH _ _ h0).2
  have hC0 := (hH _ _ h0).1
  have qf := eqNilY l
  refine callsIn_of_wp Tryz.func102 rfl trivial ?_ rfl
  simp only [Tryz.ntmps102, List.size_toArray, List.length_cons, List.length_nil, Nat.reduceAdd, Nat.reduceSub, Array.replicate_succ, Array.replicate_zero, List.push_toArray, List.append_toArray, List.nil_append, List.cons_append]
  gi_wp2
  refine ⟨trivial, (callsIn_wide.2 (HA.out (-1) W hC0)).mono ?_⟩
  rintro e w1 ⟨rfl, hb1⟩
  rw [ab_neg L hpos]
  have hJ1 := hide (hJ _ _ _ h0 hb1)
  have hS1 := hide hb1.size
  clear hb1 hc0 h0 hC0 hW
  gi_wp2
  gi_loopw [3] (fun i wr => ∃ k : Nat, k ≤ L.length ∧ i = .int .i64 (k : Int) ∧ Hid (J (L.take k) wr) ∧ Hid (W.heap.size ≤ wr.heap.size)) (fun i _ => L.length - (intOf i).toNat)
  case atStart => exact ⟨0, Nat.zero_le _, rfl, hide (by rw [List.take_zero]; exact hJ1.out), hS1⟩
  case round =>
    obtain ⟨k, hk, rfl, HJ, HS⟩ := hrel
    have hHk := hH _ _ HJ.out
    have HC := hide hHk.1
    obtain ⟨a, cap, c0, hL⟩ := hHk.1.parts
    have cc := hHk.2
    clear hHk
    by_cases hlt : k < L.length
    · obtain ⟨p, hp⟩ : ∃ p, L[k]? = some p := ⟨_, List.getElem?_eq_getElem hlt⟩
      obtain ⟨g, off, rfl, c1, c2⟩ := hL k p hp
      have HR : Hid (wr.rangeAt g (off + k * 2) (vrC p).toList) := hide (fun j u hj => by
        match j, hj with
        | 0, hj => cases hj; exact c1
        | 1, hj => cases hj; exact c2)
      have hd1 : decide ((k : Int) < (L.length : Int)) = true := by rw [decide_eq_true_eq]; omega
      have k0 : (0 : Int) ≤ (k : Int) := by omega
      have k1 : (k : Int) < (L.length : Int) := by omega
      have HP := hide hp
      obtain ⟨W2, hW2⟩ : ∃ W2, wr.alloc (.cells #[.int .i64 p.1, .string ⟨p.2.toArray⟩] 111) = W2 := ⟨_, rfl⟩
      have hb2 : Below wr.heap.size wr W2 := by rw [← hW2]; exact (Below.refl _ _).alloc (Nat.le_refl _) _
      have hN2 : Hid (W2.heap[wr.heap.size]? = some (.cells #[.int .i64 p.1, .string ⟨p.2.toArray⟩] 111 (0, 0))) := hide (by rw [← hW2]; exact alloc_newV wr _)
      have b0 : W2.cell? ⟨wr.heap.size, 0, none⟩ = some (.int .i64 p.1) := by rw [cell_of_row _ _ _ _ _ _ hN2.out]; rfl
      have b1 : W2.cell? ⟨wr.heap.size, 1, none⟩ = some (.string ⟨p.2.toArray⟩) := by rw [cell_of_row _ _ _ _ _ _ hN2.out]; rfl
      have HB2 := hide hb2
      obtain ⟨fn, tmps, assign, body, hy, hR⟩ := hY (L.take k) p W2 (hJ _ _ _ HJ.out hb2) ⟨by rw [List.length_take, Nat.min_eq_left hk], by rw [List.length_take, Nat.min_eq_left hk]; exact hp⟩
      dsimp only [encP] at hy
      have HRR := hide hR
      clear hR hb2 hL c1 c2 hp hY
      gi_wp2_with (first
        | (refine wpListIn_load_mid rfl 111 _ rfl g (off + k * 2) rfl (vrC p).toList _ HR.out Tryz.underlying111 rfl Tryz.sizeVer ?_; rw [Array.toArray_toList]; unfold vrC)
        | (refine wpListIn_store_row rfl 111 _ _ rfl wr.heap.size #[.int .i64 p.1, .string ⟨p.2.toArray⟩] rfl rfl _ _ (alloc_newV wr _) Tryz.sizeVer rfl (by simp [Value.oneCell']) ?_; rw [World.setRow_alloc_new]))
      refine HRR.out.mono ?_
      rintro e W3 (⟨rfl, hJ3, hk3⟩ | ⟨rfl, hJx3⟩)
      · have HJ3 : Hid (J (L.take (k + 1)) W3) := hide (by rw [List.take_add_one, HP.out]; exact hJ3)
        have hN3 := hk3.2 _ _ _ hN2.out
        have b3 : W3.cell? ⟨wr.heap.size, 0, none⟩ = some (.int .i64 p.1) := by rw [cell_of_row _ _ _ _ _ _ hN3]; rfl
        have hH3 := hH _ _ HJ3.out
        have c3 := hH3.2
        have HC3 := hide hH3.1
        have HZ3 : Hid (wr.heap.size < W3.heap.size) := hide (Array.getElem?_eq_some_iff.1 hN3).1
        clear hk3 hJ3 hN3 hW2 b0 b1 cc c0 hH3
        gi_wp2
        refine ⟨trivial, (callsIn_wide.2 (HA.out p.1 W3 HC3.out)).mono ?_⟩
        rintro e w4 ⟨rfl, hb4⟩
        rw [ab_self L k p hr HP.out]
        have HJ4 : Hid (J (L.take (k + 1)) w4) := hide (hJ _ _ _ HJ3.out hb4)
        have HC4 := hide (HC3.out.later hb4)
        have HS4 : Hid (W.heap.size ≤ w4.heap.size) := hide (by have := HS.out; have := HZ3.out; have := hb4.size; omega)
        clear hb4
        gi_wp2
        go_roundw
        case rel => exact ⟨k + 1, by omega, by first | rfl | go_num, HJ4, HS4⟩
        case measure => simp [intOf]; omega
      · have HX3 := hide hJx3
        clear hJx3
        gi_wp2
        refine bodyPost_ret (results_none rfl _ _ _) rfl ?_
        exact ⟨⟨_, rfl⟩, .inr ⟨_, trivial, HX3.out⟩⟩
    · have e : k = L.length := by omega
      subst e
      gi_wp2
      go_end0
      exact ⟨⟨_, rfl⟩, .inl ⟨L, rfl, by have := HJ.out; rw [List.take_length] at this; exact this⟩⟩
end Go.Proofs.YtehacdijleommaaGreatDoor
namespace Go.Proofs.YtehacdijleommaaGreatDoor
open Go.RowKit Go.Shelf

attribute [local go_sem] Oper.semAt_some

theorem wpListIn_append_orz {F : Fence} {nF : Nat} {P : Program} {ops : Array Oper} {rest : List Oper} {o : Oper} {a : Act} {Q : Exit → Act → World → Prop} (w : World) (B : Nat) (t e : TypeId) (i : TypeInfo) (z : Value) (k bytes : Nat) (hgd : o.guard = none) (s x : Operand)
    (ho : o.op = .call { callee := .builtin .append, args := #[s, x], argTypes := #[t, t] }) (ht : P.underlying t = some (.slice e)) (hi : P.info? e = some i) (hz : i.zero = some z)
    (hsize : i.size = k) (hby : i.bytes = bytes) (hzs : z.cells.size = k) (hsz : 0 < k) (v : Value) (n : Nat) (xs : List Value) (hs : a.eval s = v) (hO : OR w B e k v n xs) (b : Addr) (c : Nat) (news : List Value) (hx : a.eval x = .slice (some b) 1 c) (hl : news.length = k) (hnews : ∀ j u, news[j]? = some u → w.cell? (b.add j) = some u) (h1 : ∀ u ∈ news, u.oneCell' = true)
    (h63 : n + 1 ≤ maxLen) (hbytes : (n + 1) * bytes ≤ 140737488355328) (hB : B ≤ w.heap.size)
    (h : ∀ v' w', OR w' B e k v' (n + 1) (xs ++ news) → w.grownBy w' v.ownBlock → (∀ g, v'.ownBlock = some g → v.ownBlock = some g ∨ w.heap.size ≤ g) → (Z0 v → Z0 v') → wpListIn F nF P ops Q rest (a.put o.dst v') w') : wpListIn F nF P ops Q (o :: rest) a w := by
  obtain ⟨v', w', hrun, r1, r2, r3, r4⟩ := run_append_orz (P := P) w B t o.type e i z k bytes ht hi hz hsize hby hzs hsz v n xs hO b c news hl hnews h1 h63 hbytes hB
  refine wpListIn_plain hgd fun K hK' => ?_
  unfold Oper.wpIn
  refine ⟨by simp [Oper.about, ho, resolve, Target.leads, Sem.run_pure], ?_⟩
  rw [Oper.semAt_plain F _ _ (by rw [ho]; intro c hc'; cases hc')]
  simp [execOp, ho, resolve, invoke, builtin, hs, hx, hrun, Result.andThen]
  exact hK' _ _ (h v' w' r1 r2 r3 r4)
theorem wpListIn_append_or {F : Fence} {nF : Nat} {P : Program} {ops : Array Oper} {rest : List Oper} {o : Oper} {a : Act} {Q : Exit → Act → World → Prop} (w : World) (B : Nat) (t e : TypeId) (i : TypeInfo) (z : Value) (k bytes : Nat) (hgd : o.guard = none) (s x : Operand)
    (ho : o.op = .call { callee := .builtin .append, args := #[s, x], argTypes := #[t, t] }) (ht : P.underlying t = some (.slice e)) (hi : P.info? e = some i) (hz : i.zero = some z)
    (hsize : i.size = k) (hby : i.bytes = bytes) (hzs : z.cells.size = k) (hsz : 0 < k) (v : Value) (n : Nat) (xs : List Value) (hs : a.eval s = v) (hO : OR w B e k v n xs) (b : Addr) (c : Nat) (news : List Value) (hx : a.eval x = .slice (some b) 1 c) (hl : news.length = k) (hnews : ∀ j u, news[j]? = some u → w.cell? (b.add j) = some u) (h1 : ∀ u ∈ news, u.oneCell' = true)
    (h63 : n + 1 ≤ maxLen) (hbytes : (n + 1) * bytes ≤ 140737488355328) (hB : B ≤ w.heap.size)
    (h : ∀ v' w', OR w' B e k v' (n + 1) (xs ++ news) → w.grownBy w' v.ownBlock → (∀ g, v'.ownBlock = some g → v.ownBlock = some g ∨ w.heap.size ≤ g) → wpListIn F nF P ops Q rest (a.put o.dst v') w') : wpListIn F nF P ops Q (o :: rest) a w := by
  obtain ⟨v', w', hrun, r1, r2, r3⟩ := run_append_or (P := P) w B t o.type e i z k bytes ht hi hz hsize hby hzs hsz v n xs hO b c news hl hnews h1 h63 hbytes hB
  refine wpListIn_plain hgd fun K hK' => ?_
  unfold Oper.wpIn
  refine ⟨by simp [Oper.about, ho, resolve, Target.leads, Sem.run_pure], ?_⟩
  rw [Oper.semAt_plain F _ _ (by rw [ho]; intro c hc'; cases hc')]
  simp [execOp, ho, resolve, invoke, builtin, hs, hx, hrun, Result.andThen]
  exact hK' _ _ (h v' w' r1 r2 r3)
theorem OR.row_ne {W : World} {B k n b : Nat} {e t : TypeId} {v : Value} {xs : List Value} {c : Array Value} {fz : Nat × Nat} (h : OR W B e k v n xs) (hb : W.heap[b]? = some (.cells c t fz)) (ht : t ≠ e) : v.ownBlock ≠ some b := by
  intro q
  rcases h.2 with ⟨rfl, _⟩ | ⟨g, off, cap, cur, rfl, _, hg, _⟩
  · cases q
  · cases q
    rw [hb] at hg
    injection hg with hg
    injection hg with _ hg _
    exact ht hg
theorem OR.row_no {W : World} {B k n b : Nat} {e : TypeId} {v : Value} {xs : List Value} {o : Obj} (h : OR W B e k v n xs) (hb : W.heap[b]? = some o) (ho : o.isCells = false) : v.ownBlock ≠ some b := by
  intro q
  rcases h.2 with ⟨rfl, _⟩ | ⟨g, off, cap, cur, rfl, _, hg, _⟩
  · cases q
  · cases q
    rw [hb] at hg
    cases hg; cases ho
theorem eqNilF (b : Nat) (W : World) : (binOp .eql 143 (.func (Fn.func 102) #[] #[.pointer (some ⟨b, 0, none⟩)]) .nilFunc).run Tryz.prog W = .ok (.bool false) W := by kernel_rfl
end Go.Proofs.YtehacdijleommaaGreatDoor
namespace Go.Proofs.YtehacdijleommaaGreatDoor
open Go.RowKit Go.Shelf

/-- A row of versions. -/
def RV (w : World) (v : Value) (L : List Ver) : Prop := ∃ a cap, v = .slice a L.length cap ∧ ∀ (i : Nat) (p : Ver), L[i]? = some p → ∃ g off, a = some ⟨g, off, none⟩ ∧ w.cell? ⟨g, off + i * 2, none⟩ = some (.int .i64 p.1) ∧ w.cell? ⟨g, off + i * 2 + 1, none⟩ = some (.string ⟨p.2.toArray⟩)
theorem RV.later {w w' : World} {v : Value} {L : List Ver} (h : RV w v L) (hb : Below w.heap.size w w') : RV w' v L := by
  obtain ⟨a, cap, hv, hc⟩ := h
  refine ⟨a, cap, hv, fun i p hp => ?_⟩
  obtain ⟨g, off, e, c1, c2⟩ := hc i p hp
  exact ⟨g, off, e, (hb.cell (World.block_lt_of_cell? _ _ c1)).trans c1, (hb.cell (World.block_lt_of_cell? _ _ c2)).trans c2⟩
theorem OR.rv {w : World} {B : Nat} {t : TypeId} {v : Value} {L : List Ver} (ho : OR w B t 2 v L.length (vc L)) : RV w v L := by
  rcases ho.2 with ⟨rfl, h0⟩ | ⟨g, off, cap, cur, rfl, _, _, _, _, _, h5⟩
  · refine ⟨none, 0, by rw [h0], fun i p hp => ?_⟩
    have := (List.getElem?_eq_some_iff.1 hp).1
    omega
  · refine ⟨_, cap, rfl, fun i p hp => ⟨g, off, rfl, h5 _ _ (vc_at L i p hp).1, ?_⟩⟩
    have := h5 _ _ (vc_at L i p hp).2
    rw [← Nat.add_assoc] at this; exact this
end Go.Proofs.YtehacdijleommaaGreatDoor
namespace Go.Proofs.YtehacdijleommaaGreatDoor
open Go.RowKit Go.Shelf

theorem ab_none (q : Int) : ∀ (L : List Ver), (∀ p ∈ L, q < p.1) → ab q L = 0
  | [], _ => rfl
  | p :: r, h => by unfold ab; rw [if_pos (h p (List.mem_cons_self ..))]
theorem ab_drop (q : Int) : ∀ (L : List Ver) (m : Nat), Ris L → ab q (L.drop m) = ab q L - m
  | [], m, _ => by rw [List.drop_nil]; show 0 = 0 - m; omega
  | _ :: _, 0, _ => rfl
  | p :: r, m + 1, h => by
    have ih := ab_drop q r m h.2
    rw [List.drop_succ_cons, ih]
    by_cases hq : q < p.1
    · have h0 : ab q r = 0 := ab_none q r (fun a ha => by have := h.1 a ha; omega)
      have e : ab q (p :: r) = 0 := by rw [ab, if_pos hq]
      rw [e, h0]; omega
    · have e : ab q (p :: r) = ab q r + 1 := by rw [ab, if_neg hq]
      rw [e]; omega
theorem ab_mono {n q : Int} (h : n ≤ q) : ∀ L : List Ver, ab n L ≤ ab q L
  | [] => Nat.le_refl _
  | p :: r => by
    have ih := ab_mono h r
    by_cases h1 : n < p.1
    · rw [ab, if_pos h1]; exact Nat.zero_le _
    · rw [ab, if_neg h1, ab, if_neg (by omega)]; omega
/-- What counts at q, its text, and whether there is one. -/
def atS (q : Int) (L : List Ver) : List UInt8 := if ab q L = 0 then [] else match L[ab q L - 1]? with | some p => p.2 | none => []
def atB (q : Int) (L : List Ver) : Bool := decide (0 < ab q L)
theorem atq_any (q : Int) (B cb : Nat) (L : List Ver) (w : World) (h : CH w B cb L) (hr : Ris L) (hl : L.length ≤ 4611686018427387904) :
    Calls Tryz.prog 51 #[.pointer (some ⟨cb, 0, none⟩), .int .i64 q] w fun e w' => e = .returned (.tuple #[.string ⟨(atS q L).toArray⟩, .bool (atB q L)]) ∧ Below w.heap.size w w' := by
  by_cases h0 : ab q L = 0
  · have e1 : atS q L = [] := by unfold atS; rw [if_pos h0]
    have e2 : atB q L = false := by unfold atB; rw [h0]; rfl
    rw [e1, e2]
    exact at_no q B cb L w h hr hl h0
  · obtain ⟨k, hk⟩ : ∃ k, ab q L = k + 1 := ⟨ab q L - 1, by omega⟩
    have hlt : k < L.length := by have := ab_le q L; omega
    obtain ⟨p, hp⟩ : ∃ p, L[k]? = some p := ⟨_, List.getElem?_eq_getElem hlt⟩
    have e1 : atS q L = p.2 := by unfold atS; rw [if_neg h0, hk, Nat.add_sub_cancel, hp]
    have e2 : atB q L = true := by unfold atB; rw [hk]; simp
    rw [e1, e2]
    exact at_yes q B cb L k p w h hr hl hk hp
theorem atS_pr {n q : Int} {L : List Ver} (hr : Ris L) (h : n ≤ q) : atS q (L.drop (ab n L - 1)) = atS q L ∧ atB q (L.drop (ab n L - 1)) = atB q L := by
  have h1 := ab_mono h L
  have h2 := ab_drop q L (ab n L - 1) hr
  rcases Nat.eq_zero_or_pos (ab n L) with h0 | h0
  · rw [h0, show 0 - 1 = 0 from rfl, List.drop_zero]; exact ⟨rfl, rfl⟩
  · unfold atS atB
    rw [h2, if_neg (show ¬ ab q L - (ab n L - 1) = 0 by omega), if_neg (show ¬ ab q L = 0 by omega), List.getElem?_drop, show ab n L - 1 + (ab q L - (ab n L - 1) - 1) = ab q L - 1 by omega]
    exact ⟨rfl, by rw [decide_eq_true (show 0 < ab q L - (ab n L - 1) by omega), decide_eq_true (show 0 < ab q L by omega)]⟩
theorem atB_pr {q : Int} {L : List Ver} (hr : Ris L) (m : Nat) (h : atB q (L.drop m) = true) : atB q L = true := by
  unfold atB at h ⊢
  rw [ab_drop q L m hr] at h
  have := of_decide_eq_true h
  exact decide_eq_true (by omega)
/-- The last one. -/
def laP (L : List Ver) : Ver := match L[L.length - 1]? with | some p => p | none => (0, [])
def laB (L : List Ver) : Bool := decide (0 < L.length)
theorem lastq_any (B cb : Nat) (L : List Ver) (w : World) (h : CH w B cb L) (hr : Ris L) (hm : ∀ p ∈ L, p.1 ≤ 9223372036854775807) (hl : L.length ≤ 4611686018427387904) :
    Calls Tryz.prog 42 #[.pointer (some ⟨cb, 0, none⟩)] w fun e w' => e = .returned (.tuple #[.string ⟨(laP L).2.toArray⟩, .int .i64 (laP L).1, .bool (laB L)]) ∧ Below w.heap.size w w' := by
  rcases Nat.eq_zero_or_pos L.length with h0 | h0
  · obtain rfl := List.eq_nil_of_length_eq_zero h0
    exact last_no B cb [] w h hr hl rfl
  · obtain ⟨k, hk⟩ : ∃ k, L.length = k + 1 := ⟨L.length - 1, by omega⟩
    obtain ⟨p, hp⟩ : ∃ p, L[k]? = some p := ⟨_, List.getElem?_eq_getElem (by omega)⟩
    have e1 : laP L = p := by unfold laP; rw [hk, Nat.add_sub_cancel, hp]
    have e2 : laB L = true := decide_eq_true h0
    rw [e1, e2]
    exact last_yes B cb L k p w h hr hl (by rw [ab_max L hm]; exact hk) hp
theorem la_pr {L : List Ver} {m : Nat} (h : m = 0 ∨ m < L.length) : laP (L.drop m) = laP L ∧ laB (L.drop m) = laB L := by
  rcases h with rfl | h
  · rw [List.drop_zero]; exact ⟨rfl, rfl⟩
  · unfold laP laB
    rw [List.getElem?_drop, List.length_drop, show m + (L.length - m - 1) = L.length - 1 by omega]
    exact ⟨rfl, by rw [decide_eq_true (show 0 < L.length - m by omega), decide_eq_true (show 0 < L.length by omega)]⟩
theorem m_ok (n : Int) (L : List Ver) : ab n L - 1 = 0 ∨ ab n L - 1 < L.length := by have := ab_le n L; omega
/-- Rows of two chains are not one. -/
def Ap (c d : Nat) (W : World) : Prop := ∀ v v', W.cell? ⟨c, 0, none⟩ = some v → W.cell? ⟨d, 0, none⟩ = some v' → ∀ g, v.ownBlock = some g → v'.ownBlock ≠ some g
theorem Ap.symm {c d : Nat} {W : World} (h : Ap c d W) : Ap d c W := fun v v' hv hv' g hg e => h v' v hv' hv g e hg
theorem Ap.same {c d : Nat} {W W' : World} (h : Ap c d W) (e1 : W'.cell? ⟨c, 0, none⟩ = W.cell? ⟨c, 0, none⟩) (e2 : W'.cell? ⟨d, 0, none⟩ = W.cell? ⟨d, 0, none⟩) : Ap c d W' := fun v v' hv hv' => h v v' (by rw [← e1]; exact hv) (by rw [← e2]; exact hv')
theorem CH.row_in {W : World} {B cb : Nat} {L : List Ver} (h : CH W B cb L) : ∀ v, W.cell? ⟨cb, 0, none⟩ = some v → ∀ g, v.ownBlock = some g → B ≤ g ∧ g < W.heap.size := by
  intro v hv g hg
  obtain ⟨_, v', em, hh, ho, _⟩ := h
  have : W.cell? ⟨cb, 0, none⟩ = some v' := by rw [cell_of_row W cb 0 _ _ _ hh]; rfl
  rw [this] at hv
  cases hv
  exact ho.lt hg
/-- Another chain than the one that is changed. -/
theorem CH.other {W W' : World} {B B' c d : Nat} {X Y : List Ver} (hf : Fr W W' c) (hx : CH W B c X) (hy : CH W B' d Y) (hne : c ≠ d) (hap : Ap c d W) : CH W' B' d Y ∧ W'.cell? ⟨d, 0, none⟩ = W.cell? ⟨d, 0, none⟩ ∧ Ap c d W' := by
  have hin := hy.row_in
  obtain ⟨q1, v, em, hh, ho, hn⟩ := id hy
  obtain ⟨_, vx, ex, hxx, _, _⟩ := id hx
  have hd : W'.heap[d]? = W.heap[d]? := hf.block d hy.lt (Ne.symm hne) (hx.row_ne hh (by decide))
  have hc : W.cell? ⟨d, 0, none⟩ = some v := by rw [cell_of_row W d 0 _ _ _ hh]; rfl
  have hcd : W'.cell? ⟨d, 0, none⟩ = W.cell? ⟨d, 0, none⟩ := by unfold World.cell?; rw [hd]
  refine ⟨⟨q1, v, em, hd.trans hh, ho.kept (fun g hg => hf.block g (hin v hc g hg).2 (fun e => ?_) (fun u hu e => hap u v hu hc g e hg)), hn⟩, hcd, fun u u' hu hu' g hg e => ?_⟩
  · exact hy.row_ne hxx (by decide) v hc (by rw [← e]; exact hg)
  · rw [hcd] at hu'
    rcases hf.row u hu g hg with q | ⟨u0, hu0, q⟩
    · have := (hin u' hu' g e).2; omega
    · exact hap u0 u' hu0 hu' g q e
/-- Three chains. -/
structure TS (w : World) (bn cx cy cz : Nat) (n : Int) (X Y Z : List Ver) (W : World) : Prop where
  x : CH W cx cx X
  y : CH W cy cy Y
  z : CH W cz cz Z
  nb : Box W bn 3 (.int .i64 n)
  low : Below w.heap.size w W
  ne : w.heap.size ≤ cx ∧ w.heap.size ≤ cy ∧ w.heap.size ≤ cz ∧ cx ≠ cy ∧ cx ≠ cz ∧ cy ≠ cz ∧ bn ≠ cx ∧ bn ≠ cy ∧ bn ≠ cz
  xy : Ap cx cy W
  xz : Ap cx cz W
  yz : Ap cy cz W
theorem TS.later {w W W' : World} {bn cx cy cz : Nat} {n : Int} {X Y Z : List Ver} (h : TS w bn cx cy cz n X Y Z W) (hb : Below W.heap.size W W') : TS w bn cx cy cz n X Y Z W' := by
  have ex := hb.cell (p := ⟨cx, 0, none⟩) h.x.lt
  have ey := hb.cell (p := ⟨cy, 0, none⟩) h.y.lt
  have ez := hb.cell (p := ⟨cz, 0, none⟩) h.z.lt
  exact ⟨h.x.later hb, h.y.later hb, h.z.later hb, h.nb.later hb, h.low.trans (hb.mono h.low.size), h.ne, h.xy.same ex ey, h.xz.same ex ez, h.yz.same ey ez⟩
theorem TS.onX {w W W' : World} {bn cx cy cz : Nat} {n : Int} {X X' Y Z : List Ver} (h : TS w bn cx cy cz n X Y Z W) (hc : CH W' cx cx X') (hf : Fr W W' cx) : TS w bn cx cy cz n X' Y Z W' := by
  obtain ⟨n1, n2, n3, n4, n5, n6, n7, n8, n9⟩ := h.ne
  obtain ⟨y1, y2, y3⟩ := CH.other hf h.x h.y n4 h.xy
  obtain ⟨z1, z2, z3⟩ := CH.other hf h.x h.z n5 h.xz
  exact ⟨hc, y1, z1, hf.box h.x h.nb (by decide) n7, h.low.trans ((hf.below h.x).mono n1), h.ne, y3, z3, h.yz.same y2 z2⟩
theorem TS.onZ {w W W' : World} {bn cx cy cz : Nat} {n : Int} {X Y Z Z' : List Ver} (h : TS w bn cx cy cz n X Y Z W) (hc : CH W' cz cz Z') (hf : Fr W W' cz) : TS w bn cx cy cz n X Y Z' W' := by
  obtain ⟨n1, n2, n3, n4, n5, n6, n7, n8, n9⟩ := h.ne
  obtain ⟨x1, x2, x3⟩ := CH.other hf h.z h.x (Ne.symm n5) h.xz.symm
  obtain ⟨y1, y2, y3⟩ := CH.other hf h.z h.y (Ne.symm n6) h.yz.symm
  exact ⟨x1, y1, hc, hf.box h.z h.nb (by decide) n9, h.low.trans ((hf.below h.z).mono n3), h.ne, h.xy.same x2 y2, x3.symm, y3.symm⟩
theorem cell_set {W : World} {b c : Nat} (hne : c ≠ b) (u : Value) : (W.setCell ⟨b, 0, none⟩ u).cell? ⟨c, 0, none⟩ = W.cell? ⟨c, 0, none⟩ := by unfold World.cell?; rw [Below.heap_setCell _ _ _ c hne]
theorem TS.set {w W : World} {bn cx cy cz b : Nat} {n : Int} {X Y Z : List Ver} {u : Value} (h : TS w bn cx cy cz n X Y Z W) (hb : Box W b 3 u) (h1 : bn ≠ b) (h2 : b ≠ cx) (h3 : b ≠ cy) (h4 : b ≠ cz) (h5 : w.heap.size ≤ b) (u' : Value) : TS w bn cx cy cz n X Y Z (W.setCell ⟨b, 0, none⟩ u') :=
  ⟨h.x.set hb (by decide) h2 u', h.y.set hb (by decide) h3 u', h.z.set hb (by decide) h4 u', h.nb.other h1 u', h.low.setCell (p := ⟨b, 0, none⟩) h5 u', h.ne, h.xy.same (cell_set (Ne.symm h2) u') (cell_set (Ne.symm h3) u'), h.xz.same (cell_set (Ne.symm h2) u') (cell_set (Ne.symm h4) u'), h.yz.same (cell_set (Ne.symm h3) u') (cell_set (Ne.symm h4) u')⟩
theorem cell_grown {V V' : World} {row : Option Nat} {c : Nat} {B : Nat} {L : List Ver} (h : CH V B c L) (hg : V.grownBy V' row) (hr : ∀ r, row = some r → ∃ o : Obj, V.heap[r]? = some o ∧ o.isCells = false) : V'.cell? ⟨c, 0, none⟩ = V.cell? ⟨c, 0, none⟩ := by
  obtain ⟨_, v, em, hh, _⟩ := h
  unfold World.cell?
  rw [grown_cells hg hr hh, hh]
theorem TS.grown {w V V' : World} {bn cx cy cz D : Nat} {n : Int} {X Y Z : List Ver} {row : Option Nat} (h : TS w bn cx cy cz n X Y Z V) (hD : w.heap.size ≤ D) (hg : V.grownBy V' row) (hr : ∀ r, row = some r → D ≤ r ∧ ∃ o : Obj, V.heap[r]? = some o ∧ o.isCells = false) : TS w bn cx cy cz n X Y Z V' := by
  have hr' : ∀ r, row = some r → ∃ o : Obj, V.heap[r]? = some o ∧ o.isCells = false := fun r e => (hr r e).2
  have ex := cell_grown h.x hg hr'
  have ey := cell_grown h.y hg hr'
  have ez := cell_grown h.z hg hr'
  exact ⟨h.x.grown hg hr', h.y.grown hg hr', h.z.grown hg hr', grown_cells hg hr' h.nb, ⟨hg.os.trans h.low.os, hg.tape.trans h.low.tape, hg.output.trans h.low.output, Nat.le_trans h.low.size hg.size, fun k hk => (hg.block k (Nat.lt_of_lt_of_le hk h.low.size) (fun e => by have := (hr k e.symm).1; omega)).trans (h.low.block k hk)⟩, h.ne, h.xy.same ex ey, h.xz.same ex ez, h.yz.same ey ez⟩
/-- Three chains that were built one behind the other. -/
theorem TS.made {w w0 w1 w2 w3 : World} {bn cx cy cz : Nat} {n : Int} {L : List Ver} (hbn : Box w0 bn 3 (.int .i64 n)) (h0 : Below w.heap.size w w0) (c1 : w0.heap.size ≤ cx) (x1 : CH w1 cx cx L) (b1 : Below w0.heap.size w0 w1) (c2 : w1.heap.size ≤ cy) (y2 : CH w2 cy cy L) (b2 : Below w1.heap.size w1 w2) (c3 : w2.heap.size ≤ cz) (z3 : CH w3 cz cz L) (b3 : Below w2.heap.size w2 w3) : TS w bn cx cy cz n L L L w3 := by
  have b13 := b2.trans (b3.mono b2.size)
  have lx := x1.lt
  have ly := y2.lt
  have lb := hbn.lt
  have s0 := h0.size
  have s1 := b1.size
  have s2 := b2.size
  have ex := b13.cell (p := ⟨cx, 0, none⟩) lx
  have ey := b3.cell (p := ⟨cy, 0, none⟩) ly
  refine ⟨x1.later b13, y2.later b3, z3, (hbn.later b1).later b13, (h0.trans (b1.mono s0)).trans (b13.mono (Nat.le_trans s0 s1)), by omega, fun v v' hv hv' g hg e => ?_, fun v v' hv hv' g hg e => ?_, fun v v' hv hv' g hg e => ?_⟩
  · rw [ex] at hv
    rw [ey] at hv'
    have := (x1.row_in v hv g hg).2
    have := (y2.row_in v' hv' g e).1
    omega
  · rw [ex] at hv
    have := (x1.row_in v hv g hg).2
    have := (z3.row_in v' hv' g e).1
    omega
  · rw [ey] at hv
    have := (y2.row_in v hv g hg).2
    have := (z3.row_in v' hv' g e).1
    omega
/-- A row of numbers. -/
def RN (w : World) (v : Value) (l : List Int) : Prop := ∃ a cap, v = .slice a l.length cap ∧ ∀ (i : Nat) (q : Int), l[i]? = some q → ∃ g off, a = some ⟨g, off, none⟩ ∧ w.cell? ⟨g, off + i, none⟩ = some (.int .i64 q)
end Go.Proofs.YtehacdijleommaaGreatDoor
