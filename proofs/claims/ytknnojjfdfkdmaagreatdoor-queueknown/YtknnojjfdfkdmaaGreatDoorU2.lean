/-
  My own text: layer 19: rows of entries by their coming: where one stands, by the program.
-/
import Derived.Test.YtknnojjfdfkdmaaGreatDoorU1
import Derived.Test.YtknnojjfdfkdmaaGreatDoorU2a
import Derived.Deep.QuietTactic
namespace Go.Proofs.YtknnojjfdfkdmaaGreatDoor
open Go.RowKit

/-- Rising by c. -/
def Sr (c : Nat → Int) (L : List Nat) : Prop := L.Pairwise (fun x y => c x < c y)
theorem sr_uniq {c : Nat → Int} : ∀ {L M : List Nat}, Sr c L → Sr c M → (∀ x, x ∈ L ↔ x ∈ M) → L = M
  | [], [], _, _, _ => rfl
  | [], b :: M, _, _, h => by have := (h b).2 (by simp); cases this
  | a :: L, [], _, _, h => by have := (h a).1 (by simp); cases this
  | a :: L, b :: M, hL, hM, h => by
    obtain ⟨hL1, hL2⟩ := List.pairwise_cons.1 hL
    obtain ⟨hM1, hM2⟩ := List.pairwise_cons.1 hM
    have hab : a = b := by
      have h1 := (h a).1 (by simp)
      have h2 := (h b).2 (by simp)
      rcases List.mem_cons.1 h1 with e | e
      · exact e
      · rcases List.mem_cons.1 h2 with f | f
        · exact f.symm
        · have q1 := hL1 b f
          have q2 := hM1 a e
          omega
    subst hab
    have : L = M := sr_uniq hL2 hM2 (fun x => by
      constructor
      · intro hx
        rcases List.mem_cons.1 ((h x).1 (List.mem_cons_of_mem _ hx)) with e | e
        · have := hL1 x hx; rw [e] at this; omega
        · exact e
      · intro hx
        rcases List.mem_cons.1 ((h x).2 (List.mem_cons_of_mem _ hx)) with e | e
        · have := hM1 x hx; rw [e] at this; omega
        · exact e)
    rw [this]
theorem sr_inj {c : Nat → Int} : ∀ {L : List Nat}, Sr c L → ∀ {x y : Nat}, x ∈ L → y ∈ L → c x = c y → x = y
  | a :: L, h, x, y, hx, hy, e => by
    obtain ⟨h1, h2⟩ := List.pairwise_cons.1 h
    rcases List.mem_cons.1 hx with q1 | q1 <;> rcases List.mem_cons.1 hy with q2 | q2
    · rw [q1, q2]
    · have := h1 y q2; rw [q1] at e; omega
    · have := h1 x q1; rw [q2] at e; omega
    · exact sr_inj h2 q1 q2 e
/-- How many come ahead of n. -/
def lo (c : Nat → Int) (n : Int) : List Nat → Nat
  | [] => 0
  | x :: t => if c x < n then lo c n t + 1 else 0
theorem lo_le (c : Nat → Int) (n : Int) : ∀ L : List Nat, lo c n L ≤ L.length
  | [] => Nat.le_refl _
  | x :: t => by
    unfold lo
    split
    · have := lo_le c n t; simp; omega
    · omega
theorem lo_lo {c : Nat → Int} {n : Int} : ∀ {L : List Nat} {j x : Nat}, j < lo c n L → L[j]? = some x → c x < n
  | y :: t, j, x, h, hx => by
    unfold lo at h
    by_cases e : c y < n
    · rw [if_pos e] at h
      cases j with
      | zero => obtain rfl : y = x := by simpa using hx
                exact e
      | succ j => exact lo_lo (L := t) (j := j) (by omega) (by simpa using hx)
    · rw [if_neg e] at h; omega
theorem lo_hi {c : Nat → Int} {n : Int} : ∀ {L : List Nat} {j x : Nat}, Sr c L → lo c n L ≤ j → L[j]? = some x → n ≤ c x
  | y :: t, j, x, hs, h, hx => by
    obtain ⟨h1, h2⟩ := List.pairwise_cons.1 hs
    unfold lo at h
    by_cases e : c y < n
    · rw [if_pos e] at h
      cases j with
      | zero => omega
      | succ j => exact lo_hi (L := t) (j := j) h2 (by omega) (by simpa using hx)
    · cases j with
      | zero => obtain rfl : y = x := by simpa using hx
                omega
      | succ j =>
        have := h1 x (List.mem_of_getElem? (by simpa using hx : t[j]? = some x))
        omega
/-- Is one there that came then? -/
def hasC (c : Nat → Int) (n : Int) (L : List Nat) : Bool := L.any fun x => c x == n
theorem hasC_iff {c : Nat → Int} {n : Int} {L : List Nat} : hasC c n L = true ↔ ∃ x ∈ L, c x = n := by
  unfold hasC
  simp
theorem hasC_at {c : Nat → Int} {n : Int} {L : List Nat} (hs : Sr c L) (h : hasC c n L = true) : ∃ x, L[lo c n L]? = some x ∧ c x = n := by
  obtain ⟨x, hx, e⟩ := hasC_iff.1 h
  obtain ⟨j, hj⟩ := List.getElem?_of_mem hx
  have h1 : ¬ j < lo c n L := fun h => by have := lo_lo h hj; omega
  by_cases h2 : lo c n L = j
  · exact ⟨x, by rw [h2]; exact hj, e⟩
  · have hjl := (List.getElem?_eq_some_iff.1 hj).1
    have hlt : lo c n L < L.length := by omega
    have h3 := lo_hi hs (Nat.le_refl _) (List.getElem?_eq_getElem hlt)
    have h4 := List.pairwise_iff_getElem.1 hs (lo c n L) j hlt hjl (by omega)
    have h5 : L[j] = x := (List.getElem?_eq_some_iff.1 hj).2
    rw [h5] at h4
    omega
theorem hasC_no {c : Nat → Int} {n : Int} {L : List Nat} (hs : Sr c L) (h : hasC c n L = false) {x : Nat} (hx : L[lo c n L]? = some x) : n < c x := by
  have h1 := lo_hi hs (Nat.le_refl _) hx
  have h2 : c x ≠ n := fun e => by
    have := hasC_iff.2 ⟨x, List.mem_of_getElem? hx, e⟩
    rw [h] at this; cases this
  omega
/-- One more, in its place. -/
def insE (c : Nat → Int) (e : Nat) (L : List Nat) : List Nat := L.take (lo c (c e) L) ++ e :: L.drop (lo c (c e) L)
def delE (c : Nat → Int) (e : Nat) (L : List Nat) : List Nat := L.take (lo c (c e) L) ++ L.drop (lo c (c e) L + 1)
theorem mem_insE {c : Nat → Int} {e x : Nat} {L : List Nat} : x ∈ insE c e L ↔ x = e ∨ x ∈ L := by
  unfold insE
  rw [List.mem_append, List.mem_cons]
  conv => rhs; rw [← List.take_append_drop (lo c (c e) L) L, List.mem_append]
  constructor
  · rintro (h | h | h)
    · exact .inr (.inl h)
    · exact .inl h
    · exact .inr (.inr h)
  · rintro (h | h | h)
    · exact .inr (.inl h)
    · exact .inl h
    · exact .inr (.inr h)
theorem sr_insE {c : Nat → Int} {e : Nat} {L : List Nat} (hs : Sr c L) (h : hasC c (c e) L = false) : Sr c (insE c e L) := by
  have hl := lo_le c (c e) L
  unfold insE Sr
  have hs' : Sr c (L.take (lo c (c e) L) ++ L.drop (lo c (c e) L)) := by rw [List.take_append_drop]; exact hs
  obtain ⟨p1, p2, p3⟩ := List.pairwise_append.1 hs'
  refine List.pairwise_append.2 ⟨p1, List.pairwise_cons.2 ⟨fun y hy => ?_, p2⟩, fun x hx y hy => ?_⟩
  · obtain ⟨j, hj⟩ := List.getElem?_of_mem hy
    rw [List.getElem?_drop] at hj
    have h1 := lo_hi hs (Nat.le_add_right _ j) hj
    have h2 : c y ≠ c e := fun q => by
      have := hasC_iff.2 ⟨y, List.mem_of_getElem? hj, q⟩
      rw [h] at this; cases this
    omega
  · have hxl : c x < c e := by
      obtain ⟨j, hj⟩ := List.getElem?_of_mem hx
      rw [List.getElem?_take] at hj
      split at hj
      · rename_i hlt; exact lo_lo hlt hj
      · cases hj
    rcases List.mem_cons.1 hy with rfl | hy
    · exact hxl
    · exact p3 x hx y hy
theorem insE_len (c : Nat → Int) (e : Nat) (L : List Nat) : (insE c e L).length = L.length + 1 := by
  have := lo_le c (c e) L
  unfold insE; simp; omega
theorem sr_delE {c : Nat → Int} {e : Nat} {L : List Nat} (hs : Sr c L) : Sr c (delE c e L) := by
  refine hs.sublist ?_
  unfold delE
  conv => rhs; rw [← List.take_append_drop (lo c (c e) L) L]
  exact List.Sublist.append (List.Sublist.refl _) (by rw [← List.drop_drop]; exact List.drop_sublist _ _)
theorem mem_delE {c : Nat → Int} {e x : Nat} {L : List Nat} (hs : Sr c L) (he : e ∈ L) : x ∈ delE c e L ↔ x ∈ L ∧ x ≠ e := by
  obtain ⟨y, hy, hye⟩ := hasC_at hs (hasC_iff.2 ⟨e, he, rfl⟩)
  obtain rfl : y = e := sr_inj hs (List.mem_of_getElem? hy) he hye
  have hlt := (List.getElem?_eq_some_iff.1 hy).1
  have hd : L = L.take (lo c (c y) L) ++ y :: L.drop (lo c (c y) L + 1) := by
    conv => lhs; rw [← List.take_append_drop (lo c (c y) L) L]
    rw [List.drop_eq_getElem_cons hlt, (List.getElem?_eq_some_iff.1 hy).2]
  have hs' := hs
  rw [hd] at hs'
  obtain ⟨p1, p2, p3⟩ := List.pairwise_append.1 hs'
  obtain ⟨p4, p5⟩ := List.pairwise_cons.1 p2
  have hne : ∀ x, x ∈ delE c y L → x ≠ y := fun x hx q => by
    subst q
    unfold delE at hx
    rcases List.mem_append.1 hx with h | h
    · have := p3 x h x (by simp); omega
    · have := p4 x h; omega
  constructor
  · intro h
    refine ⟨?_, hne x h⟩
    rw [hd]
    unfold delE at h
    rcases List.mem_append.1 h with h | h
    · exact List.mem_append.2 (.inl h)
    · exact List.mem_append.2 (.inr (List.mem_cons_of_mem _ h))
  · rintro ⟨h, hn⟩
    rw [hd] at h
    unfold delE
    rcases List.mem_append.1 h with h | h
    · exact List.mem_append.2 (.inl h)
    · rcases List.mem_cons.1 h with h | h
      · exact absurd h hn
      · exact List.mem_append.2 (.inr h)
theorem delE_len {c : Nat → Int} {e : Nat} {L : List Nat} (h : lo c (c e) L < L.length) : (delE c e L).length = L.length - 1 := by
  unfold delE; rw [List.length_append, List.length_take, List.length_drop]; omega
theorem sr_nodup {c : Nat → Int} {L : List Nat} (hs : Sr c L) : L.Nodup := by
  refine List.Pairwise.imp (fun {a b} h e => ?_) hs
  subst e; omega
/-- A pointer to an entry. -/
def ep (x : Nat) : Value := .pointer (some ⟨x, 0, none⟩)
/-- A row of entries in memory. -/
def PR (w : World) (v : Value) (L : List Nat) : Prop := OV w 0 63 1 v L.length (L.map ep)
theorem PR.get {w : World} {v : Value} {L : List Nat} (h : PR w v L) : (v = .slice none 0 0 ∧ L = []) ∨ ∃ g off cap cur, v = .slice (some ⟨g, off, none⟩) L.length cap ∧ w.heap[g]? = some (.cells cur 63 (0, 0)) ∧ L.length ≤ cap ∧ cap ≤ maxLen ∧ off + cap ≤ cur.size ∧ ∀ j x, L[j]? = some x → w.cell? ⟨g, off + j, none⟩ = some (ep x) := by
  rcases h.2 with ⟨h0, h1⟩ | ⟨g, off, cap, cur, hv, _, h2, h3, h4, h5, h6⟩
  · exact .inl ⟨h0, List.eq_nil_of_length_eq_zero h1⟩
  · exact .inr ⟨g, off, cap, cur, hv, h2, h3, h4, by omega, fun j x hx => h6 j _ (by rw [List.getElem?_map, hx]; rfl)⟩
theorem PR.mk {w : World} {g off cap : Nat} {cur : Array Value} {L : List Nat} (hh : w.heap[g]? = some (.cells cur 63 (0, 0))) (h1 : L.length ≤ cap) (h2 : cap ≤ maxLen) (h3 : off + cap ≤ cur.size) (hc : ∀ j x, L[j]? = some x → w.cell? ⟨g, off + j, none⟩ = some (ep x)) : PR w (.slice (some ⟨g, off, none⟩) L.length cap) L :=
  ⟨by rw [List.length_map, Nat.mul_one], .inr ⟨g, off, cap, cur, rfl, Nat.zero_le _, hh, h1, h2, by omega, fun j u hj => by
    rw [List.getElem?_map] at hj
    obtain ⟨x, hx, rfl⟩ := Option.map_eq_some_iff.1 hj
    exact hc j x hx⟩⟩
theorem PR.nil (w : World) : PR w (.slice none 0 0) [] := OV.nil _ _ _ _
theorem PR.lt {w : World} {v : Value} {L : List Nat} (h : PR w v L) {g : Nat} (hg : v.ownBlock = some g) : g < w.heap.size := (OV.lt h hg).2
theorem PR.kept {w w' : World} {v : Value} {L : List Nat} (h : PR w v L) (hb : ∀ g, v.ownBlock = some g → w'.heap[g]? = w.heap[g]?) : PR w' v L := OV.kept h hb
theorem PR.later {w w' : World} {v : Value} {L : List Nat} (h : PR w v L) (hb : Below w.heap.size w w') : PR w' v L := OV.later h hb
theorem PR.blk {w : World} {v : Value} {L : List Nat} (h : PR w v L) {g : Nat} (hg : v.ownBlock = some g) : ∃ cur, w.heap[g]? = some (.cells cur 63 (0, 0)) := by
  rcases h.get with ⟨rfl, _⟩ | ⟨g', off, cap, cur, rfl, hh, _⟩
  · cases hg
  · cases hg; exact ⟨cur, hh⟩
/-- Who came when. -/
def Cm (w : World) (c : Nat → Int) (x : Nat) : Prop := x < w.heap.size ∧ w.cell? ⟨x, 1, none⟩ = some (.int .i64 (c x))
theorem Cm.later {w w' : World} {c : Nat → Int} {x : Nat} (h : Cm w c x) (hb : Below w.heap.size w w') : Cm w' c x := ⟨Nat.lt_of_lt_of_le h.1 hb.size, (hb.cell (p := ⟨x, 1, none⟩) h.1).trans h.2⟩
set_option maxRecDepth 100000 in
set_option maxHeartbeats 1000000 in
theorem place1_any (x y : Nat) (a b : Int) (w : World) (hx : w.cell? ⟨x, 1, none⟩ = some (.int .i64 a)) (hy : w.cell? ⟨y, 1, none⟩ = some (.int .i64 b)) :
    Calls Tryz.prog 70 #[.pointer (some ⟨x, 0, none⟩), .pointer (some ⟨y, 0, none⟩)] w fun e w' => e = .returned (.int .i64 (sgn a b)) ∧ Below w.heap.size w w' := by
  have HC := hide (fun W => compareI a b W)
  generalize sgn a b = r at *
  have HB := hide (Below.refl w.heap.size w)
  go_enter Tryz.func70, Tryz.ntmps70
  go_wp2_with fail
  go_quiet (first | (go_at_call 68; exact Calls.quiet_of_same (HC.out _)))
  have HW2 := hide (below_dN HB.out nq)
  go_wp2_with fail
  go_ret
  exact ⟨rfl, HW2.out⟩
set_option maxRecDepth 100000 in
set_option maxHeartbeats 2000000 in
theorem search_any (v : Value) (L : List Nat) (c : Nat → Int) (e : Nat) (w : World) (h : PR w v L) (hr : Sr c L) (hc : ∀ x ∈ L, Cm w c x) (he : Cm w c e) (h8 : L.length ≤ 4611686018427387903) :
    Calls Tryz.prog 69 #[v, .pointer (some ⟨e, 0, none⟩), .func (Fn.func 70) #[] #[]] w fun x w' => x = .returned (.tuple #[.int .i64 (lo c (c e) L : Int), .bool (hasC c (c e) L)]) ∧ Below w.heap.size w w' := by
  have HCM := hide hc
  have HCE := hide he
  have HPR := hide h.get
  obtain ⟨av, cap, rfl⟩ : ∃ a cap, v = .slice a L.length cap := by
    rcases h.get with ⟨rfl, rfl⟩ | ⟨g, off, cap, cur, rfl, _⟩
    · exact ⟨_, _, rfl⟩
    · exact ⟨_, _, rfl⟩
  have HR := hide hr
  have H8 := hide h8
  have HLO := hide (lo_le c (c e) L)
  clear hc he h hr h8
  obtain ⟨n, HN⟩ : ∃ n : Int, Hid (c e = n) := ⟨_, hide rfl⟩
  rw [HN.out] at HLO ⊢
  obtain ⟨M, HM⟩ : ∃ M : Nat, Hid (lo c n L = M) := ⟨_, hide rfl⟩
  rw [HM.out] at HLO ⊢
  obtain ⟨F, HF⟩ : ∃ F : Bool, Hid (hasC c n L = F) := ⟨_, hide rfl⟩
  rw [HF.out]
  go_enter Tryz.func69, Tryz.ntmps69
  go_wp2_with fail
  go_loopw [9, 10] (fun i j wr => ∃ x y : Nat, i = .int .i64 (x : Int) ∧ j = .int .i64 (y : Int) ∧ x ≤ M ∧ M ≤ y ∧ y ≤ L.length ∧ Hid (Below w.heap.size w wr)) (fun i j _ => (intOf j).toNat - (intOf i).toNat)
  case atStart => exact ⟨0, L.length, rfl, rfl, Nat.zero_le _, HLO.out, Nat.le_refl _, hide (Below.refl _ _)⟩
  case round =>
    obtain ⟨x, y, rfl, rfl, h1, h2, h3, HB⟩ := hrel
    have hl8 := H8.out
    by_cases hab : x < y
    · have hd1 : decide ((x : Int) < (y : Int)) = true := by rw [decide_eq_true_eq]; omega
      have w1 : wrap64 ((x : Int) + (y : Int)) = (x : Int) + (y : Int) := by unfold wrap64; omega
      obtain ⟨h, eh⟩ : ∃ h : Nat, (h : Int) = ((x : Int) + (y : Int)) / 2 := ⟨(x + y) / 2, by omega⟩
      have h4 : x ≤ h := by omega
      have h5 : h < y := by omega
      have hlt : h < L.length := by omega
      obtain ⟨q, hp⟩ : ∃ p, L[h]? = some p := ⟨_, List.getElem?_eq_getElem hlt⟩
      rcases HPR.out with ⟨_, h0⟩ | ⟨b, off, cap', cur, hv, hbl, _, _, _, hcl⟩
      · rw [h0] at hlt; simp at hlt
      injection hv with hv1 hv2 hv3; clear hv2 hv3
      have hblt := (Array.getElem?_eq_some_iff.1 hbl).1
      have hh : (x + y) / 2 = h := by omega
      have c0 : wr.cell? ⟨b, off + (x + y) / 2, none⟩ = some (.pointer (some ⟨q, 0, none⟩)) := by rw [hh]; exact (HB.out.cell (p := ⟨b, _, none⟩) hblt).trans (hcl h _ hp)
      clear hh
      subst hv1
      have HP := hide hp
      have cq := (HCM.out q (List.mem_of_getElem? hp)).later (w' := wr) HB.out
      have ce := HCE.out.later (w' := wr) HB.out
      have H := hide (place1_any q e (c q) (c e) wr cq.2 ce.2)
      rw [HN.out] at H
      have k0 : (0 : Int) ≤ (h : Int) := by omega
      have k1 : (h : Int) < (L.length : Int) := by omega
      clear hcl hp cq ce hbl hblt
      by_cases hN : c q < n
      · have HK : Hid (h + 1 ≤ M) := hide (by
          rw [← HM.out]
          rcases Nat.lt_or_ge h (lo c n L) with hq | hq
          · omega
          · have := lo_hi HR.out hq HP.out; omega)
        rw [sgn_lt hN] at H
        clear hN
        go_wp2_with fail
        refine H.out.mono ?_
        rintro e w2 ⟨rfl, hb2⟩
        rw [← eh]
        clear eh w1 c0
        have HB2 := hide (HB.out.trans (hb2.mono HB.out.size))
        clear hb2 H HB
        go_wp2_with fail
        go_roundw
        case rel => exact ⟨h + 1, y, by go_num, rfl, HK.out, h2, h3, HB2⟩
        case measure => simp [intOf]; omega
      · have HK : Hid (M ≤ h) := hide (by
          rw [← HM.out]
          rcases Nat.lt_or_ge h (lo c n L) with hq | hq
          · have := lo_lo hq HP.out; omega
          · exact hq)
        obtain ⟨r, er, hcp⟩ : ∃ r : Int, sgn (c q) n = r ∧ decide (r < 0) = false := ⟨_, rfl, by
          rw [decide_eq_false_iff_not]; unfold sgn; rw [if_neg hN]; split <;> omega⟩
        rw [er] at H
        clear er hN
        go_wp2_with fail
        refine H.out.mono ?_
        rintro e w2 ⟨rfl, hb2⟩
        rw [← eh]
        clear eh w1 c0
        have HB2 := hide (HB.out.trans (hb2.mono HB.out.size))
        clear hb2 H HB
        go_wp2_with fail
        go_roundw
        case rel => exact ⟨x, h, rfl, rfl, h1, HK.out, by omega, HB2⟩
        case measure => simp [intOf]; omega
    · have hd1 : decide ((x : Int) < (y : Int)) = false := by rw [decide_eq_false_iff_not]; omega
      have e1 : x = M := by omega
      have e2 : y = M := by omega
      subst e1
      subst e2
      by_cases hlt : y < L.length
      · obtain ⟨q, hp⟩ : ∃ p, L[y]? = some p := ⟨_, List.getElem?_eq_getElem hlt⟩
        rcases HPR.out with ⟨_, h0⟩ | ⟨b, off, cap', cur, hv, hbl, _, _, _, hcl⟩
        · rw [h0] at hlt; simp at hlt
        injection hv with hv1 hv2 hv3; clear hv2 hv3
        have hblt := (Array.getElem?_eq_some_iff.1 hbl).1
        have c0 : wr.cell? ⟨b, off + y, none⟩ = some (.pointer (some ⟨q, 0, none⟩)) := (HB.out.cell (p := ⟨b, _, none⟩) hblt).trans (hcl y _ hp)
        subst hv1
        have cq := (HCM.out q (List.mem_of_getElem? hp)).later (w' := wr) HB.out
        have ce := HCE.out.later (w' := wr) HB.out
        have H := hide (place1_any q e (c q) (c e) wr cq.2 ce.2)
        rw [HN.out] at H
        have k0 : (0 : Int) ≤ (y : Int) := by omega
        have k1 : (y : Int) < (L.length : Int) := by omega
        have hd2 : decide ((y : Int) < (L.length : Int)) = true := by rw [decide_eq_true_eq]; omega
        have hb := HF.out
        clear hcl hbl hblt cq ce
        cases F with
        | true =>
          obtain ⟨x', e3, e4⟩ := hasC_at HR.out hb
          rw [HM.out, hp] at e3
          obtain rfl := Option.some.inj e3
          rw [sgn_eq e4] at H
          clear e3 e4 hp hb
          go_wp2_with fail
          refine H.out.mono ?_
          rintro e w2 ⟨rfl, hb2⟩
          have HB2 := hide (HB.out.trans (hb2.mono HB.out.size))
          clear hb2 H HB
          go_wp2_with fail
          go_ret2
          exact ⟨rfl, HB2.out⟩
        | false =>
          have e3 := hasC_no HR.out hb (by rw [HM.out]; exact hp)
          rw [sgn_gt e3] at H
          clear e3 hp hb
          go_wp2_with fail
          refine H.out.mono ?_
          rintro e w2 ⟨rfl, hb2⟩
          have HB2 := hide (HB.out.trans (hb2.mono HB.out.size))
          clear hb2 H HB
          go_wp2_with fail
          go_ret2
          exact ⟨rfl, HB2.out⟩
      · have hf : hasC c n L = false := by
          cases hb : hasC c n L with
          | false => rfl
          | true =>
            obtain ⟨x', e3, _⟩ := hasC_at HR.out hb
            rw [HM.out] at e3
            exact absurd (List.getElem?_eq_some_iff.1 e3).1 hlt
        rw [HF.out] at hf
        subst hf
        have hd2 : decide ((y : Int) < (L.length : Int)) = false := by rw [decide_eq_false_iff_not]; omega
        go_wp2_with fail
        go_ret2
        exact ⟨rfl, HB.out⟩
set_option maxHeartbeats 1000000 in
theorem place_any (v : Value) (L : List Nat) (c : Nat → Int) (e : Nat) (w : World) (h : PR w v L) (hr : Sr c L) (hc : ∀ x ∈ L, Cm w c x) (he : Cm w c e) (h8 : L.length ≤ 4611686018427387903) :
    Calls Tryz.prog 50 #[v, .pointer (some ⟨e, 0, none⟩)] w fun x w' => x = .returned (.tuple #[.int .i64 (lo c (c e) L : Int), .bool (hasC c (c e) L)]) ∧ Below w.heap.size w w' := by
  have HS := hide (search_any v L c e w h hr hc he h8)
  obtain ⟨av, cap, rfl⟩ : ∃ a cap, v = .slice a L.length cap := by
    rcases h.get with ⟨rfl, rfl⟩ | ⟨g, off, cap, cur, rfl, _⟩
    · exact ⟨_, _, rfl⟩
    · exact ⟨_, _, rfl⟩
  generalize lo c (c e) L = M at *
  generalize hasC c (c e) L = F at *
  clear hc he hr
  go_enter Tryz.func50, Tryz.ntmps50
  go_wp2_with fail
  refine HS.out.mono ?_
  rintro e w1 ⟨rfl, hb⟩
  have HB := hide hb
  clear hb
  go_wp2_with fail
  go_ret2
  exact ⟨rfl, HB.out⟩
end Go.Proofs.YtknnojjfdfkdmaaGreatDoor
