/-
  My own text: a chain that is laid with its row; the document's Walk.
-/
import Derived.Test.YtechjcmolccdjaaHE1
namespace Go.Proofs.Ytechjcmolccdjaa
open Go.RowKit Go.Shelf

theorem LK.mono {L : List Ver} {k j : Nat} (h : LK L k) (hj : k ≤ j) : LK L j := ⟨h.ris, h.pos, h.max, Nat.le_trans h.len hj⟩
set_option maxRecDepth 100000 in
set_option maxHeartbeats 2000000 in
theorem laid_any (v : Value) (ps : List Ac) (w : World) (hv : RAc w v ps) (hlen : ps.length < 5864062014804) (hN : ∀ p ∈ ps, p.2.1 ≤ 9223372036854775807) :
    Calls Try.prog 4 #[v] w fun e w' => ∃ cb a cap, e = .returned (.tuple #[.pointer (some ⟨cb, 0, none⟩), .slice a (bld ps).length cap]) ∧ CR w cb ps.length (bld ps) (.slice a (bld ps).length cap) w' := by
  obtain ⟨pa, pcap, rfl, hpc⟩ := hv
  have HPC := hide hpc
  have HMX := hide hN
  have HLN := hide hlen
  have HNW := hide (new_any w)
  clear hpc hN hlen
  go_enter Try.func4, Try.ntmps4
  go_wp2_with fail
  refine HNW.out.mono ?_
  rintro e w1 ⟨rfl, hC, hb⟩
  have C1 : Hid (CR w w.heap.size 0 [] (.slice none 0 0) w1) := hide ⟨hC, OR.nil _ _ _ _, LK.nil, hb, Nat.le_refl _⟩
  clear hC hb HNW
  obtain ⟨cb, hcb⟩ : ∃ cb, cb = w.heap.size := ⟨_, rfl⟩
  rw [← hcb] at ⊢
  have C1' := C1.out
  rw [← hcb] at C1'
  have HCB := hide hcb
  clear hcb C1
  have C1 : Hid (CR w cb 0 [] (.slice none 0 0) w1) := hide (by have := C1'; rw [HCB.out] at this ⊢; exact this)
  clear C1'
  go_wp2_with fail
  go_loopw [5, 6] (fun r i wr => ∃ (k : Nat) (a : Option Addr) (cap : Nat), k ≤ ps.length ∧ i = .int .i64 (k : Int) ∧ r = .slice a (bld (ps.take k)).length cap ∧ Hid (CR w cb k (bld (ps.take k)) (.slice a (bld (ps.take k)).length cap) wr)) (fun _ i _ => ps.length - (intOf i).toNat)
  case atStart => exact ⟨0, none, 0, Nat.zero_le _, rfl, rfl, C1⟩
  case round =>
    clear C1
    obtain ⟨k, a, cap, hk, rfl, rfl, HC⟩ := hrel
    by_cases hlt : k < ps.length
    · obtain ⟨⟨pr, N, V⟩, hp⟩ : ∃ p, ps[k]? = some p := ⟨_, List.getElem?_eq_getElem hlt⟩
      obtain ⟨g, off, rfl, q0, q1, q2⟩ := HPC.out k _ hp
      have hd1 : decide ((k : Int) < (ps.length : Int)) = true := by rw [decide_eq_true_eq]; omega
      have k0 : (0 : Int) ≤ (k : Int) := by omega
      have k1 : (k : Int) < (ps.length : Int) := by omega
      have HB := hide HC.out.low
      have z0 : wr.cell? ⟨g, off + k * 3, none⟩ = some (.bool pr) := (HB.out.cell (World.block_lt_of_cell? _ _ q0)).trans q0
      have z1 : wr.cell? ⟨g, off + k * 3 + 1, none⟩ = some (.int .i64 N) := (HB.out.cell (World.block_lt_of_cell? _ _ q1)).trans q1
      have z2 : wr.cell? ⟨g, off + k * 3 + 2, none⟩ = some (.string ⟨V.toArray⟩) := (HB.out.cell (World.block_lt_of_cell? _ _ q2)).trans q2
      have HQ0 := hide q0
      have HQ1 := hide q1
      have HQ2 := hide q2
      dsimp only at HQ0 HQ1 HQ2
      have wk : wrap64 ((k : Int) + 1) = (k : Int) + 1 := by have := HLN.out; unfold wrap64; omega
      have HE : Hid (bld (ps.take (k + 1)) = doAc (pr, N, V) (bld (ps.take k))) := hide (by rw [List.take_add_one, hp]; exact bld_snoc _ _)
      have HK2 := hide (bld_LK ps HMX.out (k + 1) hlt)
      obtain ⟨L, hL⟩ : ∃ L, L = bld (ps.take k) := ⟨_, rfl⟩
      rw [← hL] at HC HE ⊢
      have HLL := hide hL
      obtain ⟨ln, hln⟩ : ∃ ln, ln = L.length := ⟨_, rfl⟩
      rw [← hln] at HC ⊢
      have HLNN := hide hln
      clear hp q0 q1 q2 hL hln
      go_wp2_with fail
      refine (refDone_any (pr, N, V) _ L w.heap.size k wr HC.out.row HC.out.lk (by have := HLN.out; omega) HC.out.low.size).mono ?_
      rintro e w2 ⟨a2, c2, rfl, ho2, hb2, _⟩
      have C2 := hide (HC.out.later hb2)
      have O2 := hide ho2
      obtain ⟨l2, hl2⟩ : ∃ l2, l2 = (doAc (pr, N, V) L).length := ⟨_, rfl⟩
      rw [← hl2] at O2 ⊢
      have HL2 := hide hl2
      have y0 : w2.cell? ⟨g, off + k * 3, none⟩ = some (.bool pr) := (C2.out.low.cell (World.block_lt_of_cell? _ _ HQ0.out)).trans HQ0.out
      have y1 : w2.cell? ⟨g, off + k * 3 + 1, none⟩ = some (.int .i64 N) := (C2.out.low.cell (World.block_lt_of_cell? _ _ HQ1.out)).trans HQ1.out
      have y2 : w2.cell? ⟨g, off + k * 3 + 2, none⟩ = some (.string ⟨V.toArray⟩) := (C2.out.low.cell (World.block_lt_of_cell? _ _ HQ2.out)).trans HQ2.out
      clear ho2 hb2 hl2 z0 z1 z2 HC
      go_wp2_with fail
      refine (act_any (pr, N, V) cb cb k L w2 C2.out.ch C2.out.lk (by have := HLN.out; omega)).mono ?_
      rintro e w3 ⟨⟨v3, rfl⟩, hc3, hf3⟩
      have C3 : Hid (CR w cb (k + 1) (bld (ps.take (k + 1))) (.slice a2 (bld (ps.take (k + 1))).length c2) w3) := hide (by
        rw [HE.out]
        refine ⟨hc3, ?_, ?_, C2.out.low.trans ((hf3.below C2.out.ch).mono C2.out.new), C2.out.new⟩
        · have := O2.out.fr hf3 C2.out.ch (by decide) (by decide)
          rw [HL2.out] at this
          exact this
        · rw [← HE.out]; exact HK2.out)
      have HL3 : Hid (l2 = (bld (ps.take (k + 1))).length) := hide (by rw [HE.out, HL2.out])
      clear hc3 hf3 y0 y1 y2 C2 O2
      go_wp2_with fail
      go_roundw
      case rel => exact ⟨k + 1, a2, c2, by omega, by go_num, by rw [HL3.out], C3⟩
      case measure => rw [wk]; simp [intOf]; omega
    · have e : k = ps.length := by omega
      subst e
      have HC' := HC.out
      rw [List.take_length] at HC' ⊢
      have d9 : decide ((ps.length : Int) < (ps.length : Int)) = false := decide_eq_false (by omega)
      obtain ⟨ln, hln⟩ : ∃ ln, ln = (bld ps).length := ⟨_, rfl⟩
      rw [← hln] at HC' ⊢
      have HLNN := hide hln
      have HC2 := hide HC'
      clear hln HC' HC
      go_wp2_with fail
      go_ret2
      exact ⟨cb, a, cap, by rw [← HLNN.out]; rfl, by rw [← HLNN.out]; exact HC2.out⟩
/-- The versions behind k acts. -/
def stA (acts : List Ac) (L : List Ver) (k : Nat) : List Ver := (acts.take k).foldl (fun L a => doAc a L) L
theorem stA_zero (acts : List Ac) (L : List Ver) : stA acts L 0 = L := by unfold stA; rw [List.take_zero]; rfl
theorem stA_succ {acts : List Ac} {L : List Ver} {k : Nat} {a : Ac} (h : acts[k]? = some a) : stA acts L (k + 1) = doAc a (stA acts L k) := by
  unfold stA; rw [List.take_add_one, h, List.foldl_append]; rfl
theorem stA_end {acts : List Ac} {L : List Ver} {k : Nat} (h : acts.length ≤ k) : stA acts L (k + 1) = stA acts L k := by
  unfold stA; rw [List.take_of_length_le h, List.take_of_length_le (by omega)]
theorem stA_LKm {acts : List Ac} {L : List Ver} {j : Nat} (h : LK L j) (hN : ∀ a ∈ acts, a.2.1 ≤ 9223372036854775807) : ∀ k, LK (stA acts L k) (j + min k acts.length)
  | 0 => by rw [stA_zero, Nat.zero_min]; exact h
  | k + 1 => by
    have ih := stA_LKm h hN k
    by_cases hk : k < acts.length
    · obtain ⟨a, ha⟩ : ∃ a, acts[k]? = some a := ⟨_, List.getElem?_eq_getElem hk⟩
      rw [stA_succ ha]
      exact (ih.act a (hN a (List.mem_of_getElem? ha))).mono (by omega)
    · rw [stA_end (by omega)]
      exact ih.mono (by omega)
theorem stA_LK {acts : List Ac} {L : List Ver} {j : Nat} (h : LK L j) (hN : ∀ a ∈ acts, a.2.1 ≤ 9223372036854775807) (k : Nat) : LK (stA acts L k) (j + acts.length) := (stA_LKm h hN k).mono (by omega)
/-- What a walk has given. -/
structure WS (acts : List Ac) (L : List Ver) (stop : Int) (U : List Ver) : Prop where
  next : ∀ (i : Nat) (p : Ver), U[i]? = some p → nx (lastN (U.take i)) (stA acts L i) = some p
  go : ∀ i : Nat, 1 ≤ i → i < U.length → (i : Int) ≠ stop
  cnt : acts.length ≤ U.length → U.length - acts.length ≤ ab (lastN U) (stA acts L U.length)
theorem WS.nil (acts : List Ac) (L : List Ver) (stop : Int) : WS acts L stop [] := ⟨fun i p h => by simp at h, fun i h1 h2 => by simp at h2, fun _ => by simp⟩
theorem WS.push {acts : List Ac} {L : List Ver} {stop : Int} {U : List Ver} {p : Ver} (h : WS acts L stop U) (hr : Ris (stA acts L U.length)) (hp : nx (lastN U) (stA acts L U.length) = some p) (hs : 1 ≤ U.length → (U.length : Int) ≠ stop) : WS acts L stop (U ++ [p]) := by
  refine ⟨fun i q hq => ?_, fun i h1 h2 => ?_, fun hc => ?_⟩
  · by_cases hi : i < U.length
    · rw [List.getElem?_append_left hi] at hq
      rw [List.take_append_of_le_length (Nat.le_of_lt hi)]
      exact h.next i q hq
    · have hlt := (List.getElem?_eq_some_iff.1 hq).1
      have e : i = U.length := by simp at hlt; omega
      subst e
      rw [List.getElem?_append_right (Nat.le_refl _), Nat.sub_self] at hq
      cases hq
      rw [List.take_append_of_le_length (Nat.le_refl _), List.take_length]
      exact hp
  · simp at h2
    by_cases hi : i < U.length
    · exact h.go i h1 hi
    · have e : i = U.length := by omega
      subst e; exact hs h1
  · rw [List.length_append] at hc ⊢
    simp only [List.length_cons, List.length_nil, Nat.zero_add] at hc ⊢
    by_cases hk : acts.length ≤ U.length
    · have h0 := h.cnt hk
      rw [stA_end hk, lastN_snoc, ab_self _ _ _ hr hp]
      omega
    · omega
theorem WS.room {acts : List Ac} {L : List Ver} {stop : Int} {U : List Ver} (h : WS acts L stop U) : U.length ≤ (stA acts L U.length).length + acts.length := by
  by_cases hk : acts.length ≤ U.length
  · have h0 := h.cnt hk
    have h1 := ab_le (lastN U) (stA acts L U.length)
    omega
  · omega
/-- Where a walk ends. -/
def WEnd (acts : List Ac) (L : List Ver) (stop : Int) (U : List Ver) : Prop := nx (lastN U) (stA acts L U.length) = none ∨ (1 ≤ U.length ∧ (U.length : Int) = stop)
end Go.Proofs.Ytechjcmolccdjaa
