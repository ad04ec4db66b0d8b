/-
  My own text: SK5, SK6 in one.
-/
import Derived.Test.YtehacdijleommaaGreatDoorSK4
namespace Go.Proofs.YtehacdijleommaaGreatDoor
open Go.RowKit Go.Sort Go.Lib Go.Shelf

/-- All keys of the first k shards. -/
def allK (m : Nat → Nat × List (Ky × Nat)) (k : Nat) : List Ky := (List.range k).flatMap fun i => (m i).2.map (·.1)
theorem allK_succ (m : Nat → Nat × List (Ky × Nat)) (k : Nat) : allK m (k + 1) = allK m k ++ (m k).2.map (·.1) := by
  unfold allK; rw [List.range_succ, List.flatMap_append]; simp
theorem allK_len (m : Nat → Nat × List (Ky × Nat)) : ∀ k, (allK m k).length = ((List.range k).map fun i => (m i).2.length).sum
  | 0 => rfl
  | k + 1 => by rw [allK_succ, List.length_append, allK_len m k, List.range_succ, List.map_append, List.sum_append]; simp
theorem allK_le (m : Nat → Nat × List (Ky × Nat)) {j k : Nat} (h : j ≤ k) : (allK m j).length ≤ (allK m k).length := by
  induction k with
  | zero => obtain rfl : j = 0 := by omega
            exact Nat.le_refl _
  | succ k ih =>
    by_cases e : j = k + 1
    · rw [e]; exact Nat.le_refl _
    · rw [allK_succ, List.length_append]; have := ih (by omega); omega
/-- The keys of a store, rising. -/
structure KL (X : Sx) (L : List Ky) : Prop where
  srt : SrtK L
  nd : L.Nodup
  mem : ∀ k, k ∈ L ↔ X.K k ≠ []
theorem mem_allK {B : Nat} {W : World} {sb n : Nat} {X : Sx} {kk : Nat} {F : Nat → Prop} {m : Nat → Nat × List (Ky × Nat)} {g rb : Nat} {v : Value} (h : SW B W sb n X kk F m g rb v) (k : Ky) : k ∈ allK m n ↔ X.K k ≠ [] := by
  have hi := si_lt k h.sv.st.lo h.sv.st.hi
  constructor
  · intro hm
    obtain ⟨i, hi', hk⟩ := List.mem_flatMap.1 hm
    have hin := List.mem_range.1 hi'
    obtain ⟨p, hp, rfl⟩ := List.mem_map.1 hk
    have e := h.sh i hin p hp
    obtain ⟨es, clock, hb, he, h1, h2, _⟩ := h.sv.st.mb i hin
    have := lk_mem _ h2 (k := p.1) (c := p.2) hp
    exact h.nn p.1 p.2 (by rw [e]; exact this)
  · intro hne
    cases hc : lk (m (si k n)).2 k with
    | none => exact absurd (h.sv.no k hc) hne
    | some c =>
      refine List.mem_flatMap.2 ⟨si k n, List.mem_range.2 hi, ?_⟩
      unfold lk at hc
      obtain ⟨p, hp, _⟩ := Option.map_eq_some_iff.1 hc
      have h1 := List.find?_some hp
      have h2 := List.mem_of_find?_eq_some hp
      exact List.mem_map.2 ⟨p, h2, by simpa using h1⟩
theorem nd_allK {B : Nat} {W : World} {sb n : Nat} {X : Sx} {kk : Nat} {F : Nat → Prop} {m : Nat → Nat × List (Ky × Nat)} {g rb : Nat} {v : Value} (h : SW B W sb n X kk F m g rb v) : ∀ k, k ≤ n → (allK m k).Nodup
  | 0, _ => List.nodup_nil
  | k + 1, hk => by
    rw [allK_succ, List.nodup_append]
    obtain ⟨es, clock, hb, he, h1, h2, _⟩ := h.sv.st.mb k (by omega)
    refine ⟨nd_allK h k (by omega), h2, ?_⟩
    intro x hx y hy e
    subst e
    obtain ⟨i, hi, hxi⟩ := List.mem_flatMap.1 hx
    have hik := List.mem_range.1 hi
    obtain ⟨p, hp, e1⟩ := List.mem_map.1 hxi
    obtain ⟨p', hp', e2⟩ := List.mem_map.1 hy
    have a1 := h.sh i (by omega) p hp
    have a2 := h.sh k (by omega) p' hp'
    rw [e1] at a1
    rw [e2] at a2
    omega
theorem OR.reB {W : World} {B C k n : Nat} {e : TypeId} {v : Value} {xs : List Value} (h : OR W B e k v n xs) (hc : ∀ g, v.ownBlock = some g → C ≤ g) : OR W C e k v n xs := by
  refine ⟨h.1, ?_⟩
  rcases h.2 with h0 | ⟨g, off, cap, cur, rfl, h1, h2⟩
  · exact .inl h0
  · exact .inr ⟨g, off, cap, cur, rfl, hc g rfl, h2⟩
set_option maxRecDepth 100000 in
set_option maxHeartbeats 1000000 in
theorem keysZ_any (B sb n kk : Nat) (X : Sx) (F : Nat → Prop) (w : World) (h : SO B w sb n X kk F) (hl : kk ≤ 5864062014803) :
    Calls Tryz.prog 8 #[.pointer (some ⟨sb, 0, none⟩)] w fun e w' => ∃ v L, e = .returned v ∧ KL X L ∧ OR w' w.heap.size 29 2 v L.length (kc L) ∧ Z0 v ∧ Below w.heap.size w w' := by
  obtain ⟨m, g, rb, v, h⟩ := h
  have c0 : w.cell? ⟨sb, 0, none⟩ = some (.slice (some ⟨g, 0, none⟩) n n) := by rw [cell_of_row _ _ 0 _ _ _ h.rp.hdr]; rfl
  have hn64 := h.sv.st.hi
  obtain ⟨arr, q2, q3⟩ := h.arr
  have HG : Hid (∀ i, i < n → w.cell? ⟨g, i, none⟩ = some (.map (some (m i).1))) := hide (fun i hi => by rw [cell_of_row _ _ _ _ _ _ q2]; exact q3 i hi)
  have HGL := hide (Array.getElem?_eq_some_iff.1 q2).1
  have HM := hide (fun i (hi : i < n) => h.sv.st.mb i hi)
  have HT : Hid ((allK m n).length ≤ kk) := hide (by rw [allK_len]; exact h.tot)
  have HND := hide (nd_allK h n (Nat.le_refl _))
  have HME := hide (fun k => mem_allK h k)
  clear h q2 q3
  go_enter Tryz.func8, Tryz.ntmps8
  go_wp2_with fail
  go_loopw [3, 11] (fun u i wr => ∃ (k : Nat) (xs : List Ky), k ≤ n ∧ i = .int .i64 (k : Int) ∧ Hid (OR wr w.heap.size 29 2 u xs.length (kc xs)) ∧ Hid (xs.Perm (allK m k)) ∧ Hid (Below w.heap.size w wr) ∧ Hid (Z0 u)) (fun _ i _ => n - (intOf i).toNat)
  case atStart => exact ⟨0, [], Nat.zero_le _, rfl, hide (OR.nil _ _ _ _), hide (List.Perm.refl _), hide (Below.refl _ _), hide Z0.nil⟩
  case round =>
    obtain ⟨k, xs, hk, rfl, HO, HP, HB, HZ⟩ := hrel
    by_cases hlt : k < n
    · have hd1 : decide ((k : Int) < (n : Int)) = true := by rw [decide_eq_true_eq]; omega
      have k0 : (0 : Int) ≤ (k : Int) := by omega
      have k1 : (k : Int) < (n : Int) := by omega
      have wk : wrap64 ((k : Int) + 1) = (k : Int) + 1 := by unfold wrap64; omega
      have c1 : wr.cell? ⟨g, k, none⟩ = some (.map (some (m k).1)) := (HB.out.cell (p := ⟨g, k, none⟩) HGL.out).trans (HG.out k hlt)
      obtain ⟨W1, hW1⟩ : ∃ W1, wr.alloc (.cells #[.map (some (m k).1)] 47) = W1 := ⟨_, rfl⟩
      have hb1 : Below wr.heap.size wr W1 := by rw [← hW1]; exact (Below.refl _ _).alloc (Nat.le_refl _) _
      have hx1 : Box W1 wr.heap.size 47 (.map (some (m k).1)) := by rw [← hW1]; exact Box.new wr _ _
      have HB1 := hide (HB.out.trans (hb1.mono HB.out.size))
      have HO1 := hide (HO.out.later hb1)
      have HLN : Hid (xs.length + (m k).2.length ≤ 5864062014804) := hide (by
        have h1 := HP.out.length_eq
        have h2 := allK_le m (j := k + 1) (k := n) (by omega)
        rw [allK_succ, List.length_append, List.length_map] at h2
        have := HT.out
        omega)
      have HAP := hide (appSeq_any w.heap.size wr.heap.size (m k).1 u3 (m k).2 xs W1 HO1.out ((HM.out k hlt).later HB1.out) hx1 HLN.out HB1.out.size)
      have HKA := hide (keys_any (m k).1 wr)
      rw [hW1] at HKA
      clear hb1 hx1
      go_wp2_with fail
      refine HKA.out.mono ?_
      rintro e w2 ⟨rfl, rfl⟩
      clear HKA
      go_wp2_with fail
      refine HAP.out.mono ?_
      rintro e w5 ⟨v5, s5, rfl, hp5, ho5, hn5, hv5, hz5⟩
      have HZ5 := hide (hz5 HZ.out)
      have HO5 : Hid (OR w5 w.heap.size 29 2 v5 (xs ++ s5.map (·.1)).length (kc (xs ++ s5.map (·.1)))) := hide (by rw [List.length_append, List.length_map]; exact ho5)
      have HP5 : Hid ((xs ++ s5.map (·.1)).Perm (allK m (k + 1))) := hide (by rw [allK_succ]; exact HP.out.append (hp5.map _))
      have HB5 : Hid (RowKit.Below w.heap.size w w5) := hide (HB1.out.trans ⟨hn5.os, hn5.tape, hn5.output, hn5.size, fun y hy => hn5.block y (by have := HB1.out.size; omega) (fun e => by have := (HO1.out.lt e).1; omega)⟩)
      clear hp5 ho5 hn5 hv5 hz5 HAP HO1 HO HP HB HB1 HZ
      go_wp2_with fail
      go_roundw
      case rel => exact ⟨k + 1, _, by omega, by go_num, HO5, HP5, HB5, HZ5⟩
      case measure => simp [intOf]; omega
    · have e : k = n := by omega
      subst e
      by_cases h0 : xs = []
      · subst h0
        obtain ⟨a0, c0', rfl⟩ : ∃ a0 c0', u3 = .slice a0 0 c0' := by
          rcases HO.out.2 with ⟨e, _⟩ | ⟨g', off, cap, cur, e, _⟩
          · exact ⟨_, _, e⟩
          · exact ⟨_, _, e⟩
        have HKL : Hid (KL X []) := hide (by
          have hpp := HP.out
          exact ⟨List.Pairwise.nil, List.nodup_nil, fun j => by rw [hpp.mem_iff]; exact HME.out j⟩)
        have HSO := hide (fun fv => sortK0_any a0 c0' fv wr)
        go_wp2_with fail
        refine (HSO.out _).mono ?_
        rintro e w6 ⟨rfl, rfl⟩
        go_wp2_with fail
        go_ret
        exact ⟨_, [], rfl, HKL.out, HO.out, HZ.out, HB.out⟩
      · have hlen := List.length_pos_iff.2 h0
        have HSO := hide (sortK_any _ w.heap.size xs wr HO.out hlen (by have := HP.out.length_eq; have := HT.out; omega))
        go_wp2_with fail
        refine HSO.out.mono ?_
        rintro e w6 ⟨L', rfl, hp6, hs6, ho6, hn6⟩
        have HKL : Hid (KL X L') := hide (by
          have hpp := hp6.trans HP.out
          exact ⟨hs6, hpp.nodup_iff.2 HND.out, fun j => by rw [hpp.mem_iff]; exact HME.out j⟩)
        have HO6 : Hid (OR w6 w.heap.size 29 2 u3 L'.length (kc L')) := hide (by rw [hp6.length_eq]; exact ho6)
        have HB6 : Hid (RowKit.Below w.heap.size w w6) := hide (HB.out.trans ⟨hn6.os, hn6.tape, hn6.output, hn6.size, fun y hy => hn6.block y (by have := HB.out.size; omega) (fun e => by have := (HO.out.lt e).1; omega)⟩)
        clear hp6 hs6 ho6 hn6 HSO
        go_wp2_with fail
        go_ret
        exact ⟨u3, L', rfl, HKL.out, HO6.out, HZ.out, HB6.out⟩
theorem keysO_any (B sb n kk : Nat) (X : Sx) (F : Nat → Prop) (w : World) (h : SO B w sb n X kk F) (hl : kk ≤ 5864062014803) :
    Calls Tryz.prog 8 #[.pointer (some ⟨sb, 0, none⟩)] w fun e w' => ∃ v L, e = .returned v ∧ KL X L ∧ OR w' w.heap.size 29 2 v L.length (kc L) ∧ Below w.heap.size w w' :=
  (keysZ_any B sb n kk X F w h hl).mono (fun _ _ ⟨v, L, a, b, c, _, d⟩ => ⟨v, L, a, b, c, d⟩)
end Go.Proofs.YtehacdijleommaaGreatDoor
namespace Go.Proofs.YtehacdijleommaaGreatDoor
open Go.RowKit Go.Sort Go.Lib Go.Shelf

theorem IS.sub {W : World} {r b : Nat} {l s : List (Ky × Nat)} (h : IS W r b l s) : ∃ rest, (s ++ rest).Perm l := by
  obtain ⟨es, clock, since, seen, c0, _, he, _, _, _, _, _, hp⟩ := h
  refine ⟨((es.toList.filter fun x => !seen.contains x.born).map fun e => (e.key, e.val)).map unE, ?_⟩
  have h1 := (List.filter_append_perm (fun x : MapEntry => seen.contains x.born) es.toList).map (fun e => (e.key, e.val))
  rw [List.map_append, he] at h1
  have h2 := h1.map unE
  rw [List.map_append, unE_map] at h2
  have h3 := hp.map unE
  rw [unE_map] at h3
  exact (h3.symm.append_right _).trans h2
def lenS (X : Sx) (L : List Ky) : Nat := (L.map fun k => (X.K k).length).sum
theorem lenS_app (X : Sx) (a b : List Ky) : lenS X (a ++ b) = lenS X a + lenS X b := by unfold lenS; rw [List.map_append, List.sum_append]
theorem lenS_perm (X : Sx) {a b : List Ky} (h : a.Perm b) : lenS X a = lenS X b := (h.map _).sum_nat
theorem lenS_le (X : Sx) (m : Nat → Nat × List (Ky × Nat)) {j k : Nat} (h : j ≤ k) : lenS X (allK m j) ≤ lenS X (allK m k) := by
  induction k with
  | zero => obtain rfl : j = 0 := by omega
            exact Nat.le_refl _
  | succ k ih =>
    by_cases e : j = k + 1
    · rw [e]; exact Nat.le_refl _
    · rw [allK_succ, lenS_app]; have := ih (by omega); omega
theorem perm_nd {a : List Ky} : ∀ {b : List Ky}, a.Nodup → b.Nodup → (∀ k, k ∈ a ↔ k ∈ b) → a.Perm b := by
  intro b ha hb h
  exact (List.perm_ext_iff_of_nodup ha hb).2 h
set_option maxRecDepth 100000 in
set_option maxHeartbeats 1000000 in
theorem verE_any (B sb n kk : Nat) (X : Sx) (F : Nat → Prop) (L : List Ky) (w : World) (h : SO B w sb n X kk F) (hL : KL X L) (hT : lenS X L ≤ 4611686018427387904) :
    Calls Tryz.prog 13 #[.pointer (some ⟨sb, 0, none⟩)] w fun e w' => e = .returned (.int .i64 (lenS X L : Int)) ∧ RowKit.Below w.heap.size w w' := by
  obtain ⟨m, g, rb, v, h⟩ := h
  have hperm : L.Perm (allK m n) := perm_nd hL.nd (nd_allK h n (Nat.le_refl _)) (fun k => by rw [hL.mem, mem_allK h])
  have HTT : Hid (lenS X L = lenS X (allK m n)) := hide (lenS_perm X hperm)
  rw [HTT.out] at hT ⊢
  have HTL := hide hT
  clear hperm hT hL
  have c0 : w.cell? ⟨sb, 0, none⟩ = some (.slice (some ⟨g, 0, none⟩) n n) := by rw [cell_of_row _ _ 0 _ _ _ h.rp.hdr]; rfl
  have hn64 := h.sv.st.hi
  obtain ⟨arr, q2, q3⟩ := h.arr
  have HG : Hid (∀ i, i < n → w.cell? ⟨g, i, none⟩ = some (.map (some (m i).1))) := hide (fun i hi => by rw [cell_of_row _ _ _ _ _ _ q2]; exact q3 i hi)
  have HGL := hide (Array.getElem?_eq_some_iff.1 q2).1
  have HM := hide (fun i (hi : i < n) => h.sv.st.mb i hi)
  have HC : Hid (∀ i, i < n → ∀ p ∈ (m i).2, CH w p.2 p.2 (X.K p.1)) := hide (fun i hi p hp => by
    have e := h.sh i hi p hp
    obtain ⟨es, clock, hb, he, h1, h2, _⟩ := h.sv.st.mb i hi
    have := lk_mem _ h2 (k := p.1) (c := p.2) hp
    exact h.sv.ch p.1 p.2 (by rw [e]; exact this))
  clear h q2 q3
  go_enter Tryz.func13, Tryz.ntmps13
  go_wp2_with fail
  go_loopw [3, 13] (fun s i wr => ∃ (k : Nat), k ≤ n ∧ i = .int .i64 (k : Int) ∧ s = .int .i64 (lenS X (allK m k) : Int) ∧ Hid (RowKit.Below w.heap.size w wr)) (fun _ i _ => n - (intOf i).toNat)
  case atStart => exact ⟨0, Nat.zero_le _, rfl, rfl, hide (RowKit.Below.refl _ _)⟩
  case round =>
    obtain ⟨k, hk, rfl, rfl, HB⟩ := hrel
    by_cases hlt : k < n
    · have hd1 : decide ((k : Int) < (n : Int)) = true := by rw [decide_eq_true_eq]; omega
      have k0 : (0 : Int) ≤ (k : Int) := by omega
      have k1 : (k : Int) < (n : Int) := by omega
      have wk : wrap64 ((k : Int) + 1) = (k : Int) + 1 := by unfold wrap64; omega
      have c1 : wr.cell? ⟨g, k, none⟩ = some (.map (some (m k).1)) := (HB.out.cell HGL.out).trans (HG.out k hlt)
      obtain ⟨W2, r2, i2, b2⟩ := IS.begin ((HM.out k hlt).later HB.out)
      have HI2 := hide i2
      have HB2 := hide (HB.out.trans (b2.mono HB.out.size))
      have HS2 := hide HB.out.size
      have HCk := hide (HC.out k hlt)
      have HTK : Hid (lenS X (allK m k) + lenS X ((m k).2.map (·.1)) ≤ 4611686018427387904) := hide (by
        have h1 := lenS_le X m (j := k + 1) (k := n) (by omega)
        rw [allK_succ, lenS_app] at h1
        have := HTL.out
        omega)
      have HSC : Hid (lenS X (allK m (k + 1)) = lenS X (allK m k) + lenS X ((m k).2.map (·.1))) := hide (by rw [allK_succ, lenS_app])
      clear i2 b2
      go_wp2_with fail
      obtain ⟨W1, rfl⟩ : ∃ W1, W1 = wr := ⟨wr, rfl⟩
      generalize (m k).1 = mk at *
      generalize (m k).2 = lk2 at *
      obtain ⟨r, hr⟩ : ∃ r, r = W1.heap.size := ⟨_, rfl⟩
      rw [← hr] at HI2 HS2 ⊢
      clear hr r2 c1 HB
      generalize lenS X (allK m k) = base at *
      go_loopw [3] (fun s wr => ∃ (q : List (Ky × Nat)), s = .int .i64 ((base + lenS X (q.map (·.1)) : Nat) : Int) ∧ Hid (IS wr r mk lk2 q) ∧ Hid (RowKit.Below w.heap.size w wr)) (fun _ wr => wr.rangeLeft mk r)
      case atStart => exact ⟨[], rfl, HI2, HB2⟩
      case round =>
        clear HI2 HB2
        obtain ⟨q, rfl, HI, HB⟩ := hrel
        rcases HI.out.next 0 with ⟨hpm, hrun⟩ | ⟨p, hp, W3, hrun, i3, l3, he3, g3, s3, hsl⟩
        · have HE : Hid (base + lenS X (q.map (·.1)) = lenS X (allK m (k + 1))) := hide (by rw [HSC.out, lenS_perm X (hpm.map (·.1))])
          clear hpm
          go_wp2_with fail
          go_roundw
          case rel => exact ⟨k + 1, by omega, by go_num, by rw [HE.out], HB⟩
          case measure => simp [intOf]; omega
        · have HI3 := hide i3
          have HL3 := hide l3
          have HB3 : Hid (RowKit.Below w.heap.size w W3) := hide (by
            have hb := HB.out
            exact ⟨g3.os.trans hb.os, g3.tape.trans hb.tape, g3.output.trans hb.output, Nat.le_trans hb.size g3.size, fun y hy => (g3.block y (by have := hb.size; omega) (fun e => by have := Option.some.inj e; have := HS2.out; omega)).trans (hb.block y hy)⟩)
          have HCL := hide ((HCk.out p hp).later HB3.out)
          have hln := hide (len_any p.2 p.2 (X.K p.1) W3 HCL.out)
          have hbd : base + lenS X (q.map (·.1)) + (X.K p.1).length ≤ 4611686018427387904 := by
            obtain ⟨rest, hr⟩ := HI3.out.sub
            have h1 := lenS_perm X (hr.map (·.1))
            rw [List.map_append, List.map_append, lenS_app, lenS_app] at h1
            have h2 : lenS X ([p].map (·.1)) = (X.K p.1).length := by simp [lenS]
            have := HTK.out
            omega
          have hsn : lenS X ((q ++ [p]).map (·.1)) = lenS X (q.map (·.1)) + (X.K p.1).length := by rw [List.map_append, lenS_app]; simp [lenS]
          have HSN := hide hsn
          obtain ⟨acc, hacc⟩ : ∃ acc, acc = base + lenS X (q.map (·.1)) := ⟨_, rfl⟩
          rw [← hacc] at hbd ⊢
          have HAC := hide hacc
          obtain ⟨ln, hlnn⟩ : ∃ ln, ln = (X.K p.1).length := ⟨_, rfl⟩
          rw [← hlnn] at hln hbd
          have HLE := hide hlnn
          have wa : wrap64 ((acc : Int) + (ln : Int)) = (acc : Int) + (ln : Int) := by unfold wrap64; omega
          clear hacc hlnn hsn
          have e1 : kv p.1 = .agg #[.int .i64 p.1.1, .int .i64 p.1.2] := rfl
          have e2 : cp p.2 = .pointer (some ⟨p.2, 0, none⟩) := rfl
          rw [e1, e2] at hrun he3
          clear i3 l3 g3 s3 hsl e1 e2
          go_wp2_with fail
          refine hln.out.mono ?_
          rintro e w4 ⟨rfl, hb4⟩
          have a4 := HI3.out.later hb4
          have HI4 := hide a4.1
          have HL4 : Hid (w4.rangeLeft mk r < wr.rangeLeft mk r) := hide (by rw [a4.2]; exact HL3.out)
          have HB4 := hide (HB3.out.trans (hb4.mono HB3.out.size))
          clear a4 hb4 hln HI3 HL3 HB3 HCL
          go_wp2_with fail
          go_roundw
          case rel => exact ⟨_, by rw [HSN.out, ← HLE.out, ← Nat.add_assoc, ← HAC.out]; exact congrArg (Value.int .i64) (by omega), HI4, HB4⟩
          case measure => exact HL4.out
    · have e : k = n := by omega
      subst e
      go_wp2_with fail
      go_ret
      exact ⟨rfl, HB.out⟩
end Go.Proofs.YtehacdijleommaaGreatDoor
