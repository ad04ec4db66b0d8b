/-
  My own text: the law PartialOrders.
-/
import Derived.Test.YtmojckejjjlkjaaDoorYB
namespace Go.Proofs.YtmojckejjjlkjaaDoor
open Go.RowKit

/-- New, whatever the numbers. -/
def bO (Q A L K : Int) : Bool := decide (badO Q A L K)
def pO (b : Bool) (g : Nat) : Option Addr := if b then none else some ⟨g, 0, none⟩
theorem new_any (Q A L K : Int) (w : World) :
    Calls Tryd.prog 15 #[.int .i64 Q, .int .i64 A, .int .i64 L, .int .i64 K] w fun e w' => ∃ g, e = .returned (.tuple #[Value.pointer (pO (bO Q A L K) g), errV (if bO Q A L K then 1 else 0)]) ∧ w.heap.size ≤ g ∧ (OC (bO Q A L K) g ⟨Q, A, L, K, 0, []⟩ (.slice none 0 0)).P w' ∧ Below w.heap.size w w' := by
  by_cases b : badO Q A L K
  · refine (new_bad Q A L K w b).mono ?_
    rintro e w' ⟨rfl, hb⟩
    rw [show bO Q A L K = true from decide_eq_true b]
    exact ⟨w.heap.size, rfl, Nat.le_refl _, (fun h => by cases h), hb⟩
  · refine (new_ok Q A L K w b).mono ?_
    rintro e w' ⟨g, rfl, hg, ho, hb⟩
    rw [show bO Q A L K = false from decide_eq_false b]
    exact ⟨g, rfl, hg, fun _ => ho, hb⟩
theorem rnew_any (Q A L K : Int) (w : World) :
    Calls Tryd.prog 16 #[.int .i64 Q, .int .i64 A, .int .i64 L, .int .i64 K] w fun e w' => ∃ g, e = .returned (.tuple #[Value.pointer (pO (bO Q A L K) g), .int .i64 (if bO Q A L K then 1 else 0)]) ∧ w.heap.size ≤ g ∧ (RC6 (bO Q A L K) g ⟨Q, A, L, K, 0, []⟩ (.slice none 0 0)).P w' ∧ Below w.heap.size w w' := by
  by_cases b : badO Q A L K
  · refine (rnew_bad Q A L K w b).mono ?_
    rintro e w' ⟨rfl, hb⟩
    rw [show bO Q A L K = true from decide_eq_true b]
    exact ⟨w.heap.size, rfl, Nat.le_refl _, (fun h => by cases h), hb⟩
  · refine (rnew_ok Q A L K w b).mono ?_
    rintro e w' ⟨g, rfl, hg, ho, hb⟩
    rw [show bO Q A L K = false from decide_eq_false b]
    exact ⟨g, rfl, hg, fun _ => ho, hb⟩
theorem Sep.newO {w0 w w' : World} {cs : List Cp} {b : Bool} {g : Nat} {Q A L K : Int} (h : Sep w0 w cs) (hb : Below w.heap.size w w') (hp : (OC b g ⟨Q, A, L, K, 0, []⟩ (.slice none 0 0)).P w') (hg : w.heap.size ≤ g) : Sep w0 w' (cs ++ [OC b g ⟨Q, A, L, K, 0, []⟩ (.slice none 0 0)]) :=
  h.new hb (OC.ok _ _ _ _) hp (fun x hx => by
    rcases hx.2 with q | q
    · omega
    · cases q)
theorem Sep.newR {w0 w w' : World} {cs : List Cp} {b : Bool} {g : Nat} {Q A L K : Int} (h : Sep w0 w cs) (hb : Below w.heap.size w w') (hp : (RC6 b g ⟨Q, A, L, K, 0, []⟩ (.slice none 0 0)).P w') (hg : w.heap.size ≤ g) : Sep w0 w' (cs ++ [RC6 b g ⟨Q, A, L, K, 0, []⟩ (.slice none 0 0)]) :=
  h.new hb (RC6.ok _ _ _ _) hp (fun x hx => by
    rcases hx.2 with q | q
    · omega
    · cases q)
theorem eqNilO (b : Bool) (g : Nat) (W : World) : (binOp .eql 33 (.pointer (pO b g)) (.pointer none)).run Tryd.prog W = .ok (.bool b) W := by
  cases b <;> kernel_rfl
theorem pO_true (g : Nat) : pO true g = none := rfl
theorem pO_false (g : Nat) : pO false g = some ⟨g, 0, none⟩ := rfl
theorem egNilO (b : Bool) (g i : Nat) (W : World) : (eqGuard .eql 33 (.tmp i) (.const (.pointer none)) (.pointer (pO b g)) (.pointer none)).run Tryd.prog W = .ok () W := by
  cases b <;> kernel_rfl
set_option maxRecDepth 100000 in
set_option maxHeartbeats 8000000 in
theorem orders_law (a0 a1 a2 a3 b0 b1 b2 b3 : Int) (sv : Value) (S : List Cq) (w : World) (hE : ErrType w) (hS : RC w sv S) (hl : S.length ≤ 4398046510976) (hk : ∀ p ∈ S, I6 p.on ∧ I6 p.hv ∧ I6 p.ca)
    (ha : I6 a0 ∧ I6 a1 ∧ I6 a2 ∧ I6 a3) (hb : I6 b0 ∧ I6 b1 ∧ I6 b2 ∧ I6 b3) :
    Calls Tryd.prog 5 #[.agg #[.int .i64 a0, .int .i64 a1, .int .i64 a2, .int .i64 a3], .agg #[.int .i64 b0, .int .i64 b1, .int .i64 b2, .int .i64 b3], sv] w fun e w' => e = .returned (.bool true) ∧ Below w.heap.size w w' := by
  obtain ⟨sa, sc, rfl, hsc⟩ := hS
  have HS := hide hsc
  have HL := hide hl
  have HK := hide hk
  have HAB := hide (And.intro ha hb)
  have HE := hide hE
  clear hsc hl hk ha hb hE
  obtain ⟨W1, hW1⟩ : ∃ W1, (w.alloc (.cells #[.int .i64 a0, .int .i64 a1, .int .i64 a2, .int .i64 a3] 22)).alloc (.cells #[.int .i64 b0, .int .i64 b1, .int .i64 b2, .int .i64 b3] 22) = W1 := ⟨_, rfl⟩
  have hb1 : Below w.heap.size w W1 := by rw [← hW1]; exact ((Below.refl _ _).alloc (Nat.le_refl _) _).alloc (by simp) _
  have hA1 : W1.heap[w.heap.size]? = some (.cells #[.int .i64 a0, .int .i64 a1, .int .i64 a2, .int .i64 a3] 22 (0, 0)) := by rw [← hW1]; exact alloc_block (alloc_new _ _)
  have hA2 : W1.heap[w.heap.size + 1]? = some (.cells #[.int .i64 b0, .int .i64 b1, .int .i64 b2, .int .i64 b3] 22 (0, 0)) := by rw [← hW1]; have := alloc_new (w.alloc (.cells #[.int .i64 a0, .int .i64 a1, .int .i64 a2, .int .i64 a3] 22)) (.cells #[.int .i64 b0, .int .i64 b1, .int .i64 b2, .int .i64 b3] 22); simpa using this
  have HA1 := hide hA1
  have HA2 := hide hA2
  have HB1 := hide hb1
  have N1 := hide (new_any a0 a1 a2 a3)
  have N2 := hide (new_any b0 b1 b2 b3)
  have R1 := hide (rnew_any a0 a1 a2 a3)
  have R2 := hide (rnew_any b0 b1 b2 b3)
  obtain ⟨ba, hba⟩ : ∃ x, bO a0 a1 a2 a3 = x := ⟨_, rfl⟩
  obtain ⟨bb, hbb⟩ : ∃ x, bO b0 b1 b2 b3 = x := ⟨_, rfl⟩
  rw [hba] at N1 R1
  rw [hbb] at N2 R2
  obtain ⟨na, hna⟩ : ∃ x : Int, (if ba = true then 1 else 0) = x := ⟨_, rfl⟩
  obtain ⟨nb, hnb⟩ : ∃ x : Int, (if bb = true then 1 else 0) = x := ⟨_, rfl⟩
  rw [hna] at N1 R1
  rw [hnb] at N2 R2
  have qa : (na != 0) = ba := by rw [← hna]; cases ba <;> rfl
  have qb : (nb != 0) = bb := by rw [← hnb]; cases bb <;> rfl
  have hna2 : 0 ≤ na ∧ na ≤ 24 := by rw [← hna]; split <;> omega
  have hnb2 : 0 ≤ nb ∧ nb ≤ 24 := by rw [← hnb]; split <;> omega
  have HPA := hide (fun W (hE : ErrType W) => plain_errV na na W hna2.1 hna2.2 hE)
  have HPB := hide (fun W (hE : ErrType W) => plain_errV nb nb W hnb2.1 hnb2.2 hE)
  obtain ⟨ea, hea⟩ : ∃ x, errV na = x := ⟨_, rfl⟩
  obtain ⟨eb, heb⟩ : ∃ x, errV nb = x := ⟨_, rfl⟩
  rw [hea] at N1 HPA
  rw [heb] at N2 HPB
  have HBA := hide (And.intro hba hbb)
  obtain ⟨y0, y1, y2, y3⟩ := four_cells hA1 rfl
  clear hna hnb hna2 hnb2 hea heb hba hbb hb1 hA1 hA2
  go_enter Tryd.func5, Tryd.ntmps5
  go_wp2_with fail
  refine (N1.out W1).mono ?_
  rintro e w2 ⟨g0, rfl, hg0, hp0, hb2⟩
  have HS2 := hide ((Sep.nil HB1.out).newO hb2 hp0 hg0)
  have H2 := hide hb2
  obtain ⟨x0, x1, x2, x3⟩ := four_cells (blk_later HA2.out hb2) rfl
  clear hb2 hp0 hg0 hW1 y0 y1 y2 y3 N1
  go_wp2_with fail
  refine (N2.out w2).mono ?_
  rintro e w3 ⟨g1, rfl, hg1, hp1, hb3⟩
  have HS3 := hide (HS2.out.newO hb3 hp1 hg1)
  have H3 := hide (H2.out.trans (hb3.mono H2.out.size))
  obtain ⟨y0, y1, y2, y3⟩ := four_cells (blk_later HA1.out H3.out) rfl
  clear hb3 hp1 hg1 x0 x1 x2 x3 N2 HS2 H2
  go_wp2_with fail
  refine (R1.out w3).mono ?_
  rintro e w4 ⟨r0, rfl, hg0, hp0, hb4⟩
  have HS4 := hide (HS3.out.newR hb4 hp0 hg0)
  have H4 := hide (H3.out.trans (hb4.mono H3.out.size))
  obtain ⟨x0, x1, x2, x3⟩ := four_cells (blk_later HA2.out H4.out) rfl
  clear hb4 hp0 hg0 y0 y1 y2 y3 R1 HS3 H3
  go_wp2_with fail
  refine (R2.out w4).mono ?_
  rintro e w5 ⟨r1, rfl, hg1, hp1, hb5⟩
  have HS5 : Hid (Sep w w5 (lw (fun f => if f then bb else ba) (fun f => if f then g1 else g0) (fun f => if f then r1 else r0) (fun f => if f then ⟨b0, b1, b2, b3, 0, []⟩ else ⟨a0, a1, a2, a3, 0, []⟩) (fun f => if f then ⟨b0, b1, b2, b3, 0, []⟩ else ⟨a0, a1, a2, a3, 0, []⟩) (fun _ => .slice none 0 0) (fun _ => .slice none 0 0) [])) := hide (HS4.out.newR hb5 hp1 hg1)
  have HE5 : Hid (ErrType w5) := hide (HE.out.below HS5.out.bl)
  clear hb5 hp1 hg1 x0 x1 x2 x3 R2 HS4 H4 HA1 HA2 HB1
  have z1 : (na == na) = true := by simp
  have z2 : (nb == nb) = true := by simp
  have z3 : (ba != ba) = false := by simp
  have z4 : (bb != bb) = false := by simp
  have q0 := eqNilO ba g0
  have q1 := eqNilO bb g1
  have q2 := egNilO ba g0
  have q3 := egNilO bb g1
  go_wp2_with fail
  refine (HPA.out _ HE5.out).mono ?_
  rintro e w6 ⟨rfl, hb6⟩
  have HS6 := hide (HS5.out.later hb6)
  have HE6 := hide (HE5.out.below hb6)
  clear hb6 HS5 HE5
  go_wp2_with fail
  refine (HPB.out _ HE6.out).mono ?_
  rintro e w7 ⟨rfl, hb7⟩
  have HS7 := hide (HS6.out.later hb7)
  clear hb7 HS6
  go_wp2_with fail
  refine (works_any _).mono ?_
  rintro e w8 ⟨rfl, hb8⟩
  have HS8 := hide (HS7.out.later hb8)
  clear hb8 HS7
  obtain ⟨BB, hBB⟩ : ∃ B : Bool → Bool, B = fun f => if f then bb else ba := ⟨_, rfl⟩
  obtain ⟨GG, hGG⟩ : ∃ B : Bool → Nat, B = fun f => if f then g1 else g0 := ⟨_, rfl⟩
  obtain ⟨RR, hRR⟩ : ∃ B : Bool → Nat, B = fun f => if f then r1 else r0 := ⟨_, rfl⟩
  obtain ⟨OO, hOO⟩ : ∃ B : Bool → Od, B = fun f => if f then ⟨b0, b1, b2, b3, 0, []⟩ else ⟨a0, a1, a2, a3, 0, []⟩ := ⟨_, rfl⟩
  rw [← hBB, ← hGG, ← hRR, ← hOO] at HS8
  have e1 : BB false = ba := by rw [hBB]; rfl
  have e2 : BB true = bb := by rw [hBB]; rfl
  have e3 : GG false = g0 := by rw [hGG]; rfl
  have e4 : GG true = g1 := by rw [hGG]; rfl
  have e5 : RR false = r0 := by rw [hRR]; rfl
  have e6 : RR true = r1 := by rw [hRR]; rfl
  have HOK : Hid (∀ f, BB f = false → (OO f).Ok ∧ (OO f).P.length ≤ 0) := hide (fun f hf => by
    obtain ⟨ha, hb⟩ := HAB.out
    cases f
    · rw [e1, ← HBA.out.1] at hf
      rw [hOO]; exact ⟨Od.fresh_ok (of_decide_eq_false hf) ha.1.2 ha.2.1.2 ha.2.2.1.2 ha.2.2.2.2, Nat.le_refl _⟩
    · rw [e2, ← HBA.out.2] at hf
      rw [hOO]; exact ⟨Od.fresh_ok (of_decide_eq_false hf) hb.1.2 hb.2.1.2 hb.2.2.1.2 hb.2.2.2.2, Nat.le_refl _⟩)
  subst e1 e2 e3 e4 e5 e6
  have hS9 := (HS8.out.box #[.pointer (pO (BB false) (GG false)), .pointer (pO (BB true) (GG true))] 39).box #[.pointer (pO (BB false) (RR false)), .pointer (pO (BB true) (RR true))] 40
  obtain ⟨s, hs⟩ : ∃ s, w8.heap.size = s := ⟨_, rfl⟩
  have hs2 : (w8.alloc (.cells #[.pointer (pO (BB false) (GG false)), .pointer (pO (BB true) (GG true))] 39)).heap.size = s + 1 := by rw [← hs]; simp
  rw [hs2, hs] at hS9
  obtain ⟨W9, hW9⟩ : ∃ W, (w8.alloc (.cells #[.pointer (pO (BB false) (GG false)), .pointer (pO (BB true) (GG true))] 39)).alloc (.cells #[.pointer (pO (BB false) (RR false)), .pointer (pO (BB true) (RR true))] 40) = W := ⟨_, rfl⟩
  rw [hW9] at hS9
  have HS9 : Hid (Sep w W9 (lw BB GG RR OO OO (fun _ => .slice none 0 0) (fun _ => .slice none 0 0) [BCp s #[.pointer (pO (BB false) (GG false)), .pointer (pO (BB true) (GG true))] 39, BCp (s + 1) #[.pointer (pO (BB false) (RR false)), .pointer (pO (BB true) (RR true))] 40])) := hide hS9
  have HW9 := hide hW9
  clear hS9 hW9 hs2 HS8 hBB hGG hRR hOO HPA HPB HE6 HAB
  go_wp2_with fail
  rw [HW9.out]
  clear q0 q1 q2 q3
  go_loopw [17] (fun i wr => ∃ (k : Nat) (o : Bool → Od) (pv rv : Bool → Value), k ≤ S.length ∧ i = .int .i64 (k : Int) ∧ Hid (Sep w wr (lw BB GG RR o o pv rv [BCp s #[.pointer (pO (BB false) (GG false)), .pointer (pO (BB true) (GG true))] 39, BCp (s + 1) #[.pointer (pO (BB false) (RR false)), .pointer (pO (BB true) (RR true))] 40])) ∧ Hid (∀ f, BB f = false → (o f).Ok ∧ (o f).P.length ≤ k)) (fun i _ => S.length - (intOf i).toNat)
  case atStart => exact ⟨0, OO, _, _, Nat.zero_le _, rfl, HS9, HOK⟩
  case round =>
    obtain ⟨k, o, pv, rv, hk, rfl, HQ, HOK2⟩ := hrel
    by_cases hlt : k < S.length
    · obtain ⟨p, hp⟩ : ∃ p, S[k]? = some p := ⟨_, List.getElem?_eq_getElem hlt⟩
      obtain ⟨b, off, rfl, hbl, hcc⟩ := HS.out.resolve_left (fun h => by rw [h] at hlt; simp at hlt)
      obtain ⟨c0, c1, c2, c3⟩ := hcc k p hp
      have hbw := HQ.out.bl
      have c0 := (hbw.cell (p := ⟨b, _, none⟩) hbl).trans c0
      have c1 := (hbw.cell (p := ⟨b, _, none⟩) hbl).trans c1
      have c2 := (hbw.cell (p := ⟨b, _, none⟩) hbl).trans c2
      have c3 := (hbw.cell (p := ⟨b, _, none⟩) hbl).trans c3
      have HP := hide (HK.out p (List.mem_of_getElem? hp))
      obtain ⟨on, hv, ca, ak⟩ := p
      dsimp only at c0 c1 c2 c3 HP
      obtain ⟨x, hx, hx2⟩ : ∃ x : Nat, on % 2 = (x : Int) ∧ x < 2 := ⟨(on % 2).toNat, by omega, by omega⟩
      have HPK := hide (fun W => pick_any on 2 W (by decide) (by decide))
      rw [hx] at HPK
      have hd1 : decide ((k : Int) < (S.length : Int)) = true := by rw [decide_eq_true_eq]; omega
      have k0 : (0 : Int) ≤ (k : Int) := by omega
      have k1 : (k : Int) < (S.length : Int) := by omega
      have wk : wrap64 ((k : Int) + 1) = (k : Int) + 1 := by have := HL.out; unfold wrap64; omega
      have x0 : (0 : Int) ≤ (x : Int) := by omega
      have x1 : (x : Int) < 2 := by omega
      obtain ⟨f, hf⟩ : ∃ f : Bool, f = decide (x = 1) := ⟨_, rfl⟩
      obtain ⟨c, hc⟩ : ∃ c, wr.heap.size = c := ⟨_, rfl⟩
      have hq2 := HQ.out.box #[.int .i64 on, .int .i64 hv, .int .i64 ca, .bool ak] 42
      rw [hc] at hq2
      obtain ⟨WC, hWC⟩ : ∃ W, wr.alloc (.cells #[.int .i64 on, .int .i64 hv, .int .i64 ca, .bool ak] 42) = W := ⟨_, rfl⟩
      rw [hWC] at hq2
      have HQ2 : Hid (Sep w WC (lw BB GG RR o o pv rv ([BCp s #[.pointer (pO (BB false) (GG false)), .pointer (pO (BB true) (GG true))] 39, BCp (s + 1) #[.pointer (pO (BB false) (RR false)), .pointer (pO (BB true) (RR true))] 40] ++ [BCp c #[.int .i64 on, .int .i64 hv, .int .i64 ca, .bool ak] 42]))) := hide hq2
      have HBO : Hid (∀ W (o q : Bool → Od) (pv rv : Bool → Value), Sep w W (lw BB GG RR o q pv rv ([BCp s #[.pointer (pO (BB false) (GG false)), .pointer (pO (BB true) (GG true))] 39, BCp (s + 1) #[.pointer (pO (BB false) (RR false)), .pointer (pO (BB true) (RR true))] 40] ++ [BCp c #[.int .i64 on, .int .i64 hv, .int .i64 ca, .bool ak] 42])) →
          W.cell? ⟨s, x, none⟩ = some (.pointer (pO (BB f) (GG f))) ∧ W.cell? ⟨s + 1, x, none⟩ = some (.pointer (pO (BB f) (RR f))) ∧ W.cell? ⟨c, 0, none⟩ = some (.int .i64 on) ∧ W.cell? ⟨c, 1, none⟩ = some (.int .i64 hv) ∧ W.cell? ⟨c, 2, none⟩ = some (.int .i64 ca) ∧ W.cell? ⟨c, 3, none⟩ = some (.bool ak)) := hide (fun W o q pv rv h => by
        have a1 := h.is 4 _ (lw_bx 0)
        have a2 := h.is 5 _ (lw_bx 1)
        have a3 := h.is 6 _ (lw_bx 2)
        refine ⟨?_, ?_, four_cells a3 rfl⟩
        · rw [cell_of_row _ _ x _ _ _ a1, hf]
          rcases (show x = 0 ∨ x = 1 by omega) with rfl | rfl <;> rfl
        · rw [cell_of_row _ _ x _ _ _ a2, hf]
          rcases (show x = 0 ∨ x = 1 by omega) with rfl | rfl <;> rfl)
      obtain ⟨d0, d1, d2, d3, d4, d5⟩ := HBO.out _ _ _ _ _ HQ2.out
      have HKn := hide (And.intro hlt hk)
      clear hp hcc hbl hbw hlt hk hx hx2 hf hq2 HQ
      go_wp2_with fail
      refine (HPK.out _).mono ?_
      rintro e w10 ⟨rfl, hw10⟩
      have hw11 := hw10.symm
      subst hw11
      clear hw10 hWC hc c0 c1 c2 c3 HPK
      cases hbf : BB f with
      | true =>
        rw [hbf, pO_true] at d0
        have HS3 : Hid (Sep w WC (lw BB GG RR o o pv rv [BCp s #[.pointer (pO (BB false) (GG false)), .pointer (pO (BB true) (GG true))] 39, BCp (s + 1) #[.pointer (pO (BB false) (RR false)), .pointer (pO (BB true) (RR true))] 40])) := hide (Sep.front (ds := [BCp c #[.int .i64 on, .int .i64 hv, .int .i64 ca, .bool ak] 42]) HQ2.out)
        have HO3 : Hid (∀ f, BB f = false → (o f).Ok ∧ (o f).P.length ≤ k + 1) := hide (fun y hy => ⟨(HOK2.out y hy).1, Nat.le_succ_of_le (HOK2.out y hy).2⟩)
        clear d1 d2 d3 d4 d5 HBO
        go_wp2_with fail
        go_roundw
        case rel => exact ⟨k + 1, o, pv, rv, HKn.out.1, by go_num, HS3, HO3⟩
        case measure => have := HKn.out.1; first | (rw [wk]; simp [intOf]; omega) | (simp [intOf]; omega)
      | false =>
        rw [hbf, pO_false] at d0
        have ok := (HOK2.out f hbf).1
        have hpl := (HOK2.out f hbf).2
        have HB2 : Hid (∀ W (o q : Bool → Od) (pv rv : Bool → Value), Sep w W (lw BB GG RR o q pv rv ([BCp s #[.pointer (pO (BB false) (GG false)), .pointer (pO (BB true) (GG true))] 39, BCp (s + 1) #[.pointer (pO (BB false) (RR false)), .pointer (pO (BB true) (RR true))] 40] ++ [BCp c #[.int .i64 on, .int .i64 hv, .int .i64 ca, .bool ak] 42])) → W.cell? ⟨s, x, none⟩ = some (.pointer (some ⟨GG f, 0, none⟩)) ∧ W.cell? ⟨s + 1, x, none⟩ = some (.pointer (some ⟨RR f, 0, none⟩)) ∧ W.cell? ⟨c, 1, none⟩ = some (.int .i64 hv) ∧ W.cell? ⟨c, 2, none⟩ = some (.int .i64 ca) ∧ W.cell? ⟨c, 3, none⟩ = some (.bool ak)) := hide (fun W o q pv rv h => by
          obtain ⟨a1, a2, _, a4, a5, a6⟩ := HBO.out W o q pv rv h
          rw [hbf, pO_false] at a1 a2
          exact ⟨a1, a2, a4, a5, a6⟩)
        have hplb : (o f).P.length + 1 ≤ 8796093022000 := by have := HL.out; have := HKn.out.1; omega
        have HT : Hid (∀ W, Sep w W (lw BB GG RR o o pv rv ([BCp s #[.pointer (pO (BB false) (GG false)), .pointer (pO (BB true) (GG true))] 39, BCp (s + 1) #[.pointer (pO (BB false) (RR false)), .pointer (pO (BB true) (RR true))] 40] ++ [BCp c #[.int .i64 on, .int .i64 hv, .int .i64 ca, .bool ak] 42])) → Calls Tryd.prog 18 #[.pointer (some ⟨GG f, 0, none⟩), .int .i64 hv, .int .i64 ca] W fun e w' => e = .returned (.tuple #[.int .i64 ((o f).q hv ca), .int .i64 ((o f).m hv ca)]) ∧ ∃ p2, Sep w w' (lw BB GG RR (upY f o ((o f).tk hv ca)) o (upY f pv p2) rv ([BCp s #[.pointer (pO (BB false) (GG false)), .pointer (pO (BB true) (GG true))] 39, BCp (s + 1) #[.pointer (pO (BB false) (RR false)), .pointer (pO (BB true) (RR true))] 40] ++ [BCp c #[.int .i64 on, .int .i64 hv, .int .i64 ca, .bool ak] 42])) ∧ w'.cell? ⟨s, x, none⟩ = some (.pointer (some ⟨GG f, 0, none⟩)) ∧ w'.cell? ⟨s + 1, x, none⟩ = some (.pointer (some ⟨RR f, 0, none⟩)) ∧ w'.cell? ⟨c, 1, none⟩ = some (.int .i64 hv) ∧ w'.cell? ⟨c, 2, none⟩ = some (.int .i64 ca) ∧ w'.cell? ⟨c, 3, none⟩ = some (.bool ak)) := hide (fun W h => by
          refine (take_any (GG f) (o f) (pv f) hv ca W (lw_isO h f hbf) ok HP.out.2.1.2 (Nat.le_trans hplb (by decide))).mono ?_
          rintro e w' ⟨rfl, p2, h1, h2, h3⟩
          have h4 := lw_takeO h f hbf _ p2 h1 h2 h3
          exact ⟨rfl, p2, h4, HB2.out _ _ _ _ _ h4⟩)
        have HTR : Hid (∀ W pw, Sep w W (lw BB GG RR (upY f o ((o f).tk hv ca)) o pw rv ([BCp s #[.pointer (pO (BB false) (GG false)), .pointer (pO (BB true) (GG true))] 39, BCp (s + 1) #[.pointer (pO (BB false) (RR false)), .pointer (pO (BB true) (RR true))] 40] ++ [BCp c #[.int .i64 on, .int .i64 hv, .int .i64 ca, .bool ak] 42])) → Calls Tryd.prog 19 #[.pointer (some ⟨RR f, 0, none⟩), .int .i64 hv, .int .i64 ca] W fun e w' => e = .returned (.tuple #[.int .i64 ((o f).q hv ca), .int .i64 ((o f).m hv ca)]) ∧ ∃ r2, Sep w w' (lw BB GG RR (upY f o ((o f).tk hv ca)) (upY f o ((o f).tk hv ca)) pw (upY f rv r2) ([BCp s #[.pointer (pO (BB false) (GG false)), .pointer (pO (BB true) (GG true))] 39, BCp (s + 1) #[.pointer (pO (BB false) (RR false)), .pointer (pO (BB true) (RR true))] 40] ++ [BCp c #[.int .i64 on, .int .i64 hv, .int .i64 ca, .bool ak] 42])) ∧ w'.cell? ⟨s, x, none⟩ = some (.pointer (some ⟨GG f, 0, none⟩)) ∧ w'.cell? ⟨s + 1, x, none⟩ = some (.pointer (some ⟨RR f, 0, none⟩)) ∧ w'.cell? ⟨c, 1, none⟩ = some (.int .i64 hv) ∧ w'.cell? ⟨c, 2, none⟩ = some (.int .i64 ca) ∧ w'.cell? ⟨c, 3, none⟩ = some (.bool ak)) := hide (fun W pw h => by
          refine (rtake_any (RR f) (o f) (rv f) hv ca W (lw_isR h f hbf) ok HP.out.2.1.2 (Nat.le_trans hplb (by decide))).mono ?_
          rintro e w' ⟨rfl, p2, h1, h2, h3⟩
          have h4 := lw_takeR h f hbf _ p2 h1 h2 h3
          exact ⟨rfl, p2, h4, HB2.out _ _ _ _ _ h4⟩)
        have hlen2 : ((o f).tk hv ca).P.length ≤ (o f).P.length + 1 := by
          unfold Od.tk
          split
          · omega
          · simp
        have HAK : Hid (∀ W pw rw, Sep w W (lw BB GG RR (upY f o ((o f).tk hv ca)) (upY f o ((o f).tk hv ca)) pw rw ([BCp s #[.pointer (pO (BB false) (GG false)), .pointer (pO (BB true) (GG true))] 39, BCp (s + 1) #[.pointer (pO (BB false) (RR false)), .pointer (pO (BB true) (RR true))] 40] ++ [BCp c #[.int .i64 on, .int .i64 hv, .int .i64 ca, .bool ak] 42])) → Calls Tryd.prog 20 #[.pointer (some ⟨GG f, 0, none⟩), .pointer (some ⟨RR f, 0, none⟩)] W fun e w' => e = .returned (.bool true) ∧ Below W.heap.size W w') := hide (fun W pw rw h => by
          have h1 := lw_isO h f hbf
          have h2 := lw_isR h f hbf
          rw [upY_same] at h1 h2
          exact asked_any (GG f) (RR f) _ _ _ W h1 h2 (Od.tk_ok ok hv ca) (Nat.le_trans hlen2 hplb))
        have HO3 : Hid (∀ y, BB y = false → (upY f o ((o f).tk hv ca) y).Ok ∧ (upY f o ((o f).tk hv ca) y).P.length ≤ k + 1) := hide (fun y hy => by
          by_cases e : y = f
          · subst e
            rw [upY_same]
            exact ⟨Od.tk_ok ok hv ca, by omega⟩
          · rw [upY_ne _ _ e]
            exact ⟨(HOK2.out y hy).1, Nat.le_succ_of_le (HOK2.out y hy).2⟩)
        obtain ⟨q, hq⟩ : ∃ q, (o f).q hv ca = q := ⟨_, rfl⟩
        obtain ⟨m, hm⟩ : ∃ q, (o f).m hv ca = q := ⟨_, rfl⟩
        rw [hq, hm] at HT HTR
        have hs0 := HQ2.out.later ((Below.refl WC.heap.size WC).drew)
        have hd0 := HB2.out _ _ _ _ _ hs0
        have hSW := HB2.out _ _ _ _ _ HQ2.out
        clear ok hpl hplb hlen2 hq hm HBO d1 d2 d3 d4 d5
        go_wp2_with fail
        go_region_held3 (fun W => W.cell? ⟨s, x, none⟩ = some (.pointer (some ⟨GG f, 0, none⟩)) ∧ W.cell? ⟨s + 1, x, none⟩ = some (.pointer (some ⟨RR f, 0, none⟩)) ∧ W.cell? ⟨c, 1, none⟩ = some (.int .i64 hv) ∧ W.cell? ⟨c, 2, none⟩ = some (.int .i64 ca) ∧ W.cell? ⟨c, 3, none⟩ = some (.bool ak)) (go_keep) ((first | (go_at_call 18; refine (HT.out _ ?_).mono ?_; assumption; rintro e w12 ⟨rfl, p2, hs2, hz1, hz2, hz3, hz4, hz5⟩)))
        have HS12 := hide hs2
        clear hs0 hd0 hSW HT HQ2 hs2 hz1 hz2 hz3 hz4 hz5
        obtain ⟨pw, hpw⟩ : ∃ pw, upY f pv p2 = pw := ⟨_, rfl⟩
        rw [hpw] at HS12
        have hs0 := HS12.out.later ((Below.refl w12.heap.size w12).drew)
        have hd0 := HB2.out _ _ _ _ _ hs0
        have hSW := HB2.out _ _ _ _ _ HS12.out
        clear hpw
        go_wp2_with fail
        go_region_held3 (fun W => W.cell? ⟨s, x, none⟩ = some (.pointer (some ⟨GG f, 0, none⟩)) ∧ W.cell? ⟨s + 1, x, none⟩ = some (.pointer (some ⟨RR f, 0, none⟩)) ∧ W.cell? ⟨c, 1, none⟩ = some (.int .i64 hv) ∧ W.cell? ⟨c, 2, none⟩ = some (.int .i64 ca) ∧ W.cell? ⟨c, 3, none⟩ = some (.bool ak)) (go_keep) ((first | (go_at_call 19; refine (HTR.out _ _ hs0).mono ?_; rintro e w13 ⟨rfl, r2, hs2, hz1, hz2, hz3, hz4, hz5⟩)))
        have HS13 := hide hs2
        clear hs0 hd0 hSW HTR HS12 hs2 hz1 hz2 hz3 hz4 hz5
        obtain ⟨rw, hrw⟩ : ∃ rw, upY f rv r2 = rw := ⟨_, rfl⟩
        rw [hrw] at HS13
        obtain ⟨o2, ho2⟩ : ∃ x, upY f o ((o f).tk hv ca) = x := ⟨_, rfl⟩
        rw [ho2] at HS13 HO3 HAK
        clear hrw ho2
        have nq : (q != q) = false := by simp
        have nm : (m != m) = false := by simp
        have gq : ∀ y : Gr w13, y.1.cell? ⟨s, x, none⟩ = some (.pointer (some ⟨GG f, 0, none⟩)) := fun y => (HB2.out _ _ _ _ _ (HS13.out.later y.2)).1
        have gr : ∀ y : Gr w13, y.1.cell? ⟨s + 1, x, none⟩ = some (.pointer (some ⟨RR f, 0, none⟩)) := fun y => (HB2.out _ _ _ _ _ (HS13.out.later y.2)).2.1
        have gk : ∀ y : Gr w13, y.1.cell? ⟨c, 3, none⟩ = some (.bool ak) := fun y => (HB2.out _ _ _ _ _ (HS13.out.later y.2)).2.2.2.2
        have HAX : Hid (∀ y : Gr w13, Calls Tryd.prog 20 #[.pointer (some ⟨GG f, 0, none⟩), .pointer (some ⟨RR f, 0, none⟩)] y.1 fun e w' => e = .returned (.bool true) ∧ Below y.1.heap.size y.1 w') := hide (fun y => HAK.out _ _ _ (HS13.out.later y.2))
        cases ak with
        | true =>
          go_wp2_with fail
          have HG0 := hide ((Below.refl w13.heap.size w13).drew)
          haveI : Nonempty (Gr w13) := ⟨⟨_, HG0.out⟩⟩
          refine region_class (C := fun w' => ∃ x : Gr w13, w' = x.1) (by kernel_rfl) (by kernel_rfl) ⟨⟨_, HG0.out⟩, rfl⟩ ?_
          repeat (first
            | go_big_quiet_skip
            | (go_big_quiet_want; (go_big_quiet_op; first
                | go_big_quiet_on
                | (apply Exists.intro; refine ⟨fun x => ?_, ?_⟩; (first
                    | (go_at_call 20; exact x.call (HAX.out x))
                    ); go_big_quiet_on))))
          refine wpQuiet_nil ?_
          rintro w14 ⟨x, rfl⟩
          obtain ⟨w14, hx14⟩ := x
          dsimp only
          clear HG0 this
          have HS14 : Hid (Sep w w14 (lw BB GG RR o2 o2 pw rw [BCp s #[.pointer (pO (BB false) (GG false)), .pointer (pO (BB true) (GG true))] 39, BCp (s + 1) #[.pointer (pO (BB false) (RR false)), .pointer (pO (BB true) (RR true))] 40])) := hide (Sep.front (ds := [BCp c #[.int .i64 on, .int .i64 hv, .int .i64 ca, .bool true] 42]) (HS13.out.later hx14))
          clear gq gr gk HAX hx14 HS13 HB2 HAK
          go_wp2_with fail
          go_roundw
          case rel => exact ⟨k + 1, o2, pw, rw, HKn.out.1, by go_num, HS14, HO3⟩
          case measure => have := HKn.out.1; first | (rw [wk]; simp [intOf]; omega) | (simp [intOf]; omega)
        | false =>
          go_wp2_with fail
          have HG0 := hide ((Below.refl w13.heap.size w13).drew)
          haveI : Nonempty (Gr w13) := ⟨⟨_, HG0.out⟩⟩
          refine region_class (C := fun w' => ∃ x : Gr w13, w' = x.1) (by kernel_rfl) (by kernel_rfl) ⟨⟨_, HG0.out⟩, rfl⟩ ?_
          repeat (first
            | go_big_quiet_skip
            | (go_big_quiet_want; (go_big_quiet_op; first
                | go_big_quiet_on
                | (apply Exists.intro; refine ⟨fun x => ?_, ?_⟩; (first
                    | (go_at_call 20; exact x.call (HAX.out x))
                    ); go_big_quiet_on))))
          refine wpQuiet_nil ?_
          rintro w14 ⟨x, rfl⟩
          obtain ⟨w14, hx14⟩ := x
          dsimp only
          clear HG0 this
          have HS14 : Hid (Sep w w14 (lw BB GG RR o2 o2 pw rw [BCp s #[.pointer (pO (BB false) (GG false)), .pointer (pO (BB true) (GG true))] 39, BCp (s + 1) #[.pointer (pO (BB false) (RR false)), .pointer (pO (BB true) (RR true))] 40])) := hide (Sep.front (ds := [BCp c #[.int .i64 on, .int .i64 hv, .int .i64 ca, .bool false] 42]) (HS13.out.later hx14))
          clear gq gr gk HAX hx14 HS13 HB2 HAK
          go_wp2_with fail
          go_roundw
          case rel => exact ⟨k + 1, o2, pw, rw, HKn.out.1, by go_num, HS14, HO3⟩
          case measure => have := HKn.out.1; first | (rw [wk]; simp [intOf]; omega) | (simp [intOf]; omega)
    · have e : k = S.length := by omega
      subst e
      have HLE := hide (show S.length ≤ 8796093022000 by have := HL.out; omega)
      clear hlt hk
      have HAF : Hid (∀ f W, BB f = false → Sep w W (lw BB GG RR o o pv rv [BCp s #[.pointer (pO (BB false) (GG false)), .pointer (pO (BB true) (GG true))] 39, BCp (s + 1) #[.pointer (pO (BB false) (RR false)), .pointer (pO (BB true) (RR true))] 40]) → Calls Tryd.prog 20 #[.pointer (some ⟨GG f, 0, none⟩), .pointer (some ⟨RR f, 0, none⟩)] W fun e w' => e = .returned (.bool true) ∧ Below W.heap.size W w') := hide (fun f W hbf h => asked_any (GG f) (RR f) _ _ _ W (lw_isO h f hbf) (lw_isR h f hbf) (HOK2.out f hbf).1 (Nat.le_trans (HOK2.out f hbf).2 HLE.out))
      have HQ0 := hide HQ.out
      cases h1 : BB false with
      | true =>
        cases h2 : BB true with
        | true =>
          simp only [pO_true]
          go_wp2_with fail
          go_ret
          exact ⟨rfl, HQ0.out.bl⟩
        | false =>
          simp only [pO_true, pO_false]
          go_wp2_with fail
          refine (HAF.out true _ h2 HQ0.out).mono ?_
          rintro e v1 ⟨rfl, hb1⟩
          have HQ1 := hide (HQ0.out.later hb1)
          clear hb1
          go_wp2_with fail
          go_ret
          exact ⟨rfl, HQ1.out.bl⟩
      | false =>
        cases h2 : BB true with
        | true =>
          simp only [pO_true, pO_false]
          go_wp2_with fail
          refine (HAF.out false _ h1 HQ0.out).mono ?_
          rintro e v1 ⟨rfl, hb1⟩
          have HQ1 := hide (HQ0.out.later hb1)
          clear hb1
          go_wp2_with fail
          refine (HAF.out false _ h1 HQ1.out).mono ?_
          rintro e v2 ⟨rfl, hb2⟩
          have HQ2 := hide (HQ1.out.later hb2)
          clear hb2
          go_wp2_with fail
          go_ret
          exact ⟨rfl, HQ2.out.bl⟩
        | false =>
          simp only [pO_false]
          go_wp2_with fail
          refine (HAF.out false _ h1 HQ0.out).mono ?_
          rintro e v1 ⟨rfl, hb1⟩
          have HQ1 := hide (HQ0.out.later hb1)
          clear hb1
          go_wp2_with fail
          refine (HAF.out false _ h1 HQ1.out).mono ?_
          rintro e v2 ⟨rfl, hb2⟩
          have HQ2 := hide (HQ1.out.later hb2)
          clear hb2
          go_wp2_with fail
          refine (HAF.out true _ h2 HQ2.out).mono ?_
          rintro e v3 ⟨rfl, hb3⟩
          have HQ3 := hide (HQ2.out.later hb3)
          clear hb3
          go_wp2_with fail
          go_ret
          exact ⟨rfl, HQ3.out.bl⟩
end Go.Proofs.YtmojckejjjlkjaaDoor
