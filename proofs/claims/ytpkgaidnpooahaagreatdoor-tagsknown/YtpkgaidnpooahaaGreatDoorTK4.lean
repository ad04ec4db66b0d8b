/-
  My own text: the closed law on tags: blocks in one another (printed by mktk4.py).
-/
import Derived.Test.YtpkgaidnpooahaaGreatDoorTKB
import Derived.Test.YtpkgaidnpooahaaGreatDoorTJ2
namespace Go.Proofs.YtpkgaidnpooahaaGreatDoor
open Go.RowKit

theorem cell_al {W : World} {p : Addr} {v : Value} {o : Obj} (h : W.cell? p = some v) : (W.alloc o).cell? p = some v := by
  have hlt : p.block < W.heap.size := by
    rcases Nat.lt_or_ge p.block W.heap.size with hc | hc
    · exact hc
    · have : W.heap[p.block]? = none := Array.getElem?_eq_none hc
      simp [World.cell?, this] at h
  exact (((Below.refl W.heap.size W).alloc (Nat.le_refl _) o).cell hlt).trans h
/-- A list behind a row of one item that was laid. -/
theorem wp_app_lit {W : World} {o : Oper} {a : Act} {K : Act → World → Prop} {Q : Exit → Act → World → Prop} (s x : Operand) (ho : o.op = .call { callee := .builtin .append, args := #[s, x], argTypes := #[23, 23] }) (fi : Itm) (ad : Addr) (l : List Tr) (c : Nat)
    (hs : a.eval s = .slice (some ⟨W.heap.size, 0, none⟩) 1 1) (hx : a.eval x = .slice (some ad) l.length c) (hl : RT W (.slice (some ad) l.length c) l) (hlen : l.length ≤ 1000)
    (h : ∀ v' w', RT w' v' (.mk fi [] :: l) → Below W.heap.size W w' → K (a.put o.dst v') w') : o.wp Tryz.prog a (W.alloc (.cells (iC fi (.slice none 0 0)) 25)) K Q := by
  obtain ⟨i0, hi, hz0, hz1, hz2⟩ := info_parts Tryz.infoItmq
  have hB := (Below.refl W.heap.size W).alloc (Nat.le_refl _) (.cells (iC fi (.slice none 0 0)) 25)
  obtain ⟨V, hVl, hVc, hVk, hV1⟩ := RT_cells hl
  have hown : (W.alloc (.cells (iC fi (.slice none 0 0)) 25)).ownsRow W.heap.size 25 5 (.slice (some ⟨W.heap.size, 0, none⟩) 1 1) 1 (ic [.mk fi []] [.slice none 0 0]) :=
    ⟨rfl, .inr ⟨W.heap.size, 1, iC fi (.slice none 0 0), rfl, Nat.le_refl _, (MapKept.heap_alloc W _).1, Nat.le_refl _, by decide, rfl, rfl⟩⟩
  have hil : (ic l V).length = l.length * 5 := by
    clear hVc hVk hV1 hl hx hlen h
    induction l generalizing V with
    | nil => simp [ic]
    | cons b r ih =>
      cases V with
      | nil => simp at hVl
      | cons u q =>
        have := ih q (by simpa using hVl)
        simp only [ic, List.length_cons, this]; omega
  obtain ⟨v', w', hrun, r1, r2, _⟩ := run_append_own (P := Tryz.prog) (W.alloc (.cells (iC fi (.slice none 0 0)) 25)) W.heap.size 23 o.type 25 i0 _ 5 88 Tryz.underlying23 hi hz0 hz1 hz2 zItmq (by decide) _ 1 _ hown ad l.length c (ic l V) hil (fun j u hj => cell_al (hVc ad rfl j u hj)) (ic_one l V hV1) (by unfold maxLen; omega) (by omega) (by simp)
  have hb : Below W.heap.size W w' := hB.grown r2 (by simp) (fun g e => by simp [Value.ownBlock] at e; omega)
  have hRT : RT w' v' (.mk fi [] :: l) := by
    refine RT_own (V := .slice none 0 0 :: V) (B := W.heap.size) (by simp [hVl]) ?_ ?_
    · rw [show (Tr.mk fi [] :: l).length = 1 + l.length by simp; omega]
      exact r1
    · intro j t u h1 h2
      cases j with
      | zero =>
        simp at h1 h2
        subst h1 h2
        exact RT_nil _
      | succ j =>
        obtain ⟨t1, t2⟩ : l[j]? = some t ∧ V[j]? = some u := ⟨by simpa using h1, by simpa using h2⟩
        exact RT_later (hVk j t u t1 t2) hb
  unfold Oper.wp
  simp [execOp, ho, resolve, invoke, builtin, hs, hx, hrun, Result.andThen]
  exact h v' w' hRT hb
def nsL : List (Tr × Value) := [(.mk ⟨[], [], [], [97]⟩ [], .slice none 0 0), (.mk ⟨[], [], [120], [65]⟩ [], .slice none 0 0), (.mk ⟨[], [83, 69, 77, 69], [], [65]⟩ [], .slice none 0 0), (.mk ⟨[50], [], [], []⟩ [], .slice none 0 0), (.mk ⟨[50, 48, 67], [], [128], []⟩ [], .slice none 0 0), (.mk ⟨[], [], [], []⟩ [], .slice none 0 0)]
theorem nsL_len : (nsL.map (·.1)).length = 6 := rfl
theorem nsL_wts : wts (nsL.map (·.1)) ≤ 200 := by simp [nsL, wts, Tr.wt]
theorem nsL_kids : ∀ p ∈ nsL, p.2 = .slice none 0 0 ∧ p.1.kids = [] := by
  intro p hp
  simp only [nsL, List.mem_cons, List.not_mem_nil, or_false] at hp
  rcases hp with rfl | rfl | rfl | rfl | rfl | rfl <;> exact ⟨rfl, rfl⟩
def stL : List (List UInt8) := [[109, 111, 114, 101, 10], [45, 10], [10], [58, 49, 54, 83, 58, 65, 10], [58, 49, 54, 83, 58, 97, 10], [120], [58, 49, 54, 82, 58, 66, 10, 109, 111, 114, 101, 10], [58, 50, 48, 67, 58, 121, 10, 109, 111, 114, 101, 10, 45, 10]]
set_option maxRecDepth 100000 in
set_option maxHeartbeats 16000000 in
theorem nestedK_any (w : World) (hL : KL w) :
    Calls Tryz.prog 7 #[] w fun e w' => e = .returned (.bool true) ∧ Below w.heap.size w w' := by
  have HL := hide hL
  have HB0 : Hid (Below w.heap.size w (w.alloc (.cells (itC [((Tr.mk ⟨[50, 48, 67], [], [120], []⟩ []), .slice none 0 0)]).toArray 25))) := hide ((Below.refl _ _).alloc (Nat.le_refl _) _)
  have HR0 : Hid (RT (w.alloc (.cells (itC [((Tr.mk ⟨[50, 48, 67], [], [120], []⟩ []), .slice none 0 0)]).toArray 25)) (.slice (some ⟨w.heap.size, 0, none⟩) [(Tr.mk ⟨[50, 48, 67], [], [120], []⟩ [])].length 1) [(Tr.mk ⟨[50, 48, 67], [], [120], []⟩ [])] ∧ wts [(Tr.mk ⟨[50, 48, 67], [], [120], []⟩ [])] ≤ 10 + 20 * 0) := hide ⟨RT_litn [((Tr.mk ⟨[50, 48, 67], [], [120], []⟩ []), .slice none 0 0)] _ _ rfl rfl rfl rfl (fun p hp => by rw [List.mem_singleton.1 hp]; exact RT_nil _), by simp [wts, Tr.wt]⟩
  clear hL
  go_enter Tryz.func7, Tryz.ntmps7
  go_wp2_with fail
  go_loopw [1, 2, 3, 4] (fun v b e i wr => ∃ (k : Nat) (l : List Tr) (ad : Addr) (c : Nat) (p q : List UInt8), k ≤ 11 ∧ i = .int .i64 k ∧ v = .slice (some ad) l.length c ∧ b = .string ⟨p.toArray⟩ ∧ e = .string ⟨q.toArray⟩ ∧ p.length ≤ 100 * k ∧ q.length ≤ 100 * k ∧ Hid (RT wr (.slice (some ad) l.length c) l ∧ wts l ≤ 10 + 20 * k) ∧ Hid (Below w.heap.size w wr)) (fun _ _ _ i _ => 11 - (intOf i).toNat)
  case atStart => exact ⟨0, [(Tr.mk ⟨[50, 48, 67], [], [120], []⟩ [])], _, 1, [], [], Nat.zero_le _, rfl, rfl, rfl, rfl, Nat.zero_le _, Nat.zero_le _, HR0, HB0⟩
  case round =>
    clear HB0 HR0
    obtain ⟨k, l, ad, c, p, q, hk, rfl, rfl, rfl, rfl, hp, hq, HR, HB⟩ := hrel
    by_cases hkl : k < 11
    · have hd1 : decide ((k : Int) < 11) = true := by rw [decide_eq_true_eq]; omega
      have hp1 : p.length ≤ 1100 := by omega
      have hq1 : q.length ≤ 1100 := by omega
      have HHp := hide hp
      have HHq := hide hq
      obtain ⟨p2, hp2, hp3⟩ : ∃ p2 : List UInt8, (⟨p.toArray⟩ : ByteArray) ++ ⟨#[58, 49, 54, 82, 58, 65, 10]⟩ = ⟨p2.toArray⟩ ∧ p2.length = p.length + 7 := ⟨p ++ [58, 49, 54, 82, 58, 65, 10], by apply ByteArray.ext; simp, by simp⟩
      obtain ⟨q2, hq2, hq3⟩ : ∃ q2 : List UInt8, (⟨#[58, 49, 54, 83, 58, 65, 10]⟩ : ByteArray) ++ ⟨q.toArray⟩ = ⟨q2.toArray⟩ ∧ q2.length = q.length + 7 := ⟨[58, 49, 54, 83, 58, 65, 10] ++ q, by apply ByteArray.ext; simp, by simp⟩
      have HP3 := hide hp3
      have HQ3 := hide hq3
      have H1 := hide (HL.out.prn wr _ l HB.out HR.out.1 (by have := HR.out.2; omega))
      clear hp hq hp3 hq3
      go_wp2_with fail
      refine H1.out.mono ?_
      rintro e w1 ⟨rfl, hb1⟩
      have B1 := hide (HB.out.trans (hb1.mono HB.out.size))
      have R1 := hide (RT_later HR.out.1 hb1)
      have HW := hide HR.out.2
      clear hb1 H1 HB HR
      go_wp2_with fail
      refine (HL.out.par w1 _ B1.out (by (simp [ByteArray.size] <;> omega))).mono ?_
      rintro e w2 ⟨rfl, hb2⟩
      have B2 := hide (B1.out.trans (hb2.mono B1.out.size))
      have R2 := hide (RT_later R1.out hb2)
      clear hb2 B1 R1
      go_wp2_with fail
      refine (HL.out.par w2 _ B2.out (by (simp [ByteArray.size] <;> omega))).mono ?_
      rintro e w3 ⟨rfl, hb3⟩
      have B3 := hide (B2.out.trans (hb3.mono B2.out.size))
      have R3 := hide (RT_later R2.out hb3)
      clear hb3 B2 R2
      go_wp2_with fail
      refine (HL.out.par w3 _ B3.out (by (simp [ByteArray.size] <;> omega))).mono ?_
      rintro e w4 ⟨rfl, hb4⟩
      have B4 := hide (B3.out.trans (hb4.mono B3.out.size))
      have R4 := hide (RT_later R3.out hb4)
      clear hb4 B3 R3
      go_wp2_with fail
      refine (HL.out.par w4 _ B4.out (by (simp [ByteArray.size] <;> omega))).mono ?_
      rintro e w5 ⟨rfl, hb5⟩
      have B5 := hide (B4.out.trans (hb5.mono B4.out.size))
      have R5 := hide (RT_later R4.out hb5)
      clear hb5 B4 R4
      go_wp2_with fail
      refine (HL.out.fnd w5 _ l _ _ _ B5.out R5.out (by have := HW.out; omega)).mono ?_
      rintro e w6 ⟨rfl, hb6⟩
      have B6 := hide (B5.out.trans (hb6.mono B5.out.size))
      have R6 := hide (RT_later R5.out hb6)
      clear hb6 B5 R5
      go_wp2_with fail
      have HB7 : Hid (Below w.heap.size w (w6.alloc (.cells (itC [((Tr.mk ⟨[], [], [], [65]⟩ l), .slice (some ad) l.length c), ((Tr.mk ⟨[50, 48, 67], [], [121], []⟩ []), .slice none 0 0)]).toArray 25))) := hide (B6.out.alloc B6.out.size _)
      have HR7 : Hid (RT (w6.alloc (.cells (itC [((Tr.mk ⟨[], [], [], [65]⟩ l), .slice (some ad) l.length c), ((Tr.mk ⟨[50, 48, 67], [], [121], []⟩ []), .slice none 0 0)]).toArray 25)) (.slice (some ⟨w6.heap.size, 0, none⟩) [(Tr.mk ⟨[], [], [], [65]⟩ l), (Tr.mk ⟨[50, 48, 67], [], [121], []⟩ [])].length 2) [(Tr.mk ⟨[], [], [], [65]⟩ l), (Tr.mk ⟨[50, 48, 67], [], [121], []⟩ [])] ∧ wts [(Tr.mk ⟨[], [], [], [65]⟩ l), (Tr.mk ⟨[50, 48, 67], [], [121], []⟩ [])] ≤ 10 + 20 * (k + 1)) := hide ⟨RT_litn [((Tr.mk ⟨[], [], [], [65]⟩ l), .slice (some ad) l.length c), ((Tr.mk ⟨[50, 48, 67], [], [121], []⟩ []), .slice none 0 0)] _ _ rfl rfl rfl rfl (fun p hp => by simp only [List.mem_cons, List.not_mem_nil, or_false] at hp; rcases hp with rfl | rfl <;> first | exact R6.out | exact RT_nil _), by have := HW.out; simp [wts, Tr.wt]; omega⟩
      go_roundw
      case rel => exact ⟨k + 1, [(Tr.mk ⟨[], [], [], [65]⟩ l), (Tr.mk ⟨[50, 48, 67], [], [121], []⟩ [])], _, 2, p2, q2, by omega, by go_num, rfl, rfl, rfl, by have := HHp.out; have := HP3.out; omega, by have := HHq.out; have := HQ3.out; omega, HR7, HB7⟩
      case measure => simp [intOf]; omega
    · have h' : k = 11 := by omega
      subst h'
      rw [show ((11 : Nat) : Int) = 11 from rfl]
      clear hp hq hk hkl
      obtain ⟨W1, rfl⟩ : ∃ W1, W1 = wr := ⟨_, rfl⟩
      have HRI := hide HR.out.1
      have HWI := hide HR.out.2
      have h6 := nsL_len
      have HW6 := hide nsL_wts
      have HB2 : Hid (Below w.heap.size w (W1.alloc (.cells (itC nsL).toArray 25))) := hide (HB.out.alloc HB.out.size _)
      have HR2 : Hid (RT (W1.alloc (.cells (itC nsL).toArray 25)) (.slice (some ⟨W1.heap.size, 0, none⟩) 6 6) (nsL.map (·.1))) := hide (RT_litn nsL _ _ rfl rfl rfl rfl (fun p hp => by obtain ⟨e1, e2⟩ := nsL_kids p hp; rw [e1, e2]; exact RT_nil _))
      have HI2 := hide (RT_later HRI.out ((Below.refl W1.heap.size W1).alloc (Nat.le_refl _) (.cells (itC nsL).toArray 25)))
      clear HR HB
      go_wp2_with fail
      obtain ⟨L, hLL⟩ : ∃ L, Hid (L = nsL.map (·.1)) := ⟨_, hide rfl⟩
      rw [← hLL.out] at h6 HW6 HR2
      clear hLL HRI
      go_loopw [69] (fun i wr => ∃ j : Nat, j ≤ 6 ∧ i = .int .i64 j ∧ Hid (Below w.heap.size w wr) ∧ Hid (RT wr (.slice (some ⟨W1.heap.size, 0, none⟩) 6 6) L) ∧ Hid (RT wr (.slice (some ad) l.length c) l)) (fun i _ => 6 - (intOf i).toNat)
      case atStart => exact ⟨0, Nat.zero_le _, rfl, HB2, HR2, HI2⟩
      case round =>
        clear HB2 HR2 HI2
        obtain ⟨j, hj, rfl, HB, HR, HI⟩ := hrel
        by_cases hjl : j < 6
        · have hd2 : decide ((j : Int) < 6) = true := by rw [decide_eq_true_eq]; omega
          obtain ⟨t, ht⟩ : ∃ t, L[j]? = some t := ⟨_, List.getElem?_eq_getElem (by omega)⟩
          obtain ⟨hlt, kv, c0, c1, c2, c3, c4, hkv⟩ := RT_pos HR.out ht
          obtain ⟨ka, kc, hkve, _⟩ := id hkv
          subst hkve
          have j0 : (0 : Int) ≤ (j : Int) := by omega
          have j1 : (j : Int) < 6 := by omega
          have hw1 : wts [t] ≤ 200 := Nat.le_trans (wts_one ht) HW6.out
          have bA : Below wr.heap.size wr (wr.alloc (.cells (iC t.itm (.slice ka t.kids.length kc)) 25)) := (Below.refl _ _).alloc (Nat.le_refl _) _
          have bB : Below wr.heap.size wr ((wr.alloc (.cells (iC t.itm (.slice ka t.kids.length kc)) 25)).alloc (.cells (itC [(t, .slice ka t.kids.length kc)]).toArray 25)) := bA.alloc (by simp) _
          have HB3 := hide (HB.out.trans (bB.mono HB.out.size))
          have HR3 := hide (RT_later HR.out bB)
          have HI3 := hide (RT_later HI.out bB)
          have HL3 : Hid (RT ((wr.alloc (.cells (iC t.itm (.slice ka t.kids.length kc)) 25)).alloc (.cells (itC [(t, .slice ka t.kids.length kc)]).toArray 25)) (.slice (some ⟨wr.heap.size + 1, 0, none⟩) [t].length 1) [t] ∧ wts [t] ≤ 200 + 20 * 0) := hide ⟨RT_litn [(t, .slice ka t.kids.length kc)] [t] _ (by simp) rfl rfl rfl (fun p hp => by rw [List.mem_singleton.1 hp]; exact RT_later hkv bA), by omega⟩
          clear hlt hkv bA bB hw1 ht
          go_wp2_with fail
          clear c0 c1 c2 c3 c4 HB HR HI
          go_loopw [7, 8] (fun v i wr => ∃ (d : Nat) (m : List Tr) (a2 : Addr) (e : Nat), d ≤ 11 ∧ i = .int .i64 d ∧ v = .slice (some a2) m.length e ∧ Hid (RT wr (.slice (some a2) m.length e) m ∧ wts m ≤ 200 + 20 * d) ∧ Hid (Below w.heap.size w wr) ∧ Hid (RT wr (.slice (some ⟨W1.heap.size, 0, none⟩) 6 6) L) ∧ Hid (RT wr (.slice (some ad) l.length c) l)) (fun _ i _ => 11 - (intOf i).toNat)
          case atStart => exact ⟨0, [t], _, 1, Nat.zero_le _, rfl, rfl, HL3, HB3, HR3, HI3⟩
          case round =>
            clear HL3 HB3 HR3 HI3
            obtain ⟨d, m, a2, e2, hd, rfl, rfl, HM, HB, HR, HI⟩ := hrel
            by_cases hdl : d < 11
            · have hd3 : decide ((d : Int) < 11) = true := by rw [decide_eq_true_eq]; omega
              have H1 := hide (HL.out.prn wr _ m HB.out HM.out.1 (by have := HM.out.2; omega))
              have hml : m.length ≤ 1000 := by have := HM.out.2; have := wts_len m; omega
              go_wp2_with fail
              refine H1.out.mono ?_
              rintro e w1 ⟨rfl, hb1⟩
              have B1 := hide (HB.out.trans (hb1.mono HB.out.size))
              have R1 := hide (RT_later HR.out hb1)
              have I1 := hide (RT_later HI.out hb1)
              have M1 := hide (RT_later HM.out.1 hb1)
              have HWM := hide HM.out.2
              clear hb1 H1 HB HR HI HM
              go_wp2_with (refine BigFrame.wpList_want (by rfl) ?_; intro K hK; refine wp_app_lit _ _ rfl ⟨[50, 48, 67], [], [], []⟩ a2 m e2 rfl rfl M1.out hml (fun v2 w2 hr2 hb2 => hK _ _ ?_))
              have B2 := hide (B1.out.trans (hb2.mono B1.out.size))
              have R2 := hide (RT_later R1.out hb2)
              have I2 := hide (RT_later I1.out hb2)
              have M2 := hide (RT_later M1.out hb2)
              have H2 := hide (HL.out.prn w2 v2 _ B2.out hr2 (by have := HWM.out; simp [wts, Tr.wt]; omega))
              clear hr2 hb2 B1 R1 I1 M1 hK K
              go_wp2_with fail
              refine H2.out.mono ?_
              rintro e w3 ⟨rfl, hb3⟩
              have B3 := hide (B2.out.trans (hb3.mono B2.out.size))
              have R3 := hide (RT_later R2.out hb3)
              have I3 := hide (RT_later I2.out hb3)
              have M3 := hide (RT_later M2.out hb3)
              clear hb3 H2 B2 R2 I2 M2
              have bA : Below w3.heap.size w3 (w3.alloc (.cells (itC [((Tr.mk ⟨[], [], [], [65]⟩ m), .slice (some a2) m.length e2)]).toArray 25)) := (Below.refl _ _).alloc (Nat.le_refl _) _
              have B4 := hide (B3.out.trans (bA.mono B3.out.size))
              have R4 := hide (RT_later R3.out bA)
              have I4 := hide (RT_later I3.out bA)
              have M4 : Hid (RT (w3.alloc (.cells (itC [((Tr.mk ⟨[], [], [], [65]⟩ m), .slice (some a2) m.length e2)]).toArray 25)) (.slice (some ⟨w3.heap.size, 0, none⟩) [(Tr.mk ⟨[], [], [], [65]⟩ m)].length 1) [(Tr.mk ⟨[], [], [], [65]⟩ m)] ∧ wts [(Tr.mk ⟨[], [], [], [65]⟩ m)] ≤ 200 + 20 * (d + 1)) := hide ⟨RT_litn [((Tr.mk ⟨[], [], [], [65]⟩ m), .slice (some a2) m.length e2)] _ _ rfl rfl rfl rfl (fun p hp => by rw [List.mem_singleton.1 hp]; exact M3.out), by have := HWM.out; simp [wts, Tr.wt]; omega⟩
              clear bA B3 R3 I3 M3
              go_wp2_with fail
              go_roundw
              case rel => exact ⟨d + 1, [(Tr.mk ⟨[], [], [], [65]⟩ m)], _, 1, by omega, by go_num, rfl, M4, B4, R4, I4⟩
              case measure => simp [intOf]; omega
            · have h' : d = 11 := by omega
              subst h'
              rw [show ((11 : Nat) : Int) = 11 from rfl]
              go_wp2_with fail
              go_roundw
              case rel => exact ⟨j + 1, by omega, by go_num, HB, HR, HI⟩
              case measure => simp [intOf]; omega
        · have h' : j = 6 := by omega
          subst h'
          rw [show ((6 : Nat) : Int) = 6 from rfl]
          clear HR h6 HW6
          go_wp2_with fail
          go_loopw [9, 10] (fun v i wr => ∃ (n : Nat) (s : List UInt8), n ≤ 9 ∧ i = .int .i64 n ∧ v = .string ⟨s.toArray⟩ ∧ s.length ≤ 100 * n ∧ Hid (Below w.heap.size w wr) ∧ Hid (RT wr (.slice (some ad) l.length c) l)) (fun _ i _ => 9 - (intOf i).toNat)
          case atStart => exact ⟨0, [], Nat.zero_le _, rfl, rfl, Nat.zero_le _, HB, HI⟩
          case round =>
            clear HB HI
            obtain ⟨n, s, hn, rfl, rfl, hs, HB, HI⟩ := hrel
            by_cases hnl : n < 9
            · have hd2 : decide ((n : Int) < 9) = true := by rw [decide_eq_true_eq]; omega
              obtain ⟨W0, rfl⟩ : ∃ W0, W0 = wr := ⟨_, rfl⟩
              have hs1 : s.length ≤ 1000 := by omega
              have HHs := hide hs
              have bA : Below W0.heap.size W0 (W0.alloc (.cells (stL.map fun x => Value.string ⟨x.toArray⟩).toArray 9)) := (Below.refl _ _).alloc (Nat.le_refl _) _
              have HB1 := hide (HB.out.trans (bA.mono HB.out.size))
              have HI1 := hide (RT_later HI.out bA)
              have HS1 := hide (ST.new W0 stL 9)
              obtain ⟨s2, hs2, hs3⟩ : ∃ s2 : List UInt8, (⟨s.toArray⟩ : ByteArray) ++ ⟨#[58, 50, 48, 67, 58, 58, 83, 69, 77, 69, 47, 47, 120, 10]⟩ = ⟨s2.toArray⟩ ∧ s2.length = s.length + 14 := ⟨s ++ [58, 50, 48, 67, 58, 58, 83, 69, 77, 69, 47, 47, 120, 10], by apply ByteArray.ext; simp, by simp⟩
              have HS3 := hide hs3
              have HLN : Hid (∀ k : Nat, k < 8 → ∃ x : List UInt8, stL[k]? = some x ∧ x.length ≤ 1000) := hide (by decide)
              clear hs hs3 bA HB HI
              go_wp2_with fail
              go_loopw [100] (fun i wr => ∃ k : Nat, k ≤ 8 ∧ i = .int .i64 k ∧ Hid (Below w.heap.size w wr) ∧ Hid (RT wr (.slice (some ad) l.length c) l) ∧ Hid (ST wr W0.heap.size stL)) (fun i _ => 8 - (intOf i).toNat)
              case atStart => exact ⟨0, Nat.zero_le _, rfl, HB1, HI1, HS1⟩
              case round =>
                clear HB1 HI1 HS1
                obtain ⟨k, hk, rfl, HB, HI, HS⟩ := hrel
                by_cases hkl : k < 8
                · have hd3 : decide ((k : Int) < 8) = true := by rw [decide_eq_true_eq]; omega
                  obtain ⟨x, hx, x1⟩ := HLN.out k hkl
                  have hxc := HS.out.2 k x hx
                  have k0 : (0 : Int) ≤ (k : Int) := by omega
                  have k1 : (k : Int) < 8 := by omega
                  clear hx
                  go_wp2_with fail
                  refine (HL.out.par wr _ HB.out (by (simp [ByteArray.size] <;> omega))).mono ?_
                  rintro e w1 ⟨rfl, hb1⟩
                  have B1 := hide (HB.out.trans (hb1.mono HB.out.size))
                  have I1 := hide (RT_later HI.out hb1)
                  have S1 := hide (HS.out.low hb1)
                  clear hb1 HB HI HS hxc
                  go_wp2_with fail
                  refine (HL.out.par w1 _ B1.out (by (simp [ByteArray.size] <;> omega))).mono ?_
                  rintro e w2 ⟨rfl, hb2⟩
                  have B2 := hide (B1.out.trans (hb2.mono B1.out.size))
                  have I2 := hide (RT_later I1.out hb2)
                  have S2 := hide (S1.out.low hb2)
                  clear hb2 B1 I1 S1
                  go_wp2_with fail
                  refine (HL.out.par w2 _ B2.out (by (simp [ByteArray.size] <;> omega))).mono ?_
                  rintro e w3 ⟨rfl, hb3⟩
                  have B3 := hide (B2.out.trans (hb3.mono B2.out.size))
                  have I3 := hide (RT_later I2.out hb3)
                  have S3 := hide (S2.out.low hb3)
                  clear hb3 B2 I2 S2
                  go_wp2_with fail
                  refine (HL.out.plc w3 _ B3.out (by (simp [ByteArray.size] <;> omega))).mono ?_
                  rintro e w4 ⟨rfl, hb4⟩
                  have B4 := hide (B3.out.trans (hb4.mono B3.out.size))
                  have I4 := hide (RT_later I3.out hb4)
                  have S4 := hide (S3.out.low hb4)
                  clear hb4 B3 I3 S3
                  go_wp2_with fail
                  go_roundw
                  case rel => exact ⟨k + 1, by omega, by go_num, B4, I4, S4⟩
                  case measure => simp [intOf]; omega
                · have h' : k = 8 := by omega
                  subst h'
                  rw [show ((8 : Nat) : Int) = 8 from rfl]
                  clear HS
                  go_wp2_with fail
                  go_roundw
                  case rel => exact ⟨n + 1, s2, by omega, by go_num, rfl, by have := HHs.out; have := HS3.out; omega, HB, HI⟩
                  case measure => simp [intOf]; omega
            · have h' : n = 9 := by omega
              subst h'
              rw [show ((9 : Nat) : Int) = 9 from rfl]
              clear hs
              have bA : Below wr.heap.size wr (wr.alloc (.cells (itC [((Tr.mk ⟨[], [], [], [97]⟩ l), .slice (some ad) l.length c)]).toArray 25)) := (Below.refl _ _).alloc (Nat.le_refl _) _
              have B1 := hide (HB.out.trans (bA.mono HB.out.size))
              have H1 := hide (HL.out.prn (wr.alloc (.cells (itC [((Tr.mk ⟨[], [], [], [97]⟩ l), .slice (some ad) l.length c)]).toArray 25)) (.slice (some ⟨wr.heap.size, 0, none⟩) 1 1) [(Tr.mk ⟨[], [], [], [97]⟩ l)] B1.out (RT_litn [((Tr.mk ⟨[], [], [], [97]⟩ l), .slice (some ad) l.length c)] _ _ rfl rfl rfl rfl (fun p hp => by rw [List.mem_singleton.1 hp]; exact HI.out)) (by have := HWI.out; simp [wts, Tr.wt]; omega))
              clear bA HB HI
              go_wp2_with fail
              refine H1.out.mono ?_
              rintro e w2 ⟨rfl, hb2⟩
              have B2 := hide (B1.out.trans (hb2.mono B1.out.size))
              clear hb2 H1 B1
              have bA : Below w.heap.size w (w2.alloc (.cells (itC [(Tr.mk ⟨[], [], [], []⟩ [], .slice none 0 0), ((Tr.mk ⟨[], [], [], [45]⟩ []), .slice none 0 0)]).toArray 25)) := B2.out.alloc B2.out.size _
              have B3 := hide (bA.alloc bA.size (.cells (itC [((Tr.mk ⟨[], [], [], [65]⟩ [Tr.mk ⟨[], [], [], []⟩ [], (Tr.mk ⟨[], [], [], [45]⟩ [])]), .slice (some ⟨w2.heap.size, 0, none⟩) 2 2)]).toArray 25))
              have r1 : RT (w2.alloc (.cells (itC [(Tr.mk ⟨[], [], [], []⟩ [], .slice none 0 0), ((Tr.mk ⟨[], [], [], [45]⟩ []), .slice none 0 0)]).toArray 25)) (.slice (some ⟨w2.heap.size, 0, none⟩) 2 2) [Tr.mk ⟨[], [], [], []⟩ [], (Tr.mk ⟨[], [], [], [45]⟩ [])] := RT_litn [(Tr.mk ⟨[], [], [], []⟩ [], .slice none 0 0), ((Tr.mk ⟨[], [], [], [45]⟩ []), .slice none 0 0)] _ _ rfl rfl rfl rfl (fun p hp => by simp only [List.mem_cons, List.not_mem_nil, or_false] at hp; rcases hp with rfl | rfl <;> exact RT_nil _)
              have H3 := hide (HL.out.prn _ (.slice (some ⟨w2.heap.size + 1, 0, none⟩) 1 1) [(Tr.mk ⟨[], [], [], [65]⟩ [Tr.mk ⟨[], [], [], []⟩ [], (Tr.mk ⟨[], [], [], [45]⟩ [])])] B3.out (RT_litn [((Tr.mk ⟨[], [], [], [65]⟩ [Tr.mk ⟨[], [], [], []⟩ [], (Tr.mk ⟨[], [], [], [45]⟩ [])]), .slice (some ⟨w2.heap.size, 0, none⟩) 2 2)] _ _ (by simp) rfl rfl rfl (fun p hp => by rw [List.mem_singleton.1 hp]; exact r1)) (by simp [wts, Tr.wt]))
              clear bA r1
              go_wp2_with fail
              refine H3.out.mono ?_
              rintro e w4 ⟨rfl, hb4⟩
              have B4 := hide (B3.out.trans (hb4.mono B3.out.size))
              clear hb4 H3 B3
              go_wp2_with fail
              go_ret
              exact ⟨rfl, B4.out⟩
end Go.Proofs.YtpkgaidnpooahaaGreatDoor
