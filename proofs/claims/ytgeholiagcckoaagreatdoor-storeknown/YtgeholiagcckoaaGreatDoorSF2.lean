/-
  My own text: layer 11: StoreScript: the law (printed by mksf2.py).
-/
import Derived.Test.YtgeholiagcckoaaGreatDoorSF1
import Derived.Test.YtgeholiagcckoaaGreatDoorSFh
import Derived.Test.YtgeholiagcckoaaGreatDoorSFh
import Derived.Test.YtgeholiagcckoaaGreatDoorQRs
import Derived.Deep.DeepCutAuto
namespace Go.Proofs.YtgeholiagcckoaaGreatDoor
open Go.RowKit Go.Extern Go.MapKept Go.ChangeMaps

def Gs (F0 F1 : Nat → Prop) (q0 q1 n0 n1 r0 r1 : Nat) : Bool → Sf := fun f => if f then ⟨F1, q1, n1, newX, 0, (fun x => x = r1), r1, [], [], .slice none 0 0, .slice none 0 0, 0⟩ else ⟨F0, q0, n0, newX, 0, (fun x => x = r0), r0, [], [], .slice none 0 0, .slice none 0 0, 0⟩
theorem SG.new (F : Nat → Prop) (q n r : Nat) (H : Nat → Prop) : SG ⟨F, q, n, newX, 0, H, r, [], [], .slice none 0 0, .slice none 0 0, 0⟩ 0 := ⟨StR.new _ (fun _ => rfl), fun p hp => (by cases hp), TotB.new, Nat.le_refl _, Nat.le_refl _⟩
theorem SL.start {w0 w : World} {F0 F1 : Nat → Prop} {q0 q1 n0 n1 xa ra r0 r1 : Nat} (h : Sep w0 w [SOp w0.heap.size q0 n0 newX 0 F0, SOp w0.heap.size q1 n1 newX 0 F1, BCp xa #[.pointer (some ⟨q0, 0, none⟩), .pointer (some ⟨q1, 0, none⟩)] 77, RFp w0.heap.size r0 (n0 : Int) [] [] (.slice none 0 0) (.slice none 0 0) 0 (fun x => x = r0), RFp w0.heap.size r1 (n1 : Int) [] [] (.slice none 0 0) (.slice none 0 0) 0 (fun x => x = r1), BCp ra #[.pointer (some ⟨r0, 0, none⟩), .pointer (some ⟨r1, 0, none⟩)] 80]) :
    SL w0 w xa ra (Gs F0 F1 q0 q1 n0 n1 r0 r1) (.slice none 0 0) [] [] := by
  have h2 := Sep.swap (cs := [SOp w0.heap.size q0 n0 newX 0 F0, SOp w0.heap.size q1 n1 newX 0 F1]) (a := BCp xa #[.pointer (some ⟨q0, 0, none⟩), .pointer (some ⟨q1, 0, none⟩)] 77) (b := RFp w0.heap.size r0 (n0 : Int) [] [] (.slice none 0 0) (.slice none 0 0) 0 (fun x => x = r0)) (ds := [RFp w0.heap.size r1 (n1 : Int) [] [] (.slice none 0 0) (.slice none 0 0) 0 (fun x => x = r1), BCp ra #[.pointer (some ⟨r0, 0, none⟩), .pointer (some ⟨r1, 0, none⟩)] 80]) h
  have h3 := Sep.swap (cs := [SOp w0.heap.size q0 n0 newX 0 F0, SOp w0.heap.size q1 n1 newX 0 F1, RFp w0.heap.size r0 (n0 : Int) [] [] (.slice none 0 0) (.slice none 0 0) 0 (fun x => x = r0)]) (a := BCp xa #[.pointer (some ⟨q0, 0, none⟩), .pointer (some ⟨q1, 0, none⟩)] 77) (b := RFp w0.heap.size r1 (n1 : Int) [] [] (.slice none 0 0) (.slice none 0 0) 0 (fun x => x = r1)) (ds := [BCp ra #[.pointer (some ⟨r0, 0, none⟩), .pointer (some ⟨r1, 0, none⟩)] 80]) h2
  have no : ∀ g, (TKp w0.heap.size (.slice none 0 0) []).O g → False := fun g hg => by
    rcases hg with e | ⟨u, hu, _⟩
    · cases e
    · cases hu
  have h4 := h3.add (c := TKp w0.heap.size (.slice none 0 0) []) (TKp.ok _ _ _) (TKk.nil _ _) (fun g hg => (no g hg).elim) (fun _ _ _ g hg _ => no g hg)
  exact ⟨h4⟩
theorem Tryz.sizeSS : (Tryz.prog.info? 77).map (·.size) = some 2 := by kernel_rfl
theorem Tryz.sizeRS : (Tryz.prog.info? 80).map (·.size) = some 2 := by kernel_rfl
theorem set_blkS {w : World} {g : Nat} {cs cs' : Array Value} {t : TypeId} (h : w.heap[g]? = some (.cells cs t (0, 0))) (i : Nat) (v : Value) (hc : cs.setIfInBounds i v = cs') : (w.setCell ⟨g, i, none⟩ v).heap[g]? = some (.cells cs' t (0, 0)) := by
  rw [heap_setCell_same _ _ _ _ _ _ h, hc]
theorem Sep.set2 {w0 w : World} {cs : List Cp} {i b : Nat} {x y : Value} {t : TypeId} (h : Sep w0 w cs) (hi : cs[i]? = some (BCp b #[x, y] t)) (u v : Value) : Sep w0 ((w.setCell ⟨b, 0, none⟩ u).setCell ⟨b, 1, none⟩ v) (cs.set i (BCp b #[u, v] t)) := by
  have s1 := h.step (c' := BCp b #[u, y] t) hi (FS.set (O := fun g => g = b) rfl) (BCp.ok _ _ _) (set_blkS (h.is i _ hi) 0 u rfl) (fun _ hg => .inl hg)
  have hi1 : (cs.set i (BCp b #[u, y] t))[i]? = some (BCp b #[u, y] t) := by rw [List.getElem?_set_self (List.getElem?_eq_some_iff.1 hi).1]
  have s2 := s1.step (c' := BCp b #[u, v] t) hi1 (FS.set (O := fun g => g = b) rfl) (BCp.ok _ _ _) (set_blkS (s1.is i _ hi1) 1 v rfl) (fun _ hg => .inl hg)
  rw [List.set_set] at s2
  exact s2
theorem Sep.cells2 {w0 w : World} {cs : List Cp} {i b : Nat} {x y : Value} {t : TypeId} (h : Sep w0 w cs) (hi : cs[i]? = some (BCp b #[x, y] t)) : w.cell? ⟨b, 0, none⟩ = some x ∧ w.cell? ⟨b, 1, none⟩ = some y ∧ w.frozen? ⟨b, 0, none⟩ = false ∧ w.frozen? ⟨b, 1, none⟩ = false := by
  have hb : w.heap[b]? = some (.cells #[x, y] t (0, 0)) := h.is i _ hi
  exact ⟨by rw [cell_of_row _ _ 0 _ _ _ hb]; rfl, by rw [cell_of_row _ _ 1 _ _ _ hb]; rfl, by simp [World.frozen?, hb], by simp [World.frozen?, hb]⟩
theorem avNK_le8 {w : World} {B : Nat} {vt : Value} {TL : List (Value × List (Int × Int))} (h : TKk w B vt TL) (k : Nat) : avNK TL k ≤ 8796093022000 := by
  unfold avNK
  split
  · next u hu => exact h.len u (List.mem_of_getElem? hu)
  · omega
theorem meas_upS {n k : Nat} (h : k < n) : n - (intOf (.int .i64 ((k : Int) + 1))).toNat < n - (intOf (.int .i64 (k : Int))).toNat := by simp [intOf]; omega
theorem ixS {n m : Nat} (h : n < m) (hm : m ≤ 8796093022000) : decide ((n : Int) < (m : Int)) = true ∧ (0 : Int) ≤ (n : Int) ∧ (n : Int) < (m : Int) ∧ wrap64 ((n : Int) + 1) = (n : Int) + 1 :=
  ⟨decide_eq_true (by omega), by omega, by omega, by unfold wrap64; omega⟩
set_option maxRecDepth 100000 in
set_option maxHeartbeats 16000000 in
theorem script_law (a b : Int) (v : Value) (ps : List Cl) (w : World) (hET : ErrType w) (hr : RCl w v ps) (hk : ∀ p ∈ ps, KOK p.k ∧ IOK p.N ∧ p.N ≤ 9223372036854775807) (hps : ps.length ≤ 2600000000000) :
    Calls Tryz.prog 23 #[.int .i64 a, .int .i64 b, v] w fun e w' => e = .returned (.bool true) ∧ Below w.heap.size w w' := by
  obtain ⟨sa, scap, rfl, hcell⟩ := hr
  obtain ⟨na, hna⟩ := cnt_nat a
  obtain ⟨nb, hnb⟩ := cnt_nat b
  have HC := hide hcell
  have HK := hide hk
  have HL := hide hps
  have HET := hide hET
  have HNA := hide hna
  have HNB := hide hnb
  have HN1 := hide (Sep.newS (w0 := w) (Sep.nil (Below.refl _ _)) a na hna)
  clear hcell hk hps hET hna hnb
  go_enter Tryz.func23, Tryz.ntmps23
  go_wp2_with fail
  refine HN1.out.mono ?_
  rintro e w1 ⟨q0, F0, rfl, H1⟩
  have HN2 := hide (H1.out.newS b nb HNB.out)
  clear HN1
  go_wp2_with fail
  refine HN2.out.mono ?_
  rintro e w2 ⟨q1, F1, rfl, H2⟩
  clear HN2 H1
  obtain ⟨W3, hW3⟩ : ∃ W, w2.alloc (.cells #[.pointer none, .pointer none] 77) = W := ⟨_, rfl⟩
  have H3 := hide (H2.out.box #[.pointer none, .pointer none] 77)
  rw [hW3] at H3
  clear H2
  obtain ⟨x0, x1, y0, y1⟩ := H3.out.cells2 (i := 2) rfl
  have HN3 : Hid (∀ W, Sep w W [SOp w.heap.size q0 na newX 0 F0, SOp w.heap.size q1 nb newX 0 F1, BCp w2.heap.size #[.pointer (some ⟨q0, 0, none⟩), .pointer (some ⟨q1, 0, none⟩)] 77] → Calls Tryz.prog 44 #[.int .i64 a] W fun e w' => ∃ rb, e = .returned (.pointer (some ⟨rb, 0, none⟩)) ∧ Hid (Sep w w' [SOp w.heap.size q0 na newX 0 F0, SOp w.heap.size q1 nb newX 0 F1, BCp w2.heap.size #[.pointer (some ⟨q0, 0, none⟩), .pointer (some ⟨q1, 0, none⟩)] 77, RFp w.heap.size rb (na : Int) [] [] (.slice none 0 0) (.slice none 0 0) 0 (fun x => x = rb)])) := hide (fun W h => h.newR a na HNA.out)
  have H4 := hide (H3.out.set2 (i := 2) rfl (.pointer (some ⟨q0, 0, none⟩)) (.pointer (some ⟨q1, 0, none⟩)))
  clear H3
  go_wp2_with fail
  refine (HN3.out _ H4.out).mono ?_
  rintro e w4 ⟨r0, rfl, H5⟩
  obtain ⟨xa, hxa⟩ : ∃ xa, w2.heap.size = xa := ⟨_, rfl⟩
  rw [hxa] at H5 ⊢
  clear hxa
  have HN4 := hide (H5.out.newR b nb HNB.out)
  clear HN3 H4 x0 x1 y0 y1
  go_wp2_with fail
  refine HN4.out.mono ?_
  rintro e w5 ⟨r1, rfl, H6⟩
  clear HN4 H5
  obtain ⟨W6, hW6⟩ : ∃ W, w5.alloc (.cells #[.pointer none, .pointer none] 80) = W := ⟨_, rfl⟩
  have H7 := hide (H6.out.box #[.pointer none, .pointer none] 80)
  rw [hW6] at H7
  obtain ⟨x0, x1, y0, y1⟩ := H7.out.cells2 (i := 5) rfl
  have H8 := hide (SL.start (H7.out.set2 (i := 5) rfl (.pointer (some ⟨r0, 0, none⟩)) (.pointer (some ⟨r1, 0, none⟩))))
  obtain ⟨W8, hW8⟩ : ∃ W, (W6.setCell ⟨w5.heap.size, 0, none⟩ (.pointer (some ⟨r0, 0, none⟩))).setCell ⟨w5.heap.size, 1, none⟩ (.pointer (some ⟨r1, 0, none⟩)) = W := ⟨_, rfl⟩
  rw [hW8] at H8
  have z0 := H8.out.xf false
  have z1 := H8.out.xf true
  rw [show (false : Bool).toNat = 0 from rfl] at z0
  rw [show (true : Bool).toNat = 1 from rfl] at z1
  have z0' : W8.cell? ⟨xa, 0, none⟩ = some (.pointer (some ⟨q0, 0, none⟩)) := z0
  have z1' : W8.cell? ⟨xa, 1, none⟩ = some (.pointer (some ⟨q1, 0, none⟩)) := z1
  have gn := gtNilS
  have HW := hide (worksS_any W8 (hide (HET.out.below H8.out.bl)))
  have HSG : Hid (∀ f, SG (Gs F0 F1 q0 q1 na nb r0 r1 f) 0) := hide (fun f => by cases f; exact SG.new _ _ _ _ _; exact SG.new _ _ _ _ _)
  clear H6 H7 z0 z1
  go_wp2_with fail
  obtain ⟨ra, hra⟩ : ∃ ra, w5.heap.size = ra := ⟨_, rfl⟩
  rw [hra] at H8 ⊢
  clear hra
  refine HW.out.mono ?_
  rintro e w9 ⟨rfl, hb9⟩
  have H9 := hide (H8.out.later hb9)
  clear HW hb9 H8 hW3 hW6 x0 x1 y0 y1 z0' z1' gn hW8 HNA HNB
  go_wp2_with fail
  go_loopw [9, 10] (fun vt i wr => ∃ (k : Nat) (G : Bool → Sf) (TL : List (Value × List (Int × Int))), k ≤ ps.length ∧ i = .int .i64 (k : Int) ∧ Hid (SL w wr xa ra G vt TL []) ∧ Hid (∀ f, SG (G f) k) ∧ Hid (TL.length ≤ 2 * k)) (fun _ i _ => ps.length - (intOf i).toNat)
  case atStart => exact ⟨0, _, [], Nat.zero_le _, rfl, H9, HSG, hide (Nat.zero_le _)⟩
  case round =>
    clear H9 HSG
    obtain ⟨k, G, TL, hk, rfl, HP, HSG, HTL⟩ := hrel
    obtain ⟨ta, tc, hvt⟩ := HP.out.tk.slc
    subst hvt
    by_cases hlt : k < ps.length
    · obtain ⟨p, hp⟩ : ∃ p, ps[k]? = some p := ⟨_, List.getElem?_eq_getElem hlt⟩
      obtain ⟨sb, soff, ha, e0, e1, e2, e3, e4, e5⟩ := HC.out k p hp
      subst ha
      have hgl : sb < w.heap.size := World.block_lt_of_cell? _ _ e0
      have c0 : wr.cell? ⟨sb, soff + k * 6, none⟩ = some (.int .i64 p.on) := (HP.out.bl.cell (p := ⟨sb, _, none⟩) hgl).trans e0
      have c1 : wr.cell? ⟨sb, soff + k * 6 + 1, none⟩ = some (.int .i64 p.kind) := (HP.out.bl.cell (p := ⟨sb, _, none⟩) hgl).trans e1
      have HE : Hid (∀ W, Below w.heap.size w W → (fun W : World => W.cell? ⟨sb, soff + k * 6, none⟩ = some (.int .i64 p.on) ∧ W.cell? ⟨sb, soff + k * 6 + 1, none⟩ = some (.int .i64 p.kind) ∧ W.cell? ⟨sb, soff + k * 6 + 2, none⟩ = some (.int .i64 p.k.1) ∧ W.cell? ⟨sb, soff + k * 6 + 3, none⟩ = some (.int .i64 p.k.2) ∧ W.cell? ⟨sb, soff + k * 6 + 4, none⟩ = some (.int .i64 p.N) ∧ W.cell? ⟨sb, soff + k * 6 + 5, none⟩ = some (.string ⟨p.V.toArray⟩)) W) := hide (fun W hb => ⟨(hb.cell (p := ⟨sb, _, none⟩) hgl).trans e0, (hb.cell (p := ⟨sb, _, none⟩) hgl).trans e1, (hb.cell (p := ⟨sb, _, none⟩) hgl).trans e2, (hb.cell (p := ⟨sb, _, none⟩) hgl).trans e3, (hb.cell (p := ⟨sb, _, none⟩) hgl).trans e4, (hb.cell (p := ⟨sb, _, none⟩) hgl).trans e5⟩)
      have HPO := hide (HK.out p (List.mem_of_getElem? hp))
      obtain ⟨hd1, i0, i1, wk⟩ := ixS hlt (by have := HL.out; omega)
      obtain ⟨f, hf⟩ := f_ofS p.on
      obtain ⟨kk, hkk⟩ : ∃ kk, f.toNat = kk := ⟨_, rfl⟩
      have HKK : Hid (kk < 2) := hide (by rw [← hkk]; exact bool_ltS f)
      have HKF := hide hkk
      obtain ⟨hb, hhb⟩ : ∃ hb, (G f).sb = hb := ⟨_, rfl⟩
      obtain ⟨rb, hrb⟩ : ∃ rb, (G f).rb = rb := ⟨_, rfl⟩
      have HHB := hide hhb
      have HRB := hide hrb
      have HPK := hide (pick_any p.on 2 wr (by omega) (by omega))
      rw [hf, hkk] at HPK
      have HLT := hide hlt
      clear hp hgl hk e0 e1 e2 e3 e4 e5 hf hkk hhb hrb hlt
      go_wp2_with fail
      refine HPK.out.mono ?_
      rintro r w9 ⟨rfl, e9⟩
      replace e9 := e9.symm
      subst e9
      clear HPK
      have j0 : (0 : Int) ≤ (kk : Int) := Int.natCast_nonneg _
      have j1 : (kk : Int) < 2 := by have := HKK.out; omega
      have j2 : kk < 2 := HKK.out
      by_cases h3 : p.kind = 3
      · have n3 : (p.kind != 3) = false := by simp [h3]
        as_aux_lemma =>
          obtain ⟨L, hL, hLk, _, _⟩ := (HSG.out f).kl HP.out
          have HKL := hide hL
          have HKB : Hid (k ≤ 2600000000000) := hide (by have := HLT.out; have := HL.out; omega)
          have HLL : Hid (L.length ≤ 8796093022000) := hide (by have := HKB.out; omega)
          have HC1 : Hid (∀ (W : World) (ex : List Cp), SL w W xa ra G (.slice ta TL.length tc) TL ex → Calls Tryz.prog 10 #[.pointer (some ⟨hb, 0, none⟩)] W fun e w' => ∃ a cap, e = .returned (.slice a L.length cap) ∧ Hid (SL w w' xa ra G (.slice ta TL.length tc) TL (ex ++ [OKp w.heap.size (.slice a L.length cap) L]))) := hide (fun W ex h => by rw [← HHB.out]; exact h.keys f HKL.out (by have := (HSG.out f).le; have := HKB.out; omega))
          have HC2 : Hid (∀ (W : World) (ex : List Cp), SL w W xa ra G (.slice ta TL.length tc) TL ex → Calls Tryz.prog 49 #[.pointer (some ⟨rb, 0, none⟩)] W fun e w' => ∃ a cap, e = .returned (.slice a L.length cap) ∧ Hid (SL w w' xa ra G (.slice ta TL.length tc) TL (ex ++ [OKp w.heap.size (.slice a L.length cap) L]))) := hide (fun W ex h => by rw [← HRB.out]; exact h.rkeys f (HSG.out f) HKB.out HKL.out)
          have HX : Hid (∀ (W : World) (ex : List Cp), SL w W xa ra G (.slice ta TL.length tc) TL ex → W.cell? ⟨xa, kk, none⟩ = some (.pointer (some ⟨hb, 0, none⟩)) ∧ W.cell? ⟨ra, kk, none⟩ = some (.pointer (some ⟨rb, 0, none⟩))) := hide (fun W ex h => ⟨by rw [← HKF.out, ← HHB.out]; exact h.xf f, by rw [← HKF.out, ← HRB.out]; exact h.rf f⟩)
          obtain ⟨g0, -⟩ := HX.out _ _ HP.out
          clear hL hLk c0 h3
          go_wp2_with fail
          refine (HC1.out _ _ HP.out).mono ?_
          rintro e w1 ⟨a1, cp1, rfl, H1⟩
          obtain ⟨g1, -⟩ := HX.out _ _ H1.out
          clear HP g0
          go_wp2_with fail
          refine (HC1.out _ _ H1.out).mono ?_
          rintro e w2 ⟨a2, cp2, rfl, H2⟩
          obtain ⟨-, g2⟩ := HX.out _ _ H2.out
          clear H1 g1 HC1
          go_wp2_with fail
          refine (HC2.out _ _ H2.out).mono ?_
          rintro e w3 ⟨a3, cp3, rfl, H3⟩
          clear H2 g2
          have HC3 := hide (H3.out.same (i := 0) (j := 2) rfl rfl HLL.out)
          go_wp2_with fail
          refine HC3.out.mono ?_
          rintro e w4 ⟨rfl, H4⟩
          obtain ⟨-, g4⟩ := HX.out _ _ H4.out
          clear H3 HC3
          go_wp2_with fail
          refine (HC2.out _ _ H4.out).mono ?_
          rintro e w5 ⟨a5, cp5, rfl, H5⟩
          clear H4 g4 HC2
          have HC3 := hide (H5.out.same (i := 1) (j := 3) rfl rfl HLL.out)
          go_wp2_with fail
          refine HC3.out.mono ?_
          rintro e w6 ⟨rfl, H6'⟩
          have H6 : Hid (SL w w6 xa ra G (.slice ta TL.length tc) TL ([] ++ [OKp w.heap.size (.slice a1 L.length cp1) L, OKp w.heap.size (.slice a2 L.length cp2) L])) := hide (SL.drop (ex := [OKp w.heap.size (.slice a1 L.length cp1) L, OKp w.heap.size (.slice a2 L.length cp2) L]) (ds := [OKp w.heap.size (.slice a3 L.length cp3) L, OKp w.heap.size (.slice a5 L.length cp5) L]) H6'.out)
          clear H5 HC3 H6' HX
          have H7 : Hid (SL w (w6.alloc (.cells #[.slice a1 L.length cp1, .slice a2 L.length cp2] 31)) xa ra G (.slice ta TL.length tc) TL ([] ++ [OKp w.heap.size (.slice a1 L.length cp1) L, OKp w.heap.size (.slice a2 L.length cp2) L])) := hide (H6.out.later ((Below.refl w6.heap.size w6).alloc (Nat.le_refl _) _))
          obtain ⟨it, hit, hz0, hz1, hz2⟩ := info_parts KY.Tryz.infoMS
          have HTB : Hid (TL.length + 2 ≤ 5200000000000) := hide (by have := HTL.out; have := HLT.out; have := HL.out; omega)
          have HRW := hide H7.out.tk.row
          obtain ⟨cs, hcs⟩ : ∃ cs, TL.map (·.1) = cs := ⟨_, rfl⟩
          rw [hcs] at HRW
          have HCS := hide hcs
          have HBS : Hid (w.heap.size ≤ (w6.alloc (.cells #[.slice a1 L.length cp1, .slice a2 L.length cp2] 31)).heap.size) := hide H7.out.bl.size
          clear hcs
          go_wp2_with (first
            | (at_builtin; refine wpList_append_own_at _ rfl _ _ 81 rfl w.heap.size 31 it (.slice none 0 0) 1 24 Tryz.underlying81 hit hz0 hz1 hz2 rfl (by decide) _ _ _ rfl HRW.out ⟨_, 0, none⟩ 2 2 [.slice a1 L.length cp1, .slice a2 L.length cp2] rfl rfl ?c1 ?c2 ?c3 ?c4 ?c5 ?_))
          case c3 => have := HTB.out; unfold maxLen; omega
          case c4 => have := HTB.out; omega
          case c5 => exact HBS.out
          case c1 =>
            obtain ⟨k0, k1⟩ := pair_cells (alloc_new w6 (.cells #[.slice a1 L.length cp1, .slice a2 L.length cp2] 31)) rfl
            intro j u hj
            match j, hj with
            | 0, hj => have e : _ = u := Option.some.inj hj; rw [← e]; exact k0
            | 1, hj => have e : _ = u := Option.some.inj hj; rw [← e]; exact k1
            | j + 2, hj => simp at hj
          case c2 => intro u hu; simp at hu; rcases hu with rfl | rfl <;> rfl
          intro v8 w8 hown hgrow _ hat
          rw [← HCS.out] at hown
          have H8 := hide (H7.out.tell2 hown hgrow (hat.imp_right (fun e => by rw [e]; simp)) HLL.out HLL.out)
          have HZ2 := hide (SGs.next HSG.out)
          clear hown hgrow hat HRW H7 H6 hit hz0 hz1 hz2 HBS
          go_wp2_with fail
          go_roundw
          case rel => exact ⟨k + 1, G, _, HLT.out, congrArg (Value.int .i64) wk, H8, HZ2, hide (by rw [List.length_append]; have := HTL.out; show TL.length + 2 ≤ _; omega)⟩
          case measure => first | exact meas_upS HLT.out | (rw [wk]; exact meas_upS HLT.out)
      · have n3 : (p.kind != 3) = true := by simp [h3]
        as_aux_lemma =>
          have HPd := hide (HP.out.later ((Below.refl wr.heap.size wr).drew))
          obtain ⟨A0, hA⟩ : ∃ A, ansA (G f).X (G f).R (G f).n p = A := ⟨_, rfl⟩
          obtain ⟨As, Ax, Ab⟩ := A0
          have HRW : Hid (rwl (G f).R ≤ k) := hide (by obtain ⟨L, _, _, _, h4⟩ := (HSG.out f).kl HP.out; exact h4)
          have HKB : Hid (k ≤ 2600000000000) := hide (by have := HLT.out; have := HL.out; omega)
          have HC1 : Hid (Calls Tryz.prog 46 #[.pointer (some ⟨hb, 0, none⟩), .agg #[.int .i64 p.on, .int .i64 p.kind, .int .i64 p.k.1, .int .i64 p.k.2, .int .i64 p.N, .string ⟨p.V.toArray⟩]] wr.drew fun e w' => e = .returned (.agg #[.string ⟨As.toArray⟩, .int .i64 Ax, .bool Ab]) ∧ ∃ F', Hid (SL w w' xa ra (upF f (askF (G f) p F') G) (.slice ta TL.length tc) TL [])) := hide (by
            have h := HPd.out.ask f (HSG.out f) HKB.out HET.out p HPO.out
            rw [hA, HHB.out] at h
            exact h)
          have HC2 : Hid (∀ (W : World) (F' : Nat → Prop), SL w W xa ra (upF f (askF (G f) p F') G) (.slice ta TL.length tc) TL [] → Calls Tryz.prog 47 #[.pointer (some ⟨rb, 0, none⟩), .agg #[.int .i64 p.on, .int .i64 p.kind, .int .i64 p.k.1, .int .i64 p.k.2, .int .i64 p.N, .string ⟨p.V.toArray⟩]] W fun e w' => e = .returned (.agg #[.string ⟨As.toArray⟩, .int .i64 Ax, .bool Ab]) ∧ ∃ x : Sf, x.sb = hb ∧ x.rb = rb ∧ Hid (SL w w' xa ra (upF f x G) (.slice ta TL.length tc) TL []) ∧ Hid (SG x (k + 1))) := hide (fun W F' hh => by
            have h := SL.tell f hh (HSG.out f) HKB.out HRW.out HPO.out
            rw [hA, HRB.out, HHB.out] at h
            exact h)
          have HX0 : Hid (∀ W, SL w W xa ra G (.slice ta TL.length tc) TL [] → (fun W : World => W.cell? ⟨xa, kk, none⟩ = some (.pointer (some ⟨hb, 0, none⟩)) ∧ W.cell? ⟨ra, kk, none⟩ = some (.pointer (some ⟨rb, 0, none⟩)) ∧ W.cell? ⟨sb, soff + k * 6, none⟩ = some (.int .i64 p.on) ∧ W.cell? ⟨sb, soff + k * 6 + 1, none⟩ = some (.int .i64 p.kind) ∧ W.cell? ⟨sb, soff + k * 6 + 2, none⟩ = some (.int .i64 p.k.1) ∧ W.cell? ⟨sb, soff + k * 6 + 3, none⟩ = some (.int .i64 p.k.2) ∧ W.cell? ⟨sb, soff + k * 6 + 4, none⟩ = some (.int .i64 p.N) ∧ W.cell? ⟨sb, soff + k * 6 + 5, none⟩ = some (.string ⟨p.V.toArray⟩)) W) := hide (fun W h => ⟨by rw [← HKF.out, ← HHB.out]; exact h.xf f, by rw [← HKF.out, ← HRB.out]; exact h.rf f, HE.out W h.bl⟩)
          have HX1 : Hid (∀ W F', SL w W xa ra (upF f (askF (G f) p F') G) (.slice ta TL.length tc) TL [] → (fun W : World => W.cell? ⟨xa, kk, none⟩ = some (.pointer (some ⟨hb, 0, none⟩)) ∧ W.cell? ⟨ra, kk, none⟩ = some (.pointer (some ⟨rb, 0, none⟩)) ∧ W.cell? ⟨sb, soff + k * 6, none⟩ = some (.int .i64 p.on) ∧ W.cell? ⟨sb, soff + k * 6 + 1, none⟩ = some (.int .i64 p.kind) ∧ W.cell? ⟨sb, soff + k * 6 + 2, none⟩ = some (.int .i64 p.k.1) ∧ W.cell? ⟨sb, soff + k * 6 + 3, none⟩ = some (.int .i64 p.k.2) ∧ W.cell? ⟨sb, soff + k * 6 + 4, none⟩ = some (.int .i64 p.N) ∧ W.cell? ⟨sb, soff + k * 6 + 5, none⟩ = some (.string ⟨p.V.toArray⟩)) W) := hide (fun W F' h => ⟨by have e := h.xf f; rw [upF_at] at e; rw [← HKF.out, ← HHB.out]; exact e, by have e := h.rf f; rw [upF_at] at e; rw [← HKF.out, ← HRB.out]; exact e, HE.out W h.bl⟩)
          have HX2 : Hid (∀ W (x : Sf), x.sb = hb → x.rb = rb → SL w W xa ra (upF f x G) (.slice ta TL.length tc) TL [] → (fun W : World => W.cell? ⟨xa, kk, none⟩ = some (.pointer (some ⟨hb, 0, none⟩)) ∧ W.cell? ⟨ra, kk, none⟩ = some (.pointer (some ⟨rb, 0, none⟩)) ∧ W.cell? ⟨sb, soff + k * 6, none⟩ = some (.int .i64 p.on) ∧ W.cell? ⟨sb, soff + k * 6 + 1, none⟩ = some (.int .i64 p.kind) ∧ W.cell? ⟨sb, soff + k * 6 + 2, none⟩ = some (.int .i64 p.k.1) ∧ W.cell? ⟨sb, soff + k * 6 + 3, none⟩ = some (.int .i64 p.k.2) ∧ W.cell? ⟨sb, soff + k * 6 + 4, none⟩ = some (.int .i64 p.N) ∧ W.cell? ⟨sb, soff + k * 6 + 5, none⟩ = some (.string ⟨p.V.toArray⟩)) W) := hide (fun W x a1 a2 h => ⟨by have e := h.xf f; rw [upF_at, a1] at e; rw [← HKF.out]; exact e, by have e := h.rf f; rw [upF_at, a2] at e; rw [← HKF.out]; exact e, HE.out W h.bl⟩)
          have gq := run_neq_sd ⟨As.toArray⟩ Ax Ab
          have hHeld := hide (HX0.out _ HPd.out)
          clear hA c0
          go_wp2_with fail
          refine s_begins (S := (fun W : World => W.cell? ⟨xa, kk, none⟩ = some (.pointer (some ⟨hb, 0, none⟩)) ∧ W.cell? ⟨ra, kk, none⟩ = some (.pointer (some ⟨rb, 0, none⟩)) ∧ W.cell? ⟨sb, soff + k * 6, none⟩ = some (.int .i64 p.on) ∧ W.cell? ⟨sb, soff + k * 6 + 1, none⟩ = some (.int .i64 p.kind) ∧ W.cell? ⟨sb, soff + k * 6 + 2, none⟩ = some (.int .i64 p.k.1) ∧ W.cell? ⟨sb, soff + k * 6 + 3, none⟩ = some (.int .i64 p.k.2) ∧ W.cell? ⟨sb, soff + k * 6 + 4, none⟩ = some (.int .i64 p.N) ∧ W.cell? ⟨sb, soff + k * 6 + 5, none⟩ = some (.string ⟨p.V.toArray⟩))) [] 17 #[false, false, false, false, false, false, false, false, false, false, false, false, false, false, false, false, false] (by kernel_rfl) (by kernel_rfl) (by kernel_rfl) ?_
          refine sk0 (v := ?_) 0 55 #[true, false, false, false, false, false, false, false, false, false, false, false, false, false, false, false, false] rfl rfl (by kernel_rfl) (by kernel_rfl) (by kernel_rfl) (by kernel_rfl) (fun _ _ _ h => h) (by kernel_rfl) (by rfl) ?hy (fun _ => hHeld.out) ?_
          case hy => intro W; first | (go_simp; done) | (go_simp; with_reducible rfl)
          simp only [List.setIfInBounds_toArray, List.set_cons_zero, List.set_cons_succ]
          refine sk0 (v := ?_) 1 56 #[true, true, false, false, false, false, false, false, false, false, false, false, false, false, false, false, false] rfl rfl (by kernel_rfl) (by kernel_rfl) (by kernel_rfl) (by kernel_rfl) (fun _ _ _ h => h) (by kernel_rfl) (by rfl) ?hy (fun _ => hHeld.out) ?_
          case hy => intro W; first | (go_simp; done) | (go_simp; with_reducible rfl)
          simp only [List.setIfInBounds_toArray, List.set_cons_zero, List.set_cons_succ]
          refine sk1 (v := ?_) 2 57 #[true, true, true, false, false, false, false, false, false, false, false, false, false, false, false, false, false] rfl rfl (by kernel_rfl) (by kernel_rfl) (by kernel_rfl) (by kernel_rfl) (by kernel_rfl) (by kernel_rfl) (fun _ _ _ h => h) (by kernel_rfl) (by rfl) ?hy hHeld.out ?_
          case hy => rintro W ⟨r0, r1, r2, r3, r4, r5, r6, r7⟩; first | (go_simp; done) | (go_simp; with_reducible rfl)
          simp only [List.setIfInBounds_toArray, List.set_cons_zero, List.set_cons_succ]
          refine sk0 (v := ?_) 3 58 #[true, true, true, true, false, false, false, false, false, false, false, false, false, false, false, false, false] rfl rfl (by kernel_rfl) (by kernel_rfl) (by kernel_rfl) (by kernel_rfl) (fun _ _ _ h => h) (by kernel_rfl) (by rfl) ?hy (fun _ => hHeld.out) ?_
          case hy => intro W; first | (go_simp; done) | (go_simp; with_reducible rfl)
          simp only [List.setIfInBounds_toArray, List.set_cons_zero, List.set_cons_succ]
          refine sk0 (v := ?_) 4 59 #[true, true, true, true, true, false, false, false, false, false, false, false, false, false, false, false, false] rfl rfl (by kernel_rfl) (by kernel_rfl) (by kernel_rfl) (by kernel_rfl) (fun _ _ _ h => h) (by kernel_rfl) (by rfl) ?hy (fun _ => hHeld.out) ?_
          case hy => intro W; first | (go_simp; done) | (go_simp; with_reducible rfl)
          simp only [List.setIfInBounds_toArray, List.set_cons_zero, List.set_cons_succ]
          refine sk0 (v := ?_) 5 60 #[true, true, true, true, true, true, false, false, false, false, false, false, false, false, false, false, false] rfl rfl (by kernel_rfl) (by kernel_rfl) (by kernel_rfl) (by kernel_rfl) (fun _ _ _ h => h) (by kernel_rfl) (by rfl) ?hy (fun _ => hHeld.out) ?_
          case hy => intro W; first | (go_simp; done) | (go_simp; with_reducible rfl)
          simp only [List.setIfInBounds_toArray, List.set_cons_zero, List.set_cons_succ]
          refine sk1 (v := ?_) 6 61 #[true, true, true, true, true, true, true, false, false, false, false, false, false, false, false, false, false] rfl rfl (by kernel_rfl) (by kernel_rfl) (by kernel_rfl) (by kernel_rfl) (by kernel_rfl) (by kernel_rfl) (fun _ _ _ h => h) (by kernel_rfl) (by rfl) ?hy hHeld.out ?_
          case hy => rintro W ⟨r0, r1, r2, r3, r4, r5, r6, r7⟩; first | (go_simp; done) | (go_simp; with_reducible rfl)
          simp only [List.setIfInBounds_toArray, List.set_cons_zero, List.set_cons_succ]
          refine sk0 (v := ?_) 8 63 #[true, true, true, true, true, true, true, false, true, false, false, false, false, false, false, false, false] rfl rfl (by kernel_rfl) (by kernel_rfl) (by kernel_rfl) (by kernel_rfl) (fun _ _ _ h => h) (by kernel_rfl) (by rfl) ?hy (fun _ => hHeld.out) ?_
          case hy => intro W; first | (go_simp; done) | (go_simp; with_reducible rfl)
          simp only [List.setIfInBounds_toArray, List.set_cons_zero, List.set_cons_succ]
          refine sk0 (v := ?_) 9 64 #[true, true, true, true, true, true, true, false, true, true, false, false, false, false, false, false, false] rfl rfl (by kernel_rfl) (by kernel_rfl) (by kernel_rfl) (by kernel_rfl) (fun _ _ _ h => h) (by kernel_rfl) (by rfl) ?hy (fun _ => hHeld.out) ?_
          case hy => intro W; first | (go_simp; done) | (go_simp; with_reducible rfl)
          simp only [List.setIfInBounds_toArray, List.set_cons_zero, List.set_cons_succ]
          refine sk1 (v := ?_) 10 65 #[true, true, true, true, true, true, true, false, true, true, true, false, false, false, false, false, false] rfl rfl (by kernel_rfl) (by kernel_rfl) (by kernel_rfl) (by kernel_rfl) (by kernel_rfl) (by kernel_rfl) (fun _ _ _ h => h) (by kernel_rfl) (by rfl) ?hy hHeld.out ?_
          case hy => rintro W ⟨r0, r1, r2, r3, r4, r5, r6, r7⟩; first | (go_simp; done) | (go_simp; with_reducible rfl)
          simp only [List.setIfInBounds_toArray, List.set_cons_zero, List.set_cons_succ]
          refine sk0 (v := ?_) 11 66 #[true, true, true, true, true, true, true, false, true, true, true, true, false, false, false, false, false] rfl rfl (by kernel_rfl) (by kernel_rfl) (by kernel_rfl) (by kernel_rfl) (fun _ _ _ h => h) (by kernel_rfl) (by rfl) ?hy (fun _ => hHeld.out) ?_
          case hy => intro W; first | (go_simp; done) | (go_simp; with_reducible rfl)
          simp only [List.setIfInBounds_toArray, List.set_cons_zero, List.set_cons_succ]
          refine sk0 (v := ?_) 12 67 #[true, true, true, true, true, true, true, false, true, true, true, true, true, false, false, false, false] rfl rfl (by kernel_rfl) (by kernel_rfl) (by kernel_rfl) (by kernel_rfl) (fun _ _ _ h => h) (by kernel_rfl) (by rfl) ?hy (fun _ => hHeld.out) ?_
          case hy => intro W; first | (go_simp; done) | (go_simp; with_reducible rfl)
          simp only [List.setIfInBounds_toArray, List.set_cons_zero, List.set_cons_succ]
          refine sk0 (v := ?_) 13 68 #[true, true, true, true, true, true, true, false, true, true, true, true, true, true, false, false, false] rfl rfl (by kernel_rfl) (by kernel_rfl) (by kernel_rfl) (by kernel_rfl) (fun _ _ _ h => h) (by kernel_rfl) (by rfl) ?hy (fun _ => hHeld.out) ?_
          case hy => intro W; first | (go_simp; done) | (go_simp; with_reducible rfl)
          simp only [List.setIfInBounds_toArray, List.set_cons_zero, List.set_cons_succ]
          refine sk1 (v := ?_) 14 69 #[true, true, true, true, true, true, true, false, true, true, true, true, true, true, true, false, false] rfl rfl (by kernel_rfl) (by kernel_rfl) (by kernel_rfl) (by kernel_rfl) (by kernel_rfl) (by kernel_rfl) (fun _ _ _ h => h) (by kernel_rfl) (by rfl) ?hy hHeld.out ?_
          case hy => rintro W ⟨r0, r1, r2, r3, r4, r5, r6, r7⟩; first | (go_simp; done) | (go_simp; with_reducible rfl)
          simp only [List.setIfInBounds_toArray, List.set_cons_zero, List.set_cons_succ]
          refine s_ready 7 #[true, true, true, true, true, true, true, true, true, true, true, true, true, true, true, false, false] rfl (by kernel_rfl) (by kernel_rfl) (by rfl) (fun K hK => ?_)
          go_simp
          refine HC1.out.mono ?_
          rintro e w5 ⟨rfl, F5, H5⟩
          refine hK.out _ _ (fun _ => HX1.out _ _ H5.out) ?_
          clear hK K
          refine s_ready 15 #[true, true, true, true, true, true, true, true, true, true, true, true, true, true, true, true, false] rfl (by kernel_rfl) (by kernel_rfl) (by rfl) (fun K hK => ?_)
          go_simp
          refine (HC2.out _ _ H5.out).mono ?_
          rintro e w6 ⟨rfl, x6, q6, t6, H6, S6⟩
          refine hK.out _ _ (fun _ => HX2.out _ _ q6 t6 H6.out) ?_
          clear hK K
          refine s_ready 16 #[true, true, true, true, true, true, true, true, true, true, true, true, true, true, true, true, true] rfl (by kernel_rfl) (by kernel_rfl) (by rfl) (fun K hK => ?_)
          go_simp
          refine hK.out _ _ (fun _ => HX2.out _ _ q6 t6 H6.out) ?_
          clear hK K
          refine s_done (by kernel_rfl) ?_ _
          have HZ2 := hide (SGs.up (f := f) HSG.out S6.out)
          clear HC1 HC2 HX0 HX1 HX2 H5 S6 HPd
          go_wp2_with fail
          go_roundw
          case rel => exact ⟨k + 1, _, TL, HLT.out, congrArg (Value.int .i64) wk, H6, HZ2, hide (by have := HTL.out; omega)⟩
          case measure => first | exact meas_upS HLT.out | (rw [wk]; exact meas_upS HLT.out)
    · skip
      as_aux_lemma =>
        have e : k = ps.length := by omega
        subst e
        have HLN2 : decide ((ps.length : Int) < (ps.length : Int)) = false := by simp
        have HAP : Hid (Calls Tryz.prog 50 #[.slice ta TL.length tc] wr fun e w' => e = .returned (.bool true) ∧ Hid (SL w w' xa ra G (.slice none 0 0) [] [])) := hide (by
          have h' := HP.out
          rcases HP.out.tk.row.2 with ⟨hv, h0⟩ | ⟨g, cap, cur, hv, _, _, h1, _⟩
          · have hT : TL = [] := List.eq_nil_of_length_eq_zero h0
            rw [hv] at h' ⊢
            rw [hT] at h'
            refine (apartKeys_nil wr).mono ?_
            rintro e w' ⟨rfl, hb⟩
            exact ⟨rfl, hide (h'.later hb)⟩
          · rw [hv] at h' ⊢
            refine (KY.apartMarks_sp w.heap.size g TL.length cap (avOK TL) (avNK TL) (avCK TL) (avRK TL) wr h'.tk.all (avNK_le8 h'.tk) (by have := HTL.out; have := HL.out; omega) h1 h'.bl.size).mono ?_
            rintro e w' ⟨rfl, hs⟩
            exact ⟨rfl, hide (h'.apart hs)⟩)
        clear hk hlt
        go_wp2_with fail
        refine HAP.out.mono ?_
        rintro e w5 ⟨rfl, H5⟩
        clear HP HAP HLN2
        go_wp2_with fail
        go_loopw [14] (fun i wr => ∃ m : Nat, m ≤ 2 ∧ i = .int .i64 (m : Int) ∧ Hid (SL w wr xa ra G (.slice none 0 0) [] [])) (fun i _ => 2 - (intOf i).toNat)
        case atStart => exact ⟨0, Nat.zero_le _, rfl, H5⟩
        case round =>
          clear H5
          obtain ⟨m, hm, rfl, HP⟩ := hrel
          by_cases hlt : m < 2
          · skip
            as_aux_lemma =>
              obtain ⟨f, hf⟩ : ∃ f : Bool, f.toNat = m := by
                rcases (show m = 0 ∨ m = 1 by omega) with rfl | rfl
                · exact ⟨false, rfl⟩
                · exact ⟨true, rfl⟩
              have HKF := hide hf
              obtain ⟨L, hL, hLk, _, _⟩ := (HSG.out f).kl HP.out
              have HKL := hide hL
              have HLL : Hid (L.length ≤ 8796093022000) := hide (by have := HL.out; omega)
              obtain ⟨hb, hhb⟩ : ∃ hb, (G f).sb = hb := ⟨_, rfl⟩
              obtain ⟨rb, hrb⟩ : ∃ rb, (G f).rb = rb := ⟨_, rfl⟩
              obtain ⟨nn, hnn⟩ : ∃ nn, (G f).n = nn := ⟨_, rfl⟩
              obtain ⟨vv, hvv⟩ : ∃ vv, rwl (G f).R = vv := ⟨_, rfl⟩
              have HHB := hide hhb
              have HRB := hide hrb
              have HNN := hide hnn
              have HVV := hide hvv
              have hd1 : decide ((m : Int) < 2) = true := decide_eq_true (by omega)
              have i0 : (0 : Int) ≤ (m : Int) := Int.natCast_nonneg _
              have i1 : (m : Int) < 2 := by omega
              have wk : wrap64 ((m : Int) + 1) = (m : Int) + 1 := by unfold wrap64; omega
              have HLT := hide hlt
              have j2 : m < 2 := hlt
              have hne1 : ((vv : Int) != (vv : Int)) = false := by simp
              have hne2 : ((nn : Int) != (nn : Int)) = false := by simp
              clear hf hhb hrb hnn hvv hm hlt hL hLk
              have HPd := hide (HP.out.later ((Below.refl wr.heap.size wr).drew))
              have HX : Hid (∀ (W : World) (ex : List Cp), SL w W xa ra G (.slice none 0 0) [] ex → (fun W : World => W.cell? ⟨xa, m, none⟩ = some (.pointer (some ⟨hb, 0, none⟩)) ∧ W.cell? ⟨ra, m, none⟩ = some (.pointer (some ⟨rb, 0, none⟩)) ∧ W.cell? ⟨rb, 0, none⟩ = some (.int .i64 (nn : Int))) W) := hide (fun W ex h => ⟨by rw [← HKF.out, ← HHB.out]; exact h.xf f, by rw [← HKF.out, ← HRB.out]; exact h.rf f, by rw [← HRB.out, ← HNN.out]; exact h.shc f⟩)
              have HC1 : Hid (∀ (W : World) (ex : List Cp), SL w W xa ra G (.slice none 0 0) [] ex → Calls Tryz.prog 10 #[.pointer (some ⟨hb, 0, none⟩)] W fun e w' => ∃ a cap, e = .returned (.slice a L.length cap) ∧ Hid (SL w w' xa ra G (.slice none 0 0) [] (ex ++ [OKp w.heap.size (.slice a L.length cap) L]))) := hide (fun W ex h => by rw [← HHB.out]; exact h.keys f HKL.out (by have := (HSG.out f).le; have := HL.out; omega))
              have HC2 : Hid (∀ (W : World) (ex : List Cp), SL w W xa ra G (.slice none 0 0) [] ex → Calls Tryz.prog 49 #[.pointer (some ⟨rb, 0, none⟩)] W fun e w' => ∃ a cap, e = .returned (.slice a L.length cap) ∧ Hid (SL w w' xa ra G (.slice none 0 0) [] (ex ++ [OKp w.heap.size (.slice a L.length cap) L]))) := hide (fun W ex h => by rw [← HRB.out]; exact h.rkeys f (HSG.out f) HL.out HKL.out)
              have HC3 : Hid (∀ (W : World) (ex : List Cp), SL w W xa ra G (.slice none 0 0) [] ex → Calls Tryz.prog 16 #[.pointer (some ⟨hb, 0, none⟩)] W fun e w' => e = .returned (.int .i64 (vv : Int)) ∧ Hid (SL w w' xa ra G (.slice none 0 0) [] ex)) := hide (fun W ex h => by rw [← HHB.out, ← HVV.out]; exact h.vers f (HSG.out f) HL.out)
              have HC4 : Hid (∀ (W : World) (ex : List Cp), SL w W xa ra G (.slice none 0 0) [] ex → Calls Tryz.prog 51 #[.pointer (some ⟨rb, 0, none⟩)] W fun e w' => e = .returned (.int .i64 (vv : Int)) ∧ Hid (SL w w' xa ra G (.slice none 0 0) [] ex)) := hide (fun W ex h => by rw [← HRB.out, ← HVV.out]; exact h.rvers f (HSG.out f) HL.out)
              have HC5 : Hid (∀ (W : World) (ex : List Cp), SL w W xa ra G (.slice none 0 0) [] ex → Calls Tryz.prog 9 #[.pointer (some ⟨hb, 0, none⟩)] W fun e w' => e = .returned (.int .i64 (nn : Int)) ∧ Hid (SL w w' xa ra G (.slice none 0 0) [] ex)) := hide (fun W ex h => by rw [← HHB.out, ← HNN.out]; exact h.shards f)
              have hHeld := hide (HX.out _ _ HPd.out)
              clear HP
              go_wp2_with fail
              refine s_begins (S := (fun W : World => W.cell? ⟨xa, m, none⟩ = some (.pointer (some ⟨hb, 0, none⟩)) ∧ W.cell? ⟨ra, m, none⟩ = some (.pointer (some ⟨rb, 0, none⟩)) ∧ W.cell? ⟨rb, 0, none⟩ = some (.int .i64 (nn : Int)))) [] 34 #[false, false, false, false, false, false, false, false, false, false, false, false, false, false, false, false, false, false, false, false, false, false, false, false, false, false, false, false, false, false, false, false, false, false] (by kernel_rfl) (by kernel_rfl) (by kernel_rfl) ?_
              refine sk0 (v := ?_) 0 108 #[true, false, false, false, false, false, false, false, false, false, false, false, false, false, false, false, false, false, false, false, false, false, false, false, false, false, false, false, false, false, false, false, false, false] rfl rfl (by kernel_rfl) (by kernel_rfl) (by kernel_rfl) (by kernel_rfl) (fun _ _ _ h => h) (by kernel_rfl) (by rfl) ?hy (fun _ => hHeld.out) ?_
              case hy => intro W; first | (go_simp; done) | (go_simp; with_reducible rfl)
              simp only [List.setIfInBounds_toArray, List.set_cons_zero, List.set_cons_succ]
              refine sk0 (v := ?_) 1 109 #[true, true, false, false, false, false, false, false, false, false, false, false, false, false, false, false, false, false, false, false, false, false, false, false, false, false, false, false, false, false, false, false, false, false] rfl rfl (by kernel_rfl) (by kernel_rfl) (by kernel_rfl) (by kernel_rfl) (fun _ _ _ h => h) (by kernel_rfl) (by rfl) ?hy (fun _ => hHeld.out) ?_
              case hy => intro W; first | (go_simp; done) | (go_simp; with_reducible rfl)
              simp only [List.setIfInBounds_toArray, List.set_cons_zero, List.set_cons_succ]
              refine sk1 (v := ?_) 2 110 #[true, true, true, false, false, false, false, false, false, false, false, false, false, false, false, false, false, false, false, false, false, false, false, false, false, false, false, false, false, false, false, false, false, false] rfl rfl (by kernel_rfl) (by kernel_rfl) (by kernel_rfl) (by kernel_rfl) (by kernel_rfl) (by kernel_rfl) (fun _ _ _ h => h) (by kernel_rfl) (by rfl) ?hy hHeld.out ?_
              case hy => rintro W ⟨r0, r1, r2⟩; first | (go_simp; done) | (go_simp; with_reducible rfl)
              simp only [List.setIfInBounds_toArray, List.set_cons_zero, List.set_cons_succ]
              refine sk0 (v := ?_) 4 112 #[true, true, true, false, true, false, false, false, false, false, false, false, false, false, false, false, false, false, false, false, false, false, false, false, false, false, false, false, false, false, false, false, false, false] rfl rfl (by kernel_rfl) (by kernel_rfl) (by kernel_rfl) (by kernel_rfl) (fun _ _ _ h => h) (by kernel_rfl) (by rfl) ?hy (fun _ => hHeld.out) ?_
              case hy => intro W; first | (go_simp; done) | (go_simp; with_reducible rfl)
              simp only [List.setIfInBounds_toArray, List.set_cons_zero, List.set_cons_succ]
              refine sk0 (v := ?_) 5 113 #[true, true, true, false, true, true, false, false, false, false, false, false, false, false, false, false, false, false, false, false, false, false, false, false, false, false, false, false, false, false, false, false, false, false] rfl rfl (by kernel_rfl) (by kernel_rfl) (by kernel_rfl) (by kernel_rfl) (fun _ _ _ h => h) (by kernel_rfl) (by rfl) ?hy (fun _ => hHeld.out) ?_
              case hy => intro W; first | (go_simp; done) | (go_simp; with_reducible rfl)
              simp only [List.setIfInBounds_toArray, List.set_cons_zero, List.set_cons_succ]
              refine sk1 (v := ?_) 6 114 #[true, true, true, false, true, true, true, false, false, false, false, false, false, false, false, false, false, false, false, false, false, false, false, false, false, false, false, false, false, false, false, false, false, false] rfl rfl (by kernel_rfl) (by kernel_rfl) (by kernel_rfl) (by kernel_rfl) (by kernel_rfl) (by kernel_rfl) (fun _ _ _ h => h) (by kernel_rfl) (by rfl) ?hy hHeld.out ?_
              case hy => rintro W ⟨r0, r1, r2⟩; first | (go_simp; done) | (go_simp; with_reducible rfl)
              simp only [List.setIfInBounds_toArray, List.set_cons_zero, List.set_cons_succ]
              refine s_ready 3 #[true, true, true, true, true, true, true, false, false, false, false, false, false, false, false, false, false, false, false, false, false, false, false, false, false, false, false, false, false, false, false, false, false, false] rfl (by kernel_rfl) (by kernel_rfl) (by rfl) (fun K hK => ?_)
              go_simp
              refine (HC1.out _ _ HPd.out).mono ?_
              rintro e w1 ⟨a1, cp1, rfl, H1⟩
              refine hK.out _ _ (fun _ => HX.out _ _ H1.out) ?_
              clear hK K
              refine s_ready 7 #[true, true, true, true, true, true, true, true, false, false, false, false, false, false, false, false, false, false, false, false, false, false, false, false, false, false, false, false, false, false, false, false, false, false] rfl (by kernel_rfl) (by kernel_rfl) (by rfl) (fun K hK => ?_)
              go_simp
              refine (HC2.out _ _ H1.out).mono ?_
              rintro e w2 ⟨a2, cp2, rfl, H2⟩
              refine hK.out _ _ (fun _ => HX.out _ _ H2.out) ?_
              clear hK K
              refine s_ready 8 #[true, true, true, true, true, true, true, true, true, false, false, false, false, false, false, false, false, false, false, false, false, false, false, false, false, false, false, false, false, false, false, false, false, false] rfl (by kernel_rfl) (by kernel_rfl) (by rfl) (fun K hK => ?_)
              go_simp
              refine (H2.out.same (i := 0) (j := 1) rfl rfl HLL.out).mono ?_
              rintro e w3 ⟨rfl, H3⟩
              refine hK.out _ _ (fun _ => HX.out _ _ H3.out) ?_
              clear hK K
              replace hHeld := hide (HX.out _ _ H3.out)
              refine sk0 (v := ?_) 9 117 #[true, true, true, true, true, true, true, true, true, true, false, false, false, false, false, false, false, false, false, false, false, false, false, false, false, false, false, false, false, false, false, false, false, false] rfl rfl (by kernel_rfl) (by kernel_rfl) (by kernel_rfl) (by kernel_rfl) (fun _ _ _ h => h) (by kernel_rfl) (by rfl) ?hy (fun _ => hHeld.out) ?_
              case hy => intro W; first | (go_simp; done) | (go_simp; with_reducible rfl)
              simp only [List.setIfInBounds_toArray, List.set_cons_zero, List.set_cons_succ]
              refine sk0 (v := ?_) 10 118 #[true, true, true, true, true, true, true, true, true, true, true, false, false, false, false, false, false, false, false, false, false, false, false, false, false, false, false, false, false, false, false, false, false, false] rfl rfl (by kernel_rfl) (by kernel_rfl) (by kernel_rfl) (by kernel_rfl) (fun _ _ _ h => h) (by kernel_rfl) (by rfl) ?hy (fun _ => hHeld.out) ?_
              case hy => intro W; first | (go_simp; done) | (go_simp; with_reducible rfl)
              simp only [List.setIfInBounds_toArray, List.set_cons_zero, List.set_cons_succ]
              refine sk0 (v := ?_) 11 119 #[true, true, true, true, true, true, true, true, true, true, true, true, false, false, false, false, false, false, false, false, false, false, false, false, false, false, false, false, false, false, false, false, false, false] rfl rfl (by kernel_rfl) (by kernel_rfl) (by kernel_rfl) (by kernel_rfl) (fun _ _ _ h => h) (by kernel_rfl) (by rfl) ?hy (fun _ => hHeld.out) ?_
              case hy => intro W; first | (go_simp; done) | (go_simp; with_reducible rfl)
              simp only [List.setIfInBounds_toArray, List.set_cons_zero, List.set_cons_succ]
              refine sk0 (v := ?_) 12 120 #[true, true, true, true, true, true, true, true, true, true, true, true, true, false, false, false, false, false, false, false, false, false, false, false, false, false, false, false, false, false, false, false, false, false] rfl rfl (by kernel_rfl) (by kernel_rfl) (by kernel_rfl) (by kernel_rfl) (fun _ _ _ h => h) (by kernel_rfl) (by rfl) ?hy (fun _ => hHeld.out) ?_
              case hy => intro W; first | (go_simp; done) | (go_simp; with_reducible rfl)
              simp only [List.setIfInBounds_toArray, List.set_cons_zero, List.set_cons_succ]
              refine sk1 (v := ?_) 13 121 #[true, true, true, true, true, true, true, true, true, true, true, true, true, true, false, false, false, false, false, false, false, false, false, false, false, false, false, false, false, false, false, false, false, false] rfl rfl (by kernel_rfl) (by kernel_rfl) (by kernel_rfl) (by kernel_rfl) (by kernel_rfl) (by kernel_rfl) (fun _ _ _ h => h) (by kernel_rfl) (by rfl) ?hy hHeld.out ?_
              case hy => rintro W ⟨r0, r1, r2⟩; first | (go_simp; done) | (go_simp; with_reducible rfl)
              simp only [List.setIfInBounds_toArray, List.set_cons_zero, List.set_cons_succ]
              refine sk0 (v := ?_) 15 123 #[true, true, true, true, true, true, true, true, true, true, true, true, true, true, false, true, false, false, false, false, false, false, false, false, false, false, false, false, false, false, false, false, false, false] rfl rfl (by kernel_rfl) (by kernel_rfl) (by kernel_rfl) (by kernel_rfl) (fun _ _ _ h => h) (by kernel_rfl) (by rfl) ?hy (fun _ => hHeld.out) ?_
              case hy => intro W; first | (go_simp; done) | (go_simp; with_reducible rfl)
              simp only [List.setIfInBounds_toArray, List.set_cons_zero, List.set_cons_succ]
              refine sk0 (v := ?_) 16 124 #[true, true, true, true, true, true, true, true, true, true, true, true, true, true, false, true, true, false, false, false, false, false, false, false, false, false, false, false, false, false, false, false, false, false] rfl rfl (by kernel_rfl) (by kernel_rfl) (by kernel_rfl) (by kernel_rfl) (fun _ _ _ h => h) (by kernel_rfl) (by rfl) ?hy (fun _ => hHeld.out) ?_
              case hy => intro W; first | (go_simp; done) | (go_simp; with_reducible rfl)
              simp only [List.setIfInBounds_toArray, List.set_cons_zero, List.set_cons_succ]
              refine sk1 (v := ?_) 17 125 #[true, true, true, true, true, true, true, true, true, true, true, true, true, true, false, true, true, true, false, false, false, false, false, false, false, false, false, false, false, false, false, false, false, false] rfl rfl (by kernel_rfl) (by kernel_rfl) (by kernel_rfl) (by kernel_rfl) (by kernel_rfl) (by kernel_rfl) (fun _ _ _ h => h) (by kernel_rfl) (by rfl) ?hy hHeld.out ?_
              case hy => rintro W ⟨r0, r1, r2⟩; first | (go_simp; done) | (go_simp; with_reducible rfl)
              simp only [List.setIfInBounds_toArray, List.set_cons_zero, List.set_cons_succ]
              refine s_ready 14 #[true, true, true, true, true, true, true, true, true, true, true, true, true, true, true, true, true, true, false, false, false, false, false, false, false, false, false, false, false, false, false, false, false, false] rfl (by kernel_rfl) (by kernel_rfl) (by rfl) (fun K hK => ?_)
              go_simp
              refine (HC3.out _ _ H3.out).mono ?_
              rintro e w4 ⟨rfl, H4⟩
              refine hK.out _ _ (fun _ => HX.out _ _ H4.out) ?_
              clear hK K
              refine s_ready 18 #[true, true, true, true, true, true, true, true, true, true, true, true, true, true, true, true, true, true, true, false, false, false, false, false, false, false, false, false, false, false, false, false, false, false] rfl (by kernel_rfl) (by kernel_rfl) (by rfl) (fun K hK => ?_)
              go_simp
              refine (HC4.out _ _ H4.out).mono ?_
              rintro e w5 ⟨rfl, H5⟩
              refine hK.out _ _ (fun _ => HX.out _ _ H5.out) ?_
              clear hK K
              replace hHeld := hide (HX.out _ _ H5.out)
              refine sk0 (v := ?_) 19 127 #[true, true, true, true, true, true, true, true, true, true, true, true, true, true, true, true, true, true, true, true, false, false, false, false, false, false, false, false, false, false, false, false, false, false] rfl rfl (by kernel_rfl) (by kernel_rfl) (by kernel_rfl) (by kernel_rfl) (fun _ _ _ h => h) (by kernel_rfl) (by rfl) ?hy (fun _ => hHeld.out) ?_
              case hy => intro W; first | (go_simp; done) | (go_simp; with_reducible rfl)
              simp only [List.setIfInBounds_toArray, List.set_cons_zero, List.set_cons_succ]
              refine sk0 (v := ?_) 20 128 #[true, true, true, true, true, true, true, true, true, true, true, true, true, true, true, true, true, true, true, true, true, false, false, false, false, false, false, false, false, false, false, false, false, false] rfl rfl (by kernel_rfl) (by kernel_rfl) (by kernel_rfl) (by kernel_rfl) (fun _ _ _ h => h) (by kernel_rfl) (by rfl) ?hy (fun _ => hHeld.out) ?_
              case hy => intro W; first | (go_simp; done) | (go_simp; with_reducible rfl)
              simp only [List.setIfInBounds_toArray, List.set_cons_zero, List.set_cons_succ]
              refine sk0 (v := ?_) 21 129 #[true, true, true, true, true, true, true, true, true, true, true, true, true, true, true, true, true, true, true, true, true, true, false, false, false, false, false, false, false, false, false, false, false, false] rfl rfl (by kernel_rfl) (by kernel_rfl) (by kernel_rfl) (by kernel_rfl) (fun _ _ _ h => h) (by kernel_rfl) (by rfl) ?hy (fun _ => hHeld.out) ?_
              case hy => intro W; first | (go_simp; done) | (go_simp; with_reducible rfl)
              simp only [List.setIfInBounds_toArray, List.set_cons_zero, List.set_cons_succ]
              refine sk0 (v := ?_) 22 130 #[true, true, true, true, true, true, true, true, true, true, true, true, true, true, true, true, true, true, true, true, true, true, true, false, false, false, false, false, false, false, false, false, false, false] rfl rfl (by kernel_rfl) (by kernel_rfl) (by kernel_rfl) (by kernel_rfl) (fun _ _ _ h => h) (by kernel_rfl) (by rfl) ?hy (fun _ => hHeld.out) ?_
              case hy => intro W; first | (go_simp; done) | (go_simp; with_reducible rfl)
              simp only [List.setIfInBounds_toArray, List.set_cons_zero, List.set_cons_succ]
              refine sk0 (v := ?_) 23 131 #[true, true, true, true, true, true, true, true, true, true, true, true, true, true, true, true, true, true, true, true, true, true, true, true, false, false, false, false, false, false, false, false, false, false] rfl rfl (by kernel_rfl) (by kernel_rfl) (by kernel_rfl) (by kernel_rfl) (fun _ _ _ h => h) (by kernel_rfl) (by rfl) ?hy (fun _ => hHeld.out) ?_
              case hy => intro W; first | (go_simp; done) | (go_simp; with_reducible rfl)
              simp only [List.setIfInBounds_toArray, List.set_cons_zero, List.set_cons_succ]
              refine sk1 (v := ?_) 24 132 #[true, true, true, true, true, true, true, true, true, true, true, true, true, true, true, true, true, true, true, true, true, true, true, true, true, false, false, false, false, false, false, false, false, false] rfl rfl (by kernel_rfl) (by kernel_rfl) (by kernel_rfl) (by kernel_rfl) (by kernel_rfl) (by kernel_rfl) (fun _ _ _ h => h) (by kernel_rfl) (by rfl) ?hy hHeld.out ?_
              case hy => rintro W ⟨r0, r1, r2⟩; first | (go_simp; done) | (go_simp; with_reducible rfl)
              simp only [List.setIfInBounds_toArray, List.set_cons_zero, List.set_cons_succ]
              refine sk0 (v := ?_) 26 134 #[true, true, true, true, true, true, true, true, true, true, true, true, true, true, true, true, true, true, true, true, true, true, true, true, true, false, true, false, false, false, false, false, false, false] rfl rfl (by kernel_rfl) (by kernel_rfl) (by kernel_rfl) (by kernel_rfl) (fun _ _ _ h => h) (by kernel_rfl) (by rfl) ?hy (fun _ => hHeld.out) ?_
              case hy => intro W; first | (go_simp; done) | (go_simp; with_reducible rfl)
              simp only [List.setIfInBounds_toArray, List.set_cons_zero, List.set_cons_succ]
              refine sk0 (v := ?_) 27 135 #[true, true, true, true, true, true, true, true, true, true, true, true, true, true, true, true, true, true, true, true, true, true, true, true, true, false, true, true, false, false, false, false, false, false] rfl rfl (by kernel_rfl) (by kernel_rfl) (by kernel_rfl) (by kernel_rfl) (fun _ _ _ h => h) (by kernel_rfl) (by rfl) ?hy (fun _ => hHeld.out) ?_
              case hy => intro W; first | (go_simp; done) | (go_simp; with_reducible rfl)
              simp only [List.setIfInBounds_toArray, List.set_cons_zero, List.set_cons_succ]
              refine sk1 (v := ?_) 28 136 #[true, true, true, true, true, true, true, true, true, true, true, true, true, true, true, true, true, true, true, true, true, true, true, true, true, false, true, true, true, false, false, false, false, false] rfl rfl (by kernel_rfl) (by kernel_rfl) (by kernel_rfl) (by kernel_rfl) (by kernel_rfl) (by kernel_rfl) (fun _ _ _ h => h) (by kernel_rfl) (by rfl) ?hy hHeld.out ?_
              case hy => rintro W ⟨r0, r1, r2⟩; first | (go_simp; done) | (go_simp; with_reducible rfl)
              simp only [List.setIfInBounds_toArray, List.set_cons_zero, List.set_cons_succ]
              refine sk0 (v := ?_) 29 137 #[true, true, true, true, true, true, true, true, true, true, true, true, true, true, true, true, true, true, true, true, true, true, true, true, true, false, true, true, true, true, false, false, false, false] rfl rfl (by kernel_rfl) (by kernel_rfl) (by kernel_rfl) (by kernel_rfl) (fun _ _ _ h => h) (by kernel_rfl) (by rfl) ?hy (fun _ => hHeld.out) ?_
              case hy => intro W; first | (go_simp; done) | (go_simp; with_reducible rfl)
              simp only [List.setIfInBounds_toArray, List.set_cons_zero, List.set_cons_succ]
              refine sk0 (v := ?_) 30 138 #[true, true, true, true, true, true, true, true, true, true, true, true, true, true, true, true, true, true, true, true, true, true, true, true, true, false, true, true, true, true, true, false, false, false] rfl rfl (by kernel_rfl) (by kernel_rfl) (by kernel_rfl) (by kernel_rfl) (fun _ _ _ h => h) (by kernel_rfl) (by rfl) ?hy (fun _ => hHeld.out) ?_
              case hy => intro W; first | (go_simp; done) | (go_simp; with_reducible rfl)
              simp only [List.setIfInBounds_toArray, List.set_cons_zero, List.set_cons_succ]
              refine sk1 (v := ?_) 31 139 #[true, true, true, true, true, true, true, true, true, true, true, true, true, true, true, true, true, true, true, true, true, true, true, true, true, false, true, true, true, true, true, true, false, false] rfl rfl (by kernel_rfl) (by kernel_rfl) (by kernel_rfl) (by kernel_rfl) (by kernel_rfl) (by kernel_rfl) (fun _ _ _ h => h) (by kernel_rfl) (by rfl) ?hy hHeld.out ?_
              case hy => rintro W ⟨r0, r1, r2⟩; first | (go_simp; done) | (go_simp; with_reducible rfl)
              simp only [List.setIfInBounds_toArray, List.set_cons_zero, List.set_cons_succ]
              refine s_ready 25 #[true, true, true, true, true, true, true, true, true, true, true, true, true, true, true, true, true, true, true, true, true, true, true, true, true, true, true, true, true, true, true, true, false, false] rfl (by kernel_rfl) (by kernel_rfl) (by rfl) (fun K hK => ?_)
              go_simp
              refine (HC5.out _ _ H5.out).mono ?_
              rintro e w6 ⟨rfl, H6⟩
              refine hK.out _ _ (fun _ => HX.out _ _ H6.out) ?_
              clear hK K
              replace hHeld := hide (HX.out _ _ H6.out)
              refine sk0 (v := ?_) 32 140 #[true, true, true, true, true, true, true, true, true, true, true, true, true, true, true, true, true, true, true, true, true, true, true, true, true, true, true, true, true, true, true, true, true, false] rfl rfl (by kernel_rfl) (by kernel_rfl) (by kernel_rfl) (by kernel_rfl) (fun _ _ _ h => h) (by kernel_rfl) (by rfl) ?hy (fun _ => hHeld.out) ?_
              case hy => intro W; first | (go_simp; done) | (go_simp; with_reducible rfl)
              simp only [List.setIfInBounds_toArray, List.set_cons_zero, List.set_cons_succ]
              refine sk0 (v := ?_) 33 141 #[true, true, true, true, true, true, true, true, true, true, true, true, true, true, true, true, true, true, true, true, true, true, true, true, true, true, true, true, true, true, true, true, true, true] rfl rfl (by kernel_rfl) (by kernel_rfl) (by kernel_rfl) (by kernel_rfl) (fun _ _ _ h => h) (by kernel_rfl) (by rfl) ?hy (fun _ => hHeld.out) ?_
              case hy => intro W; first | (go_simp; done) | (go_simp; with_reducible rfl)
              simp only [List.setIfInBounds_toArray, List.set_cons_zero, List.set_cons_succ]
              refine s_done (by kernel_rfl) ?_ _
              have H7 := hide H6.out.bare
              clear H1 H2 H3 H4 H5 H6 HC1 HC2 HC3 HC4 HC5 HX hHeld HPd
              go_wp2_with fail
              go_roundw
              case rel => exact ⟨m + 1, HLT.out, (by first | rfl | exact congrArg (Value.int .i64) wk), H7⟩
              case measure => first | exact meas_upS HLT.out | (rw [wk]; exact meas_upS HLT.out)
          · have e : m = 2 := by omega
            subst e
            have HBL := hide HP.out.bl
            clear HP
            go_wp2_with fail
            go_ret
            exact ⟨rfl, HBL.out⟩
end Go.Proofs.YtgeholiagcckoaaGreatDoor
