/-
  My own text: layer 11: StoreShards: the law (printed by mksu3.py).
-/
import Derived.Test.YtehacdijleommaaGreatDoorSU2
import Derived.Test.YtehacdijleommaaGreatDoorQRs
import Derived.Test.YtehacdijleommaaGreatDoorSM5
namespace Go.Proofs.YtehacdijleommaaGreatDoor
open Go.RowKit

def SOp (B sb n : Nat) (X : Sx) (kk : Nat) (F : Nat → Prop) : Cp := ⟨F, fun w => SO B w sb n X kk F⟩
theorem SOp.ok (B sb n : Nat) (X : Sx) (kk : Nat) (F : Nat → Prop) : (SOp B sb n X kk F).Ok := ⟨fun _ _ h hs hk => h.kept hk hs, fun _ h g hg => (h.fb g hg).2⟩
theorem cnt_nat (s : Int) : ∃ n : Nat, (n : Int) = cnt s := ⟨(cnt s).toNat, by have := cnt_lo s; omega⟩
theorem gtNilU (q : Nat) (W : World) : (binOp .eql 25 (.pointer (some ⟨q, 0, none⟩)) (.pointer none)).run Tryz.prog W = .ok (.bool false) W := by kernel_rfl
theorem meas_upS {n k : Nat} (h : k < n) : n - (intOf (.int .i64 ((k : Int) + 1))).toNat < n - (intOf (.int .i64 (k : Int))).toNat := by simp [intOf]; omega
theorem ixS {n m : Nat} (h : n < m) (hm : m ≤ 8796093022000) : decide ((n : Int) < (m : Int)) = true ∧ (0 : Int) ≤ (n : Int) ∧ (n : Int) < (m : Int) ∧ wrap64 ((n : Int) + 1) = (n : Int) + 1 :=
  ⟨decide_eq_true (by omega), by omega, by omega, by unfold wrap64; omega⟩
section
variable {w0 w w' : World} {cs : List Cp} {i sb n kk : Nat} {X : Sx} {U : CI.Sx} {F : Nat → Prop}
theorem Sep.newS (h : Sep w0 w cs) (s : Int) (hn : (n : Int) = cnt s) :
    Calls Tryz.prog 4 #[.int .i64 s] w fun e w' => ∃ sb F, e = .returned (.pointer (some ⟨sb, 0, none⟩)) ∧ Hid (Sep w0 w' (cs ++ [SOp w0.heap.size sb n newX 0 F])) := by
  refine (newO_any s n w0.heap.size w hn h.bl.size).mono ?_
  rintro e w' ⟨sb, rfl, h1, h2⟩
  exact ⟨sb, _, rfl, hide (h.new h2 (SOp.ok _ _ _ _ _ _) h1 (fun g hg => hg.1))⟩
theorem Sep.newU (h : Sep w0 w cs) (s : Int) (hn : (n : Int) = cnt s) :
    Calls Tryz.prog 5 #[.int .i64 s] w fun e w' => ∃ sb F, e = .returned (.pointer (some ⟨sb, 0, none⟩)) ∧ Hid (Sep w0 w' (cs ++ [UOp w0.heap.size sb n CI.newX 0 F])) := by
  refine (CI.newO_any s n w0.heap.size w hn h.bl.size).mono ?_
  rintro e w' ⟨sb, rfl, h1, h2⟩
  exact ⟨sb, _, rfl, hide (h.new h2 (UOp.ok _ _ _ _ _ _) h1 (fun g hg => hg.1))⟩
theorem Sep.ask (h : Sep w0 w cs) (hi : cs[i]? = some (SOp w0.heap.size sb n X kk F)) (hET : ErrType w0) (d : Cl) (hd : Kd d) (hk : KOK d.k ∧ IOK d.N ∧ d.N ≤ 9223372036854775807) (hl : kk ≤ 2600000000000) {L : List Ky} (hL : KL X L) (hT : lenS X L ≤ 2600000000000) :
    Calls Tryz.prog 10 #[.pointer (some ⟨sb, 0, none⟩), .agg (clc d)] w fun e w' => e = .returned (ansV (ansB X L d)) ∧ ∃ F', Hid (Sep w0 w' (cs.set i (SOp w0.heap.size sb n (X.ask d) (kk + 1) F'))) := by
  refine (askU_any d hd w0.heap.size sb n kk X F L w (hide (fun w' hb => hET.below (h.bl.trans hb))) (h.is i _ hi) hk.1 hk.2.1 hk.2.2 (by omega) hL (by omega)).mono ?_
  rintro e w' ⟨rfl, h1, h2⟩
  exact ⟨rfl, _, hide (h.step (c' := SOp w0.heap.size sb n (X.ask d) (kk + 1) (gw F w w')) hi (FS.of_fbU h2) (SOp.ok _ _ _ _ _ _) h1 (fun g hg => h2.grow g hg))⟩
theorem Sep.keysS (h : Sep w0 w cs) (hi : cs[i]? = some (SOp w0.heap.size sb n X kk F)) (hl : kk ≤ 2600000000000) {L : List Ky} (hL : KL X L) :
    Calls Tryz.prog 8 #[.pointer (some ⟨sb, 0, none⟩)] w fun e w' => ∃ a cap, e = .returned (.slice a L.length cap) ∧ Hid (KY.RM w' (.slice a L.length cap) L) ∧ Hid (Sep w0 w' cs) ∧ Hid (Below w.heap.size w w') := by
  refine (keysZ_any w0.heap.size sb n kk X F w (h.is i _ hi) (by omega)).mono ?_
  rintro e w' ⟨v, M, rfl, hM, ho, hz, hb⟩
  obtain rfl := hL.uniq hM
  have hO := ho.om hz
  obtain ⟨a, cap, rfl⟩ := hO.slice
  exact ⟨a, cap, rfl, hide hO.rm, hide (h.later hb), hide hb⟩
theorem Sep.keysU (h : Sep w0 w cs) (hi : cs[i]? = some (UOp w0.heap.size sb n U kk F)) (hl : kk ≤ 2600000000000) (hR : RU X U) {L : List Ky} (hL : KL X L) :
    Calls Tryz.prog 9 #[.pointer (some ⟨sb, 0, none⟩)] w fun e w' => ∃ a cap, e = .returned (.slice a L.length cap) ∧ Hid (KY.RM w' (.slice a L.length cap) L) ∧ Hid (Sep w0 w' cs) ∧ Hid (Below w.heap.size w w') := by
  refine (CI.keysZ_any w0.heap.size sb n kk U F w (h.is i _ hi) (by omega)).mono ?_
  rintro e w' ⟨v, M, rfl, hM, ho, hz, hb⟩
  have hM' : KL X M := ⟨hM.srt, hM.nd, fun k => by rw [hM.mem, hR.k]; simp⟩
  obtain rfl := hL.uniq hM'
  have hO := ho.om hz
  obtain ⟨a, cap, rfl⟩ := hO.slice
  exact ⟨a, cap, rfl, hide hO.rm, hide (h.later hb), hide hb⟩
theorem same_keys {v v' : Value} {L : List Ky} (h : Sep w0 w cs) (h1 : KY.RM w v L) (h2 : KY.RM w v' L) (hl : L.length ≤ 2600000000000) :
    Calls Tryz.prog 7 #[v, v'] w fun e w' => e = .returned (.bool true) ∧ Hid (Sep w0 w' cs) := by
  have h3 := KY.sameM_any v v' L L w h1 h2 (by omega) (by omega)
  rw [decide_eq_true rfl] at h3
  refine h3.mono ?_
  rintro e w' ⟨rfl, hb⟩
  exact ⟨rfl, hide (h.later hb)⟩
theorem Sep.verS (h : Sep w0 w cs) (hi : cs[i]? = some (SOp w0.heap.size sb n X kk F)) {L : List Ky} (hL : KL X L) (hT : lenS X L ≤ 2600000000000) :
    Calls Tryz.prog 13 #[.pointer (some ⟨sb, 0, none⟩)] w fun e w' => e = .returned (.int .i64 (lenS X L : Int)) ∧ Hid (Sep w0 w' cs) := by
  refine (verE_any w0.heap.size sb n kk X F L w (h.is i _ hi) hL (by omega)).mono ?_
  rintro e w' ⟨rfl, hb⟩
  exact ⟨rfl, hide (h.later hb)⟩
theorem Sep.verU (h : Sep w0 w cs) (hi : cs[i]? = some (UOp w0.heap.size sb n U kk F)) (hR : RU X U) {L : List Ky} (hL : KL X L) (hT : lenS X L ≤ 2600000000000) :
    Calls Tryz.prog 14 #[.pointer (some ⟨sb, 0, none⟩)] w fun e w' => e = .returned (.int .i64 (lenS X L : Int)) ∧ Hid (Sep w0 w' cs) := by
  refine (CI.verE_any w0.heap.size sb n kk U F L w (h.is i _ hi) (hR.kl hL) (by rw [hR.len]; omega)).mono ?_
  rintro e w' ⟨rfl, hb⟩
  rw [hR.len]
  exact ⟨rfl, hide (h.later hb)⟩
theorem Sep.shardsS (h : Sep w0 w cs) (hi : cs[i]? = some (SOp w0.heap.size sb n X kk F)) :
    Calls Tryz.prog 12 #[.pointer (some ⟨sb, 0, none⟩)] w fun e w' => e = .returned (.int .i64 (n : Int)) ∧ Hid (Sep w0 w' cs) := by
  refine (shardsO_any w0.heap.size sb n kk X F w (h.is i _ hi)).mono ?_
  rintro e w' ⟨rfl, hb⟩
  first
    | exact ⟨rfl, hide (h.later hb)⟩
    | (rw [hb]; exact ⟨rfl, hide h⟩)
theorem Sep.setc {b j : Nat} {xs : Array Value} {t : TypeId} (h : Sep w0 w cs) (hi : cs[i]? = some (BCp b xs t)) (v : Value) : Sep w0 (w.setCell ⟨b, j, none⟩ v) (cs.set i (BCp b (xs.setIfInBounds j v) t)) :=
  h.step (c' := BCp b (xs.setIfInBounds j v) t) hi (FS.set (O := fun g => g = b) rfl) (BCp.ok _ _ _) (heap_setCell_same _ _ _ _ _ _ (h.is i _ hi)) (fun _ hg => .inl hg)
end
theorem Sep.cut {w0 w : World} {a b c : Cp} {ds : List Cp} (h : Sep w0 w (a :: b :: c :: ds)) : Sep w0 w [a, b, c] := Sep.front (cs := [a, b, c]) (ds := ds) h
set_option maxRecDepth 100000 in
theorem number_any (d : Cl) (hd : Kd d) (w0 w : World) (cs : List Cp) (i sb n kk : Nat) (X : Sx) (U : CI.Sx) (F : Nat → Prop) (L : List Ky) (h : Sep w0 w cs) (hi : cs[i]? = some (UOp w0.heap.size sb n U kk F)) (hR : RU X U) (hL : KL X L) (hT : lenS X L ≤ 2600000000000) (hk : KOK d.k ∧ IOK d.N ∧ d.N ≤ 9223372036854775807) (hl : kk ≤ 2600000000000) :
    Calls Tryz.prog 11 #[.pointer (some ⟨sb, 0, none⟩), .agg (clc d), ansV (ansB X L d)] w fun e w' => e = .returned (.bool true) ∧ ∃ F', Hid (Sep w0 w' (cs.set i (UOp w0.heap.size sb n (uask U d) (kk + 1) F'))) := by
  obtain ⟨on, kind, k, N, V⟩ := d
  have hl' : kk ≤ 5864062014803 := by omega
  unfold Kd at hd
  dsimp only at hd hk
  rcases hd with hd | hd | hd | hd | hd | hd | hd | hd <;> subst hd
  · exact number_put on k N V #[] true (peR N (X.K k)) w0 w cs i sb n kk U F h hi hk.1 hk.2.2 (by rw [hR.k, peR_lv]) hl'
  · exact number_at on k N V 0 (atS N (X.K k)) (atB N (X.K k)) w0 w cs i sb n kk U F h hi hk.1 (by rw [hR.k, atS_lv]) (by rw [hR.k, atB_lv]) hl'
  · exact number_last on k N V (laP (X.K k)) (laB (X.K k)) w0 w cs i sb n kk U F h hi hk.1 (by rw [hR.k, laP_lv]) (by rw [hR.k, laB_lv]) hl'
  · exact number_open on k N V #[] false ((X.bg : Int) + 1) w0 w cs i sb n kk U F h hi (by rw [hR.bg]) hl'
  · have e1 : ansB X L ⟨on, 5, k, N, V⟩ = (([] : List UInt8), (0 : Int), (X.R.find? fun p => p.1 == N).isSome) := by simp [ansB, Sx.ans]
    have e2 : uask U ⟨on, 5, k, N, V⟩ = U.cls N := by simp [uask]
    rw [e1, e2]
    obtain ⟨tb, ht⟩ : ∃ tb, (X.R.find? fun p => p.1 == N).isSome = tb := ⟨_, rfl⟩
    rw [ht]
    exact number_close on k N V #[] 0 tb w0 w cs i sb n kk U F h hi hk.2.1 (by rw [hR.R]; exact ht) hl'
  · exact number_old on k N V #[] false (oldR N X.L) w0 w cs i sb n kk U F h hi (by rw [hR.L]) hl'
  · exact number_prune on k N V #[] false ((ab (oldR N X.L) (X.K k) - 1 : Nat) : Int) w0 w cs i sb n kk U F h hi hk.1 (by rw [hR.k, hR.L, ab_lv]) hl'
  · exact number_ver on k N V #[] false (lenS X L : Int) w0 w cs i sb n kk U F h hi L (hR.kl hL) (by rw [hR.len]; omega) (by rw [hR.len]) hl'
set_option maxRecDepth 100000 in
set_option maxHeartbeats 16000000 in
theorem shards_law (v : Value) (ps : List Cl) (a b : Int) (w : World) (hET : ErrType w) (hr : RCl w v ps) (hk : ∀ p ∈ ps, KOK p.k ∧ IOK p.N ∧ p.N ≤ 9223372036854775807) (hps : ps.length ≤ 2600000000000) :
    Calls Tryz.prog 3 #[v, .int .i64 a, .int .i64 b] w fun e w' => e = .returned (.bool true) ∧ Below w.heap.size w w' := by
  obtain ⟨ad, scap, rfl, hcell⟩ := hr
  obtain ⟨na, hna⟩ := cnt_nat a
  obtain ⟨nb, hnb⟩ := cnt_nat b
  have HC := hide hcell
  have HK := hide hk
  have HLB := hide hps
  have HET := hide hET
  have HNA := hide hna
  have HNB := hide hnb
  have HN := hide (Sep.newS (w0 := w) (Sep.nil (Below.refl _ _)) a hna)
  clear hcell hk hps hET hna hnb
  go_enter Tryz.func3, Tryz.ntmps3
  go_wp2_with fail
  refine HN.out.mono ?_
  rintro e w1 ⟨sa, Fa0, rfl, H1⟩
  replace HN := hide (H1.out.newS b HNB.out)
  go_wp2_with fail
  refine HN.out.mono ?_
  rintro e w2 ⟨sb, Fb0, rfl, H2⟩
  have HN3 := hide (H2.out.newU b HNB.out)
  clear HN H1
  go_wp2_with fail
  refine HN3.out.mono ?_
  rintro e w3 ⟨su, Fu0, rfl, H3⟩
  have HW := hide (worksS_any w3 (hide (HET.out.below H3.out.bl)))
  have gn := gtNilS
  have gu := gtNilU
  clear HN3 H2
  go_wp2_with fail
  refine HW.out.mono ?_
  rintro e w4 ⟨rfl, hb4⟩
  have H4 : Hid (Sep w w4 [SOp w.heap.size sa na newX 0 Fa0, SOp w.heap.size sb nb newX 0 Fb0, UOp w.heap.size su nb CI.newX 0 Fu0]) := hide (H3.out.later hb4)
  clear HW hb4 H3 gn gu
  go_wp2_with fail
  go_loopw [10] (fun i wr => ∃ (k kk : Nat) (X : Sx) (U : CI.Sx) (Fa Fb Fu : Nat → Prop), k ≤ ps.length ∧ i = .int .i64 (k : Int) ∧ Hid (Sep w wr [SOp w.heap.size sa na X kk Fa, SOp w.heap.size sb nb X kk Fb, UOp w.heap.size su nb U kk Fu]) ∧ Hid (RU X U) ∧ Hid (TotB X kk ∧ kk ≤ k)) (fun i _ => ps.length - (intOf i).toNat)
  case atStart => exact ⟨0, 0, _, _, _, _, _, Nat.zero_le _, rfl, H4, hide RU.new, hide ⟨TotB.new, Nat.le_refl _⟩⟩
  case round =>
    clear H4
    obtain ⟨k, kk, X, U, Fa, Fb, Fu, hk, rfl, HP0, HRU, HTO⟩ := hrel
    by_cases hlt : k < ps.length
    · obtain ⟨p, hp⟩ : ∃ p, ps[k]? = some p := ⟨_, List.getElem?_eq_getElem hlt⟩
      obtain ⟨sc, soff, ha, e0, e1, e2, e3, e4, e5⟩ := HC.out k p hp
      subst ha
      have hgl : sc < w.heap.size := World.block_lt_of_cell? _ _ e0
      have c0 : wr.cell? ⟨sc, soff + k * 6, none⟩ = some (.int .i64 p.on) := (HP0.out.bl.cell (p := ⟨sc, _, none⟩) hgl).trans e0
      have c1 : wr.cell? ⟨sc, soff + k * 6 + 1, none⟩ = some (.int .i64 p.kind) := (HP0.out.bl.cell (p := ⟨sc, _, none⟩) hgl).trans e1
      have c2 : wr.cell? ⟨sc, soff + k * 6 + 2, none⟩ = some (.int .i64 p.k.1) := (HP0.out.bl.cell (p := ⟨sc, _, none⟩) hgl).trans e2
      have c3 : wr.cell? ⟨sc, soff + k * 6 + 3, none⟩ = some (.int .i64 p.k.2) := (HP0.out.bl.cell (p := ⟨sc, _, none⟩) hgl).trans e3
      have c4 : wr.cell? ⟨sc, soff + k * 6 + 4, none⟩ = some (.int .i64 p.N) := (HP0.out.bl.cell (p := ⟨sc, _, none⟩) hgl).trans e4
      have c5 : wr.cell? ⟨sc, soff + k * 6 + 5, none⟩ = some (.string ⟨p.V.toArray⟩) := (HP0.out.bl.cell (p := ⟨sc, _, none⟩) hgl).trans e5
      have HPO := hide (HK.out p (List.mem_of_getElem? hp))
      obtain ⟨hd1, i0, i1, wk⟩ := ixS hlt (by have := HLB.out; omega)
      have HLT := hide hlt
      obtain ⟨W8, hW8⟩ : ∃ W, wr.alloc (.cells #[.int .i64 0, .int .i64 0, .int .i64 0, .int .i64 0, .int .i64 0, .string ⟨#[]⟩] 31) = W := ⟨_, rfl⟩
      have H8 := hide (HP0.out.box #[.int .i64 0, .int .i64 0, .int .i64 0, .int .i64 0, .int .i64 0, .string ⟨#[]⟩] 31)
      rw [hW8] at H8
      have hb8 : W8.heap[wr.heap.size]? = some (.cells #[.int .i64 0, .int .i64 0, .int .i64 0, .int .i64 0, .int .i64 0, .string ⟨#[]⟩] 31 (0, 0)) := H8.out.is 3 (BCp wr.heap.size #[.int .i64 0, .int .i64 0, .int .i64 0, .int .i64 0, .int .i64 0, .string ⟨#[]⟩] 31) rfl
      have z0 : W8.cell? ⟨wr.heap.size, 0, none⟩ = some (.int .i64 0) := by rw [cell_of_row _ _ 0 _ _ _ hb8]; rfl
      have z1 : W8.cell? ⟨wr.heap.size, 1, none⟩ = some (.int .i64 0) := by rw [cell_of_row _ _ 1 _ _ _ hb8]; rfl
      have z2 : W8.cell? ⟨wr.heap.size, 2, none⟩ = some (.int .i64 0) := by rw [cell_of_row _ _ 2 _ _ _ hb8]; rfl
      have z3 : W8.cell? ⟨wr.heap.size, 3, none⟩ = some (.int .i64 0) := by rw [cell_of_row _ _ 3 _ _ _ hb8]; rfl
      have z4 : W8.cell? ⟨wr.heap.size, 4, none⟩ = some (.int .i64 0) := by rw [cell_of_row _ _ 4 _ _ _ hb8]; rfl
      have z5 : W8.cell? ⟨wr.heap.size, 5, none⟩ = some (.string ⟨#[]⟩) := by rw [cell_of_row _ _ 5 _ _ _ hb8]; rfl
      have fz : ∀ j, W8.frozen? ⟨wr.heap.size, j, none⟩ = false := fun j => by simp [World.frozen?, hb8]
      have g0 := fz 0
      have g1 := fz 1
      have g2 := fz 2
      have g3 := fz 3
      have g4 := fz 4
      have g5 := fz 5
      obtain ⟨W9, hW9⟩ : ∃ W, (((((W8.setCell ⟨wr.heap.size, 0, none⟩ (.int .i64 p.on)).setCell ⟨wr.heap.size, 1, none⟩ (.int .i64 p.kind)).setCell ⟨wr.heap.size, 2, none⟩ (.int .i64 p.k.1)).setCell ⟨wr.heap.size, 3, none⟩ (.int .i64 p.k.2)).setCell ⟨wr.heap.size, 4, none⟩ (.int .i64 p.N)).setCell ⟨wr.heap.size, 5, none⟩ (.string ⟨p.V.toArray⟩) = W := ⟨_, rfl⟩
      have HP : Hid (Sep w W9 [SOp w.heap.size sa na X kk Fa, SOp w.heap.size sb nb X kk Fb, UOp w.heap.size su nb U kk Fu, BCp wr.heap.size #[.int .i64 p.on, .int .i64 p.kind, .int .i64 p.k.1, .int .i64 p.k.2, .int .i64 p.N, .string ⟨p.V.toArray⟩] 31]) := hide (by
        have h := (((((H8.out.setc (i := 3) (j := 0) rfl (.int .i64 p.on)).setc (i := 3) (j := 1) rfl (.int .i64 p.kind)).setc (i := 3) (j := 2) rfl (.int .i64 p.k.1)).setc (i := 3) (j := 3) rfl (.int .i64 p.k.2)).setc (i := 3) (j := 4) rfl (.int .i64 p.N)).setc (i := 3) (j := 5) rfl (.string ⟨p.V.toArray⟩)
        rw [hW9] at h
        exact h)
      have hb9 : W9.heap[wr.heap.size]? = some (.cells #[.int .i64 p.on, .int .i64 p.kind, .int .i64 p.k.1, .int .i64 p.k.2, .int .i64 p.N, .string ⟨p.V.toArray⟩] 31 (0, 0)) := HP.out.is 3 (BCp wr.heap.size #[.int .i64 p.on, .int .i64 p.kind, .int .i64 p.k.1, .int .i64 p.k.2, .int .i64 p.N, .string ⟨p.V.toArray⟩] 31) rfl
      have y0 : W9.cell? ⟨wr.heap.size, 0, none⟩ = some (.int .i64 p.on) := by rw [cell_of_row _ _ 0 _ _ _ hb9]; rfl
      have y1 : W9.cell? ⟨wr.heap.size, 1, none⟩ = some (.int .i64 p.kind) := by rw [cell_of_row _ _ 1 _ _ _ hb9]; rfl
      have y2 : W9.cell? ⟨wr.heap.size, 2, none⟩ = some (.int .i64 p.k.1) := by rw [cell_of_row _ _ 2 _ _ _ hb9]; rfl
      have y3 : W9.cell? ⟨wr.heap.size, 3, none⟩ = some (.int .i64 p.k.2) := by rw [cell_of_row _ _ 3 _ _ _ hb9]; rfl
      have y4 : W9.cell? ⟨wr.heap.size, 4, none⟩ = some (.int .i64 p.N) := by rw [cell_of_row _ _ 4 _ _ _ hb9]; rfl
      have y5 : W9.cell? ⟨wr.heap.size, 5, none⟩ = some (.string ⟨p.V.toArray⟩) := by rw [cell_of_row _ _ 5 _ _ _ hb9]; rfl
      clear fz hb8 hb9 H8 hp hgl e0 e1 e2 e3 e4 e5 hk
      by_cases hlo : p.kind < 0
      · have d0 : decide (p.kind < 0) = true := decide_eq_true hlo
        have H9 := hide (Sep.cut HP.out)
        clear hlt
        go_wp2_with fail
        go_roundw
        case rel => exact ⟨k + 1, kk, X, U, Fa, Fb, Fu, HLT.out, congrArg (Value.int .i64) wk, H9, HRU, hide ⟨HTO.out.1, Nat.le_succ_of_le HTO.out.2⟩⟩
        case measure => first | exact meas_upS HLT.out | (rw [wk]; exact meas_upS HLT.out)
      · have d0 : decide (p.kind < 0) = false := decide_eq_false hlo
        have d0' : (0 : Int) ≤ p.kind := by omega
        by_cases hhi : 8 < p.kind
        · have d1 : decide (p.kind > 8) = true := decide_eq_true hhi
          have d1' : decide (8 < p.kind) = true := decide_eq_true hhi
          have H9 := hide (Sep.cut HP.out)
          clear hlt
          go_wp2_with fail
          go_roundw
          case rel => exact ⟨k + 1, kk, X, U, Fa, Fb, Fu, HLT.out, congrArg (Value.int .i64) wk, H9, HRU, hide ⟨HTO.out.1, Nat.le_succ_of_le HTO.out.2⟩⟩
          case measure => first | exact meas_upS HLT.out | (rw [wk]; exact meas_upS HLT.out)
        · have d1 : decide (p.kind > 8) = false := decide_eq_false hhi
          have d1' : decide (8 < p.kind) = false := decide_eq_false hhi
          have d1'' : p.kind ≤ 8 := by omega
          by_cases h3 : p.kind = 3
          · have n3 : (p.kind == 3) = true := by simp [h3]
            clear hlt h3
            as_aux_lemma =>
              obtain ⟨L, hL, hLk⟩ := kl_so (HP.out.is 0 _ rfl)
              have HKL := hide hL
              have HKB : Hid (kk ≤ 2600000000000) := hide (by have := HTO.out.2; have := HLB.out; omega)
              have HLL : Hid (L.length ≤ 2600000000000) := hide (by have := HKB.out; omega)
              have HC := hide (Sep.keysS (i := 0) HP.out rfl HKB.out HKL.out)
              clear hL hLk
              go_wp2_with fail
              refine HC.out.mono ?_
              rintro e w1 ⟨a1, c1, rfl, R1, H1, B1⟩
              replace HC := hide (Sep.keysS (i := 1) H1.out rfl HKB.out HKL.out)
              clear HP B1
              go_wp2_with fail
              refine HC.out.mono ?_
              rintro e w2 ⟨a2, c2, rfl, R2, H2, B2⟩
              have HS := hide (same_keys H2.out (R1.out.later B2.out) R2.out HLL.out)
              clear HC H1 B2 R1 R2
              go_wp2_with fail
              refine HS.out.mono ?_
              rintro e w3 ⟨rfl, H3⟩
              have HC := hide (Sep.keysS (i := 0) H3.out rfl HKB.out HKL.out)
              clear HS H2
              go_wp2_with fail
              refine HC.out.mono ?_
              rintro e w4 ⟨a4, c4, rfl, R4, H4, B4⟩
              replace HC := hide (Sep.keysU (i := 2) H4.out rfl HKB.out HRU.out HKL.out)
              clear H3 B4
              go_wp2_with fail
              refine HC.out.mono ?_
              rintro e w5 ⟨a5, c5, rfl, R5, H5, B5⟩
              have HS := hide (same_keys H5.out (R4.out.later B5.out) R5.out HLL.out)
              clear HC H4 B5 R4 R5
              go_wp2_with fail
              refine HS.out.mono ?_
              rintro e w6 ⟨rfl, H6⟩
              have H9 := hide (Sep.cut H6.out)
              clear HS H5 H6
              go_wp2_with fail
              go_roundw
              case rel => exact ⟨k + 1, kk, X, U, Fa, Fb, Fu, HLT.out, congrArg (Value.int .i64) wk, H9, HRU, hide ⟨HTO.out.1, Nat.le_succ_of_le HTO.out.2⟩⟩
              case measure => first | exact meas_upS HLT.out | (rw [wk]; exact meas_upS HLT.out)
          · have n3 : (p.kind == 3) = false := by simp [h3]
            clear hlt
            as_aux_lemma =>
              have HKD : Hid (Kd p) := hide (by unfold Kd; omega)
              obtain ⟨L, hL, _⟩ := kl_so (HP.out.is 0 _ rfl)
              have HKL := hide hL
              have HLT' : Hid (lenS X L ≤ 2600000000000) := hide (by have := HTO.out.1 L hL.nd; have := HTO.out.2; have := HLB.out; omega)
              have HKB : Hid (kk ≤ 2600000000000) := hide (by have := HTO.out.2; have := HLB.out; omega)
              obtain ⟨A0, hA⟩ : ∃ A, ansB X L p = A := ⟨_, rfl⟩
              obtain ⟨As, Ax, Ab⟩ := A0
              have HC1 : Hid (Calls Tryz.prog 10 #[.pointer (some ⟨sa, 0, none⟩), .agg #[.int .i64 p.on, .int .i64 p.kind, .int .i64 p.k.1, .int .i64 p.k.2, .int .i64 p.N, .string ⟨p.V.toArray⟩]] W9 fun e w' => e = .returned (.agg #[.string ⟨As.toArray⟩, .int .i64 Ax, .bool Ab]) ∧ ∃ F', Hid (Sep w w' [SOp w.heap.size sa na (X.ask p) (kk + 1) F', SOp w.heap.size sb nb X kk Fb, UOp w.heap.size su nb U kk Fu, BCp wr.heap.size #[.int .i64 p.on, .int .i64 p.kind, .int .i64 p.k.1, .int .i64 p.k.2, .int .i64 p.N, .string ⟨p.V.toArray⟩] 31])) := hide (by
                have h := Sep.ask (i := 0) HP.out rfl HET.out p HKD.out HPO.out HKB.out HKL.out HLT'.out
                rw [hA] at h
                exact h)
              have HC2 : Hid (∀ (W : World) (a0 b0 c0 : Cp) (ds : List Cp), Sep w W (a0 :: SOp w.heap.size sb nb X kk Fb :: c0 :: ds) → Calls Tryz.prog 10 #[.pointer (some ⟨sb, 0, none⟩), .agg #[.int .i64 p.on, .int .i64 p.kind, .int .i64 p.k.1, .int .i64 p.k.2, .int .i64 p.N, .string ⟨p.V.toArray⟩]] W fun e w' => e = .returned (.agg #[.string ⟨As.toArray⟩, .int .i64 Ax, .bool Ab]) ∧ ∃ F', Hid (Sep w w' (a0 :: SOp w.heap.size sb nb (X.ask p) (kk + 1) F' :: c0 :: ds))) := hide (fun W a0 _ c0 ds hh => by
                have h := Sep.ask (i := 1) hh rfl HET.out p HKD.out HPO.out HKB.out HKL.out HLT'.out
                rw [hA] at h
                exact h)
              have HC3 : Hid (∀ (W : World) (a0 b0 c0 : Cp) (ds : List Cp), Sep w W (a0 :: b0 :: UOp w.heap.size su nb U kk Fu :: ds) → Calls Tryz.prog 11 #[.pointer (some ⟨su, 0, none⟩), .agg #[.int .i64 p.on, .int .i64 p.kind, .int .i64 p.k.1, .int .i64 p.k.2, .int .i64 p.N, .string ⟨p.V.toArray⟩], .agg #[.string ⟨As.toArray⟩, .int .i64 Ax, .bool Ab]] W fun e w' => e = .returned (.bool true) ∧ ∃ F', Hid (Sep w w' (a0 :: b0 :: UOp w.heap.size su nb (uask U p) (kk + 1) F' :: ds))) := hide (fun W a0 b0 _ ds hh => by
                have h := number_any p HKD.out w W (a0 :: b0 :: UOp w.heap.size su nb U kk Fu :: ds) 2 su nb kk X U Fu L hh rfl HRU.out HKL.out HLT'.out HPO.out HKB.out
                rw [hA] at h
                exact h)
              have gq := run_neq_sd ⟨As.toArray⟩ Ax Ab
              clear hA hL
              go_wp2_with fail
              obtain ⟨bc, hbc⟩ : ∃ b, wr.heap.size = b := ⟨_, rfl⟩
              rw [hbc] at HC1 ⊢
              clear hbc hW8 hW9 HP HP0 c0 c1 c2 c3 c4 c5 z0 z1 z2 z3 z4 z5 g0 g1 g2 g3 g4 g5
              have yb : Hid (∀ W (a0 b0 c0 : Cp) (ds : List Cp), Sep w W (a0 :: b0 :: c0 :: BCp bc #[.int .i64 p.on, .int .i64 p.kind, .int .i64 p.k.1, .int .i64 p.k.2, .int .i64 p.N, .string ⟨p.V.toArray⟩] 31 :: ds) → W.cell? ⟨bc, 0, none⟩ = some (.int .i64 p.on) ∧ W.cell? ⟨bc, 1, none⟩ = some (.int .i64 p.kind) ∧ W.cell? ⟨bc, 2, none⟩ = some (.int .i64 p.k.1) ∧ W.cell? ⟨bc, 3, none⟩ = some (.int .i64 p.k.2) ∧ W.cell? ⟨bc, 4, none⟩ = some (.int .i64 p.N) ∧ W.cell? ⟨bc, 5, none⟩ = some (.string ⟨p.V.toArray⟩)) := hide (fun W a0 b0 c0 ds h => by
                have h4 : W.heap[bc]? = some (.cells #[.int .i64 p.on, .int .i64 p.kind, .int .i64 p.k.1, .int .i64 p.k.2, .int .i64 p.N, .string ⟨p.V.toArray⟩] 31 (0, 0)) := h.is 3 (BCp bc #[.int .i64 p.on, .int .i64 p.kind, .int .i64 p.k.1, .int .i64 p.k.2, .int .i64 p.N, .string ⟨p.V.toArray⟩] 31) rfl
                exact ⟨by rw [cell_of_row _ _ 0 _ _ _ h4]; rfl, by rw [cell_of_row _ _ 1 _ _ _ h4]; rfl, by rw [cell_of_row _ _ 2 _ _ _ h4]; rfl, by rw [cell_of_row _ _ 3 _ _ _ h4]; rfl, by rw [cell_of_row _ _ 4 _ _ _ h4]; rfl, by rw [cell_of_row _ _ 5 _ _ _ h4]; rfl⟩)
              clear y0 y1 y2 y3 y4 y5
              refine HC1.out.mono ?_
              rintro e w4 ⟨rfl, F4, H4⟩
              obtain ⟨W5, hW5⟩ : ∃ W, w4.alloc (.cells #[.string ⟨#[]⟩, .int .i64 0, .bool false] 36) = W := ⟨_, rfl⟩
              have H5z := hide (H4.out.box #[.string ⟨#[]⟩, .int .i64 0, .bool false] 36)
              rw [hW5] at H5z
              have hb5 : W5.heap[w4.heap.size]? = some (.cells #[.string ⟨#[]⟩, .int .i64 0, .bool false] 36 (0, 0)) := H5z.out.is 4 (BCp w4.heap.size #[.string ⟨#[]⟩, .int .i64 0, .bool false] 36) rfl
              have x0 : W5.cell? ⟨w4.heap.size, 0, none⟩ = some (.string ⟨#[]⟩) := by rw [cell_of_row _ _ 0 _ _ _ hb5]; rfl
              have x1 : W5.cell? ⟨w4.heap.size, 1, none⟩ = some (.int .i64 0) := by rw [cell_of_row _ _ 1 _ _ _ hb5]; rfl
              have x2 : W5.cell? ⟨w4.heap.size, 2, none⟩ = some (.bool false) := by rw [cell_of_row _ _ 2 _ _ _ hb5]; rfl
              have f0 : W5.frozen? ⟨w4.heap.size, 0, none⟩ = false := by simp [World.frozen?, hb5]
              have f1 : W5.frozen? ⟨w4.heap.size, 1, none⟩ = false := by simp [World.frozen?, hb5]
              have f2 : W5.frozen? ⟨w4.heap.size, 2, none⟩ = false := by simp [World.frozen?, hb5]
              obtain ⟨W6, hW6⟩ : ∃ W, ((W5.setCell ⟨w4.heap.size, 0, none⟩ (.string ⟨As.toArray⟩)).setCell ⟨w4.heap.size, 1, none⟩ (.int .i64 Ax)).setCell ⟨w4.heap.size, 2, none⟩ (.bool Ab) = W := ⟨_, rfl⟩
              have H5 : Hid (Sep w W6 [SOp w.heap.size sa na (X.ask p) (kk + 1) F4, SOp w.heap.size sb nb X kk Fb, UOp w.heap.size su nb U kk Fu, BCp bc #[.int .i64 p.on, .int .i64 p.kind, .int .i64 p.k.1, .int .i64 p.k.2, .int .i64 p.N, .string ⟨p.V.toArray⟩] 31, BCp w4.heap.size #[.string ⟨As.toArray⟩, .int .i64 Ax, .bool Ab] 36]) := hide (by
                have h := ((H5z.out.setc (i := 4) (j := 0) rfl (.string ⟨As.toArray⟩)).setc (i := 4) (j := 1) rfl (.int .i64 Ax)).setc (i := 4) (j := 2) rfl (.bool Ab)
                rw [hW6] at h
                exact h)
              clear H4 H5z hb5 HC1
              go_wp2_with fail
              obtain ⟨bx, hbx⟩ : ∃ b, w4.heap.size = b := ⟨_, rfl⟩
              rw [hbx] at H5 ⊢
              clear hbx x0 x1 x2 f0 f1 f2 hW5 hW6
              have HX : Hid (∀ (W : World) (a0 b0 c0 : Cp), Sep w W [a0, b0, c0, BCp bc #[.int .i64 p.on, .int .i64 p.kind, .int .i64 p.k.1, .int .i64 p.k.2, .int .i64 p.N, .string ⟨p.V.toArray⟩] 31, BCp bx #[.string ⟨As.toArray⟩, .int .i64 Ax, .bool Ab] 36] → (fun W : World => W.cell? ⟨bc, 0, none⟩ = some (.int .i64 p.on) ∧ W.cell? ⟨bc, 1, none⟩ = some (.int .i64 p.kind) ∧ W.cell? ⟨bc, 2, none⟩ = some (.int .i64 p.k.1) ∧ W.cell? ⟨bc, 3, none⟩ = some (.int .i64 p.k.2) ∧ W.cell? ⟨bc, 4, none⟩ = some (.int .i64 p.N) ∧ W.cell? ⟨bc, 5, none⟩ = some (.string ⟨p.V.toArray⟩) ∧ W.cell? ⟨bx, 0, none⟩ = some (.string ⟨As.toArray⟩) ∧ W.cell? ⟨bx, 1, none⟩ = some (.int .i64 Ax) ∧ W.cell? ⟨bx, 2, none⟩ = some (.bool Ab)) W) := hide (fun W a0 b0 c0 h => by
                have h4 : W.heap[bc]? = some (.cells #[.int .i64 p.on, .int .i64 p.kind, .int .i64 p.k.1, .int .i64 p.k.2, .int .i64 p.N, .string ⟨p.V.toArray⟩] 31 (0, 0)) := h.is 3 (BCp bc #[.int .i64 p.on, .int .i64 p.kind, .int .i64 p.k.1, .int .i64 p.k.2, .int .i64 p.N, .string ⟨p.V.toArray⟩] 31) rfl
                have h5 : W.heap[bx]? = some (.cells #[.string ⟨As.toArray⟩, .int .i64 Ax, .bool Ab] 36 (0, 0)) := h.is 4 (BCp bx #[.string ⟨As.toArray⟩, .int .i64 Ax, .bool Ab] 36) rfl
                exact ⟨by rw [cell_of_row _ _ 0 _ _ _ h4]; rfl, by rw [cell_of_row _ _ 1 _ _ _ h4]; rfl, by rw [cell_of_row _ _ 2 _ _ _ h4]; rfl, by rw [cell_of_row _ _ 3 _ _ _ h4]; rfl, by rw [cell_of_row _ _ 4 _ _ _ h4]; rfl, by rw [cell_of_row _ _ 5 _ _ _ h4]; rfl, by rw [cell_of_row _ _ 0 _ _ _ h5]; rfl, by rw [cell_of_row _ _ 1 _ _ _ h5]; rfl, by rw [cell_of_row _ _ 2 _ _ _ h5]; rfl⟩)
              have H5d := hide (H5.out.later ((Below.refl W6.heap.size W6).drew))
              have hHeld := hide (HX.out _ _ _ _ H5d.out)
              clear H5
              refine s_begins (S := (fun W : World => W.cell? ⟨bc, 0, none⟩ = some (.int .i64 p.on) ∧ W.cell? ⟨bc, 1, none⟩ = some (.int .i64 p.kind) ∧ W.cell? ⟨bc, 2, none⟩ = some (.int .i64 p.k.1) ∧ W.cell? ⟨bc, 3, none⟩ = some (.int .i64 p.k.2) ∧ W.cell? ⟨bc, 4, none⟩ = some (.int .i64 p.N) ∧ W.cell? ⟨bc, 5, none⟩ = some (.string ⟨p.V.toArray⟩) ∧ W.cell? ⟨bx, 0, none⟩ = some (.string ⟨As.toArray⟩) ∧ W.cell? ⟨bx, 1, none⟩ = some (.int .i64 Ax) ∧ W.cell? ⟨bx, 2, none⟩ = some (.bool Ab))) [] 12 #[false, false, false, false, false, false, false, false, false, false, false, false] (by kernel_rfl) (by kernel_rfl) (by kernel_rfl) ?_
              refine sk1 (v := ?_) 0 71 #[true, false, false, false, false, false, false, false, false, false, false, false] rfl rfl (by kernel_rfl) (by kernel_rfl) (by kernel_rfl) (by kernel_rfl) (by kernel_rfl) (by kernel_rfl) (fun _ _ _ h => h) (by kernel_rfl) (by rfl) ?hy hHeld.out ?_
              case hy => rintro W ⟨r0, r1, r2, r3, r4, r5, r6, r7, r8⟩; first | (go_simp; done) | (go_simp; with_reducible rfl)
              simp only [List.setIfInBounds_toArray, List.set_cons_zero, List.set_cons_succ]
              refine sk0 (v := ?_) 1 72 #[true, true, false, false, false, false, false, false, false, false, false, false] rfl rfl (by kernel_rfl) (by kernel_rfl) (by kernel_rfl) (by kernel_rfl) (fun _ _ _ h => h) (by kernel_rfl) (by rfl) ?hy (fun _ => hHeld.out) ?_
              case hy => intro W; first | (go_simp; done) | (go_simp; with_reducible rfl)
              simp only [List.setIfInBounds_toArray, List.set_cons_zero, List.set_cons_succ]
              refine sk1 (v := ?_) 2 73 #[true, true, true, false, false, false, false, false, false, false, false, false] rfl rfl (by kernel_rfl) (by kernel_rfl) (by kernel_rfl) (by kernel_rfl) (by kernel_rfl) (by kernel_rfl) (fun _ _ _ h => h) (by kernel_rfl) (by rfl) ?hy hHeld.out ?_
              case hy => rintro W ⟨r0, r1, r2, r3, r4, r5, r6, r7, r8⟩; first | (go_simp; done) | (go_simp; with_reducible rfl)
              simp only [List.setIfInBounds_toArray, List.set_cons_zero, List.set_cons_succ]
              refine s_ready 3 #[true, true, true, true, false, false, false, false, false, false, false, false] rfl (by kernel_rfl) (by kernel_rfl) (by rfl) (fun K hK => ?_)
              go_simp
              refine (HC2.out _ _ (SOp w.heap.size sb nb X kk Fb) _ _ H5d.out).mono ?_
              rintro e w6 ⟨rfl, F6, H6⟩
              refine hK.out _ _ (fun _ => HX.out _ _ _ _ H6.out) ?_
              clear hK K
              replace hHeld := hide (HX.out _ _ _ _ H6.out)
              refine sk0 (v := ?_) 4 75 #[true, true, true, true, true, false, false, false, false, false, false, false] rfl rfl (by kernel_rfl) (by kernel_rfl) (by kernel_rfl) (by kernel_rfl) (fun _ _ _ h => h) (by kernel_rfl) (by rfl) ?hy (fun _ => hHeld.out) ?_
              case hy => intro W; first | (go_simp; done) | (go_simp; with_reducible rfl)
              simp only [List.setIfInBounds_toArray, List.set_cons_zero, List.set_cons_succ]
              refine sk0 (v := ?_) 5 76 #[true, true, true, true, true, true, false, false, false, false, false, false] rfl rfl (by kernel_rfl) (by kernel_rfl) (by kernel_rfl) (by kernel_rfl) (fun _ _ _ h => h) (by kernel_rfl) (by rfl) ?hy (fun _ => hHeld.out) ?_
              case hy => intro W; first | (go_simp; done) | (go_simp; with_reducible rfl)
              simp only [List.setIfInBounds_toArray, List.set_cons_zero, List.set_cons_succ]
              refine sk0 (v := ?_) 6 77 #[true, true, true, true, true, true, true, false, false, false, false, false] rfl rfl (by kernel_rfl) (by kernel_rfl) (by kernel_rfl) (by kernel_rfl) (fun _ _ _ h => h) (by kernel_rfl) (by rfl) ?hy (fun _ => hHeld.out) ?_
              case hy => intro W; first | (go_simp; done) | (go_simp; with_reducible rfl)
              simp only [List.setIfInBounds_toArray, List.set_cons_zero, List.set_cons_succ]
              refine sk1 (v := ?_) 7 78 #[true, true, true, true, true, true, true, true, false, false, false, false] rfl rfl (by kernel_rfl) (by kernel_rfl) (by kernel_rfl) (by kernel_rfl) (by kernel_rfl) (by kernel_rfl) (fun _ _ _ h => h) (by kernel_rfl) (by rfl) ?hy hHeld.out ?_
              case hy => rintro W ⟨r0, r1, r2, r3, r4, r5, r6, r7, r8⟩; first | (go_simp; done) | (go_simp; with_reducible rfl)
              simp only [List.setIfInBounds_toArray, List.set_cons_zero, List.set_cons_succ]
              refine sk1 (v := ?_) 8 79 #[true, true, true, true, true, true, true, true, true, false, false, false] rfl rfl (by kernel_rfl) (by kernel_rfl) (by kernel_rfl) (by kernel_rfl) (by kernel_rfl) (by kernel_rfl) (fun _ _ _ h => h) (by kernel_rfl) (by rfl) ?hy hHeld.out ?_
              case hy => rintro W ⟨r0, r1, r2, r3, r4, r5, r6, r7, r8⟩; first | (go_simp; done) | (go_simp; with_reducible rfl)
              simp only [List.setIfInBounds_toArray, List.set_cons_zero, List.set_cons_succ]
              refine s_ready 9 #[true, true, true, true, true, true, true, true, true, true, false, false] rfl (by kernel_rfl) (by kernel_rfl) (by rfl) (fun K hK => ?_)
              go_simp
              refine (HC3.out _ _ _ (UOp w.heap.size su nb U kk Fu) _ H6.out).mono ?_
              rintro e w7 ⟨rfl, F7, H7⟩
              refine hK.out _ _ (fun _ => HX.out _ _ _ _ H7.out) ?_
              clear hK K
              replace hHeld := hide (HX.out _ _ _ _ H7.out)
              refine sk0 (v := ?_) 10 81 #[true, true, true, true, true, true, true, true, true, true, true, false] rfl rfl (by kernel_rfl) (by kernel_rfl) (by kernel_rfl) (by kernel_rfl) (fun _ _ _ h => h) (by kernel_rfl) (by rfl) ?hy (fun _ => hHeld.out) ?_
              case hy => intro W; first | (go_simp; done) | (go_simp; with_reducible rfl)
              simp only [List.setIfInBounds_toArray, List.set_cons_zero, List.set_cons_succ]
              refine sk0 (v := ?_) 11 82 #[true, true, true, true, true, true, true, true, true, true, true, true] rfl rfl (by kernel_rfl) (by kernel_rfl) (by kernel_rfl) (by kernel_rfl) (fun _ _ _ h => h) (by kernel_rfl) (by rfl) ?hy (fun _ => hHeld.out) ?_
              case hy => intro W; first | (go_simp; done) | (go_simp; with_reducible rfl)
              simp only [List.setIfInBounds_toArray, List.set_cons_zero, List.set_cons_succ]
              refine s_done (by kernel_rfl) ?_ _
              have H9 := hide (Sep.cut H7.out)
              have HR9 := hide (HRU.out.ask p)
              have HT9 := hide (And.intro (HTO.out.1.ask p) (Nat.succ_le_succ HTO.out.2))
              clear HC2 HC3 HX H6 H7 hHeld H5d yb
              go_wp2_with fail
              go_roundw
              case rel => exact ⟨k + 1, kk + 1, _, _, F4, F6, F7, HLT.out, congrArg (Value.int .i64) wk, H9, HR9, HT9⟩
              case measure => first | exact meas_upS HLT.out | (rw [wk]; exact meas_upS HLT.out)
    · skip
      as_aux_lemma =>
        have e : k = ps.length := by omega
        subst e
        have HLN2 : decide ((ps.length : Int) < (ps.length : Int)) = false := by simp
        obtain ⟨L, hL, _⟩ := kl_so (HP0.out.is 0 _ rfl)
        have HKL := hide hL
        have HLT' : Hid (lenS X L ≤ 2600000000000) := hide (by have := HTO.out.1 L hL.nd; have := HTO.out.2; have := HLB.out; omega)
        have n1 : decide ((na : Int) ≥ 1) = true := decide_eq_true (by have := HNA.out; have := cnt_lo a; omega)
        have n2 : decide ((na : Int) ≤ 64) = true := decide_eq_true (by have := HNA.out; have := cnt_hi a; omega)
        have n1' : (1 : Int) ≤ (na : Int) := by have := HNA.out; have := cnt_lo a; omega
        have n2' : (na : Int) ≤ 64 := by have := HNA.out; have := cnt_hi a; omega
        obtain ⟨vv, hvv⟩ : ∃ vv, lenS X L = vv := ⟨_, rfl⟩
        have qv : ((vv : Int) == (vv : Int)) = true := by simp
        have HC := hide (Sep.shardsS (i := 0) HP0.out rfl)
        clear hk hlt hL
        go_wp2_with fail
        refine HC.out.mono ?_
        rintro e w1 ⟨rfl, H1⟩
        replace HC := hide (Sep.shardsS (i := 0) H1.out rfl)
        clear HP0
        go_wp2_with fail
        refine HC.out.mono ?_
        rintro e w2 ⟨rfl, H2⟩
        have HV := hide (Sep.verS (i := 0) H2.out rfl HKL.out HLT'.out)
        rw [hvv] at HV
        clear HC H1
        go_wp2_with fail
        refine HV.out.mono ?_
        rintro e w3 ⟨rfl, H3⟩
        replace HV := hide (Sep.verU (i := 2) H3.out rfl HRU.out HKL.out HLT'.out)
        rw [hvv] at HV
        clear H2
        go_wp2_with fail
        refine HV.out.mono ?_
        rintro e w4 ⟨rfl, H4⟩
        have HBL := hide H4.out.bl
        clear HV H3 H4
        go_wp2_with fail
        go_ret
        exact ⟨rfl, HBL.out⟩
end Go.Proofs.YtehacdijleommaaGreatDoor
