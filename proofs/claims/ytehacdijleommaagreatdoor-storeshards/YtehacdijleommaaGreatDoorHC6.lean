/-
  My own text: HC3, HC4, HC5, HC6 in one.
-/
import Derived.Test.YtehacdijleommaaGreatDoorHC2
import Derived.Test.YtehacdijleommaaGreatDoorErrV
import Derived.BigQuiet
import Derived.Deep.QuietTactic
namespace Go.Proofs.YtehacdijleommaaGreatDoor
open Go.RowKit

/-- A version: its number, its text. -/
abbrev Ver := Int × List UInt8
def vc : List Ver → List Value
  | [] => []
  | p :: r => .int .i64 p.1 :: .string ⟨p.2.toArray⟩ :: vc r
theorem vc_len : ∀ L : List Ver, (vc L).length = L.length * 2
  | [] => rfl
  | p :: r => by simp only [vc, List.length_cons, vc_len r]; omega
theorem vc_app : ∀ a b : List Ver, vc (a ++ b) = vc a ++ vc b
  | [], _ => rfl
  | p :: r, b => by simp only [List.cons_append, vc, vc_app r b]
theorem vc_at : ∀ (L : List Ver) (j : Nat) (p : Ver), L[j]? = some p → (vc L)[j * 2]? = some (.int .i64 p.1) ∧ (vc L)[j * 2 + 1]? = some (.string ⟨p.2.toArray⟩)
  | q :: r, 0, p, h => by
    obtain rfl : q = p := Option.some.inj h
    exact ⟨rfl, rfl⟩
  | q :: r, j + 1, p, h => by
    have := vc_at r j p h
    rw [show (j + 1) * 2 = j * 2 + 1 + 1 by omega]
    exact this
/-- Rising numbers. -/
def Ris : List Ver → Prop
  | [] => True
  | p :: r => (∀ q ∈ r, p.1 < q.1) ∧ Ris r
/-- How many are not above n. -/
def ab (n : Int) : List Ver → Nat
  | [] => 0
  | p :: r => if n < p.1 then 0 else ab n r + 1
theorem ab_le (n : Int) : ∀ L : List Ver, ab n L ≤ L.length
  | [] => Nat.le_refl _
  | p :: r => by
    have := ab_le n r
    unfold ab; split <;> simp only [List.length_cons] <;> omega
theorem ab_lo {n : Int} : ∀ {L : List Ver} {i : Nat} {p : Ver}, i < ab n L → L[i]? = some p → p.1 ≤ n
  | q :: r, i, p, h, hp => by
    unfold ab at h
    split at h
    · omega
    · match i, h, hp with
      | 0, _, hp => obtain rfl : q = p := Option.some.inj hp; omega
      | i + 1, h, hp => exact ab_lo (L := r) (by omega) hp
theorem ab_hi {n : Int} : ∀ {L : List Ver} {i : Nat} {p : Ver}, Ris L → ab n L ≤ i → L[i]? = some p → n < p.1
  | q :: r, i, p, hr, h, hp => by
    unfold ab at h
    split at h
    · match i, hp with
      | 0, hp => obtain rfl : q = p := Option.some.inj hp; assumption
      | i + 1, hp =>
        have := hr.1 p (List.mem_of_getElem? hp)
        omega
    · match i, h, hp with
      | 0, h, _ => omega
      | i + 1, h, hp => exact ab_hi (L := r) hr.2 (by omega) hp
/-- A chain in memory. -/
def CH (w : World) (B cb : Nat) (L : List Ver) : Prop :=
  B ≤ cb ∧ ∃ (v : Value) (em : Nat), w.heap[cb]? = some (.cells #[v, .int .i64 (em : Int)] 104 (0, 0)) ∧ OR w B 111 2 v L.length (vc L) ∧ v.ownBlock ≠ some cb ∧ em ≤ L.length
theorem CH.lt {w : World} {B cb : Nat} {L : List Ver} (h : CH w B cb L) : cb < w.heap.size := by
  obtain ⟨_, v, em, hh, _⟩ := h
  exact (Array.getElem?_eq_some_iff.1 hh).1
theorem CH.later {w w' : World} {B cb : Nat} {L : List Ver} (h : CH w B cb L) (hb : Below w.heap.size w w') : CH w' B cb L := by
  have hlt := h.lt
  obtain ⟨h1, v, em, hh, ho, hn⟩ := h
  exact ⟨h1, v, em, (hb.block cb hlt).trans hh, ho.later hb, hn⟩
/-- What its cells hold. -/
theorem CH.parts {w : World} {B cb : Nat} {L : List Ver} (h : CH w B cb L) : ∃ (a : Option Addr) (cap : Nat), w.cell? ⟨cb, 0, none⟩ = some (.slice a L.length cap) ∧ ∀ (i : Nat) (p : Ver), L[i]? = some p → ∃ g off, a = some ⟨g, off, none⟩ ∧ w.cell? ⟨g, off + i * 2, none⟩ = some (.int .i64 p.1) ∧ w.cell? ⟨g, off + i * 2 + 1, none⟩ = some (.string ⟨p.2.toArray⟩) := by
  obtain ⟨_, v, em, hh, ho, _⟩ := h
  have hc : w.cell? ⟨cb, 0, none⟩ = some v := by rw [cell_of_row w cb 0 _ _ _ hh]; rfl
  rcases ho.2 with ⟨rfl, h0⟩ | ⟨g, off, cap, cur, rfl, _, _, _, _, _, h5⟩
  · refine ⟨none, 0, by rw [hc, h0], fun i p hp => ?_⟩
    have := (List.getElem?_eq_some_iff.1 hp).1
    omega
  · refine ⟨_, cap, hc, fun i p hp => ⟨g, off, rfl, ?_, ?_⟩⟩
    · exact h5 _ _ (vc_at L i p hp).1
    · have := h5 _ _ (vc_at L i p hp).2
      rw [← Nat.add_assoc] at this; exact this
theorem below_dq {B : Nat} {a w : World} (h : Below B a w) (n : Nat) : Below B a (w.drewN n) := h.trans ⟨rfl, rfl, rfl, Nat.le_refl _, fun _ _ => rfl⟩
theorem Tryz.sizeVer : (Tryz.prog.info? 111).map (·.size) = some 2 := by kernel_rfl
set_option maxRecDepth 100000 in
set_option maxHeartbeats 1000000 in
/-- The test that above asks. -/
theorem aboveT_any (n : Int) (i bc bn B cb : Nat) (L : List Ver) (p : Ver) (w : World) (h : CH w B cb L) (hp : L[i]? = some p) (hc : w.cell? ⟨bc, 0, none⟩ = some (.pointer (some ⟨cb, 0, none⟩))) (hn : w.cell? ⟨bn, 0, none⟩ = some (.int .i64 n)) :
    Calls Tryz.prog 108 #[.int .i64 (i : Int), .pointer (some ⟨bc, 0, none⟩), .pointer (some ⟨bn, 0, none⟩)] w fun e w' => e = .returned (.bool (decide (n < p.1))) ∧ Below w.heap.size w w' := by
  have hil := (List.getElem?_eq_some_iff.1 hp).1
  obtain ⟨a, cap, c0, hL⟩ := h.parts
  obtain ⟨g, off, rfl, c1, _⟩ := hL i p hp
  have k0 : (0 : Int) ≤ (i : Int) := by omega
  have k1 : (i : Int) < (L.length : Int) := by omega
  clear hL h hp
  go_enter Tryz.func108, Tryz.ntmps108
  go_wp2_with fail
  go_quiet (fail)
  go_wp2_with fail
  go_ret
  exact ⟨rfl, below_dq (Below.refl _ _) _⟩
set_option maxRecDepth 100000 in
set_option maxHeartbeats 1000000 in
/-- How many are not above n. -/
theorem above_any (n : Int) (B cb : Nat) (L : List Ver) (w : World) (h : CH w B cb L) (hr : Ris L) (hl : L.length ≤ 4611686018427387904) :
    Calls Tryz.prog 93 #[.pointer (some ⟨cb, 0, none⟩), .int .i64 n] w fun e w' => e = .returned (.int .i64 (ab n L : Int)) ∧ Below w.heap.size w w' := by
  obtain ⟨W, hW⟩ : ∃ W, (w.alloc (.cells #[.pointer (some ⟨cb, 0, none⟩)] 62)).alloc (.cells #[.int .i64 n] 3) = W := ⟨_, rfl⟩
  have hb : Below w.heap.size w W := by rw [← hW]; exact ((Below.refl _ _).alloc (Nat.le_refl _) _).alloc (by simp) _
  have hcC : W.cell? ⟨w.heap.size, 0, none⟩ = some (.pointer (some ⟨cb, 0, none⟩)) := by rw [← hW]; simp
  have hcN : W.cell? ⟨w.heap.size + 1, 0, none⟩ = some (.int .i64 n) := by rw [← hW]; simp
  have hS := hide (search_any 108 #[.pointer (some ⟨w.heap.size, 0, none⟩), .pointer (some ⟨w.heap.size + 1, 0, none⟩)] (ab n L) L.length W hl (ab_le n L) (fun _ _ => rfl) (fun i W' hi hb' => by
    obtain ⟨p, hp⟩ : ∃ p, L[i]? = some p := ⟨_, List.getElem?_eq_getElem hi⟩
    have e : decide (ab n L ≤ i) = decide (n < p.1) := by
      by_cases hk : ab n L ≤ i
      · rw [decide_eq_true hk, decide_eq_true (ab_hi hr hk hp)]
      · rw [decide_eq_false hk, decide_eq_false (by have := ab_lo (n := n) (by omega) hp; omega)]
    rw [e]
    exact aboveT_any n i w.heap.size (w.heap.size + 1) B cb L p W' ((h.later hb).later hb') hp ((hb'.cell (World.block_lt_of_cell? _ _ hcC)).trans hcC) ((hb'.cell (World.block_lt_of_cell? _ _ hcN)).trans hcN)))
  have HB := hide hb
  obtain ⟨a, cap, c0, _⟩ := (h.later hb).parts
  clear hr h hb hcN
  go_enter Tryz.func93, Tryz.ntmps93
  go_wp2_with fail
  refine hS.out.mono ?_
  rintro e w2 ⟨rfl, hb2⟩
  have B2 := hide (HB.out.trans (hb2.mono HB.out.size))
  clear hb2 hW
  go_wp2_with fail
  go_ret
  exact ⟨rfl, B2.out⟩
end Go.Proofs.YtehacdijleommaaGreatDoor
namespace Go.Proofs.YtehacdijleommaaGreatDoor
open Go.RowKit

theorem results_cell_tmp {fn : Func} {p q : Tmp} {ty : TypeId} (h : fn.results = #[.cell p ty, .tmp q]) (tmps : Array Value) (P : Program) (w : World) :
    (results fn tmps).run P w = ((asAddr (tmps.getD p undef)).run P w).andThen fun a w₁ => ((loadVar ty a).run P w₁).andThen fun v w₂ => .ok (.tuple #[v, tmps.getD q undef]) w₂ := by
  simp only [results, h]
  simp [Sem.run_bind, Result.andThen]
def vrC (p : Ver) : Array Value := #[.int .i64 p.1, .string ⟨p.2.toArray⟩]
theorem setRowV {w : World} {g : Nat} {c c' : Array Value} (h : w.heap[g]? = some (.cells c 111 (0, 0))) : (w.setRow g c').heap[g]? = some (.cells c' 111 (0, 0)) := setRow_heap w g c c' _ _ h
theorem belowRow {B g : Nat} {w w' : World} {c : Array Value} (h : Below B w w') (hg : B ≤ g) : Below B w (w'.setRow g c) := by
  refine ⟨h.os, h.tape, h.output, by have := h.size; simp [World.setRow]; exact this, fun k hk => ?_⟩
  rw [setRow_other _ _ _ _ (by omega)]
  exact h.block k hk
theorem alloc_newV (w : World) (o : Obj) : (w.alloc o).heap[w.heap.size]? = some o := (MapKept.heap_alloc w o).1
set_option maxRecDepth 100000 in
set_option maxHeartbeats 1000000 in
theorem counts_no (n : Int) (B cb : Nat) (L : List Ver) (w : World) (h : CH w B cb L) (hr : Ris L) (hl : L.length ≤ 4611686018427387904) (h0 : ab n L = 0) :
    Calls Tryz.prog 64 #[.pointer (some ⟨cb, 0, none⟩), .int .i64 n] w fun e w' => e = .returned (.tuple #[.agg #[.int .i64 0, .string ⟨#[]⟩], .bool false]) ∧ Below w.heap.size w w' := by
  have hb := (Below.refl w.heap.size w).alloc (Nat.le_refl _) (.cells #[.int .i64 0, .string ⟨#[]⟩] 111)
  have HA := hide (above_any n B cb L _ (h.later hb) hr hl)
  rw [h0] at HA
  have HB := hide hb
  have K0 := hide (alloc_newV w (.cells #[.int .i64 0, .string ⟨#[]⟩] 111))
  clear h hr hl h0 hb
  go_enter Tryz.func64, Tryz.ntmps64
  go_wp2_with fail
  refine HA.out.mono ?_
  rintro e w2 ⟨rfl, hb2⟩
  have B2 := hide (HB.out.trans (hb2.mono HB.out.size))
  have K2 := hide ((hb2.block w.heap.size (by simp)).trans K0.out)
  clear hb2 K0 HB HA
  go_wp2_with (refine wpList_store_row rfl 111 (.tmp 4) _ rfl w.heap.size #[.int .i64 0, .string ⟨#[]⟩] rfl rfl _ _ K2.out Tryz.sizeVer rfl (by simp [Value.oneCell']) ?_)
  refine bodyPost_ret (v := .tuple #[.agg #[.int .i64 0, .string ⟨#[]⟩], .bool false]) ?_ rfl ⟨rfl, belowRow B2.out (Nat.le_refl _)⟩
  rw [results_cell_tmp rfl]
  simp only [asAddr]
  have hld := run_loadVar_row (P := Tryz.prog) (w2.setRow w.heap.size #[.int .i64 0, .string ⟨#[]⟩]) w.heap.size 111 111 #[.int .i64 0, .string ⟨#[]⟩] (0, 0) _ (setRowV K2.out) Tryz.underlying111 rfl Tryz.sizeVer
  simp [Result.andThen, hld]
set_option maxRecDepth 100000 in
set_option maxHeartbeats 1000000 in
theorem counts_yes (n : Int) (B cb k : Nat) (L : List Ver) (p : Ver) (w : World) (h : CH w B cb L) (hr : Ris L) (hl : L.length ≤ 4611686018427387904) (h0 : ab n L = k + 1) (hp : L[k]? = some p) :
    Calls Tryz.prog 64 #[.pointer (some ⟨cb, 0, none⟩), .int .i64 n] w fun e w' => e = .returned (.tuple #[.agg #[.int .i64 p.1, .string ⟨p.2.toArray⟩], .bool true]) ∧ Below w.heap.size w w' := by
  have hb := (Below.refl w.heap.size w).alloc (Nat.le_refl _) (.cells #[.int .i64 0, .string ⟨#[]⟩] 111)
  have HA := hide (above_any n B cb L _ (h.later hb) hr hl)
  rw [h0] at HA
  have HC := hide (h.later hb)
  have HB := hide hb
  have K0 := hide (alloc_newV w (.cells #[.int .i64 0, .string ⟨#[]⟩] 111))
  have hkl := (List.getElem?_eq_some_iff.1 hp).1
  have HP := hide hp
  clear h hr h0 hp hb
  have d1 : ((((k + 1 : Nat)) : Int) == 0) = false := by rw [beq_eq_false_iff_ne]; omega
  have k0 : (0 : Int) ≤ (k : Int) := by omega
  have k1 : (k : Int) < (L.length : Int) := by omega
  go_enter Tryz.func64, Tryz.ntmps64
  go_wp2_with fail
  refine HA.out.mono ?_
  rintro e w2 ⟨rfl, hb2⟩
  have B2 := hide (HB.out.trans (hb2.mono HB.out.size))
  have K2 := hide ((hb2.block w.heap.size (by simp)).trans K0.out)
  obtain ⟨a, cap, c0, hL⟩ := (HC.out.later hb2).parts
  obtain ⟨g, off, rfl, c1, c2⟩ := hL k p HP.out
  have HR : Hid (w2.rangeAt g (off + k * 2) (vrC p).toList) := hide (fun j u hj => by
    match j, hj with
    | 0, hj => cases hj; exact c1
    | 1, hj => cases hj; exact c2)
  clear hb2 HC hL K0 HB HA
  go_wp2_with (first
    | (refine wpList_load_mid rfl 111 _ rfl g (off + k * 2) rfl (vrC p).toList _ HR.out Tryz.underlying111 rfl Tryz.sizeVer ?_; rw [Array.toArray_toList]; unfold vrC)
    | (refine wpList_store_row rfl 111 (.tmp 4) _ rfl w.heap.size #[.int .i64 p.1, .string ⟨p.2.toArray⟩] rfl rfl _ _ K2.out Tryz.sizeVer rfl (by simp [Value.oneCell']) ?_))
  refine bodyPost_ret (v := .tuple #[.agg #[.int .i64 p.1, .string ⟨p.2.toArray⟩], .bool true]) ?_ rfl ⟨rfl, belowRow B2.out (Nat.le_refl _)⟩
  rw [results_cell_tmp rfl]
  simp only [asAddr]
  have hld := run_loadVar_row (P := Tryz.prog) (w2.setRow w.heap.size #[.int .i64 p.1, .string ⟨p.2.toArray⟩]) w.heap.size 111 111 #[.int .i64 p.1, .string ⟨p.2.toArray⟩] (0, 0) _ (setRowV K2.out) Tryz.underlying111 rfl Tryz.sizeVer
  simp [Result.andThen, hld]
end Go.Proofs.YtehacdijleommaaGreatDoor
namespace Go.Proofs.YtehacdijleommaaGreatDoor
open Go.RowKit
set_option maxRecDepth 100000 in
set_option maxHeartbeats 1000000 in
theorem at_no (n : Int) (B cb : Nat) (L : List Ver) (w : World) (h : CH w B cb L) (hr : Ris L) (hl : L.length ≤ 4611686018427387904) (h0 : ab n L = 0) :
    Calls Tryz.prog 51 #[.pointer (some ⟨cb, 0, none⟩), .int .i64 n] w fun e w' => e = .returned (.tuple #[.string ⟨#[]⟩, .bool false]) ∧ Below w.heap.size w w' := by
  have HA := hide (counts_no n B cb L w h hr hl h0)
  clear h hr hl h0
  go_enter Tryz.func51, Tryz.ntmps51
  go_wp2_with fail
  refine HA.out.mono ?_
  rintro e w2 ⟨rfl, hb2⟩
  have B3 : Hid (Below w.heap.size w (w2.alloc (.cells #[.int .i64 0, .string ⟨#[]⟩] 111))) := hide (hb2.alloc hb2.size _)
  clear hb2 HA
  go_wp2_with (refine wpList_store_row rfl 111 _ _ rfl w2.heap.size #[.int .i64 0, .string ⟨#[]⟩] rfl rfl _ _ (alloc_newV w2 _) Tryz.sizeVer rfl (by simp [Value.oneCell']) ?_; rw [World.setRow_alloc_new])
  go_ret2
  exact ⟨rfl, B3.out⟩
set_option maxRecDepth 100000 in
set_option maxHeartbeats 1000000 in
theorem at_yes (n : Int) (B cb : Nat) (L : List Ver) (k : Nat) (p : Ver) (w : World) (h : CH w B cb L) (hr : Ris L) (hl : L.length ≤ 4611686018427387904) (h0 : ab n L = k + 1) (hp : L[k]? = some p) :
    Calls Tryz.prog 51 #[.pointer (some ⟨cb, 0, none⟩), .int .i64 n] w fun e w' => e = .returned (.tuple #[.string ⟨p.2.toArray⟩, .bool true]) ∧ Below w.heap.size w w' := by
  have HA := hide (counts_yes n B cb k L p w h hr hl h0 hp)
  clear h hr hl h0 hp
  go_enter Tryz.func51, Tryz.ntmps51
  go_wp2_with fail
  refine HA.out.mono ?_
  rintro e w2 ⟨rfl, hb2⟩
  have B3 : Hid (Below w.heap.size w (w2.alloc (.cells #[.int .i64 p.1, .string ⟨p.2.toArray⟩] 111))) := hide (hb2.alloc hb2.size _)
  clear hb2 HA
  go_wp2_with (refine wpList_store_row rfl 111 _ _ rfl w2.heap.size #[.int .i64 p.1, .string ⟨p.2.toArray⟩] rfl rfl _ _ (alloc_newV w2 _) Tryz.sizeVer rfl (by simp [Value.oneCell']) ?_; rw [World.setRow_alloc_new])
  go_ret2
  exact ⟨rfl, B3.out⟩
set_option maxRecDepth 100000 in
set_option maxHeartbeats 1000000 in
theorem last_no (B cb : Nat) (L : List Ver) (w : World) (h : CH w B cb L) (hr : Ris L) (hl : L.length ≤ 4611686018427387904) (h0 : ab 9223372036854775807 L = 0) :
    Calls Tryz.prog 42 #[.pointer (some ⟨cb, 0, none⟩)] w fun e w' => e = .returned (.tuple #[.string ⟨#[]⟩, .int .i64 0, .bool false]) ∧ Below w.heap.size w w' := by
  have HA := hide (counts_no 9223372036854775807 B cb L w h hr hl h0)
  clear h hr hl h0
  go_enter Tryz.func42, Tryz.ntmps42
  go_wp2_with fail
  refine HA.out.mono ?_
  rintro e w2 ⟨rfl, hb2⟩
  have B3 : Hid (Below w.heap.size w (w2.alloc (.cells #[.int .i64 0, .string ⟨#[]⟩] 111))) := hide (hb2.alloc hb2.size _)
  clear hb2 HA
  go_wp2_with (refine wpList_store_row rfl 111 _ _ rfl w2.heap.size #[.int .i64 0, .string ⟨#[]⟩] rfl rfl _ _ (alloc_newV w2 _) Tryz.sizeVer rfl (by simp [Value.oneCell']) ?_; rw [World.setRow_alloc_new])
  go_quiet (fail)
  go_wp2_with fail
  go_ret3
  exact ⟨rfl, below_dq B3.out _⟩
set_option maxRecDepth 100000 in
set_option maxHeartbeats 1000000 in
theorem last_yes (B cb : Nat) (L : List Ver) (k : Nat) (p : Ver) (w : World) (h : CH w B cb L) (hr : Ris L) (hl : L.length ≤ 4611686018427387904) (h0 : ab 9223372036854775807 L = k + 1) (hp : L[k]? = some p) :
    Calls Tryz.prog 42 #[.pointer (some ⟨cb, 0, none⟩)] w fun e w' => e = .returned (.tuple #[.string ⟨p.2.toArray⟩, .int .i64 p.1, .bool true]) ∧ Below w.heap.size w w' := by
  have HA := hide (counts_yes 9223372036854775807 B cb k L p w h hr hl h0 hp)
  clear h hr hl h0 hp
  go_enter Tryz.func42, Tryz.ntmps42
  go_wp2_with fail
  refine HA.out.mono ?_
  rintro e w2 ⟨rfl, hb2⟩
  have B3 : Hid (Below w.heap.size w (w2.alloc (.cells #[.int .i64 p.1, .string ⟨p.2.toArray⟩] 111))) := hide (hb2.alloc hb2.size _)
  clear hb2 HA
  go_wp2_with (refine wpList_store_row rfl 111 _ _ rfl w2.heap.size #[.int .i64 p.1, .string ⟨p.2.toArray⟩] rfl rfl _ _ (alloc_newV w2 _) Tryz.sizeVer rfl (by simp [Value.oneCell']) ?_; rw [World.setRow_alloc_new])
  go_quiet (fail)
  go_wp2_with fail
  go_ret3
  exact ⟨rfl, below_dq B3.out _⟩
set_option maxRecDepth 100000 in
theorem len_any (B cb : Nat) (L : List Ver) (w : World) (h : CH w B cb L) :
    Calls Tryz.prog 37 #[.pointer (some ⟨cb, 0, none⟩)] w fun e w' => e = .returned (.int .i64 (L.length : Int)) ∧ Below w.heap.size w w' := by
  obtain ⟨a, cap, c0, _⟩ := h.parts
  clear h
  go_enter Tryz.func37, Tryz.ntmps37
  go_wp2_with fail
  go_ret
  exact ⟨rfl, Below.refl _ _⟩
set_option maxRecDepth 100000 in
theorem new_any (w : World) :
    Calls Tryz.prog 62 #[] w fun e w' => e = .returned (.pointer (some ⟨w.heap.size, 0, none⟩)) ∧ CH w' w.heap.size w.heap.size [] ∧ Below w.heap.size w w' := by
  have HC : Hid (CH (w.alloc (.cells #[.slice none 0 0, .int .i64 0] 104)) w.heap.size w.heap.size []) := hide ⟨Nat.le_refl _, .slice none 0 0, 0, alloc_newV w _, OR.nil _ _ _ _, (fun e => by cases e), Nat.le_refl _⟩
  have HB := hide ((Below.refl w.heap.size w).alloc (Nat.le_refl _) (.cells #[.slice none 0 0, .int .i64 0] 104))
  go_enter Tryz.func62, Tryz.ntmps62
  go_wp2_with fail
  go_ret
  exact ⟨rfl, HC.out, HB.out⟩
end Go.Proofs.YtehacdijleommaaGreatDoor
namespace Go.Proofs.YtehacdijleommaaGreatDoor
open Go.RowKit

def mxI : Int := 9223372036854775807
theorem ab_max : ∀ (L : List Ver), (∀ p ∈ L, p.1 ≤ 9223372036854775807) → ab 9223372036854775807 L = L.length
  | [], _ => rfl
  | p :: r, h => by
    have h1 := h p (List.mem_cons_self ..)
    unfold ab
    rw [if_neg (by omega), ab_max r (fun q hq => h q (List.mem_cons_of_mem _ hq))]; rfl
/-- What a call leaves alone: all but the chain's own two blocks. -/
structure Fr (W w' : World) (cb : Nat) : Prop where
  os : w'.os = W.os
  tape : w'.tape = W.tape
  output : w'.output = W.output
  size : W.heap.size ≤ w'.heap.size
  block : ∀ g, g < W.heap.size → g ≠ cb → (∀ v, W.cell? ⟨cb, 0, none⟩ = some v → v.ownBlock ≠ some g) → w'.heap[g]? = W.heap[g]?
  row : ∀ v', w'.cell? ⟨cb, 0, none⟩ = some v' → ∀ g, v'.ownBlock = some g → W.heap.size ≤ g ∨ ∃ v, W.cell? ⟨cb, 0, none⟩ = some v ∧ v.ownBlock = some g
theorem Fr.below {W w' : World} {B cb : Nat} {L : List Ver} (h : Fr W w' cb) (hc : CH W B cb L) : Below B W w' := by
  refine ⟨h.os, h.tape, h.output, h.size, fun k hk => ?_⟩
  have hlt := hc.lt
  obtain ⟨h1, v, em, hh, ho, hn⟩ := hc
  refine h.block k (by omega) (by omega) (fun v' hv' e => ?_)
  have : W.cell? ⟨cb, 0, none⟩ = some v := by rw [cell_of_row W cb 0 _ _ _ hh]; rfl
  rw [this] at hv'
  cases hv'
  have := (ho.lt e).1
  omega
theorem wp_append_or {P : Program} {ops : Array Oper} {rest : List Oper} {o : Oper} {a : Act} {Q : Exit → Act → World → Prop} (w : World) (B : Nat) (t e : TypeId) (i : TypeInfo) (z : Value) (k bytes : Nat) (hgd : o.guard = none) (s x : Operand)
    (ho : o.op = .call { callee := .builtin .append, args := #[s, x], argTypes := #[t, t] }) (ht : P.underlying t = some (.slice e)) (hi : P.info? e = some i) (hz : i.zero = some z)
    (hsize : i.size = k) (hby : i.bytes = bytes) (hzs : z.cells.size = k) (hsz : 0 < k) (v : Value) (n : Nat) (xs : List Value) (hs : a.eval s = v) (hO : OR w B e k v n xs) (b : Addr) (c : Nat) (news : List Value) (hx : a.eval x = .slice (some b) 1 c) (hl : news.length = k) (hnews : ∀ j u, news[j]? = some u → w.cell? (b.add j) = some u) (h1 : ∀ u ∈ news, u.oneCell' = true)
    (h63 : n + 1 ≤ maxLen) (hbytes : (n + 1) * bytes ≤ 140737488355328) (hB : B ≤ w.heap.size)
    (h : ∀ v' w', OR w' B e k v' (n + 1) (xs ++ news) → w.grownBy w' v.ownBlock → (∀ g, v'.ownBlock = some g → v.ownBlock = some g ∨ w.heap.size ≤ g) → wpList P ops Q rest (a.put o.dst v') w') : wpList P ops Q (o :: rest) a w := by
  obtain ⟨v', w', hrun, r1, r2, r3⟩ := run_append_or (P := P) w B t o.type e i z k bytes ht hi hz hsize hby hzs hsz v n xs hO b c news hl hnews h1 h63 hbytes hB
  refine wpList_plain hgd fun K hK => ?_
  unfold Oper.wp
  simp [execOp, ho, resolve, invoke, builtin, hs, hx, hrun, Result.andThen]
  exact hK _ _ (h v' w' r1 r2 r3)
theorem Tryz.infoVer : (Tryz.prog.info? 111).map (fun i => (i.zero, i.size, i.bytes)) = some (some (.agg #[.int .i64 0, .string ⟨#[]⟩]), 2, 24) := by kernel_rfl
set_option maxRecDepth 100000 in
set_option maxHeartbeats 1000000 in
/-- A version that may not be put. -/
theorem put_no (n : Int) (s : List UInt8) (B cb : Nat) (L : List Ver) (w : World) (h : CH w B cb L) (hr : Ris L) (hm : ∀ p ∈ L, p.1 ≤ 9223372036854775807) (hl : L.length ≤ 4611686018427387904) (hn : n < 0 ∨ ∃ p, L[L.length - 1]? = some p ∧ n ≤ p.1) :
    Calls Tryz.prog 40 #[.pointer (some ⟨cb, 0, none⟩), .int .i64 n, .string ⟨s.toArray⟩] w fun e w' => e = .returned (errV 1) ∧ Below w.heap.size w w' := by
  rw [errV_pos (by omega)]
  by_cases h0 : L.length = 0
  · have hn0 : n < 0 := by
      rcases hn with hn | ⟨p, hp, _⟩
      · exact hn
      · have := (List.getElem?_eq_some_iff.1 hp).1; omega
    have d1 : decide (n < 0) = true := decide_eq_true hn0
    have HA := hide (last_no B cb L w h hr hl (by rw [ab_max L hm]; exact h0))
    clear h hr hm hl h0 hn
    go_enter Tryz.func40, Tryz.ntmps40
    go_wp2_with fail
    refine HA.out.mono ?_
    rintro e w2 ⟨rfl, hb2⟩
    have B2 := hide hb2
    clear hb2
    go_wp2_with fail
    go_ret
    exact ⟨rfl, B2.out⟩
  · obtain ⟨k, hk⟩ : ∃ k, L.length = k + 1 := ⟨L.length - 1, by omega⟩
    obtain ⟨p, hp⟩ : ∃ p, L[k]? = some p := ⟨_, List.getElem?_eq_getElem (by omega)⟩
    have HA := hide (last_yes B cb L k p w h hr hl (by rw [ab_max L hm]; exact hk) hp)
    have hn' : n < 0 ∨ n ≤ p.1 := by
      rcases hn with hn | ⟨q, hq, hle⟩
      · exact .inl hn
      · rw [show L.length - 1 = k by omega, hp] at hq; cases hq; exact .inr hle
    clear h hr hm hl h0 hn hk hp
    by_cases hn0 : n < 0
    · have d1 : decide (n < 0) = true := decide_eq_true hn0
      go_enter Tryz.func40, Tryz.ntmps40
      go_wp2_with fail
      refine HA.out.mono ?_
      rintro e w2 ⟨rfl, hb2⟩
      have B2 := hide hb2
      clear hb2
      go_wp2_with fail
      go_ret
      exact ⟨rfl, B2.out⟩
    · have d1 : decide (n < 0) = false := decide_eq_false hn0
      have d2 : decide (n ≤ p.1) = true := decide_eq_true (by omega)
      go_enter Tryz.func40, Tryz.ntmps40
      go_wp2_with fail
      refine HA.out.mono ?_
      rintro e w2 ⟨rfl, hb2⟩
      have B2 := hide hb2
      clear hb2
      go_wp2_with fail
      go_ret
      exact ⟨rfl, B2.out⟩
/-- The end of a Put. -/
theorem put_end {W w2 W3 w4 : World} {B cb em : Nat} {L : List Ver} {v v' : Value} {n : Int} {s : List UInt8} (hb2 : Below W.heap.size W w2) (hv : W.heap[cb]? = some (.cells #[v, .int .i64 (em : Int)] 104 (0, 0))) (hB : B ≤ cb) (hn : v.ownBlock ≠ some cb) (hem : em ≤ L.length)
    (hw3 : w2.alloc (.cells #[.int .i64 n, .string ⟨s.toArray⟩] 111) = W3) (r1 : OR w4 B 111 2 v' (L.length + 1) (vc L ++ [.int .i64 n, .string ⟨s.toArray⟩])) (r2 : W3.grownBy w4 v.ownBlock) (r3 : ∀ g, v'.ownBlock = some g → v.ownBlock = some g ∨ W3.heap.size ≤ g) :
    CH (w4.setCell ⟨cb, 0, none⟩ v') B cb (L ++ [(n, s)]) ∧ Fr W (w4.setCell ⟨cb, 0, none⟩ v') cb := by
  have hlt : cb < W.heap.size := (Array.getElem?_eq_some_iff.1 hv).1
  have hA : Below W.heap.size W W3 := by rw [← hw3]; exact hb2.alloc hb2.size _
  have h4 : w4.heap[cb]? = some (.cells #[v, .int .i64 (em : Int)] 104 (0, 0)) := (r2.block cb (Nat.lt_of_lt_of_le hlt hA.size) (fun e => hn e.symm)).trans ((hA.block cb hlt).trans hv)
  have h5 := setCell_eq_setRow w4 cb 0 _ _ _ v' h4
  have h6 : (w4.setCell ⟨cb, 0, none⟩ v').heap[cb]? = some (.cells #[v', .int .i64 (em : Int)] 104 (0, 0)) := by rw [h5]; exact setRow_heap w4 cb _ _ _ _ h4
  have hn' : v'.ownBlock ≠ some cb := fun e => by
    rcases r3 cb e with h | h
    · exact hn h
    · have := hA.size; omega
  have hsz : (w4.setCell ⟨cb, 0, none⟩ v').heap.size = w4.heap.size := by simp [World.setCell]
  refine ⟨⟨hB, v', em, h6, ?_, hn', by rw [List.length_append]; omega⟩, ⟨r2.os.trans hA.os, r2.tape.trans hA.tape, r2.output.trans hA.output, by rw [hsz]; exact Nat.le_trans hA.size r2.size, fun g hg hne hrow => ?_, fun u hu g hg => ?_⟩⟩
  · rw [vc_app, List.length_append]
    exact r1.kept (fun g hg => Below.heap_setCell _ _ _ g (fun e => hn' (by have e' : g = cb := e; rw [← e']; exact hg)))
  · rw [Below.heap_setCell _ _ _ g hne, r2.block g (Nat.lt_of_lt_of_le hg hA.size) (fun e => hrow v (by rw [cell_of_row W cb 0 _ _ _ hv]; rfl) e.symm)]
    exact hA.block g hg
  · rw [cell_of_row _ cb 0 _ _ _ h6] at hu
    cases hu
    rcases r3 g hg with h | h
    · exact .inr ⟨v, by rw [cell_of_row W cb 0 _ _ _ hv]; rfl, h⟩
    · exact .inl (Nat.le_trans hA.size h)
set_option maxRecDepth 100000 in
set_option maxHeartbeats 2000000 in
/-- A version that may be put. -/
theorem put_yes (n : Int) (s : List UInt8) (B cb : Nat) (L : List Ver) (w : World) (h : CH w B cb L) (hr : Ris L) (hm : ∀ p ∈ L, p.1 ≤ 9223372036854775807) (hl : L.length ≤ 5864062014804) (hn0 : 0 ≤ n) (hn : ∀ p, L[L.length - 1]? = some p → p.1 < n) :
    Calls Tryz.prog 40 #[.pointer (some ⟨cb, 0, none⟩), .int .i64 n, .string ⟨s.toArray⟩] w fun e w' => e = .returned .nilIface ∧ CH w' B cb (L ++ [(n, s)]) ∧ Fr w w' cb := by
  have d1 : decide (n < 0) = false := decide_eq_false (by omega)
  have HC := hide h
  have HLL := hide hl
  obtain ⟨i0, hi, hz0, hz1, hz2⟩ := info_parts Tryz.infoVer
  have HI := hide (And.intro hi (And.intro hz0 (And.intro hz1 hz2)))
  obtain ⟨hB, v, em, hv, ho, hno, hem⟩ := h
  have HEM := hide hem
  have HV := hide hv
  have HOR := hide ho
  have HNO := hide hno
  have HBB := hide hB
  have hlast : ∃ t : Value, ∃ k : Int, ∃ ok : Bool, (decide (n ≤ k) = false ∨ ok = false) ∧ Calls Tryz.prog 42 #[.pointer (some ⟨cb, 0, none⟩)] w fun e w' => e = .returned (.tuple #[t, .int .i64 k, .bool ok]) ∧ Below w.heap.size w w' := by
    by_cases h0 : L.length = 0
    · exact ⟨_, _, _, .inr rfl, last_no B cb L w HC.out hr (by omega) (by rw [ab_max L hm]; exact h0)⟩
    · obtain ⟨k, hk⟩ : ∃ k, L.length = k + 1 := ⟨L.length - 1, by omega⟩
      obtain ⟨p, hp⟩ : ∃ p, L[k]? = some p := ⟨_, List.getElem?_eq_getElem (by omega)⟩
      have := hn p (by rw [show L.length - 1 = k by omega]; exact hp)
      exact ⟨_, _, _, .inl (decide_eq_false (by omega)), last_yes B cb L k p w HC.out hr (by omega) (by rw [ab_max L hm]; exact hk) hp⟩
  obtain ⟨t, k, ok, hok, hA⟩ := hlast
  have HA := hide hA
  clear hA hr hm hl hn hi hz0 hz1 hz2 hv ho hno hem hB HC
  rcases hok with d2 | rfl
  all_goals
    try (cases ok)
  all_goals
    go_enter Tryz.func40, Tryz.ntmps40
    go_wp2_with fail
    refine HA.out.mono ?_
    rintro e w2 ⟨rfl, hb2⟩
    have HB2 := hide hb2
    have k0 : w2.cell? ⟨cb, 0, none⟩ = some v := by rw [cell_of_row w2 cb 0 _ _ _ ((hb2.block cb (Array.getElem?_eq_some_iff.1 HV.out).1).trans HV.out)]; rfl
    obtain ⟨W3, hW3⟩ : ∃ W3, w2.alloc (.cells #[.int .i64 n, .string ⟨s.toArray⟩] 111) = W3 := ⟨_, rfl⟩
    have HW3 := hide hW3
    have HO3 : Hid (OR W3 B 111 2 v L.length (vc L)) := hide (by rw [← hW3]; exact HOR.out.later (hb2.alloc hb2.size _))
    have HN3 : Hid (∀ j u, ([.int .i64 n, .string ⟨s.toArray⟩] : List Value)[j]? = some u → W3.cell? ((⟨w2.heap.size, 0, none⟩ : Addr).add j) = some u) := hide (fun j u hj => by
      rw [← hW3, Addr.add_lit, cell_of_row _ w2.heap.size _ _ _ _ (alloc_newV w2 _)]
      match j, hj with
      | 0, hj => cases hj; rfl
      | 1, hj => cases hj; rfl)
    have HZ3 : Hid (B ≤ W3.heap.size) := hide (by rw [← hW3]; have := HBB.out; have := (Array.getElem?_eq_some_iff.1 HV.out).1; have := hb2.size; simp; omega)
    clear hb2
    go_wp2_with (at_builtin; refine wp_append_or W3 B 102 111 i0 _ 2 24 rfl _ _ rfl Tryz.underlying102 HI.out.1 HI.out.2.1 HI.out.2.2.1 HI.out.2.2.2 rfl (by decide) v L.length (vc L) rfl HO3.out ⟨w2.heap.size, 0, none⟩ 1 [.int .i64 n, .string ⟨s.toArray⟩] rfl rfl HN3.out (by intro u hu; simp at hu; rcases hu with rfl | rfl <;> rfl) (by have := HLL.out; unfold maxLen; omega) (by have := HLL.out; omega) HZ3.out ?_)
    intro v' w4 r1 r2 r3
    have HE := hide (put_end HB2.out HV.out HBB.out HNO.out HEM.out HW3.out r1 r2 r3)
    have k4 : w4.heap[cb]? = some (.cells #[v, .int .i64 (em : Int)] 104 (0, 0)) := by
      have hlt := (Array.getElem?_eq_some_iff.1 HV.out).1
      have hA3 : Below w.heap.size w W3 := by rw [← HW3.out]; exact HB2.out.alloc HB2.out.size _
      exact (r2.block cb (Nat.lt_of_lt_of_le hlt hA3.size) (fun e => HNO.out e.symm)).trans ((hA3.block cb hlt).trans HV.out)
    have c4 : w4.cell? ⟨cb, 0, none⟩ = some v := by rw [cell_of_row w4 cb 0 _ _ _ k4]; rfl
    have f4 : w4.frozen? ⟨cb, 0, none⟩ = false := by unfold World.frozen?; simp [k4]
    obtain ⟨a4, n4, cap4, rfl⟩ : ∃ a4 n4 cap4, v' = .slice a4 n4 cap4 := by
      rcases r1.2 with ⟨e, _⟩ | ⟨_, _, _, _, e, _⟩ <;> exact ⟨_, _, _, e⟩
    clear r1 r2 r3 k4 hW3 k0 HW3
    go_wp2_with fail
    go_ret
    exact ⟨rfl, HE.out.1, HE.out.2⟩
end Go.Proofs.YtehacdijleommaaGreatDoor
