/-
  My own text: the program's Decode, whole (printed by mkg12.py).
-/
import Derived.Test.YtdiamlajmcikhaaGreatDoorG11
namespace Go.Proofs.YtdiamlajmcikhaaGreatDoor
open Go.RowKit

/-- What is wrong with a row of so many numbers behind its code. -/
def fxE (c : Int) (n : Nat) : Int :=
  if c = 1 ∨ c = 2 then (if (n : Int) < 3 then 2 else if 3 < (n : Int) then 3 else 0)
  else if c = 3 ∨ c = 4 then (if (n : Int) < 4 then 2 else if 4 < (n : Int) then 3 else 0)
  else if c = 5 then (if 1 ≤ n ∧ (n - 1) % 5 = 0 then 0 else 2)
  else if c = 6 ∨ c = 7 then (if (n : Int) < 1 then 2 else if 1 < (n : Int) then 3 else 0)
  else if c = 8 then (if 0 ≤ n ∧ (n - 0) % 2 = 0 then 0 else 2)
  else 13
def dcE : List Int → Int
  | [] => 2
  | c :: N => fxE c N.length
def opZ : OpX := ⟨0, 0, 0, 0, 0, 0, [], []⟩
/-- What a code and the numbers behind it tell. -/
def rdO (c : Int) (N : List Int) : OpX :=
  if c = 1 ∨ c = 2 then ⟨c, nth N 0, nth N 1, nth N 2, 0, 0, [], []⟩
  else if c = 3 ∨ c = 4 then ⟨c, nth N 0, nth N 1, nth N 2, nth N 3, 0, [], []⟩
  else if c = 5 then ⟨c, 0, 0, 0, 0, nth N 0, legsOf (N.drop 1), []⟩
  else if c = 6 ∨ c = 7 then ⟨c, 0, 0, 0, 0, nth N 0, [], []⟩
  else ⟨c, 0, 0, 0, 0, 0, [], keysOf N⟩
/-- The operation that a row tells. -/
def dcO : List Int → OpX
  | [] => opZ
  | c :: N => if fxE c N.length = 0 then rdO c N else opZ
theorem fxE_rng (c : Int) (n : Nat) : 0 ≤ fxE c n ∧ fxE c n ≤ 24 := by unfold fxE; repeat' split <;> omega
theorem dcE_rng : ∀ (raw : List Int), 0 ≤ dcE raw ∧ dcE raw ≤ 24
  | [] => ⟨by decide, by decide⟩
  | c :: N => fxE_rng c N.length
theorem fxE_1 (n : Nat) : fxE 1 n = (if (n : Int) < 3 then 2 else if 3 < (n : Int) then 3 else 0) := by unfold fxE; simp
theorem rdO_1 (N : List Int) : rdO 1 N = ⟨1, nth N 0, nth N 1, nth N 2, 0, 0, [], []⟩ := by unfold rdO; simp
theorem fxE_2 (n : Nat) : fxE 2 n = (if (n : Int) < 3 then 2 else if 3 < (n : Int) then 3 else 0) := by unfold fxE; simp
theorem rdO_2 (N : List Int) : rdO 2 N = ⟨2, nth N 0, nth N 1, nth N 2, 0, 0, [], []⟩ := by unfold rdO; simp
theorem fxE_3 (n : Nat) : fxE 3 n = (if (n : Int) < 4 then 2 else if 4 < (n : Int) then 3 else 0) := by unfold fxE; simp
theorem rdO_3 (N : List Int) : rdO 3 N = ⟨3, nth N 0, nth N 1, nth N 2, nth N 3, 0, [], []⟩ := by unfold rdO; simp
theorem fxE_4 (n : Nat) : fxE 4 n = (if (n : Int) < 4 then 2 else if 4 < (n : Int) then 3 else 0) := by unfold fxE; simp
theorem rdO_4 (N : List Int) : rdO 4 N = ⟨4, nth N 0, nth N 1, nth N 2, nth N 3, 0, [], []⟩ := by unfold rdO; simp
theorem fxE_5 (n : Nat) : fxE 5 n = (if 1 ≤ n ∧ (n - 1) % 5 = 0 then 0 else 2) := by unfold fxE; simp
theorem rdO_5 (N : List Int) : rdO 5 N = ⟨5, 0, 0, 0, 0, nth N 0, legsOf (N.drop 1), []⟩ := by unfold rdO; simp
theorem fxE_6 (n : Nat) : fxE 6 n = (if (n : Int) < 1 then 2 else if 1 < (n : Int) then 3 else 0) := by unfold fxE; simp
theorem rdO_6 (N : List Int) : rdO 6 N = ⟨6, 0, 0, 0, 0, nth N 0, [], []⟩ := by unfold rdO; simp
theorem fxE_7 (n : Nat) : fxE 7 n = (if (n : Int) < 1 then 2 else if 1 < (n : Int) then 3 else 0) := by unfold fxE; simp
theorem rdO_7 (N : List Int) : rdO 7 N = ⟨7, 0, 0, 0, 0, nth N 0, [], []⟩ := by unfold rdO; simp
theorem fxE_8 (n : Nat) : fxE 8 n = (if 0 ≤ n ∧ (n - 0) % 2 = 0 then 0 else 2) := by unfold fxE; simp
theorem rdO_8 (N : List Int) : rdO 8 N = ⟨8, 0, 0, 0, 0, 0, [], keysOf N⟩ := by unfold rdO; simp
theorem fxE_0 {c : Int} {n : Nat} (h : ¬ (1 ≤ c ∧ c ≤ 8)) : fxE c n = 13 := by
  unfold fxE
  rw [if_neg (by omega), if_neg (by omega), if_neg (by omega), if_neg (by omega), if_neg (by omega)]
/-- What Decode answers. -/
def DcP (w : World) (raw : List Int) (e : Ending) (w' : World) : Prop := ∃ lv pv, e = .returned (.tuple #[opV (dcO raw) lv pv, errV (dcE raw)]) ∧ LG.OM w' w.heap.size lv (dcO raw).legs ∧ KY.OM w' w.heap.size pv (dcO raw).pairs ∧ Below w.heap.size w w'
theorem dcP_err {w : World} {raw : List Int} {e0 : Int} {f : FuncId} {args : Array Value} (hE : dcE raw = e0) (hO : dcO raw = opZ) (h : Calls Tryz.prog f args w fun e w' => e = .returned (.tuple #[.agg #[.int .i64 0, .int .i64 0, .int .i64 0, .int .i64 0, .int .i64 0, .int .i64 0, .slice none 0 0, .slice none 0 0], errV e0]) ∧ Below w.heap.size w w') :
    Calls Tryz.prog f args w (DcP w raw) := by
  refine h.mono ?_
  rintro e w' ⟨rfl, hb⟩
  exact ⟨.slice none 0 0, .slice none 0 0, by rw [hE, hO]; rfl, by rw [hO]; exact LG.OM.nil _ _, by rw [hO]; exact KY.OM.nil _ _, hb⟩
theorem dcO_err {c : Int} {N : List Int} (h : ¬ fxE c N.length = 0) : dcO (c :: N) = opZ := if_neg h
theorem dcO_ok {c : Int} {N : List Int} (h : fxE c N.length = 0) : dcO (c :: N) = rdO c N := if_pos h
set_option maxHeartbeats 1000000 in
theorem decode_1 (v : Value) (N : List Int) (w : World) (hv : LN.RM w v (1 :: N)) (hl : N.length ≤ 17592186044002) : Calls Tryz.prog 10 #[v] w (DcP w (1 :: N)) := by
  have hx := fxE_1 N.length
  have hrg := fxE_rng 1 N.length
  by_cases h0 : fxE 1 N.length = 0
  · have hN : N.length = 3 := by
      rw [h0] at hx
      by_cases h1 : (N.length : Int) < 3
      · rw [if_pos h1] at hx; omega
      · rw [if_neg h1] at hx
        by_cases h2 : 3 < (N.length : Int)
        · rw [if_pos h2] at hx; omega
        · omega
    refine (decode_ok v 1 N w hv hl 1 _ _ _ _ _ ⟨rfl, by omega, by omega⟩ fmV_1 _ _ _ _ _ [] [] (fun _ _ => by kernel_rfl) (fun W => by
      rw [show errV 0 = errV (fxE 1 N.length) by rw [h0], hx]
      exact fits0_any 3 N.length _ _ _ W (by omega) (by omega) (by omega)) (fun W nv hr => (heldR_any nv N W hr (by omega) (by omega)).mono fun e w' ⟨he, hb⟩ => ⟨.slice none 0 0, .slice none 0 0, he, LG.OM.nil _ _, KY.OM.nil _ _, hb⟩)).mono ?_
    rintro e w' ⟨lv, pv, rfl, hL, hP, hb⟩
    refine ⟨lv, pv, ?_, ?_, ?_, hb⟩
    · rw [dcO_ok h0, rdO_1, show dcE (1 :: N) = 0 from h0]; rfl
    · rw [dcO_ok h0, rdO_1]; exact hL
    · rw [dcO_ok h0, rdO_1]; exact hP
  · exact dcP_err rfl (dcO_err h0) (decode_err v 1 N w hv hl 1 _ _ _ _ _ ⟨rfl, by omega, by omega⟩ fmV_1 (fxE 1 N.length) (by omega) (fun W => by
      rw [hx]
      exact fits0_any 3 N.length _ _ _ W (by omega) (by omega) (by omega)))
set_option maxHeartbeats 1000000 in
theorem decode_2 (v : Value) (N : List Int) (w : World) (hv : LN.RM w v (2 :: N)) (hl : N.length ≤ 17592186044002) : Calls Tryz.prog 10 #[v] w (DcP w (2 :: N)) := by
  have hx := fxE_2 N.length
  have hrg := fxE_rng 2 N.length
  by_cases h0 : fxE 2 N.length = 0
  · have hN : N.length = 3 := by
      rw [h0] at hx
      by_cases h1 : (N.length : Int) < 3
      · rw [if_pos h1] at hx; omega
      · rw [if_neg h1] at hx
        by_cases h2 : 3 < (N.length : Int)
        · rw [if_pos h2] at hx; omega
        · omega
    refine (decode_ok v 2 N w hv hl 2 _ _ _ _ _ ⟨rfl, by omega, by omega⟩ fmV_2 _ _ _ _ _ [] [] (fun _ _ => by kernel_rfl) (fun W => by
      rw [show errV 0 = errV (fxE 2 N.length) by rw [h0], hx]
      exact fits0_any 3 N.length _ _ _ W (by omega) (by omega) (by omega)) (fun W nv hr => (heldR_any nv N W hr (by omega) (by omega)).mono fun e w' ⟨he, hb⟩ => ⟨.slice none 0 0, .slice none 0 0, he, LG.OM.nil _ _, KY.OM.nil _ _, hb⟩)).mono ?_
    rintro e w' ⟨lv, pv, rfl, hL, hP, hb⟩
    refine ⟨lv, pv, ?_, ?_, ?_, hb⟩
    · rw [dcO_ok h0, rdO_2, show dcE (2 :: N) = 0 from h0]; rfl
    · rw [dcO_ok h0, rdO_2]; exact hL
    · rw [dcO_ok h0, rdO_2]; exact hP
  · exact dcP_err rfl (dcO_err h0) (decode_err v 2 N w hv hl 2 _ _ _ _ _ ⟨rfl, by omega, by omega⟩ fmV_2 (fxE 2 N.length) (by omega) (fun W => by
      rw [hx]
      exact fits0_any 3 N.length _ _ _ W (by omega) (by omega) (by omega)))
set_option maxHeartbeats 1000000 in
theorem decode_3 (v : Value) (N : List Int) (w : World) (hv : LN.RM w v (3 :: N)) (hl : N.length ≤ 17592186044002) : Calls Tryz.prog 10 #[v] w (DcP w (3 :: N)) := by
  have hx := fxE_3 N.length
  have hrg := fxE_rng 3 N.length
  by_cases h0 : fxE 3 N.length = 0
  · have hN : N.length = 4 := by
      rw [h0] at hx
      by_cases h1 : (N.length : Int) < 4
      · rw [if_pos h1] at hx; omega
      · rw [if_neg h1] at hx
        by_cases h2 : 4 < (N.length : Int)
        · rw [if_pos h2] at hx; omega
        · omega
    refine (decode_ok v 3 N w hv hl 3 _ _ _ _ _ ⟨rfl, by omega, by omega⟩ fmV_3 _ _ _ _ _ [] [] (fun _ _ => by kernel_rfl) (fun W => by
      rw [show errV 0 = errV (fxE 3 N.length) by rw [h0], hx]
      exact fits0_any 4 N.length _ _ _ W (by omega) (by omega) (by omega)) (fun W nv hr => (markedR_any nv N W hr (by omega) (by omega)).mono fun e w' ⟨he, hb⟩ => ⟨.slice none 0 0, .slice none 0 0, he, LG.OM.nil _ _, KY.OM.nil _ _, hb⟩)).mono ?_
    rintro e w' ⟨lv, pv, rfl, hL, hP, hb⟩
    refine ⟨lv, pv, ?_, ?_, ?_, hb⟩
    · rw [dcO_ok h0, rdO_3, show dcE (3 :: N) = 0 from h0]; rfl
    · rw [dcO_ok h0, rdO_3]; exact hL
    · rw [dcO_ok h0, rdO_3]; exact hP
  · exact dcP_err rfl (dcO_err h0) (decode_err v 3 N w hv hl 3 _ _ _ _ _ ⟨rfl, by omega, by omega⟩ fmV_3 (fxE 3 N.length) (by omega) (fun W => by
      rw [hx]
      exact fits0_any 4 N.length _ _ _ W (by omega) (by omega) (by omega)))
set_option maxHeartbeats 1000000 in
theorem decode_4 (v : Value) (N : List Int) (w : World) (hv : LN.RM w v (4 :: N)) (hl : N.length ≤ 17592186044002) : Calls Tryz.prog 10 #[v] w (DcP w (4 :: N)) := by
  have hx := fxE_4 N.length
  have hrg := fxE_rng 4 N.length
  by_cases h0 : fxE 4 N.length = 0
  · have hN : N.length = 4 := by
      rw [h0] at hx
      by_cases h1 : (N.length : Int) < 4
      · rw [if_pos h1] at hx; omega
      · rw [if_neg h1] at hx
        by_cases h2 : 4 < (N.length : Int)
        · rw [if_pos h2] at hx; omega
        · omega
    refine (decode_ok v 4 N w hv hl 4 _ _ _ _ _ ⟨rfl, by omega, by omega⟩ fmV_4 _ _ _ _ _ [] [] (fun _ _ => by kernel_rfl) (fun W => by
      rw [show errV 0 = errV (fxE 4 N.length) by rw [h0], hx]
      exact fits0_any 4 N.length _ _ _ W (by omega) (by omega) (by omega)) (fun W nv hr => (markedR_any nv N W hr (by omega) (by omega)).mono fun e w' ⟨he, hb⟩ => ⟨.slice none 0 0, .slice none 0 0, he, LG.OM.nil _ _, KY.OM.nil _ _, hb⟩)).mono ?_
    rintro e w' ⟨lv, pv, rfl, hL, hP, hb⟩
    refine ⟨lv, pv, ?_, ?_, ?_, hb⟩
    · rw [dcO_ok h0, rdO_4, show dcE (4 :: N) = 0 from h0]; rfl
    · rw [dcO_ok h0, rdO_4]; exact hL
    · rw [dcO_ok h0, rdO_4]; exact hP
  · exact dcP_err rfl (dcO_err h0) (decode_err v 4 N w hv hl 4 _ _ _ _ _ ⟨rfl, by omega, by omega⟩ fmV_4 (fxE 4 N.length) (by omega) (fun W => by
      rw [hx]
      exact fits0_any 4 N.length _ _ _ W (by omega) (by omega) (by omega)))
set_option maxHeartbeats 1000000 in
theorem decode_5 (v : Value) (N : List Int) (w : World) (hv : LN.RM w v (5 :: N)) (hl : N.length ≤ 17592186044002) : Calls Tryz.prog 10 #[v] w (DcP w (5 :: N)) := by
  have hx := fxE_5 N.length
  have hrg := fxE_rng 5 N.length
  by_cases h0 : fxE 5 N.length = 0
  · have hN : 1 ≤ N.length ∧ (N.length - 1) % 5 = 0 := by
      by_cases h1 : 1 ≤ N.length ∧ (N.length - 1) % 5 = 0
      · exact h1
      · rw [h0, if_neg h1] at hx; omega
    refine (decode_ok v 5 N w hv hl 5 _ _ _ _ _ ⟨rfl, by omega, by omega⟩ fmV_5 _ _ _ _ _ (legsOf (N.drop 1)) [] (fun _ _ => by kernel_rfl) (fun W => by
      rw [show errV 0 = errV (fxE 5 N.length) by rw [h0], hx]
      exact fits5_any N.length _ _ _ W (by omega)) (fun W nv hr => (legsR_any nv N W hr hN.1 (by rw [List.length_drop]; exact hN.2) (by omega)).mono fun e w' ⟨lv, he, ho, hb⟩ => ⟨lv, .slice none 0 0, he, ho, KY.OM.nil _ _, hb⟩)).mono ?_
    rintro e w' ⟨lv, pv, rfl, hL, hP, hb⟩
    refine ⟨lv, pv, ?_, ?_, ?_, hb⟩
    · rw [dcO_ok h0, rdO_5, show dcE (5 :: N) = 0 from h0]; rfl
    · rw [dcO_ok h0, rdO_5]; exact hL
    · rw [dcO_ok h0, rdO_5]; exact hP
  · exact dcP_err rfl (dcO_err h0) (decode_err v 5 N w hv hl 5 _ _ _ _ _ ⟨rfl, by omega, by omega⟩ fmV_5 (fxE 5 N.length) (by omega) (fun W => by
      rw [hx]
      exact fits5_any N.length _ _ _ W (by omega)))
set_option maxHeartbeats 1000000 in
theorem decode_6 (v : Value) (N : List Int) (w : World) (hv : LN.RM w v (6 :: N)) (hl : N.length ≤ 17592186044002) : Calls Tryz.prog 10 #[v] w (DcP w (6 :: N)) := by
  have hx := fxE_6 N.length
  have hrg := fxE_rng 6 N.length
  by_cases h0 : fxE 6 N.length = 0
  · have hN : N.length = 1 := by
      rw [h0] at hx
      by_cases h1 : (N.length : Int) < 1
      · rw [if_pos h1] at hx; omega
      · rw [if_neg h1] at hx
        by_cases h2 : 1 < (N.length : Int)
        · rw [if_pos h2] at hx; omega
        · omega
    refine (decode_ok v 6 N w hv hl 6 _ _ _ _ _ ⟨rfl, by omega, by omega⟩ fmV_6 _ _ _ _ _ [] [] (fun _ _ => by kernel_rfl) (fun W => by
      rw [show errV 0 = errV (fxE 6 N.length) by rw [h0], hx]
      exact fits0_any 1 N.length _ _ _ W (by omega) (by omega) (by omega)) (fun W nv hr => (identR_any nv N W hr (by omega) (by omega)).mono fun e w' ⟨he, hb⟩ => ⟨.slice none 0 0, .slice none 0 0, he, LG.OM.nil _ _, KY.OM.nil _ _, hb⟩)).mono ?_
    rintro e w' ⟨lv, pv, rfl, hL, hP, hb⟩
    refine ⟨lv, pv, ?_, ?_, ?_, hb⟩
    · rw [dcO_ok h0, rdO_6, show dcE (6 :: N) = 0 from h0]; rfl
    · rw [dcO_ok h0, rdO_6]; exact hL
    · rw [dcO_ok h0, rdO_6]; exact hP
  · exact dcP_err rfl (dcO_err h0) (decode_err v 6 N w hv hl 6 _ _ _ _ _ ⟨rfl, by omega, by omega⟩ fmV_6 (fxE 6 N.length) (by omega) (fun W => by
      rw [hx]
      exact fits0_any 1 N.length _ _ _ W (by omega) (by omega) (by omega)))
set_option maxHeartbeats 1000000 in
theorem decode_7 (v : Value) (N : List Int) (w : World) (hv : LN.RM w v (7 :: N)) (hl : N.length ≤ 17592186044002) : Calls Tryz.prog 10 #[v] w (DcP w (7 :: N)) := by
  have hx := fxE_7 N.length
  have hrg := fxE_rng 7 N.length
  by_cases h0 : fxE 7 N.length = 0
  · have hN : N.length = 1 := by
      rw [h0] at hx
      by_cases h1 : (N.length : Int) < 1
      · rw [if_pos h1] at hx; omega
      · rw [if_neg h1] at hx
        by_cases h2 : 1 < (N.length : Int)
        · rw [if_pos h2] at hx; omega
        · omega
    refine (decode_ok v 7 N w hv hl 7 _ _ _ _ _ ⟨rfl, by omega, by omega⟩ fmV_7 _ _ _ _ _ [] [] (fun _ _ => by kernel_rfl) (fun W => by
      rw [show errV 0 = errV (fxE 7 N.length) by rw [h0], hx]
      exact fits0_any 1 N.length _ _ _ W (by omega) (by omega) (by omega)) (fun W nv hr => (identR_any nv N W hr (by omega) (by omega)).mono fun e w' ⟨he, hb⟩ => ⟨.slice none 0 0, .slice none 0 0, he, LG.OM.nil _ _, KY.OM.nil _ _, hb⟩)).mono ?_
    rintro e w' ⟨lv, pv, rfl, hL, hP, hb⟩
    refine ⟨lv, pv, ?_, ?_, ?_, hb⟩
    · rw [dcO_ok h0, rdO_7, show dcE (7 :: N) = 0 from h0]; rfl
    · rw [dcO_ok h0, rdO_7]; exact hL
    · rw [dcO_ok h0, rdO_7]; exact hP
  · exact dcP_err rfl (dcO_err h0) (decode_err v 7 N w hv hl 7 _ _ _ _ _ ⟨rfl, by omega, by omega⟩ fmV_7 (fxE 7 N.length) (by omega) (fun W => by
      rw [hx]
      exact fits0_any 1 N.length _ _ _ W (by omega) (by omega) (by omega)))
set_option maxHeartbeats 1000000 in
theorem decode_8 (v : Value) (N : List Int) (w : World) (hv : LN.RM w v (8 :: N)) (hl : N.length ≤ 17592186044002) : Calls Tryz.prog 10 #[v] w (DcP w (8 :: N)) := by
  have hx := fxE_8 N.length
  have hrg := fxE_rng 8 N.length
  by_cases h0 : fxE 8 N.length = 0
  · have hN : N.length % 2 = 0 := by
      by_cases h1 : 0 ≤ N.length ∧ (N.length - 0) % 2 = 0
      · exact h1.2
      · rw [h0, if_neg h1] at hx; omega
    refine (decode_ok v 8 N w hv hl 8 _ _ _ _ _ ⟨rfl, by omega, by omega⟩ fmV_8 _ _ _ _ _ [] (keysOf N) (fun _ _ => by kernel_rfl) (fun W => by
      rw [show errV 0 = errV (fxE 8 N.length) by rw [h0], hx]
      exact fits2_any N.length _ _ _ W (by omega)) (fun W nv hr => (keysR_any nv N W hr hN (by omega)).mono fun e w' ⟨lv, he, ho, hb⟩ => ⟨.slice none 0 0, lv, he, LG.OM.nil _ _, ho, hb⟩)).mono ?_
    rintro e w' ⟨lv, pv, rfl, hL, hP, hb⟩
    refine ⟨lv, pv, ?_, ?_, ?_, hb⟩
    · rw [dcO_ok h0, rdO_8, show dcE (8 :: N) = 0 from h0]; rfl
    · rw [dcO_ok h0, rdO_8]; exact hL
    · rw [dcO_ok h0, rdO_8]; exact hP
  · exact dcP_err rfl (dcO_err h0) (decode_err v 8 N w hv hl 8 _ _ _ _ _ ⟨rfl, by omega, by omega⟩ fmV_8 (fxE 8 N.length) (by omega) (fun W => by
      rw [hx]
      exact fits2_any N.length _ _ _ W (by omega)))
theorem decode_any (v : Value) (raw : List Int) (w : World) (hv : LN.RM w v raw) (hl : raw.length ≤ 17592186044002) : Calls Tryz.prog 10 #[v] w (DcP w raw) := by
  cases raw with
  | nil => exact dcP_err rfl rfl (decode_nil v w hv)
  | cons c N =>
    have hl' : N.length ≤ 17592186044002 := by simp at hl; omega
    by_cases hc : 1 ≤ c ∧ c ≤ 8
    · obtain rfl | rfl | rfl | rfl | rfl | rfl | rfl | rfl : c = 1 ∨ c = 2 ∨ c = 3 ∨ c = 4 ∨ c = 5 ∨ c = 6 ∨ c = 7 ∨ c = 8 := by omega
      · exact decode_1 v N w hv hl'
      · exact decode_2 v N w hv hl'
      · exact decode_3 v N w hv hl'
      · exact decode_4 v N w hv hl'
      · exact decode_5 v N w hv hl'
      · exact decode_6 v N w hv hl'
      · exact decode_7 v N w hv hl'
      · exact decode_8 v N w hv hl'
    · exact dcP_err (fxE_0 hc) (dcO_err (by rw [fxE_0 hc]; decide)) (decode_bad v c N w hv hl' hc)
end Go.Proofs.YtdiamlajmcikhaaGreatDoor
