/-
  My own text: TextMath, Texts in one.
-/
import Derived.Lib.ItoaNum
import Derived.Lib.ItoaMem
import Derived.Lib.Repeat
import Derived.Test.YtbaideeiljeamaaGreatDoorRow
import Derived.Test.YtbaideeiljeamaaGreatDoorShelf
import Derived.Lib.Strings
import Derived.Lib.ItoaLen
import Derived.Lib.LaidTab
import Derived.RegionTactic
import Derived.WalkSmall
import Derived.Laws.IdiomStrings
import Derived.Deep.QuietTactic
import Derived.BigQuiet
namespace Go.Proofs.YtbaideeiljeamaaGreatDoor.AM
open Go.Lib

/-- The k lowest digits of m. -/
def dgs (m : Nat) : Nat → List UInt8
  | 0 => []
  | k + 1 => dgs (m / 10) k ++ [UInt8.ofNat (48 + m % 10)]
theorem dgs_len (m k : Nat) : (dgs m k).length = k := by
  induction k generalizing m with
  | zero => rfl
  | succ k ih => rw [dgs, List.length_append, ih]; rfl
theorem dgs_split (m a b : Nat) : dgs m (a + b) = dgs (m / 10 ^ b) a ++ dgs (m % 10 ^ b) b := by
  induction b generalizing m with
  | zero => simp [dgs]
  | succ b ih =>
    have h1 : m % 10 ^ (b + 1) / 10 = m / 10 % 10 ^ b := by rw [Nat.pow_succ, Nat.mul_comm, Nat.mod_mul_right_div_self]
    have h2 : m % 10 ^ (b + 1) % 10 = m % 10 := by rw [Nat.pow_succ, Nat.mul_comm, Nat.mod_mul_right_mod]
    have h3 : m / 10 / 10 ^ b = m / 10 ^ (b + 1) := by rw [Nat.div_div_eq_div_mul, Nat.pow_succ, Nat.mul_comm]
    rw [← Nat.add_assoc, dgs, ih, dgs, h1, h2, h3, List.append_assoc]
theorem dgs_low (N i : Nat) : dgs (N % 10 ^ i) i = dgs N i := by
  have := dgs_split N 0 i
  rw [Nat.zero_add] at this
  rw [this]; rfl
theorem dgs_cons (N i : Nat) : dgs N (i + 1) = UInt8.ofNat (48 + N / 10 ^ i % 10) :: dgs N i := by
  rw [Nat.add_comm, dgs_split, dgs_low]; rfl
theorem dgs_zero (k : Nat) : dgs 0 k = List.replicate k 48 := by
  induction k with
  | zero => rfl
  | succ k ih => rw [dgs, show 0 / 10 = 0 from rfl, ih, List.replicate_succ']; rfl
theorem dgs_pad {n e : Nat} (j : Nat) (h : n < 10 ^ e) : dgs n (j + e) = List.replicate j 48 ++ dgs n e := by
  rw [dgs_split, Nat.div_eq_of_lt h, Nat.mod_eq_of_lt h, dgs_zero]
theorem dec_dgs (u : Nat) : decDigits u = dgs u (nDigits u) := by
  induction u using Nat.strongRecOn with
  | _ u ih =>
    by_cases h : u < 10
    · rw [decDigits_one h, nDigits_small h]; simp [dgs, Nat.mod_eq_of_lt h]
    · rw [decDigits, dif_neg h, nDigits_big h, dgs, ih (u / 10) (by omega)]
theorem pow_le_nd {n : Nat} (h : 2 ≤ nDigits n) : 10 ^ (nDigits n - 1) ≤ n := by
  induction n using Nat.strongRecOn with
  | _ u ih =>
    by_cases h1 : u < 10
    · rw [nDigits_small h1] at h; omega
    · rw [nDigits_big h1] at h ⊢
      by_cases h2 : 2 ≤ nDigits (u / 10)
      · have := ih (u / 10) (by omega) h2
        have e : nDigits (u / 10) + 1 - 1 = (nDigits (u / 10) - 1) + 1 := by omega
        rw [e, Nat.pow_succ]
        omega
      · have : nDigits (u / 10) = 1 := by omega
        rw [this]; omega
theorem nd_of {m e : Nat} (h1 : 1 ≤ e) (h2 : m < 10 ^ e) (h3 : e = 1 ∨ 10 ^ (e - 1) ≤ m) : nDigits m = e := by
  by_cases h : e = 1
  · subst h; exact nDigits_small (by simpa using h2)
  · rcases h3 with h3 | h3
    · exact absurd h3 h
    · have := nDigits_unique (e - 1) m h3 (by rw [show e - 1 + 1 = e from by omega]; exact h2)
      omega
theorem nd_div {n s : Nat} (hs : s < nDigits n) : nDigits (n / 10 ^ s) = nDigits n - s := by
  have hlt := lt_pow_nDigits n
  refine nd_of (by omega) ?_ ?_
  · refine Nat.div_lt_of_lt_mul ?_
    rw [← Nat.pow_add, show s + (nDigits n - s) = nDigits n from by omega]; exact hlt
  · by_cases h : nDigits n - s = 1
    · exact .inl h
    · right
      rw [Nat.le_div_iff_mul_le (Nat.pow_pos (by omega)), ← Nat.pow_add, show nDigits n - s - 1 + s = nDigits n - 1 from by omega]
      exact pow_le_nd (by omega)
/-- n as a numeral with s digits behind the point. -/
def fmtL (n s : Nat) : List UInt8 := if s = 0 then decDigits n else decDigits (n / 10 ^ s) ++ 46 :: dgs (n % 10 ^ s) s
/-- What the program writes: digits, filled up, cut at the point. -/
theorem fmt_cut {n s L : Nat} (hs : 0 < s) (hL : L = if nDigits n < s + 1 then s + 1 else nDigits n) :
    (dgs n L).take (L - s) ++ 46 :: (dgs n L).drop (L - s) = fmtL n s := by
  have hnd : s + 1 ≤ L := by rw [hL]; split <;> omega
  have e : L - s = nDigits (n / 10 ^ s) := by
    by_cases h : nDigits n < s + 1
    · rw [if_pos h] at hL
      have h1 : n < 10 ^ s := Nat.lt_of_lt_of_le (lt_pow_nDigits n) (Nat.pow_le_pow_right (by omega) (by omega))
      rw [Nat.div_eq_of_lt h1, nDigits_small (by omega)]; omega
    · rw [if_neg h] at hL
      rw [nd_div (by omega)]; omega
  have hsp : dgs n L = dgs (n / 10 ^ s) (L - s) ++ dgs (n % 10 ^ s) s := by
    have := dgs_split n (L - s) s
    rwa [show L - s + s = L from by omega] at this
  rw [hsp, List.take_left' (dgs_len _ _), List.drop_left' (dgs_len _ _)]
  unfold fmtL
  rw [if_neg (by omega), dec_dgs, e]
theorem fmt_fill {n s : Nat} (h : nDigits n < s + 1) : List.replicate (s + 1 - nDigits n) 48 ++ decDigits n = dgs n (s + 1) := by
  have := dgs_pad (n := n) (e := nDigits n) (s + 1 - nDigits n) (lt_pow_nDigits n)
  rw [show s + 1 - nDigits n + nDigits n = s + 1 from by omega] at this
  rw [this, dec_dgs]
/-- What the document's answer writes. -/
theorem fmt_ref {n s e e' : Nat} (hs : 0 < s) (h1 : 1 ≤ e) (h2 : n / 10 ^ s < 10 ^ e) (h3 : e = 1 ∨ 10 ^ (e - 1) ≤ n / 10 ^ s) (g1 : s ≤ e') (g3 : e' = s ∨ 10 ^ (e' - 1) ≤ n % 10 ^ s) :
    dgs (n / 10 ^ s) e ++ 46 :: dgs (n % 10 ^ s) e' = fmtL n s := by
  have he : nDigits (n / 10 ^ s) = e := nd_of h1 h2 h3
  have he' : e' = s := by
    rcases g3 with h | h
    · exact h
    · rcases Nat.lt_or_ge s e' with hlt | hge
      · have h4 : 10 ^ s ≤ 10 ^ (e' - 1) := Nat.pow_le_pow_right (by omega) (by omega)
        have h5 := Nat.mod_lt n (show 0 < 10 ^ s from Nat.pow_pos (by omega))
        omega
      · omega
  unfold fmtL
  rw [if_neg (by omega), dec_dgs, he, he']
theorem fmt_ref0 {n e : Nat} (h1 : 1 ≤ e) (h2 : n < 10 ^ e) (h3 : e = 1 ∨ 10 ^ (e - 1) ≤ n) : dgs n e = fmtL n 0 := by
  unfold fmtL; rw [if_pos rfl, dec_dgs, nd_of h1 h2 h3]
end Go.Proofs.YtbaideeiljeamaaGreatDoor.AM
namespace Go.Proofs.YtbaideeiljeamaaGreatDoor.AM
open Go.RowKit

/-- 10 to the power of k. -/
def tenI (k : Nat) : Int := ((10 ^ k : Nat) : Int)
theorem tenI_pos (k : Nat) : 0 < tenI k := by have : 0 < 10 ^ k := Nat.pow_pos (by omega); unfold tenI; omega
theorem tenI_le {k : Nat} (h : k ≤ 18) : tenI k ≤ 1000000000000000000 := by have : 10 ^ k ≤ 10 ^ 18 := Nat.pow_le_pow_right (by omega) h; unfold tenI; omega
theorem tenI_succ (k : Nat) : tenI (k + 1) = tenI k * 10 := by unfold tenI; rw [Nat.pow_succ]; omega
theorem ret_i {a b : Int} (h : a = b) : Ending.returned (.int .i64 a) = .returned (.int .i64 b) := by rw [h]

def strLen : Value → Nat | .string b => b.size | _ => 0
theorem bytes_app (a b : Array UInt8) : (⟨a⟩ : ByteArray) ++ ⟨b⟩ = ⟨a ++ b⟩ := by
  apply ByteArray.ext; simp
theorem bytes_cons (x : Nat) (l : List UInt8) : Value.string ((⟨#[48 + UInt8.ofNat x]⟩ : ByteArray) ++ ⟨l.toArray⟩) = .string ⟨(UInt8.ofNat (48 + x) :: l).toArray⟩ := by
  rw [bytes_app, UInt8.ofNat_add]; simp
theorem bytes_size (l : List UInt8) : (⟨l.toArray⟩ : ByteArray).size = l.length := by simp [ByteArray.size]

set_option maxRecDepth 100000 in
set_option maxHeartbeats 400000 in
theorem digits_any (N least : Nat) (w : World) (hN : N ≤ 9223372036854775807) (hl : least ≤ 18) :
    Calls Tryz.prog 31 #[.int .i64 N, .int .i64 least] w fun e w' => ∃ e', e = .returned (.string ⟨(dgs N e').toArray⟩) ∧ least ≤ e' ∧ e' ≤ 19 ∧ N < 10 ^ e' ∧ (e' = least ∨ 10 ^ (e' - 1) ≤ N) ∧ Below w.heap.size w w' := by
  go_enter Tryz.func31, Tryz.ntmps31
  go_wp2
  go_loopw [0, 5] (fun m s wr => ∃ (i : Nat) (M : Nat), m = .int .i64 M ∧ Hid (M = N / 10 ^ i) ∧ s = .string ⟨(dgs N i).toArray⟩ ∧ i ≤ 19 ∧ (i ≤ least ∨ 10 ^ (i - 1) ≤ N) ∧ Below w.heap.size w wr) (fun _ s _ => 19 - strLen s)
  case atStart => exact ⟨0, N, rfl, by simp [Hid], rfl, by omega, .inl (by omega), Below.refl _ _⟩
  case round =>
    obtain ⟨i, M, rfl, HM, rfl, hi, hor, hB⟩ := hrel
    have hlen := dgs_len N i
    have hMN : M ≤ 9223372036854775807 := by have : N / 10 ^ i ≤ N := Nat.div_le_self _ _; have := HM.out; omega
    by_cases hM : 0 < M
    · have h10 : 10 ^ i ≤ N := by
        have h := HM.out
        rcases Nat.lt_or_ge N (10 ^ i) with h1 | h1
        · rw [Nat.div_eq_of_lt h1] at h; omega
        · exact h1
      have hi2 : i ≤ 18 := by
        rcases Nat.lt_or_ge 18 i with h1 | h1
        · have h2 : 10 ^ 19 ≤ 10 ^ i := Nat.pow_le_pow_right (by omega) (by omega)
          omega
        · exact h1
      have HOR : i + 1 ≤ least ∨ 10 ^ (i + 1 - 1) ≤ N := .inr (by rw [Nat.add_sub_cancel]; exact h10)
      clear hor h10
      have hconv : ∀ wx : World, wx.cell? ⟨wr.heap.size, 0, none⟩ = some (.int .u8 (48 + (M : Int) % 10)) → (convert 99 9 (.slice (some ⟨wr.heap.size, 0, none⟩) 1 1)).run Tryz.prog wx = .ok (.string ⟨#[UInt8.ofNat (48 + M % 10)]⟩) wx := fun wx hx =>
        run_convert_bytes_back (P := Tryz.prog) wx 99 9 5 ⟨wr.heap.size, 0, none⟩ 1 [UInt8.ofNat (48 + M % 10)] Tryz.underlying99 Tryz.underlying5 Tryz.underlying9 (fun j hj => by
          match j, hj with
          | 0, _ => simp [Addr.add]; rw [hx]; congr 2; omega)
      have hcv := hconv (wr.alloc (.cells #[.int .u8 (48 + (M : Int) % 10)] 5)) (by simp)
      clear hconv
      have HB := hide (hB.alloc hB.size (.cells #[.int .u8 (48 + (M : Int) % 10)] 5))
      go_wp2
      go_roundw
      case rel => exact ⟨i + 1, M / 10, by go_num, (show _ = _ by rw [HM.out, Nat.div_div_eq_div_mul, Nat.pow_succ]), by rw [bytes_cons, dgs_cons, ← HM.out], by omega, HOR, HB.out⟩
      case measure => simp [strLen, bytes_size]; omega
    · by_cases hle : i < least
      · have HOR : i + 1 ≤ least ∨ 10 ^ (i + 1 - 1) ≤ N := .inl hle
        clear hor
        have hconv : ∀ wx : World, wx.cell? ⟨wr.heap.size, 0, none⟩ = some (.int .u8 (48 + (M : Int) % 10)) → (convert 99 9 (.slice (some ⟨wr.heap.size, 0, none⟩) 1 1)).run Tryz.prog wx = .ok (.string ⟨#[UInt8.ofNat (48 + M % 10)]⟩) wx := fun wx hx =>
          run_convert_bytes_back (P := Tryz.prog) wx 99 9 5 ⟨wr.heap.size, 0, none⟩ 1 [UInt8.ofNat (48 + M % 10)] Tryz.underlying99 Tryz.underlying5 Tryz.underlying9 (fun j hj => by
            match j, hj with
            | 0, _ => simp [Addr.add]; rw [hx]; congr 2; omega)
        have hcv := hconv (wr.alloc (.cells #[.int .u8 (48 + (M : Int) % 10)] 5)) (by simp)
        clear hconv
        have HB := hide (hB.alloc hB.size (.cells #[.int .u8 (48 + (M : Int) % 10)] 5))
        go_wp2
        go_roundw
        case rel => exact ⟨i + 1, M / 10, by go_num, (show _ = _ by rw [HM.out, Nat.div_div_eq_div_mul, Nat.pow_succ]), by rw [bytes_cons, dgs_cons, ← HM.out], by omega, HOR, HB.out⟩
        case measure => simp [strLen, bytes_size]; omega
      · have hlt : N < 10 ^ i := by
          have h := HM.out
          rcases Nat.lt_or_ge N (10 ^ i) with h1 | h1
          · exact h1
          · have := Nat.div_pos h1 (Nat.pow_pos (by omega)); omega
        have HH := hide hlt
        have HO := hide hor
        clear hlt hor
        go_wp2
        go_ret
        refine ⟨i, rfl, by omega, hi, HH.out, ?_, hB⟩
        rcases HO.out with h | h
        · exact .inl (by omega)
        · exact .inr h
/-- A text with s digits behind the point: the bytes, the error's number. -/
def fmtV (n s : Int) : ByteArray := if n < 0 ∨ s < 0 ∨ 18 < s then ⟨#[]⟩ else ⟨(fmtL n.toNat s.toNat).toArray⟩
def fmtE (n s : Int) : Int := if n < 0 ∨ s < 0 ∨ 18 < s then 1 else 0
theorem fmtE_lo (n s : Int) : 0 ≤ fmtE n s ∧ fmtE n s ≤ 24 := by unfold fmtE; split <;> omega
theorem fmt_arg {n s : Int} (h : n < 0 ∨ s < 0 ∨ 18 < s) : fmtV n s = ⟨#[]⟩ ∧ fmtE n s = 1 := by unfold fmtV fmtE; rw [if_pos h, if_pos h]; exact ⟨rfl, rfl⟩
theorem fmt_ok (n s : Nat) (h : s ≤ 18) : fmtV n s = ⟨(fmtL n s).toArray⟩ ∧ fmtE n s = 0 := by
  have hn : ¬ ((n : Int) < 0 ∨ (s : Int) < 0 ∨ (18 : Int) < s) := by omega
  unfold fmtV fmtE; rw [if_neg hn, if_neg hn]; exact ⟨rfl, rfl⟩
theorem ret_sv {a c : ByteArray} {b d : Value} (h : a = c) (h' : b = d) : Ending.returned (.tuple #[.string a, b]) = .returned (.tuple #[.string c, d]) := by rw [h, h']
theorem bytes_dot (a b : List UInt8) : ((⟨a.toArray⟩ : ByteArray) ++ ⟨#[46]⟩) ++ ⟨b.toArray⟩ = ⟨(a ++ 46 :: b).toArray⟩ := by
  rw [bytes_app, bytes_app]; simp

theorem isScale_any (s : Int) (b : Bool) (w : World) (h : Hid (b = decide (0 ≤ s ∧ s ≤ 18))) :
    Calls Tryz.prog 143 #[.int .i64 s] w fun e w' => e = .returned (.bool b) ∧ w' = w := by
  by_cases h1 : 0 ≤ s
  · by_cases h2 : s ≤ 18
    · have H := hide (show b = true by rw [h.out]; simp; omega)
      go_enter Tryz.func143, Tryz.ntmps143
      go_wp2
      go_ret
      exact ⟨by rw [H.out]; rfl, rfl⟩
    · have H := hide (show b = false by rw [h.out]; simp; omega)
      go_enter Tryz.func143, Tryz.ntmps143
      go_wp2
      go_ret
      exact ⟨by rw [H.out]; rfl, rfl⟩
  · have H := hide (show b = false by rw [h.out]; simp; omega)
    go_enter Tryz.func143, Tryz.ntmps143
    go_wp2
    go_ret
    exact ⟨by rw [H.out]; rfl, rfl⟩

theorem bytes_cut {G : List UInt8} {p L : Nat} (h : G.length = L) : (⟨G.toArray⟩ : ByteArray).extract 0 p ++ ⟨#[46]⟩ ++ (⟨G.toArray⟩ : ByteArray).extract p L = ⟨(G.take p ++ 46 :: G.drop p).toArray⟩ := by
  subst h
  apply ByteArray.ext
  simp
  exact List.take_of_length_le (by simp)
theorem below_grow (w : World) (k : Nat) (os : Array Obj) : Below w.heap.size w (Sort.grow (w.drewN k) os) := by
  refine ⟨rfl, rfl, rfl, ?_, fun j hj => ?_⟩
  · simp [Sort.grow]
  · simp [Sort.grow, Array.getElem?_append_left hj]
/-- The library's table of powers of ten. -/
def Pow (w : World) : Prop := Lib.TabIs Tryz.prog w "internal/strconv.uint64pow10" .u64 Lib.pow10Tab
theorem Pow.lt {w : World} (h : Pow w) : 7 < w.heap.size := by
  have := Lib.TabIs.cell h (show Tryz.prog.globalNamed "internal/strconv.uint64pow10" = some 7 by kernel_rfl) 0 (by rw [Lib.pow10Tab_length]; omega)
  exact World.block_lt_of_cell? _ _ this
theorem Pow.later {w w' : World} (h : Pow w) (hb : Below w.heap.size w w') : Pow w' :=
  var?_below hb (show Tryz.prog.globalNamed "internal/strconv.uint64pow10" = some 7 by kernel_rfl) h.lt h
theorem fmt_zero (n : Nat) : fmtL n 0 = Lib.itoa n := by rw [Lib.itoa_nonneg]; rfl
theorem rep_zeros : ∀ c : Nat, Lib.repeatL [48] c = List.replicate c 48
  | 0 => rfl
  | c + 1 => by rw [Lib.repeatL, rep_zeros c, List.replicate_succ]; rfl

set_option maxRecDepth 100000 in
set_option maxHeartbeats 1000000 in
theorem format_arg (n s : Int) (w : World) (h : n < 0 ∨ s < 0 ∨ 18 < s) :
    Calls Tryz.prog 122 #[.int .i64 n, .int .i64 s] w fun e w' => e = .returned (.tuple #[.string (fmtV n s), errV (fmtE n s)]) ∧ Below w.heap.size w w' := by
  have H := hide (fmt_arg h)
  by_cases h1 : n < 0
  · go_enter Tryz.func122, Tryz.ntmps122
    go_wp2
    go_ret2
    exact ⟨ret_sv H.out.1.symm (by rw [H.out.2]; rfl), Below.refl _ _⟩
  · have hb : Hid (false = decide (0 ≤ s ∧ s ≤ 18)) := by simp [Hid]; omega
    go_enter Tryz.func122, Tryz.ntmps122
    go_wp2_with fail
    refine (isScale_any s false _ hb).mono ?_
    rintro e w1 ⟨rfl, rfl⟩
    go_wp2_with fail
    go_ret2
    exact ⟨ret_sv H.out.1.symm (by rw [H.out.2]; rfl), Below.refl _ _⟩

set_option maxRecDepth 100000 in
set_option maxHeartbeats 1000000 in
theorem format_fit (n s : Nat) (w : World) (hP : Pow w) (hn : n ≤ 9223372036854775807) (hs : s ≤ 18) :
    Calls Tryz.prog 122 #[.int .i64 n, .int .i64 s] w fun e w' => e = .returned (.tuple #[.string (fmtV n s), errV (fmtE n s)]) ∧ Below w.heap.size w w' := by
  have H := hide (fmt_ok n s hs)
  have hb : Hid (true = decide (0 ≤ (s : Int) ∧ (s : Int) ≤ 18)) := by simp [Hid]; omega
  have HL := hide (Lib.itoa_nonneg n)
  have nd1 := Lib.nDigits_pos n
  have nd2 := Lib.nDigits_le20 n (by omega)
  have hlen : (Lib.itoa (n : Int)).length = Lib.nDigits n := by rw [HL.out, Lib.decDigits_length]
  have HP := hide hP
  clear hP
  go_enter Tryz.func122, Tryz.ntmps122
  go_wp2_with fail
  refine (isScale_any s true _ hb).mono ?_
  rintro e w0 ⟨rfl, rfl⟩
  go_wp2_with fail
  refine (Tryz.strconv_FormatInt_10 n (by omega) (by omega) _ HP.out).mono ?_
  rintro e w1 ⟨rfl, kk, os, hw⟩
  have hb1 := below_grow w0 kk os
  rw [← hw] at hb1
  clear hw
  generalize hD : Lib.itoa (n : Int) = D at *
  have HD := hide hD
  clear hD
  by_cases h0 : s = 0
  · subst h0
    go_wp2_with fail
    go_ret2
    exact ⟨ret_sv (by rw [H.out.1, fmt_zero, HD.out]) (by rw [H.out.2]; rfl), hb1⟩
  · have hs0 : ((s : Int) == 0) = false := by simp; omega
    by_cases hf : Lib.nDigits n < s + 1
    · go_wp2_with fail
      obtain ⟨c, hc, Hc⟩ : ∃ c : Nat, (s : Int) + 1 - (Lib.nDigits n : Int) = (c : Int) ∧ Hid (c = s + 1 - Lib.nDigits n) := ⟨s + 1 - Lib.nDigits n, by omega, rfl⟩
      rw [hc]
      refine (Tryz.strings_Repeat ⟨#[48]⟩ c _ (by omega) (by simp [ByteArray.size]; omega)).mono ?_
      rintro e w2 ⟨rfl, hb2⟩
      have HR : Hid (Lib.repeatL (ByteArray.mk #[48]).data.toList c = List.replicate c 48) := rep_zeros c
      generalize Lib.repeatL (ByteArray.mk #[48]).data.toList c = R at *
      have lnR : R.length = c := by rw [HR.out]; simp
      obtain ⟨G, HG, hG⟩ : ∃ G : List UInt8, Hid (G = dgs n (s + 1)) ∧ (⟨R.toArray⟩ : ByteArray) ++ ⟨D.toArray⟩ = ⟨G.toArray⟩ := ⟨R ++ D, by rw [HR.out, Hc.out, HL.out]; exact fmt_fill hf, by rw [bytes_app]; simp⟩
      have lnG : G.length = s + 1 := by rw [HG.out, dgs_len]
      have hcl : c + Lib.nDigits n = s + 1 := by have := Hc.out; omega
      clear hc
      have HF := hide (fmt_cut (n := n) (s := s) (L := s + 1) (by omega) (by rw [if_pos hf]))
      go_wp2_with fail
      go_quiet (fail)
      go_wp2_with fail
      go_ret2
      exact ⟨ret_sv (by rw [H.out.1, bytes_cut lnG, HG.out, ← HF.out, show s + 1 - s = 1 from by omega]) (by rw [H.out.2]; rfl), below_drewN (hb1.trans (hb2.mono hb1.size)) _⟩
    · obtain ⟨p, hp, Hp⟩ : ∃ p : Nat, (Lib.nDigits n : Int) - (s : Int) = (p : Int) ∧ Hid (p = Lib.nDigits n - s) := ⟨Lib.nDigits n - s, by omega, rfl⟩
      have HF := hide (fmt_cut (n := n) (s := s) (L := Lib.nDigits n) (by omega) (by rw [if_neg hf]))
      have hpn : p ≤ Lib.nDigits n := by have := Hp.out; omega
      go_wp2_with fail
      go_quiet (fail)
      go_wp2_with fail
      go_ret2
      exact ⟨ret_sv (by rw [H.out.1, bytes_cut hlen, HL.out, dec_dgs, ← HF.out, Hp.out]) (by rw [H.out.2]; rfl), below_drewN hb1 _⟩

theorem format_any (n s : Int) (w : World) (hP : Pow w) (hn : n ≤ 9223372036854775807) :
    Calls Tryz.prog 122 #[.int .i64 n, .int .i64 s] w fun e w' => e = .returned (.tuple #[.string (fmtV n s), errV (fmtE n s)]) ∧ Below w.heap.size w w' := by
  by_cases h : n < 0 ∨ s < 0 ∨ 18 < s
  · exact format_arg n s w h
  · obtain ⟨a, rfl⟩ := Int.eq_ofNat_of_zero_le (show 0 ≤ n by omega)
    obtain ⟨b, rfl⟩ := Int.eq_ofNat_of_zero_le (show 0 ≤ s by omega)
    exact format_fit a b w hP (by omega) (by omega)
end Go.Proofs.YtbaideeiljeamaaGreatDoor.AM
