/-
  My own text: LVR, Row in one.
-/
import Derived.Test.YtcdhblfefpkjgaaDoorLVS
import Derived.Test.YtcdhblfefpkjgaaDoorLW1
import Derived.Test.YtcdhblfefpkjgaaDoorRows
import Derived.Test.YtcdhblfefpkjgaaDoorTie
import Derived.Test.YtcdhblfefpkjgaaDoorCards
import Derived.Test.YtcdhblfefpkjgaaDoorHeld
import Derived.ProofKit
import Derived.OpenShut
import Derived.ChangeSame
import Derived.ChangeVars
import Derived.JoinedOf
import Derived.RowKit
import Derived.RowKitTokens
import Derived.LaidLaws
import Derived.LaidHandle
import Derived.LaidMore
import Derived.SevenTiedAt
namespace Go.Proofs.YtcdhblfefpkjgaaDoor
open Go.RowKit

/-- How many notices and links the first so many are. -/
def ptS (NS : List Nt) (k : Nat) : Nat := ((NS.take k).map fun p => 1 + p.2.2.length).sum
theorem ptS_succ {NS : List Nt} {k : Nat} {p : Nt} (h : NS[k]? = some p) : ptS NS (k + 1) = ptS NS k + 1 + p.2.2.length := by
  unfold ptS
  rw [List.take_add_one, h, List.map_append, List.sum_append]
  simp; omega
theorem ptS_at {NS : List Nt} : ∀ {k i : Nat} {p : Nt}, i < k → NS[i]? = some p → p.2.2.length ≤ ptS NS k
  | 0, _, _, h, _ => absurd h (Nat.not_lt_zero _)
  | k + 1, i, p, h, hp => by
    cases hk : NS[k]? with
    | none =>
      have h1 : NS.length ≤ k := List.getElem?_eq_none_iff.1 hk
      have h2 := (List.getElem?_eq_some_iff.1 hp).1
      have := ptS_at (k := k) (by omega) hp
      have e : ptS NS (k + 1) = ptS NS k := by unfold ptS; rw [List.take_of_length_le (by omega), List.take_of_length_le h1]
      omega
    | some q =>
      rw [ptS_succ hk]
      by_cases e : i = k
      · subst e; rw [hk] at hp; cases hp; omega
      · have := ptS_at (k := k) (by omega) hp
        omega
theorem ptS_low (NS : List Nt) : ∀ k, k ≤ NS.length → k ≤ ptS NS k
  | 0, _ => Nat.zero_le _
  | k + 1, h => by
    have := ptS_low NS k (by omega)
    rw [ptS_succ (List.getElem?_eq_getElem (by omega : k < NS.length))]
    omega
def zN : Value := .agg #[.string ⟨#[]⟩, .string ⟨#[]⟩, .bool false, .bool false, .bool false, .int .i64 0, .int .i64 0, .int .u8 0, .int .u8 0, .int .u8 0, .int .u8 0, .int .u8 0, .int .u8 0, .int .u8 0, .int .u8 0, .int .u8 0, .int .u8 0, .int .u8 0, .int .u8 0, .int .i64 0, .string ⟨#[]⟩, .string ⟨#[]⟩, .string ⟨#[]⟩, .int .i64 0, .string ⟨#[]⟩, .int .i64 0, .slice none 0 0]
theorem Tryd.infoNtc : (Tryd.prog.info? 27).map (fun i => (i.zero, i.size, i.bytes)) = some (some zN, 27, 184) := by kernel_rfl
theorem owns_slice27 {w : World} {B : Nat} {e : TypeId} {k : Nat} {v : Value} {n : Nat} {xs : List Value} (h : w.ownsRow B e k v n xs) : ∃ a c, v = .slice a n c := by
  rcases h.2 with ⟨rfl, h0⟩ | ⟨g, cap, cur, rfl, _⟩
  · exact ⟨none, 0, by rw [h0]⟩
  · exact ⟨_, _, rfl⟩
theorem fold27 (n : NT.Ntc) (v : Value) (hc : n.code.length = 12) : Array.foldl (fun (cs : Array Value) (x : Value × Nat) => cs.setIfInBounds x.2 x.1) #[.string ⟨#[]⟩, .string ⟨#[]⟩, .bool false, .bool false, .bool false, .int .i64 0, .int .i64 0, .int .u8 0, .int .u8 0, .int .u8 0, .int .u8 0, .int .u8 0, .int .u8 0, .int .u8 0, .int .u8 0, .int .u8 0, .int .u8 0, .int .u8 0, .int .u8 0, .int .i64 0, .string ⟨#[]⟩, .string ⟨#[]⟩, .string ⟨#[]⟩, .int .i64 0, .string ⟨#[]⟩, .int .i64 0, .slice none 0 0] (NT.nC n v).zipIdx 0 (NT.nC n v).size = NT.nC n v := by
  obtain ⟨c0, c1, c2, c3, c4, c5, c6, c7, c8, c9, c10, c11, he⟩ := NT.nC_cases hc
  unfold NT.nC NT.nb
  rw [he]
  simp [Array.zipIdx]
theorem nC_news (w : World) (n : NT.Ntc) (v : Value) (cs : Array Value) (h : cs = NT.nC n v) : ∀ j u, (NT.nC n v).toList[j]? = some u → (w.alloc (.cells cs 27)).cell? ((⟨w.heap.size, 0, none⟩ : Addr).add j) = some u := fun j u hj => by
  rw [Addr.add_lit, cell_of_row _ _ _ _ _ _ (alloc_new w _), Nat.zero_add, h]; simpa using hj
theorem wrap_far {j n : Nat} (h : j < n) (hn : n ≤ 5864062014805) : wrap64 ((j : Int) + 1) = (j : Int) + 1 := by unfold wrap64; omega
theorem pt_wrap {a b : Nat} (ha : a ≤ 100000) (hb : b ≤ 5864062014805) : wrap64 ((a : Int) + 1) = (a : Int) + 1 ∧ wrap64 ((a : Int) + 1 + (b : Int)) = ((a + 1 + b : Nat) : Int) := by unfold wrap64; omega
/-- What is lent is what was handed in. -/
def CO (NS NT' : List Nt) (k : Nat) : Prop := NT'.length = k ∧ ∀ (i : Nat) (p : Nt), NT'[i]? = some p → ∃ q, NS[i]? = some q ∧ q.1 = p.1 ∧ q.2.2 = p.2.2
theorem CO.nil (NS : List Nt) : CO NS [] 0 := ⟨rfl, fun i p h => by simp at h⟩
theorem CO.snoc {NS NT' : List Nt} {k : Nat} (h : CO NS NT' k) {q p : Nt} (hq : NS[k]? = some q) (h1 : q.1 = p.1) (h2 : q.2.2 = p.2.2) : CO NS (NT' ++ [p]) (k + 1) := by
  refine ⟨by rw [List.length_append, h.1]; rfl, fun i u hu => ?_⟩
  by_cases hi : i < k
  · exact h.2 i u (by rw [List.getElem?_append_left (by rw [h.1]; exact hi)] at hu; exact hu)
  · have hl := (List.getElem?_eq_some_iff.1 hu).1
    rw [List.length_append, h.1] at hl
    have e : i = k := by simp at hl; omega
    subst e
    rw [List.getElem?_append_right (by rw [h.1]; exact Nat.le_refl _), h.1, Nat.sub_self] at hu
    simp at hu
    subst hu
    exact ⟨q, hq, h1, h2⟩
theorem CO.same {NS NT' : List Nt} (h : CO NS NT' NS.length) : nR NT' = nR NS ∧ nL NT' = nL NS ∧ nP NT' = nP NS := by
  have key : ∀ i : Nat, (NT'[i]?).map (fun p : Nt => (p.1, p.2.2)) = (NS[i]?).map (fun p : Nt => (p.1, p.2.2)) := fun i => by
    cases hp : NT'[i]? with
    | some p => obtain ⟨q, h1, h2, h3⟩ := h.2 i p hp; rw [h1]; simp [h2, h3]
    | none =>
      have h1 : NT'.length ≤ i := List.getElem?_eq_none_iff.1 hp
      rw [h.1] at h1
      rw [List.getElem?_eq_none h1]
  refine ⟨?_, ?_, ?_⟩
  · apply List.ext_getElem?
    intro i
    unfold nR
    rw [List.getElem?_map, List.getElem?_map]
    have := congrArg (Option.map fun u : NT.Ntc × List Lk => u.1.ref) (key i)
    rw [Option.map_map, Option.map_map] at this
    exact this
  · apply List.ext_getElem?
    intro i
    unfold nL
    rw [List.getElem?_map, List.getElem?_map]
    have := congrArg (Option.map fun u : NT.Ntc × List Lk => u.2) (key i)
    rw [Option.map_map, Option.map_map] at this
    exact this
  · funext x
    unfold nP
    have := key x
    cases h1 : NT'[x]? with
    | none => rw [h1] at this; cases h2 : NS[x]? with
      | none => rfl
      | some q => rw [h2] at this; cases this
    | some p => rw [h1] at this; cases h2 : NS[x]? with
      | none => rw [h2] at this; cases this
      | some q => rw [h2] at this; simp at this; simp [this.1]
theorem tok_refs {NS : List Nt} (h : ∀ p ∈ NS, NT.NOk p.1) : ∀ k ∈ nR NS, TOK k := fun k hk => by
  obtain ⟨p, hp, rfl⟩ := List.mem_map.1 hk
  exact Nat.le_trans (h p hp).ref (by decide)
theorem tok_links {NS : List Nt} (h : ∀ p ∈ NS, ∀ q ∈ p.2.2, TOK q.2) : ∀ l ∈ nL NS, ∀ q ∈ l, TOK q.2 := fun l hl q hq => by
  obtain ⟨p, hp, rfl⟩ := List.mem_map.1 hl
  exact h p hp q hq
theorem len_rows {TL : List (Value × List Int)} {X : List (List Nat)} (h : TL.map (·.2) = X.map ni) (hx : X.length ≤ 4096) : TL.length ≤ 4096 := by
  have := congrArg List.length h
  rw [List.length_map, List.length_map] at this; omega
theorem at_args {w : World} {a : Option Addr} {n cap : Nat} {NS : List Nt} {k : Nat} {p : Nt} (h : RN w (.slice a n cap) NS) (hp : NS[k]? = some p) : ∃ b off, a = some ⟨b, off, none⟩ ∧ b < w.heap.size ∧ w.rangeAt b (off + k * 27) (NT.nC p.1 p.2.1).toList ∧ NT.RL w p.2.1 p.2.2 := by
  obtain ⟨a', cap', hv, hr⟩ := h
  injection hv with e1 _ _
  obtain ⟨b, off, ha, hl, hx⟩ := hr.resolve_left (fun h => by rw [h] at hp; simp at hp)
  exact ⟨b, off, e1.trans ha, hl, hx k p hp⟩
theorem in_base {w : World} {B n c k : Nat} {a : Option Addr} {e : TypeId} {z : Nat} {xs : List Value} (h : w.ownsRow B e z (.slice a n c) k xs) (hk : 0 < k) : ∃ g, a = some ⟨g, 0, none⟩ := by
  rcases h.2 with ⟨_, e2⟩ | ⟨g, cap, cur, e1, _⟩
  · omega
  · injection e1 with e1 _ _; exact ⟨g, e1⟩
theorem len_same {TA TB : List (Value × List Int)} {X : List (List Nat)} (h : TA.map (·.2) = X.map ni) (k : TB.map (·.2) = X.map ni) : TA.length = TB.length := by
  have := congrArg List.length (h.trans k.symm)
  rw [List.length_map, List.length_map] at this; exact this
theorem few_al {m k : Nat} (hm : m ≤ 4096) (hk : k < m) : 2 * k + 2 ≤ 1000000 := by omega
/-- append(rows, a, b) of a row of one's own, both in a literal's cells. -/
theorem run_append_two (w : World) (B : Nat) (ty : TypeId) (v : Value) (M : List Value) (x y : Value) (g : Nat) (hown : w.ownsRow B 41 1 v M.length M) (hx : x.oneCell' = true) (hy : y.oneCell' = true) (h0 : w.cell? ⟨g, 0, none⟩ = some x) (h1 : w.cell? ⟨g, 1, none⟩ = some y) (hn : M.length + 2 ≤ 1000000) (hB : B ≤ w.heap.size) :
    ∃ v' w', (Builtin.append_ #[29, 29] ty #[v, .slice (some ⟨g, 0, none⟩) 2 2]).run Tryd.prog w = .ok v' w' ∧ w'.ownsRow B 41 1 v' (M ++ [x, y]).length (M ++ [x, y]) ∧ w.grownBy w' v.ownBlock := by
  obtain ⟨i0, hi, hz0, hz1, hz2⟩ := info_parts Tryd.infoRow
  obtain ⟨v', w', hrun, r1, r2, _, _⟩ := run_append_own_at (P := Tryd.prog) w B 29 ty 41 i0 _ 1 24 Tryd.underlying29 hi hz0 hz1 hz2 rfl (by decide) v M.length M hown ⟨g, 0, none⟩ 2 2 [x, y] rfl (fun j u hj => by
    match j, hj with
    | 0, hj => simp at hj; subst hj; simpa [Addr.add] using h0
    | 1, hj => simp at hj; subst hj; simpa [Addr.add] using h1) (by intro u hu; simp at hu; rcases hu with rfl | rfl <;> assumption) (Nat.le_trans hn (by decide)) (Nat.le_trans (Nat.mul_le_mul_right 24 hn) (by decide)) hB
  exact ⟨v', w', hrun, by rw [List.length_append]; exact r1, r2⟩
theorem few_two {m : Nat} (h : m ≤ 4096) : 2 * m ≤ 5864062014805 := by omega
theorem small_all {NS : List Nt} {n : Nat} (hn : NS.length = n) (h : ptS NS n ≤ 100000) : NS.length ≤ 1000000 ∧ ∀ l ∈ nL NS, l.length ≤ 1000000 := by
  have h1 := ptS_low NS n (by omega)
  refine ⟨by omega, fun l hl => ?_⟩
  obtain ⟨p, hp, rfl⟩ := List.mem_map.1 hl
  obtain ⟨i, hi⟩ := List.getElem?_of_mem hp
  have h2 := ptS_at (k := n) (by rw [← hn]; exact (List.getElem?_eq_some_iff.1 hi).1) hi
  omega
set_option maxRecDepth 100000 in
set_option maxHeartbeats 4000000 in
theorem linksResolve_law (v : Value) (NS : List Nt) (w : World) (hE : ErrType w) (hv : RN w v NS) (hc : ∀ p ∈ NS, NT.NOk p.1) (hl : ∀ p ∈ NS, p.2.2.length ≤ 5864062014805) (hq : ∀ p ∈ NS, ∀ q ∈ p.2.2, TOK q.2) (hn : NS.length ≤ 5864062014805) :
    Calls Tryd.prog 3 #[v] w fun e w' => e = .returned (.bool true) ∧ Below w.heap.size w w' := by
  have HEE := hide hE
  have HV := hide hv
  have HP := hide (And.intro hc (And.intro hl (And.intro hq hn)))
  obtain ⟨a, cap, hav, hr⟩ := hv
  have HR := hide hr
  obtain ⟨n, hnn⟩ : ∃ n, NS.length = n := ⟨_, rfl⟩
  have HN := hide hnn
  rw [hnn] at hav
  subst hav
  clear hE hr hc hl hq hn hnn
  go_enter Tryd.func3, Tryd.ntmps3
  go_wp2_with fail
  go_loopw [3, 4] (fun s i wr => ∃ k : Nat, s = .int .i64 ((ptS NS k : Nat) : Int) ∧ i = .int .i64 (k : Int) ∧ Hid (k ≤ n ∧ (k = 0 ∨ ptS NS (k - 1) ≤ 100000)) ∧ wr = w) (fun _ i _ => n - (intOf i).toNat)
  case atStart => exact ⟨0, rfl, rfl, hide ⟨Nat.zero_le _, .inl rfl⟩, rfl⟩
  case round =>
    obtain ⟨k, rfl, rfl, HK, hw⟩ := hrel
    have hw' := hw.symm
    subst hw'
    clear hw
    by_cases hkn : k < n
    · by_cases hsm : ptS NS k ≤ 100000
      · obtain ⟨p, hp⟩ : ∃ p, NS[k]? = some p := ⟨_, List.getElem?_eq_getElem (by rw [HN.out]; exact hkn)⟩
        obtain ⟨b, off, rfl, hbl, hcc⟩ := HR.out.resolve_left (fun h => by rw [h] at hp; simp at hp)
        obtain ⟨la, lc, hlv, _⟩ := (hcc k p hp).2
        have c26 := (hcc k p hp).1 26 _ (nC_at (HP.out.1 p (List.mem_of_getElem? hp)).code).2.2
        rw [hlv] at c26
        have HLL := hide (HP.out.2.1 p (List.mem_of_getElem? hp))
        obtain ⟨w1, w2⟩ := pt_wrap hsm HLL.out
        have HS := hide (ptS_succ hp)
        obtain ⟨ln, hln⟩ : ∃ ln, p.2.2.length = ln := ⟨_, rfl⟩
        rw [hln] at c26 HS w2
        obtain ⟨s0, hs0⟩ : ∃ s0, ptS NS k = s0 := ⟨_, rfl⟩
        have HSM : Hid (ptS NS k ≤ 100000) := hide hsm
        rw [hs0] at HS w1 w2 hsm ⊢
        have s1 : ((s0 : Nat) : Int) ≤ 100000 := by omega
        have HNE : Hid (n ≤ 5864062014805) := hide (by rw [← HN.out]; exact HP.out.2.2.2)
        have wk : wrap64 ((k : Int) + 1) = (k : Int) + 1 := wrap_far hkn HNE.out
        have k0 : (0 : Int) ≤ (k : Int) := Int.natCast_nonneg _
        have k1 : (k : Int) < (n : Int) := Int.ofNat_lt.2 hkn
        clear hp hcc hlv hbl hsm
        go_wp2_with fail
        go_roundw
        case rel => exact ⟨k + 1, by rw [HS.out, w2], iv_succ wk, hide ⟨hkn, .inr HSM.out⟩, by first | trivial | rfl⟩
        case measure => exact meas_j wk hkn
      · have s1 : ¬ ((ptS NS k : Nat) : Int) ≤ 100000 := by omega
        have s2 : (100000 : Int) < ((ptS NS k : Nat) : Int) := by omega
        obtain ⟨s0, hs0⟩ : ∃ s0, ptS NS k = s0 := ⟨_, rfl⟩
        rw [hs0] at s1 s2 ⊢
        clear hsm
        go_wp2_with fail
        refine (works_any _).mono ?_
        rintro e w1 ⟨rfl, hb⟩
        have HB := hide hb
        clear hb
        go_wp2_with fail
        go_ret
        exact ⟨rfl, HB.out⟩
    · by_cases hsm : ptS NS k ≤ 100000
      · have s1 : ((ptS NS k : Nat) : Int) ≤ 100000 := by omega
        have s2 : ¬ (100000 : Int) < ((ptS NS k : Nat) : Int) := by omega
        have HSM : Hid (ptS NS n ≤ 100000) := hide (by rw [show n = k by have := HK.out.1; omega]; exact hsm)
        obtain ⟨s0, hs0⟩ : ∃ s0, ptS NS k = s0 := ⟨_, rfl⟩
        rw [hs0] at s1 s2 ⊢
        clear hsm
        have HS1 := hide (small_all HN.out HSM.out)
        have HD := hide (rresolve_any _ (nR NS) (nL NS) (nP NS) w (HV.out.na fun p hp => (HP.out.1 p hp).code) (by rw [nR_len]; exact HS1.out.1) HS1.out.2)
        clear HSM HK
        go_wp2_with fail
        refine HD.out.mono ?_
        rintro e w1 ⟨hb1, X, b, vw, TW, rfl, hA, hRW, hTW⟩
        have HB1 := hide hb1
        have HA := hide hA
        have HW1 := hide hRW
        have HTW := hide hTW
        clear HD hb1 hA hRW hTW
        obtain ⟨no, ln, at'⟩ := b
        dsimp only
        have HE0 := hide (IX.nil w1)
        go_wp2_with fail
        go_loopw [9, 10] (fun vin i wr => ∃ (k : Nat) (NT' : List Nt), i = .int .i64 (k : Int) ∧ Hid (k ≤ n) ∧ Hid (CO NS NT' k) ∧ Hid (IX w1.heap.size w1 wr vin NT')) (fun _ i _ => n - (intOf i).toNat)
        case atStart => exact ⟨0, [], rfl, hide (Nat.zero_le _), hide (CO.nil NS), HE0⟩
        case round =>
          clear HE0
          obtain ⟨k, NT', rfl, HK, HCO, HE0⟩ := hrel
          by_cases hkn : k < n
          · obtain ⟨⟨nt, lv, ls⟩, hp⟩ : ∃ p, NS[k]? = some p := ⟨_, List.getElem?_eq_getElem (by rw [HN.out]; exact hkn)⟩
            obtain ⟨b, off, rfl, hbl, hcc⟩ := HR.out.resolve_left (fun h => by rw [h] at hp; simp at hp)
            have hok := HP.out.1 _ (List.mem_of_getElem? hp)
            have hll := HP.out.2.1 _ (List.mem_of_getElem? hp)
            dsimp only at hok hll
            obtain ⟨hrg, hrl⟩ := hcc k _ hp
            dsimp only at hrg hrl
            have HBW := hide (HB1.out.trans (HE0.out.low.mono HB1.out.size))
            have hrg1 := range_later hrg HBW.out hbl
            have hrl1 := hrl.later HBW.out
            have HSZ : ∀ u : Value, (Tryd.prog.info? 27).map (·.size) = some (NT.nC nt u).size := fun u => by rw [NT.nC_size nt u hok.code]; exact NT.Tryd.sizeNtc
            have HSL : (Tryd.prog.info? 27).map (·.size) = some (NT.nC nt lv).toList.length := by rw [Array.length_toList]; exact HSZ lv
            have hone : ∀ u : Value, u.oneCell' = true → (NT.nC nt u).all (·.oneCell') = true := fun u hu => NT.nC_one nt u hu
            have wk := wrap_far hkn (by rw [← HN.out]; exact HP.out.2.2.2)
            have k0 : (0 : Int) ≤ (k : Int) := Int.natCast_nonneg _
            have k1 : (k : Int) < (n : Int) := Int.ofNat_lt.2 hkn
            have HHP := hide hp
            have HOK := hide hok
            have HRL := hide hrl
            have hlv1 : lv.oneCell' = true := by obtain ⟨a, c, rfl, _⟩ := hrl; rfl
            have hcd := hok.code
            have hbA := (Below.refl wr.heap.size wr).alloc (Nat.le_refl _) (.cells (NT.nC nt lv) 27)
            have zl := (NT.Bx.new wr nt lv).links hcd
            have zs := range_later hrg1 hbA (Nat.lt_of_lt_of_le hbl HBW.out.size)
            have z26 := zs 26 _ (nC_at hcd).2.2
            clear hp hcc hbl hrg hrl hok
            go_wp2_with (first
              | (refine wpList_load_mid rfl 27 (.tmp 56) rfl b (off + k * 27) rfl (NT.nC nt lv).toList _ hrg1 Tryd.underlying27 rfl HSL ?_; rw [Array.toArray_toList])
              | (refine wpList_store_row rfl 27 (.tmp 11) _ rfl wr.heap.size (NT.nC nt lv) rfl rfl _ _ (alloc_new wr _) (HSZ lv) (by rw [NT.nC_size nt lv hcd]; rfl) (hone lv hlv1) ?_; rw [World.setRow_alloc_new]))
            refine (NT.lentLinks_any lv ls _ (hrl1.later hbA) hll).mono ?_
            rintro e w2 ⟨gl, cl, rfl, hLT, hb2⟩
            have HX1 := hide ((NT.Bx.new wr nt lv).later hb2)
            have hs1 : (wr.alloc (.cells (NT.nC nt lv) 27)).heap.size = wr.heap.size + 1 := by simp
            have HBW2 := hide (hbA.trans (hb2.mono (by rw [hs1]; omega)))
            have HLT := hide hLT
            have y1 := HX1.out.links hcd
            have f1 := NT.frozen_blk HX1.out 26
            have hgb : wr.heap.size + 1 ≤ gl := by have := hLT.base; rw [hs1] at this; exact this
            have HBS := hide HE0.out.bs
            obtain ⟨lv', hlv'⟩ : ∃ lv', Value.slice (some ⟨gl, 0, none⟩) ls.length cl = lv' := ⟨_, rfl⟩
            have HLV := hide hlv'
            obtain ⟨w3, hw3⟩ : ∃ w3, w2.setCell ⟨wr.heap.size, 26, none⟩ (.slice (some ⟨gl, 0, none⟩) ls.length cl) = w3 := ⟨_, rfl⟩
            have HX3 : Hid (NT.Bx w3 wr.heap.size nt lv') := hide (by rw [← hw3, hlv']; exact HX1.out.set hcd lv')
            have HL3 : Hid (NT.LentL w3 wr.heap.size gl cl ls) := hide (by rw [← hw3]; exact lent_low (hLT.block (Below.heap_setCell _ _ _ _ (fun e => absurd hgb (by rw [e]; exact Nat.not_succ_le_self _)))) (by rw [hs1]; exact Nat.le_succ _))
            have HBW3 : Hid (Below wr.heap.size wr w3) := hide (by rw [← hw3]; exact gb_below HBW2.out (gb_set w2 _ _ _) (Nat.le_refl _) HBW2.out.size)
            have HE3 := hide (HE0.out.later HBW3.out)
            have hls1 : lv'.oneCell' = true := by rw [← hlv']; rfl
            clear hb2 hLT hs1 HX1 hbA hrg1 hrl1 zl zs z26 hlv1 HSL hgb hlv' HBW2 HLT HE0
            have hfo := fold27 nt lv' hcd
            have hz27 := NT.nC_size nt lv' hcd
            have hfo2 := hfo
            rw [hz27] at hfo2
            obtain ⟨i27, hi27, hz0, hz1, hz2⟩ := info_parts Tryd.infoNtc
            have HN0 : Hid (NT'.length ≤ 1000000) := hide (by rw [HCO.out.1]; exact Nat.le_trans (Nat.le_of_lt hkn) (by rw [← HN.out]; exact HS1.out.1))
            have hown := HE3.out.row
            obtain ⟨ai, ci, hus⟩ := owns_slice27 hown
            obtain ⟨mi, hmi⟩ : ∃ mi, NT'.length = mi := ⟨_, rfl⟩
            rw [hmi] at hus hown
            have HMI := hide hmi
            subst hus
            clear hmi
            have HOW := hide hown
            clear hown
            go_wp2_with (first
              | (refine wpList_load_row rfl 27 (.tmp 11) rfl wr.heap.size rfl _ (NT.nC nt lv') _ _ HX3.out Tryd.underlying27 rfl (HSZ lv') ?_)
              | (at_builtin; refine wpList_append_own_at _ rfl _ _ 22 rfl w1.heap.size 27 i27 zN 27 184 Tryd.underlying22 hi27 hz0 hz1 hz2 rfl (by decide) _ _ _ rfl (HOW.out.alloc _) ⟨_, 0, none⟩ 1 1 (NT.nC nt lv').toList rfl ?n0 ?n1 ?n2 ?n3 ?n4 ?n5 ?_))
            case n0 => rw [Array.length_toList, NT.nC_size nt lv' hcd]
            case n1 => exact nC_news _ nt lv' _ (by first | rfl | exact hfo | exact hfo2)
            case n2 => exact fun u hu => by have := hone lv' hls1; rw [Array.all_eq_true_iff_forall_mem] at this; exact this u (by simpa using hu)
            case n3 => rw [← HMI.out]; exact Nat.le_trans (Nat.succ_le_succ HN0.out) (by decide)
            case n4 => rw [← HMI.out]; exact Nat.le_trans (Nat.mul_le_mul_right 184 (Nat.succ_le_succ HN0.out)) (by decide)
            case n5 => have := HE3.out.bs; simp; omega
            intro v6 w6 hown6 hgrow6 _ _
            have hbL := (Below.refl w3.heap.size w3).alloc (Nat.le_refl _) (.cells (NT.nC nt lv') 27)
            rw [← HMI.out] at hown6
            rw [← HLV.out] at hown6
            have HE6 := hide ((HE3.out.later hbL).push (n := nt) (lent_low (HL3.out.later hbL) HBS.out) HOK.out hown6 hgrow6)
            clear hown6 hgrow6 hbL HOW HE3 HL3 HX3 HBW HBW3 hfo hfo2 hz27 hi27 hz0 hz1 hz2 hw3 HMI HLV
            go_wp2_with fail
            go_roundw
            case rel => exact ⟨k + 1, _, iv_succ wk, hide hkn, hide (HCO.out.snoc (p := (nt, .slice (some ⟨gl, 0, none⟩) ls.length cl, ls)) HHP.out rfl rfl), HE6⟩
            case measure => exact meas_j wk hkn
          · have HCN : Hid (CO NS NT' NS.length) := hide (by rw [HN.out]; have h := HCO.out; rw [show k = n by have := HK.out; omega] at h; exact h)
            obtain ⟨W2, hW2⟩ : ∃ W2, W2 = wr := ⟨wr, rfl⟩
            subst hW2
            have HE2 := hide HE0.out
            obtain ⟨ai, ci, hus⟩ := owns_slice27 HE2.out.row
            have hni : NT'.length = n := by rw [HCN.out.1, HN.out]
            rw [hni] at hus
            subst hus
            have HNI := hide hni
            have HRI : Hid (∀ W, Below W2.heap.size W2 W → Calls Tryd.prog 7 #[.slice ai n ci] W fun e W' => ∃ (v' : Value) (TL : List (Value × List Int)), e = .returned (.tuple #[v', erR (no, ln, at')]) ∧ RW W' W.heap.size v' TL ∧ TL.map (·.2) = X.map ni ∧ Below W.heap.size W W') := hide (fun W hW => by
              obtain ⟨e1, e2, e3⟩ := HCN.out.same
              have hna := ((HE2.out.later hW).rn).na fun p hp => (HE2.out.code p hp).code
              rw [e1, e2, e3] at hna
              refine (resolve_any _ (nR NS) (nL NS) (nP NS) W hna (by rw [nR_len]; exact HS1.out.1) HS1.out.2 (tok_refs HP.out.1) (tok_links HP.out.2.2.1)).mono fun e W' hh => ?_
              obtain ⟨hb, X', b', v', TL, he, hA, hRW, hTL⟩ := hh
              obtain ⟨rfl, rfl⟩ := hA.uniq HA.out
              exact ⟨v', TL, he, hRW, hTL, hb⟩)
            clear HE0 HCO HK hni
            go_wp2_with fail
            refine (HRI.out _ (Below.refl _ _)).mono ?_
            rintro e w3 ⟨va, TA, rfl, hRW, hTL, hb3⟩
            have HB3 := hide hb3
            have HTA := hide (And.intro hRW hTL)
            clear hRW hTL hb3
            go_wp2_with fail
            refine (HRI.out _ HB3.out).mono ?_
            rintro e w4 ⟨vb, TB, rfl, hRW, hTL, hb4⟩
            have HB4 := hide (HB3.out.trans (hb4.mono HB3.out.size))
            have HTA4 := hide (And.intro (HTA.out.1.later hb4) HTA.out.2)
            have HTB4 := hide (And.intro hRW hTL)
            have HSZ : Hid ((∀ g, va.ownBlock = some g → g < w3.heap.size) ∧ ∀ u ∈ TA, ∀ g, u.1.ownBlock = some g → g < w3.heap.size) := hide ⟨fun g hg => (World.ownsRow.lt HTA.out.1.row g hg).2, fun u hu g hg => (World.ownsRow.lt (HTA.out.1.own u hu) g hg).2⟩
            have HS3 := hide HB3.out.size
            clear hRW hTL hb4 HTA HB3 HRI
            obtain ⟨ev, hev⟩ : ∃ ev, erR (no, ln, at') = ev := ⟨_, rfl⟩
            have HWW4 := hide ((HB1.out.trans (HE2.out.low.mono HB1.out.size)).trans (HB4.out.mono (Nat.le_trans HB1.out.size HE2.out.bs)))
            have HTO := hide (fun W (h : Below w4.heap.size w4 W) => told3_any (no, ln, at') W HA.out.rng.1 HA.out.rng.2 (HEE.out.below (HWW4.out.trans (h.mono HWW4.out.size))))
            rw [hev] at HTO
            rw [hev]
            dsimp only at HTO
            clear hev
            go_wp2_with fail
            refine (HTO.out _ (Below.refl _ _)).mono ?_
            rintro e w5 ⟨rfl, hb5⟩
            have HB5 := hide hb5
            clear hb5
            go_wp2_with fail
            refine (HTO.out _ HB5.out).mono ?_
            rintro e w6 ⟨rfl, hb6⟩
            have HB6 := hide (HB5.out.trans (hb6.mono HB5.out.size))
            clear hb6 HTO HB5
            have HXF := hide HA.out.few
            have HW6 := hide (HW1.out.later ((HE2.out.low.trans (HB4.out.mono HE2.out.bs)).trans (HB6.out.mono (Nat.le_trans HE2.out.bs HB4.out.size))))
            have HS1a := hide (sameRows_any w6 _ _ va vw TA TW (HTA4.out.1.later HB6.out) HW6.out (by rw [HTA4.out.2, HTW.out]) (len_rows HTA4.out.2 HXF.out))
            go_wp2_with fail
            refine HS1a.out.mono ?_
            rintro e w7 ⟨rfl, hb7⟩
            have HB7 := hide (HB6.out.trans (hb7.mono HB6.out.size))
            have HS2a := hide (sameRows_any w7 _ _ vb vw TB TW (HTB4.out.1.later HB7.out) (HW6.out.later hb7) (by rw [HTB4.out.2, HTW.out]) (len_rows HTB4.out.2 HXF.out))
            clear hb7 HS1a HB6
            go_wp2_with fail
            refine HS2a.out.mono ?_
            rintro e w8 ⟨rfl, hb8⟩
            have HB8 := hide (HB7.out.trans (hb8.mono HB7.out.size))
            clear hb8 HS2a HB7 HW6
            go_wp2_with fail
            refine (works_any _).mono ?_
            rintro e w9 ⟨rfl, hb9⟩
            have HB9 := hide (HB8.out.trans (hb9.mono HB8.out.size))
            clear hb9 HB8
            go_wp2_with fail
            go_loopw [16] (fun i wr => ∃ k : Nat, i = .int .i64 (k : Int) ∧ Hid (k ≤ n) ∧ Hid (Below w4.heap.size w4 wr)) (fun i _ => n - (intOf i).toNat)
            case atStart => exact ⟨0, rfl, hide (Nat.zero_le _), HB9⟩
            case round =>
              clear HB9
              obtain ⟨k, rfl, HK, HB⟩ := hrel
              by_cases hkn : k < n
              · obtain ⟨⟨nt, lv2, ls⟩, hp2⟩ : ∃ p, NT'[k]? = some p := ⟨_, List.getElem?_eq_getElem (by rw [HNI.out]; exact hkn)⟩
                obtain ⟨⟨nt', lv, ls'⟩, hp, e1, e2⟩ := HCN.out.2 k _ hp2
                dsimp only at e1 e2
                subst e1 e2
                have HBA := hide (HWW4.out.trans (HB.out.mono HWW4.out.size))
                have HIW := hide (HE2.out.later (HB4.out.trans (HB.out.mono HB4.out.size)))
                have hok := HIW.out.code _ (List.mem_of_getElem? hp2)
                obtain ⟨gl, cl, hlv2, _⟩ := HIW.out.lent _ (List.mem_of_getElem? hp2)
                dsimp only at hok hlv2
                have hll : ls'.length ≤ 1000000 := HS1.out.2 ls' (List.mem_map.2 ⟨_, List.mem_of_getElem? hp, rfl⟩)
                have hcd := hok.code
                have hr1 := at_args HV.out hp
                have hr2 := at_args HE2.out.rn hp2
                obtain ⟨b, off, rfl, hbl, hrg, hrl⟩ := hr1
                obtain ⟨gi, oi, hai, hgl, hrg2, hrl2⟩ := hr2
                have ho0 := in_base HE2.out.row (by rw [HNI.out]; omega)
                obtain ⟨gi', hai'⟩ := ho0
                rw [hai'] at hai
                injection hai with hai
                injection hai with hgg hoo _
                subst hgg hoo
                subst hai'
                dsimp only at hrg hrl hrg2 hrl2
                rw [Nat.zero_add] at hrg2
                have HSZ : ∀ u : Value, (Tryd.prog.info? 27).map (·.size) = some (NT.nC nt' u).toList.length := fun u => by rw [Array.length_toList, NT.nC_size nt' u hcd]; exact NT.Tryd.sizeNtc
                have HG0 := hide ((Below.refl wr.heap.size wr).drew)
                have HBx : Hid (∀ x : Gr wr, Below w.heap.size w x.1 ∧ Below W2.heap.size W2 x.1) := hide (fun x => ⟨HBA.out.trans (x.2.mono HBA.out.size), (HB4.out.trans (HB.out.mono HB4.out.size)).trans (x.2.mono (Nat.le_trans HB4.out.size HB.out.size))⟩)
                have hz1 : ∀ x : Gr wr, x.1.cell? ⟨b, off + k * 27 + 26, none⟩ = some lv := fun x => range_later hrg (HBx.out x).1 hbl 26 _ (nC_at hcd).2.2
                have hz2 : ∀ x : Gr wr, x.1.cell? ⟨gi', k * 27 + 26, none⟩ = some lv2 := fun x => range_later hrg2 (HBx.out x).2 hgl 26 _ (nC_at hcd).2.2
                have HRG := hide hrg
                have HRG2 := hide hrg2
                have HRL := hide hrl
                have HRL2 := hide hrl2
                have HLB := hide (And.intro hbl hgl)
                have HKL : Hid (∀ x : Gr wr, Calls Tryd.prog 10 #[lv2, lv] x.1 fun e w' => e = .returned (.bool true) ∧ Below x.1.heap.size x.1 w') := hide (fun x => by
                  obtain ⟨gl', cl', hlv2', hLT⟩ := (HE2.out.later (HBx.out x).2).lent _ (List.mem_of_getElem? hp2)
                  dsimp only at hlv2' hLT
                  rw [hlv2']
                  exact NT.keptLinks_any lv ls' w1.heap.size gl' cl' x.1 (HRL.out.later (HBx.out x).1) hLT (Nat.le_trans hll (by decide)))
                have HSN : Hid (∀ x : Gr wr, Calls Tryd.prog 11 #[.agg (NT.nC nt' lv2), .agg (NT.nC nt' lv)] x.1 fun e w' => e = .returned (.bool true) ∧ Below x.1.heap.size x.1 w') := hide (fun x => sameNotice_any nt' lv2 lv ls' x.1 hok (HRL2.out.later (HBx.out x).2) (HRL.out.later (HBx.out x).1) hll)
                have wk := wrap_far hkn (by rw [← HN.out]; exact HP.out.2.2.2)
                have k0 : (0 : Int) ≤ (k : Int) := Int.natCast_nonneg _
                have k1 : (k : Int) < (n : Int) := Int.ofNat_lt.2 hkn
                clear hp hp2 hok hrg hrg2 hrl hrl2 hbl hgl hlv2 hll
                go_wp2_with fail
                haveI : Nonempty (Gr wr) := ⟨⟨_, HG0.out⟩⟩
                refine region_class (C := fun w' => ∃ x : Gr wr, w' = x.1) (by kernel_rfl) (by kernel_rfl) ⟨⟨_, HG0.out⟩, rfl⟩ ?_
                repeat (first
                  | go_big_quiet_skip
                  | (go_big_quiet_want; first
                      | (refine quiet_load_at 27 (.tmp 130) rfl gi' (k * 27) rfl (NT.nC nt' lv2).toList _ (fun w' ⟨x, hx⟩ => by subst hx; exact range_later HRG2.out (HBx.out x).2 HLB.out.2) Tryd.underlying27 rfl (HSZ lv2) ?_; rw [Array.toArray_toList]; simp only [Act.put, List.setIfInBounds_toArray, List.set_cons_zero, List.set_cons_succ]; go_big_quiet_on)
                      | (refine quiet_load_at 27 (.tmp 134) rfl b (off + k * 27) rfl (NT.nC nt' lv).toList _ (fun w' ⟨x, hx⟩ => by subst hx; exact range_later HRG.out (HBx.out x).1 HLB.out.1) Tryd.underlying27 rfl (HSZ lv) ?_; rw [Array.toArray_toList]; simp only [Act.put, List.setIfInBounds_toArray, List.set_cons_zero, List.set_cons_succ]; go_big_quiet_on)
                      | (go_big_quiet_op; first
                          | go_big_quiet_on
                          | (apply Exists.intro; refine ⟨fun x => ?_, ?_⟩; (first
                              | (go_at_call 10; exact x.call (HKL.out x))
                              | (go_at_call 11; exact x.call (HSN.out x))); go_big_quiet_on))))
                refine wpQuiet_nil ?_
                rintro w10 ⟨x, rfl⟩
                have HB10 : Hid (Below w4.heap.size w4 x.1) := hide (HB.out.trans (x.2.mono HB.out.size))
                obtain ⟨w10, hw10⟩ := x
                dsimp only at HB10 ⊢
                clear hw10 HG0 this hz1 hz2 HBx HKL HSN HRG HRG2 HRL HRL2 HLB HBA HIW HB HSZ
                go_wp2_with fail
                go_roundw
                case rel => exact ⟨k + 1, iv_succ wk, hide hkn, HB10⟩
                case measure => exact meas_j wk hkn
              · obtain ⟨W9, hW9⟩ : ∃ W9, W9 = wr := ⟨wr, rfl⟩
                subst hW9
                have HB9 := hide HB.out
                clear HB HK
                have HTA9 := hide (And.intro (HTA4.out.1.later HB9.out) HTA4.out.2)
                have HTB9 := hide (And.intro (HTB4.out.1.later HB9.out) HTB4.out.2)
                obtain ⟨ma, hma⟩ : ∃ ma, TA.length = ma := ⟨_, rfl⟩
                have HMA : Hid (TA.length = ma ∧ TB.length = ma ∧ ma ≤ 4096) := hide ⟨hma, by rw [← hma]; exact len_same HTB4.out.2 HTA4.out.2, by rw [← hma]; exact len_rows HTA4.out.2 HXF.out⟩
                obtain ⟨aa, ca, hva⟩ := owns_slice HTA9.out.1.row
                obtain ⟨ab, cb, hvb⟩ := owns_slice HTB9.out.1.row
                rw [HMA.out.1] at hva
                rw [HMA.out.2.1] at hvb
                subst hva
                subst hvb
                clear hma HTA4 HTB4
                have HAL0 : Hid (W9.ownsRow W9.heap.size 41 1 (.slice none 0 0) (alT TA TB 0).length (alT TA TB 0)) := hide (World.ownsRow_nil _ _ _ _)
                go_wp2_with fail
                go_loopw [17, 18] (fun va i wr => ∃ k : Nat, i = .int .i64 (k : Int) ∧ Hid (k ≤ ma) ∧ Hid (wr.ownsRow W9.heap.size 41 1 va (alT TA TB k).length (alT TA TB k)) ∧ Hid (Below W9.heap.size W9 wr)) (fun _ i _ => ma - (intOf i).toNat)
                case atStart => exact ⟨0, rfl, hide (Nat.zero_le _), HAL0, hide (Below.refl _ _)⟩
                case round =>
                  clear HAL0
                  obtain ⟨k, rfl, HK, HAL, HB⟩ := hrel
                  by_cases hkm : k < ma
                  · obtain ⟨u, hu⟩ : ∃ u, TA[k]? = some u := ⟨_, List.getElem?_eq_getElem (by rw [HMA.out.1]; exact hkm)⟩
                    obtain ⟨v, hv'⟩ : ∃ v, TB[k]? = some v := ⟨_, List.getElem?_eq_getElem (by rw [HMA.out.2.1]; exact hkm)⟩
                    obtain ⟨ga, rfl, hgl, hgc⟩ := HTA9.out.1.at hu
                    obtain ⟨gb, rfl, hgl', hgc'⟩ := HTB9.out.1.at hv'
                    have HSU := hide (alT_succ hu hv')
                    obtain ⟨sa, sc, hsu⟩ := IN.OM.slice (HTA9.out.1.own u (List.mem_of_getElem? hu))
                    obtain ⟨sb, sd, hsv⟩ := IN.OM.slice (HTB9.out.1.own v (List.mem_of_getElem? hv'))
                    obtain ⟨sn, hsn⟩ : ∃ sn, u.2.length = sn := ⟨_, rfl⟩
                    obtain ⟨sm, hsm'⟩ : ∃ sm, v.2.length = sm := ⟨_, rfl⟩
                    rw [hsn] at hsu
                    rw [hsm'] at hsv
                    rw [hsu] at hgc
                    rw [hsv] at hgc'
                    rw [hsu, hsv] at HSU
                    have HC : Hid (∀ W, Below W9.heap.size W9 W → W.cell? ⟨ga, k, none⟩ = some (.slice sa sn sc) ∧ W.cell? ⟨gb, k, none⟩ = some (.slice sb sm sd)) := hide (fun W hW => ⟨(hW.cell (p := ⟨ga, k, none⟩) hgl).trans hgc, (hW.cell (p := ⟨gb, k, none⟩) hgl').trans hgc'⟩)
                    have wk := wrap_up hkm (Nat.le_trans HMA.out.2.2 (by decide))
                    have k0 : (0 : Int) ≤ (k : Int) := Int.natCast_nonneg _
                    have k1 : (k : Int) < (ma : Int) := Int.ofNat_lt.2 hkm
                    have HLN : Hid ((alT TA TB k).length + 2 ≤ 1000000) := hide (by rw [alT_len]; exact few_al HMA.out.2.2 hkm)
                    obtain ⟨AL, hAL⟩ : ∃ AL, alT TA TB k = AL := ⟨_, rfl⟩
                    rw [hAL] at HSU HLN HAL
                    clear hu hv' hgc hgc' hgl hgl' hsu hsv hsn hsm' hAL
                    obtain ⟨ax, cx, hux⟩ := owns_slice HAL.out
                    obtain ⟨nx, hnx⟩ : ∃ nx, AL.length = nx := ⟨_, rfl⟩
                    rw [hnx] at hux
                    have HNX := hide hnx
                    subst hux
                    clear hnx
                    go_wp2_with fail
                    obtain ⟨D, hD⟩ : ∃ D, World.drew wr = D := ⟨_, rfl⟩
                    have HBD : Hid (Below W9.heap.size W9 D) := hide (by rw [← hD]; exact HB.out.drew)
                    have HED : Hid (D.ownsRow W9.heap.size 41 1 (.slice ax nx cx) AL.length AL) := hide (by rw [← hD]; exact owns_lat HAL.out ((Below.refl _ _).drew))
                    refine z_begins (S := fun W : World => W.cell? ⟨ga, k, none⟩ = some (.slice sa sn sc) ∧ W.cell? ⟨gb, k, none⟩ = some (.slice sb sm sd)) 11 12 #[false, false, false, false, false, false, false, false, false, false, false, false] (by kernel_rfl) (by kernel_rfl) (by kernel_rfl) (by rw [hD]; exact HC.out _ HBD.out) (fun hHeld => ?_)
                    rw [hD] at hHeld ⊢
                    clear hD HB HAL
                    refine zk (v := ?_) 0 145 #[true, false, false, false, false, false, false, false, false, false, false, false] rfl rfl (by kernel_rfl) (by kernel_rfl) (by kernel_rfl) (by kernel_rfl) (fun _ _ _ h => h) (by kernel_rfl) (by rfl) ?hy hHeld ?_
                    case hy => rintro W ⟨s1, s2⟩; first | (go_simp; done) | (go_simp; with_reducible rfl)
                    simp only [List.setIfInBounds_toArray, List.set_cons_zero, List.set_cons_succ]
                    refine zk (v := ?_) 1 146 #[true, true, false, false, false, false, false, false, false, false, false, false] rfl rfl (by kernel_rfl) (by kernel_rfl) (by kernel_rfl) (by kernel_rfl) (fun _ _ _ h => h) (by kernel_rfl) (by rfl) ?hy hHeld ?_
                    case hy => rintro W ⟨s1, s2⟩; first | (go_simp; done) | (go_simp; with_reducible rfl)
                    simp only [List.setIfInBounds_toArray, List.set_cons_zero, List.set_cons_succ]
                    refine zk (v := ?_) 2 147 #[true, true, true, false, false, false, false, false, false, false, false, false] rfl rfl (by kernel_rfl) (by kernel_rfl) (by kernel_rfl) (by kernel_rfl) (fun _ _ _ h => h) (by kernel_rfl) (by rfl) ?hy hHeld ?_
                    case hy => rintro W ⟨s1, s2⟩; first | (go_simp; done) | (go_simp; with_reducible rfl)
                    simp only [List.setIfInBounds_toArray, List.set_cons_zero, List.set_cons_succ]
                    refine zk (v := ?_) 3 148 #[true, true, true, true, false, false, false, false, false, false, false, false] rfl rfl (by kernel_rfl) (by kernel_rfl) (by kernel_rfl) (by kernel_rfl) (fun _ _ _ h => h) (by kernel_rfl) (by rfl) ?hy hHeld ?_
                    case hy => rintro W ⟨s1, s2⟩; first | (go_simp; done) | (go_simp; with_reducible rfl)
                    simp only [List.setIfInBounds_toArray, List.set_cons_zero, List.set_cons_succ]
                    refine zk (v := ?_) 4 149 #[true, true, true, true, true, false, false, false, false, false, false, false] rfl rfl (by kernel_rfl) (by kernel_rfl) (by kernel_rfl) (by kernel_rfl) (fun _ _ _ h => h) (by kernel_rfl) (by rfl) ?hy hHeld ?_
                    case hy => rintro W ⟨s1, s2⟩; first | (go_simp; done) | (go_simp; with_reducible rfl)
                    simp only [List.setIfInBounds_toArray, List.set_cons_zero, List.set_cons_succ]
                    refine zk (v := ?_) 5 150 #[true, true, true, true, true, true, false, false, false, false, false, false] rfl rfl (by kernel_rfl) (by kernel_rfl) (by kernel_rfl) (by kernel_rfl) (fun _ _ _ h => h) (by kernel_rfl) (by rfl) ?hy hHeld ?_
                    case hy => rintro W ⟨s1, s2⟩; first | (go_simp; done) | (go_simp; with_reducible rfl)
                    simp only [List.setIfInBounds_toArray, List.set_cons_zero, List.set_cons_succ]
                    refine zk (v := ?_) 6 151 #[true, true, true, true, true, true, true, false, false, false, false, false] rfl rfl (by kernel_rfl) (by kernel_rfl) (by kernel_rfl) (by kernel_rfl) (fun _ _ _ h => h) (by kernel_rfl) (by rfl) ?hy hHeld ?_
                    case hy => rintro W ⟨s1, s2⟩; first | (go_simp; done) | (go_simp; with_reducible rfl)
                    simp only [List.setIfInBounds_toArray, List.set_cons_zero, List.set_cons_succ]
                    refine zk (v := ?_) 7 152 #[true, true, true, true, true, true, true, true, false, false, false, false] rfl rfl (by kernel_rfl) (by kernel_rfl) (by kernel_rfl) (by kernel_rfl) (fun _ _ _ h => h) (by kernel_rfl) (by rfl) ?hy hHeld ?_
                    case hy => rintro W ⟨s1, s2⟩; first | (go_simp; done) | (go_simp; with_reducible rfl)
                    simp only [List.setIfInBounds_toArray, List.set_cons_zero, List.set_cons_succ]
                    refine zk (v := ?_) 8 153 #[true, true, true, true, true, true, true, true, true, false, false, false] rfl rfl (by kernel_rfl) (by kernel_rfl) (by kernel_rfl) (by kernel_rfl) (fun _ _ _ h => h) (by kernel_rfl) (by rfl) ?hy hHeld ?_
                    case hy => rintro W ⟨s1, s2⟩; first | (go_simp; done) | (go_simp; with_reducible rfl)
                    simp only [List.setIfInBounds_toArray, List.set_cons_zero, List.set_cons_succ]
                    have hbA := (Below.refl D.heap.size D).alloc (Nat.le_refl _) (.cells #[.slice sa sn sc, .slice sb sm sd] 41)
                    have HBA := hide (HBD.out.trans (hbA.mono HBD.out.size))
                    obtain ⟨b0, b1⟩ := pair_cells (alloc_new D (.cells #[.slice sa sn sc, .slice sb sm sd] 41)) rfl
                    obtain ⟨v5, w5, hrun5, hO5, hg5⟩ := run_append_two _ W9.heap.size 29 (.slice ax nx cx) _ (.slice sa sn sc) (.slice sb sm sd) D.heap.size (owns_lat HED.out hbA) rfl rfl b0 b1 HLN.out HBA.out.size
                    have HRUN5 := hide hrun5
                    have HO5 : Hid (w5.ownsRow W9.heap.size 41 1 v5 (alT TA TB (k + 1)).length (alT TA TB (k + 1))) := hide (by rw [HSU.out]; exact hO5)
                    have HB5 : Hid (Below W9.heap.size W9 w5) := hide (HBA.out.grown hg5 HBA.out.size (fun q hq => (World.ownsRow.lt HED.out q hq).1))
                    clear hO5 hg5 hrun5 hbA b0 b1
                    refine z_ready 9 #[true, true, true, true, true, true, true, true, true, true, false, false] rfl (by kernel_rfl) (by kernel_rfl) (by rfl) (fun K hK => ?_)
                    go_simp
                    refine hK.out _ _ (fun _ => HC.out _ HBA.out) (fun hHeld => ?_)
                    clear hK K
                    refine z_ready 10 #[true, true, true, true, true, true, true, true, true, true, true, false] rfl (by kernel_rfl) (by kernel_rfl) (by rfl) (fun K hK => ?_)
                    refine op_append_gen _ _ rfl _ ⟨D.heap.size, 0, none⟩ 2 2 rfl rfl _ w5 HRUN5.out ?_
                    simp only [Act.put, List.setIfInBounds_toArray]
                    refine hK.out _ _ (fun _ => HC.out _ HB5.out) (fun hHeld => ?_)
                    clear hK K
                    refine z_ready 11 #[true, true, true, true, true, true, true, true, true, true, true, true] rfl (by kernel_rfl) (by kernel_rfl) (by rfl) (fun K hK => ?_)
                    go_simp
                    refine hK.out _ _ (fun h => absurd rfl h) (fun _ => ?_)
                    clear hK K
                    refine z_done (by kernel_rfl) ?_ _
                    clear HRUN5 HBA HED HBD
                    try clear hHeld
                    go_wp2_with fail
                    go_roundw
                    case rel => exact ⟨k + 1, iv_succ wk, hide hkm, HO5, HB5⟩
                    case measure => exact meas_j wk hkm
                  · have HALF : Hid (wr.ownsRow W9.heap.size 41 1 u17 (alT TA TB ma).length (alT TA TB ma)) := hide (by have h := HAL.out; rw [show k = ma by have := HK.out; omega] at h; exact h)
                    obtain ⟨W10, hW10⟩ : ∃ W10, W10 = wr := ⟨wr, rfl⟩
                    subst hW10
                    have HTAX := hide (And.intro (HTA9.out.1.later HB.out) (HTB9.out.1.later HB.out))
                    have HLOW := hide ((HB4.out.trans (HB9.out.mono HB4.out.size)).trans (HB.out.mono (Nat.le_trans HB4.out.size HB9.out.size)))
                    have HWF := hide (HB1.out.trans (HE2.out.low.mono HB1.out.size))
                    have HBS2 := hide HE2.out.bs
                    have hkey : ∀ w11, (∃ (K : Nat) (av : Nat → Option Addr) (n c : Nat → Nat) (r : Nat → List Int), (∀ k, k < K → IN.OM W10 W2.heap.size (.slice (av k) (n k) (c k)) (r k)) ∧ Sp K av n c W10 w11) → Calls Tryd.prog 13 #[.slice aa ma ca, .slice ab ma cb] w11 fun e w' => e = .returned (.bool true) ∧ Below W2.heap.size W2 w' := fun w11 hh => by
                      obtain ⟨K, av, nn, cc, rr, h1, h2⟩ := hh
                      exact outer_any W2.heap.size ma W2 w11 _ _ _ _ (o2_of HTAX.out.1 HTAX.out.2 HS3.out HSZ.out.1 h1 h2 HLOW.out HLOW.out.size) (by rw [List.length_map]; exact HMA.out.1) (by rw [List.length_map]; exact HMA.out.2.1) HMA.out.2.2
                    have HKEY := hide hkey
                    clear hkey HAL HK
                    rcases HALF.out.2 with ⟨hu, h0⟩ | ⟨L, cL, cur, hu, _, _, hcap, _⟩
                    · subst hu
                      go_wp2_with fail
                      refine (IN.apartBytes_nil _).mono ?_
                      rintro e w11 ⟨rfl, hw⟩
                      obtain rfl := hw.symm
                      go_wp2_with fail
                      refine (HKEY.out _ ⟨0, fun _ => none, fun _ => 0, fun _ => 0, fun _ => [], fun k hk => absurd hk (Nat.not_lt_zero _), Sp.refl _ _ _ _ _⟩).mono ?_
                      rintro e w12 ⟨rfl, hb⟩
                      have HF := hide hb
                      clear hb
                      go_wp2_with fail
                      go_ret
                      exact ⟨rfl, HWF.out.trans (HF.out.mono (Nat.le_trans HB1.out.size HBS2.out))⟩
                    · subst hu
                      have hall := all_of HTAX.out.1 HTAX.out.2 HS3.out HMA.out.1 HMA.out.2.1 HSZ.out.2 HALF.out
                      have HAP := hide (IN.apartInts_sp W2.heap.size L (2 * ma) cL _ _ _ _ W10 hall (fun k => Nat.le_trans (zT_few HTAX.out.1 HTAX.out.2 k) (by decide)) (few_two HMA.out.2.2) (by rw [alT_len] at hcap; exact hcap) HLOW.out.size)
                      have HOW := hide hall.own
                      rw [alT_len]
                      obtain ⟨kk, hkk⟩ : ∃ kk, 2 * ma = kk := ⟨_, rfl⟩
                      rw [hkk] at HAP HOW
                      rw [hkk]
                      clear hall hcap hkk
                      go_wp2_with fail
                      refine HAP.out.mono ?_
                      rintro e w11 ⟨rfl, hsp⟩
                      have HKY := hide (HKEY.out w11 ⟨_, _, _, _, _, HOW.out, hsp⟩)
                      clear hsp
                      go_wp2_with fail
                      refine HKY.out.mono ?_
                      rintro e w12 ⟨rfl, hb⟩
                      have HF := hide hb
                      clear hb
                      go_wp2_with fail
                      go_ret
                      exact ⟨rfl, HWF.out.trans (HF.out.mono (Nat.le_trans HB1.out.size HBS2.out))⟩
      · have s1 : ¬ ((ptS NS k : Nat) : Int) ≤ 100000 := by omega
        have s2 : (100000 : Int) < ((ptS NS k : Nat) : Int) := by omega
        obtain ⟨s0, hs0⟩ : ∃ s0, ptS NS k = s0 := ⟨_, rfl⟩
        rw [hs0] at s1 s2 ⊢
        clear hsm
        go_wp2_with fail
        refine (works_any _).mono ?_
        rintro e w1 ⟨rfl, hb⟩
        have HB := hide hb
        clear hb
        go_wp2_with fail
        go_ret
        exact ⟨rfl, HB.out⟩
end Go.Proofs.YtcdhblfefpkjgaaDoor
namespace Go.Proofs.YtcdhblfefpkjgaaDoor
open Go.ChangeShapes Go.WideShapes Go.RowKit

theorem Tryd.own : ownKnob Tryd.prog.godebug = none := by kernel_rfl
theorem Tryd.et : Tryd.prog.globalNamed "errors.errorType" = some 0 := by kernel_rfl
theorem Tryd.rt : (Tryd.prog.cutTypes.find? (·.1 == "internal/reflectlite.rtype")).map (·.2) = some 113 := by kernel_rfl
theorem Tryd.oneRow : ((List.range 161).filter fun t => Tryd.prog.rowNamed t [101, 114, 114, 111, 114]) = [34] := by kernel_rfl
theorem Tryd.size : Tryd.prog.types.size = 161 := by kernel_rfl
def laidE : List (String × DataW Unit) := [("errors.errorType", Rows.laid_errors_errorType)]

/-- WHAT THE CONDITION GIVES A WALK: the variable's one cell. -/
theorem errType_of_laid {W : World} (h : laidMetH Tryd.prog laidE W) : ErrType W := by
  have h' : laidMet Tryd.prog [] W ∧ handlesMet Tryd.prog laidE W := h
  obtain ⟨name, u, ty, e1, e2, e3, e4, e5⟩ := h'.2 _ (List.mem_singleton.2 rfl)
  have en : name = [101, 114, 114, 111, 114] := (Option.some.inj e1).symm
  subst en
  obtain rfl := Option.some.inj (Tryd.rt.symm.trans e2)
  have hm : ty ∈ (List.range 161).filter fun t => Tryd.prog.rowNamed t [101, 114, 114, 111, 114] := List.mem_filter.2 ⟨List.mem_range.2 (by rw [← Tryd.size]; exact e3), e4⟩
  rw [Tryd.oneRow] at hm
  obtain rfl := List.mem_singleton.1 hm
  have hh : typeHandle Tryd.prog 34 = .pointer (some ⟨1, 34, none⟩) := by kernel_rfl
  rw [hh] at e5
  unfold ErrType
  simpa using World.var?_cell Tryd.et e5 0

/-- The heap that the door's own run leaves meets the condition. -/
theorem door_met (os : Os) (args : Array Value) : laidMetH Tryd.prog laidE ((World.doorLaid Tryd.prog 400 os).forCall (fun _ _ => 0) ⟨#[], args, []⟩).memory :=
  laidMetH_of_parts (laidMet_nil _ _) (by kernel_rfl)
end Go.Proofs.YtcdhblfefpkjgaaDoor
