/-
  My own text: Put of a chain.
-/
import Derived.Test.YtnjjehlfgoggfaaDoorHC5
namespace Go.Proofs.YtnjjehlfgoggfaaDoor
open Go.RowKit

def mxI : Int := 9223372036854775807
theorem ab_max : ∀ (L : List Ver), (∀ p ∈ L, p.1 ≤ 9223372036854775807) → ab 9223372036854775807 L = L.length
  | [], _ => rfl
  | p :: r, h => by
    have h1 := h p (List.mem_cons_self ..)
    unfold ab
    rw [if_neg (by omega), ab_max r (fun q hq => h q (List.mem_cons_of_mem _ hq))]; rfl
/-- What a call leaves alone: all but the chain's own two blocks. -/
structure Fr (W w' : World) (cb : Nat) : Prop where
  os : w'.os = W.os
  tape : w'.tape = W.tape
  output : w'.output = W.output
  size : W.heap.size ≤ w'.heap.size
  block : ∀ g, g < W.heap.size → g ≠ cb → (∀ v, W.cell? ⟨cb, 0, none⟩ = some v → v.ownBlock ≠ some g) → w'.heap[g]? = W.heap[g]?
  row : ∀ v', w'.cell? ⟨cb, 0, none⟩ = some v' → ∀ g, v'.ownBlock = some g → W.heap.size ≤ g ∨ ∃ v, W.cell? ⟨cb, 0, none⟩ = some v ∧ v.ownBlock = some g
theorem Fr.below {W w' : World} {B cb : Nat} {L : List Ver} (h : Fr W w' cb) (hc : CH W B cb L) : Below B W w' := by
  refine ⟨h.os, h.tape, h.output, h.size, fun k hk => ?_⟩
  have hlt := hc.lt
  obtain ⟨h1, v, em, hh, ho, hn⟩ := hc
  refine h.block k (by omega) (by omega) (fun v' hv' e => ?_)
  have : W.cell? ⟨cb, 0, none⟩ = some v := by rw [cell_of_row W cb 0 _ _ _ hh]; rfl
  rw [this] at hv'
  cases hv'
  have := (ho.lt e).1
  omega
theorem wp_append_or {P : Program} {ops : Array Oper} {rest : List Oper} {o : Oper} {a : Act} {Q : Exit → Act → World → Prop} (w : World) (B : Nat) (t e : TypeId) (i : TypeInfo) (z : Value) (k bytes : Nat) (hgd : o.guard = none) (s x : Operand)
    (ho : o.op = .call { callee := .builtin .append, args := #[s, x], argTypes := #[t, t] }) (ht : P.underlying t = some (.slice e)) (hi : P.info? e = some i) (hz : i.zero = some z)
    (hsize : i.size = k) (hby : i.bytes = bytes) (hzs : z.cells.size = k) (hsz : 0 < k) (v : Value) (n : Nat) (xs : List Value) (hs : a.eval s = v) (hO : OR w B e k v n xs) (b : Addr) (c : Nat) (news : List Value) (hx : a.eval x = .slice (some b) 1 c) (hl : news.length = k) (hnews : ∀ j u, news[j]? = some u → w.cell? (b.add j) = some u) (h1 : ∀ u ∈ news, u.oneCell' = true)
    (h63 : n + 1 ≤ maxLen) (hbytes : (n + 1) * bytes ≤ 140737488355328) (hB : B ≤ w.heap.size)
    (h : ∀ v' w', OR w' B e k v' (n + 1) (xs ++ news) → w.grownBy w' v.ownBlock → (∀ g, v'.ownBlock = some g → v.ownBlock = some g ∨ w.heap.size ≤ g) → wpList P ops Q rest (a.put o.dst v') w') : wpList P ops Q (o :: rest) a w := by
  obtain ⟨v', w', hrun, r1, r2, r3⟩ := run_append_or (P := P) w B t o.type e i z k bytes ht hi hz hsize hby hzs hsz v n xs hO b c news hl hnews h1 h63 hbytes hB
  refine wpList_plain hgd fun K hK => ?_
  unfold Oper.wp
  simp [execOp, ho, resolve, invoke, builtin, hs, hx, hrun, Result.andThen]
  exact hK _ _ (h v' w' r1 r2 r3)
theorem Tryd.infoVer : (Tryd.prog.info? 92).map (fun i => (i.zero, i.size, i.bytes)) = some (some (.agg #[.int .i64 0, .string ⟨#[]⟩]), 2, 24) := by kernel_rfl
set_option maxRecDepth 100000 in
set_option maxHeartbeats 1000000 in
/-- A version that may not be put. -/
theorem put_no (n : Int) (s : List UInt8) (B cb : Nat) (L : List Ver) (w : World) (h : CH w B cb L) (hr : Ris L) (hm : ∀ p ∈ L, p.1 ≤ 9223372036854775807) (hl : L.length ≤ 4611686018427387904) (hn : n < 0 ∨ ∃ p, L[L.length - 1]? = some p ∧ n ≤ p.1) :
    Calls Tryd.prog 34 #[.pointer (some ⟨cb, 0, none⟩), .int .i64 n, .string ⟨s.toArray⟩] w fun e w' => e = .returned (errV 1) ∧ Below w.heap.size w w' := by
  rw [errV_pos (by omega)]
  by_cases h0 : L.length = 0
  · have hn0 : n < 0 := by
      rcases hn with hn | ⟨p, hp, _⟩
      · exact hn
      · have := (List.getElem?_eq_some_iff.1 hp).1; omega
    have d1 : decide (n < 0) = true := decide_eq_true hn0
    have HA := hide (last_no B cb L w h hr hl (by rw [ab_max L hm]; exact h0))
    clear h hr hm hl h0 hn
    go_enter Tryd.func34, Tryd.ntmps34
    go_wp2_with fail
    refine HA.out.mono ?_
    rintro e w2 ⟨rfl, hb2⟩
    have B2 := hide hb2
    clear hb2
    go_wp2_with fail
    go_ret
    exact ⟨rfl, B2.out⟩
  · obtain ⟨k, hk⟩ : ∃ k, L.length = k + 1 := ⟨L.length - 1, by omega⟩
    obtain ⟨p, hp⟩ : ∃ p, L[k]? = some p := ⟨_, List.getElem?_eq_getElem (by omega)⟩
    have HA := hide (last_yes B cb L k p w h hr hl (by rw [ab_max L hm]; exact hk) hp)
    have hn' : n < 0 ∨ n ≤ p.1 := by
      rcases hn with hn | ⟨q, hq, hle⟩
      · exact .inl hn
      · rw [show L.length - 1 = k by omega, hp] at hq; cases hq; exact .inr hle
    clear h hr hm hl h0 hn hk hp
    by_cases hn0 : n < 0
    · have d1 : decide (n < 0) = true := decide_eq_true hn0
      go_enter Tryd.func34, Tryd.ntmps34
      go_wp2_with fail
      refine HA.out.mono ?_
      rintro e w2 ⟨rfl, hb2⟩
      have B2 := hide hb2
      clear hb2
      go_wp2_with fail
      go_ret
      exact ⟨rfl, B2.out⟩
    · have d1 : decide (n < 0) = false := decide_eq_false hn0
      have d2 : decide (n ≤ p.1) = true := decide_eq_true (by omega)
      go_enter Tryd.func34, Tryd.ntmps34
      go_wp2_with fail
      refine HA.out.mono ?_
      rintro e w2 ⟨rfl, hb2⟩
      have B2 := hide hb2
      clear hb2
      go_wp2_with fail
      go_ret
      exact ⟨rfl, B2.out⟩
/-- The end of a Put. -/
theorem put_end {W w2 W3 w4 : World} {B cb em : Nat} {L : List Ver} {v v' : Value} {n : Int} {s : List UInt8} (hb2 : Below W.heap.size W w2) (hv : W.heap[cb]? = some (.cells #[v, .int .i64 (em : Int)] 100 (0, 0))) (hB : B ≤ cb) (hn : v.ownBlock ≠ some cb) (hem : em ≤ L.length)
    (hw3 : w2.alloc (.cells #[.int .i64 n, .string ⟨s.toArray⟩] 92) = W3) (r1 : OR w4 B 92 2 v' (L.length + 1) (vc L ++ [.int .i64 n, .string ⟨s.toArray⟩])) (r2 : W3.grownBy w4 v.ownBlock) (r3 : ∀ g, v'.ownBlock = some g → v.ownBlock = some g ∨ W3.heap.size ≤ g) :
    CH (w4.setCell ⟨cb, 0, none⟩ v') B cb (L ++ [(n, s)]) ∧ Fr W (w4.setCell ⟨cb, 0, none⟩ v') cb := by
  have hlt : cb < W.heap.size := (Array.getElem?_eq_some_iff.1 hv).1
  have hA : Below W.heap.size W W3 := by rw [← hw3]; exact hb2.alloc hb2.size _
  have h4 : w4.heap[cb]? = some (.cells #[v, .int .i64 (em : Int)] 100 (0, 0)) := (r2.block cb (Nat.lt_of_lt_of_le hlt hA.size) (fun e => hn e.symm)).trans ((hA.block cb hlt).trans hv)
  have h5 := setCell_eq_setRow w4 cb 0 _ _ _ v' h4
  have h6 : (w4.setCell ⟨cb, 0, none⟩ v').heap[cb]? = some (.cells #[v', .int .i64 (em : Int)] 100 (0, 0)) := by rw [h5]; exact setRow_heap w4 cb _ _ _ _ h4
  have hn' : v'.ownBlock ≠ some cb := fun e => by
    rcases r3 cb e with h | h
    · exact hn h
    · have := hA.size; omega
  have hsz : (w4.setCell ⟨cb, 0, none⟩ v').heap.size = w4.heap.size := by simp [World.setCell]
  refine ⟨⟨hB, v', em, h6, ?_, hn', by rw [List.length_append]; omega⟩, ⟨r2.os.trans hA.os, r2.tape.trans hA.tape, r2.output.trans hA.output, by rw [hsz]; exact Nat.le_trans hA.size r2.size, fun g hg hne hrow => ?_, fun u hu g hg => ?_⟩⟩
  · rw [vc_app, List.length_append]
    exact r1.kept (fun g hg => Below.heap_setCell _ _ _ g (fun e => hn' (by have e' : g = cb := e; rw [← e']; exact hg)))
  · rw [Below.heap_setCell _ _ _ g hne, r2.block g (Nat.lt_of_lt_of_le hg hA.size) (fun e => hrow v (by rw [cell_of_row W cb 0 _ _ _ hv]; rfl) e.symm)]
    exact hA.block g hg
  · rw [cell_of_row _ cb 0 _ _ _ h6] at hu
    cases hu
    rcases r3 g hg with h | h
    · exact .inr ⟨v, by rw [cell_of_row W cb 0 _ _ _ hv]; rfl, h⟩
    · exact .inl (Nat.le_trans hA.size h)
set_option maxRecDepth 100000 in
set_option maxHeartbeats 2000000 in
/-- A version that may be put. -/
theorem put_yes (n : Int) (s : List UInt8) (B cb : Nat) (L : List Ver) (w : World) (h : CH w B cb L) (hr : Ris L) (hm : ∀ p ∈ L, p.1 ≤ 9223372036854775807) (hl : L.length ≤ 5864062014804) (hn0 : 0 ≤ n) (hn : ∀ p, L[L.length - 1]? = some p → p.1 < n) :
    Calls Tryd.prog 34 #[.pointer (some ⟨cb, 0, none⟩), .int .i64 n, .string ⟨s.toArray⟩] w fun e w' => e = .returned .nilIface ∧ CH w' B cb (L ++ [(n, s)]) ∧ Fr w w' cb := by
  have d1 : decide (n < 0) = false := decide_eq_false (by omega)
  have HC := hide h
  have HLL := hide hl
  obtain ⟨i0, hi, hz0, hz1, hz2⟩ := info_parts Tryd.infoVer
  have HI := hide (And.intro hi (And.intro hz0 (And.intro hz1 hz2)))
  obtain ⟨hB, v, em, hv, ho, hno, hem⟩ := h
  have HEM := hide hem
  have HV := hide hv
  have HOR := hide ho
  have HNO := hide hno
  have HBB := hide hB
  have hlast : ∃ t : Value, ∃ k : Int, ∃ ok : Bool, (decide (n ≤ k) = false ∨ ok = false) ∧ Calls Tryd.prog 32 #[.pointer (some ⟨cb, 0, none⟩)] w fun e w' => e = .returned (.tuple #[t, .int .i64 k, .bool ok]) ∧ Below w.heap.size w w' := by
    by_cases h0 : L.length = 0
    · exact ⟨_, _, _, .inr rfl, last_no B cb L w HC.out hr (by omega) (by rw [ab_max L hm]; exact h0)⟩
    · obtain ⟨k, hk⟩ : ∃ k, L.length = k + 1 := ⟨L.length - 1, by omega⟩
      obtain ⟨p, hp⟩ : ∃ p, L[k]? = some p := ⟨_, List.getElem?_eq_getElem (by omega)⟩
      have := hn p (by rw [show L.length - 1 = k by omega]; exact hp)
      exact ⟨_, _, _, .inl (decide_eq_false (by omega)), last_yes B cb L k p w HC.out hr (by omega) (by rw [ab_max L hm]; exact hk) hp⟩
  obtain ⟨t, k, ok, hok, hA⟩ := hlast
  have HA := hide hA
  clear hA hr hm hl hn hi hz0 hz1 hz2 hv ho hno hem hB HC
  rcases hok with d2 | rfl
  all_goals
    try (cases ok)
  all_goals
    go_enter Tryd.func34, Tryd.ntmps34
    go_wp2_with fail
    refine HA.out.mono ?_
    rintro e w2 ⟨rfl, hb2⟩
    have HB2 := hide hb2
    have k0 : w2.cell? ⟨cb, 0, none⟩ = some v := by rw [cell_of_row w2 cb 0 _ _ _ ((hb2.block cb (Array.getElem?_eq_some_iff.1 HV.out).1).trans HV.out)]; rfl
    obtain ⟨W3, hW3⟩ : ∃ W3, w2.alloc (.cells #[.int .i64 n, .string ⟨s.toArray⟩] 92) = W3 := ⟨_, rfl⟩
    have HW3 := hide hW3
    have HO3 : Hid (OR W3 B 92 2 v L.length (vc L)) := hide (by rw [← hW3]; exact HOR.out.later (hb2.alloc hb2.size _))
    have HN3 : Hid (∀ j u, ([.int .i64 n, .string ⟨s.toArray⟩] : List Value)[j]? = some u → W3.cell? ((⟨w2.heap.size, 0, none⟩ : Addr).add j) = some u) := hide (fun j u hj => by
      rw [← hW3, Addr.add_lit, cell_of_row _ w2.heap.size _ _ _ _ (alloc_newV w2 _)]
      match j, hj with
      | 0, hj => cases hj; rfl
      | 1, hj => cases hj; rfl)
    have HZ3 : Hid (B ≤ W3.heap.size) := hide (by rw [← hW3]; have := HBB.out; have := (Array.getElem?_eq_some_iff.1 HV.out).1; have := hb2.size; simp; omega)
    clear hb2
    go_wp2_with (at_builtin; refine wp_append_or W3 B 98 92 i0 _ 2 24 rfl _ _ rfl Tryd.underlying98 HI.out.1 HI.out.2.1 HI.out.2.2.1 HI.out.2.2.2 rfl (by decide) v L.length (vc L) rfl HO3.out ⟨w2.heap.size, 0, none⟩ 1 [.int .i64 n, .string ⟨s.toArray⟩] rfl rfl HN3.out (by intro u hu; simp at hu; rcases hu with rfl | rfl <;> rfl) (by have := HLL.out; unfold maxLen; omega) (by have := HLL.out; omega) HZ3.out ?_)
    intro v' w4 r1 r2 r3
    have HE := hide (put_end HB2.out HV.out HBB.out HNO.out HEM.out HW3.out r1 r2 r3)
    have k4 : w4.heap[cb]? = some (.cells #[v, .int .i64 (em : Int)] 100 (0, 0)) := by
      have hlt := (Array.getElem?_eq_some_iff.1 HV.out).1
      have hA3 : Below w.heap.size w W3 := by rw [← HW3.out]; exact HB2.out.alloc HB2.out.size _
      exact (r2.block cb (Nat.lt_of_lt_of_le hlt hA3.size) (fun e => HNO.out e.symm)).trans ((hA3.block cb hlt).trans HV.out)
    have c4 : w4.cell? ⟨cb, 0, none⟩ = some v := by rw [cell_of_row w4 cb 0 _ _ _ k4]; rfl
    have f4 : w4.frozen? ⟨cb, 0, none⟩ = false := by unfold World.frozen?; simp [k4]
    obtain ⟨a4, n4, cap4, rfl⟩ : ∃ a4 n4 cap4, v' = .slice a4 n4 cap4 := by
      rcases r1.2 with ⟨e, _⟩ | ⟨_, _, _, _, e, _⟩ <;> exact ⟨_, _, _, e⟩
    clear r1 r2 r3 k4 hW3 k0 HW3
    go_wp2_with fail
    go_ret
    exact ⟨rfl, HE.out.1, HE.out.2⟩
end Go.Proofs.YtnjjehlfgoggfaaDoor
