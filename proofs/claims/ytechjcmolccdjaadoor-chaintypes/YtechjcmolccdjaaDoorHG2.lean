/-
  My own text: HG1, HG2 in one.
-/
import Derived.Test.YtechjcmolccdjaaDoorHD8
import Derived.Laws.StructEq
import Derived.ChangeKeysEq
import Derived.Test.YtechjcmolccdjaaDoorIC20
import Derived.Test.YtechjcmolccdjaaDoorTC20
namespace Go.Proofs.YtechjcmolccdjaaDoor
open Go.RowKit Go.Shelf

/-- Eight bytes. -/
def tb (i : Nat) : List UInt8 := [UInt8.ofNat (i % 256), UInt8.ofNat (i / 256 % 256), UInt8.ofNat (i / 65536 % 256), UInt8.ofNat (i / 16777216 % 256), UInt8.ofNat (i / 4294967296 % 256), UInt8.ofNat (i / 1099511627776 % 256), UInt8.ofNat (i / 281474976710656 % 256), UInt8.ofNat (i / 72057594037927936 % 256)]
theorem tb_len (i : Nat) : (tb i).length = 8 := rfl
theorem tb_at (i j : Nat) (h : j < (tb i).length) : ((tb i)[j]).toNat = i / 256 ^ j % 256 := by
  unfold tb at h ⊢
  match j, h with
  | 0, _ => simp
  | 1, _ => simp
  | 2, _ => simp
  | 3, _ => simp
  | 4, _ => simp
  | 5, _ => simp
  | 6, _ => simp
  | 7, _ => simp
set_option maxRecDepth 100000 in
set_option maxHeartbeats 1000000 in
theorem told_any (i : Nat) (w : World) :
    Calls Tryd.prog 14 #[.int .i64 (i : Int)] w fun e w' => e = .returned (.string ⟨(tb i).toArray⟩) ∧ Below w.heap.size w w' := by
  have hcv : (convert 82 9 (.slice (some ⟨w.heap.size, 0, none⟩) 8 8)).run Tryd.prog (w.alloc (.cells #[.int .u8 ((i : Int) % 256), .int .u8 ((i : Int) / 256 % 256), .int .u8 ((i : Int) / 65536 % 256), .int .u8 ((i : Int) / 16777216 % 256), .int .u8 ((i : Int) / 4294967296 % 256), .int .u8 ((i : Int) / 1099511627776 % 256), .int .u8 ((i : Int) / 281474976710656 % 256), .int .u8 ((i : Int) / 72057594037927936 % 256)] 5)) = .ok (.string ⟨(tb i).toArray⟩) (w.alloc (.cells #[.int .u8 ((i : Int) % 256), .int .u8 ((i : Int) / 256 % 256), .int .u8 ((i : Int) / 65536 % 256), .int .u8 ((i : Int) / 16777216 % 256), .int .u8 ((i : Int) / 4294967296 % 256), .int .u8 ((i : Int) / 1099511627776 % 256), .int .u8 ((i : Int) / 281474976710656 % 256), .int .u8 ((i : Int) / 72057594037927936 % 256)] 5)) :=
    run_convert_bytes_back (P := Tryd.prog) _ 82 9 5 ⟨w.heap.size, 0, none⟩ 8 (tb i) Tryd.underlying82 Tryd.underlying5 Tryd.underlying9 (fun j hj => by
      unfold tb at hj ⊢
      match j, hj with
      | 0, _ => simp [Addr.add]
      | 1, _ => simp [Addr.add]
      | 2, _ => simp [Addr.add]
      | 3, _ => simp [Addr.add]
      | 4, _ => simp [Addr.add]
      | 5, _ => simp [Addr.add]
      | 6, _ => simp [Addr.add]
      | 7, _ => simp [Addr.add])
  have B0 := hide ((Below.refl w.heap.size w).alloc (Nat.le_refl _) (.cells #[.int .u8 ((i : Int) % 256), .int .u8 ((i : Int) / 256 % 256), .int .u8 ((i : Int) / 65536 % 256), .int .u8 ((i : Int) / 16777216 % 256), .int .u8 ((i : Int) / 4294967296 % 256), .int .u8 ((i : Int) / 1099511627776 % 256), .int .u8 ((i : Int) / 281474976710656 % 256), .int .u8 ((i : Int) / 72057594037927936 % 256)] 5))
  generalize tb i = mt at *
  go_enter Tryd.func14, Tryd.ntmps14
  go_wp2_with fail
  go_ret
  exact ⟨rfl, B0.out⟩
theorem pow_cut (i j : Nat) : i / 256 ^ (j + 1) * 256 + i / 256 ^ j % 256 = i / 256 ^ j := by
  rw [Nat.pow_succ, ← Nat.div_div_eq_div_mul]; omega
set_option maxRecDepth 100000 in
set_option maxHeartbeats 1000000 in
theorem step8_of (l : List UInt8) (i : Nat) (w : World) (hl : l.length = 8) (hb : ∀ (j : Nat) (h : j < l.length), (l[j]).toNat = i / 256 ^ j % 256) (hi : i ≤ 4611686018427387904) :
    Calls Tryd.prog 48 #[.string ⟨l.toArray⟩] w fun e w' => e = .returned (.int .i64 (i : Int)) ∧ w' = w := by
  have HL := hide hl
  have HB := hide hb
  clear hl hb
  go_enter Tryd.func48, Tryd.ntmps48
  go_wp2_with fail
  go_loop [3, 4] (fun x y => ∃ k : Nat, k ≤ 8 ∧ x = .int .i64 ((i / 256 ^ k : Nat) : Int) ∧ y = .int .i64 (bI k)) (fun _ y => (intOf y + 1).toNat)
  case atStart => exact ⟨8, Nat.le_refl _, by rw [Nat.div_eq_of_lt (Nat.lt_of_le_of_lt hi (by decide))]; rfl, rfl⟩
  case round =>
    obtain ⟨k, hk, rfl, rfl⟩ := hrel
    cases k with
    | zero =>
      rw [bI0]
      rw [show i / 256 ^ 0 = i by simp]
      go_wp2_with fail
      go_ret
      exact ⟨rfl, rfl⟩
    | succ j =>
      rw [bIS]
      have hs1 : j < (⟨l.toArray⟩ : ByteArray).size := by show j < l.length; rw [HL.out]; omega
      have hs2 : ((⟨l.toArray⟩ : ByteArray).size : Int) = 8 := by show ((l.length : Nat) : Int) = 8; rw [HL.out]; rfl
      obtain ⟨c, hc⟩ : ∃ c, (⟨l.toArray⟩ : ByteArray)[j]'hs1 = c := ⟨_, rfl⟩
      have Hc : Hid (c.toNat = i / 256 ^ j % 256) := hide (by rw [← hc]; exact HB.out j hs1)
      have hcut := pow_cut i j
      have hle : i / 256 ^ j ≤ i := Nat.div_le_self _ _
      obtain ⟨A, hA⟩ : ∃ A, A = i / 256 ^ (j + 1) := ⟨_, rfl⟩
      obtain ⟨R, hR⟩ : ∃ R, R = i / 256 ^ j := ⟨_, rfl⟩
      rw [← Hc.out, ← hA, ← hR] at hcut
      rw [← hR] at hle
      rw [← hA]
      have HR := hide hR
      have k0 : (0 : Int) ≤ (j : Int) := by omega
      have k1 : (j : Int) < 8 := by omega
      have w1 : wrap64 ((A : Int) * 256) = (A : Int) * 256 := by unfold wrap64; omega
      have w2 : wrap64 ((A : Int) * 256 + (c.toNat : Int)) = (R : Int) := by unfold wrap64; omega
      have w3 : wrap64 ((j : Int) - 1) = bI j := by unfold wrap64 bI; omega
      have hd : decide ((0 : Int) ≤ (j : Int)) = true := decide_eq_true k0
      clear hA hR
      go_wp2_with fail
      go_round
      case rel => exact ⟨j, by omega, by rw [← HR.out]; congr 1; omega, rfl⟩
      case measure => simp [intOf]
theorem step8_any (i : Nat) (w : World) (hi : i ≤ 4611686018427387904) :
    Calls Tryd.prog 48 #[.string ⟨(tb i).toArray⟩] w fun e w' => e = .returned (.int .i64 (i : Int)) ∧ w' = w :=
  step8_of (tb i) i w rfl (fun j h => tb_at i j h) hi
theorem Tryd.cells8 : Tryd.prog.cellsOf 5 = 1 := by kernel_rfl
theorem eqA2 (x y : Int) (w : World) : (Op.equalIn 9999 41 (.agg #[.int .u8 x, .int .u8 y]) (.agg #[.int .u8 x, .int .u8 y])).run Tryd.prog w = .ok true w := by
  obtain ⟨i0, hi, _⟩ := Option.map_eq_some_iff.1 (show (Tryd.prog.info? 5).map (·.size) = some 1 by kernel_rfl)
  have h := run_equalIn_array (P := Tryd.prog) w 9998 #[.int .u8 x, .int .u8 y] #[.int .u8 x, .int .u8 y] Tryd.underlying41 hi
  rw [Tryd.cells8] at h
  refine h.trans ?_
  have u8 := Tryd.underlying5
  have p0 : ∀ W : World, (part 5 #[.int .u8 x, .int .u8 y] 0).run Tryd.prog W = .ok (.int .u8 x) W := fun W => by simp [part, isAgg, underlying, u8, Result.andThen]
  have p1 : ∀ W : World, (part 5 #[.int .u8 x, .int .u8 y] 1).run Tryd.prog W = .ok (.int .u8 y) W := fun W => by simp [part, isAgg, underlying, u8, Result.andThen]
  have e : ∀ (z : Int) (W : World), (Op.equalIn 9998 5 (.int .u8 z) (.int .u8 z)).run Tryd.prog W = .ok true W := fun z W => by rw [show (9998 : Nat) = 9997 + 1 from rfl, run_equalIn_int W 9997 _ _ _ _ _ u8]; simp
  simp only [List.range, List.range.loop, Op.eqItems, Sem.run_bind, Nat.mul_one, p0, e, Result.andThen_ok]
  simp [p1, e]
theorem Tryd.eqlT (q x y : Int) (w : World) : (binOp .eql 43 (.agg #[.int .i64 q, .int .u8 x, .int .u8 y]) (.agg #[.int .i64 q, .int .u8 x, .int .u8 y])).run Tryd.prog w = .ok (.bool true) w := by
  have h := eqA2 x y w
  simp [go_sem, h]
end Go.Proofs.YtechjcmolccdjaaDoor
namespace Go.Proofs.YtechjcmolccdjaaDoor
open Go.RowKit Go.Shelf

theorem CI.CH.blk {W : World} {B cb : Nat} {L : List CI.Ver} (h : CI.CH W B cb L) : ∃ cs, W.heap[cb]? = some (.cells cs 77 (0, 0)) := by
  obtain ⟨_, v, em, hh, _⟩ := h
  exact ⟨_, hh⟩
theorem CT.CH.blk {W : World} {B cb : Nat} {L : List CT.Ver} (h : CT.CH W B cb L) : ∃ cs, W.heap[cb]? = some (.cells cs 80 (0, 0)) := by
  obtain ⟨_, v, em, hh, _⟩ := h
  exact ⟨_, hh⟩
theorem CI.Fr.blk {W W' : World} {B c b : Nat} {X : List CI.Ver} {t : TypeId} {cs : Array Value} {fz : Nat × Nat} (hf : CI.Fr W W' c) (hx : CI.CH W B c X) (hb : W.heap[b]? = some (.cells cs t fz)) (h1 : t ≠ 88) (h2 : t ≠ 77) : W'.heap[b]? = some (.cells cs t fz) := by
  obtain ⟨_, hh⟩ := hx.blk
  exact (hf.block b (Array.getElem?_eq_some_iff.1 hb).1 (ne_type hb hh h2) (hx.row_ne hb h1)).trans hb
theorem CT.Fr.blk {W W' : World} {B c b : Nat} {X : List CT.Ver} {t : TypeId} {cs : Array Value} {fz : Nat × Nat} (hf : CT.Fr W W' c) (hx : CT.CH W B c X) (hb : W.heap[b]? = some (.cells cs t fz)) (h1 : t ≠ 92) (h2 : t ≠ 80) : W'.heap[b]? = some (.cells cs t fz) := by
  obtain ⟨_, hh⟩ := hx.blk
  exact (hf.block b (Array.getElem?_eq_some_iff.1 hb).1 (ne_type hb hh h2) (hx.row_ne hb h1)).trans hb
/-- A row of another type stays where blocks of that type do. -/
theorem OR.still {W W' : World} {B' k n : Nat} {t : TypeId} {v : Value} {xs : List Value} (h : OR W B' t k v n xs) (hs : ∀ (b : Nat) (cs : Array Value) (fz : Nat × Nat), W.heap[b]? = some (.cells cs t fz) → W'.heap[b]? = some (.cells cs t fz)) : OR W' B' t k v n xs := by
  refine h.kept (fun g hg => ?_)
  rcases h.2 with ⟨rfl, _⟩ | ⟨g', off, cap, cur, rfl, _, hh, _⟩
  · cases hg
  · obtain rfl : g' = g := Option.some.inj hg
    exact (hs _ _ _ hh).trans hh.symm
theorem CT.CH.frA {W W' : World} {ca B cb : Nat} {X : List CI.Ver} {Y : List CT.Ver} (h : CT.CH W B cb Y) (hf : CI.Fr W W' ca) (ha : CI.CH W ca ca X) : CT.CH W' B cb Y := by
  obtain ⟨q1, v, em, hh, ho, hn⟩ := h
  exact ⟨q1, v, em, hf.blk ha hh (by decide) (by decide), ho.still (fun _ _ _ hb => hf.blk ha hb (by decide) (by decide)), hn⟩
theorem CI.CH.frB {W W' : World} {ca B cb : Nat} {X : List CT.Ver} {Y : List CI.Ver} (h : CI.CH W B cb Y) (hf : CT.Fr W W' ca) (ha : CT.CH W ca ca X) : CI.CH W' B cb Y := by
  obtain ⟨q1, v, em, hh, ho, hn⟩ := h
  exact ⟨q1, v, em, hf.blk ha hh (by decide) (by decide), ho.still (fun _ _ _ hb => hf.blk ha hb (by decide) (by decide)), hn⟩

/-- A version: its number, the step that put it in. -/
abbrev Jt := Int × Nat
def vR (J : List Jt) : List Ver := J.map fun p => (p.1, tb p.2)
def vA (J : List Jt) : List CI.Ver := J.map fun p => (p.1, (p.2 : Int))
def th (ps : List Oq) (i : Nat) : Int × Int × Int := match ps[i]? with | some q => (q.1, q.2.2.1 % 256, q.2.1 % 256) | none => (0, 0, 0)
def vT (ps : List Oq) (J : List Jt) : List CT.Ver := J.map fun p => (p.1, th ps p.2)
theorem len_R (J : List Jt) : (vR J).length = J.length := List.length_map _
theorem len_A (J : List Jt) : (vA J).length = J.length := List.length_map _
theorem len_T (ps : List Oq) (J : List Jt) : (vT ps J).length = J.length := List.length_map _
theorem ab_A (n : Int) : ∀ J : List Jt, CI.ab n (vA J) = ab n (vR J)
  | [] => rfl
  | p :: r => by
    show (if n < p.1 then 0 else CI.ab n (vA r) + 1) = (if n < p.1 then 0 else ab n (vR r) + 1)
    rw [ab_A n r]
theorem ab_T (ps : List Oq) (n : Int) : ∀ J : List Jt, CT.ab n (vT ps J) = ab n (vR J)
  | [] => rfl
  | p :: r => by
    show (if n < p.1 then 0 else CT.ab n (vT ps r) + 1) = (if n < p.1 then 0 else ab n (vR r) + 1)
    rw [ab_T ps n r]
theorem last_A (J : List Jt) : CI.lastN (vA J) = lastN (vR J) := by
  unfold CI.lastN lastN vA vR
  rw [List.length_map, List.length_map, List.getElem?_map, List.getElem?_map]
  cases J[J.length - 1]? <;> rfl
theorem last_T (ps : List Oq) (J : List Jt) : CT.lastN (vT ps J) = lastN (vR J) := by
  unfold CT.lastN lastN vT vR
  rw [List.length_map, List.length_map, List.getElem?_map, List.getElem?_map]
  cases J[J.length - 1]? <;> rfl
theorem ris_A : ∀ J : List Jt, Ris (vR J) → CI.Ris (vA J)
  | [], _ => trivial
  | p :: r, h => ⟨fun q hq => by
      obtain ⟨x, hx, rfl⟩ := List.mem_map.1 hq
      exact h.1 (x.1, tb x.2) (List.mem_map.2 ⟨x, hx, rfl⟩), ris_A r h.2⟩
theorem ris_T (ps : List Oq) : ∀ J : List Jt, Ris (vR J) → CT.Ris (vT ps J)
  | [], _ => trivial
  | p :: r, h => ⟨fun q hq => by
      obtain ⟨x, hx, rfl⟩ := List.mem_map.1 hq
      exact h.1 (x.1, tb x.2) (List.mem_map.2 ⟨x, hx, rfl⟩), ris_T ps r h.2⟩
theorem LK_A {J : List Jt} {k : Nat} (h : LK (vR J) k) : CI.LK (vA J) k :=
  ⟨ris_A J h.ris, fun p hp => by
      obtain ⟨x, hx, rfl⟩ := List.mem_map.1 hp
      exact h.pos (x.1, tb x.2) (List.mem_map.2 ⟨x, hx, rfl⟩), fun p hp => by
      obtain ⟨x, hx, rfl⟩ := List.mem_map.1 hp
      exact h.max (x.1, tb x.2) (List.mem_map.2 ⟨x, hx, rfl⟩), by have := h.len; rw [len_R] at this; rw [len_A]; exact this⟩
theorem LK_T {ps : List Oq} {J : List Jt} {k : Nat} (h : LK (vR J) k) : CT.LK (vT ps J) k :=
  ⟨ris_T ps J h.ris, fun p hp => by
      obtain ⟨x, hx, rfl⟩ := List.mem_map.1 hp
      exact h.pos (x.1, tb x.2) (List.mem_map.2 ⟨x, hx, rfl⟩), fun p hp => by
      obtain ⟨x, hx, rfl⟩ := List.mem_map.1 hp
      exact h.max (x.1, tb x.2) (List.mem_map.2 ⟨x, hx, rfl⟩), by have := h.len; rw [len_R] at this; rw [len_T]; exact this⟩
theorem at_A0 {n : Int} {J : List Jt} (h : ab n (vR J) = 0) : CI.atS n (vA J) = 0 ∧ CI.atB n (vA J) = false := by
  unfold CI.atS CI.atB; rw [ab_A, h, if_pos rfl]; exact ⟨rfl, rfl⟩
theorem at_T0 {ps : List Oq} {n : Int} {J : List Jt} (h : ab n (vR J) = 0) : CT.atS n (vT ps J) = (0, 0, 0) ∧ CT.atB n (vT ps J) = false := by
  unfold CT.atS CT.atB; rw [ab_T, h, if_pos rfl]; exact ⟨rfl, rfl⟩
theorem at_A1 {n : Int} {J : List Jt} {m : Nat} {p : Jt} (h : ab n (vR J) = m + 1) (hp : J[m]? = some p) : CI.atS n (vA J) = (p.2 : Int) ∧ CI.atB n (vA J) = true := by
  unfold CI.atS CI.atB; rw [ab_A, h, if_neg (by omega), Nat.add_sub_cancel]; unfold vA; rw [List.getElem?_map, hp]; exact ⟨rfl, by simp⟩
theorem at_T1 {ps : List Oq} {n : Int} {J : List Jt} {m : Nat} {p : Jt} (h : ab n (vR J) = m + 1) (hp : J[m]? = some p) : CT.atS n (vT ps J) = th ps p.2 ∧ CT.atB n (vT ps J) = true := by
  unfold CT.atS CT.atB; rw [ab_T, h, if_neg (by omega), Nat.add_sub_cancel]; unfold vT; rw [List.getElem?_map, hp]; exact ⟨rfl, by simp⟩
/-- Both chains, and the row. -/
structure YS (w0 : World) (ca cb k : Nat) (ps : List Oq) (J : List Jt) (v : Value) (W : World) : Prop where
  a : CI.CH W ca ca (vA J)
  b : CT.CH W cb cb (vT ps J)
  row : OR W w0.heap.size 62 2 v (vR J).length (vc (vR J))
  lk : LK (vR J) k
  low : Below w0.heap.size w0 W
  na : w0.heap.size ≤ ca
  nb : w0.heap.size ≤ cb
  fit : ∀ p ∈ J, p.2 < k
theorem YS.later {w0 W W' : World} {ca cb k : Nat} {ps : List Oq} {J : List Jt} {v : Value} (h : YS w0 ca cb k ps J v W) (hb : Below W.heap.size W W') : YS w0 ca cb k ps J v W' :=
  ⟨h.a.later hb, h.b.later hb, h.row.later hb, h.lk, h.low.trans (hb.mono h.low.size), h.na, h.nb, h.fit⟩
set_option maxRecDepth 100000 in
set_option maxHeartbeats 2000000 in
theorem tcounts_no (n : Int) (ca cb k : Nat) (ps : List Oq) (J : List Jt) (v sv : Value) (w0 w : World) (h : YS w0 ca cb k ps J v w) (hl : k ≤ 5864062014804) (h0 : ab n (vR J) = 0) :
    Calls Tryd.prog 22 #[.pointer (some ⟨ca, 0, none⟩), .pointer (some ⟨cb, 0, none⟩), v, sv, .int .i64 n] w fun e w' => e = .returned (.bool true) ∧ Below w.heap.size w w' := by
  have HV := hide h.row.rv
  have hlen : (vR J).length ≤ k := h.lk.len
  have HA : Hid (∀ W : World, Below w.heap.size w W → Calls Tryd.prog 44 #[.pointer (some ⟨ca, 0, none⟩), .int .i64 n] W fun e w' => e = .returned (.tuple #[.int .i64 0, .bool false]) ∧ Below W.heap.size W w') := hide (fun W hb => by
    have := CI.atq_any n ca ca (vA J) W (h.a.later hb) (ris_A J h.lk.ris) (by rw [len_A, ← len_R]; omega)
    rw [(at_A0 h0).1, (at_A0 h0).2] at this; exact this)
  have HB : Hid (∀ W : World, Below w.heap.size w W → Calls Tryd.prog 45 #[.pointer (some ⟨cb, 0, none⟩), .int .i64 n] W fun e w' => e = .returned (.tuple #[.agg #[.int .i64 0, .int .u8 0, .int .u8 0], .bool false]) ∧ Below W.heap.size W w') := hide (fun W hb => by
    have := CT.atq_any n cb cb (vT ps J) W (h.b.later hb) (ris_T ps J h.lk.ris) (by rw [len_T, ← len_R]; omega)
    rw [(at_T0 h0).1, (at_T0 h0).2] at this; exact this)
  have HC : Hid (∀ W : World, Below w.heap.size w W → Calls Tryd.prog 37 #[v, .int .i64 n] W fun e w' => e = .returned (.int .i64 (-1)) ∧ Below W.heap.size W w') := hide (fun W hb => by
    have := refCounts_any v (vR J) n W (h.row.later hb).rv h.lk.ris (by omega)
    rw [h0, bI0] at this; exact this)
  have HLA : Hid (∀ W : World, Below w.heap.size w W → Calls Tryd.prog 46 #[.pointer (some ⟨ca, 0, none⟩)] W fun e w' => e = .returned (.int .i64 ((vR J).length : Int)) ∧ Below W.heap.size W w') := hide (fun W hb => by
    have := CI.len_any ca ca (vA J) W (h.a.later hb)
    rw [len_A, ← len_R] at this; exact this)
  have HLB : Hid (∀ W : World, Below w.heap.size w W → Calls Tryd.prog 47 #[.pointer (some ⟨cb, 0, none⟩)] W fun e w' => e = .returned (.int .i64 ((vR J).length : Int)) ∧ Below W.heap.size W w') := hide (fun W hb => by
    have := CT.len_any cb cb (vT ps J) W (h.b.later hb)
    rw [len_T, ← len_R] at this; exact this)
  obtain ⟨a, cap, hv, _⟩ := HV.out
  subst hv
  generalize (vR J).length = N at *
  clear h HV h0 hlen
  have hee := Tryd.eqlT 0 0 0
  go_enter Tryd.func22, Tryd.ntmps22
  go_wp2_with fail
  refine (HA.out _ (Below.refl _ _)).mono ?_
  rintro e w1 ⟨rfl, hb1⟩
  have B1 := hide hb1
  clear hb1
  go_wp2_with fail
  refine (HB.out _ B1.out).mono ?_
  rintro e w2 ⟨rfl, hb2⟩
  have B2 := hide (B1.out.trans (hb2.mono B1.out.size))
  clear hb2
  have B3 : Hid (Below w.heap.size w (w2.alloc (.cells #[.int .i64 0, .int .u8 0, .int .u8 0] 43))) := hide (B2.out.alloc B2.out.size _)
  have K3 : Hid ((w2.alloc (.cells #[.int .i64 0, .int .u8 0, .int .u8 0] 43)).heap[w2.heap.size]? = some (.cells #[.int .i64 0, .int .u8 0, .int .u8 0] 43 (0, 0))) := hide (alloc_newV w2 _)
  go_wp2_with (refine wpList_store_row rfl 43 _ _ rfl w2.heap.size #[.int .i64 0, .int .u8 0, .int .u8 0] rfl rfl _ _ (alloc_newV w2 _) Tryd.sizeThing rfl (by simp [Value.oneCell']) ?_; rw [World.setRow_alloc_new])
  generalize w2.alloc (.cells #[.int .i64 0, .int .u8 0, .int .u8 0] 43) = W3 at *
  refine (HC.out _ B3.out).mono ?_
  rintro e w4 ⟨rfl, hb4⟩
  have B4 := hide (B3.out.trans (hb4.mono B3.out.size))
  have K4 := hide ((hb4.block _ (Array.getElem?_eq_some_iff.1 K3.out).1).trans K3.out)
  clear hb4
  go_wp2_with fail
  refine (HLA.out _ B4.out).mono ?_
  rintro e w5 ⟨rfl, hb5⟩
  have B5 := hide (B4.out.trans (hb5.mono B4.out.size))
  have K5 := hide ((hb5.block _ (Array.getElem?_eq_some_iff.1 K4.out).1).trans K4.out)
  clear hb5
  go_wp2_with fail
  refine (HLB.out _ B5.out).mono ?_
  rintro e w6 ⟨rfl, hb6⟩
  have B6 := hide (B5.out.trans (hb6.mono B5.out.size))
  have K6 := (hb6.block _ (Array.getElem?_eq_some_iff.1 K5.out).1).trans K5.out
  have d0 : w6.cell? ⟨w2.heap.size, 0, none⟩ = some (.int .i64 0) := by rw [cell_of_row w6 _ 0 _ _ _ K6]; rfl
  have d1 : w6.cell? ⟨w2.heap.size, 1, none⟩ = some (.int .u8 0) := by rw [cell_of_row w6 _ 1 _ _ _ K6]; rfl
  have d2 : w6.cell? ⟨w2.heap.size, 2, none⟩ = some (.int .u8 0) := by rw [cell_of_row w6 _ 2 _ _ _ K6]; rfl
  clear hb6 K6
  go_wp2_with fail
  go_ret
  exact ⟨rfl, B6.out⟩
set_option maxRecDepth 100000 in
set_option maxHeartbeats 2000000 in
theorem tcounts_yes (n : Int) (ca cb k m : Nat) (ps : List Oq) (J : List Jt) (v sv : Value) (p : Jt) (on kd N0 : Int) (s : List UInt8) (w0 w : World) (h : YS w0 ca cb k ps J v w) (hs : ROp w sv ps) (hl : k ≤ 5864062014804) (h0 : ab n (vR J) = m + 1) (hp : J[m]? = some p) (hq : ps[p.2]? = some (on, kd, N0, s)) :
    Calls Tryd.prog 22 #[.pointer (some ⟨ca, 0, none⟩), .pointer (some ⟨cb, 0, none⟩), v, sv, .int .i64 n] w fun e w' => e = .returned (.bool true) ∧ Below w.heap.size w w' := by
  have HV := hide h.row.rv
  have hlen : (vR J).length ≤ k := h.lk.len
  have hth : th ps p.2 = (on, N0 % 256, kd % 256) := by unfold th; rw [hq]
  have HA : Hid (∀ W : World, Below w.heap.size w W → Calls Tryd.prog 44 #[.pointer (some ⟨ca, 0, none⟩), .int .i64 n] W fun e w' => e = .returned (.tuple #[.int .i64 (p.2 : Int), .bool true]) ∧ Below W.heap.size W w') := hide (fun W hb => by
    have := CI.atq_any n ca ca (vA J) W (h.a.later hb) (ris_A J h.lk.ris) (by rw [len_A, ← len_R]; omega)
    rw [(at_A1 h0 hp).1, (at_A1 h0 hp).2] at this; exact this)
  have HB : Hid (∀ W : World, Below w.heap.size w W → Calls Tryd.prog 45 #[.pointer (some ⟨cb, 0, none⟩), .int .i64 n] W fun e w' => e = .returned (.tuple #[.agg #[.int .i64 on, .int .u8 (N0 % 256), .int .u8 (kd % 256)], .bool true]) ∧ Below W.heap.size W w') := hide (fun W hb => by
    have := CT.atq_any n cb cb (vT ps J) W (h.b.later hb) (ris_T ps J h.lk.ris) (by rw [len_T, ← len_R]; omega)
    rw [(at_T1 h0 hp).1, (at_T1 h0 hp).2, hth] at this; exact this)
  have HC : Hid (∀ W : World, Below w.heap.size w W → Calls Tryd.prog 37 #[v, .int .i64 n] W fun e w' => e = .returned (.int .i64 (m : Int)) ∧ Below W.heap.size W w') := hide (fun W hb => by
    have := refCounts_any v (vR J) n W (h.row.later hb).rv h.lk.ris (by omega)
    rw [h0, bIS] at this; exact this)
  have HLA : Hid (∀ W : World, Below w.heap.size w W → Calls Tryd.prog 46 #[.pointer (some ⟨ca, 0, none⟩)] W fun e w' => e = .returned (.int .i64 ((vR J).length : Int)) ∧ Below W.heap.size W w') := hide (fun W hb => by
    have := CI.len_any ca ca (vA J) W (h.a.later hb)
    rw [len_A, ← len_R] at this; exact this)
  have HLB : Hid (∀ W : World, Below w.heap.size w W → Calls Tryd.prog 47 #[.pointer (some ⟨cb, 0, none⟩)] W fun e w' => e = .returned (.int .i64 ((vR J).length : Int)) ∧ Below W.heap.size W w') := hide (fun W hb => by
    have := CT.len_any cb cb (vT ps J) W (h.b.later hb)
    rw [len_T, ← len_R] at this; exact this)
  have hml : m < (vR J).length := by rw [len_R]; exact (List.getElem?_eq_some_iff.1 hp).1
  have hpk : p.2 ≤ 4611686018427387904 := by have := h.fit p (List.mem_of_getElem? hp); omega
  have HST := hide (fun W : World => step8_any p.2 W hpk)
  have hpr : (vR J)[m]? = some (p.1, tb p.2) := by unfold vR; rw [List.getElem?_map, hp]; rfl
  obtain ⟨a, cap, hv, hvc⟩ := HV.out
  subst hv
  obtain ⟨g, off, rfl, _, c2⟩ := hvc m _ hpr
  obtain ⟨sa, scap, rfl, hsc⟩ := hs
  obtain ⟨g', off', rfl, s1, s2, s3, _⟩ := hsc p.2 _ hq
  have hil : p.2 < ps.length := (List.getElem?_eq_some_iff.1 hq).1
  generalize tb p.2 = TB at *
  obtain ⟨pn, i⟩ := p
  dsimp only at *
  generalize (vR J).length = N at *
  have m0 : (0 : Int) ≤ (m : Int) := by omega
  have m1 : (m : Int) < (N : Int) := by omega
  have i0 : (0 : Int) ≤ (i : Int) := by omega
  have i1 : (i : Int) < (ps.length : Int) := by omega
  have md : decide ((m : Int) < 0) = false := by rw [decide_eq_false_iff_not]; omega
  have C2 := hide c2
  have S1 := hide s1
  have S2 := hide s2
  have S3 := hide s3
  generalize ps.length = M at *
  clear h HV h0 hlen hth hpr hvc hsc c2 s1 s2 s3 hq hp
  have hee := Tryd.eqlT on (N0 % 256) (kd % 256)
  go_enter Tryd.func22, Tryd.ntmps22
  go_wp2_with fail
  refine (HA.out _ (Below.refl _ _)).mono ?_
  rintro e w1 ⟨rfl, hb1⟩
  have B1 := hide hb1
  clear hb1
  go_wp2_with fail
  refine (HB.out _ B1.out).mono ?_
  rintro e w2 ⟨rfl, hb2⟩
  have B2 := hide (B1.out.trans (hb2.mono B1.out.size))
  clear hb2
  have B3 : Hid (Below w.heap.size w (w2.alloc (.cells #[.int .i64 on, .int .u8 (N0 % 256), .int .u8 (kd % 256)] 43))) := hide (B2.out.alloc B2.out.size _)
  have K3 : Hid ((w2.alloc (.cells #[.int .i64 on, .int .u8 (N0 % 256), .int .u8 (kd % 256)] 43)).heap[w2.heap.size]? = some (.cells #[.int .i64 on, .int .u8 (N0 % 256), .int .u8 (kd % 256)] 43 (0, 0))) := hide (alloc_newV w2 _)
  go_wp2_with (refine wpList_store_row rfl 43 _ _ rfl w2.heap.size #[.int .i64 on, .int .u8 (N0 % 256), .int .u8 (kd % 256)] rfl rfl _ _ (alloc_newV w2 _) Tryd.sizeThing rfl (by simp [Value.oneCell']) ?_; rw [World.setRow_alloc_new])
  generalize w2.alloc (.cells #[.int .i64 on, .int .u8 (N0 % 256), .int .u8 (kd % 256)] 43) = W3 at *
  refine (HC.out _ B3.out).mono ?_
  rintro e w4 ⟨rfl, hb4⟩
  have B4 := hide (B3.out.trans (hb4.mono B3.out.size))
  have K4 := hide ((hb4.block _ (Array.getElem?_eq_some_iff.1 K3.out).1).trans K3.out)
  clear hb4
  go_wp2_with fail
  refine (HLA.out _ B4.out).mono ?_
  rintro e w5 ⟨rfl, hb5⟩
  have B5 := hide (B4.out.trans (hb5.mono B4.out.size))
  have K5 := hide ((hb5.block _ (Array.getElem?_eq_some_iff.1 K4.out).1).trans K4.out)
  clear hb5
  go_wp2_with fail
  refine (HLB.out _ B5.out).mono ?_
  rintro e w6 ⟨rfl, hb6⟩
  have B6 := hide (B5.out.trans (hb6.mono B5.out.size))
  have K6 := (hb6.block _ (Array.getElem?_eq_some_iff.1 K5.out).1).trans K5.out
  have d0 : w6.cell? ⟨w2.heap.size, 0, none⟩ = some (.int .i64 on) := by rw [cell_of_row w6 _ 0 _ _ _ K6]; rfl
  have d1 : w6.cell? ⟨w2.heap.size, 1, none⟩ = some (.int .u8 (N0 % 256)) := by rw [cell_of_row w6 _ 1 _ _ _ K6]; rfl
  have d2 : w6.cell? ⟨w2.heap.size, 2, none⟩ = some (.int .u8 (kd % 256)) := by rw [cell_of_row w6 _ 2 _ _ _ K6]; rfl
  have y2 := (B6.out.cell (World.block_lt_of_cell? _ _ C2.out)).trans C2.out
  have z1 := (B6.out.cell (World.block_lt_of_cell? _ _ S1.out)).trans S1.out
  have z2 := (B6.out.cell (World.block_lt_of_cell? _ _ S2.out)).trans S2.out
  have z3 := (B6.out.cell (World.block_lt_of_cell? _ _ S3.out)).trans S3.out
  clear hb6 K6
  go_wp2_with fail
  refine (HST.out _).mono ?_
  rintro e w7 ⟨rfl, hw7⟩
  obtain rfl := hw7.symm
  clear hw7
  go_wp2_with fail
  go_quiet (fail)
  have B7 := hide (below_dq B6.out nq)
  go_wp2_with fail
  go_ret
  exact ⟨rfl, B7.out⟩
end Go.Proofs.YtechjcmolccdjaaDoor
