/-
  My own text: T12, T13 in one.
-/
import Derived.Test.YtpkgaidnpooahaaGreatDoorT11
import Derived.Lib.AppendStr
import Derived.Lib.UnsafeStr
namespace Go.Proofs.YtpkgaidnpooahaaGreatDoor
open Go.RowKit

/-- A sheet in block b: its builder holds these bytes, its size is n. -/
def Sh (w : World) (B b : Nat) (l : List UInt8) (n : Int) : Prop := B ≤ b ∧ ∃ p v, (p = .pointer none ∨ p = .pointer (some ⟨b, 0, none⟩)) ∧ (l = [] → v = .slice none 0 0) ∧ w.heap[b]? = some (.cells #[p, v, .int .i64 n] 44 (0, 0)) ∧ w.ownsRow B 5 1 v l.length (Lib.byteCells l)
/-- What a writing call keeps. -/
def Kp (B b : Nat) (w w' : World) : Prop := Below B w w' ∧ Lib.OthersKept 5 (some b) w w'
theorem Kp.refl (B b : Nat) (w : World) : Kp B b w w := ⟨Below.refl _ _, Lib.OthersKept.refl _ _ _⟩
theorem Kp.trans {B b : Nat} {w1 w2 w3 : World} (h : Kp B b w1 w2) (k : Kp B b w2 w3) : Kp B b w1 w3 := ⟨h.1.trans k.1, h.2.trans k.2⟩
theorem Kp.alloc {B b : Nat} {w1 w2 : World} (h : Kp B b w1 w2) (hB : B ≤ w2.heap.size) (o : Obj) : Kp B b w1 (w2.alloc o) := ⟨h.1.alloc hB o, h.2.alloc o⟩
theorem Kp.setCell {B b : Nat} {w1 w2 : World} (h : Kp B b w1 w2) (hB : B ≤ b) (j : Nat) (v : Value) : Kp B b w1 (w2.setCell ⟨b, j, none⟩ v) := ⟨h.1.setCell (p := ⟨b, j, none⟩) hB v, h.2.setCell ⟨b, j, none⟩ rfl v⟩
theorem owns_blk {B : Nat} {e : TypeId} {k : Nat} {v : Value} {n : Nat} {xs : List Value} {w w' : World} (h : w.ownsRow B e k v n xs) (hb : ∀ g, v.ownBlock = some g → w'.heap[g]? = w.heap[g]?) : w'.ownsRow B e k v n xs := by
  refine ⟨h.1, ?_⟩
  rcases h.2 with h2 | ⟨g, cap, cur, hv, hg, hh, h3⟩
  · exact .inl h2
  · exact .inr ⟨g, cap, cur, hv, hg, (hb g (by rw [hv]; rfl)).trans hh, h3⟩
theorem Sh.lt {w : World} {B b : Nat} {l : List UInt8} {n : Int} (h : Sh w B b l n) : b < w.heap.size := by
  obtain ⟨_, p, v, _, _, hb, _⟩ := h; exact (Array.getElem?_eq_some_iff.1 hb).1
theorem sheet_ne8 : (44 : TypeId) ≠ 5 := by decide
theorem set_heap {w : World} {b : Nat} {cs : Array Value} (hb : w.heap[b]? = some (.cells cs 44 (0, 0))) (j : Nat) (u : Value) (cs' : Array Value) (hcs : cs.setIfInBounds j u = cs') :
    (w.setCell ⟨b, j, none⟩ u).heap[b]? = some (.cells cs' 44 (0, 0)) := by
  rw [setCell_eq_setRow w b j _ _ _ u hb, hcs]; exact setRow_heap w b _ cs' _ _ hb
theorem set_owns {w : World} {B b : Nat} {cs : Array Value} {v : Value} {m : Nat} {xs : List Value} (hb : w.heap[b]? = some (.cells cs 44 (0, 0))) (ho : w.ownsRow B 5 1 v m xs) (j : Nat) (u : Value) :
    (w.setCell ⟨b, j, none⟩ u).ownsRow B 5 1 v m xs := by
  refine owns_blk ho (fun g hg => ?_)
  have hne := Lib.ownBlock_ne ho hb sheet_ne8
  exact Below.heap_setCell _ _ _ _ (fun e => hne (by rw [hg]; exact congrArg some e))
theorem Sh.size {w : World} {B b : Nat} {l : List UInt8} {n : Int} (h : Sh w B b l n) (m : Int) : Sh (w.setCell ⟨b, 2, none⟩ (.int .i64 m)) B b l m := by
  obtain ⟨hB, p, v, hp, hnil, hb, ho⟩ := h
  exact ⟨hB, p, v, hp, hnil, set_heap hb 2 (.int .i64 m) #[p, v, .int .i64 m] rfl, set_owns hb ho 2 _⟩
set_option maxRecDepth 100000 in
set_option maxHeartbeats 1000000 in
theorem copyUsed (b : Nat) (w : World) (v : Value) (n : Int) (hb : w.heap[b]? = some (.cells #[.pointer (some ⟨b, 0, none⟩), v, .int .i64 n] 44 (0, 0))) :
    Calls Tryz.prog 94 #[.pointer (some ⟨b, 0, none⟩)] w fun e w' => e = .returned (.tuple #[]) ∧ w' = w := by
  have c0 : w.cell? ⟨b, 0, none⟩ = some (.pointer (some ⟨b, 0, none⟩)) := by rw [cell_of_row _ _ 0 _ _ _ hb]; rfl
  obtain ⟨j, hj, _⟩ := Option.map_eq_some_iff.1 Tryz.sizeBld
  have hnq := Lib.run_neq_ptr_same (P := Tryz.prog) w ⟨b, 0, none⟩ Tryz.underlying40 hj
  clear hb
  go_enter Tryz.func94, Tryz.ntmps94
  go_wp2_with fail
  go_end0
  exact ⟨rfl, rfl⟩
theorem copy_any (B b : Nat) (l : List UInt8) (n : Int) (w : World) (h : Sh w B b l n) :
    Calls Tryz.prog 94 #[.pointer (some ⟨b, 0, none⟩)] w fun e w' => e = .returned (.tuple #[]) ∧ (∃ v, (l = [] → v = .slice none 0 0) ∧ w'.heap[b]? = some (.cells #[.pointer (some ⟨b, 0, none⟩), v, .int .i64 n] 44 (0, 0)) ∧ w'.ownsRow B 5 1 v l.length (Lib.byteCells l)) ∧ Kp B b w w' ∧ w'.heap.size = w.heap.size := by
  obtain ⟨hB, p, v, hp, hnil, hb, ho⟩ := h
  rcases hp with rfl | rfl
  · refine (copyFresh b w v n hb).mono ?_
    rintro e w' ⟨rfl, rfl⟩
    exact ⟨rfl, ⟨v, hnil, set_heap hb 0 _ _ rfl, set_owns hb ho 0 _⟩, (Kp.refl B b w).setCell hB 0 _, by simp⟩
  · refine (copyUsed b w v n hb).mono ?_
    rintro e w' ⟨rfl, rfl⟩
    exact ⟨rfl, ⟨v, hnil, hb, ho⟩, Kp.refl B b _, rfl⟩
theorem Tryz.infoBy : (Tryz.prog.info? 5).map (fun i => (i.zero, i.size, i.bytes)) = some (some (.int .u8 0), 1, 1) := by kernel_rfl
theorem info_parts {P : Program} {t : TypeId} {z : Value} {s b : Nat} (h : (P.info? t).map (fun i => (i.zero, i.size, i.bytes)) = some (some z, s, b)) : ∃ i, P.info? t = some i ∧ i.zero = some z ∧ i.size = s ∧ i.bytes = b := by
  obtain ⟨i, hi, he⟩ := Option.map_eq_some_iff.1 h
  simp only [Prod.mk.injEq] at he
  exact ⟨i, hi, he.1, he.2.1, he.2.2⟩
theorem owns_kind {w : World} {B : Nat} {e : TypeId} {v : Value} {n : Nat} {xs : List Value} (h : w.ownsRow B e 1 v n xs) : ∀ g, v.ownBlock = some g → ∃ c fz, w.heap[g]? = some (.cells c e fz) := by
  intro g hg
  rcases h.2 with ⟨rfl, _⟩ | ⟨g', cap, cur, rfl, _, hh, _⟩
  · simp [Value.ownBlock] at hg
  · simp [Value.ownBlock] at hg; subst hg; exact ⟨_, _, hh⟩
set_option maxRecDepth 100000 in
set_option maxHeartbeats 2000000 in
theorem write_any (B b : Nat) (l s : List UInt8) (n : Int) (w : World) (h : Sh w B b l n) (hlen : l.length + s.length ≤ 1099511627776) (hBw : B ≤ w.heap.size) :
    Calls Tryz.prog 72 #[.pointer (some ⟨b, 0, none⟩), .string ⟨s.toArray⟩] w fun e w' => (∃ v, e = .returned v) ∧ Sh w' B b (l ++ s) n ∧ Kp B b w w' := by
  obtain ⟨i0, hi, hz0, hz1, hz2⟩ := info_parts Tryz.infoBy
  have HCC := hide (copy_any B b l n w h)
  have hB : B ≤ b := h.1
  clear h
  go_enter Tryz.func72, Tryz.ntmps72
  go_wp2_with fail
  refine HCC.out.mono ?_
  rintro e w1 ⟨rfl, ⟨v, hnil, hbk, hown⟩, hk1, hsz⟩
  have HNL := hide hnil
  clear hnil
  have c1 : w1.cell? ⟨b, 1, none⟩ = some v := by rw [cell_of_row _ _ 1 _ _ _ hbk]; rfl
  have hne := Lib.ownBlock_ne hown hbk sheet_ne8
  have HS := hide hsz
  clear hsz
  go_wp2_with (at_builtin; refine Lib.wpList_append_own_string _ rfl _ _ 34 9 rfl B 5 i0 Tryz.underlying34 Tryz.underlying9 hi hz0 hz1 hz2 _ _ _ rfl hown ⟨s.toArray⟩ rfl ?c3 ?c4 ?c5 ?_)
  case c3 => rw [bytes_size]; unfold maxLen; omega
  case c4 => rw [bytes_size]; omega
  case c5 => rw [HS.out]; exact hBw
  intro v' w2 hown' hgrow hnn
  have HNN : Hid (l ++ s = [] → v' = .slice none 0 0) := hide (fun h => hnn.2 ⟨HNL.out (List.append_eq_nil_iff.1 h).1, by first | exact (List.append_eq_nil_iff.1 h).2 | (rw [bytes_size, (List.append_eq_nil_iff.1 h).2]; rfl)⟩)
  clear hnn
  have hlt : b < w1.heap.size := (Array.getElem?_eq_some_iff.1 hbk).1
  have hb2 : w2.heap[b]? = some (.cells #[.pointer (some ⟨b, 0, none⟩), v, .int .i64 n] 44 (0, 0)) := by
    rw [hgrow.block b hlt (fun e => hne e.symm)]; exact hbk
  have d1 : w2.cell? ⟨b, 1, none⟩ = some v := by rw [cell_of_row _ _ 1 _ _ _ hb2]; rfl
  have f1 : w2.frozen? ⟨b, 1, none⟩ = false := Lib.frozen_of_heap hb2 1
  have hown2 : w2.ownsRow B 5 1 v' (l ++ s).length (Lib.byteCells (l ++ s)) := by
    have e1 : (l ++ s).length = l.length + (⟨s.toArray⟩ : ByteArray).size := by rw [bytes_size, List.length_append]
    have e2 : Lib.byteCells (l ++ s) = Lib.byteCells l ++ Lib.strCells ⟨s.toArray⟩ := by simp [Lib.byteCells, Lib.strCells]
    rw [e1, e2]; exact hown'
  have HSH : Hid (Sh (w2.setCell ⟨b, 1, none⟩ v') B b (l ++ s) n) := hide ⟨hB, _, v', .inr rfl, HNN.out, set_heap hb2 1 v' #[.pointer (some ⟨b, 0, none⟩), v', .int .i64 n] rfl, set_owns hb2 hown2 1 _⟩
  have HK := hide (show Kp B b w w2 from ⟨hk1.1.grown hgrow (by rw [HS.out]; exact hBw) (fun k hk => (hown.lt k hk).1), hk1.2.grown hgrow (owns_kind hown)⟩)
  obtain ⟨ao, n', cap, hv'⟩ : ∃ ao n' cap, v' = .slice ao n' cap := by
    rcases hown'.2 with ⟨hv, _⟩ | ⟨g, cap, cur, hv, _⟩
    · exact ⟨_, _, _, hv⟩
    · exact ⟨_, _, _, hv⟩
  subst hv'
  clear hown hown' hgrow hbk hb2 hk1 hown2 c1
  go_wp2_with fail
  go_ret2
  exact ⟨⟨_, rfl⟩, HSH.out, HK.out.setCell hB 1 _⟩
/-- A sheet on which this text was put (what would make it too long is counted alone). -/
def ShT (w : World) (B b : Nat) (T : List UInt8) : Prop := ∃ l, Sh w B b l (T.length : Int) ∧ (T.length ≤ 1048576 → l = T) ∧ l.length ≤ 1048576
def strs (ps : List (List UInt8)) : Array Value := (ps.map fun p => Value.string ⟨p.toArray⟩).toArray
theorem strs_at {ps : List (List UInt8)} {k : Nat} {p : List UInt8} (h : ps[k]? = some p) : (strs ps)[k]? = some (.string ⟨p.toArray⟩) := by simp [strs, h]
theorem flat_take {ps : List (List UInt8)} {k : Nat} {p : List UInt8} (h : ps[k]? = some p) : (ps.take (k + 1)).flatten = (ps.take k).flatten ++ p := by
  rw [List.take_add_one, h]; simp
set_option maxRecDepth 100000 in
set_option maxHeartbeats 2000000 in
theorem put_any (B b g : Nat) (T : List UInt8) (ps : List (List UInt8)) (w : World) (h : ShT w B b T) (hg : w.heap[g]? = some (.cells (strs ps) 9 (0, 0))) (hgb : g ≠ b) (hlen : (T ++ ps.flatten).length ≤ 1099511627776) (hps : ps.length ≤ 100) (hBw : B ≤ w.heap.size) :
    Calls Tryz.prog 46 #[.pointer (some ⟨b, 0, none⟩), .slice (some ⟨g, 0, none⟩) ps.length ps.length] w fun e w' => e = .returned (.tuple #[]) ∧ ShT w' B b (T ++ ps.flatten) ∧ Kp B b w w' := by
  have HG := hide hg
  have HSH := hide h
  have hB : B ≤ b := by obtain ⟨l, h1, _⟩ := h; exact h1.1
  have HL := hide hlen
  clear hg h hlen
  go_enter Tryz.func46, Tryz.ntmps46
  go_wp2_with fail
  go_loopw [8] (fun i wr => ∃ k : Nat, k ≤ ps.length ∧ i = .int .i64 k ∧ Hid (ShT wr B b (T ++ (ps.take k).flatten)) ∧ Hid (Kp B b w wr)) (fun i _ => ps.length - (intOf i).toNat)
  case atStart => exact ⟨0, Nat.zero_le _, rfl, by simpa using HSH, hide (Kp.refl _ _ _)⟩
  case round =>
    obtain ⟨k, hk, rfl, HS, HK⟩ := hrel
    by_cases hlt : k < ps.length
    · obtain ⟨p, hp⟩ : ∃ p, ps[k]? = some p := ⟨_, List.getElem?_eq_getElem hlt⟩
      have HF := hide (flat_take hp)
      have hgr : wr.heap[g]? = some (.cells (strs ps) 9 (0, 0)) := HK.out.2 g _ HG.out (fun e => hgb (Option.some.inj e)) (fun c fz e => by cases e)
      have cg : wr.cell? ⟨g, k, none⟩ = some (.string ⟨p.toArray⟩) := by rw [cell_of_row _ _ k _ _ _ hgr]; exact strs_at hp
      have HTB : Hid ((T ++ (ps.take (k + 1)).flatten).length ≤ 1099511627776) := by
        show _ ≤ _
        have h1 := HL.out
        have h2 : (ps.take (k + 1)).flatten.length ≤ ps.flatten.length := by
          have e : ps.flatten = (ps.take (k + 1)).flatten ++ (ps.drop (k + 1)).flatten := by rw [← List.flatten_append, List.take_append_drop]
          rw [e, List.length_append]; omega
        simp only [List.length_append] at h1 ⊢; omega
      obtain ⟨U, HU⟩ : ∃ U, Hid (T ++ (ps.take k).flatten = U) := ⟨_, hide rfl⟩
      have HU2 : Hid (T ++ (ps.take (k + 1)).flatten = U ++ p) := by show _ = _; rw [HF.out, ← HU.out, List.append_assoc]
      rw [HU.out] at HS
      rw [HU2.out, List.length_append] at HTB
      have htb := HTB.out
      clear HF hp hgr
      obtain ⟨l, hsh, hlT, hlm⟩ := HS.out
      have HSH2 := hide hsh
      obtain ⟨_, pp, vv, hpp, _, hbk, _⟩ := hsh
      have c2 : wr.cell? ⟨b, 2, none⟩ = some (.int .i64 (U.length : Int)) := by rw [cell_of_row _ _ 2 _ _ _ hbk]; rfl
      have f2 : wr.frozen? ⟨b, 2, none⟩ = false := Lib.frozen_of_heap hbk 2
      have HSZ : Hid (Sh (wr.setCell ⟨b, 2, none⟩ (.int .i64 ((U.length : Int) + (p.length : Int)))) B b l ((U.length : Int) + (p.length : Int))) := hide (HSH2.out.size _)
      have HK2 := hide (HK.out.setCell hB 2 (.int .i64 ((U.length : Int) + (p.length : Int))))
      have HBS : Hid (B ≤ (wr.setCell ⟨b, 2, none⟩ (.int .i64 ((U.length : Int) + (p.length : Int)))).heap.size) := by show _ ≤ _; have := HK.out.1.size; simp; omega
      have d2 : (wr.setCell ⟨b, 2, none⟩ (.int .i64 ((U.length : Int) + (p.length : Int)))).cell? ⟨b, 2, none⟩ = some (.int .i64 ((U.length : Int) + (p.length : Int))) := by
        obtain ⟨_, _, _, _, _, hb2, _⟩ := HSZ.out
        rw [cell_of_row _ _ 2 _ _ _ hb2]; rfl
      have HLT := hide hlT
      have HLM := hide hlm
      clear hpp hbk HS HSH2 hlT hlm HK
      by_cases hm : U.length + p.length ≤ 1048576
      · have hmI : decide ((U.length : Int) + (p.length : Int) ≤ 1048576) = true := decide_eq_true (by omega)
        have HLU : Hid (l = U) := hide (HLT.out (by omega))
        have HW := hide (write_any B b l p ((U.length : Int) + (p.length : Int)) _ HSZ.out (by have := HLM.out; omega) HBS.out)
        go_wp2_with fail
        refine HW.out.mono ?_
        rintro e w1 ⟨⟨ev, rfl⟩, hs1, hk1⟩
        have HN : Hid (ShT w1 B b (T ++ (ps.take (k + 1)).flatten)) := by
          show ShT _ _ _ _
          rw [HU2.out]
          refine ⟨l ++ p, ?_, fun _ => by rw [HLU.out], ?_⟩
          · rw [List.length_append]; simpa using hs1
          · rw [List.length_append, HLU.out]; exact hm
        have HK3 := hide (HK2.out.trans hk1)
        clear hs1 hk1
        go_wp2_with fail
        go_roundw
        case rel => exact ⟨k + 1, by omega, by go_num, HN, HK3⟩
        case measure => simp [intOf]; omega
      · have hmI : decide ((U.length : Int) + (p.length : Int) ≤ 1048576) = false := decide_eq_false (by omega)
        have HN : Hid (ShT (wr.setCell ⟨b, 2, none⟩ (.int .i64 ((U.length : Int) + (p.length : Int)))) B b (T ++ (ps.take (k + 1)).flatten)) := by
          show ShT _ _ _ _
          rw [HU2.out]
          refine ⟨l, ?_, fun h => ?_, HLM.out⟩
          · rw [List.length_append]; simpa using HSZ.out
          · rw [List.length_append] at h; omega
        go_wp2_with fail
        go_roundw
        case rel => exact ⟨k + 1, by omega, by go_num, HN, HK2⟩
        case measure => simp [intOf]; omega
    · have hk' : k = ps.length := by omega
      subst hk'
      rw [List.take_length] at HS
      go_wp2_with fail
      go_end0
      exact ⟨rfl, HS.out, HK.out⟩
end Go.Proofs.YtpkgaidnpooahaaGreatDoor
namespace Go.Proofs.YtpkgaidnpooahaaGreatDoor
open Go.RowKit

theorem owns_alloc {B : Nat} {e : TypeId} {k : Nat} {v : Value} {n : Nat} {xs : List Value} {w : World} (h : w.ownsRow B e k v n xs) (o : Obj) : (w.alloc o).ownsRow B e k v n xs := h.alloc o
theorem Sh.later {w w' : World} {B b : Nat} {l : List UInt8} {n : Int} (h : Sh w B b l n) (hb : Below w.heap.size w w') : Sh w' B b l n := by
  obtain ⟨hB, p, v, hp, hn, hk, ho⟩ := h
  have hlt : b < w.heap.size := (Array.getElem?_eq_some_iff.1 hk).1
  refine ⟨hB, p, v, hp, hn, (hb.block b hlt).trans hk, owns_blk ho (fun g hg => ?_)⟩
  obtain ⟨c, fz, hc⟩ := owns_kind ho g hg
  exact hb.block g (Array.getElem?_eq_some_iff.1 hc).1
theorem ShT.later {w w' : World} {B b : Nat} {T : List UInt8} (h : ShT w B b T) (hb : Below w.heap.size w w') : ShT w' B b T := by
  obtain ⟨l, h1, h2, h3⟩ := h; exact ⟨l, h1.later hb, h2, h3⟩
theorem ShT.alloc {w : World} {B b : Nat} {T : List UInt8} (h : ShT w B b T) (o : Obj) : ShT (w.alloc o) B b T := h.later ((Below.refl w.heap.size w).alloc (Nat.le_refl _) o)
theorem ShT.lt {w : World} {B b : Nat} {T : List UInt8} (h : ShT w B b T) : b < w.heap.size := by obtain ⟨l, h1, _⟩ := h; exact h1.lt
theorem Kp.of_below {w w' : World} {B b : Nat} (hB : B ≤ w.heap.size) (h : Below w.heap.size w w') : Kp B b w w' :=
  ⟨h.mono hB, fun k _ hk _ _ => (h.block k (Array.getElem?_eq_some_iff.1 hk).1).trans hk⟩
theorem Ix.kp {w w' : World} {B b g : Nat} {i : Itm} {v : Value} (h : Ix w g i v) (hk : Kp B b w w') (hg : g ≠ b) : Ix w' g i v :=
  hk.2 g _ h (fun e => hg (Option.some.inj e)) (fun c fz e => by cases e)
theorem alloc2_new (w : World) (a b : Obj) : ((w.alloc a).alloc b).heap[w.heap.size + 1]? = some b := by
  have := alloc_new (w.alloc a) b
  simpa using this
set_option maxRecDepth 100000 in
set_option maxHeartbeats 4000000 in
theorem field_any (B b : Nat) (T : List UInt8) (i : Itm) (v : Value) (w : World) (h : ShT w B b T) (hBw : B ≤ w.heap.size) (hlen : (T ++ fT i).length ≤ 1099511627776) :
    Calls Tryz.prog 45 #[.pointer (some ⟨b, 0, none⟩), .agg (iC i v)] w fun e w' => e = .returned (.tuple #[]) ∧ ShT w' B b (T ++ fT i) ∧ Kp B b w w' := by
  have hbw := h.lt
  have HL : Hid (T.length + (6 + i.tag.length + i.qual.length + i.text.length) ≤ 1099511627776 ∨ i.qual = []) := by
    show _ ∨ _
    unfold fT at hlen
    cases hq : i.qual with
    | nil => exact .inr rfl
    | cons a r => rw [hq] at hlen; simp at hlen; left; simp; omega
  have HL2 : Hid (T.length + (3 + i.tag.length + i.text.length) ≤ 1099511627776) := by
    show _ ≤ _
    unfold fT at hlen
    rw [List.length_append] at hlen
    simp only [List.length_append, List.length_cons, List.length_nil] at hlen
    omega
  have X0 := hide (Ix.new w i v)
  have S0 := hide (h.alloc (.cells (iC i v) 25))
  have K0 := hide ((Kp.refl B b w).alloc hBw (.cells (iC i v) 25))
  have z0 := X0.out.tag trivial
  have HP1 := hide (put_any B b (w.heap.size + 1) T [[58], i.tag, [58]] ((w.alloc (.cells (iC i v) 25)).alloc (.cells (strs [[58], i.tag, [58]]) 9)) (S0.out.alloc _) (alloc2_new w _ _) (by omega) (by have := HL2.out; simp; omega) (by simp) (by simp; omega))
  have X1 := hide (X0.out.alloc (.cells (strs [[58], i.tag, [58]]) 9))
  have K1 := hide (K0.out.alloc (by simp; omega) (.cells (strs [[58], i.tag, [58]]) 9))
  clear h hlen
  go_enter Tryz.func45, Tryz.ntmps45
  go_wp2_with fail
  refine HP1.out.mono ?_
  rintro e w1 ⟨rfl, hs1, hk1⟩
  have S1 : Hid (ShT w1 B b (T ++ ([58] ++ i.tag ++ [58]))) := by simpa using hide hs1
  have X2 := hide (X1.out.kp hk1 (by omega))
  have K2 := hide (K1.out.trans hk1)
  have HB1 : Hid (B ≤ w1.heap.size) := by show _ ≤ _; have := K2.out.1.size; omega
  have HN1 : Hid (w.heap.size < w1.heap.size) := hide X2.out.lt
  clear hs1 hk1 X1 K1 HP1 S0 K0 X0 z0
  have hbn : b < w1.heap.size := S1.out.lt
  have zq := X2.out.qual trivial
  have zx := X2.out.text trivial
  cases hqe : i.qual.isEmpty
  · have hqb := bytes_nil_f hqe
    have HL3 : Hid (T.length + (6 + i.tag.length + i.qual.length + i.text.length) ≤ 1099511627776) := hide (HL.out.resolve_right (fun e => by rw [e] at hqe; cases hqe))
    have HP2 := hide (put_any B b w1.heap.size (T ++ ([58] ++ i.tag ++ [58])) [[58], i.qual, [47, 47]] (w1.alloc (.cells (strs [[58], i.qual, [47, 47]]) 9)) (S1.out.alloc _) (alloc_new w1 _) (by omega) (by have := HL3.out; simp; omega) (by simp) (by have := HB1.out; simp; omega))
    have X3 := hide (X2.out.alloc (.cells (strs [[58], i.qual, [47, 47]]) 9))
    have K3 := hide (K2.out.alloc HB1.out (.cells (strs [[58], i.qual, [47, 47]]) 9))
    go_wp2_with fail
    refine HP2.out.mono ?_
    rintro e w2 ⟨rfl, hs2, hk2⟩
    have S2 : Hid (ShT w2 B b (T ++ ([58] ++ i.tag ++ [58] ++ ([58] ++ i.qual ++ [47, 47])))) := by simpa using hide hs2
    have X4 := hide (X3.out.kp hk2 (by have := HN1.out; omega))
    have K4 := hide (K3.out.trans hk2)
    have HB2 : Hid (B ≤ w2.heap.size) := by show _ ≤ _; have := K4.out.1.size; omega
    clear hs2 hk2 X3 K3 HP2 zq zx
    have hbn2 : b < w2.heap.size := S2.out.lt
    have zx := X4.out.text trivial
    have HP3 := hide (put_any B b w2.heap.size (T ++ ([58] ++ i.tag ++ [58] ++ ([58] ++ i.qual ++ [47, 47]))) [i.text, [10]] (w2.alloc (.cells (strs [i.text, [10]]) 9)) (S2.out.alloc _) (alloc_new w2 _) (by omega) (by have := HL3.out; simp; omega) (by simp) (by have := HB2.out; simp; omega))
    have K5 := hide (K4.out.alloc HB2.out (.cells (strs [i.text, [10]]) 9))
    go_wp2_with fail
    refine HP3.out.mono ?_
    rintro e w3 ⟨rfl, hs3, hk3⟩
    have S3 : Hid (ShT w3 B b (T ++ fT i)) := by
      have e : T ++ fT i = T ++ ([58] ++ i.tag ++ [58] ++ ([58] ++ i.qual ++ [47, 47])) ++ [i.text, [10]].flatten := by unfold fT; rw [hqe]; simp
      rw [e]; exact hide hs3
    have K6 := hide (K5.out.trans hk3)
    clear hs3 hk3
    go_wp2_with fail
    go_end0
    exact ⟨rfl, S3.out, K6.out⟩
  · have hqb := bytes_nil_t hqe
    have HP3 := hide (put_any B b w1.heap.size (T ++ ([58] ++ i.tag ++ [58])) [i.text, [10]] (w1.alloc (.cells (strs [i.text, [10]]) 9)) (S1.out.alloc _) (alloc_new w1 _) (by omega) (by have := HL2.out; simp; omega) (by simp) (by have := HB1.out; simp; omega))
    have K5 := hide (K2.out.alloc HB1.out (.cells (strs [i.text, [10]]) 9))
    go_wp2_with fail
    refine HP3.out.mono ?_
    rintro e w3 ⟨rfl, hs3, hk3⟩
    have S3 : Hid (ShT w3 B b (T ++ fT i)) := by
      have e : T ++ fT i = T ++ ([58] ++ i.tag ++ [58]) ++ [i.text, [10]].flatten := by unfold fT; rw [hqe]; simp
      rw [e]; exact hide hs3
    have K6 := hide (K5.out.trans hk3)
    clear hs3 hk3
    go_wp2_with fail
    go_end0
    exact ⟨rfl, S3.out, K6.out⟩
end Go.Proofs.YtpkgaidnpooahaaGreatDoor
