/-
  My own text: the items of a text, read.
-/
import Derived.Test.YtpkgaidnpooahaaGreatDoorQM
import Derived.Test.YtpkgaidnpooahaaGreatDoorQA2
namespace Go.Proofs.YtpkgaidnpooahaaGreatDoor
open Go.RowKit

theorem own_len (T : List UInt8) (b : Nat) : (ownL T b).length ≤ T.length - b := by
  have := (cut_len (T.drop b) [10]).1
  rw [List.length_drop] at this; exact this
theorem nxt_gt {T : List UInt8} {b : Nat} (h : b < T.length) : b < nxtB T b ∧ nxtB T b ≤ T.length := by
  unfold nxtB; omega
def fnv (p t q : Nat) : Value := .func (Fn.func 63) #[] #[.pointer (some ⟨p, 0, none⟩), .pointer (some ⟨t, 0, none⟩), .pointer (some ⟨q, 0, none⟩)]
def Out (p t q : Nat) (T : List UInt8) (w w' : World) (e : Ending) (b0 : Nat) : Res → Prop
  | .ok l n b => ∃ a cap, e = .returned (.slice a l.length cap) ∧ PA w' (fun x => w.heap.size ≤ x ∧ x < w'.heap.size) (.slice a l.length cap) l ∧ NS w' p t q T n b ∧ b ≤ T.length ∧ n + (T.length - b) ≤ 2097152 ∧ b0 ≤ b
  | .bad no n at_ => e = gone no n at_
def numAt (w : World) (p : Nat) : Nat := match w.cell? ⟨p, 0, none⟩ with
  | some (.int _ x) => x.toNat
  | _ => 0
/-- Where a reading of items stands. -/
structure St (w : World) (p t q : Nat) (T : List UInt8) (B : Nat) (wr : World) (v : Value) (l : List Tr) (V : List Value) (n b : Nat) : Prop where
  iw : IWA wr B v l V
  ns : NS wr p t q T n b
  mv : Mv p q w wr
  box : Bk wr w.heap.size (rdC T (fnv p t q)) 71
  ble : b ≤ T.length
  nle : n + (T.length - b) ≤ 2097152
theorem St.next {w wr w1 : World} {p t q B : Nat} {T : List UInt8} {v : Value} {l : List Tr} {V : List Value} {n b : Nat} (h : St w p t q T B wr v l V n b) (hp : p < w.heap.size) (hq : q < w.heap.size) (hB : B = w.heap.size + 1) (hlt : b < T.length) (hN : NS w1 p t q T (n + 1) (nxtB T b)) (hm : Mv p q wr w1) : St w p t q T B w1 v l V (n + 1) (nxtB T b) :=
  ⟨h.iw.mv hm (by omega) (by omega), hN, h.mv.trans hm, h.box.mv hm (by omega) (by omega), (nxt_gt hlt).2, by have := (nxt_gt hlt); have := h.nle; omega⟩
theorem St.later {w wr w1 : World} {p t q B : Nat} {T : List UInt8} {v : Value} {l : List Tr} {V : List Value} {n b : Nat} (h : St w p t q T B wr v l V n b) (hb : Below wr.heap.size wr w1) : St w p t q T B w1 v l V n b :=
  ⟨h.iw.later hb, h.ns.later hb, h.mv.trans (Mv.of hb), h.box.later hb, h.ble, h.nle⟩
theorem chk_none {n : Lin} (h : chkE n = none) : n.en = true ∧ 0 < n.tx.length := by
  unfold chkE at h
  cases he : n.en
  · rw [he] at h; simp at h
  · rw [he] at h
    refine ⟨rfl, ?_⟩
    cases ht : n.tx with
    | nil => rw [ht] at h; simp [fstNot] at h
    | cons a r => simp
/-- What a line that check lets through comes to. -/
def stp (T : List UInt8) (f d : Nat) (nm : List UInt8) (l : List Tr) (n nb : Nat) (tx : List UInt8) : Res :=
  if tx.getD 0 0 ≠ 58 then
    (if tx.getD 0 0 = 45 then .bad 4 n 1
     else match l.getLast? with
       | none => .bad 4 n 1
       | some a => if a.itm.tag.isEmpty then .bad 4 n 1 else rd T f d nm (l.dropLast ++ [a.withText (a.itm.text ++ 10 :: tx)]) (n + 1) nb)
  else if !(Lib.cut (tx.drop 1) [58]).2.2 then .bad 4 n (tx.length + 1)
  else if (Lib.cut (tx.drop 1) [58]).1 = r16 then
    (if 8 ≤ d then .bad 5 n 1
     else if !nameB (Lib.cut (tx.drop 1) [58]).2.1 then .bad 4 n (tx.length - (Lib.cut (tx.drop 1) [58]).2.1.length + 1)
     else match rd T f (d + 1) (Lib.cut (tx.drop 1) [58]).2.1 [] (n + 1) nb with
       | .bad no m at_ => .bad no m at_
       | .ok k n' b' => rd T f d nm (l ++ [.mk ⟨[], [], [], (Lib.cut (tx.drop 1) [58]).2.1⟩ k]) n' b')
  else if (Lib.cut (tx.drop 1) [58]).1 = s16 then
    (if d = 0 then .bad 10 n 1
     else if (Lib.cut (tx.drop 1) [58]).2.1 ≠ nm then .bad 4 n (tx.length - (Lib.cut (tx.drop 1) [58]).2.1.length + 1)
     else .ok l (n + 1) nb)
  else match fldO (Lib.cut (tx.drop 1) [58]).1 (Lib.cut (tx.drop 1) [58]).2.1 tx.length with
    | some (no, at_) => .bad no n at_
    | none => rd T f d nm (l ++ [.mk (fldI (Lib.cut (tx.drop 1) [58]).1 (Lib.cut (tx.drop 1) [58]).2.1) []]) (n + 1) nb
theorem rd_stp {T : List UInt8} {f d : Nat} {nm : List UInt8} {l : List Tr} {n b : Nat} (hb : b ≠ T.length) (hc : chkE ⟨n, b, ownL T b, endL T b⟩ = none) : rd T (f + 1) d nm l n b = stp T f d nm l n (nxtB T b) (ownL T b) := by
  rw [rd, if_neg hb, hc]; rfl
theorem stp_dash {T : List UInt8} {f d : Nat} {nm : List UInt8} {l : List Tr} {n nb : Nat} {tx : List UInt8} (h1 : tx.getD 0 0 ≠ 58) (h2 : tx.getD 0 0 = 45) : stp T f d nm l n nb tx = .bad 4 n 1 := by
  unfold stp; rw [if_pos h1, if_pos h2]
theorem stp_none {T : List UInt8} {f d : Nat} {nm : List UInt8} {n nb : Nat} {tx : List UInt8} (h1 : tx.getD 0 0 ≠ 58) (h2 : tx.getD 0 0 ≠ 45) : stp T f d nm [] n nb tx = .bad 4 n 1 := by
  unfold stp; rw [if_pos h1, if_neg h2]; rfl
theorem stp_block {T : List UInt8} {f d : Nat} {nm : List UInt8} {l : List Tr} {a : Tr} {n nb : Nat} {tx : List UInt8} (h1 : tx.getD 0 0 ≠ 58) (h2 : tx.getD 0 0 ≠ 45) (h3 : a.itm.tag.isEmpty = true) : stp T f d nm (l ++ [a]) n nb tx = .bad 4 n 1 := by
  unfold stp; rw [if_pos h1, if_neg h2]; simp [h3]
theorem stp_more {T : List UInt8} {f d : Nat} {nm : List UInt8} {l : List Tr} {a : Tr} {n nb : Nat} {tx : List UInt8} (h1 : tx.getD 0 0 ≠ 58) (h2 : tx.getD 0 0 ≠ 45) (h3 : a.itm.tag.isEmpty = false) : stp T f d nm (l ++ [a]) n nb tx = rd T f d nm (l ++ [a.withText (a.itm.text ++ 10 :: tx)]) (n + 1) nb := by
  unfold stp; rw [if_pos h1, if_neg h2]; simp [h3]
theorem stp_cut {T : List UInt8} {f d : Nat} {nm : List UInt8} {l : List Tr} {n nb : Nat} {tx : List UInt8} (h1 : tx.getD 0 0 = 58) (h2 : (Lib.cut (tx.drop 1) [58]).2.2 = false) : stp T f d nm l n nb tx = .bad 4 n (tx.length + 1) := by
  unfold stp; rw [if_neg (fun h => h h1), h2]; rfl
/-- The line's tag and rest, the rest of the step. -/
def stq (T : List UInt8) (f d : Nat) (nm : List UInt8) (l : List Tr) (n nb len : Nat) (tag rest : List UInt8) : Res :=
  if tag = r16 then
    (if 8 ≤ d then .bad 5 n 1
     else if !nameB rest then .bad 4 n (len - rest.length + 1)
     else match rd T f (d + 1) rest [] (n + 1) nb with
       | .bad no m at_ => .bad no m at_
       | .ok k n' b' => rd T f d nm (l ++ [.mk ⟨[], [], [], rest⟩ k]) n' b')
  else if tag = s16 then
    (if d = 0 then .bad 10 n 1
     else if rest ≠ nm then .bad 4 n (len - rest.length + 1)
     else .ok l (n + 1) nb)
  else match fldO tag rest len with
    | some (no, at_) => .bad no n at_
    | none => rd T f d nm (l ++ [.mk (fldI tag rest) []]) (n + 1) nb
theorem stp_stq {T : List UInt8} {f d : Nat} {nm : List UInt8} {l : List Tr} {n nb : Nat} {tx : List UInt8} (h1 : tx.getD 0 0 = 58) (h2 : (Lib.cut (tx.drop 1) [58]).2.2 = true) : stp T f d nm l n nb tx = stq T f d nm l n nb tx.length (Lib.cut (tx.drop 1) [58]).1 (Lib.cut (tx.drop 1) [58]).2.1 := by
  unfold stp; rw [if_neg (fun h => h h1), h2]; rfl
theorem setRow_other (w : World) (g : Nat) (cs : Array Value) (k : Nat) (h : k ≠ g) : (w.setRow g cs).heap[k]? = w.heap[k]? := by
  simp only [World.setRow, Array.getElem?_modify]
  rw [if_neg (fun e => h e.symm)]
theorem Mv.row {p q : Nat} {a b : World} (h : Mv p q a b) {g : Nat} (hg : a.heap.size ≤ g) (cs : Array Value) : Mv p q a (b.setRow g cs) :=
  ⟨h.os, h.tape, h.output, by rw [size_setRow]; exact h.size, fun k hk h1 h2 => (setRow_other b g cs k (by omega)).trans (h.block k hk h1 h2)⟩
theorem St.step {w wr w1 : World} {p t q B : Nat} {T : List UInt8} {v : Value} {l : List Tr} {V : List Value} {n b n' b' : Nat} (h : St w p t q T B wr v l V n b) (hp : p < w.heap.size) (hq : q < w.heap.size) (hB : B = w.heap.size + 1) (hm : Mv p q wr w1) (hN : NS w1 p t q T n' b') (hb : b' ≤ T.length) (hn : n' + (T.length - b') ≤ 2097152) : St w p t q T B w1 v l V n' b' :=
  ⟨h.iw.mv hm (by omega) (by omega), hN, h.mv.trans hm, h.box.mv hm (by omega) (by omega), hb, hn⟩
theorem St.more {w wr w1 : World} {p t q B g cap : Nat} {T : List UInt8} {l : List Tr} {a : Tr} {V : List Value} {u : Value} {n b : Nat} (h : St w p t q T B wr (.slice (some ⟨g, 0, none⟩) (l.length + 1) cap) (l ++ [a]) (V ++ [u]) n b) (hp : p < w.heap.size) (ht : t < w.heap.size) (hq : q < w.heap.size) (hB : B = w.heap.size + 1) (hb : Below wr.heap.size wr w1) (s : List UInt8) :
    St w p t q T B (w1.setCell ⟨g, l.length * 5 + 2, none⟩ (.string ⟨s.toArray⟩)) (.slice (some ⟨g, 0, none⟩) (l.length + 1) cap) (l ++ [a.withText s]) (V ++ [u]) n b := by
  have hg := (own_ltq h.iw.row g rfl).1
  have h1 := h.later hb
  exact ⟨h1.iw.text s, ⟨h1.ns.beg.other _ _ (by omega), h1.ns.txt.other _ _ (by omega), h1.ns.num.other _ _ (by omega)⟩, ⟨h1.mv.os, h1.mv.tape, h1.mv.output, by simpa [World.setCell] using h1.mv.size, fun k hk e1 e2 => (Below.heap_setCell _ _ _ k (by show k ≠ g; omega)).trans (h1.mv.block k hk e1 e2)⟩, h1.box.other _ _ (by omega), h1.ble, h1.nle⟩
theorem St.snoc {w w0 wr w1 : World} {p t q B lo n0 b0 : Nat} {T : List UInt8} {v v' u : Value} {l : List Tr} {V : List Value} {a : Tr} {n b : Nat} (h : St w p t q T B wr v l V n b) (hp : p < w.heap.size) (ht : t < w.heap.size) (hq : q < w.heap.size) (hB : B = w.heap.size + 1) (hO : w1.ownsRow B 25 5 v' (l.length + 1) (ic l V ++ (iC a.itm u).toList)) (hg : wr.grownBy w1 v.ownBlock) (hr : ∀ x, v'.ownBlock = some x → v.ownBlock = some x ∨ wr.heap.size ≤ x)
    (h0 : St w p t q T B w0 v l V n0 b0) (hk0 : ∀ g, B ≤ g → g < w0.heap.size → wr.heap[g]? = w0.heap[g]?) (hs0 : w0.heap.size ≤ wr.heap.size) (hw0 : w0.heap.size ≤ lo) (hlo : B ≤ lo) (hv : ∀ x, v.ownBlock = some x → x < lo) (hu : PA wr (fun x => lo ≤ x ∧ x < wr.heap.size) u a.kids) : St w p t q T B w1 v' (l ++ [a]) (V ++ [u]) n b := by
  have hk : ∀ k, k < wr.heap.size → k < B → w1.heap[k]? = wr.heap[k]? := fun k h1 h2 => hg.block k h1 (fun e => by have := (own_ltq h.iw.row k e.symm).1; omega)
  have hmv : Mv p q w w1 := ⟨hg.os.trans h.mv.os, hg.tape.trans h.mv.tape, hg.output.trans h.mv.output, Nat.le_trans h.mv.size hg.size, fun k hk' e1 e2 => (hk k (Nat.lt_of_lt_of_le hk' h.mv.size) (by omega)).trans (h.mv.block k hk' e1 e2)⟩
  exact ⟨h.iw.snoc h0.iw hk0 hs0 hw0 hO (fun x hx hne => hg.block x hx (fun e => hne e.symm)) hg.size hr hlo hv hu, ⟨(hk p h.ns.beg.lt (by omega)).trans h.ns.beg, (hk t h.ns.txt.lt (by omega)).trans h.ns.txt, (hk q h.ns.num.lt (by omega)).trans h.ns.num⟩, hmv, (hk _ h.box.lt (by omega)).trans h.box, h.ble, h.nle⟩
theorem St.num {w wr : World} {p t q B : Nat} {T : List UInt8} {v : Value} {l : List Tr} {V : List Value} {n b : Nat} (h : St w p t q T B wr v l V n b) : numAt wr p = b := by
  unfold numAt; rw [h.ns.beg.cell 0]; simp
theorem St.val {w wr : World} {p t q B : Nat} {T : List UInt8} {v : Value} {l : List Tr} {V : List Value} {n b : Nat} (h : St w p t q T B wr v l V n b) : ∃ a cap, v = .slice a l.length cap := by
  obtain ⟨a, cap, hv, _⟩ := h.iw.done.1
  exact ⟨a, cap, hv⟩
theorem St.last {w wr : World} {p t q B : Nat} {T : List UInt8} {v : Value} {l : List Tr} {a : Tr} {V : List Value} {n b : Nat} (h : St w p t q T B wr v (l ++ [a]) V n b) : ∃ g cap V' u, v = .slice (some ⟨g, 0, none⟩) (l.length + 1) cap ∧ V = V' ++ [u] ∧ V'.length = l.length ∧ g < wr.heap.size ∧ wr.rangeAt g (l.length * 5) (iC a.itm u).toList ∧ wr.frozen? ⟨g, l.length * 5 + 2, none⟩ = false := by
  have hl := h.iw.len
  rw [List.length_append] at hl
  obtain ⟨V', u, rfl⟩ : ∃ V' u, V = V' ++ [u] := by
    rcases List.eq_nil_or_concat V with rfl | ⟨V', u, rfl⟩
    · simp at hl
    · exact ⟨V', u, by simp⟩
  have hl2 : V'.length = l.length := by simp at hl; omega
  have hr := h.iw.row
  rw [List.length_append] at hr
  have hr2 := hr.2
  rcases hr2 with ⟨_, h0⟩ | ⟨g, cap, cur, rfl, hb, hh, hn2, hn3⟩
  · simp at h0
  · refine ⟨g, cap, V', u, rfl, rfl, hl2, (Array.getElem?_eq_some_iff.1 hh).1, fun j x hj => ?_, ?_⟩
    · have hc := World.ownsRow.cells hr rfl (l.length * 5 + j) x (by
        rw [ic_snoc _ _ _ _ hl2.symm, List.getElem?_append_right (by rw [ic_len _ _ hl2.symm]; omega), ic_len _ _ hl2.symm, Nat.add_sub_cancel_left]; exact hj)
      rw [Addr.add_lit, Nat.zero_add] at hc; exact hc
    · exact frozen_of_row _ _ _ _ _ hh
theorem Tryz.sizeLn : (Tryz.prog.info? 98).map (·.size) = some 4 := by kernel_rfl
theorem rd_line {T : List UInt8} {f d : Nat} {nm : List UInt8} {l : List Tr} {n b : Nat} {no at_ : Int} (hb : b ≠ T.length) (hc : chkE ⟨n, b, ownL T b, endL T b⟩ = some (no, at_)) : rd T (f + 1) d nm l n b = .bad no n at_ := by
  rw [rd, if_neg hb, hc]
set_option maxRecDepth 100000 in
set_option maxHeartbeats 4000000 in
theorem ritems_any (p t q : Nat) (T : List UInt8) (hA : Apt p t q) (hTl : T.length ≤ 1048576) : ∀ (F d : Nat) (nm : List UInt8) (n0 b0 : Nat) (w : World), F ≤ 1048577 → d ≤ 8 → NS w p t q T n0 b0 → b0 ≤ T.length → n0 + (T.length - b0) ≤ 2097152 → ML w → (∀ a b c, rd T F d nm [] n0 b0 = .bad a b c → a ≠ 0) →
    Calls Tryz.prog 41 #[.agg (rdC T (fnv p t q)), .int .i64 (d : Int), .string ⟨nm.toArray⟩] w fun e w' => Mv p q w w' ∧ Out p t q T w w' e b0 (rd T F d nm [] n0 b0) := by
  intro F
  induction F using Nat.strongRecOn with
  | ind F ih =>
    intro d nm n0 b0 w hFm hd hN hb hn hm hF
    have IH := hide ih
    have HFM := hide hFm
    have HD8 := hide hd
    have HM := hide hm
    have HF := hide hF
    have HA := hide hA
    have HPL : Hid (p < w.heap.size ∧ t < w.heap.size ∧ q < w.heap.size) := hide ⟨hN.beg.lt, hN.txt.lt, hN.num.lt⟩
    have S0 : Hid (St w p t q T (w.heap.size + 1) (w.alloc (.cells (rdC T (fnv p t q)) 71)) (.slice none 0 0) [] [] n0 b0) := hide ⟨IWA.nil _ _, hN.alloc _, Mv.of ((Below.refl _ _).alloc (Nat.le_refl _) _), alloc_new w _, hb, hn⟩
    clear ih hm hF hA hN hFm
    go_enter Tryz.func41, Tryz.ntmps41
    go_wp2_with fail
    go_loopw [7] (fun v wr => ∃ f l V n b, Hid (l.length + f ≤ F ∧ b0 ≤ b) ∧ Hid (TI T l b) ∧ Hid (rd T F d nm [] n0 b0 = rd T f d nm l n b) ∧ Hid (St w p t q T (w.heap.size + 1) wr v l V n b)) (fun _ wr => T.length - numAt wr p)
    case atStart => exact ⟨F, [], [], n0, b0, hide ⟨by simp, Nat.le_refl _⟩, hide (TI.nil _ _), hide rfl, S0⟩
    case round =>
      obtain ⟨f, l, V, n, b, HFL, HTI, HRD, HS⟩ := hrel
      have r1 : wr.cell? ⟨w.heap.size, 1, none⟩ = some (fnv p t q) := by rw [HS.out.box.cell 1]; rfl
      unfold fnv at r1
      obtain ⟨f', rfl⟩ : ∃ f', f = f' + 1 := by
        cases f with
        | zero => exact absurd rfl (HF.out 0 0 0 (by rw [HRD.out]; rfl))
        | succ f' => exact ⟨f', rfl⟩
      by_cases hbe : b = T.length
      · subst hbe
        have HN := hide (next_end p t q T n wr HS.out.ns)
        unfold lnC at HN
        go_wp2_with fail
        refine HN.out.mono ?_
        rintro e w1 ⟨rfl, hb1⟩
        have B1 := hide hb1
        clear hb1 HN
        by_cases hd0 : d = 0
        · have HRR : Hid (rd T F d nm [] n0 b0 = .ok l n T.length) := by show _ = _; rw [HRD.out]; unfold rd; rw [if_pos rfl, if_neg (by omega)]
          have HR := hide (fun W : World => refuse_no ⟨n, 0, [], false⟩ 2 1 W)
          unfold lnC at HR
          have hdd : decide (0 < (d : Int)) = false := decide_eq_false (by omega)
          have hddn : decide (0 < d) = false := decide_eq_false (by omega)
          obtain ⟨a, cap, hv, hpt⟩ := HS.out.iw.done.1
          have HPT : Hid (PA wr (fun x => w.heap.size + 1 ≤ x ∧ x < wr.heap.size) u7 l) := hide HS.out.iw.done
          subst hv
          clear hpt
          go_wp2_with fail
          refine (HR.out _).mono ?_
          rintro e w2 ⟨rfl, hb2⟩
          have B2 := hide ((B1.out.alloc B1.out.size (.cells #[.int .i64 (n : Int), .int .i64 0, .string ⟨#[]⟩, .bool false] 98)).trans (hb2.mono (by have := B1.out.size; simp; omega)))
          clear hb2
          go_wp2_with fail
          go_ret
          refine ⟨HS.out.mv.trans (Mv.of B2.out), ?_⟩
          rw [HRR.out]
          exact ⟨a, cap, rfl, PA_kept (fun g _ hg => B2.out.block g hg) B2.out.size (fun g hg hg2 => ⟨by omega, Nat.lt_of_lt_of_le hg2 B2.out.size⟩) _ _ _ (Nat.le_refl _) HPT.out, HS.out.ns.later B2.out, HS.out.ble, HS.out.nle, HFL.out.2⟩
        · have HRR : Hid (rd T F d nm [] n0 b0 = .bad 2 n 1) := by show _ = _; rw [HRD.out]; unfold rd; rw [if_pos rfl, if_pos (by omega)]
          have HR := hide (fun W : World => refuse_yes ⟨n, 0, [], false⟩ 2 1 W)
          unfold lnC at HR
          have hdd : decide (0 < (d : Int)) = true := decide_eq_true (by omega)
          have hddn : decide (0 < d) = true := decide_eq_true (by omega)
          go_wp2_with fail
          refine (HR.out _).mono ?_
          rintro e w2 ⟨rfl, hb2⟩
          have B2 := hide ((B1.out.alloc B1.out.size (.cells #[.int .i64 (n : Int), .int .i64 0, .string ⟨#[]⟩, .bool false] 98)).trans (hb2.mono (by have := B1.out.size; simp; omega)))
          refine ⟨rfl, HS.out.mv.trans (Mv.of B2.out), ?_⟩
          rw [HRR.out]; rfl
      · have hlt : b < T.length := by have := HS.out.ble; omega
        have HN := hide (next_line p t q T n b wr HA.out HS.out.ns hlt hTl (by have := HS.out.nle; omega) ((HM.out).mv HS.out.mv HA.out.mp HA.out.mq))
        have HOL := hide (own_len T b)
        have HNB := hide (nxt_gt hlt)
        unfold lnC at HN
        go_wp2_with fail
        refine HN.out.mono ?_
        rintro e w1 ⟨rfl, hN1, hm1⟩
        have S1 := hide (HS.out.next HPL.out.1 HPL.out.2.2 rfl hlt hN1 hm1)
        have HMW := hide hm1
        clear hN1 hm1 HN
        have HC := hide (fun W : World => check_line ⟨n, b, ownL T b, endL T b⟩ W (by have := HOL.out; dsimp only; omega))
        unfold lnC at HC
        cases hck : chkE ⟨n, b, ownL T b, endL T b⟩ with
        | some na =>
          obtain ⟨no, at_⟩ := na
          have HRR := hide (HRD.out.trans (rd_line hbe hck))
          rw [hck] at HC
          generalize ownL T b = tx at *
          generalize endL T b = en at *
          go_wp2_with fail
          refine (HC.out _).mono ?_
          rintro e w2 ⟨rfl, hb2⟩
          have B2 := hide (((Below.refl w1.heap.size w1).alloc (Nat.le_refl _) (.cells #[.int .i64 (n : Int), .int .i64 (b : Int), .string ⟨tx.toArray⟩, .bool en] 98)).trans (hb2.mono (by simp)))
          refine ⟨rfl, S1.out.mv.trans (Mv.of B2.out), ?_⟩
          rw [HRR.out]; rfl
        | none =>
          rw [hck] at HC
          dsimp only [ends] at HC
          obtain ⟨hen, h0⟩ := chk_none hck
          dsimp only at hen h0
          have HRS := hide (HRD.out.trans (rd_stp hbe hck))
          have HTM : Hid (∀ l' a, l = l' ++ [a] → a.itm.tag.isEmpty = false → a.itm.text.length + 1 ≤ b ∧ b + (ownL T b).length ≤ T.length ∧ (T.drop (b - 1 - a.itm.text.length)).take (a.itm.text.length + 1 + (ownL T b).length) = a.itm.text ++ 10 :: ownL T b ∧ TI T (l' ++ [a.withText (a.itm.text ++ 10 :: ownL T b)]) (nxtB T b)) := hide (fun l' a e hf => by subst e; exact HTI.out.more hf hen HS.out.ble)
          have HTF : Hid (∀ (l' : List Tr) (a : Tr) pre, ownL T b = pre ++ a.itm.text → TI T (l' ++ [a]) (nxtB T b)) := hide (fun l' a pre h => TI.line l' a pre hen h)
          clear hen hck HRD
          generalize ownL T b = tx at *
          generalize endL T b = en at *
          generalize nxtB T b = nb at *
          have hs1 : 0 < (⟨tx.toArray⟩ : ByteArray).size := by rw [bytes_size]; exact h0
          obtain ⟨c, hc, Hc⟩ : ∃ c, (⟨tx.toArray⟩ : ByteArray)[0]'hs1 = c ∧ Hid (tx.getD 0 0 = c) := ⟨_, rfl, by rw [getD_at h0]; exact hide rfl⟩
          go_wp2_with fail
          refine (HC.out _).mono ?_
          rintro e w2 ⟨rfl, hb2⟩
          have B2 := hide (((Below.refl w1.heap.size w1).alloc (Nat.le_refl _) (.cells #[.int .i64 (n : Int), .int .i64 (b : Int), .string ⟨tx.toArray⟩, .bool en] 98)).trans (hb2.mono (by simp)))
          have X2 : Hid (Lx w2 w1.heap.size ⟨n, b, tx, en⟩) := hide ((Lx.new w1 ⟨n, b, tx, en⟩).later hb2)
          have S2 := hide (S1.out.later B2.out)
          clear hb2 HC
          have x0 := X2.out.num
          have x1 := X2.out.beg
          have x2 := X2.out.text
          have x3 := X2.out.ends
          dsimp only at x0 x1 x2 x3
          have HT0 : Hid (tx.length ≤ 1048576) := by show _ ≤ _; have := HOL.out; omega
          by_cases h58 : c = 58
          · have hcb : ((c.toNat : Int) == 58) = true := (u8_lit rfl 58 rfl).trans (beq_iff_eq.2 h58)
            have g58 : tx.getD 0 0 = 58 := by rw [Hc.out]; exact h58
            obtain ⟨rs, Hrs⟩ : ∃ rs, Hid (tx.drop 1 = rs) := ⟨_, hide rfl⟩
            have HRL : Hid (rs.length ≤ 1048576) := by show _ ≤ _; rw [← Hrs.out, List.length_drop]; have := HT0.out; omega
            have HCU := hide (fun (W : World) (h : ML W) => cut_any rs [58] W HRL.out h)
            have ML2 : Hid (ML w2) := hide ((HM.out).mv S2.out.mv HA.out.mp HA.out.mq)
            have hsl : (⟨tx.toArray⟩ : ByteArray).extract 1 tx.length = ⟨rs.toArray⟩ := by rw [← Hrs.out]; exact bytes_from tx 1
            have h1l : (1 : Int) ≤ (tx.length : Int) := by omega
            have htl : (tx.length : Int) ≤ 1048576 := by have := HT0.out; omega
            have H0 := hide h0
            obtain ⟨tag, Htag⟩ : ∃ tag, Hid ((Lib.cut rs [58]).1 = tag) := ⟨_, hide rfl⟩
            obtain ⟨rest, Hrest⟩ : ∃ rest, Hid ((Lib.cut rs [58]).2.1 = rest) := ⟨_, hide rfl⟩
            cases hfo : (Lib.cut rs [58]).2.2 with
            | false =>
              have HRR := hide (HRS.out.trans (stp_cut g58 (by rw [Hrs.out]; exact hfo)))
              have HR := hide (fun W : World => refuse_yes ⟨n, b, tx, en⟩ 4 ((tx.length : Int) + 1) W)
              unfold lnC at HR
              rw [hfo, Htag.out, Hrest.out] at HCU
              clear hfo g58 h0 HRS HTM HTF h58 hbe hlt
              go_wp2_with fail
              refine (HCU.out w2 ML2.out).mono ?_
              rintro e w3 ⟨rfl, hb3⟩
              have X3 := hide (X2.out.later hb3)
              have S3 := hide (S2.out.later hb3)
              clear hb3 x0 x1 x2 x3 HCU hsl
              have x0 := X3.out.num
              have x1 := X3.out.beg
              have x2 := X3.out.text
              have x3 := X3.out.ends
              dsimp only at x0 x1 x2 x3
              go_wp2_with fail
              refine (HR.out _).mono ?_
              rintro e w4 ⟨rfl, hb4⟩
              refine ⟨rfl, S3.out.mv.trans (Mv.of hb4), ?_⟩
              rw [HRR.out]; rfl
            | true => 
              have HRQ : Hid (rd T F d nm [] n0 b0 = stq T f' d nm l n nb tx.length tag rest) := by
                show _ = _
                rw [HRS.out, stp_stq g58 (by rw [Hrs.out]; exact hfo), Hrs.out, Htag.out, Hrest.out]
              have HTX : Hid (∃ pre, tx = pre ++ rest) := hide ⟨tx.take 1 ++ (tag ++ [58]), by rw [List.append_assoc, ← Htag.out, ← Hrest.out, ← cut_yes hfo, ← Hrs.out, List.take_append_drop]⟩
              have HRT : Hid (rest.length ≤ tx.length ∧ tag.length ≤ tx.length) := hide (by
                have h1 := cut_len rs [58]
                have h2 : rs.length ≤ tx.length := by rw [← Hrs.out, List.length_drop]; omega
                rw [Htag.out, Hrest.out] at h1; omega)
              have HR0 := hide (fun W : World => refuse_no ⟨n, b, tx, en⟩ 4 ((tx.length : Int) + 1) W)
              unfold lnC at HR0
              rw [hfo, Htag.out, Hrest.out] at HCU
              clear hfo g58 h0 HRS HTM h58 hbe hlt Hrs Htag Hrest HRL
              go_wp2_with fail
              refine (HCU.out w2 ML2.out).mono ?_
              rintro e w3 ⟨rfl, hb3⟩
              have X3 := hide (X2.out.later hb3)
              have S3 := hide (S2.out.later hb3)
              clear hb3 x0 x1 x2 x3 HCU hsl
              have x0 := X3.out.num
              have x1 := X3.out.beg
              have x2 := X3.out.text
              have x3 := X3.out.ends
              dsimp only at x0 x1 x2 x3
              go_wp2_with fail
              refine (HR0.out _).mono ?_
              rintro e w4 ⟨rfl, hb4⟩
              have X4 := hide (X3.out.later hb4)
              have S4 := hide (S3.out.later hb4)
              have ML4 : Hid (ML w4) := hide ((HM.out).mv S4.out.mv HA.out.mp HA.out.mq)
              clear hb4 x0 x1 x2 x3 HR0
              have x0 := X4.out.num
              have x1 := X4.out.beg
              have x2 := X4.out.text
              have x3 := X4.out.ends
              dsimp only at x0 x1 x2 x3
              have HFL1 : Hid (l.length + 1 ≤ 1048577) := by show _ ≤ _; have := HFL.out.1; have := HFM.out; omega
              by_cases htr : tag = r16
              · have q16 : (tag == [49, 54, 82]) = true := beq_iff_eq.2 htr
                by_cases h8 : 8 ≤ d
                · have HRR : Hid (rd T F d nm [] n0 b0 = .bad 5 n 1) := by show _ = _; rw [HRQ.out]; unfold stq; rw [if_pos htr, if_pos h8]
                  have HBL := hide (block_deep (rdC T (fnv p t q)) ⟨n, b, tx, en⟩ rest d w4 HT0.out h8 (by have := HD8.out; omega))
                  unfold lnC at HBL
                  clear htr h8 HRQ
                  go_wp2_with (refine wpList_load_row rfl 71 (.tmp 3) rfl w.heap.size rfl _ _ _ _ S4.out.box Tryz.underlying71 rfl Tryz.sizeRdq ?_)
                  refine HBL.out.mono ?_
                  rintro e w5 ⟨rfl, hb5⟩
                  refine ⟨rfl, S4.out.mv.trans (Mv.of hb5), ?_⟩
                  rw [HRR.out]; rfl
                · cases hnb : nameB rest with
                  | false =>
                    have HRR : Hid (rd T F d nm [] n0 b0 = .bad 4 n ((tx.length : Int) - rest.length + 1)) := by show _ = _; rw [HRQ.out]; unfold stq; rw [if_pos htr, if_neg h8, hnb]; rfl
                    have HBL := hide (block_name (rdC T (fnv p t q)) ⟨n, b, tx, en⟩ rest d w4 HT0.out (by omega) hnb (by have := HRT.out; have := HT0.out; omega))
                    unfold lnC at HBL
                    clear htr h8 HRQ hnb
                    go_wp2_with (refine wpList_load_row rfl 71 (.tmp 3) rfl w.heap.size rfl _ _ _ _ S4.out.box Tryz.underlying71 rfl Tryz.sizeRdq ?_)
                    refine HBL.out.mono ?_
                    rintro e w5 ⟨rfl, hb5⟩
                    refine ⟨rfl, S4.out.mv.trans (Mv.of hb5), ?_⟩
                    rw [HRR.out]; rfl
                  | true =>
                    have hcast : (((d + 1 : Nat)) : Int) = (d : Int) + 1 := by omega
                    cases hrd : rd T f' (d + 1) rest [] (n + 1) nb with
                    | bad no m at_ =>
                      have HRR : Hid (rd T F d nm [] n0 b0 = .bad no m at_) := by show _ = _; rw [HRQ.out]; unfold stq; rw [if_pos htr, if_neg h8, hnb, hrd]; rfl
                      have HBL := hide (block_gone T (fnv p t q) ⟨n, b, tx, en⟩ rest d p q no m at_ w4 HT0.out (by omega) hnb (by have := HRT.out; have := HT0.out; omega) (fun W hW => by
                        have h := IH.out f' (by have := HFL.out.1; omega) (d + 1) rest (n + 1) nb W (by have := HFL.out.1; have := HFM.out; omega) (by omega) (S4.out.ns.later hW) S4.out.ble S4.out.nle (ML4.out.later hW) (fun x y z e => by
                          rw [hrd] at e; cases e; exact HF.out _ _ _ HRR.out)
                        rw [hcast, hrd] at h
                        exact h.mono (fun e w' hh => ⟨hh.2, hh.1⟩)))
                      unfold lnC at HBL
                      clear htr h8 HRQ hnb hrd hcast
                      go_wp2_with (refine wpList_load_row rfl 71 (.tmp 3) rfl w.heap.size rfl _ _ _ _ S4.out.box Tryz.underlying71 rfl Tryz.sizeRdq ?_)
                      refine HBL.out.mono ?_
                      rintro e w5 ⟨rfl, hm5⟩
                      refine ⟨rfl, S4.out.mv.trans hm5, ?_⟩
                      rw [HRR.out]; rfl
                    | ok kd n' b' =>
                      have HRR : Hid (rd T F d nm [] n0 b0 = rd T f' d nm (l ++ [.mk ⟨[], [], [], rest⟩ kd]) n' b') := by show _ = _; rw [HRQ.out]; unfold stq; rw [if_pos htr, if_neg h8, hnb, hrd]; rfl
                      have HBL := hide (block_ok T (fnv p t q) ⟨n, b, tx, en⟩ rest d (fun W a k cap w' => k = kd.length ∧ Mv p q W w' ∧ PA w' (fun x => W.heap.size ≤ x ∧ x < w'.heap.size) (.slice a k cap) kd ∧ NS w' p t q T n' b' ∧ b' ≤ T.length ∧ n' + (T.length - b') ≤ 2097152 ∧ nb ≤ b') w4 HT0.out (by omega) hnb (by have := HRT.out; have := HT0.out; omega) (fun W hW => by
                        have h := IH.out f' (by have := HFL.out.1; omega) (d + 1) rest (n + 1) nb W (by have := HFL.out.1; have := HFM.out; omega) (by omega) (S4.out.ns.later hW) S4.out.ble S4.out.nle (ML4.out.later hW) (fun x y z e => by
                          rw [hrd] at e; cases e)
                        rw [hcast, hrd] at h
                        refine h.mono (fun e w' hh => ?_)
                        obtain ⟨hm, a, cap, rfl, hpt, hns, h1, h2, h3⟩ := hh
                        exact ⟨a, kd.length, cap, rfl, ⟨rfl, hm, hpt, hns, h1, h2, h3⟩, fun g hg hg2 => hm.block g hg (by have := S4.out.mv.size; have := HPL.out.1; omega) (by have := S4.out.mv.size; have := HPL.out.2.2; omega)⟩))
                      unfold lnC at HBL
                      clear htr h8 HRQ hnb hrd hcast
                      go_wp2_with (refine wpList_load_row rfl 71 (.tmp 3) rfl w.heap.size rfl _ _ _ _ S4.out.box Tryz.underlying71 rfl Tryz.sizeRdq ?_)
                      refine HBL.out.mono ?_
                      rintro e w6 ⟨W, a, k, cap, w5, hbW, hsz, ⟨rfl, hm5, hpt5, hns5, hb5, hn5, hlo5⟩, rfl, rfl⟩
                      have M5 : Hid (Mv p q w4 (w5.setRow (w4.heap.size + 2) (iC ⟨[], [], [], rest⟩ (.slice a kd.length cap)))) := hide (((Mv.of hbW).trans hm5).row (Nat.le_add_right _ _) _)
                      have hne : ∀ g, g ≠ w4.heap.size + 2 → (w5.setRow (w4.heap.size + 2) (iC ⟨[], [], [], rest⟩ (.slice a kd.length cap))).heap[g]? = w5.heap[g]? := fun g hg => setRow_other _ _ _ _ hg
                      have N5 : Hid (NS (w5.setRow (w4.heap.size + 2) (iC ⟨[], [], [], rest⟩ (.slice a kd.length cap))) p t q T n' b') := hide ⟨(hne p (by have := S4.out.mv.size; have := HPL.out; omega)).trans hns5.beg, (hne t (by have := S4.out.mv.size; have := HPL.out; omega)).trans hns5.txt, (hne q (by have := S4.out.mv.size; have := HPL.out; omega)).trans hns5.num⟩
                      have S5 := hide (S4.out.step HPL.out.1 HPL.out.2.2 rfl M5.out N5.out hb5 hn5)
                      have P5 : Hid (PA (w5.setRow (w4.heap.size + 2) (iC ⟨[], [], [], rest⟩ (.slice a kd.length cap))) (fun x => W.heap.size ≤ x ∧ x < (w5.setRow (w4.heap.size + 2) (iC ⟨[], [], [], rest⟩ (.slice a kd.length cap))).heap.size) (.slice a kd.length cap) kd) := hide (PA_kept (fun g hg _ => hne g (by omega)) (by rw [size_setRow]; exact Nat.le_refl _) (fun g hg hg2 => ⟨hg.1, by rw [size_setRow]; exact hg2⟩) _ _ _ (Nat.le_refl _) hpt5)
                      have HLO : Hid (w.heap.size + 1 ≤ W.heap.size) := by show _ ≤ _; have := S4.out.mv.size; omega
                      have HVL : Hid (∀ x, u7.ownBlock = some x → x < W.heap.size) := hide (fun x hx => by have := (own_ltq S4.out.iw.row x hx).2; omega)
                      have HNB5 : Hid (nb ≤ b') := hide hlo5
                      have HW4 : Hid (w4.heap.size ≤ W.heap.size) := hide hbW.size
                      clear hbW hsz hm5 hpt5 hns5 hb5 hn5 hlo5 hne HBL
                      generalize w5.setRow (w4.heap.size + 2) (iC ⟨[], [], [], rest⟩ (.slice a kd.length cap)) = w6 at *
                      clear x0 x1 x2 x3
                      unfold iC
                      go_wp2_with (at_builtin; refine wp_append_itm rfl _ _ rfl (w.heap.size + 1) _ l.length _ rfl (S5.out.iw.row.alloc _) _ 1 1 [.string ⟨#[]⟩, .string ⟨#[]⟩, .string ⟨#[]⟩, .string ⟨rest.toArray⟩, .slice a kd.length cap] rfl rfl (by decide) ?c1 ?c2 ?c3 ?c4 ?_)
                      case c1 =>
                        intro j u hj
                        match j, hj with
                        | 0, hj => simp at hj; subst hj; simp [Addr.add]
                        | 1, hj => simp at hj; subst hj; simp [Addr.add]
                        | 2, hj => simp at hj; subst hj; simp [Addr.add]
                        | 3, hj => simp at hj; subst hj; simp [Addr.add]
                        | 4, hj => simp at hj; subst hj; simp [Addr.add]
                      case c2 => intro u hu; simp at hu; rcases hu with rfl | rfl | rfl <;> rfl
                      case c3 => have := S5.out.mv.size; have := S5.out.box.lt; simp; omega
                      case c4 => have := HFL1.out; omega
                      intro v' w7 hown' hgrow hfresh
                      have BA := hide ((Below.refl w6.heap.size w6).alloc (Nat.le_refl _) (.cells #[.string ⟨#[]⟩, .string ⟨#[]⟩, .string ⟨#[]⟩, .string ⟨rest.toArray⟩, .slice a kd.length cap] 25))
                      have S6 := hide ((S5.out.later BA.out).snoc (a := .mk ⟨[], [], [], rest⟩ kd) (u := .slice a kd.length cap) (lo := W.heap.size) HPL.out.1 HPL.out.2.1 HPL.out.2.2 rfl hown' hgrow (fun x hx => (hfresh x hx).imp id (fun h => by simpa using h)) S4.out (fun g hB hg => (BA.out.block g (Nat.lt_of_lt_of_le hg M5.out.size)).trans (M5.out.block g hg (by have := HPL.out; omega) (by have := HPL.out; omega))) (Nat.le_trans M5.out.size BA.out.size) HW4.out HLO.out HVL.out (PA_kept (fun g hg hg2 => BA.out.block g hg2) BA.out.size (fun g hg hg2 => ⟨hg.1, Nat.lt_of_lt_of_le hg2 BA.out.size⟩) _ _ _ (Nat.le_refl _) P5.out))
                      have HN3 : Hid (T.length - numAt w7 p < T.length - numAt wr p) := by show _ < _; rw [S6.out.num, HS.out.num]; have := HNB.out; have := HNB5.out; have := S6.out.ble; omega
                      have HL3 : Hid ((l ++ [Tr.mk ⟨[], [], [], rest⟩ kd]).length + f' ≤ F ∧ b0 ≤ b') := hide ⟨by have := HFL.out.1; simp; omega, by have := HFL.out.2; have := HNB.out; have := HNB5.out; omega⟩
                      have HTN := hide (TI.block T l b' rest kd)
                      clear hown' hgrow hfresh BA
                      go_wp2_with fail
                      go_roundw
                      case rel => exact ⟨f', _, _, n', b', HL3, HTN, HRR, S6⟩
                      case measure => exact HN3.out
              · have q16 : (tag == [49, 54, 82]) = false := beq_eq_false_iff_ne.2 htr
                by_cases hts : tag = s16
                · have q17 : (tag == [49, 54, 83]) = true := beq_iff_eq.2 hts
                  have HRV : Hid (rd T F d nm [] n0 b0 = if d = 0 then .bad 10 n 1 else if rest ≠ nm then .bad 4 n ((tx.length : Int) - rest.length + 1) else .ok l (n + 1) nb) := by show _ = _; rw [HRQ.out]; unfold stq; rw [if_neg htr, if_pos hts]
                  by_cases hd0 : d = 0
                  · have HRR : Hid (rd T F d nm [] n0 b0 = .bad 10 n 1) := by show _ = _; rw [HRV.out, if_pos hd0]
                    have HR := hide (fun W : World => refuse_yes ⟨n, b, tx, en⟩ 10 1 W)
                    unfold lnC at HR
                    have hdd : ((d : Int) == 0) = true := beq_iff_eq.2 (by omega)
                    clear HRV HRQ hts htr hd0
                    go_wp2_with fail
                    refine (HR.out _).mono ?_
                    rintro e w5 ⟨rfl, hb5⟩
                    refine ⟨rfl, S4.out.mv.trans (Mv.of hb5), ?_⟩
                    rw [HRR.out]; rfl
                  · have HR := hide (fun W : World => refuse_no ⟨n, b, tx, en⟩ 10 1 W)
                    unfold lnC at HR
                    have hdd : ((d : Int) == 0) = false := beq_eq_false_iff_ne.2 (by omega)
                    have hrl : (rest.length : Int) ≤ (tx.length : Int) := by have := HRT.out.1; omega
                    by_cases hnm : rest = nm
                    · have HRR : Hid (rd T F d nm [] n0 b0 = .ok l (n + 1) nb) := by show _ = _; rw [HRV.out, if_neg hd0, if_neg (fun h => h hnm)]
                      have HR2 := hide (fun W : World => refuse_no ⟨n, b, tx, en⟩ 4 ((tx.length : Int) - rest.length + 1) W)
                      unfold lnC at HR2
                      have hrn : (rest == nm) = true := beq_iff_eq.2 hnm
                      have HPT : Hid (PA w4 (fun x => w.heap.size + 1 ≤ x ∧ x < w4.heap.size) u7 l) := hide S4.out.iw.done
                      obtain ⟨a, cap, hv⟩ := S4.out.val
                      subst hv
                      clear HRV HRQ hts htr hd0 hnm
                      go_wp2_with fail
                      refine (HR.out _).mono ?_
                      rintro e w5 ⟨rfl, hb5⟩
                      have X5 := hide (X4.out.later hb5)
                      have B5 := hide hb5
                      clear hb5 x0 x1 x2 x3 HR
                      have x0 := X5.out.num
                      have x1 := X5.out.beg
                      have x2 := X5.out.text
                      have x3 := X5.out.ends
                      dsimp only at x0 x1 x2 x3
                      go_wp2_with fail
                      refine (HR2.out _).mono ?_
                      rintro e w6 ⟨rfl, hb6⟩
                      have B6 := hide (B5.out.trans (hb6.mono B5.out.size))
                      clear hb6 x0 x1 x2 x3 HR2
                      go_wp2_with fail
                      go_ret
                      refine ⟨S4.out.mv.trans (Mv.of B6.out), ?_⟩
                      rw [HRR.out]
                      exact ⟨a, cap, rfl, PA_kept (fun g _ hg => B6.out.block g hg) B6.out.size (fun g hg hg2 => ⟨by omega, Nat.lt_of_lt_of_le hg2 B6.out.size⟩) _ _ _ (Nat.le_refl _) HPT.out, S4.out.ns.later B6.out, S4.out.ble, S4.out.nle, by have := HFL.out.2; have := HNB.out; omega⟩
                    · have HRR : Hid (rd T F d nm [] n0 b0 = .bad 4 n ((tx.length : Int) - rest.length + 1)) := by show _ = _; rw [HRV.out, if_neg hd0, if_pos hnm]
                      have HR2 := hide (fun W : World => refuse_yes ⟨n, b, tx, en⟩ 4 ((tx.length : Int) - rest.length + 1) W)
                      unfold lnC at HR2
                      have hrn : (rest == nm) = false := beq_eq_false_iff_ne.2 hnm
                      clear HRV HRQ hts htr hd0 hnm
                      go_wp2_with fail
                      refine (HR.out _).mono ?_
                      rintro e w5 ⟨rfl, hb5⟩
                      have X5 := hide (X4.out.later hb5)
                      have B5 := hide hb5
                      clear hb5 x0 x1 x2 x3 HR
                      have x0 := X5.out.num
                      have x1 := X5.out.beg
                      have x2 := X5.out.text
                      have x3 := X5.out.ends
                      dsimp only at x0 x1 x2 x3
                      go_wp2_with fail
                      refine (HR2.out _).mono ?_
                      rintro e w6 ⟨rfl, hb6⟩
                      refine ⟨rfl, S4.out.mv.trans (Mv.of (B5.out.trans (hb6.mono B5.out.size))), ?_⟩
                      rw [HRR.out]; rfl
                · have q17 : (tag == [49, 54, 83]) = false := beq_eq_false_iff_ne.2 hts
                  have HFI := hide (field_line ⟨n, b, tx, en⟩ tag rest w4 HT0.out (by have := HRT.out; have := HT0.out; omega) (by have := HRT.out; have := HT0.out; omega) ML4.out)
                  dsimp only at HFI
                  unfold lnC at HFI
                  cases hfl : fldO tag rest tx.length with
                  | some na =>
                    obtain ⟨no, at_⟩ := na
                    have HRR : Hid (rd T F d nm [] n0 b0 = .bad no n at_) := by show _ = _; rw [HRQ.out]; unfold stq; rw [if_neg htr, if_neg hts, hfl]
                    rw [hfl] at HFI
                    dsimp only [ends] at HFI
                    clear HRQ hts htr hfl
                    go_wp2_with fail
                    refine HFI.out.mono ?_
                    rintro e w5 ⟨rfl, hb5⟩
                    refine ⟨rfl, S4.out.mv.trans (Mv.of hb5), ?_⟩
                    rw [HRR.out]; rfl
                  | none =>
                    have HRR : Hid (rd T F d nm [] n0 b0 = rd T f' d nm (l ++ [.mk (fldI tag rest) []]) (n + 1) nb) := by show _ = _; rw [HRQ.out]; unfold stq; rw [if_neg htr, if_neg hts, hfl]
                    have HTN : Hid (TI T (l ++ [.mk (fldI tag rest) []]) nb) := by
                      obtain ⟨_, pre2, e2⟩ := fldI_text tag rest tx.length hfl
                      obtain ⟨pre1, e1⟩ := HTX.out
                      exact hide (HTF.out l (.mk (fldI tag rest) []) (pre1 ++ pre2) (by rw [List.append_assoc]; show tx = pre1 ++ (pre2 ++ (fldI tag rest).text); rw [← e2]; exact e1))
                    rw [hfl] at HFI
                    dsimp only [ends] at HFI
                    clear HRQ hts htr hfl
                    generalize fldI tag rest = it at *
                    obtain ⟨ft, fq, fx, fn⟩ := it
                    unfold iC at HFI
                    go_wp2_with fail
                    refine HFI.out.mono ?_
                    rintro e w6 ⟨rfl, hb6⟩
                    have S5 := hide (S4.out.later hb6)
                    have HVL : Hid (∀ x, u7.ownBlock = some x → x < w6.heap.size) := hide (fun x hx => (own_ltq S5.out.iw.row x hx).2)
                    clear hb6 x0 x1 x2 x3 HFI
                    go_wp2_with (at_builtin; refine wp_append_itm rfl _ _ rfl (w.heap.size + 1) _ l.length _ rfl (S5.out.iw.row.alloc _) _ 1 1 [.string ⟨ft.toArray⟩, .string ⟨fq.toArray⟩, .string ⟨fx.toArray⟩, .string ⟨fn.toArray⟩, .slice none 0 0] rfl rfl (by decide) ?c1 ?c2 ?c3 ?c4 ?_)
                    case c1 =>
                      intro j u hj
                      match j, hj with
                      | 0, hj => simp at hj; subst hj; simp [Addr.add]
                      | 1, hj => simp at hj; subst hj; simp [Addr.add]
                      | 2, hj => simp at hj; subst hj; simp [Addr.add]
                      | 3, hj => simp at hj; subst hj; simp [Addr.add]
                      | 4, hj => simp at hj; subst hj; simp [Addr.add]
                    case c2 => intro u hu; simp at hu; rcases hu with rfl | rfl | rfl | rfl | rfl <;> rfl
                    case c3 => have := S5.out.mv.size; have := S5.out.box.lt; simp; omega
                    case c4 => have := HFL1.out; omega
                    intro v' w7 hown' hgrow hfresh
                    have BA := hide ((Below.refl w6.heap.size w6).alloc (Nat.le_refl _) (.cells #[.string ⟨ft.toArray⟩, .string ⟨fq.toArray⟩, .string ⟨fx.toArray⟩, .string ⟨fn.toArray⟩, .slice none 0 0] 25))
                    have S6 := hide ((S5.out.later BA.out).snoc (a := .mk ⟨ft, fq, fx, fn⟩ []) (u := .slice none 0 0) (lo := w6.heap.size) HPL.out.1 HPL.out.2.1 HPL.out.2.2 rfl hown' hgrow (fun x hx => (hfresh x hx).imp id (fun h => by simpa using h)) S5.out (fun g _ hg => BA.out.block g hg) BA.out.size (Nat.le_refl _) (by have := S5.out.mv.size; have := S5.out.box.lt; omega) HVL.out (PA.nil _ _))
                    have HN3 : Hid (T.length - numAt w7 p < T.length - numAt wr p) := by show _ < _; rw [S6.out.num, HS.out.num]; have := HNB.out; have := S6.out.ble; omega
                    have HL3 : Hid ((l ++ [Tr.mk ⟨ft, fq, fx, fn⟩ []]).length + f' ≤ F ∧ b0 ≤ nb) := hide ⟨by have := HFL.out.1; simp; omega, by have := HFL.out.2; have := HNB.out; omega⟩
                    clear hown' hgrow hfresh BA
                    go_wp2_with fail
                    go_roundw
                    case rel => exact ⟨f', _, _, n + 1, nb, HL3, HTN, HRR, S6⟩
                    case measure => exact HN3.out
          · have hcb : ((c.toNat : Int) == 58) = false := (u8_lit rfl 58 rfl).trans (beq_eq_false_iff_ne.2 h58)
            have g58 : tx.getD 0 0 ≠ 58 := by rw [Hc.out]; exact h58
            by_cases h45 : c = 45
            · have HRR := hide (HRS.out.trans (stp_dash g58 (by rw [Hc.out]; exact h45)))
              have HFU := hide (fun W : World => further_dash T (fnv p t q) u7 ⟨n, b, tx, en⟩ W h0 (by rw [Hc.out]; exact h45))
              clear g58
              go_wp2_with (refine wpList_load_row rfl 71 (.tmp 3) rfl w.heap.size rfl _ _ _ _ S2.out.box Tryz.underlying71 rfl Tryz.sizeRdq ?_)
              refine (HFU.out _).mono ?_
              rintro e w3 ⟨rfl, hb3⟩
              refine ⟨rfl, S2.out.mv.trans (Mv.of hb3), ?_⟩
              rw [HRR.out]; rfl
            · have g45 : tx.getD 0 0 ≠ 45 := by rw [Hc.out]; exact h45
              rcases List.eq_nil_or_concat l with rfl | ⟨l', a, hl'⟩
              · have HRR := hide (HRS.out.trans (stp_none g58 g45))
                obtain ⟨ao, cap, hv⟩ := S2.out.val
                dsimp only [List.length_nil] at hv
                have HFU := hide (fun W : World => further_none T (fnv p t q) ao cap ⟨n, b, tx, en⟩ W h0 g45)
                subst hv
                clear g58 g45
                go_wp2_with (refine wpList_load_row rfl 71 (.tmp 3) rfl w.heap.size rfl _ _ _ _ S2.out.box Tryz.underlying71 rfl Tryz.sizeRdq ?_)
                refine (HFU.out _).mono ?_
                rintro e w3 ⟨rfl, hb3⟩
                refine ⟨rfl, S2.out.mv.trans (Mv.of hb3), ?_⟩
                rw [HRR.out]; rfl
              · rw [List.concat_eq_append] at hl'
                subst hl'
                obtain ⟨g, cap, V', u, hv, hV, hVl, hg, hrng, hfz⟩ := S2.out.last
                subst hV
                have HML : Hid (l'.length ≤ 1048576) := by show _ ≤ _; have := HFL.out.1; have := HFM.out; simp at *; omega
                cases hta : a.itm.tag.isEmpty with
                | true =>
                  have HRR := hide (HRS.out.trans (stp_block g58 g45 hta))
                  have HFU := hide (further_block T (fnv p t q) g l'.length cap a.itm u ⟨n, b, tx, en⟩ w2 HML.out hg hrng hta h0 g45)
                  clear hrng hfz hg hta g58 g45 hVl
                  subst hv
                  go_wp2_with (refine wpList_load_row rfl 71 (.tmp 3) rfl w.heap.size rfl _ _ _ _ S2.out.box Tryz.underlying71 rfl Tryz.sizeRdq ?_)
                  refine HFU.out.mono ?_
                  rintro e w3 ⟨rfl, hb3⟩
                  refine ⟨rfl, S2.out.mv.trans (Mv.of hb3), ?_⟩
                  rw [HRR.out]; rfl
                | false =>
                  have HRR := hide (HRS.out.trans (stp_more g58 g45 hta))
                  obtain ⟨m1, m2, m3, m4⟩ := HTM.out l' a rfl hta
                  have HFU := hide (further_ok T (fnv p t q) g l'.length cap a.itm u ⟨n, b, tx, en⟩ w2 HML.out hg hrng hta hfz b rfl m1 m2 hTl h0 g45)
                  dsimp only at HFU
                  rw [m3] at HFU
                  have HTN := hide m4
                  clear hrng hfz hg hta g58 g45 hVl m1 m2 m3 m4 HTM HTF
                  subst hv
                  go_wp2_with (refine wpList_load_row rfl 71 (.tmp 3) rfl w.heap.size rfl _ _ _ _ S2.out.box Tryz.underlying71 rfl Tryz.sizeRdq ?_)
                  refine HFU.out.mono ?_
                  rintro e w3 ⟨rfl, w4, hb4, rfl⟩
                  have S3 := hide (S2.out.more HPL.out.1 HPL.out.2.1 HPL.out.2.2 rfl hb4 (a.itm.text ++ 10 :: tx))
                  have HN3 : Hid (T.length - numAt (w4.setCell ⟨g, l'.length * 5 + 2, none⟩ (.string ⟨(a.itm.text ++ 10 :: tx).toArray⟩)) p < T.length - numAt wr p) := by show _ < _; rw [S3.out.num, HS.out.num]; have := HNB.out; omega
                  have HL3 : Hid ((l' ++ [a.withText (a.itm.text ++ 10 :: tx)]).length + f' ≤ F ∧ b0 ≤ nb) := hide ⟨by have := HFL.out.1; simp at this ⊢; omega, by have := HFL.out.2; have := HNB.out; omega⟩
                  clear hb4 HFU
                  generalize w4.setCell ⟨g, l'.length * 5 + 2, none⟩ (.string ⟨(a.itm.text ++ 10 :: tx).toArray⟩) = w3 at *
                  go_wp2_with fail
                  go_roundw
                  case rel => exact ⟨f', _, _, n + 1, nb, HL3, HTN, HRR, S3⟩
                  case measure => exact HN3.out
end Go.Proofs.YtpkgaidnpooahaaGreatDoor
