/-
  My own text: layer 19: QueueScript: the law (printed by mkqf4.py).
-/
import Derived.Test.YtknnojjfdfkdmaaGreatDoorQF2
import Derived.Test.YtknnojjfdfkdmaaGreatDoorUPick
import Derived.Test.YtknnojjfdfkdmaaGreatDoorQRs
import Derived.Deep.DeepCutAuto
namespace Go.Proofs.YtknnojjfdfkdmaaGreatDoor
open Go.RowKit Go.Extern Go.MapKept Go.ChangeMaps

theorem f_ofQ (k : Int) : ∃ f : Bool, k % 2 = (f.toNat : Int) := by
  rcases (show k % 2 = 0 ∨ k % 2 = 1 by omega) with h | h
  · exact ⟨false, h⟩
  · exact ⟨true, h⟩
theorem nineQ (k : Int) : ∃ kd, k % 9 = kd ∧ (kd = 6 ∨ kd = 7 ∨ kd = 8 ∨ ((kd == 6) = false ∧ (kd == 7) = false ∧ (kd == 8) = false ∧ (kd = 0 ∨ kd = 1 ∨ kd = 2 ∨ kd = 3 ∨ kd = 4 ∨ kd = 5))) := by
  refine ⟨_, rfl, ?_⟩
  rcases (show k % 9 = 0 ∨ k % 9 = 1 ∨ k % 9 = 2 ∨ k % 9 = 3 ∨ k % 9 = 4 ∨ k % 9 = 5 ∨ k % 9 = 6 ∨ k % 9 = 7 ∨ k % 9 = 8 by omega) with h | h | h | h | h | h | h | h | h <;> rw [h] <;> decide
theorem bool_ltQ (f : Bool) : f.toNat < 2 := by cases f <;> decide
theorem gtNilQ (q : Nat) (W : World) : (binOp .eql 31 (.pointer (some ⟨q, 0, none⟩)) (.pointer none)).run Tryz.prog W = .ok (.bool false) W := by kernel_rfl
theorem SRs.up {F : Bool → Qf} {k : Nat} (h : ∀ f, SR (F f).Z (F f).room (F f).E k) {f : Bool} {x : Qf} (hx : SR x.Z x.room x.E (k + 1)) : ∀ g, SR (upQ f x F g).Z (upQ f x F g).room (upQ f x F g).E (k + 1) := fun g => by
  unfold upQ; split
  · exact hx
  · exact (h g).up (Nat.le_succ k)
theorem SRs.up2 {F : Bool → Qf} {k : Nat} (h : ∀ f, SR (F f).Z (F f).room (F f).E k) {f : Bool} {x y : Qf} (hy : SR y.Z y.room y.E (k + 1)) : ∀ g, SR (upQ f y (upQ f x F) g).Z (upQ f y (upQ f x F) g).room (upQ f y (upQ f x F) g).E (k + 1) := fun g => by
  unfold upQ
  by_cases e : g = f
  · rw [if_pos e]; exact hy
  · rw [if_neg e, if_neg e]; exact (h g).up (Nat.le_succ k)
theorem SRs.next {F : Bool → Qf} {k : Nat} (h : ∀ f, SR (F f).Z (F f).room (F f).E k) : ∀ g, SR (F g).Z (F g).room (F g).E (k + 1) := fun g => (h g).up (Nat.le_succ k)
theorem Sep.swap {w0 w : World} {cs ds : List Cp} {a b : Cp} (h : Sep w0 w (cs ++ a :: b :: ds)) : Sep w0 w (cs ++ b :: a :: ds) := by
  refine h.pick (fun i => if i = cs.length then cs.length + 1 else if i = cs.length + 1 then cs.length else i) (fun i j e => ?_) (fun i c hi => ?_)
  · split at e <;> split at e <;> (try split at e) <;> (try split at e) <;> omega
  · by_cases h1 : i = cs.length
    · subst h1; rw [if_pos rfl]; simpa using hi
    · rw [if_neg h1]
      by_cases h2 : i = cs.length + 1
      · subst h2; rw [if_pos rfl]; simpa using hi
      · rw [if_neg h2]
        by_cases h3 : i < cs.length
        · rw [List.getElem?_append_left h3] at hi ⊢; exact hi
        · obtain ⟨m, rfl⟩ : ∃ m, i = cs.length + (m + 2) := ⟨i - cs.length - 2, by omega⟩
          rw [List.getElem?_append_right (by omega), Nat.add_sub_cancel_left] at hi ⊢; exact hi
theorem Sep.tail {w0 w : World} {cs : List Cp} {a : Cp} (h : Sep w0 w (a :: cs)) : Sep w0 w cs := h.pick (fun i => i + 1) (fun i j e => by omega) (fun i c hi => hi)
theorem Sep.newQ {w0 w : World} {cs : List Cp} (h : Sep w0 w cs) (room : Int) :
    Calls Tryz.prog 6 #[.int .i64 room] w fun e w' => ∃ q Z O, e = .returned (.pointer (some ⟨q, 0, none⟩)) ∧ Hid (Sep w0 w' (cs ++ [QCp O q Z])) ∧ Hid (SR Z (max room 0) [] 0) := by
  refine (newQ_any room w).mono ?_
  rintro e w' ⟨q, Z, O, rfl, h1, h2, h3, h4, h5, h6, h7⟩
  exact ⟨q, Z, O, rfl, hide (h.new h3 (QCp.ok _ _ _) h1 h2), hide (SR.start h4 h5 h6 0)⟩
theorem Sep.newR {w0 w : World} {cs : List Cp} (h : Sep w0 w cs) (room : Int) :
    Calls Tryz.prog 16 #[.int .i64 room] w fun e w' => ∃ r, e = .returned (.pointer (some ⟨r, 0, none⟩)) ∧ Hid (Sep w0 w' (cs ++ [DCp w0.heap.size r (max room 0) (.slice none 0 0) []])) := by
  refine (rnew_any room w).mono ?_
  rintro e w' ⟨rfl, rfl⟩
  refine ⟨_, rfl, hide (h.new ((Below.refl _ _).alloc (Nat.le_refl _) _) (DCp.ok _ _ _ _ _) (DQ.start h.bl.size _) (fun g hg => ?_))⟩
  rcases hg with e | e | ⟨e, he, _⟩
  · rw [e]; exact Nat.le_refl _
  · cases e
  · cases he
theorem box2_of {w0 W : World} {cs : List Cp} {bb : Nat} {x y : Value} {t : TypeId} (h : Sep w0 W (BCp bb #[x, y] t :: cs)) : W.cell? ⟨bb, 0, none⟩ = some x ∧ W.cell? ⟨bb, 1, none⟩ = some y := pair_cells (h.is 0 _ rfl) rfl
theorem Tryz.sizeQQ : (Tryz.prog.info? 44).map (·.size) = some 2 := by kernel_rfl
theorem Tryz.sizeRQ : (Tryz.prog.info? 47).map (·.size) = some 2 := by kernel_rfl
theorem wp_store_rowQ {P : Program} {o : Oper} {a : Act} {w : World} {K : Act → World → Prop} {Q : Exit → Act → World → Prop} (ty : TypeId) (x y : Operand) (ho : o.op = .store ty x y) (hd : o.dst = none)
    (g : Nat) (cells : Array Value) (hx : a.eval x = .pointer (some ⟨g, 0, none⟩)) (hy : a.eval y = .agg cells)
    (t : TypeId) (old : Array Value) (hg : w.heap[g]? = some (.cells old t (0, 0))) (hi : (P.info? ty).map (·.size) = some cells.size)
    (hold : old.size = cells.size) (h1 : cells.all (·.oneCell') = true)
    (h : K a (w.setRow g cells)) : o.wp P a w K Q := wp_store_row ty x y ho g cells hx hy t old hg hi hold h1 (by rw [hd]; exact h)
def Fs (O0 O1 : Nat → Prop) (q0 q1 : Nat) (Z0 Z1 : Qx) (r0 r1 : Nat) (m0 m1 : Int) : Bool → Qf := fun f => if f then ⟨O1, q1, Z1, r1, m1, .slice none 0 0, []⟩ else ⟨O0, q0, Z0, r0, m0, .slice none 0 0, []⟩
theorem QL.start {w0 w : World} {b0 : Cp} {O0 O1 : Nat → Prop} {q0 q1 xa ra r0 r1 : Nat} {Z0 Z1 : Qx} {m0 m1 : Int} (h : Sep w0 w [b0, QCp O0 q0 Z0, QCp O1 q1 Z1, BCp xa #[.pointer (some ⟨q0, 0, none⟩), .pointer (some ⟨q1, 0, none⟩)] 44, DCp w0.heap.size r0 m0 (.slice none 0 0) [], DCp w0.heap.size r1 m1 (.slice none 0 0) [], BCp ra #[.pointer (some ⟨r0, 0, none⟩), .pointer (some ⟨r1, 0, none⟩)] 47]) :
    QL w0 w xa ra (Fs O0 O1 q0 q1 Z0 Z1 r0 r1 m0 m1) (.slice none 0 0) [] (.slice none 0 0) [] [] := by
  have h1 := Sep.tail h
  have h2 := Sep.swap (cs := [QCp O0 q0 Z0, QCp O1 q1 Z1]) (a := BCp xa #[.pointer (some ⟨q0, 0, none⟩), .pointer (some ⟨q1, 0, none⟩)] 44) (b := DCp w0.heap.size r0 m0 (.slice none 0 0) []) (ds := [DCp w0.heap.size r1 m1 (.slice none 0 0) [], BCp ra #[.pointer (some ⟨r0, 0, none⟩), .pointer (some ⟨r1, 0, none⟩)] 47]) h1
  have h3 := Sep.swap (cs := [QCp O0 q0 Z0, QCp O1 q1 Z1, DCp w0.heap.size r0 m0 (.slice none 0 0) []]) (a := BCp xa #[.pointer (some ⟨q0, 0, none⟩), .pointer (some ⟨q1, 0, none⟩)] 44) (b := DCp w0.heap.size r1 m1 (.slice none 0 0) []) (ds := [BCp ra #[.pointer (some ⟨r0, 0, none⟩), .pointer (some ⟨r1, 0, none⟩)] 47]) h2
  have no : ∀ g, (TIp w0.heap.size (.slice none 0 0) []).O g → False := fun g hg => by
    rcases hg with e | ⟨u, hu, _⟩
    · cases e
    · cases hu
  have h4 := h3.add (c := TIp w0.heap.size (.slice none 0 0) []) (TIp.ok _ _ _) (TIk.nil _ _) (fun g hg => (no g hg).elim) (fun _ _ _ g hg _ => no g hg)
  have h5 := h4.add (c := TIp w0.heap.size (.slice none 0 0) []) (TIp.ok _ _ _) (TIk.nil _ _) (fun g hg => (no g hg).elim) (fun _ _ _ g hg _ => no g hg)
  exact ⟨h5⟩
theorem QL.apart {w0 w w' : World} {xa ra g n cap : Nat} {F : Bool → Qf} {vw : Value} {TO TW : List (Value × List Int)} {ex : List Cp} (h : QL w0 w xa ra F (.slice (some ⟨g, 0, none⟩) n cap) TO vw TW ex) (hs : Sp TO.length (avOI TO) (avNI TO) (avCI TO) w w') : QL w0 w' xa ra F (.slice none 0 0) [] vw TW ex := by
  refine ⟨h.sep.step (i := 6) (c := TIp w0.heap.size (.slice (some ⟨g, 0, none⟩) n cap) TO) (c' := TIp w0.heap.size (.slice none 0 0) []) rfl ⟨hs.os, hs.tape, hs.output, hs.size, fun y hy hn => hs.block y hy (fun k hk e => hn (.inr ?_))⟩ (TIp.ok _ _ _) (TIk.nil _ _) (fun g hg => ?_)⟩
  · obtain ⟨u, hu⟩ : ∃ u, TO[k]? = some u := ⟨_, List.getElem?_eq_getElem hk⟩
    exact ⟨u, List.mem_of_getElem? hu, by rw [(avI_at h.to hu).1]; exact e⟩
  · rcases hg with e | ⟨u, hu, _⟩
    · cases e
    · cases hu
section
variable {w0 w : World} {xa ra : Nat} {F : Bool → Qf} {vo vw : Value} {TO TW : List (Value × List Int)} {ex : List Cp}
theorem QL.same (h : QL w0 w xa ra F vo TO vw TW ex) {i j : Nat} {a b : Value} {L : List Int} (hi : ex[i]? = some (OIp w0.heap.size a L)) (hj : ex[j]? = some (OIp w0.heap.size b L)) (hl : L.length ≤ 8796093022000) :
    Calls Tryz.prog 14 #[a, b] w fun e w' => e = .returned (.bool true) ∧ Hid (QL w0 w' xa ra F vo TO vw TW ex) := by
  have h1 := IN.sameM_any a b L L w (IN.OM.rb (h.oi hi)) (IN.OM.rb (h.oi hj)) (by omega) (by omega)
  rw [decide_eq_true rfl] at h1
  refine h1.mono ?_
  rintro e w' ⟨rfl, hb⟩
  exact ⟨rfl, hide (h.later hb)⟩
theorem QL.len (h : QL w0 w xa ra F vo TO vw TW ex) (f : Bool) (hr : RelD (F f).Z (F f).E) :
    Calls Tryz.prog 23 #[.pointer (some ⟨(F f).q, 0, none⟩)] w fun e w' => e = .returned (.int .i64 ((F f).E.length : Int)) ∧ Hid (QL w0 w' xa ra F vo TO vw TW ex) := by
  refine (lenQ_any _ _ _ w (h.qs f)).mono ?_
  rintro e w' ⟨rfl, rfl⟩
  rw [hr.len]
  exact ⟨rfl, hide h⟩
theorem QL.full (h : QL w0 w xa ra F vo TO vw TW ex) (f : Bool) {n : Nat} (hS : SR (F f).Z (F f).room (F f).E n) :
    Calls Tryz.prog 24 #[.pointer (some ⟨(F f).q, 0, none⟩)] w fun e w' => e = .returned (.bool (decide (((F f).E.length : Int) ≥ (F f).room))) ∧ Hid (QL w0 w' xa ra F vo TO vw TW ex) := by
  refine (full_dn _ _ _ w (h.qs f).qm).mono ?_
  rintro e w' ⟨rfl, n, rfl⟩
  have e : (((F f).Z.A.length : Int) == (F f).Z.room) = decide (((F f).E.length : Int) ≥ (F f).room) := by
    have a := hS.ar
    have b := hS.rel.len
    rw [hS.rm]
    by_cases hh : ((F f).Z.A.length : Int) = (F f).room
    · rw [beq_iff_eq.2 hh]; exact (decide_eq_true (by omega)).symm
    · rw [beq_eq_false_iff_ne.2 hh]; exact (decide_eq_false (by omega)).symm
  rw [e]
  exact ⟨rfl, hide (h.later (below_dU (Below.refl _ _) n))⟩
theorem QL.rfull (h : QL w0 w xa ra F vo TO vw TW ex) (f : Bool) :
    Calls Tryz.prog 25 #[.pointer (some ⟨(F f).r, 0, none⟩)] w fun e w' => e = .returned (.bool (decide (((F f).E.length : Int) ≥ (F f).room))) ∧ Hid (QL w0 w' xa ra F vo TO vw TW ex) := by
  refine (rfull_any _ _ _ _ _ w (h.dq f)).mono ?_
  rintro e w' ⟨rfl, n, rfl⟩
  exact ⟨rfl, hide (h.later (below_dU (Below.refl _ _) n))⟩
end
theorem own_some {w : World} {B : Nat} {e : TypeId} {k n : Nat} {v : Value} {xs : List Value} (h : w.ownsRow B e k v n xs) (hn : 0 < n) : ∃ g cap, v = .slice (some ⟨g, 0, none⟩) n cap ∧ n ≤ cap := by
  rcases h.2 with ⟨_, h0⟩ | ⟨g, cap, cur, h1, _, _, h2, _⟩
  · omega
  · exact ⟨g, cap, h1, h2⟩
theorem map_snd2 {TO TW : List (Value × List Int)} (h : TO.map (·.2) = TW.map (·.2)) (a b c d : Value) (L M : List Int) : (TO ++ [(a, L), (b, M)]).map (·.2) = (TW ++ [(c, L), (d, M)]).map (·.2) := by
  rw [List.map_append, List.map_append, h]; rfl
theorem map_snd {TO TW : List (Value × List Int)} (h : TO.map (·.2) = TW.map (·.2)) (a b : Value) (L : List Int) : (TO ++ [(a, L)]).map (·.2) = (TW ++ [(b, L)]).map (·.2) := by
  rw [List.map_append, List.map_append, h]; rfl
set_option maxRecDepth 100000 in
set_option maxHeartbeats 16000000 in
theorem script_law (m0 m1 : Int) (v : Value) (L : List Oq) (w : World) (hv : RO w v L) (hl : L.length ≤ 2932031007402) (hET : ErrType w) :
    Calls Tryz.prog 4 #[.agg #[.int .i64 m0, .int .i64 m1], v] w fun e w' => e = .returned (.bool true) ∧ Below w.heap.size w w' := by
  obtain ⟨hok, sa, scap, rfl, hs⟩ := hv
  have HS := hide hs
  have HOK := hide hok
  have HL := hide hl
  have HET := hide hET
  obtain ⟨bb, hbb⟩ : ∃ bb, w.heap.size = bb := ⟨_, rfl⟩
  have HB0 : Hid (Sep w (w.alloc (.cells #[.int .i64 m0, .int .i64 m1] 29)) [BCp bb #[.int .i64 m0, .int .i64 m1] 29]) := hide (by rw [← hbb]; exact (Sep.nil (Below.refl _ _)).box #[.int .i64 m0, .int .i64 m1] 29)
  clear hs hok hl hET
  go_enter Tryz.func4, Tryz.ntmps4
  go_upto_region 1 with fail
  go_cut [5] (fun o wx => ∃ (xa q0 q1 : Nat) (Z0 Z1 : Qx) (O0 O1 : Nat → Prop), o = .pointer (some ⟨xa, 0, none⟩) ∧ Hid (Sep w wx [BCp bb #[.int .i64 m0, .int .i64 m1] 29, QCp O0 q0 Z0, QCp O1 q1 Z1, BCp xa #[.pointer (some ⟨q0, 0, none⟩), .pointer (some ⟨q1, 0, none⟩)] 44]) ∧ Hid (SR Z0 (max m0 0) [] 0 ∧ SR Z1 (max m1 0) [] 0))
  case first =>
    as_aux_lemma =>
      obtain ⟨W0, hW0⟩ : ∃ W0, w.alloc (.cells #[.int .i64 m0, .int .i64 m1] 29) = W0 := ⟨_, rfl⟩
      rw [hW0] at HB0
      try rw [hW0]
      clear hW0 hbb
      have HSd := hide (HB0.out.later ((Below.refl W0.heap.size W0).drew))
      refine z_begins (S := (fun W : World => W.cell? ⟨bb, 0, none⟩ = some (.int .i64 m0) ∧ W.cell? ⟨bb, 1, none⟩ = some (.int .i64 m1))) 8 9 #[false, false, false, false, false, false, false, false, false] (by kernel_rfl) (by kernel_rfl) (by kernel_rfl) (box2_of HSd.out) (fun hHeld => ?_)
      refine zk (v := ?_) 0 14 #[true, false, false, false, false, false, false, false, false] rfl rfl (by kernel_rfl) (by kernel_rfl) (by kernel_rfl) (by kernel_rfl) (fun _ _ _ h => h) (by kernel_rfl) (by rfl) ?hy hHeld ?_
      case hy => intro W _; first | (go_simp; done) | (go_simp; with_reducible rfl)
      simp only [List.setIfInBounds_toArray, List.set_cons_zero, List.set_cons_succ]
      refine zk (v := ?_) 1 15 #[true, true, false, false, false, false, false, false, false] rfl rfl (by kernel_rfl) (by kernel_rfl) (by kernel_rfl) (by kernel_rfl) (fun _ _ _ h => h) (by kernel_rfl) (by rfl) ?hy hHeld ?_
      case hy => rintro W ⟨hr0, hr1⟩; first | (go_simp; done) | (go_simp; with_reducible rfl)
      simp only [List.setIfInBounds_toArray, List.set_cons_zero, List.set_cons_succ]
      refine zk (v := ?_) 3 17 #[true, true, false, true, false, false, false, false, false] rfl rfl (by kernel_rfl) (by kernel_rfl) (by kernel_rfl) (by kernel_rfl) (fun _ _ _ h => h) (by kernel_rfl) (by rfl) ?hy hHeld ?_
      case hy => intro W _; first | (go_simp; done) | (go_simp; with_reducible rfl)
      simp only [List.setIfInBounds_toArray, List.set_cons_zero, List.set_cons_succ]
      refine zk (v := ?_) 4 18 #[true, true, false, true, true, false, false, false, false] rfl rfl (by kernel_rfl) (by kernel_rfl) (by kernel_rfl) (by kernel_rfl) (fun _ _ _ h => h) (by kernel_rfl) (by rfl) ?hy hHeld ?_
      case hy => rintro W ⟨hr0, hr1⟩; first | (go_simp; done) | (go_simp; with_reducible rfl)
      simp only [List.setIfInBounds_toArray, List.set_cons_zero, List.set_cons_succ]
      refine z_two 2 7 #[true, true, true, true, true, false, false, false, false] #[true, true, false, true, true, false, false, true, false] rfl rfl (by kernel_rfl) (by kernel_rfl) (by kernel_rfl) (by rfl) (by rfl) (fun K hK => ?_) (fun K hK => ?_)
      · skip
        refine op_call_fn 6 #[.int .i64 m0] (by kernel_rfl) ?_
        refine (HSd.out.newQ m0).mono ?_
        rintro e w5 ⟨q5, Z5, O5, rfl, H5, S5⟩
        refine ⟨_, rfl, ?_⟩
        go_simp
        refine hK.out _ _ (fun _ => box2_of H5.out) (fun hHeld => ?_)
        replace hHeld := hHeld (by decide)
        clear hK K
        refine z_two 5 7 #[true, true, true, true, true, true, false, false, false] #[true, true, true, true, true, false, false, true, false] rfl rfl (by kernel_rfl) (by kernel_rfl) (by kernel_rfl) (by rfl) (by rfl) (fun K hK => ?_) (fun K hK => ?_)
        · skip
          refine op_call_fn 6 #[.int .i64 m1] (by kernel_rfl) ?_
          refine (H5.out.newQ m1).mono ?_
          rintro e w6 ⟨q6, Z6, O6, rfl, H6, S6⟩
          refine ⟨_, rfl, ?_⟩
          go_simp
          refine hK.out _ _ (fun _ => box2_of H6.out) (fun hHeld => ?_)
          replace hHeld := hHeld (by decide)
          clear hK K
          refine zk (v := ?_) 6 20 #[true, true, true, true, true, true, true, false, false] rfl rfl (by kernel_rfl) (by kernel_rfl) (by kernel_rfl) (by kernel_rfl) (fun _ _ _ h => h) (by kernel_rfl) (by rfl) ?hy hHeld ?_
          case hy => intro W _; first | (go_simp; done) | (go_simp; with_reducible rfl)
          simp only [List.setIfInBounds_toArray, List.set_cons_zero, List.set_cons_succ]
          refine z_ready 7 #[true, true, true, true, true, true, true, true, false] rfl (by kernel_rfl) (by kernel_rfl) (by rfl) (fun K hK => ?_)
          have H7 := hide (H6.out.box #[.pointer none, .pointer none] 44)
          go_simp
          refine hK.out _ _ (fun _ => box2_of H7.out) (fun hHeld => ?_)
          replace hHeld := hHeld (by decide)
          clear hK K
          refine z_ready 8 #[true, true, true, true, true, true, true, true, true] rfl (by kernel_rfl) (by kernel_rfl) (by rfl) (fun K hK => ?_)
          refine wp_store_rowQ 44 _ _ rfl rfl (w6.heap.size) #[.pointer (some ⟨q5, 0, none⟩), .pointer (some ⟨q6, 0, none⟩)] rfl rfl _ _ (H7.out.is 3 _ rfl) Tryz.sizeQQ rfl (by simp [Value.oneCell']) ?_
          refine hK.out _ _ (fun h => absurd rfl h) (fun _ => ?_)
          clear hK K
          refine z_done (by kernel_rfl) ?_ _
          have HF := hide (Sep.setBox (i := 3) H7.out rfl #[.pointer (some ⟨q5, 0, none⟩), .pointer (some ⟨q6, 0, none⟩)])
          go_wp2_with fail
          go_meet
          exact ⟨_, q5, q6, Z5, Z6, O5, O6, rfl, hide (HF.out), hide ⟨S5.out, S6.out⟩⟩
        · skip
          have H7 := hide (H5.out.box #[.pointer none, .pointer none] 44)
          go_simp
          refine hK.out _ _ (fun _ => box2_of H7.out) (fun hHeld => ?_)
          replace hHeld := hHeld (by decide)
          clear hK K
          refine z_ready 5 #[true, true, true, true, true, true, false, true, false] rfl (by kernel_rfl) (by kernel_rfl) (by rfl) (fun K hK => ?_)
          refine op_call_fn 6 #[.int .i64 m1] (by kernel_rfl) ?_
          refine (H7.out.newQ m1).mono ?_
          rintro e w6 ⟨q6, Z6, O6, rfl, H6, S6⟩
          refine ⟨_, rfl, ?_⟩
          go_simp
          refine hK.out _ _ (fun _ => box2_of H6.out) (fun hHeld => ?_)
          replace hHeld := hHeld (by decide)
          clear hK K
          refine zk (v := ?_) 6 20 #[true, true, true, true, true, true, true, true, false] rfl rfl (by kernel_rfl) (by kernel_rfl) (by kernel_rfl) (by kernel_rfl) (fun _ _ _ h => h) (by kernel_rfl) (by rfl) ?hy hHeld ?_
          case hy => intro W _; first | (go_simp; done) | (go_simp; with_reducible rfl)
          simp only [List.setIfInBounds_toArray, List.set_cons_zero, List.set_cons_succ]
          refine z_ready 8 #[true, true, true, true, true, true, true, true, true] rfl (by kernel_rfl) (by kernel_rfl) (by rfl) (fun K hK => ?_)
          refine wp_store_rowQ 44 _ _ rfl rfl (w5.heap.size) #[.pointer (some ⟨q5, 0, none⟩), .pointer (some ⟨q6, 0, none⟩)] rfl rfl _ _ (H6.out.is 2 _ rfl) Tryz.sizeQQ rfl (by simp [Value.oneCell']) ?_
          refine hK.out _ _ (fun h => absurd rfl h) (fun _ => ?_)
          clear hK K
          refine z_done (by kernel_rfl) ?_ _
          have HF := hide (Sep.setBox (i := 2) H6.out rfl #[.pointer (some ⟨q5, 0, none⟩), .pointer (some ⟨q6, 0, none⟩)])
          go_wp2_with fail
          go_meet
          exact ⟨_, q5, q6, Z5, Z6, O5, O6, rfl, hide (Sep.swap (cs := [BCp bb #[.int .i64 m0, .int .i64 m1] 29, QCp O5 q5 Z5]) (a := BCp (w5.heap.size) #[.pointer (some ⟨q5, 0, none⟩), .pointer (some ⟨q6, 0, none⟩)] 44) (b := QCp O6 q6 Z6) (ds := []) HF.out), hide ⟨S5.out, S6.out⟩⟩
      · skip
        have H7 := hide (HSd.out.box #[.pointer none, .pointer none] 44)
        go_simp
        refine hK.out _ _ (fun _ => box2_of H7.out) (fun hHeld => ?_)
        replace hHeld := hHeld (by decide)
        clear hK K
        refine z_ready 2 #[true, true, true, true, true, false, false, true, false] rfl (by kernel_rfl) (by kernel_rfl) (by rfl) (fun K hK => ?_)
        refine op_call_fn 6 #[.int .i64 m0] (by kernel_rfl) ?_
        refine (H7.out.newQ m0).mono ?_
        rintro e w5 ⟨q5, Z5, O5, rfl, H5, S5⟩
        refine ⟨_, rfl, ?_⟩
        go_simp
        refine hK.out _ _ (fun _ => box2_of H5.out) (fun hHeld => ?_)
        replace hHeld := hHeld (by decide)
        clear hK K
        refine z_ready 5 #[true, true, true, true, true, true, false, true, false] rfl (by kernel_rfl) (by kernel_rfl) (by rfl) (fun K hK => ?_)
        refine op_call_fn 6 #[.int .i64 m1] (by kernel_rfl) ?_
        refine (H5.out.newQ m1).mono ?_
        rintro e w6 ⟨q6, Z6, O6, rfl, H6, S6⟩
        refine ⟨_, rfl, ?_⟩
        go_simp
        refine hK.out _ _ (fun _ => box2_of H6.out) (fun hHeld => ?_)
        replace hHeld := hHeld (by decide)
        clear hK K
        refine zk (v := ?_) 6 20 #[true, true, true, true, true, true, true, true, false] rfl rfl (by kernel_rfl) (by kernel_rfl) (by kernel_rfl) (by kernel_rfl) (fun _ _ _ h => h) (by kernel_rfl) (by rfl) ?hy hHeld ?_
        case hy => intro W _; first | (go_simp; done) | (go_simp; with_reducible rfl)
        simp only [List.setIfInBounds_toArray, List.set_cons_zero, List.set_cons_succ]
        refine z_ready 8 #[true, true, true, true, true, true, true, true, true] rfl (by kernel_rfl) (by kernel_rfl) (by rfl) (fun K hK => ?_)
        refine wp_store_rowQ 44 _ _ rfl rfl (W0.heap.size) #[.pointer (some ⟨q5, 0, none⟩), .pointer (some ⟨q6, 0, none⟩)] rfl rfl _ _ (H6.out.is 1 _ rfl) Tryz.sizeQQ rfl (by simp [Value.oneCell']) ?_
        refine hK.out _ _ (fun h => absurd rfl h) (fun _ => ?_)
        clear hK K
        refine z_done (by kernel_rfl) ?_ _
        have HF := hide (Sep.setBox (i := 1) H6.out rfl #[.pointer (some ⟨q5, 0, none⟩), .pointer (some ⟨q6, 0, none⟩)])
        go_wp2_with fail
        go_meet
        exact ⟨_, q5, q6, Z5, Z6, O5, O6, rfl, hide (Sep.swap (cs := [BCp bb #[.int .i64 m0, .int .i64 m1] 29, QCp O5 q5 Z5]) (a := BCp (W0.heap.size) #[.pointer (some ⟨q5, 0, none⟩), .pointer (some ⟨q6, 0, none⟩)] 44) (b := QCp O6 q6 Z6) (ds := []) (Sep.swap (cs := [BCp bb #[.int .i64 m0, .int .i64 m1] 29]) (a := BCp (W0.heap.size) #[.pointer (some ⟨q5, 0, none⟩), .pointer (some ⟨q6, 0, none⟩)] 44) (b := QCp O5 q5 Z5) (ds := [QCp O6 q6 Z6]) HF.out)), hide ⟨S5.out, S6.out⟩⟩
  case rest =>
    obtain ⟨xa, q0, q1, Z0, Z1, O0, O1, rfl, HX, HSS⟩ := hcut
    have HBB := hide hbb
    clear HB0 hbb
    generalize wc = W1 at HX ⊢
    go_upto_region 2 with fail
    go_cut [6] (fun o wx => ∃ (ra : Nat) (F : Bool → Qf), o = .pointer (some ⟨ra, 0, none⟩) ∧ Hid (QL w wx xa ra F (.slice none 0 0) [] (.slice none 0 0) [] []) ∧ Hid (∀ f, SR (F f).Z (F f).room (F f).E 0))
    case first =>
      as_aux_lemma =>
        have HSd := hide (HX.out.later ((Below.refl W1.heap.size W1).drew))
        refine z_begins (S := (fun W : World => W.cell? ⟨bb, 0, none⟩ = some (.int .i64 m0) ∧ W.cell? ⟨bb, 1, none⟩ = some (.int .i64 m1))) 8 9 #[false, false, false, false, false, false, false, false, false] (by kernel_rfl) (by kernel_rfl) (by kernel_rfl) (box2_of HSd.out) (fun hHeld => ?_)
        refine zk (v := ?_) 0 21 #[true, false, false, false, false, false, false, false, false] rfl rfl (by kernel_rfl) (by kernel_rfl) (by kernel_rfl) (by kernel_rfl) (fun _ _ _ h => h) (by kernel_rfl) (by rfl) ?hy hHeld ?_
        case hy => intro W _; first | (go_simp; done) | (go_simp; with_reducible rfl)
        simp only [List.setIfInBounds_toArray, List.set_cons_zero, List.set_cons_succ]
        refine zk (v := ?_) 1 22 #[true, true, false, false, false, false, false, false, false] rfl rfl (by kernel_rfl) (by kernel_rfl) (by kernel_rfl) (by kernel_rfl) (fun _ _ _ h => h) (by kernel_rfl) (by rfl) ?hy hHeld ?_
        case hy => rintro W ⟨hr0, hr1⟩; first | (go_simp; done) | (go_simp; with_reducible rfl)
        simp only [List.setIfInBounds_toArray, List.set_cons_zero, List.set_cons_succ]
        refine zk (v := ?_) 3 24 #[true, true, false, true, false, false, false, false, false] rfl rfl (by kernel_rfl) (by kernel_rfl) (by kernel_rfl) (by kernel_rfl) (fun _ _ _ h => h) (by kernel_rfl) (by rfl) ?hy hHeld ?_
        case hy => intro W _; first | (go_simp; done) | (go_simp; with_reducible rfl)
        simp only [List.setIfInBounds_toArray, List.set_cons_zero, List.set_cons_succ]
        refine zk (v := ?_) 4 25 #[true, true, false, true, true, false, false, false, false] rfl rfl (by kernel_rfl) (by kernel_rfl) (by kernel_rfl) (by kernel_rfl) (fun _ _ _ h => h) (by kernel_rfl) (by rfl) ?hy hHeld ?_
        case hy => rintro W ⟨hr0, hr1⟩; first | (go_simp; done) | (go_simp; with_reducible rfl)
        simp only [List.setIfInBounds_toArray, List.set_cons_zero, List.set_cons_succ]
        refine z_two 2 7 #[true, true, true, true, true, false, false, false, false] #[true, true, false, true, true, false, false, true, false] rfl rfl (by kernel_rfl) (by kernel_rfl) (by kernel_rfl) (by rfl) (by rfl) (fun K hK => ?_) (fun K hK => ?_)
        · skip
          refine op_call_fn 16 #[.int .i64 m0] (by kernel_rfl) ?_
          refine (HSd.out.newR m0).mono ?_
          rintro e w5 ⟨q5, rfl, H5⟩
          refine ⟨_, rfl, ?_⟩
          go_simp
          refine hK.out _ _ (fun _ => box2_of H5.out) (fun hHeld => ?_)
          replace hHeld := hHeld (by decide)
          clear hK K
          refine z_two 5 7 #[true, true, true, true, true, true, false, false, false] #[true, true, true, true, true, false, false, true, false] rfl rfl (by kernel_rfl) (by kernel_rfl) (by kernel_rfl) (by rfl) (by rfl) (fun K hK => ?_) (fun K hK => ?_)
          · skip
            refine op_call_fn 16 #[.int .i64 m1] (by kernel_rfl) ?_
            refine (H5.out.newR m1).mono ?_
            rintro e w6 ⟨q6, rfl, H6⟩
            refine ⟨_, rfl, ?_⟩
            go_simp
            refine hK.out _ _ (fun _ => box2_of H6.out) (fun hHeld => ?_)
            replace hHeld := hHeld (by decide)
            clear hK K
            refine zk (v := ?_) 6 27 #[true, true, true, true, true, true, true, false, false] rfl rfl (by kernel_rfl) (by kernel_rfl) (by kernel_rfl) (by kernel_rfl) (fun _ _ _ h => h) (by kernel_rfl) (by rfl) ?hy hHeld ?_
            case hy => intro W _; first | (go_simp; done) | (go_simp; with_reducible rfl)
            simp only [List.setIfInBounds_toArray, List.set_cons_zero, List.set_cons_succ]
            refine z_ready 7 #[true, true, true, true, true, true, true, true, false] rfl (by kernel_rfl) (by kernel_rfl) (by rfl) (fun K hK => ?_)
            have H7 := hide (H6.out.box #[.pointer none, .pointer none] 47)
            go_simp
            refine hK.out _ _ (fun _ => box2_of H7.out) (fun hHeld => ?_)
            replace hHeld := hHeld (by decide)
            clear hK K
            refine z_ready 8 #[true, true, true, true, true, true, true, true, true] rfl (by kernel_rfl) (by kernel_rfl) (by rfl) (fun K hK => ?_)
            refine wp_store_rowQ 47 _ _ rfl rfl (w6.heap.size) #[.pointer (some ⟨q5, 0, none⟩), .pointer (some ⟨q6, 0, none⟩)] rfl rfl _ _ (H7.out.is 6 _ rfl) Tryz.sizeRQ rfl (by simp [Value.oneCell']) ?_
            refine hK.out _ _ (fun h => absurd rfl h) (fun _ => ?_)
            clear hK K
            refine z_done (by kernel_rfl) ?_ _
            have HF := hide (Sep.setBox (i := 6) H7.out rfl #[.pointer (some ⟨q5, 0, none⟩), .pointer (some ⟨q6, 0, none⟩)])
            go_wp2_with fail
            go_meet
            exact ⟨_, _, rfl, hide (QL.start (HF.out)), hide (fun f => by cases f; exact HSS.out.1; exact HSS.out.2)⟩
          · skip
            have H7 := hide (H5.out.box #[.pointer none, .pointer none] 47)
            go_simp
            refine hK.out _ _ (fun _ => box2_of H7.out) (fun hHeld => ?_)
            replace hHeld := hHeld (by decide)
            clear hK K
            refine z_ready 5 #[true, true, true, true, true, true, false, true, false] rfl (by kernel_rfl) (by kernel_rfl) (by rfl) (fun K hK => ?_)
            refine op_call_fn 16 #[.int .i64 m1] (by kernel_rfl) ?_
            refine (H7.out.newR m1).mono ?_
            rintro e w6 ⟨q6, rfl, H6⟩
            refine ⟨_, rfl, ?_⟩
            go_simp
            refine hK.out _ _ (fun _ => box2_of H6.out) (fun hHeld => ?_)
            replace hHeld := hHeld (by decide)
            clear hK K
            refine zk (v := ?_) 6 27 #[true, true, true, true, true, true, true, true, false] rfl rfl (by kernel_rfl) (by kernel_rfl) (by kernel_rfl) (by kernel_rfl) (fun _ _ _ h => h) (by kernel_rfl) (by rfl) ?hy hHeld ?_
            case hy => intro W _; first | (go_simp; done) | (go_simp; with_reducible rfl)
            simp only [List.setIfInBounds_toArray, List.set_cons_zero, List.set_cons_succ]
            refine z_ready 8 #[true, true, true, true, true, true, true, true, true] rfl (by kernel_rfl) (by kernel_rfl) (by rfl) (fun K hK => ?_)
            refine wp_store_rowQ 47 _ _ rfl rfl (w5.heap.size) #[.pointer (some ⟨q5, 0, none⟩), .pointer (some ⟨q6, 0, none⟩)] rfl rfl _ _ (H6.out.is 5 _ rfl) Tryz.sizeRQ rfl (by simp [Value.oneCell']) ?_
            refine hK.out _ _ (fun h => absurd rfl h) (fun _ => ?_)
            clear hK K
            refine z_done (by kernel_rfl) ?_ _
            have HF := hide (Sep.setBox (i := 5) H6.out rfl #[.pointer (some ⟨q5, 0, none⟩), .pointer (some ⟨q6, 0, none⟩)])
            go_wp2_with fail
            go_meet
            exact ⟨_, _, rfl, hide (QL.start (Sep.swap (cs := [BCp bb #[.int .i64 m0, .int .i64 m1] 29, QCp O0 q0 Z0, QCp O1 q1 Z1, BCp xa #[.pointer (some ⟨q0, 0, none⟩), .pointer (some ⟨q1, 0, none⟩)] 44, DCp w.heap.size q5 (max m0 0) (.slice none 0 0) []]) (a := BCp (w5.heap.size) #[.pointer (some ⟨q5, 0, none⟩), .pointer (some ⟨q6, 0, none⟩)] 47) (b := DCp w.heap.size q6 (max m1 0) (.slice none 0 0) []) (ds := []) HF.out)), hide (fun f => by cases f; exact HSS.out.1; exact HSS.out.2)⟩
        · skip
          have H7 := hide (HSd.out.box #[.pointer none, .pointer none] 47)
          go_simp
          refine hK.out _ _ (fun _ => box2_of H7.out) (fun hHeld => ?_)
          replace hHeld := hHeld (by decide)
          clear hK K
          refine z_ready 2 #[true, true, true, true, true, false, false, true, false] rfl (by kernel_rfl) (by kernel_rfl) (by rfl) (fun K hK => ?_)
          refine op_call_fn 16 #[.int .i64 m0] (by kernel_rfl) ?_
          refine (H7.out.newR m0).mono ?_
          rintro e w5 ⟨q5, rfl, H5⟩
          refine ⟨_, rfl, ?_⟩
          go_simp
          refine hK.out _ _ (fun _ => box2_of H5.out) (fun hHeld => ?_)
          replace hHeld := hHeld (by decide)
          clear hK K
          refine z_ready 5 #[true, true, true, true, true, true, false, true, false] rfl (by kernel_rfl) (by kernel_rfl) (by rfl) (fun K hK => ?_)
          refine op_call_fn 16 #[.int .i64 m1] (by kernel_rfl) ?_
          refine (H5.out.newR m1).mono ?_
          rintro e w6 ⟨q6, rfl, H6⟩
          refine ⟨_, rfl, ?_⟩
          go_simp
          refine hK.out _ _ (fun _ => box2_of H6.out) (fun hHeld => ?_)
          replace hHeld := hHeld (by decide)
          clear hK K
          refine zk (v := ?_) 6 27 #[true, true, true, true, true, true, true, true, false] rfl rfl (by kernel_rfl) (by kernel_rfl) (by kernel_rfl) (by kernel_rfl) (fun _ _ _ h => h) (by kernel_rfl) (by rfl) ?hy hHeld ?_
          case hy => intro W _; first | (go_simp; done) | (go_simp; with_reducible rfl)
          simp only [List.setIfInBounds_toArray, List.set_cons_zero, List.set_cons_succ]
          refine z_ready 8 #[true, true, true, true, true, true, true, true, true] rfl (by kernel_rfl) (by kernel_rfl) (by rfl) (fun K hK => ?_)
          refine wp_store_rowQ 47 _ _ rfl rfl (W1.heap.size) #[.pointer (some ⟨q5, 0, none⟩), .pointer (some ⟨q6, 0, none⟩)] rfl rfl _ _ (H6.out.is 4 _ rfl) Tryz.sizeRQ rfl (by simp [Value.oneCell']) ?_
          refine hK.out _ _ (fun h => absurd rfl h) (fun _ => ?_)
          clear hK K
          refine z_done (by kernel_rfl) ?_ _
          have HF := hide (Sep.setBox (i := 4) H6.out rfl #[.pointer (some ⟨q5, 0, none⟩), .pointer (some ⟨q6, 0, none⟩)])
          go_wp2_with fail
          go_meet
          exact ⟨_, _, rfl, hide (QL.start (Sep.swap (cs := [BCp bb #[.int .i64 m0, .int .i64 m1] 29, QCp O0 q0 Z0, QCp O1 q1 Z1, BCp xa #[.pointer (some ⟨q0, 0, none⟩), .pointer (some ⟨q1, 0, none⟩)] 44, DCp w.heap.size q5 (max m0 0) (.slice none 0 0) []]) (a := BCp (W1.heap.size) #[.pointer (some ⟨q5, 0, none⟩), .pointer (some ⟨q6, 0, none⟩)] 47) (b := DCp w.heap.size q6 (max m1 0) (.slice none 0 0) []) (ds := []) (Sep.swap (cs := [BCp bb #[.int .i64 m0, .int .i64 m1] 29, QCp O0 q0 Z0, QCp O1 q1 Z1, BCp xa #[.pointer (some ⟨q0, 0, none⟩), .pointer (some ⟨q1, 0, none⟩)] 44]) (a := BCp (W1.heap.size) #[.pointer (some ⟨q5, 0, none⟩), .pointer (some ⟨q6, 0, none⟩)] 47) (b := DCp w.heap.size q5 (max m0 0) (.slice none 0 0) []) (ds := [DCp w.heap.size q6 (max m1 0) (.slice none 0 0) []]) HF.out))), hide (fun f => by cases f; exact HSS.out.1; exact HSS.out.2)⟩
    case rest =>
      obtain ⟨ra, F0, rfl, HQ0, HR0⟩ := hcut
      clear HX HSS
      generalize wc = W2 at HQ0 ⊢
      have x0 := (HQ0.out.xf false).1
      have x1 := (HQ0.out.xf true).1
      rw [show (false : Bool).toNat = 0 from rfl] at x0
      rw [show (true : Bool).toNat = 1 from rfl] at x1
      obtain ⟨qa, hqa⟩ : ∃ qa, (F0 false).q = qa := ⟨_, rfl⟩
      obtain ⟨qb, hqb⟩ : ∃ qb, (F0 true).q = qb := ⟨_, rfl⟩
      rw [hqa] at x0
      rw [hqb] at x1
      have gn := gtNilQ
      clear hqa hqb
      go_wp2_with fail
      clear x0 x1
      go_loopw [7, 8, 9] (fun vo vw i wr => ∃ (k : Nat) (F : Bool → Qf) (TO TW : List (Value × List Int)), k ≤ L.length ∧ i = .int .i64 (k : Int) ∧ Hid (QL w wr xa ra F vo TO vw TW []) ∧ Hid (∀ f, SR (F f).Z (F f).room (F f).E k) ∧ Hid (TO.map (·.2) = TW.map (·.2)) ∧ Hid (TO.length ≤ k)) (fun _ _ i _ => L.length - (intOf i).toNat)
      case atStart => exact ⟨0, F0, [], [], Nat.zero_le _, rfl, HQ0, HR0, hide rfl, hide (Nat.le_refl _)⟩
      case round =>
        clear HQ0 HR0
        obtain ⟨k, F, TO, TW, hk, rfl, HP, HSR, HTE, HTL⟩ := hrel
        obtain ⟨oa, oc, hvo⟩ := HP.out.to.slc
        subst hvo
        obtain ⟨wa, wc, hvw⟩ := HP.out.tw.slc
        subst hvw
        have HTW : Hid (TW.length ≤ k) := hide (by have h := congrArg List.length HTE.out; rw [List.length_map, List.length_map] at h; rw [← h]; exact HTL.out)
        by_cases hlt : k < L.length
        · obtain ⟨p, hp⟩ : ∃ p, L[k]? = some p := ⟨_, List.getElem?_eq_getElem hlt⟩
          obtain ⟨sb, soff, ha, hsl, hsc⟩ := HS.out.resolve_left (fun h => by rw [h] at hlt; simp at hlt)
          obtain ⟨e0, e1, e2, e3⟩ := hsc k _ hp
          have c0 := (HP.out.bl.cell (p := ⟨sb, _, none⟩) hsl).trans e0
          have c1 : wr.cell? ⟨sb, soff + (k * 4 + 1), none⟩ = _ := (HP.out.bl.cell (p := ⟨sb, _, none⟩) hsl).trans e1
          have c2 : wr.cell? ⟨sb, soff + (k * 4 + 2), none⟩ = _ := (HP.out.bl.cell (p := ⟨sb, _, none⟩) hsl).trans e2
          have c3 : wr.cell? ⟨sb, soff + (k * 4 + 3), none⟩ = some (.slice p.ka p.ks.length p.kc) := (HP.out.bl.cell (p := ⟨sb, _, none⟩) hsl).trans e3
          have c1' : wr.cell? ⟨sb, soff + k * 4 + 1, none⟩ = _ := c1
          have c2' : wr.cell? ⟨sb, soff + k * 4 + 2, none⟩ = _ := c2
          have c3' : wr.cell? ⟨sb, soff + k * 4 + 3, none⟩ = _ := c3
          have HPO := hide (HOK.out p (List.mem_of_getElem? hp))
          subst ha
          obtain ⟨hd1, i0, i1, wk⟩ := ix hlt (by have := HL.out; omega)
          obtain ⟨f, hf⟩ := f_ofQ p.on
          obtain ⟨kd, hkd, hkk9⟩ := nineQ p.kind
          obtain ⟨kk, hkk⟩ : ∃ kk, f.toNat = kk := ⟨_, rfl⟩
          have HKK : Hid (kk < 2) := hide (by rw [← hkk]; exact bool_ltQ f)
          have HKF := hide hkk
          obtain ⟨hb, hhb⟩ : ∃ hb, (F f).q = hb := ⟨_, rfl⟩
          obtain ⟨rb, hrb⟩ : ∃ rb, (F f).r = rb := ⟨_, rfl⟩
          have HHB := hide hhb
          have HRB := hide hrb
          obtain ⟨W8, hW8⟩ : ∃ W8, wr.alloc (.cells #[.int .i64 p.on, .int .i64 p.kind, .int .i64 p.id, .slice p.ka p.ks.length p.kc] 26) = W8 := ⟨_, rfl⟩
          have H8 : Hid (QL w W8 xa ra F (.slice oa TO.length oc) TO (.slice wa TW.length wc) TW [BCp wr.heap.size #[.int .i64 p.on, .int .i64 p.kind, .int .i64 p.id, .slice p.ka p.ks.length p.kc] 26]) := hide (by rw [← hW8]; exact HP.out.box _ _)
          obtain ⟨y0, y1, y2, y3⟩ := four_cellsQ (H8.out.bx (i := 0) rfl)
          have g0 : W8.cell? ⟨xa, kk, none⟩ = some (.pointer (some ⟨hb, 0, none⟩)) := by rw [← hkk, ← hhb]; exact (H8.out.xf f).1
          have g1 : W8.cell? ⟨ra, kk, none⟩ = some (.pointer (some ⟨rb, 0, none⟩)) := by rw [← hkk, ← hrb]; exact (H8.out.rf f).1
          have HPK := hide (pick_any p.on 2 W8 (by omega) (by omega))
          rw [hf, hkk] at HPK
          have HPK2 := hide (pick_any p.kind 9 W8 (by omega) (by omega))
          rw [hkd] at HPK2
          have HLT := hide hlt
          have HNB : Hid (∀ f, (F f).E.length ≤ k) := hide (fun f => by have := (HSR.out f).nn; have := (HP.out.qs f).ok.an; have := (HSR.out f).rel.len; omega)
          obtain ⟨xb, hxb⟩ : ∃ xb, xb = wr.heap.size := ⟨_, rfl⟩
          clear hsc hp hsl hk e0 e1 e2 e3 hf hkk hhb hrb hkd
          go_wp2_with fail
          rw [← hxb] at y0 y1 y2 y3 H8 ⊢
          clear hxb c0 c1 c2 c3 c1' c2' c3' hW8 HP
          refine HPK.out.mono ?_
          rintro r w9 ⟨rfl, e9⟩
          replace e9 := e9.symm
          subst e9
          have j0 : (0 : Int) ≤ (kk : Int) := Int.natCast_nonneg _
          have j1 : (kk : Int) < 2 := by have := HKK.out; omega
          have j2 : kk < 2 := HKK.out
          go_wp2_with fail
          refine HPK2.out.mono ?_
          rintro r w9 ⟨rfl, e9⟩
          replace e9 := e9.symm
          subst e9
          clear HPK HPK2
          rcases hkk9 with rfl | rfl | rfl | ⟨n6, n7, n8, hk5⟩
          · skip
            as_aux_lemma =>
              obtain ⟨K, hK⟩ : ∃ K, ((F f).Z.A.map fun x => ((F f).Z.T x).id) = K := ⟨_, rfl⟩
              have HKL : Hid (K.length ≤ 8796093022000) := hide (by
                have := (HSR.out f).rel.len; have := HNB.out f; have := HLT.out; have := HL.out
                have e : K.length ≤ (F f).Z.A.length := by rw [← hK, List.length_map]; first | exact Nat.le_refl _ | exact List.length_filter_le _ _
                omega)
              have HK := hide hK
              have HC := hide (H8.out.items f hK)
              rw [HHB.out] at HC
              clear hK
              go_wp2_with fail
              refine HC.out.mono ?_
              rintro e w5 ⟨a5, c5, rfl, H5⟩
              clear HC H8 y0 y1 y2 y3 g0 g1

              obtain ⟨it6, hit6, hz06, hz16, hz26⟩ := info_parts IN.Tryz.infoBS
              have HO6 := hide H5.out.to.row
              have HBS6 : Hid (w.heap.size ≤ w5.heap.size) := hide H5.out.bl.size
              have HTB6 : Hid (TO.length + 1 ≤ 2932031007403) := hide (by have := HTL.out; have := HLT.out; have := HL.out; omega)
              obtain ⟨cs6, hcs6⟩ : ∃ cs, TO.map (·.1) = cs := ⟨_, rfl⟩
              rw [hcs6] at HO6
              have HCS6 := hide hcs6
              clear hcs6
              go_wp2_with (first
                | (at_builtin; refine wpList_append_own_at _ rfl _ _ 48 rfl w.heap.size 40 it6 (.slice none 0 0) 1 24 Tryz.underlying48 hit6 hz06 hz16 hz26 rfl (by decide) _ _ _ rfl (HO6.out.alloc _) ⟨_, 0, none⟩ 1 1 [.slice a5 K.length c5] rfl rfl ?c1 ?c2 ?c3 ?c4 ?c5 ?_))
              case c3 => have := HTB6.out; unfold maxLen; omega
              case c4 => have := HTB6.out; omega
              case c5 => have := HBS6.out; simp; omega
              case c1 => first | exact cell_one_new _ _ _ | exact fun j u hj => by rw [Addr.add_lit, cell_of_row _ _ _ _ _ _ (alloc_new w5 _), Nat.zero_add]; simpa using hj
              case c2 => first | rfl | exact ⟨rfl, trivial⟩ | (intro u hu; simp at hu; subst hu; rfl)
              intro v6 w6 hown6 hgrow6 _ hat6
              rw [← HCS6.out] at hown6
              have Z6 := hide (QL.tellO (ex := [BCp xb _ _]) (H5.out.later ((Below.refl _ _).alloc (Nat.le_refl _) _)) hown6 hgrow6 (hat6.imp_right (fun e => by rw [e]; simp)) HKL.out)
              obtain ⟨a6, c6, hv6⟩ := Z6.out.to.slc
              subst hv6
              obtain ⟨n6, hn6⟩ : ∃ n, (TO ++ [(Value.slice a5 K.length c5, K)]).length = n := ⟨_, rfl⟩
              have HN6 : Hid (n6 = TO.length + 1) := hide (by rw [← hn6]; simp)
              rw [hn6] at Z6 ⊢
              have HM6 := hide hn6
              clear hown6 hgrow6 hat6 HO6 H5 hn6 hit6 hz06 hz16 hz26 HBS6

              have g1 : w6.cell? ⟨ra, kk, none⟩ = some (.pointer (some ⟨rb, 0, none⟩)) := by rw [← HKF.out, ← HRB.out]; exact (Z6.out.rf f).1
              have HC := hide (Z6.out.ritems f (HSR.out f).rel (by have := HNB.out f; have := HLT.out; have := HL.out; omega) HK.out)
              rw [HRB.out] at HC
              go_wp2_with fail
              refine HC.out.mono ?_
              rintro e w7 ⟨a7, c7, rfl, H7⟩
              clear HC Z6 g1

              obtain ⟨it9, hit9, hz09, hz19, hz29⟩ := info_parts IN.Tryz.infoBS
              have HO9 := hide H7.out.tw.row
              have HBS9 : Hid (w.heap.size ≤ w7.heap.size) := hide H7.out.bl.size
              have HTB9 : Hid (TW.length + 1 ≤ 2932031007403) := hide (by have := HTW.out; have := HLT.out; have := HL.out; omega)
              obtain ⟨cs9, hcs9⟩ : ∃ cs, TW.map (·.1) = cs := ⟨_, rfl⟩
              rw [hcs9] at HO9
              have HCS9 := hide hcs9
              clear hcs9
              go_wp2_with (first
                | (at_builtin; refine wpList_append_own_at _ rfl _ _ 48 rfl w.heap.size 40 it9 (.slice none 0 0) 1 24 Tryz.underlying48 hit9 hz09 hz19 hz29 rfl (by decide) _ _ _ rfl (HO9.out.alloc _) ⟨_, 0, none⟩ 1 1 [.slice a7 K.length c7] rfl rfl ?c1 ?c2 ?c3 ?c4 ?c5 ?_))
              case c3 => have := HTB9.out; unfold maxLen; omega
              case c4 => have := HTB9.out; omega
              case c5 => have := HBS9.out; simp; omega
              case c1 => first | exact cell_one_new _ _ _ | exact fun j u hj => by rw [Addr.add_lit, cell_of_row _ _ _ _ _ _ (alloc_new w7 _), Nat.zero_add]; simpa using hj
              case c2 => first | rfl | exact ⟨rfl, trivial⟩ | (intro u hu; simp at hu; subst hu; rfl)
              intro v9 w9 hown9 hgrow9 _ hat9
              rw [← HCS9.out] at hown9
              have Z9 := hide (QL.tellW (ex := [BCp xb _ _]) (H7.out.later ((Below.refl _ _).alloc (Nat.le_refl _) _)) hown9 hgrow9 (hat9.imp_right (fun e => by rw [e]; simp)) HKL.out)
              obtain ⟨a9, c9, hv9⟩ := Z9.out.tw.slc
              subst hv9
              obtain ⟨n9, hn9⟩ : ∃ n, (TW ++ [(Value.slice a7 K.length c7, K)]).length = n := ⟨_, rfl⟩
              have HN9 : Hid (n9 = TW.length + 1) := hide (by rw [← hn9]; simp)
              rw [hn9] at Z9 ⊢
              have HM9 := hide hn9
              clear hown9 hgrow9 hat9 HO9 H7 hn9 hit9 hz09 hz19 hz29 HBS9

              have HZ := hide Z9.out.bare
              have HE9 := hide (map_snd HTE.out (.slice a5 K.length c5) (.slice a7 K.length c7) K)
              have HZ2 := hide (SRs.next HSR.out)
              clear Z9
              go_wp2_with fail
              go_roundw
              case rel => exact ⟨k + 1, F, _, _, HLT.out, congrArg (Value.int .i64) wk, HZ, HZ2, HE9, hide (by rw [HM6.out, HN6.out]; have := HTL.out; omega)⟩
              case measure => first | exact meas_up HLT.out | (rw [wk]; exact meas_up HLT.out)
          · skip
            as_aux_lemma =>
              obtain ⟨K, hK⟩ : ∃ K, (((F f).Z.A.filter fun x => ((F f).Z.T x).st == 0).map fun x => ((F f).Z.T x).id) = K := ⟨_, rfl⟩
              have HKL : Hid (K.length ≤ 8796093022000) := hide (by
                have := (HSR.out f).rel.len; have := HNB.out f; have := HLT.out; have := HL.out
                have e : K.length ≤ (F f).Z.A.length := by rw [← hK, List.length_map]; first | exact Nat.le_refl _ | exact List.length_filter_le _ _
                omega)
              have HK := hide hK
              have HC := hide (H8.out.idle f hK)
              rw [HHB.out] at HC
              clear hK
              go_wp2_with fail
              refine HC.out.mono ?_
              rintro e w5 ⟨a5, c5, rfl, H5⟩
              clear HC H8 y0 y1 y2 y3 g0 g1

              obtain ⟨it6, hit6, hz06, hz16, hz26⟩ := info_parts IN.Tryz.infoBS
              have HO6 := hide H5.out.to.row
              have HBS6 : Hid (w.heap.size ≤ w5.heap.size) := hide H5.out.bl.size
              have HTB6 : Hid (TO.length + 1 ≤ 2932031007403) := hide (by have := HTL.out; have := HLT.out; have := HL.out; omega)
              obtain ⟨cs6, hcs6⟩ : ∃ cs, TO.map (·.1) = cs := ⟨_, rfl⟩
              rw [hcs6] at HO6
              have HCS6 := hide hcs6
              clear hcs6
              go_wp2_with (first
                | (at_builtin; refine wpList_append_own_at _ rfl _ _ 48 rfl w.heap.size 40 it6 (.slice none 0 0) 1 24 Tryz.underlying48 hit6 hz06 hz16 hz26 rfl (by decide) _ _ _ rfl (HO6.out.alloc _) ⟨_, 0, none⟩ 1 1 [.slice a5 K.length c5] rfl rfl ?c1 ?c2 ?c3 ?c4 ?c5 ?_))
              case c3 => have := HTB6.out; unfold maxLen; omega
              case c4 => have := HTB6.out; omega
              case c5 => have := HBS6.out; simp; omega
              case c1 => first | exact cell_one_new _ _ _ | exact fun j u hj => by rw [Addr.add_lit, cell_of_row _ _ _ _ _ _ (alloc_new w5 _), Nat.zero_add]; simpa using hj
              case c2 => first | rfl | exact ⟨rfl, trivial⟩ | (intro u hu; simp at hu; subst hu; rfl)
              intro v6 w6 hown6 hgrow6 _ hat6
              rw [← HCS6.out] at hown6
              have Z6 := hide (QL.tellO (ex := [BCp xb _ _]) (H5.out.later ((Below.refl _ _).alloc (Nat.le_refl _) _)) hown6 hgrow6 (hat6.imp_right (fun e => by rw [e]; simp)) HKL.out)
              obtain ⟨a6, c6, hv6⟩ := Z6.out.to.slc
              subst hv6
              obtain ⟨n6, hn6⟩ : ∃ n, (TO ++ [(Value.slice a5 K.length c5, K)]).length = n := ⟨_, rfl⟩
              have HN6 : Hid (n6 = TO.length + 1) := hide (by rw [← hn6]; simp)
              rw [hn6] at Z6 ⊢
              have HM6 := hide hn6
              clear hown6 hgrow6 hat6 HO6 H5 hn6 hit6 hz06 hz16 hz26 HBS6

              have g1 : w6.cell? ⟨ra, kk, none⟩ = some (.pointer (some ⟨rb, 0, none⟩)) := by rw [← HKF.out, ← HRB.out]; exact (Z6.out.rf f).1
              have HC := hide (Z6.out.ridles f (HSR.out f).rel (by have := HNB.out f; have := HLT.out; have := HL.out; omega) HK.out)
              rw [HRB.out] at HC
              go_wp2_with fail
              refine HC.out.mono ?_
              rintro e w7 ⟨a7, c7, rfl, H7⟩
              clear HC Z6 g1

              obtain ⟨it9, hit9, hz09, hz19, hz29⟩ := info_parts IN.Tryz.infoBS
              have HO9 := hide H7.out.tw.row
              have HBS9 : Hid (w.heap.size ≤ w7.heap.size) := hide H7.out.bl.size
              have HTB9 : Hid (TW.length + 1 ≤ 2932031007403) := hide (by have := HTW.out; have := HLT.out; have := HL.out; omega)
              obtain ⟨cs9, hcs9⟩ : ∃ cs, TW.map (·.1) = cs := ⟨_, rfl⟩
              rw [hcs9] at HO9
              have HCS9 := hide hcs9
              clear hcs9
              go_wp2_with (first
                | (at_builtin; refine wpList_append_own_at _ rfl _ _ 48 rfl w.heap.size 40 it9 (.slice none 0 0) 1 24 Tryz.underlying48 hit9 hz09 hz19 hz29 rfl (by decide) _ _ _ rfl (HO9.out.alloc _) ⟨_, 0, none⟩ 1 1 [.slice a7 K.length c7] rfl rfl ?c1 ?c2 ?c3 ?c4 ?c5 ?_))
              case c3 => have := HTB9.out; unfold maxLen; omega
              case c4 => have := HTB9.out; omega
              case c5 => have := HBS9.out; simp; omega
              case c1 => first | exact cell_one_new _ _ _ | exact fun j u hj => by rw [Addr.add_lit, cell_of_row _ _ _ _ _ _ (alloc_new w7 _), Nat.zero_add]; simpa using hj
              case c2 => first | rfl | exact ⟨rfl, trivial⟩ | (intro u hu; simp at hu; subst hu; rfl)
              intro v9 w9 hown9 hgrow9 _ hat9
              rw [← HCS9.out] at hown9
              have Z9 := hide (QL.tellW (ex := [BCp xb _ _]) (H7.out.later ((Below.refl _ _).alloc (Nat.le_refl _) _)) hown9 hgrow9 (hat9.imp_right (fun e => by rw [e]; simp)) HKL.out)
              obtain ⟨a9, c9, hv9⟩ := Z9.out.tw.slc
              subst hv9
              obtain ⟨n9, hn9⟩ : ∃ n, (TW ++ [(Value.slice a7 K.length c7, K)]).length = n := ⟨_, rfl⟩
              have HN9 : Hid (n9 = TW.length + 1) := hide (by rw [← hn9]; simp)
              rw [hn9] at Z9 ⊢
              have HM9 := hide hn9
              clear hown9 hgrow9 hat9 HO9 H7 hn9 hit9 hz09 hz19 hz29 HBS9

              have HZ := hide Z9.out.bare
              have HE9 := hide (map_snd HTE.out (.slice a5 K.length c5) (.slice a7 K.length c7) K)
              have HZ2 := hide (SRs.next HSR.out)
              clear Z9
              go_wp2_with fail
              go_roundw
              case rel => exact ⟨k + 1, F, _, _, HLT.out, congrArg (Value.int .i64) wk, HZ, HZ2, HE9, hide (by rw [HM6.out, HN6.out]; have := HTL.out; omega)⟩
              case measure => first | exact meas_up HLT.out | (rw [wk]; exact meas_up HLT.out)
          · skip
            as_aux_lemma =>
              have HC := hide (newQ_any p.id W8)
              go_wp2_with fail
              refine HC.out.mono ?_
              rintro e w5 ⟨q5, Z5, O5, rfl, s1, s2, s3, s4, s5, s6, _⟩
              have t0 := (s3.cell (p := ⟨xa, kk, none⟩) (Array.getElem?_eq_some_iff.1 H8.out.xac).1).trans g0
              have t1 : w5.frozen? ⟨xa, kk, none⟩ = false := by have h := (H8.out.later s3).xf f; rw [HKF.out] at h; exact h.2
              have H6 := hide (H8.out.newX f s3 s1 s2)
              rw [HKF.out] at H6
              have HS0 := hide (SR.start s4 s5 s6 (k + 1))
              clear HC s1 s2 s3 s4 s5 s6 H8 y0 y1 y2 y3 g0 g1
              obtain ⟨W6, hW6⟩ : ∃ W, w5.setCell ⟨xa, kk, none⟩ (.pointer (some ⟨q5, 0, none⟩)) = W := ⟨_, rfl⟩
              rw [hW6] at H6
              have HC := hide (rnew_any p.id W6)
              have y2 := (four_cellsQ (H6.out.bx (i := 0) rfl)).2.2.1
              go_wp2_with fail
              refine HC.out.mono ?_
              rintro e w7 ⟨rfl, e7⟩
              replace e7 := e7.symm
              subst e7
              have hb7 := (Below.refl W6.heap.size W6).alloc (Nat.le_refl _) (.cells #[.int .i64 (max p.id 0), .slice none 0 0] 56)
              obtain ⟨w7, hw7⟩ : ∃ w7, W6.alloc (.cells #[.int .i64 (max p.id 0), .slice none 0 0] 56) = w7 := ⟨_, rfl⟩
              have H7 := hide (H6.out.newR f (max p.id 0))
              rw [HKF.out, hw7] at H7
              rw [hw7] at hb7 ⊢
              have t2 := ((H6.out.later hb7).rf f).1
              have t3 := ((H6.out.later hb7).rf f).2
              rw [HKF.out] at t2 t3
              obtain ⟨zr, hzr⟩ : ∃ z, W6.heap.size = z := ⟨_, rfl⟩
              rw [hzr] at H7
              obtain ⟨W7, hW7⟩ : ∃ W, w7.setCell ⟨ra, kk, none⟩ (.pointer (some ⟨zr, 0, none⟩)) = W := ⟨_, rfl⟩
              rw [hW7] at H7
              have g0 := (H7.out.xf f).1
              rw [upQ_at, HKF.out] at g0
              simp only [upQ_at] at g0
              have HZ := hide H7.out.bare
              have HZ2 := hide (SRs.up2 (f := f) (x := ⟨O5, q5, Z5, (F f).r, (F f).room, (F f).vl, (F f).E⟩) (y := ⟨(upQ f ⟨O5, q5, Z5, (F f).r, (F f).room, (F f).vl, (F f).E⟩ F f).O, (upQ f ⟨O5, q5, Z5, (F f).r, (F f).room, (F f).vl, (F f).E⟩ F f).q, (upQ f ⟨O5, q5, Z5, (F f).r, (F f).room, (F f).vl, (F f).E⟩ F f).Z, zr, max p.id 0, .slice none 0 0, []⟩) HSR.out (by show SR (upQ f _ F f).Z _ _ _; rw [upQ_at]; exact HS0.out))
              clear HC H6 H7 hb7 t0 t1 HS0
              go_wp2_with fail
              go_roundw
              case rel => exact ⟨k + 1, _, TO, TW, HLT.out, congrArg (Value.int .i64) wk, HZ, HZ2, HTE, hide (Nat.le_succ_of_le HTL.out)⟩
              case measure => first | exact meas_up HLT.out | (rw [wk]; exact meas_up HLT.out)
          · skip
            as_aux_lemma =>
              have HC := hide ((H8.out.later ((Below.refl W8.heap.size W8).drew)).step f (HSR.out f) (by have := HLT.out; have := HL.out; omega) HET.out HPO.out hk5)
              rw [HHB.out, HRB.out] at HC
              go_wp2_with fail
              have hHeld : Hid ((fun W => W.cell? ⟨xa, kk, none⟩ = some (.pointer (some ⟨hb, 0, none⟩)) ∧ W.cell? ⟨ra, kk, none⟩ = some (.pointer (some ⟨rb, 0, none⟩)) ∧ W.cell? ⟨xb, 0, none⟩ = some (.int .i64 p.on) ∧ W.cell? ⟨xb, 1, none⟩ = some (.int .i64 p.kind) ∧ W.cell? ⟨xb, 2, none⟩ = some (.int .i64 p.id) ∧ W.cell? ⟨xb, 3, none⟩ = some (.slice p.ka p.ks.length p.kc)) W8.drew) := hide ⟨g0, g1, y0, y1, y2, y3⟩
              clear g0 g1 y0 y1 y2 y3
              refine s_begins (S := fun W => W.cell? ⟨xa, kk, none⟩ = some (.pointer (some ⟨hb, 0, none⟩)) ∧ W.cell? ⟨ra, kk, none⟩ = some (.pointer (some ⟨rb, 0, none⟩)) ∧ W.cell? ⟨xb, 0, none⟩ = some (.int .i64 p.on) ∧ W.cell? ⟨xb, 1, none⟩ = some (.int .i64 p.kind) ∧ W.cell? ⟨xb, 2, none⟩ = some (.int .i64 p.id) ∧ W.cell? ⟨xb, 3, none⟩ = some (.slice p.ka p.ks.length p.kc)) [8] 10 #[false, false, false, false, false, false, false, false, false, false] (by kernel_rfl) (by kernel_rfl) (by kernel_rfl) ?_
              refine sk0 (v := ?_) 0 101 #[true, false, false, false, false, false, false, false, false, false] rfl rfl (by kernel_rfl) (by kernel_rfl) (by kernel_rfl) (by kernel_rfl) (fun _ _ _ h => h) (by kernel_rfl) (by rfl) ?hy (fun _ => hHeld.out) ?_
              case hy => intro W; first | (go_simp; done) | (go_simp; with_reducible rfl)
              simp only [List.setIfInBounds_toArray, List.set_cons_zero, List.set_cons_succ]
              refine sk0 (v := ?_) 1 102 #[true, true, false, false, false, false, false, false, false, false] rfl rfl (by kernel_rfl) (by kernel_rfl) (by kernel_rfl) (by kernel_rfl) (fun _ _ _ h => h) (by kernel_rfl) (by rfl) ?hy (fun _ => hHeld.out) ?_
              case hy => intro W; first | (go_simp; done) | (go_simp; with_reducible rfl)
              simp only [List.setIfInBounds_toArray, List.set_cons_zero, List.set_cons_succ]
              refine sk1 (v := ?_) 2 103 #[true, true, true, false, false, false, false, false, false, false] rfl rfl (by kernel_rfl) (by kernel_rfl) (by kernel_rfl) (by kernel_rfl) (by kernel_rfl) (by kernel_rfl) (fun _ _ _ h => h) (by kernel_rfl) (by rfl) ?hy hHeld.out ?_
              case hy => rintro W ⟨e0, e1, e2, e3, e4, e5⟩; first | (go_simp; done) | (go_simp; with_reducible rfl)
              simp only [List.setIfInBounds_toArray, List.set_cons_zero, List.set_cons_succ]
              refine sk0 (v := ?_) 3 104 #[true, true, true, true, false, false, false, false, false, false] rfl rfl (by kernel_rfl) (by kernel_rfl) (by kernel_rfl) (by kernel_rfl) (fun _ _ _ h => h) (by kernel_rfl) (by rfl) ?hy (fun _ => hHeld.out) ?_
              case hy => intro W; first | (go_simp; done) | (go_simp; with_reducible rfl)
              simp only [List.setIfInBounds_toArray, List.set_cons_zero, List.set_cons_succ]
              refine sk0 (v := ?_) 4 105 #[true, true, true, true, true, false, false, false, false, false] rfl rfl (by kernel_rfl) (by kernel_rfl) (by kernel_rfl) (by kernel_rfl) (fun _ _ _ h => h) (by kernel_rfl) (by rfl) ?hy (fun _ => hHeld.out) ?_
              case hy => intro W; first | (go_simp; done) | (go_simp; with_reducible rfl)
              simp only [List.setIfInBounds_toArray, List.set_cons_zero, List.set_cons_succ]
              refine sk1 (v := ?_) 5 106 #[true, true, true, true, true, true, false, false, false, false] rfl rfl (by kernel_rfl) (by kernel_rfl) (by kernel_rfl) (by kernel_rfl) (by kernel_rfl) (by kernel_rfl) (fun _ _ _ h => h) (by kernel_rfl) (by rfl) ?hy hHeld.out ?_
              case hy => rintro W ⟨e0, e1, e2, e3, e4, e5⟩; first | (go_simp; done) | (go_simp; with_reducible rfl)
              simp only [List.setIfInBounds_toArray, List.set_cons_zero, List.set_cons_succ]
              refine sk1 (v := ?_) 6 107 #[true, true, true, true, true, true, true, false, false, false] rfl rfl (by kernel_rfl) (by kernel_rfl) (by kernel_rfl) (by kernel_rfl) (by kernel_rfl) (by kernel_rfl) (fun _ _ _ h => h) (by kernel_rfl) (by rfl) ?hy hHeld.out ?_
              case hy => rintro W ⟨e0, e1, e2, e3, e4, e5⟩; first | (go_simp; done) | (go_simp; with_reducible rfl)
              simp only [List.setIfInBounds_toArray, List.set_cons_zero, List.set_cons_succ]
              refine sk0 (v := ?_) 7 108 #[true, true, true, true, true, true, true, true, false, false] rfl rfl (by kernel_rfl) (by kernel_rfl) (by kernel_rfl) (by kernel_rfl) (fun _ _ _ h => h) (by kernel_rfl) (by rfl) ?hy (fun _ => hHeld.out) ?_
              case hy => intro W; first | (go_simp; done) | (go_simp; with_reducible rfl)
              simp only [List.setIfInBounds_toArray, List.set_cons_zero, List.set_cons_succ]
              refine s_ready 8 #[true, true, true, true, true, true, true, true, true, false] rfl (by kernel_rfl) (by kernel_rfl) (by rfl) (fun K hK => ?_)
              go_simp
              refine HC.out.mono ?_
              rintro e w5 ⟨rfl, x, H5, S5⟩
              refine hK.out _ _ (fun h => absurd h (by decide)) ?_
              clear hK K
              refine s_ready 9 #[true, true, true, true, true, true, true, true, true, true] rfl (by kernel_rfl) (by kernel_rfl) (by rfl) (fun K hK => ?_)
              go_simp
              refine hK.out _ _ (fun h => absurd h (by decide)) ?_
              clear hK K
              refine s_done (by kernel_rfl) ?_ _
              have HZ := hide (H5.out.bare)
              have HZ2 := hide (SRs.up (f := f) HSR.out S5.out)
              clear HC H5 S5 H8 hHeld
              go_wp2_with fail
              go_roundw
              case rel => exact ⟨k + 1, _, TO, TW, HLT.out, congrArg (Value.int .i64) wk, HZ, HZ2, HTE, hide (Nat.le_succ_of_le HTL.out)⟩
              case measure => first | exact meas_up HLT.out | (rw [wk]; exact meas_up HLT.out)
        · skip
          as_aux_lemma =>
            have e : k = L.length := by omega
            subst e
            have HNB : Hid (∀ f, (F f).E.length ≤ L.length) := hide (fun f => by have := (HSR.out f).nn; have := (HP.out.qs f).ok.an; have := (HSR.out f).rel.len; omega)
            have HLN2 : decide ((L.length : Int) < (L.length : Int)) = false := by simp
            clear hk hlt
            go_wp2_with fail
            clear HLN2
            go_loopw [7, 8, 13] (fun vo vw i wr => ∃ (m : Nat) (TO TW : List (Value × List Int)), m ≤ 2 ∧ i = .int .i64 (m : Int) ∧ Hid (QL w wr xa ra F vo TO vw TW []) ∧ Hid (TO.map (·.2) = TW.map (·.2)) ∧ Hid (TO.length ≤ L.length + 2 * m) ∧ Hid (2 * m ≤ TO.length)) (fun _ _ i _ => 2 - (intOf i).toNat)
            case atStart => exact ⟨0, TO, TW, Nat.zero_le _, rfl, HP, HTE, hide (by have := HTL.out; omega), hide (Nat.zero_le _)⟩
            case round =>
              clear HP HTE HTL HTW
              obtain ⟨m, TO, TW, hm, rfl, HP, HTE, HTL, HT2⟩ := hrel
              obtain ⟨oa, oc, hvo⟩ := HP.out.to.slc
              subst hvo
              obtain ⟨wa, wc, hvw⟩ := HP.out.tw.slc
              subst hvw
              have HTW : Hid (TW.length ≤ L.length + 2 * m) := hide (by have h := congrArg List.length HTE.out; rw [List.length_map, List.length_map] at h; rw [← h]; exact HTL.out)
              by_cases hlt : m < 2
              · skip
                as_aux_lemma =>
                  obtain ⟨f, hf⟩ : ∃ f : Bool, f.toNat = m := by
                    rcases (show m = 0 ∨ m = 1 by omega) with rfl | rfl
                    · exact ⟨false, rfl⟩
                    · exact ⟨true, rfl⟩
                  have HF := hide hf
                  obtain ⟨hb, hhb⟩ : ∃ hb, (F f).q = hb := ⟨_, rfl⟩
                  obtain ⟨rb, hrb⟩ : ∃ rb, (F f).r = rb := ⟨_, rfl⟩
                  have HHB := hide hhb
                  have HRB := hide hrb
                  obtain ⟨K, hK⟩ : ∃ K, ((F f).Z.A.map fun x => ((F f).Z.T x).id) = K := ⟨_, rfl⟩
                  obtain ⟨J, hJ⟩ : ∃ J, (((F f).Z.A.filter fun x => ((F f).Z.T x).st == 0).map fun x => ((F f).Z.T x).id) = J := ⟨_, rfl⟩
                  have HKL : Hid (K.length ≤ 8796093022000) := hide (by
                    have := (HSR.out f).rel.len; have := HNB.out f; have := HL.out
                    have e : K.length ≤ (F f).Z.A.length := by rw [← hK, List.length_map]; exact Nat.le_refl _
                    omega)
                  have HJL : Hid (J.length ≤ 8796093022000) := hide (by
                    have := (HSR.out f).rel.len; have := HNB.out f; have := HL.out
                    have e : J.length ≤ (F f).Z.A.length := by rw [← hJ, List.length_map]; exact List.length_filter_le _ _
                    omega)
                  have HK := hide hK
                  have HJ := hide hJ
                  have hd1 : decide ((m : Int) < 2) = true := decide_eq_true (by omega)
                  have i0 : (0 : Int) ≤ (m : Int) := Int.natCast_nonneg _
                  have i1 : (m : Int) < 2 := by omega
                  have wk : wrap64 ((m : Int) + 1) = (m : Int) + 1 := by unfold wrap64; omega
                  have HLT := hide hlt
                  have j2 : m < 2 := hlt
                  clear hf hhb hrb hK hJ hm hlt
                  have HPd := hide (HP.out.later ((Below.refl wr.heap.size wr).drew))
                  have HX : Hid (∀ (W : World) (ex : List Cp), QL w W xa ra F (.slice oa TO.length oc) TO (.slice wa TW.length wc) TW ex → W.cell? ⟨xa, m, none⟩ = some (.pointer (some ⟨hb, 0, none⟩))) := hide (fun W ex h => by rw [← HF.out, ← HHB.out]; exact (h.xf f).1)
                  have HCI : Hid (∀ (W : World) (ex : List Cp), QL w W xa ra F (.slice oa TO.length oc) TO (.slice wa TW.length wc) TW ex → Calls Tryz.prog 15 #[.pointer (some ⟨hb, 0, none⟩)] W fun e w' => ∃ a cap, e = .returned (.slice a K.length cap) ∧ Hid (QL w w' xa ra F (.slice oa TO.length oc) TO (.slice wa TW.length wc) TW (ex ++ [OIp w.heap.size (.slice a K.length cap) K]))) := hide (fun W ex h => by rw [← HHB.out]; exact h.items f HK.out)
                  have HCD : Hid (∀ (W : World) (ex : List Cp), QL w W xa ra F (.slice oa TO.length oc) TO (.slice wa TW.length wc) TW ex → Calls Tryz.prog 12 #[.pointer (some ⟨hb, 0, none⟩)] W fun e w' => ∃ a cap, e = .returned (.slice a J.length cap) ∧ Hid (QL w w' xa ra F (.slice oa TO.length oc) TO (.slice wa TW.length wc) TW (ex ++ [OIp w.heap.size (.slice a J.length cap) J]))) := hide (fun W ex h => by rw [← HHB.out]; exact h.idle f HJ.out)
                  clear HP
                  go_wp2_with fail
                  refine z_begins (S := (fun W : World => W.cell? ⟨xa, m, none⟩ = some (.pointer (some ⟨hb, 0, none⟩)))) 11 12 #[false, false, false, false, false, false, false, false, false, false, false, false] (by kernel_rfl) (by kernel_rfl) (by kernel_rfl) (HX.out _ _ HPd.out) (fun hHeld => ?_)
                  refine zk (v := ?_) 0 115 #[true, false, false, false, false, false, false, false, false, false, false, false] rfl rfl (by kernel_rfl) (by kernel_rfl) (by kernel_rfl) (by kernel_rfl) (fun _ _ _ h => h) (by kernel_rfl) (by rfl) ?hy hHeld ?_
                  case hy => intro W _; first | (go_simp; done) | (go_simp; with_reducible rfl)
                  simp only [List.setIfInBounds_toArray, List.set_cons_zero, List.set_cons_succ]
                  refine zk (v := ?_) 1 116 #[true, true, false, false, false, false, false, false, false, false, false, false] rfl rfl (by kernel_rfl) (by kernel_rfl) (by kernel_rfl) (by kernel_rfl) (fun _ _ _ h => h) (by kernel_rfl) (by rfl) ?hy hHeld ?_
                  case hy => intro W _; first | (go_simp; done) | (go_simp; with_reducible rfl)
                  simp only [List.setIfInBounds_toArray, List.set_cons_zero, List.set_cons_succ]
                  refine zk (v := ?_) 2 117 #[true, true, true, false, false, false, false, false, false, false, false, false] rfl rfl (by kernel_rfl) (by kernel_rfl) (by kernel_rfl) (by kernel_rfl) (fun _ _ _ h => h) (by kernel_rfl) (by rfl) ?hy hHeld ?_
                  case hy => intro W _; first | (go_simp; done) | (go_simp; with_reducible rfl)
                  simp only [List.setIfInBounds_toArray, List.set_cons_zero, List.set_cons_succ]
                  refine zk (v := ?_) 3 118 #[true, true, true, true, false, false, false, false, false, false, false, false] rfl rfl (by kernel_rfl) (by kernel_rfl) (by kernel_rfl) (by kernel_rfl) (fun _ _ _ h => h) (by kernel_rfl) (by rfl) ?hy hHeld ?_
                  case hy => rintro W hr0; first | (go_simp; done) | (go_simp; with_reducible rfl)
                  simp only [List.setIfInBounds_toArray, List.set_cons_zero, List.set_cons_succ]
                  refine zk (v := ?_) 5 120 #[true, true, true, true, false, true, false, false, false, false, false, false] rfl rfl (by kernel_rfl) (by kernel_rfl) (by kernel_rfl) (by kernel_rfl) (fun _ _ _ h => h) (by kernel_rfl) (by rfl) ?hy hHeld ?_
                  case hy => intro W _; first | (go_simp; done) | (go_simp; with_reducible rfl)
                  simp only [List.setIfInBounds_toArray, List.set_cons_zero, List.set_cons_succ]
                  refine zk (v := ?_) 6 121 #[true, true, true, true, false, true, true, false, false, false, false, false] rfl rfl (by kernel_rfl) (by kernel_rfl) (by kernel_rfl) (by kernel_rfl) (fun _ _ _ h => h) (by kernel_rfl) (by rfl) ?hy hHeld ?_
                  case hy => intro W _; first | (go_simp; done) | (go_simp; with_reducible rfl)
                  simp only [List.setIfInBounds_toArray, List.set_cons_zero, List.set_cons_succ]
                  refine zk (v := ?_) 7 122 #[true, true, true, true, false, true, true, true, false, false, false, false] rfl rfl (by kernel_rfl) (by kernel_rfl) (by kernel_rfl) (by kernel_rfl) (fun _ _ _ h => h) (by kernel_rfl) (by rfl) ?hy hHeld ?_
                  case hy => rintro W hr0; first | (go_simp; done) | (go_simp; with_reducible rfl)
                  simp only [List.setIfInBounds_toArray, List.set_cons_zero, List.set_cons_succ]
                  refine z_ready 4 #[true, true, true, true, true, true, true, true, false, false, false, false] rfl (by kernel_rfl) (by kernel_rfl) (by rfl) (fun K' hK => ?_)
                  refine op_call_fn 15 #[.pointer (some ⟨hb, 0, none⟩)] (by kernel_rfl) ?_
                  refine (HCI.out _ _ HPd.out).mono ?_
                  rintro e wp5 ⟨ap5, cp5, rfl, Hp5⟩
                  refine ⟨_, rfl, ?_⟩
                  go_simp
                  refine hK.out _ _ (fun _ => HX.out _ _ Hp5.out) (fun hHeld => ?_)
                  replace hHeld := hHeld (by decide)
                  clear hK K'
                  refine z_ready 8 #[true, true, true, true, true, true, true, true, true, false, false, false] rfl (by kernel_rfl) (by kernel_rfl) (by rfl) (fun K' hK => ?_)
                  refine op_call_fn 12 #[.pointer (some ⟨hb, 0, none⟩)] (by kernel_rfl) ?_
                  refine (HCD.out _ _ Hp5.out).mono ?_
                  rintro e wp6 ⟨ap6, cp6, rfl, Hp6⟩
                  refine ⟨_, rfl, ?_⟩
                  go_simp
                  refine hK.out _ _ (fun _ => HX.out _ _ Hp6.out) (fun hHeld => ?_)
                  replace hHeld := hHeld (by decide)
                  clear hK K'
                  have Hp7 : Hid (QL w (wp6.alloc (.cells #[(.slice ap5 K.length cp5), (.slice ap6 J.length cp6)] 40)) xa ra F (.slice oa TO.length oc) TO (.slice wa TW.length wc) TW ([] ++ [OIp w.heap.size (.slice ap5 K.length cp5) K, OIp w.heap.size (.slice ap6 J.length cp6) J])) := hide (Hp6.out.later ((Below.refl wp6.heap.size wp6).alloc (Nat.le_refl _) (.cells #[(.slice ap5 K.length cp5), (.slice ap6 J.length cp6)] 40)))
                  refine z_ready 9 #[true, true, true, true, true, true, true, true, true, true, false, false] rfl (by kernel_rfl) (by kernel_rfl) (by rfl) (fun K' hK => ?_)
                  go_simp
                  refine hK.out _ _ (fun _ => HX.out _ _ Hp7.out) (fun hHeld => ?_)
                  replace hHeld := hHeld (by decide)
                  clear hK K'
                  obtain ⟨it0, hit, hz0, hz1, hz2⟩ := info_parts IN.Tryz.infoBS
                  obtain ⟨v8, wp8, hrun, ho8, hg8, _, hat8⟩ := run_append_own_at (P := Tryz.prog) (wp6.alloc (.cells #[(.slice ap5 K.length cp5), (.slice ap6 J.length cp6)] 40)) w.heap.size 48 48 40 it0 (.slice none 0 0) 1 24 Tryz.underlying48 hit hz0 hz1 hz2 rfl (by decide) (.slice oa TO.length oc) TO.length (TO.map (·.1)) Hp7.out.to.row ⟨wp6.heap.size, 0, none⟩ 2 2 [(.slice ap5 K.length cp5), (.slice ap6 J.length cp6)] rfl (by
                    obtain ⟨k0, k1⟩ := pair_cells (alloc_new wp6 (.cells #[(.slice ap5 K.length cp5), (.slice ap6 J.length cp6)] 40)) rfl
                    intro j u hj
                    match j, hj with
                    | 0, hj => have e : _ = u := Option.some.inj hj; rw [← e]; exact k0
                    | 1, hj => have e : _ = u := Option.some.inj hj; rw [← e]; exact k1
                    | j + 2, hj => simp at hj) (by intro u hu; simp at hu; rcases hu with rfl | rfl <;> rfl) (by have := HTL.out; have := HLT.out; have := HL.out; unfold maxLen; omega) (by have := HTL.out; have := HLT.out; have := HL.out; omega) (by have := Hp7.out.bl.size; exact this)
                  have Hp8 := hide (Hp7.out.tellO2 ho8 hg8 hat8 HKL.out HJL.out)
                  obtain ⟨ap8, cp8, hv8⟩ := Hp8.out.to.slc
                  subst hv8
                  have HRUN := hide hrun
                  obtain ⟨np8, hn8⟩ : ∃ n, (TO ++ [(((.slice ap5 K.length cp5) : Value), K), (((.slice ap6 J.length cp6) : Value), J)]).length = n := ⟨_, rfl⟩
                  have HNp8 : Hid (np8 = TO.length + 2) := hide (by rw [← hn8]; simp)
                  have HMp8 := hide hn8
                  rw [hn8] at HRUN Hp8
                  have Hp8x : Hid (wp8.cell? ⟨xa, m, none⟩ = some (.pointer (some ⟨hb, 0, none⟩))) := hide (by rw [← HF.out, ← HHB.out]; exact (Hp8.out.xf f).1)
                  clear hrun ho8 hg8 hat8 hn8 Hp7 Hp6 Hp5 HPd hit hz0 hz1 hz2
                  refine z_ready 10 #[true, true, true, true, true, true, true, true, true, true, true, false] rfl (by kernel_rfl) (by kernel_rfl) (by rfl) (fun K' hK => ?_)
                  refine op_append_gen _ _ rfl _ ⟨wp6.heap.size, 0, none⟩ 2 2 rfl rfl _ wp8 HRUN.out ?_
                  simp only [Act.put, List.setIfInBounds_toArray]
                  refine hK.out _ _ (fun _ => Hp8x.out) (fun hHeld => ?_)
                  clear hK K' hHeld
                  refine z_ready 11 #[true, true, true, true, true, true, true, true, true, true, true, true] rfl (by kernel_rfl) (by kernel_rfl) (by rfl) (fun K' hK => ?_)
                  go_simp
                  refine hK.out _ _ (fun h => absurd rfl h) (fun _ => ?_)
                  clear hK K'
                  refine z_done (by kernel_rfl) ?_ _

                  clear HCI HCD HX Hp8x
                  have HPe := hide (Hp8.out.later ((Below.refl wp8.heap.size wp8).drew))
                  have HX : Hid (∀ (W : World) (ex : List Cp), QL w W xa ra F (.slice ap8 np8 cp8) (TO ++ [((.slice ap5 K.length cp5 : Value), K), ((.slice ap6 J.length cp6 : Value), J)]) (.slice wa TW.length wc) TW ex → W.cell? ⟨ra, m, none⟩ = some (.pointer (some ⟨rb, 0, none⟩))) := hide (fun W ex h => by rw [← HF.out, ← HRB.out]; exact (h.rf f).1)
                  have HCI : Hid (∀ (W : World) (ex : List Cp), QL w W xa ra F (.slice ap8 np8 cp8) (TO ++ [((.slice ap5 K.length cp5 : Value), K), ((.slice ap6 J.length cp6 : Value), J)]) (.slice wa TW.length wc) TW ex → Calls Tryz.prog 18 #[.pointer (some ⟨rb, 0, none⟩)] W fun e w' => ∃ a cap, e = .returned (.slice a K.length cap) ∧ Hid (QL w w' xa ra F (.slice ap8 np8 cp8) (TO ++ [((.slice ap5 K.length cp5 : Value), K), ((.slice ap6 J.length cp6 : Value), J)]) (.slice wa TW.length wc) TW (ex ++ [OIp w.heap.size (.slice a K.length cap) K]))) := hide (fun W ex h => by rw [← HRB.out]; exact h.ritems f (HSR.out f).rel (by have := HNB.out f; have := HL.out; omega) HK.out)
                  have HCD : Hid (∀ (W : World) (ex : List Cp), QL w W xa ra F (.slice ap8 np8 cp8) (TO ++ [((.slice ap5 K.length cp5 : Value), K), ((.slice ap6 J.length cp6 : Value), J)]) (.slice wa TW.length wc) TW ex → Calls Tryz.prog 19 #[.pointer (some ⟨rb, 0, none⟩)] W fun e w' => ∃ a cap, e = .returned (.slice a J.length cap) ∧ Hid (QL w w' xa ra F (.slice ap8 np8 cp8) (TO ++ [((.slice ap5 K.length cp5 : Value), K), ((.slice ap6 J.length cp6 : Value), J)]) (.slice wa TW.length wc) TW (ex ++ [OIp w.heap.size (.slice a J.length cap) J]))) := hide (fun W ex h => by rw [← HRB.out]; exact h.ridles f (HSR.out f).rel (by have := HNB.out f; have := HL.out; omega) HJ.out)
                  clear Hp8 HRUN
                  go_wp2_with fail
                  refine z_begins (S := (fun W : World => W.cell? ⟨ra, m, none⟩ = some (.pointer (some ⟨rb, 0, none⟩)))) 11 12 #[false, false, false, false, false, false, false, false, false, false, false, false] (by kernel_rfl) (by kernel_rfl) (by kernel_rfl) (HX.out _ _ HPe.out) (fun hHeld => ?_)
                  refine zk (v := ?_) 0 126 #[true, false, false, false, false, false, false, false, false, false, false, false] rfl rfl (by kernel_rfl) (by kernel_rfl) (by kernel_rfl) (by kernel_rfl) (fun _ _ _ h => h) (by kernel_rfl) (by rfl) ?hy hHeld ?_
                  case hy => intro W _; first | (go_simp; done) | (go_simp; with_reducible rfl)
                  simp only [List.setIfInBounds_toArray, List.set_cons_zero, List.set_cons_succ]
                  refine zk (v := ?_) 1 127 #[true, true, false, false, false, false, false, false, false, false, false, false] rfl rfl (by kernel_rfl) (by kernel_rfl) (by kernel_rfl) (by kernel_rfl) (fun _ _ _ h => h) (by kernel_rfl) (by rfl) ?hy hHeld ?_
                  case hy => intro W _; first | (go_simp; done) | (go_simp; with_reducible rfl)
                  simp only [List.setIfInBounds_toArray, List.set_cons_zero, List.set_cons_succ]
                  refine zk (v := ?_) 2 128 #[true, true, true, false, false, false, false, false, false, false, false, false] rfl rfl (by kernel_rfl) (by kernel_rfl) (by kernel_rfl) (by kernel_rfl) (fun _ _ _ h => h) (by kernel_rfl) (by rfl) ?hy hHeld ?_
                  case hy => intro W _; first | (go_simp; done) | (go_simp; with_reducible rfl)
                  simp only [List.setIfInBounds_toArray, List.set_cons_zero, List.set_cons_succ]
                  refine zk (v := ?_) 3 129 #[true, true, true, true, false, false, false, false, false, false, false, false] rfl rfl (by kernel_rfl) (by kernel_rfl) (by kernel_rfl) (by kernel_rfl) (fun _ _ _ h => h) (by kernel_rfl) (by rfl) ?hy hHeld ?_
                  case hy => rintro W hr0; first | (go_simp; done) | (go_simp; with_reducible rfl)
                  simp only [List.setIfInBounds_toArray, List.set_cons_zero, List.set_cons_succ]
                  refine zk (v := ?_) 5 131 #[true, true, true, true, false, true, false, false, false, false, false, false] rfl rfl (by kernel_rfl) (by kernel_rfl) (by kernel_rfl) (by kernel_rfl) (fun _ _ _ h => h) (by kernel_rfl) (by rfl) ?hy hHeld ?_
                  case hy => intro W _; first | (go_simp; done) | (go_simp; with_reducible rfl)
                  simp only [List.setIfInBounds_toArray, List.set_cons_zero, List.set_cons_succ]
                  refine zk (v := ?_) 6 132 #[true, true, true, true, false, true, true, false, false, false, false, false] rfl rfl (by kernel_rfl) (by kernel_rfl) (by kernel_rfl) (by kernel_rfl) (fun _ _ _ h => h) (by kernel_rfl) (by rfl) ?hy hHeld ?_
                  case hy => intro W _; first | (go_simp; done) | (go_simp; with_reducible rfl)
                  simp only [List.setIfInBounds_toArray, List.set_cons_zero, List.set_cons_succ]
                  refine zk (v := ?_) 7 133 #[true, true, true, true, false, true, true, true, false, false, false, false] rfl rfl (by kernel_rfl) (by kernel_rfl) (by kernel_rfl) (by kernel_rfl) (fun _ _ _ h => h) (by kernel_rfl) (by rfl) ?hy hHeld ?_
                  case hy => rintro W hr0; first | (go_simp; done) | (go_simp; with_reducible rfl)
                  simp only [List.setIfInBounds_toArray, List.set_cons_zero, List.set_cons_succ]
                  refine z_ready 4 #[true, true, true, true, true, true, true, true, false, false, false, false] rfl (by kernel_rfl) (by kernel_rfl) (by rfl) (fun K' hK => ?_)
                  refine op_call_fn 18 #[.pointer (some ⟨rb, 0, none⟩)] (by kernel_rfl) ?_
                  refine (HCI.out _ _ HPe.out).mono ?_
                  rintro e wr5 ⟨ar5, cr5, rfl, Hr5⟩
                  refine ⟨_, rfl, ?_⟩
                  go_simp
                  refine hK.out _ _ (fun _ => HX.out _ _ Hr5.out) (fun hHeld => ?_)
                  replace hHeld := hHeld (by decide)
                  clear hK K'
                  refine z_ready 8 #[true, true, true, true, true, true, true, true, true, false, false, false] rfl (by kernel_rfl) (by kernel_rfl) (by rfl) (fun K' hK => ?_)
                  refine op_call_fn 19 #[.pointer (some ⟨rb, 0, none⟩)] (by kernel_rfl) ?_
                  refine (HCD.out _ _ Hr5.out).mono ?_
                  rintro e wr6 ⟨ar6, cr6, rfl, Hr6⟩
                  refine ⟨_, rfl, ?_⟩
                  go_simp
                  refine hK.out _ _ (fun _ => HX.out _ _ Hr6.out) (fun hHeld => ?_)
                  replace hHeld := hHeld (by decide)
                  clear hK K'
                  have Hr7 : Hid (QL w (wr6.alloc (.cells #[(.slice ar5 K.length cr5), (.slice ar6 J.length cr6)] 40)) xa ra F (.slice ap8 np8 cp8) (TO ++ [((.slice ap5 K.length cp5 : Value), K), ((.slice ap6 J.length cp6 : Value), J)]) (.slice wa TW.length wc) TW ([] ++ [OIp w.heap.size (.slice ar5 K.length cr5) K, OIp w.heap.size (.slice ar6 J.length cr6) J])) := hide (Hr6.out.later ((Below.refl wr6.heap.size wr6).alloc (Nat.le_refl _) (.cells #[(.slice ar5 K.length cr5), (.slice ar6 J.length cr6)] 40)))
                  refine z_ready 9 #[true, true, true, true, true, true, true, true, true, true, false, false] rfl (by kernel_rfl) (by kernel_rfl) (by rfl) (fun K' hK => ?_)
                  go_simp
                  refine hK.out _ _ (fun _ => HX.out _ _ Hr7.out) (fun hHeld => ?_)
                  replace hHeld := hHeld (by decide)
                  clear hK K'
                  obtain ⟨it0, hit, hz0, hz1, hz2⟩ := info_parts IN.Tryz.infoBS
                  obtain ⟨v8, wr8, hrun, ho8, hg8, _, hat8⟩ := run_append_own_at (P := Tryz.prog) (wr6.alloc (.cells #[(.slice ar5 K.length cr5), (.slice ar6 J.length cr6)] 40)) w.heap.size 48 48 40 it0 (.slice none 0 0) 1 24 Tryz.underlying48 hit hz0 hz1 hz2 rfl (by decide) (.slice wa TW.length wc) TW.length (TW.map (·.1)) Hr7.out.tw.row ⟨wr6.heap.size, 0, none⟩ 2 2 [(.slice ar5 K.length cr5), (.slice ar6 J.length cr6)] rfl (by
                    obtain ⟨k0, k1⟩ := pair_cells (alloc_new wr6 (.cells #[(.slice ar5 K.length cr5), (.slice ar6 J.length cr6)] 40)) rfl
                    intro j u hj
                    match j, hj with
                    | 0, hj => have e : _ = u := Option.some.inj hj; rw [← e]; exact k0
                    | 1, hj => have e : _ = u := Option.some.inj hj; rw [← e]; exact k1
                    | j + 2, hj => simp at hj) (by intro u hu; simp at hu; rcases hu with rfl | rfl <;> rfl) (by have := HTW.out; have := HLT.out; have := HL.out; unfold maxLen; omega) (by have := HTW.out; have := HLT.out; have := HL.out; omega) (by have := Hr7.out.bl.size; exact this)
                  have Hr8 := hide (Hr7.out.tellW2 ho8 hg8 hat8 HKL.out HJL.out)
                  obtain ⟨ar8, cr8, hv8⟩ := Hr8.out.tw.slc
                  subst hv8
                  have HRUN := hide hrun
                  obtain ⟨nr8, hn8⟩ : ∃ n, (TW ++ [(((.slice ar5 K.length cr5) : Value), K), (((.slice ar6 J.length cr6) : Value), J)]).length = n := ⟨_, rfl⟩
                  have HNr8 : Hid (nr8 = TW.length + 2) := hide (by rw [← hn8]; simp)
                  have HMr8 := hide hn8
                  rw [hn8] at HRUN Hr8
                  have Hr8x : Hid (wr8.cell? ⟨ra, m, none⟩ = some (.pointer (some ⟨rb, 0, none⟩))) := hide (by rw [← HF.out, ← HRB.out]; exact (Hr8.out.rf f).1)
                  clear hrun ho8 hg8 hat8 hn8 Hr7 Hr6 Hr5 HPe hit hz0 hz1 hz2
                  refine z_ready 10 #[true, true, true, true, true, true, true, true, true, true, true, false] rfl (by kernel_rfl) (by kernel_rfl) (by rfl) (fun K' hK => ?_)
                  refine op_append_gen _ _ rfl _ ⟨wr6.heap.size, 0, none⟩ 2 2 rfl rfl _ wr8 HRUN.out ?_
                  simp only [Act.put, List.setIfInBounds_toArray]
                  refine hK.out _ _ (fun _ => Hr8x.out) (fun hHeld => ?_)
                  clear hK K' hHeld
                  refine z_ready 11 #[true, true, true, true, true, true, true, true, true, true, true, true] rfl (by kernel_rfl) (by kernel_rfl) (by rfl) (fun K' hK => ?_)
                  go_simp
                  refine hK.out _ _ (fun h => absurd rfl h) (fun _ => ?_)
                  clear hK K'
                  refine z_done (by kernel_rfl) ?_ _

                  have HE9 := hide (map_snd2 HTE.out (.slice ap5 K.length cp5) (.slice ap6 J.length cp6) (.slice ar5 K.length cr5) (.slice ar6 J.length cr6) K J)
                  clear HCI HCD HX Hr8x
                  go_wp2_with fail
                  go_roundw
                  case rel => exact ⟨m + 1, _, _, HLT.out, (by first | rfl | exact congrArg (Value.int .i64) wk), Hr8, HE9, hide (by rw [HMp8.out, HNp8.out]; have := HTL.out; omega), hide (by rw [HMp8.out, HNp8.out]; have := HT2.out; omega)⟩
                  case measure => first | exact meas_up HLT.out | (rw [wk]; exact meas_up HLT.out)
              · skip
                as_aux_lemma =>
                  have e : m = 2 := by omega
                  subst e
                  have HNN : Hid (TO.length ≤ 2932031007406 ∧ 4 ≤ TO.length ∧ TW.length = TO.length) := hide ⟨by have := HTL.out; have := HL.out; omega, HT2.out, by have h := congrArg List.length HTE.out; rw [List.length_map, List.length_map] at h; exact h.symm⟩
                  obtain ⟨g, cap, hg, hgc⟩ := own_some HP.out.to.row (by have := HNN.out; omega)
                  obtain ⟨g', cap', hg', _⟩ := own_some HP.out.tw.row (by have := HNN.out; omega)
                  injection hg with hg1 _ hg3
                  injection hg' with hg4 _ hg6
                  subst hg1 hg3 hg4 hg6
                  obtain ⟨n, hn⟩ : ∃ n, TO.length = n := ⟨_, rfl⟩
                  have hn' : TW.length = n := by rw [HNN.out.2.2]; exact hn
                  have HSL : Hid (∀ W, QL w W xa ra F (.slice (some ⟨g, 0, none⟩) TO.length oc) TO (.slice (some ⟨g', 0, none⟩) TW.length wc) TW [] → Calls Tryz.prog 21 #[.slice (some ⟨g, 0, none⟩) n oc, .slice (some ⟨g', 0, none⟩) n wc] W fun e w' => e = .returned (.bool true) ∧ Hid (QL w w' xa ra F (.slice (some ⟨g, 0, none⟩) TO.length oc) TO (.slice (some ⟨g', 0, none⟩) TW.length wc) TW [])) := hide (fun W h => by
                    refine (sameLists_any W w.heap.size g g' oc wc n TO TW h.to h.tw HTE.out hn (by have := HNN.out; omega)).mono ?_
                    rintro e w' ⟨rfl, hb⟩
                    exact ⟨rfl, hide (h.later hb)⟩)
                  have HAP : Hid (∀ W, QL w W xa ra F (.slice (some ⟨g, 0, none⟩) TO.length oc) TO (.slice (some ⟨g', 0, none⟩) TW.length wc) TW [] → Calls Tryz.prog 22 #[.slice (some ⟨g, 0, none⟩) n oc] W fun e w' => e = .returned (.bool true) ∧ Hid (QL w w' xa ra F (.slice none 0 0) [] (.slice (some ⟨g', 0, none⟩) TW.length wc) TW [])) := hide (fun W h => by
                    rw [← hn]
                    refine (IN.apartInts_sp w.heap.size g TO.length oc (avOI TO) (avNI TO) (avCI TO) (avRI TO) W h.to.all (avNI_le h.to) (by have := HNN.out; omega) hgc h.bl.size).mono ?_
                    rintro e w' ⟨rfl, hs⟩
                    exact ⟨rfl, hide (h.apart hs)⟩)
                  have HPd := HP
                  rw [hn, hn']
                  clear hgc hlt hm HP hn hn'
                  go_wp2_with fail
                  refine (HSL.out _ HPd.out).mono ?_
                  rintro e w5 ⟨rfl, H5⟩
                  go_wp2_with fail
                  refine (HAP.out _ H5.out).mono ?_
                  rintro e w6 ⟨rfl, H6⟩
                  clear HSL HAP HPd H5
                  obtain ⟨f, hf⟩ : ∃ f, f = false := ⟨_, rfl⟩
                  obtain ⟨K, hK⟩ : ∃ K, ((F false).Z.A.map fun x => ((F false).Z.T x).id) = K := ⟨_, rfl⟩
                  obtain ⟨J, hJ⟩ : ∃ J, (((F true).Z.A.filter fun x => ((F true).Z.T x).st == 0).map fun x => ((F true).Z.T x).id) = J := ⟨_, rfl⟩
                  have HKL : Hid (K.length ≤ 8796093022000) := hide (by
                    have := (HSR.out false).rel.len; have := HNB.out false; have := HL.out
                    have e : K.length ≤ (F false).Z.A.length := by rw [← hK, List.length_map]; exact Nat.le_refl _
                    omega)
                  have HJL : Hid (J.length ≤ 8796093022000) := hide (by
                    have := (HSR.out true).rel.len; have := HNB.out true; have := HL.out
                    have e : J.length ≤ (F true).Z.A.length := by rw [← hJ, List.length_map]; exact List.length_filter_le _ _
                    omega)
                  have HK := hide hK
                  have HJ := hide hJ
                  obtain ⟨qa, hqa⟩ : ∃ q, (F false).q = q := ⟨_, rfl⟩
                  obtain ⟨qb, hqb⟩ : ∃ q, (F true).q = q := ⟨_, rfl⟩
                  obtain ⟨pa, hpa⟩ : ∃ q, (F false).r = q := ⟨_, rfl⟩
                  obtain ⟨pb, hpb⟩ : ∃ q, (F true).r = q := ⟨_, rfl⟩
                  obtain ⟨va, vc, hvl⟩ := (H6.out.dq false).sl
                  obtain ⟨el, hel⟩ : ∃ el, (F false).E.length = el := ⟨_, rfl⟩
                  obtain ⟨bF, hbF⟩ : ∃ b, decide (((F true).E.length : Int) ≥ (F true).room) = b := ⟨_, rfl⟩
                  have HQA := hide hqa
                  have HQB := hide hqb
                  have HPA := hide hpa
                  have HPB := hide hpb
                  have HVL := hide hvl
                  have HEL := hide hel
                  have HBF := hide hbF
                  clear hf f hK hJ hqa hqb hpa hpb hvl hel hbF
                  have HFC : Hid (∀ (W : World) (ex : List Cp), QL w W xa ra F (.slice none 0 0) [] (.slice (some ⟨g', 0, none⟩) TW.length wc) TW ex → (fun W : World => W.cell? ⟨xa, 0, none⟩ = some (.pointer (some ⟨qa, 0, none⟩)) ∧ W.cell? ⟨xa, 1, none⟩ = some (.pointer (some ⟨qb, 0, none⟩)) ∧ W.cell? ⟨ra, 0, none⟩ = some (.pointer (some ⟨pa, 0, none⟩)) ∧ W.cell? ⟨ra, 1, none⟩ = some (.pointer (some ⟨pb, 0, none⟩)) ∧ W.cell? ⟨pa, 1, none⟩ = some (.slice va el vc)) W) := hide (fun W ex h => ⟨by rw [← HQA.out]; exact (h.xf false).1, by rw [← HQB.out]; exact (h.xf true).1, by rw [← HPA.out]; exact (h.rf false).1, by rw [← HPB.out]; exact (h.rf true).1, by rw [← HPA.out, ← HEL.out, ← HVL.out]; exact (h.dq false).c1⟩)
                  have HI0 : Hid (∀ (W : World) (ex : List Cp), QL w W xa ra F (.slice none 0 0) [] (.slice (some ⟨g', 0, none⟩) TW.length wc) TW ex → Calls Tryz.prog 15 #[.pointer (some ⟨qa, 0, none⟩)] W fun e w' => ∃ a cap, e = .returned (.slice a K.length cap) ∧ Hid (QL w w' xa ra F (.slice none 0 0) [] (.slice (some ⟨g', 0, none⟩) TW.length wc) TW (ex ++ [OIp w.heap.size (.slice a K.length cap) K]))) := hide (fun W ex h => by rw [← HQA.out]; exact h.items false HK.out)
                  have HR0 : Hid (∀ (W : World) (ex : List Cp), QL w W xa ra F (.slice none 0 0) [] (.slice (some ⟨g', 0, none⟩) TW.length wc) TW ex → Calls Tryz.prog 18 #[.pointer (some ⟨pa, 0, none⟩)] W fun e w' => ∃ a cap, e = .returned (.slice a K.length cap) ∧ Hid (QL w w' xa ra F (.slice none 0 0) [] (.slice (some ⟨g', 0, none⟩) TW.length wc) TW (ex ++ [OIp w.heap.size (.slice a K.length cap) K]))) := hide (fun W ex h => by rw [← HPA.out]; exact h.ritems false (HSR.out false).rel (by have := HNB.out false; have := HL.out; omega) HK.out)
                  have HI1 : Hid (∀ (W : World) (ex : List Cp), QL w W xa ra F (.slice none 0 0) [] (.slice (some ⟨g', 0, none⟩) TW.length wc) TW ex → Calls Tryz.prog 12 #[.pointer (some ⟨qb, 0, none⟩)] W fun e w' => ∃ a cap, e = .returned (.slice a J.length cap) ∧ Hid (QL w w' xa ra F (.slice none 0 0) [] (.slice (some ⟨g', 0, none⟩) TW.length wc) TW (ex ++ [OIp w.heap.size (.slice a J.length cap) J]))) := hide (fun W ex h => by rw [← HQB.out]; exact h.idle true HJ.out)
                  have HR1 : Hid (∀ (W : World) (ex : List Cp), QL w W xa ra F (.slice none 0 0) [] (.slice (some ⟨g', 0, none⟩) TW.length wc) TW ex → Calls Tryz.prog 19 #[.pointer (some ⟨pb, 0, none⟩)] W fun e w' => ∃ a cap, e = .returned (.slice a J.length cap) ∧ Hid (QL w w' xa ra F (.slice none 0 0) [] (.slice (some ⟨g', 0, none⟩) TW.length wc) TW (ex ++ [OIp w.heap.size (.slice a J.length cap) J]))) := hide (fun W ex h => by rw [← HPB.out]; exact h.ridles true (HSR.out true).rel (by have := HNB.out true; have := HL.out; omega) HJ.out)
                  have HLN : Hid (∀ (W : World) (ex : List Cp), QL w W xa ra F (.slice none 0 0) [] (.slice (some ⟨g', 0, none⟩) TW.length wc) TW ex → Calls Tryz.prog 23 #[.pointer (some ⟨qa, 0, none⟩)] W fun e w' => e = .returned (.int .i64 (el : Int)) ∧ Hid (QL w w' xa ra F (.slice none 0 0) [] (.slice (some ⟨g', 0, none⟩) TW.length wc) TW ex)) := hide (fun W ex h => by rw [← HQA.out, ← HEL.out]; exact h.len false (HSR.out false).rel)
                  have HFU : Hid (∀ (W : World) (ex : List Cp), QL w W xa ra F (.slice none 0 0) [] (.slice (some ⟨g', 0, none⟩) TW.length wc) TW ex → Calls Tryz.prog 24 #[.pointer (some ⟨qb, 0, none⟩)] W fun e w' => e = .returned (.bool bF) ∧ Hid (QL w w' xa ra F (.slice none 0 0) [] (.slice (some ⟨g', 0, none⟩) TW.length wc) TW ex)) := hide (fun W ex h => by rw [← HQB.out, ← HBF.out]; exact h.full true (HSR.out true))
                  have HRF : Hid (∀ (W : World) (ex : List Cp), QL w W xa ra F (.slice none 0 0) [] (.slice (some ⟨g', 0, none⟩) TW.length wc) TW ex → Calls Tryz.prog 25 #[.pointer (some ⟨pb, 0, none⟩)] W fun e w' => e = .returned (.bool bF) ∧ Hid (QL w w' xa ra F (.slice none 0 0) [] (.slice (some ⟨g', 0, none⟩) TW.length wc) TW ex)) := hide (fun W ex h => by rw [← HPB.out, ← HBF.out]; exact h.rfull true)
                  have H6d := hide (H6.out.later ((Below.refl w6.heap.size w6).drew))
                  go_wp2_with fail
                  refine z_begins (S := (fun W : World => W.cell? ⟨xa, 0, none⟩ = some (.pointer (some ⟨qa, 0, none⟩)) ∧ W.cell? ⟨xa, 1, none⟩ = some (.pointer (some ⟨qb, 0, none⟩)) ∧ W.cell? ⟨ra, 0, none⟩ = some (.pointer (some ⟨pa, 0, none⟩)) ∧ W.cell? ⟨ra, 1, none⟩ = some (.pointer (some ⟨pb, 0, none⟩)) ∧ W.cell? ⟨pa, 1, none⟩ = some (.slice va el vc))) 37 38 #[false, false, false, false, false, false, false, false, false, false, false, false, false, false, false, false, false, false, false, false, false, false, false, false, false, false, false, false, false, false, false, false, false, false, false, false, false, false] (by kernel_rfl) (by kernel_rfl) (by kernel_rfl) (HFC.out _ _ H6d.out) (fun hHeld => ?_)
                  refine zk (v := ?_) 0 146 #[true, false, false, false, false, false, false, false, false, false, false, false, false, false, false, false, false, false, false, false, false, false, false, false, false, false, false, false, false, false, false, false, false, false, false, false, false, false] rfl rfl (by kernel_rfl) (by kernel_rfl) (by kernel_rfl) (by kernel_rfl) (fun _ _ _ h => h) (by kernel_rfl) (by rfl) ?hy hHeld ?_
                  case hy => intro W _; first | (go_simp; done) | (go_simp; with_reducible rfl)
                  simp only [List.setIfInBounds_toArray, List.set_cons_zero, List.set_cons_succ]
                  refine zk (v := ?_) 1 147 #[true, true, false, false, false, false, false, false, false, false, false, false, false, false, false, false, false, false, false, false, false, false, false, false, false, false, false, false, false, false, false, false, false, false, false, false, false, false] rfl rfl (by kernel_rfl) (by kernel_rfl) (by kernel_rfl) (by kernel_rfl) (fun _ _ _ h => h) (by kernel_rfl) (by rfl) ?hy hHeld ?_
                  case hy => rintro W ⟨hr0, hr1, hr2, hr3, hr4⟩; first | (go_simp; done) | (go_simp; with_reducible rfl)
                  simp only [List.setIfInBounds_toArray, List.set_cons_zero, List.set_cons_succ]
                  refine zk (v := ?_) 3 149 #[true, true, false, true, false, false, false, false, false, false, false, false, false, false, false, false, false, false, false, false, false, false, false, false, false, false, false, false, false, false, false, false, false, false, false, false, false, false] rfl rfl (by kernel_rfl) (by kernel_rfl) (by kernel_rfl) (by kernel_rfl) (fun _ _ _ h => h) (by kernel_rfl) (by rfl) ?hy hHeld ?_
                  case hy => intro W _; first | (go_simp; done) | (go_simp; with_reducible rfl)
                  simp only [List.setIfInBounds_toArray, List.set_cons_zero, List.set_cons_succ]
                  refine zk (v := ?_) 4 150 #[true, true, false, true, true, false, false, false, false, false, false, false, false, false, false, false, false, false, false, false, false, false, false, false, false, false, false, false, false, false, false, false, false, false, false, false, false, false] rfl rfl (by kernel_rfl) (by kernel_rfl) (by kernel_rfl) (by kernel_rfl) (fun _ _ _ h => h) (by kernel_rfl) (by rfl) ?hy hHeld ?_
                  case hy => rintro W ⟨hr0, hr1, hr2, hr3, hr4⟩; first | (go_simp; done) | (go_simp; with_reducible rfl)
                  simp only [List.setIfInBounds_toArray, List.set_cons_zero, List.set_cons_succ]
                  refine z_ready 2 #[true, true, true, true, true, false, false, false, false, false, false, false, false, false, false, false, false, false, false, false, false, false, false, false, false, false, false, false, false, false, false, false, false, false, false, false, false, false] rfl (by kernel_rfl) (by kernel_rfl) (by rfl) (fun K' hK => ?_)
                  refine op_call_fn 15 #[.pointer (some ⟨qa, 0, none⟩)] (by kernel_rfl) ?_
                  refine (HI0.out _ _ H6d.out).mono ?_
                  rintro e w7 ⟨a7, c7, rfl, H7⟩
                  refine ⟨_, rfl, ?_⟩
                  go_simp
                  refine hK.out _ _ (fun _ => HFC.out _ _ H7.out) (fun hHeld => ?_)
                  replace hHeld := hHeld (by decide)
                  clear hK K'
                  refine z_ready 5 #[true, true, true, true, true, true, false, false, false, false, false, false, false, false, false, false, false, false, false, false, false, false, false, false, false, false, false, false, false, false, false, false, false, false, false, false, false, false] rfl (by kernel_rfl) (by kernel_rfl) (by rfl) (fun K' hK => ?_)
                  refine op_call_fn 18 #[.pointer (some ⟨pa, 0, none⟩)] (by kernel_rfl) ?_
                  refine (HR0.out _ _ H7.out).mono ?_
                  rintro e w8 ⟨a8, c8, rfl, H8⟩
                  refine ⟨_, rfl, ?_⟩
                  go_simp
                  refine hK.out _ _ (fun _ => HFC.out _ _ H8.out) (fun hHeld => ?_)
                  replace hHeld := hHeld (by decide)
                  clear hK K'
                  refine z_ready 6 #[true, true, true, true, true, true, true, false, false, false, false, false, false, false, false, false, false, false, false, false, false, false, false, false, false, false, false, false, false, false, false, false, false, false, false, false, false, false] rfl (by kernel_rfl) (by kernel_rfl) (by rfl) (fun K' hK => ?_)
                  refine op_call_fn 14 #[.slice a7 K.length c7, .slice a8 K.length c8] (by kernel_rfl) ?_
                  refine (H8.out.same (i := 0) (j := 1) rfl rfl HKL.out).mono ?_
                  rintro e w9 ⟨rfl, H9⟩
                  refine ⟨_, rfl, ?_⟩
                  go_simp
                  refine hK.out _ _ (fun _ => HFC.out _ _ H9.out) (fun hHeld => ?_)
                  replace hHeld := hHeld (by decide)
                  clear hK K'
                  refine zk (v := ?_) 7 153 #[true, true, true, true, true, true, true, true, false, false, false, false, false, false, false, false, false, false, false, false, false, false, false, false, false, false, false, false, false, false, false, false, false, false, false, false, false, false] rfl rfl (by kernel_rfl) (by kernel_rfl) (by kernel_rfl) (by kernel_rfl) (fun _ _ _ h => h) (by kernel_rfl) (by rfl) ?hy hHeld ?_
                  case hy => intro W _; first | (go_simp; done) | (go_simp; with_reducible rfl)
                  simp only [List.setIfInBounds_toArray, List.set_cons_zero, List.set_cons_succ]
                  refine zk (v := ?_) 8 154 #[true, true, true, true, true, true, true, true, true, false, false, false, false, false, false, false, false, false, false, false, false, false, false, false, false, false, false, false, false, false, false, false, false, false, false, false, false, false] rfl rfl (by kernel_rfl) (by kernel_rfl) (by kernel_rfl) (by kernel_rfl) (fun _ _ _ h => h) (by kernel_rfl) (by rfl) ?hy hHeld ?_
                  case hy => intro W _; first | (go_simp; done) | (go_simp; with_reducible rfl)
                  simp only [List.setIfInBounds_toArray, List.set_cons_zero, List.set_cons_succ]
                  refine zk (v := ?_) 9 155 #[true, true, true, true, true, true, true, true, true, true, false, false, false, false, false, false, false, false, false, false, false, false, false, false, false, false, false, false, false, false, false, false, false, false, false, false, false, false] rfl rfl (by kernel_rfl) (by kernel_rfl) (by kernel_rfl) (by kernel_rfl) (fun _ _ _ h => h) (by kernel_rfl) (by rfl) ?hy hHeld ?_
                  case hy => rintro W ⟨hr0, hr1, hr2, hr3, hr4⟩; first | (go_simp; done) | (go_simp; with_reducible rfl)
                  simp only [List.setIfInBounds_toArray, List.set_cons_zero, List.set_cons_succ]
                  refine zk (v := ?_) 11 157 #[true, true, true, true, true, true, true, true, true, true, false, true, false, false, false, false, false, false, false, false, false, false, false, false, false, false, false, false, false, false, false, false, false, false, false, false, false, false] rfl rfl (by kernel_rfl) (by kernel_rfl) (by kernel_rfl) (by kernel_rfl) (fun _ _ _ h => h) (by kernel_rfl) (by rfl) ?hy hHeld ?_
                  case hy => intro W _; first | (go_simp; done) | (go_simp; with_reducible rfl)
                  simp only [List.setIfInBounds_toArray, List.set_cons_zero, List.set_cons_succ]
                  refine zk (v := ?_) 12 158 #[true, true, true, true, true, true, true, true, true, true, false, true, true, false, false, false, false, false, false, false, false, false, false, false, false, false, false, false, false, false, false, false, false, false, false, false, false, false] rfl rfl (by kernel_rfl) (by kernel_rfl) (by kernel_rfl) (by kernel_rfl) (fun _ _ _ h => h) (by kernel_rfl) (by rfl) ?hy hHeld ?_
                  case hy => rintro W ⟨hr0, hr1, hr2, hr3, hr4⟩; first | (go_simp; done) | (go_simp; with_reducible rfl)
                  simp only [List.setIfInBounds_toArray, List.set_cons_zero, List.set_cons_succ]
                  refine z_ready 10 #[true, true, true, true, true, true, true, true, true, true, true, true, true, false, false, false, false, false, false, false, false, false, false, false, false, false, false, false, false, false, false, false, false, false, false, false, false, false] rfl (by kernel_rfl) (by kernel_rfl) (by rfl) (fun K' hK => ?_)
                  refine op_call_fn 12 #[.pointer (some ⟨qb, 0, none⟩)] (by kernel_rfl) ?_
                  refine (HI1.out _ _ H9.out).mono ?_
                  rintro e w10 ⟨a10, c10, rfl, H10⟩
                  refine ⟨_, rfl, ?_⟩
                  go_simp
                  refine hK.out _ _ (fun _ => HFC.out _ _ H10.out) (fun hHeld => ?_)
                  replace hHeld := hHeld (by decide)
                  clear hK K'
                  refine z_ready 13 #[true, true, true, true, true, true, true, true, true, true, true, true, true, true, false, false, false, false, false, false, false, false, false, false, false, false, false, false, false, false, false, false, false, false, false, false, false, false] rfl (by kernel_rfl) (by kernel_rfl) (by rfl) (fun K' hK => ?_)
                  refine op_call_fn 19 #[.pointer (some ⟨pb, 0, none⟩)] (by kernel_rfl) ?_
                  refine (HR1.out _ _ H10.out).mono ?_
                  rintro e w11 ⟨a11, c11, rfl, H11⟩
                  refine ⟨_, rfl, ?_⟩
                  go_simp
                  refine hK.out _ _ (fun _ => HFC.out _ _ H11.out) (fun hHeld => ?_)
                  replace hHeld := hHeld (by decide)
                  clear hK K'
                  refine z_ready 14 #[true, true, true, true, true, true, true, true, true, true, true, true, true, true, true, false, false, false, false, false, false, false, false, false, false, false, false, false, false, false, false, false, false, false, false, false, false, false] rfl (by kernel_rfl) (by kernel_rfl) (by rfl) (fun K' hK => ?_)
                  refine op_call_fn 14 #[.slice a10 J.length c10, .slice a11 J.length c11] (by kernel_rfl) ?_
                  refine (H11.out.same (i := 2) (j := 3) rfl rfl HJL.out).mono ?_
                  rintro e w12 ⟨rfl, H12⟩
                  refine ⟨_, rfl, ?_⟩
                  go_simp
                  refine hK.out _ _ (fun _ => HFC.out _ _ H12.out) (fun hHeld => ?_)
                  replace hHeld := hHeld (by decide)
                  clear hK K'
                  refine zk (v := ?_) 15 161 #[true, true, true, true, true, true, true, true, true, true, true, true, true, true, true, true, false, false, false, false, false, false, false, false, false, false, false, false, false, false, false, false, false, false, false, false, false, false] rfl rfl (by kernel_rfl) (by kernel_rfl) (by kernel_rfl) (by kernel_rfl) (fun _ _ _ h => h) (by kernel_rfl) (by rfl) ?hy hHeld ?_
                  case hy => intro W _; first | (go_simp; done) | (go_simp; with_reducible rfl)
                  simp only [List.setIfInBounds_toArray, List.set_cons_zero, List.set_cons_succ]
                  refine zk (v := ?_) 16 162 #[true, true, true, true, true, true, true, true, true, true, true, true, true, true, true, true, true, false, false, false, false, false, false, false, false, false, false, false, false, false, false, false, false, false, false, false, false, false] rfl rfl (by kernel_rfl) (by kernel_rfl) (by kernel_rfl) (by kernel_rfl) (fun _ _ _ h => h) (by kernel_rfl) (by rfl) ?hy hHeld ?_
                  case hy => intro W _; first | (go_simp; done) | (go_simp; with_reducible rfl)
                  simp only [List.setIfInBounds_toArray, List.set_cons_zero, List.set_cons_succ]
                  refine zk (v := ?_) 17 163 #[true, true, true, true, true, true, true, true, true, true, true, true, true, true, true, true, true, true, false, false, false, false, false, false, false, false, false, false, false, false, false, false, false, false, false, false, false, false] rfl rfl (by kernel_rfl) (by kernel_rfl) (by kernel_rfl) (by kernel_rfl) (fun _ _ _ h => h) (by kernel_rfl) (by rfl) ?hy hHeld ?_
                  case hy => intro W _; first | (go_simp; done) | (go_simp; with_reducible rfl)
                  simp only [List.setIfInBounds_toArray, List.set_cons_zero, List.set_cons_succ]
                  refine zk (v := ?_) 18 164 #[true, true, true, true, true, true, true, true, true, true, true, true, true, true, true, true, true, true, true, false, false, false, false, false, false, false, false, false, false, false, false, false, false, false, false, false, false, false] rfl rfl (by kernel_rfl) (by kernel_rfl) (by kernel_rfl) (by kernel_rfl) (fun _ _ _ h => h) (by kernel_rfl) (by rfl) ?hy hHeld ?_
                  case hy => rintro W ⟨hr0, hr1, hr2, hr3, hr4⟩; first | (go_simp; done) | (go_simp; with_reducible rfl)
                  simp only [List.setIfInBounds_toArray, List.set_cons_zero, List.set_cons_succ]
                  refine zk (v := ?_) 20 166 #[true, true, true, true, true, true, true, true, true, true, true, true, true, true, true, true, true, true, true, false, true, false, false, false, false, false, false, false, false, false, false, false, false, false, false, false, false, false] rfl rfl (by kernel_rfl) (by kernel_rfl) (by kernel_rfl) (by kernel_rfl) (fun _ _ _ h => h) (by kernel_rfl) (by rfl) ?hy hHeld ?_
                  case hy => intro W _; first | (go_simp; done) | (go_simp; with_reducible rfl)
                  simp only [List.setIfInBounds_toArray, List.set_cons_zero, List.set_cons_succ]
                  refine zk (v := ?_) 21 167 #[true, true, true, true, true, true, true, true, true, true, true, true, true, true, true, true, true, true, true, false, true, true, false, false, false, false, false, false, false, false, false, false, false, false, false, false, false, false] rfl rfl (by kernel_rfl) (by kernel_rfl) (by kernel_rfl) (by kernel_rfl) (fun _ _ _ h => h) (by kernel_rfl) (by rfl) ?hy hHeld ?_
                  case hy => rintro W ⟨hr0, hr1, hr2, hr3, hr4⟩; first | (go_simp; done) | (go_simp; with_reducible rfl)
                  simp only [List.setIfInBounds_toArray, List.set_cons_zero, List.set_cons_succ]
                  refine zk (v := ?_) 22 168 #[true, true, true, true, true, true, true, true, true, true, true, true, true, true, true, true, true, true, true, false, true, true, true, false, false, false, false, false, false, false, false, false, false, false, false, false, false, false] rfl rfl (by kernel_rfl) (by kernel_rfl) (by kernel_rfl) (by kernel_rfl) (fun _ _ _ h => h) (by kernel_rfl) (by rfl) ?hy hHeld ?_
                  case hy => intro W _; first | (go_simp; done) | (go_simp; with_reducible rfl)
                  simp only [List.setIfInBounds_toArray, List.set_cons_zero, List.set_cons_succ]
                  refine zk (v := ?_) 23 169 #[true, true, true, true, true, true, true, true, true, true, true, true, true, true, true, true, true, true, true, false, true, true, true, true, false, false, false, false, false, false, false, false, false, false, false, false, false, false] rfl rfl (by kernel_rfl) (by kernel_rfl) (by kernel_rfl) (by kernel_rfl) (fun _ _ _ h => h) (by kernel_rfl) (by rfl) ?hy hHeld ?_
                  case hy => intro W _; first | (go_simp; done) | (go_simp; with_reducible rfl)
                  simp only [List.setIfInBounds_toArray, List.set_cons_zero, List.set_cons_succ]
                  refine zk (v := ?_) 24 170 #[true, true, true, true, true, true, true, true, true, true, true, true, true, true, true, true, true, true, true, false, true, true, true, true, true, false, false, false, false, false, false, false, false, false, false, false, false, false] rfl rfl (by kernel_rfl) (by kernel_rfl) (by kernel_rfl) (by kernel_rfl) (fun _ _ _ h => h) (by kernel_rfl) (by rfl) ?hy hHeld ?_
                  case hy => rintro W ⟨hr0, hr1, hr2, hr3, hr4⟩; first | (go_simp; done) | (go_simp; with_reducible rfl)
                  simp only [List.setIfInBounds_toArray, List.set_cons_zero, List.set_cons_succ]
                  refine zk (v := ?_) 25 171 #[true, true, true, true, true, true, true, true, true, true, true, true, true, true, true, true, true, true, true, false, true, true, true, true, true, true, false, false, false, false, false, false, false, false, false, false, false, false] rfl rfl (by kernel_rfl) (by kernel_rfl) (by kernel_rfl) (by kernel_rfl) (fun _ _ _ h => h) (by kernel_rfl) (by rfl) ?hy hHeld ?_
                  case hy => intro W _; first | (go_simp; done) | (go_simp; with_reducible rfl)
                  simp only [List.setIfInBounds_toArray, List.set_cons_zero, List.set_cons_succ]
                  refine z_ready 19 #[true, true, true, true, true, true, true, true, true, true, true, true, true, true, true, true, true, true, true, true, true, true, true, true, true, true, false, false, false, false, false, false, false, false, false, false, false, false] rfl (by kernel_rfl) (by kernel_rfl) (by rfl) (fun K' hK => ?_)
                  refine op_call_fn 23 #[.pointer (some ⟨qa, 0, none⟩)] (by kernel_rfl) ?_
                  refine (HLN.out _ _ H12.out).mono ?_
                  rintro e w13 ⟨rfl, H13⟩
                  refine ⟨_, rfl, ?_⟩
                  go_simp
                  refine hK.out _ _ (fun _ => HFC.out _ _ H13.out) (fun hHeld => ?_)
                  replace hHeld := hHeld (by decide)
                  clear hK K'
                  refine zk (v := ?_) 26 172 #[true, true, true, true, true, true, true, true, true, true, true, true, true, true, true, true, true, true, true, true, true, true, true, true, true, true, true, false, false, false, false, false, false, false, false, false, false, false] rfl rfl (by kernel_rfl) (by kernel_rfl) (by kernel_rfl) (by kernel_rfl) (fun _ _ _ h => h) (by kernel_rfl) (by rfl) ?hy hHeld ?_
                  case hy => intro W _; first | (go_simp; done) | (go_simp; with_reducible rfl)
                  simp only [List.setIfInBounds_toArray, List.set_cons_zero, List.set_cons_succ]
                  refine zk (v := ?_) 27 173 #[true, true, true, true, true, true, true, true, true, true, true, true, true, true, true, true, true, true, true, true, true, true, true, true, true, true, true, true, false, false, false, false, false, false, false, false, false, false] rfl rfl (by kernel_rfl) (by kernel_rfl) (by kernel_rfl) (by kernel_rfl) (fun _ _ _ h => h) (by kernel_rfl) (by rfl) ?hy hHeld ?_
                  case hy => intro W _; first | (go_simp; done) | (go_simp; with_reducible rfl)
                  simp only [List.setIfInBounds_toArray, List.set_cons_zero, List.set_cons_succ]
                  refine zk (v := ?_) 28 174 #[true, true, true, true, true, true, true, true, true, true, true, true, true, true, true, true, true, true, true, true, true, true, true, true, true, true, true, true, true, false, false, false, false, false, false, false, false, false] rfl rfl (by kernel_rfl) (by kernel_rfl) (by kernel_rfl) (by kernel_rfl) (fun _ _ _ h => h) (by kernel_rfl) (by rfl) ?hy hHeld ?_
                  case hy => intro W _; first | (go_simp; done) | (go_simp; with_reducible rfl)
                  simp only [List.setIfInBounds_toArray, List.set_cons_zero, List.set_cons_succ]
                  refine zk (v := ?_) 29 175 #[true, true, true, true, true, true, true, true, true, true, true, true, true, true, true, true, true, true, true, true, true, true, true, true, true, true, true, true, true, true, false, false, false, false, false, false, false, false] rfl rfl (by kernel_rfl) (by kernel_rfl) (by kernel_rfl) (by kernel_rfl) (fun _ _ _ h => h) (by kernel_rfl) (by rfl) ?hy hHeld ?_
                  case hy => intro W _; first | (go_simp; done) | (go_simp; with_reducible rfl)
                  simp only [List.setIfInBounds_toArray, List.set_cons_zero, List.set_cons_succ]
                  refine zk (v := ?_) 30 176 #[true, true, true, true, true, true, true, true, true, true, true, true, true, true, true, true, true, true, true, true, true, true, true, true, true, true, true, true, true, true, true, false, false, false, false, false, false, false] rfl rfl (by kernel_rfl) (by kernel_rfl) (by kernel_rfl) (by kernel_rfl) (fun _ _ _ h => h) (by kernel_rfl) (by rfl) ?hy hHeld ?_
                  case hy => rintro W ⟨hr0, hr1, hr2, hr3, hr4⟩; first | (go_simp; done) | (go_simp; with_reducible rfl)
                  simp only [List.setIfInBounds_toArray, List.set_cons_zero, List.set_cons_succ]
                  refine zk (v := ?_) 32 178 #[true, true, true, true, true, true, true, true, true, true, true, true, true, true, true, true, true, true, true, true, true, true, true, true, true, true, true, true, true, true, true, false, true, false, false, false, false, false] rfl rfl (by kernel_rfl) (by kernel_rfl) (by kernel_rfl) (by kernel_rfl) (fun _ _ _ h => h) (by kernel_rfl) (by rfl) ?hy hHeld ?_
                  case hy => intro W _; first | (go_simp; done) | (go_simp; with_reducible rfl)
                  simp only [List.setIfInBounds_toArray, List.set_cons_zero, List.set_cons_succ]
                  refine zk (v := ?_) 33 179 #[true, true, true, true, true, true, true, true, true, true, true, true, true, true, true, true, true, true, true, true, true, true, true, true, true, true, true, true, true, true, true, false, true, true, false, false, false, false] rfl rfl (by kernel_rfl) (by kernel_rfl) (by kernel_rfl) (by kernel_rfl) (fun _ _ _ h => h) (by kernel_rfl) (by rfl) ?hy hHeld ?_
                  case hy => rintro W ⟨hr0, hr1, hr2, hr3, hr4⟩; first | (go_simp; done) | (go_simp; with_reducible rfl)
                  simp only [List.setIfInBounds_toArray, List.set_cons_zero, List.set_cons_succ]
                  refine z_ready 31 #[true, true, true, true, true, true, true, true, true, true, true, true, true, true, true, true, true, true, true, true, true, true, true, true, true, true, true, true, true, true, true, true, true, true, false, false, false, false] rfl (by kernel_rfl) (by kernel_rfl) (by rfl) (fun K' hK => ?_)
                  refine op_call_fn 24 #[.pointer (some ⟨qb, 0, none⟩)] (by kernel_rfl) ?_
                  refine (HFU.out _ _ H13.out).mono ?_
                  rintro e w14 ⟨rfl, H14⟩
                  refine ⟨_, rfl, ?_⟩
                  go_simp
                  refine hK.out _ _ (fun _ => HFC.out _ _ H14.out) (fun hHeld => ?_)
                  replace hHeld := hHeld (by decide)
                  clear hK K'
                  refine z_ready 34 #[true, true, true, true, true, true, true, true, true, true, true, true, true, true, true, true, true, true, true, true, true, true, true, true, true, true, true, true, true, true, true, true, true, true, true, false, false, false] rfl (by kernel_rfl) (by kernel_rfl) (by rfl) (fun K' hK => ?_)
                  refine op_call_fn 25 #[.pointer (some ⟨pb, 0, none⟩)] (by kernel_rfl) ?_
                  refine (HRF.out _ _ H14.out).mono ?_
                  rintro e w15 ⟨rfl, H15⟩
                  refine ⟨_, rfl, ?_⟩
                  go_simp
                  refine hK.out _ _ (fun _ => HFC.out _ _ H15.out) (fun hHeld => ?_)
                  replace hHeld := hHeld (by decide)
                  clear hK K'
                  refine zk (v := ?_) 35 181 #[true, true, true, true, true, true, true, true, true, true, true, true, true, true, true, true, true, true, true, true, true, true, true, true, true, true, true, true, true, true, true, true, true, true, true, true, false, false] rfl rfl (by kernel_rfl) (by kernel_rfl) (by kernel_rfl) (by kernel_rfl) (fun _ _ _ h => h) (by kernel_rfl) (by rfl) ?hy hHeld ?_
                  case hy => intro W _; first | (go_simp; done) | (go_simp; with_reducible rfl)
                  simp only [List.setIfInBounds_toArray, List.set_cons_zero, List.set_cons_succ]
                  refine zk (v := ?_) 36 182 #[true, true, true, true, true, true, true, true, true, true, true, true, true, true, true, true, true, true, true, true, true, true, true, true, true, true, true, true, true, true, true, true, true, true, true, true, true, false] rfl rfl (by kernel_rfl) (by kernel_rfl) (by kernel_rfl) (by kernel_rfl) (fun _ _ _ h => h) (by kernel_rfl) (by rfl) ?hy hHeld ?_
                  case hy => intro W _; first | (go_simp; done) | (go_simp; with_reducible rfl)
                  simp only [List.setIfInBounds_toArray, List.set_cons_zero, List.set_cons_succ]
                  refine z_ready 37 #[true, true, true, true, true, true, true, true, true, true, true, true, true, true, true, true, true, true, true, true, true, true, true, true, true, true, true, true, true, true, true, true, true, true, true, true, true, true] rfl (by kernel_rfl) (by kernel_rfl) (by rfl) (fun K' hK => ?_)
                  go_simp
                  refine hK.out _ _ (fun h => absurd rfl h) (fun _ => ?_)
                  clear hK K'
                  refine z_done (by kernel_rfl) ?_ _
                  have HBL := hide H15.out.bl
                  clear H6 H6d H7 H8 H9 H10 H11 H12 H13 H14 H15 HFC HI0 HI1 HR0 HR1 HLN HFU HRF
                  go_wp2_with fail
                  go_ret
                  exact ⟨rfl, HBL.out⟩
end Go.Proofs.YtknnojjfdfkdmaaGreatDoor
