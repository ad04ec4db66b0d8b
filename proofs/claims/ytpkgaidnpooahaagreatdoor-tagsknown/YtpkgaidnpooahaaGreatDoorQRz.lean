/-
  My own text: AI1, QReg, QRz in one.
-/
import Derived.Test.YtpkgaidnpooahaaGreatDoorQA2
import Derived.Test.YtpkgaidnpooahaaGreatDoorTKB
import Derived.Deep.RegionHeld3
namespace Go.Proofs.YtpkgaidnpooahaaGreatDoor
open Go.RowKit Go.Extern

def mkT (k i : Nat) : List UInt8 := [35, UInt8.ofNat (k % 256), UInt8.ofNat (k / 256 % 256), UInt8.ofNat (i % 256), UInt8.ofNat (i / 256 % 256)]
set_option maxRecDepth 100000 in
set_option maxHeartbeats 1000000 in
theorem markText_any (k i : Nat) (w : World) :
    Calls Tryz.prog 54 #[.int .i64 (k : Int), .int .i64 (i : Int)] w fun e w' => e = .returned (.string ⟨(mkT k i).toArray⟩) ∧ Below w.heap.size w w' := by
  have hcv : (convert 34 9 (.slice (some ⟨w.heap.size, 0, none⟩) 5 5)).run Tryz.prog (w.alloc (.cells #[.int .u8 35, .int .u8 ((k : Int) % 256), .int .u8 ((k : Int) / 256 % 256), .int .u8 ((i : Int) % 256), .int .u8 ((i : Int) / 256 % 256)] 5)) = .ok (.string ⟨(mkT k i).toArray⟩) (w.alloc (.cells #[.int .u8 35, .int .u8 ((k : Int) % 256), .int .u8 ((k : Int) / 256 % 256), .int .u8 ((i : Int) % 256), .int .u8 ((i : Int) / 256 % 256)] 5)) :=
    run_convert_bytes_back (P := Tryz.prog) _ 34 9 5 ⟨w.heap.size, 0, none⟩ 5 (mkT k i) Tryz.underlying34 Tryz.underlying5 Tryz.underlying9 (fun j hj => by
      unfold mkT at hj ⊢
      match j, hj with
      | 0, _ => simp [Addr.add]
      | 1, _ => simp [Addr.add]
      | 2, _ => simp [Addr.add]
      | 3, _ => simp [Addr.add]
      | 4, _ => simp [Addr.add])
  have B0 := hide ((Below.refl w.heap.size w).alloc (Nat.le_refl _) (.cells #[.int .u8 35, .int .u8 ((k : Int) % 256), .int .u8 ((k : Int) / 256 % 256), .int .u8 ((i : Int) % 256), .int .u8 ((i : Int) / 256 % 256)] 5))
  generalize mkT k i = mt at *
  go_enter Tryz.func54, Tryz.ntmps54
  go_wp2_with fail
  go_ret
  exact ⟨rfl, B0.out⟩
theorem Tryz.infoIS : (Tryz.prog.info? 23).map (fun i => (i.zero, i.size, i.bytes)) = some (some (.slice none 0 0), 1, 24) := by kernel_rfl
theorem wpSl {w : World} {o : Oper} {a : Act} {K : Act → World → Prop} {Q : Exit → Act → World → Prop} (s x : Operand) (ho : o.op = .call { callee := .builtin .append, args := #[s, x], argTypes := #[56, 56] }) (B : Nat) (v : Value) (n : Nat) (xs : List Value) (pa : Option Addr) (pn pc : Nat) (b : Nat)
    (hs : a.eval s = v) (hx : a.eval x = .slice (some ⟨b, 0, none⟩) 1 1) (hown : w.ownsRow B 23 1 v n xs) (hc0 : w.cell? ⟨b, 0, none⟩ = some (.slice pa pn pc)) (hn : n ≤ 1099511627776) (hB : B ≤ w.heap.size)
    (h : ∀ v' w', w'.ownsRow B 23 1 v' (n + 1) (xs ++ [.slice pa pn pc]) → w.grownBy w' v.ownBlock → K (a.put o.dst v') w') : o.wp Tryz.prog a w K Q := by
  obtain ⟨i0, hi, hz0, hz1, hz2⟩ := info_parts Tryz.infoIS
  refine wp_append_own _ s x 56 ho B 23 i0 (.slice none 0 0) 1 24 Tryz.underlying56 hi hz0 hz1 hz2 rfl (by decide) v n xs hs hown ⟨b, 0, none⟩ 1 1 [.slice pa pn pc] hx rfl ?_ ?_ (by unfold maxLen; omega) (by omega) hB (fun v' w' h1 h2 _ => h v' w' h1 h2)
  · intro j u hj
    match j, hj with
    | 0, hj => simp at hj; subst hj; simpa [Addr.add] using hc0
  · intro u hu
    simp only [List.mem_cons, List.not_mem_nil, or_false] at hu
    subst hu; rfl
theorem sl_shape {w : World} {B : Nat} {e : TypeId} {k : Nat} {v : Value} {n : Nat} {xs : List Value} (h : w.ownsRow B e k v n xs) : ∃ a cap, v = .slice a n cap := by
  rcases h.2 with ⟨rfl, rfl⟩ | ⟨g, cap, cur, rfl, _⟩
  · exact ⟨none, 0, rfl⟩
  · exact ⟨_, cap, rfl⟩
theorem LR_split {w : World} {g : Nat} : ∀ (l : List Tr) (off : Nat) (os : List Value), LR w l g off os → ∃ O : List (List Value), O.length = l.length ∧ os = O.flatten ∧ ∀ (j : Nat) (a : Tr) (o : List Value), l[j]? = some a → O[j]? = some o → LI w a g (off + j * 5) o
  | [], _, _, h => ⟨[], rfl, LR_nil.1 h, fun j a o h1 => by simp at h1⟩
  | x :: r, off, os, h => by
    obtain ⟨o1, o2, e, h1, h2⟩ := LR_cons.1 h
    obtain ⟨O, e1, e2, e3⟩ := LR_split r (off + 5) o2 h2
    refine ⟨o1 :: O, by simp [e1], by rw [e, e2]; simp, fun j a o q1 q2 => ?_⟩
    cases j with
    | zero => simp at q1 q2; subst q1; subst q2; simpa using h1
    | succ j =>
      have := e3 j a o (by simpa using q1) (by simpa using q2)
      rw [show off + (j + 1) * 5 = off + 5 + j * 5 by omega]; exact this
theorem LI_some {w : World} {a : Tr} {b off : Nat} {o : List Value} (h : LI w a b off o) : 0 < o.length := by
  obtain ⟨u, _, x, c, os, _, rfl, _⟩ := LI_iff.1 h
  simp
theorem flat_len {O : List (List Value)} : ∀ (k : Nat), (∀ o ∈ O, 0 < o.length) → k ≤ O.length → k ≤ (O.take k).flatten.length ∧ (O.take k).flatten.length ≤ O.flatten.length := by
  intro k hO hk
  constructor
  · induction k with
    | zero => simp
    | succ k ih =>
      have hlt : k < O.length := by omega
      rw [List.take_succ_eq_append_getElem hlt, List.flatten_append, List.length_append]
      have := ih (by omega)
      have := hO O[k] (List.getElem_mem hlt)
      rw [List.flatten_singleton]; omega
  · have e : O.flatten = (O.take k).flatten ++ (O.drop k).flatten := by rw [← List.flatten_append, List.take_append_drop]
    rw [e]; simp
set_option maxRecDepth 100000 in
set_option maxHeartbeats 4000000 in
theorem itemLists_any (C : Nat) : ∀ (d : Nat) (l : List Tr) (v : Value) (o : List Value) (ov : Value) (n : Nat) (xs : List Value) (w : World), wts l ≤ d → LT w v l o → (∀ u ∈ o, OW w (fun x => x < C) u) → C ≤ w.heap.size → w.ownsRow C 23 1 ov n xs → n + o.length ≤ 1000000000 →
    Calls Tryz.prog 53 #[v, ov] w fun e w' => (∃ ov', e = .returned ov' ∧ w'.ownsRow C 23 1 ov' (n + o.length) (xs ++ o)) ∧ Below C w w' := by
  intro d
  induction d using Nat.strongRecOn with
  | ind d ih =>
    intro l v o ov n xs w hd h hw hC hO hn
    have IH := hide ih
    obtain ⟨a, cap, os, rfl, rfl, h3⟩ := h
    obtain ⟨oa, oc, rfl⟩ := sl_shape hO
    have HP : Hid (∃ O : List (List Value), O.length = l.length ∧ os = O.flatten ∧ (∀ o ∈ O, 0 < o.length) ∧ ∀ (j : Nat) (b : Tr) (p : List Value), l[j]? = some b → O[j]? = some p → ∃ g u, a = some ⟨g, 0, none⟩ ∧ g < C ∧ w.cell? ⟨g, j * 5 + 4, none⟩ = some u ∧ LT w u b.kids p) := by
      rcases h3 with ⟨rfl, rfl⟩ | ⟨g, rfl, h3⟩
      · exact hide ⟨[], rfl, rfl, fun o ho => by simp at ho, fun j b p h1 => by simp at h1⟩
      · obtain ⟨O, e1, e2, e3⟩ := LR_split l 0 os h3
        refine hide ⟨O, e1, e2, fun o ho => ?_, fun j b p q1 q2 => ?_⟩
        · obtain ⟨j, hj⟩ := List.getElem?_of_mem ho
          have hjl : j < l.length := by rw [← e1]; exact (List.getElem?_eq_some_iff.1 hj).1
          exact LI_some (e3 j _ o (List.getElem?_eq_getElem hjl) hj)
        · have h5 := e3 j b p q1 q2
          rw [Nat.zero_add] at h5
          obtain ⟨u, h6, h7⟩ := LI_iff.1 h5
          exact ⟨g, u, rfl, (hw (.slice (some ⟨g, 0, none⟩) l.length cap) (List.mem_cons_self ..)).2 g rfl, h6, h7⟩
    obtain ⟨O, hOl, rfl, hOp, hOa⟩ := HP.out
    have HOA := hide hOa
    have HOP := hide hOp
    have HW := hide hw
    have HO := hide hO
    have hln : n + 1 + O.flatten.length ≤ 1000000000 := by rw [List.length_cons] at hn; omega
    have hll : l.length ≤ 1000000000 := by have := (flat_len O.length hOp (Nat.le_refl _)).1; rw [List.take_length] at this; omega
    clear h3 HP hw hO hOa hOp hn
    go_enter Tryz.func53, Tryz.ntmps53
    go_wp2_with (at_builtin; refine BigFrame.wpList_want (by rfl) ?_; intro K hK; refine wpSl _ _ rfl C _ _ _ a l.length cap _ rfl rfl (HO.out.alloc _) ?c1 ?c2 ?c3 (fun v2 W2 hO2 hg2 => hK _ _ ?_))
    try (case c1 => simp)
    case c2 => omega
    case c3 => simp; omega
    have HB2 : Hid (Below C w W2) := hide (((Below.refl C w).alloc hC _).grown hg2 (by simp; omega) (fun g e => (World.ownsRow.lt HO.out g e).1))
    have HO2 := hide hO2
    obtain ⟨a2, c2, rfl⟩ := sl_shape hO2
    clear hO2 hg2
    go_wp2_with fail
    go_loopw [1, 5] (fun v i wr => ∃ (k : Nat) (a3 : Option Addr) (c3 : Nat), k ≤ l.length ∧ i = .int .i64 (k : Int) ∧ v = .slice a3 (n + 1 + (O.take k).flatten.length) c3 ∧ Hid (wr.ownsRow C 23 1 (.slice a3 (n + 1 + (O.take k).flatten.length) c3) (n + 1 + (O.take k).flatten.length) (xs ++ [.slice a l.length cap] ++ (O.take k).flatten)) ∧ Hid (Below C w wr)) (fun _ i _ => l.length - (intOf i).toNat)
    case atStart => exact ⟨0, a2, c2, Nat.zero_le _, rfl, by simp, by simpa using HO2, HB2⟩
    case round =>
      obtain ⟨k, a3, c3, hk, rfl, rfl, HR, HB⟩ := hrel
      by_cases hlt : k < l.length
      · obtain ⟨b, hb⟩ : ∃ b, l[k]? = some b := ⟨_, List.getElem?_eq_getElem hlt⟩
        obtain ⟨p, hp⟩ : ∃ p, O[k]? = some p := ⟨_, List.getElem?_eq_getElem (by rw [hOl]; exact hlt)⟩
        obtain ⟨g, u, rfl, hg, hcell, hLT⟩ := HOA.out k b p hb hp
        have hpm : p ∈ O := List.mem_of_getElem? hp
        have hc2 : wr.cell? ⟨g, k * 5 + 4, none⟩ = some u := (HB.out.cell (p := ⟨g, k * 5 + 4, none⟩) hg).trans hcell
        have hww := wts_mem (List.mem_of_getElem? hb)
        have hkp : ∀ y ∈ p, y ∈ Value.slice (some ⟨g, 0, none⟩) l.length cap :: O.flatten := fun y hy => List.mem_cons_of_mem _ (List.mem_flatten.2 ⟨p, hpm, hy⟩)
        have L1 := hide (LT_kept (w' := wr) _ b.kids u p (Nat.le_refl _) hLT (fun y hy x hx => HB.out.block x ((HW.out y (hkp y hy)).2 x hx)))
        have W1 : Hid (∀ y ∈ p, OW wr (fun x => x < C) y) := hide (fun y hy => (HW.out y (hkp y hy)).kept (fun x hx _ => HB.out.block x hx) (fun x hx _ => hx))
        have htk : (O.take (k + 1)).flatten = (O.take k).flatten ++ p := by
          have hlt' : k < O.length := by rw [hOl]; exact hlt
          rw [List.take_succ_eq_append_getElem hlt', List.flatten_append]
          have : O[k] = p := Option.some.inj ((List.getElem?_eq_getElem hlt').symm.trans hp)
          rw [this]; simp
        have hfl := (flat_len (k + 1) HOP.out (by rw [hOl]; omega)).2
        have hfk := (flat_len k HOP.out (by rw [hOl]; omega))
        rw [htk, List.length_append] at hfl
        have HI := hide (IH.out (wts b.kids) (by omega) b.kids u p _ _ _ wr (Nat.le_refl _) L1.out W1.out (by have := HB.out.size; omega) HR.out (by omega))
        have HTK := hide htk
        have hk0 : (0 : Int) ≤ (k : Int) := by omega
        have hkl : (k : Int) < (l.length : Int) := by omega
        have HFL := hide hfl
        clear hb hp hLT hcell hpm hkp htk hww hfl hfk L1 W1
        obtain ⟨m, hm⟩ : ∃ m, m = n + 1 + (O.take k).flatten.length := ⟨_, rfl⟩
        rw [← hm] at HI HR ⊢
        have HMM := hide hm
        clear hm
        go_wp2_with fail
        refine HI.out.mono ?_
        rintro e w5 ⟨⟨ov', rfl, hO5⟩, hb5⟩
        have B5 := hide (HB.out.trans hb5)
        have O5 := hide hO5
        obtain ⟨a5, c5, rfl⟩ := sl_shape hO5
        clear hO5 hb5
        go_wp2_with fail
        go_roundw
        case rel => exact ⟨k + 1, a5, c5, by omega, by go_num, by rw [HTK.out, List.length_append, HMM.out, Nat.add_assoc], by rw [HTK.out, List.length_append, ← Nat.add_assoc, ← HMM.out, ← List.append_assoc]; exact O5, B5⟩
        case measure => simp [intOf]; omega
      · have hke : k = l.length := by omega
        subst hke
        have e : O.take l.length = O := by rw [← hOl, List.take_length]
        rw [e] at HR ⊢
        go_wp2_with fail
        go_ret
        refine ⟨⟨.slice a3 (n + 1 + O.flatten.length) c3, rfl, ?_⟩, HB.out⟩
        rw [show n + (O.flatten.length + 1) = n + 1 + O.flatten.length by omega]
        have h5 := HR.out
        rw [List.append_assoc] at h5
        exact h5
end Go.Proofs.YtpkgaidnpooahaaGreatDoor
namespace Go.Proofs.YtpkgaidnpooahaaGreatDoor
open Go.RowKit

section
variable {P : Program} {ops : Array Oper} {Q : Exit → Act → World → Prop} {md : Region.Mode} {S : World → Prop}
/-- Taken first: what it yields lies in slot d. -/
theorem tk {fuel : Nat} {listed : Array Bool} {tmps : Array Value} {df : List Deferred} {w : World} {oi : Oper} {v : Value} (i d : Nat) (listed' : Array Bool) (hi : ops[i]? = some oi) (hd : oi.dst = some d)
    (hs : Region.noSelect ops = true) (hf : Region.free md ops listed i = true) (hr : (Region.ready md ops listed).contains i = true)
    (hQ : ∀ c a w, Q (.panic c) (a.put oi.dst v) w → Q (.panic c) a w) (hl : listed.setIfInBounds i true = listed')
    (hw : Region.wanted oi (yielded ops tmps) = true) (hy : ∀ w, S w → (execOp (Act.eval ⟨tmps, df⟩) oi).run P w = .ok (.value v) w) (hS : S w)
    (h : wpAnyH P md ops Q S fuel listed' ⟨tmps.setIfInBounds d v, df⟩ w) : wpAnyH P md ops Q S (fuel + 1) listed ⟨tmps, df⟩ w := by
  refine wpAnyH_take hi hs hf hr hQ (Or.inl ⟨hw, hy⟩) hS ?_
  rw [hl, hd]
  exact h
/-- Passed by: its guard says no. -/
theorem sk {fuel : Nat} {listed : Array Bool} {tmps : Array Value} {df : List Deferred} {w : World} {oi : Oper} (i d : Nat) (listed' : Array Bool) (hi : ops[i]? = some oi) (hd : oi.dst = some d)
    (hs : Region.noSelect ops = true) (hf : Region.free md ops listed i = true) (hr : (Region.ready md ops listed).contains i = true)
    (hQ : ∀ c a w, Q (.panic c) (a.put oi.dst undef) w → Q (.panic c) a w) (hl : listed.setIfInBounds i true = listed')
    (hw : Region.wanted oi (yielded ops tmps) = false) (hS : S w)
    (h : wpAnyH P md ops Q S fuel listed' ⟨tmps.setIfInBounds d undef, df⟩ w) : wpAnyH P md ops Q S (fuel + 1) listed ⟨tmps, df⟩ w := by
  refine wpAnyH_take hi hs hf hr hQ (Or.inr ⟨hw, rfl⟩) hS ?_
  rw [hl, hd]
  exact h
/-- The beginning, with the list of those that have come up written out. -/
theorem begins_held {id : Nat} {a : Act} {w : World} (fuel : Nat) (listed : Array Bool) (hm : P.follows .mixedOrders = true) (hf : ops.size = fuel) (hl : Array.replicate ops.size false = listed) (hS : S w.drew)
    (h : S w.drew → wpAnyH P .any ops Q S fuel listed a w.drew) : (Code.region id ops true).wp P Q a w := by
  subst hf hl
  exact wp_region_held_drew hm hS h
/-- The one that may come up, with the list written out. -/
theorem one_ready {fuel : Nat} {listed : Array Bool} {a : Act} {w : World} {oi : Oper} (i : Nat) (listed' : Array Bool) (hi : ops[i]? = some oi) (hr : Region.ready md ops listed = [i]) (hl : listed.setIfInBounds i true = listed')
    (hw : Region.wanted oi (yielded ops a.tmps) = true)
    (h : ∀ K' : Act → World → Prop, Shut (∀ a w, S w → (S w → wpAnyH P md ops Q S fuel listed' a w) → K' a w) → Oper.wp P oi a w K' Q) : wpAnyH P md ops Q S (fuel + 1) listed a w := by
  refine wpAnyH_ready hr (by simp) (AllReadyH.cons hi (fun K' hK => ?_) AllReadyH.nil)
  rw [if_pos hw]
  exact h K' (by rw [hl] at hK; exact hK)
end
end Go.Proofs.YtpkgaidnpooahaaGreatDoor
namespace Go.Proofs.YtpkgaidnpooahaaGreatDoor
open Go.RowKit

section
variable {P : Program} {ops : Array Oper} {Q : Exit → Act → World → Prop} {md : Region.Mode} {S : World → Prop} {z : Nat}
/-- In whatever order; S holds behind each one but z. -/
def anyZ (P : Program) (md : Region.Mode) (ops : Array Oper) (Q : Exit → Act → World → Prop) (S : World → Prop) (z : Nat) : Nat → Array Bool → Act → World → Prop
  | 0, ls, a, w => Region.ready md ops ls = [] ∧ Q .normal a w
  | f + 1, ls, a, w => (Region.ready md ops ls = [] → Q .normal a w) ∧ ∀ i ∈ Region.ready md ops ls, wpOp P ops Q i (fun a' w' => (i ≠ z → S w') ∧ anyZ P md ops Q S z f (ls.setIfInBounds i true) a' w') a w
theorem anyZ_any : ∀ (f : Nat) (ls : Array Bool) (a : Act) (w : World), anyZ P md ops Q S z f ls a w → wpAny P md ops Q f ls a w
  | 0, _, _, _, h => h
  | f + 1, _, _, _, h => ⟨h.1, fun i hi => wpOp_mono (fun a' w' h' => anyZ_any f _ a' w' h'.2) (h.2 i hi)⟩
/-- Does z wait for i? -/
def waitsB (md : Region.Mode) (ops : Array Oper) (z i : Nat) : Bool := match ops[z]? with
  | some o => o.after.any fun e => Region.binds md e && e.on == i
  | none => false
theorem waits_not {i : Nat} {ls : Array Bool} (h : waitsB md ops z i = true) (hi : ls.getD i true = false) : z ∉ Region.ready md ops ls := by
  intro hz
  obtain ⟨_, o, ho, hall⟩ := mem_ready.1 hz
  unfold waitsB at h
  rw [ho] at h
  dsimp only at h
  obtain ⟨k, hk, he⟩ := Array.any_iff_exists.1 h
  obtain ⟨hk2, he2⟩ := he
  rw [Bool.and_eq_true, beq_iff_eq] at he2
  have h1 := hall _ (Array.getElem_mem hk) he2.2.1
  rw [he2.2.2] at h1
  rcases Nat.lt_or_ge i ls.size with h' | h'
  · simp [h'] at hi h1; rw [hi] at h1; cases h1
  · simp [Array.getElem?_eq_none h'] at h1
theorem anyZ_first {i : Nat} {oi : Oper} {v : Value} (hi : ops[i]? = some oi) (hsel : ∀ (j : Nat) (o : Oper) cs b, ops[j]? = some o → o.op ≠ .select cs b) (hQ : ∀ c a w, Q (.panic c) (a.put oi.dst v) w → Q (.panic c) a w) (hz : waitsB md ops z i = true) :
    ∀ (f : Nat) (ls : Array Bool) (a : Act) (w : World), (∀ j oj, ops[j]? = some oj → j ≠ i → ls.getD j true = false → (∀ e ∈ oj.after, Region.binds md e = true → e.on ≠ i) → oi.apart ops oj = true) →
      i ∈ Region.ready md ops ls → YieldsIf P ops S oi v a → S w → anyZ P md ops Q S z f (ls.setIfInBounds i true) (a.put oi.dst v) w → anyZ P md ops Q S z (f + 1) ls a w := by
  intro f
  induction f with
  | zero =>
    intro ls a w _ hr hy hS H
    refine ⟨fun h => (by rw [h] at hr; cases hr), fun j hj => ?_⟩
    by_cases hji : j = i
    · subst hji; exact hy.wpOp hi hS ⟨fun _ => hS, H⟩
    · have := ready_mono hj hji
      rw [H.1] at this; cases this
  | succ f ih =>
    intro ls a w hfree hr hy hS H
    refine ⟨fun h => (by rw [h] at hr; cases hr), fun j hj => ?_⟩
    have hun := (mem_ready.1 hr).1
    by_cases hji : j = i
    · subst hji; exact hy.wpOp hi hS ⟨fun _ => hS, H⟩
    · have hjz : j ≠ z := fun e => waits_not hz hun (by rw [← e]; exact hj)
      have h1 := H.2 j (ready_mono hj hji)
      obtain ⟨hjun, oj, hoj, hall⟩ := mem_ready.1 hj
      have hno : ∀ e ∈ oj.after, Region.binds md e = true → e.on ≠ i := by
        intro e he hb heq
        have h2 := hall e he hb
        rw [heq] at h2
        rcases Nat.lt_or_ge i ls.size with h' | h'
        · simp [h'] at hun h2; rw [hun] at h2; cases h2
        · simp [Array.getElem?_eq_none h'] at h2
      have h2 := wpOp_putIf hoj (hfree j oj hoj hji hjun hno) (fun cs b => hsel i oi cs b hi) (fun cs b => hsel j oj cs b hoj) hQ hy h1
      refine wpOp_mono (fun a' w' h3 => ⟨fun _ => h3.2.1 hjz, ih (ls.setIfInBounds j true) a' w' (fun k ok hk hki hku hkn => hfree k ok hk hki ?_ hkn) (ready_mono hr (Ne.symm hji)) h3.1 (h3.2.1 hjz) ?_⟩) h2
      · by_cases hjk : j = k
        · subst hjk; exact hjun
        · rwa [getD_set_ne true hjk] at hku
      · rw [Array.setIfInBounds_comm _ _ hji]; exact h3.2.2
/-- Taken ahead: what it yields lies in slot d. -/
theorem zk {f : Nat} {ls : Array Bool} {tmps : Array Value} {df : List Deferred} {w : World} {oi : Oper} {v : Value} (i d : Nat) (ls' : Array Bool) (hi : ops[i]? = some oi) (hd : oi.dst = some d)
    (hs : Region.noSelect ops = true) (hf : Region.free md ops ls i = true) (hr : (Region.ready md ops ls).contains i = true) (hz : waitsB md ops z i = true)
    (hQ : ∀ c a w, Q (.panic c) (a.put oi.dst v) w → Q (.panic c) a w) (hl : ls.setIfInBounds i true = ls')
    (hw : Region.wanted oi (yielded ops tmps) = true) (hy : ∀ w, S w → (execOp (Act.eval ⟨tmps, df⟩) oi).run P w = .ok (.value v) w) (hS : S w)
    (h : anyZ P md ops Q S z f ls' ⟨tmps.setIfInBounds d v, df⟩ w) : anyZ P md ops Q S z (f + 1) ls ⟨tmps, df⟩ w := by
  refine anyZ_first hi (Region.noSelect_spec hs) hQ hz f ls _ w (Region.free_spec hi hf) (by simpa using hr) (Or.inl ⟨hw, hy⟩) hS ?_
  rw [hl, hd]; exact h
/-- The one that may come up. -/
theorem z_ready {f : Nat} {ls : Array Bool} {a : Act} {w : World} {oi : Oper} (i : Nat) (ls' : Array Bool) (hi : ops[i]? = some oi) (hr : Region.ready md ops ls = [i]) (hl : ls.setIfInBounds i true = ls')
    (hw : Region.wanted oi (yielded ops a.tmps) = true)
    (h : ∀ K' : Act → World → Prop, Shut (∀ a w, (i ≠ z → S w) → ((i ≠ z → S w) → anyZ P md ops Q S z f ls' a w) → K' a w) → Oper.wp P oi a w K' Q) : anyZ P md ops Q S z (f + 1) ls a w := by
  refine ⟨fun h0 => (by rw [hr] at h0; cases h0), fun j hj => ?_⟩
  rw [hr] at hj
  obtain rfl := List.mem_singleton.1 hj
  refine wpOp_step hi (fun K' hK => ?_)
  rw [if_pos hw]
  refine h K' (fun a w h1 h2 => hK a w ⟨h1, ?_⟩)
  rw [hl]; exact h2 h1
theorem z_done {ls : Array Bool} {a : Act} {w : World} (hr : Region.ready md ops ls = []) (h : Q .normal a w) : ∀ f, anyZ P md ops Q S z f ls a w
  | 0 => ⟨hr, h⟩
  | _ + 1 => ⟨fun _ => h, by rw [hr]; simp⟩
theorem z_begins {id : Nat} {a : Act} {w : World} (z f : Nat) (ls : Array Bool) (hm : P.follows .mixedOrders = true) (hf : ops.size = f) (hl : Array.replicate ops.size false = ls) (hS : S w.drew)
    (h : S w.drew → anyZ P .any ops Q S z f ls a w.drew) : (Code.region id ops true).wp P Q a w := by
  subst hf hl
  exact wp_region_any hm (anyZ_any _ _ _ _ (h hS))
end
end Go.Proofs.YtpkgaidnpooahaaGreatDoor
