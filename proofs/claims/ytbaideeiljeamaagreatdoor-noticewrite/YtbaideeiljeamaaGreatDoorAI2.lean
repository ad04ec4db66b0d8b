/-
  My own text: AI1, AI2 in one.
-/
import Derived.Test.YtbaideeiljeamaaGreatDoorQA
import Derived.Test.YtbaideeiljeamaaGreatDoorQRz
import Derived.Deep.MidRow
import Derived.Deep.RegionWith
import Derived.BigRegion
namespace Go.Proofs.YtbaideeiljeamaaGreatDoor.TG
open Go.RowKit Go.Extern

def mkT (k i : Nat) : List UInt8 := [35, UInt8.ofNat (k % 256), UInt8.ofNat (k / 256 % 256), UInt8.ofNat (i % 256), UInt8.ofNat (i / 256 % 256)]
set_option maxRecDepth 100000 in
set_option maxHeartbeats 1000000 in
theorem markText_any (k i : Nat) (w : World) :
    Calls Tryz.prog 22 #[.int .i64 (k : Int), .int .i64 (i : Int)] w fun e w' => e = .returned (.string ⟨(mkT k i).toArray⟩) ∧ Below w.heap.size w w' := by
  have hcv : (convert 99 9 (.slice (some ⟨w.heap.size, 0, none⟩) 5 5)).run Tryz.prog (w.alloc (.cells #[.int .u8 35, .int .u8 ((k : Int) % 256), .int .u8 ((k : Int) / 256 % 256), .int .u8 ((i : Int) % 256), .int .u8 ((i : Int) / 256 % 256)] 5)) = .ok (.string ⟨(mkT k i).toArray⟩) (w.alloc (.cells #[.int .u8 35, .int .u8 ((k : Int) % 256), .int .u8 ((k : Int) / 256 % 256), .int .u8 ((i : Int) % 256), .int .u8 ((i : Int) / 256 % 256)] 5)) :=
    run_convert_bytes_back (P := Tryz.prog) _ 99 9 5 ⟨w.heap.size, 0, none⟩ 5 (mkT k i) Tryz.underlying99 Tryz.underlying5 Tryz.underlying9 (fun j hj => by
      unfold mkT at hj ⊢
      match j, hj with
      | 0, _ => simp [Addr.add]
      | 1, _ => simp [Addr.add]
      | 2, _ => simp [Addr.add]
      | 3, _ => simp [Addr.add]
      | 4, _ => simp [Addr.add])
  have B0 := hide ((Below.refl w.heap.size w).alloc (Nat.le_refl _) (.cells #[.int .u8 35, .int .u8 ((k : Int) % 256), .int .u8 ((k : Int) / 256 % 256), .int .u8 ((i : Int) % 256), .int .u8 ((i : Int) / 256 % 256)] 5))
  generalize mkT k i = mt at *
  go_enter Tryz.func22, Tryz.ntmps22
  go_wp2_with fail
  go_ret
  exact ⟨rfl, B0.out⟩
theorem Tryz.infoIS : (Tryz.prog.info? 27).map (fun i => (i.zero, i.size, i.bytes)) = some (some (.slice none 0 0), 1, 24) := by kernel_rfl
theorem wpSl {w : World} {o : Oper} {a : Act} {K : Act → World → Prop} {Q : Exit → Act → World → Prop} (s x : Operand) (ho : o.op = .call { callee := .builtin .append, args := #[s, x], argTypes := #[41, 41] }) (B : Nat) (v : Value) (n : Nat) (xs : List Value) (pa : Option Addr) (pn pc : Nat) (b : Nat)
    (hs : a.eval s = v) (hx : a.eval x = .slice (some ⟨b, 0, none⟩) 1 1) (hown : w.ownsRow B 27 1 v n xs) (hc0 : w.cell? ⟨b, 0, none⟩ = some (.slice pa pn pc)) (hn : n ≤ 1099511627776) (hB : B ≤ w.heap.size)
    (h : ∀ v' w', w'.ownsRow B 27 1 v' (n + 1) (xs ++ [.slice pa pn pc]) → w.grownBy w' v.ownBlock → K (a.put o.dst v') w') : o.wp Tryz.prog a w K Q := by
  obtain ⟨i0, hi, hz0, hz1, hz2⟩ := info_parts Tryz.infoIS
  refine wp_append_own _ s x 41 ho B 27 i0 (.slice none 0 0) 1 24 Tryz.underlying41 hi hz0 hz1 hz2 rfl (by decide) v n xs hs hown ⟨b, 0, none⟩ 1 1 [.slice pa pn pc] hx rfl ?_ ?_ (by unfold maxLen; omega) (by omega) hB (fun v' w' h1 h2 _ => h v' w' h1 h2)
  · intro j u hj
    match j, hj with
    | 0, hj => simp at hj; subst hj; simpa [Addr.add] using hc0
  · intro u hu
    simp only [List.mem_cons, List.not_mem_nil, or_false] at hu
    subst hu; rfl
theorem sl_shape {w : World} {B : Nat} {e : TypeId} {k : Nat} {v : Value} {n : Nat} {xs : List Value} (h : w.ownsRow B e k v n xs) : ∃ a cap, v = .slice a n cap := by
  rcases h.2 with ⟨rfl, rfl⟩ | ⟨g, cap, cur, rfl, _⟩
  · exact ⟨none, 0, rfl⟩
  · exact ⟨_, cap, rfl⟩
theorem LR_split {w : World} {g : Nat} : ∀ (l : List Tr) (off : Nat) (os : List Value), LR w l g off os → ∃ O : List (List Value), O.length = l.length ∧ os = O.flatten ∧ ∀ (j : Nat) (a : Tr) (o : List Value), l[j]? = some a → O[j]? = some o → LI w a g (off + j * 5) o
  | [], _, _, h => ⟨[], rfl, LR_nil.1 h, fun j a o h1 => by simp at h1⟩
  | x :: r, off, os, h => by
    obtain ⟨o1, o2, e, h1, h2⟩ := LR_cons.1 h
    obtain ⟨O, e1, e2, e3⟩ := LR_split r (off + 5) o2 h2
    refine ⟨o1 :: O, by simp [e1], by rw [e, e2]; simp, fun j a o q1 q2 => ?_⟩
    cases j with
    | zero => simp at q1 q2; subst q1; subst q2; simpa using h1
    | succ j =>
      have := e3 j a o (by simpa using q1) (by simpa using q2)
      rw [show off + (j + 1) * 5 = off + 5 + j * 5 by omega]; exact this
theorem LI_some {w : World} {a : Tr} {b off : Nat} {o : List Value} (h : LI w a b off o) : 0 < o.length := by
  obtain ⟨u, _, x, c, os, _, rfl, _⟩ := LI_iff.1 h
  simp
theorem flat_len {O : List (List Value)} : ∀ (k : Nat), (∀ o ∈ O, 0 < o.length) → k ≤ O.length → k ≤ (O.take k).flatten.length ∧ (O.take k).flatten.length ≤ O.flatten.length := by
  intro k hO hk
  constructor
  · induction k with
    | zero => simp
    | succ k ih =>
      have hlt : k < O.length := by omega
      rw [List.take_succ_eq_append_getElem hlt, List.flatten_append, List.length_append]
      have := ih (by omega)
      have := hO O[k] (List.getElem_mem hlt)
      rw [List.flatten_singleton]; omega
  · have e : O.flatten = (O.take k).flatten ++ (O.drop k).flatten := by rw [← List.flatten_append, List.take_append_drop]
    rw [e]; simp
set_option maxRecDepth 100000 in
set_option maxHeartbeats 4000000 in
theorem itemLists_any (C : Nat) : ∀ (d : Nat) (l : List Tr) (v : Value) (o : List Value) (ov : Value) (n : Nat) (xs : List Value) (w : World), wts l ≤ d → LT w v l o → (∀ u ∈ o, OW w (fun x => x < C) u) → C ≤ w.heap.size → w.ownsRow C 27 1 ov n xs → n + o.length ≤ 1000000000 →
    Calls Tryz.prog 21 #[v, ov] w fun e w' => (∃ ov', e = .returned ov' ∧ w'.ownsRow C 27 1 ov' (n + o.length) (xs ++ o)) ∧ Below C w w' := by
  intro d
  induction d using Nat.strongRecOn with
  | ind d ih =>
    intro l v o ov n xs w hd h hw hC hO hn
    have IH := hide ih
    obtain ⟨a, cap, os, rfl, rfl, h3⟩ := h
    obtain ⟨oa, oc, rfl⟩ := sl_shape hO
    have HP : Hid (∃ O : List (List Value), O.length = l.length ∧ os = O.flatten ∧ (∀ o ∈ O, 0 < o.length) ∧ ∀ (j : Nat) (b : Tr) (p : List Value), l[j]? = some b → O[j]? = some p → ∃ g u, a = some ⟨g, 0, none⟩ ∧ g < C ∧ w.cell? ⟨g, j * 5 + 4, none⟩ = some u ∧ LT w u b.kids p) := by
      rcases h3 with ⟨rfl, rfl⟩ | ⟨g, rfl, h3⟩
      · exact hide ⟨[], rfl, rfl, fun o ho => by simp at ho, fun j b p h1 => by simp at h1⟩
      · obtain ⟨O, e1, e2, e3⟩ := LR_split l 0 os h3
        refine hide ⟨O, e1, e2, fun o ho => ?_, fun j b p q1 q2 => ?_⟩
        · obtain ⟨j, hj⟩ := List.getElem?_of_mem ho
          have hjl : j < l.length := by rw [← e1]; exact (List.getElem?_eq_some_iff.1 hj).1
          exact LI_some (e3 j _ o (List.getElem?_eq_getElem hjl) hj)
        · have h5 := e3 j b p q1 q2
          rw [Nat.zero_add] at h5
          obtain ⟨u, h6, h7⟩ := LI_iff.1 h5
          exact ⟨g, u, rfl, (hw (.slice (some ⟨g, 0, none⟩) l.length cap) (List.mem_cons_self ..)).2 g rfl, h6, h7⟩
    obtain ⟨O, hOl, rfl, hOp, hOa⟩ := HP.out
    have HOA := hide hOa
    have HOP := hide hOp
    have HW := hide hw
    have HO := hide hO
    have hln : n + 1 + O.flatten.length ≤ 1000000000 := by rw [List.length_cons] at hn; omega
    have hll : l.length ≤ 1000000000 := by have := (flat_len O.length hOp (Nat.le_refl _)).1; rw [List.take_length] at this; omega
    clear h3 HP hw hO hOa hOp hn
    go_enter Tryz.func21, Tryz.ntmps21
    go_wp2_with (at_builtin; refine BigFrame.wpList_want (by rfl) ?_; intro K hK; refine wpSl _ _ rfl C _ _ _ a l.length cap _ rfl rfl (HO.out.alloc _) ?c1 ?c2 ?c3 (fun v2 W2 hO2 hg2 => hK _ _ ?_))
    try (case c1 => simp)
    case c2 => omega
    case c3 => simp; omega
    have HB2 : Hid (Below C w W2) := hide (((Below.refl C w).alloc hC _).grown hg2 (by simp; omega) (fun g e => (World.ownsRow.lt HO.out g e).1))
    have HO2 := hide hO2
    obtain ⟨a2, c2, rfl⟩ := sl_shape hO2
    clear hO2 hg2
    go_wp2_with fail
    go_loopw [1, 5] (fun v i wr => ∃ (k : Nat) (a3 : Option Addr) (c3 : Nat), k ≤ l.length ∧ i = .int .i64 (k : Int) ∧ v = .slice a3 (n + 1 + (O.take k).flatten.length) c3 ∧ Hid (wr.ownsRow C 27 1 (.slice a3 (n + 1 + (O.take k).flatten.length) c3) (n + 1 + (O.take k).flatten.length) (xs ++ [.slice a l.length cap] ++ (O.take k).flatten)) ∧ Hid (Below C w wr)) (fun _ i _ => l.length - (intOf i).toNat)
    case atStart => exact ⟨0, a2, c2, Nat.zero_le _, rfl, by simp, by simpa using HO2, HB2⟩
    case round =>
      obtain ⟨k, a3, c3, hk, rfl, rfl, HR, HB⟩ := hrel
      by_cases hlt : k < l.length
      · obtain ⟨b, hb⟩ : ∃ b, l[k]? = some b := ⟨_, List.getElem?_eq_getElem hlt⟩
        obtain ⟨p, hp⟩ : ∃ p, O[k]? = some p := ⟨_, List.getElem?_eq_getElem (by rw [hOl]; exact hlt)⟩
        obtain ⟨g, u, rfl, hg, hcell, hLT⟩ := HOA.out k b p hb hp
        have hpm : p ∈ O := List.mem_of_getElem? hp
        have hc2 : wr.cell? ⟨g, k * 5 + 4, none⟩ = some u := (HB.out.cell (p := ⟨g, k * 5 + 4, none⟩) hg).trans hcell
        have hww := wts_mem (List.mem_of_getElem? hb)
        have hkp : ∀ y ∈ p, y ∈ Value.slice (some ⟨g, 0, none⟩) l.length cap :: O.flatten := fun y hy => List.mem_cons_of_mem _ (List.mem_flatten.2 ⟨p, hpm, hy⟩)
        have L1 := hide (LT_kept (w' := wr) _ b.kids u p (Nat.le_refl _) hLT (fun y hy x hx => HB.out.block x ((HW.out y (hkp y hy)).2 x hx)))
        have W1 : Hid (∀ y ∈ p, OW wr (fun x => x < C) y) := hide (fun y hy => (HW.out y (hkp y hy)).kept (fun x hx _ => HB.out.block x hx) (fun x hx _ => hx))
        have htk : (O.take (k + 1)).flatten = (O.take k).flatten ++ p := by
          have hlt' : k < O.length := by rw [hOl]; exact hlt
          rw [List.take_succ_eq_append_getElem hlt', List.flatten_append]
          have : O[k] = p := Option.some.inj ((List.getElem?_eq_getElem hlt').symm.trans hp)
          rw [this]; simp
        have hfl := (flat_len (k + 1) HOP.out (by rw [hOl]; omega)).2
        have hfk := (flat_len k HOP.out (by rw [hOl]; omega))
        rw [htk, List.length_append] at hfl
        have HI := hide (IH.out (wts b.kids) (by omega) b.kids u p _ _ _ wr (Nat.le_refl _) L1.out W1.out (by have := HB.out.size; omega) HR.out (by omega))
        have HTK := hide htk
        have hk0 : (0 : Int) ≤ (k : Int) := by omega
        have hkl : (k : Int) < (l.length : Int) := by omega
        have HFL := hide hfl
        clear hb hp hLT hcell hpm hkp htk hww hfl hfk L1 W1
        obtain ⟨m, hm⟩ : ∃ m, m = n + 1 + (O.take k).flatten.length := ⟨_, rfl⟩
        rw [← hm] at HI HR ⊢
        have HMM := hide hm
        clear hm
        go_wp2_with fail
        refine HI.out.mono ?_
        rintro e w5 ⟨⟨ov', rfl, hO5⟩, hb5⟩
        have B5 := hide (HB.out.trans hb5)
        have O5 := hide hO5
        obtain ⟨a5, c5, rfl⟩ := sl_shape hO5
        clear hO5 hb5
        go_wp2_with fail
        go_roundw
        case rel => exact ⟨k + 1, a5, c5, by omega, by go_num, by rw [HTK.out, List.length_append, HMM.out, Nat.add_assoc], by rw [HTK.out, List.length_append, ← Nat.add_assoc, ← HMM.out, ← List.append_assoc]; exact O5, B5⟩
        case measure => simp [intOf]; omega
      · have hke : k = l.length := by omega
        subst hke
        have e : O.take l.length = O := by rw [← hOl, List.take_length]
        rw [e] at HR ⊢
        go_wp2_with fail
        go_ret
        refine ⟨⟨.slice a3 (n + 1 + O.flatten.length) c3, rfl, ?_⟩, HB.out⟩
        rw [show n + (O.flatten.length + 1) = n + 1 + O.flatten.length by omega]
        have h5 := HR.out
        rw [List.append_assoc] at h5
        exact h5
end Go.Proofs.YtbaideeiljeamaaGreatDoor.TG
namespace Go.Proofs.YtbaideeiljeamaaGreatDoor.TG
open Go.RowKit Go.Extern

theorem ai_form {w : World} {B : Nat} {e : TypeId} {k : Nat} {v : Value} {n : Nat} {xs : List Value} (h : w.ownsRow B e k v n xs) (hn : 0 < n) : ∃ g cap, v = .slice (some ⟨g, 0, none⟩) n cap ∧ B ≤ g ∧ g < w.heap.size := by
  rcases h.2 with ⟨_, h0⟩ | ⟨g, cap, cur, hv, hb, hh, _⟩
  · omega
  · exact ⟨g, cap, hv, hb, (Array.getElem?_eq_some_iff.1 hh).1⟩
/-- An item more: what lay below stays. -/
theorem run_keep_itm (w : World) (ty : TypeId) (B : Nat) (v : Value) (n : Nat) (xs : List Value) (hown : w.ownsRow B 58 5 v n xs)
    (b : Nat) (news : List Value) (hl : news.length = 5) (hnews : w.rangeAt b 0 news) (h1 : ∀ u ∈ news, u.oneCell' = true) (hB : B ≤ w.heap.size) (hsz : n ≤ 1099511627776) :
    ∃ v' w', (Builtin.append_ #[27, 27] ty #[v, .slice (some ⟨b, 0, none⟩) 1 1]).run Tryz.prog w = .ok v' w' ∧ w'.ownsRow B 58 5 v' (n + 1) (xs ++ news) ∧ w.grownBy w' v.ownBlock ∧ (∀ g, v'.ownBlock = some g → v.ownBlock = some g ∨ w.heap.size ≤ g) ∧ (∀ P j u, j < n * 5 → w.cell? ⟨P, j, none⟩ = some u → w'.cell? ⟨P, j, none⟩ = some u) := by
  have hnews' : ∀ j u, news[j]? = some u → w.cell? ((⟨b, 0, none⟩ : Addr).add j) = some u := fun j u hj => by rw [Addr.add_mid]; exact hnews j u hj
  obtain ⟨i0, hi, hz0, hz1, hz2⟩ := info_parts Tryz.infoItmq
  rcases hown.2 with ⟨hv, h0⟩ | ⟨g, cap, cur, hv, hb, hh, hn2, hn3⟩
  · subst hv; subst h0
    obtain rfl : xs = [] := List.eq_nil_of_length_eq_zero (by simpa using hown.1)
    obtain ⟨v', w', hrun, r1, r2, _⟩ := run_append_own (P := Tryz.prog) w w.heap.size 27 ty 58 i0 _ 5 88 Tryz.underlying27 hi hz0 hz1 hz2 zItmq (by decide) (.slice none 0 0) 0 [] (World.ownsRow_nil w _ _ 5) ⟨b, 0, none⟩ 1 1 news hl hnews' h1 (by unfold maxLen; omega) (by omega) (Nat.le_refl _)
    exact ⟨v', w', hrun, World.ownsRow.mono r1 hB, r2, fun g hg => .inr (own_ltq r1 g hg).1, fun P j u hj => by omega⟩
  · subst hv
    by_cases hroom : n + 1 ≤ cap
    · obtain ⟨w', hr, h2, h3⟩ := run_append_own_spare (P := Tryz.prog) w B 27 ty 58 i0 5 Tryz.underlying27 hi hz1 g n cap xs hown ⟨b, 0, none⟩ 1 1 news hl hnews' h1 hroom
      refine ⟨_, w', hr, h2, h3, fun g' hg' => .inl hg', fun P j u hj hu => ?_⟩
      by_cases e : P = g
      · subst e
        have hxl : xs.length = n * 5 := hown.1
        have c1 := World.ownsRow.cells hown rfl j _ (List.getElem?_eq_getElem (by rw [hxl]; exact hj))
        have c2 := World.ownsRow.cells h2 rfl j _ (by rw [List.getElem?_append_left (by rw [hxl]; exact hj)]; exact List.getElem?_eq_getElem (by rw [hxl]; exact hj))
        rw [Addr.add_lit, Nat.zero_add] at c1 c2
        rw [c2, ← c1]; exact hu
      · exact h3.cell hu (fun e2 => e (Option.some.inj e2))
    · obtain ⟨v', w', hrun, r1, r2⟩ := run_append_arg_grows (P := Tryz.prog) w 27 ty 58 i0 _ 5 88 Tryz.underlying27 hi hz0 hz1 hz2 zItmq (by decide) ⟨g, 0, none⟩ n cap xs hown.1 (World.ownsRow.cells hown rfl) ⟨b, 0, none⟩ 1 1 news hl hnews' (by omega) (by unfold maxLen; omega) (by omega)
      exact ⟨v', w', hrun, World.ownsRow.mono r1 hB, ⟨r2.os, r2.tape, r2.output, r2.size, fun k hk _ => r2.block k hk (by intro e; cases e)⟩, fun g' hg' => .inr (own_ltq r1 g' hg').1, fun P j u _ hu => r2.cell hu (by intro e; cases e)⟩
/-- Lists in a row at Lb, each with memory of its own below C. -/
structure LQs (w : World) (B C Lb : Nat) (O : List Value) : Prop where
  cell : ∀ (k : Nat) (u : Value), O[k]? = some u → w.cell? ⟨Lb, k, none⟩ = some u
  row : ∀ (k : Nat) (u : Value), O[k]? = some u → ∃ n xs, w.ownsRow B 58 5 u n xs
  low : ∀ (k : Nat) (u : Value) (x : Nat), O[k]? = some u → u.ownBlock = some x → x < C
  nd : Nd O
  lb : C ≤ Lb
  le : B ≤ C
  sz : C ≤ w.heap.size
theorem nd_apart : ∀ {O : List Value}, Nd O → ∀ {j k : Nat} {u v : Value} {x : Nat}, O[j]? = some u → O[k]? = some v → u.ownBlock = some x → v.ownBlock = some x → j = k
  | [], _, j, k, u, v, x, h1, _, _, _ => by simp at h1
  | a :: O, hn, j, k, u, v, x, h1, h2, h3, h4 => by
    have hO : Nd O := by
      unfold Nd at hn ⊢
      rw [List.filterMap_cons] at hn
      split at hn
      · exact hn
      · exact (List.nodup_cons.1 hn).2
    have hmem : ∀ {i : Nat} {y : Value}, O[i]? = some y → y.ownBlock = some x → a.ownBlock ≠ some x := fun {i y} hi hy ha => by
      unfold Nd at hn
      rw [List.filterMap_cons, ha] at hn
      exact (List.nodup_cons.1 hn).1 (List.mem_filterMap.2 ⟨y, List.mem_of_getElem? hi, hy⟩)
    cases j with
    | zero =>
      cases k with
      | zero => rfl
      | succ k =>
        simp at h1; subst h1
        exact absurd h3 (hmem (by simpa using h2) h4)
    | succ j =>
      cases k with
      | zero =>
        simp at h2; subst h2
        exact absurd h4 (hmem (by simpa using h1) h3)
      | succ k =>
        have := nd_apart hO (j := j) (k := k) (by simpa using h1) (by simpa using h2) h3 h4
        omega
/-- The marks that are laid: all of the lists before k, i of list k. -/
def MKs (w : World) (O : List Value) (k i : Nat) : Prop := ∀ (j : Nat) (g n c m : Nat), O[j]? = some (.slice (some ⟨g, 0, none⟩) n c) → m < n → (j < k ∨ (j = k ∧ m < i)) → w.cell? ⟨g, m * 5, none⟩ = some (.string ⟨(mkT j m).toArray⟩)
def mkI (k i : Nat) : List Value := [.string ⟨(mkT k i).toArray⟩, .string ⟨#[]⟩, .string ⟨#[]⟩, .string ⟨#[]⟩, .slice none 0 0]
theorem sc5 (w : World) (g o : Nat) (k i : Nat) : w.setCells g o (mkI k i) = ((((w.setCell ⟨g, o, none⟩ (.string ⟨(mkT k i).toArray⟩)).setCell ⟨g, o + 1, none⟩ (.string ⟨#[]⟩)).setCell ⟨g, o + 1 + 1, none⟩ (.string ⟨#[]⟩)).setCell ⟨g, o + 1 + 1 + 1, none⟩ (.string ⟨#[]⟩)).setCell ⟨g, o + 1 + 1 + 1 + 1, none⟩ (.slice none 0 0) := rfl
theorem sc_heap (g : Nat) : ∀ (vs : List Value) (o : Nat) (w : World) (x : Nat), x ≠ g → (w.setCells g o vs).heap[x]? = w.heap[x]?
  | [], _, _, _, _ => rfl
  | v :: r, o, w, x, hx => by rw [World.setCells, sc_heap g r (o + 1) _ x hx, Below.heap_setCell _ _ _ x hx]
theorem sc_size : ∀ (vs : List Value) (g o : Nat) (w : World), (w.setCells g o vs).heap.size = w.heap.size
  | [], _, _, _ => rfl
  | v :: r, g, o, w => by rw [World.setCells, sc_size r g (o + 1)]; simp [World.setCell]
theorem sc_below {B g : Nat} {a : World} (hg : B ≤ g) : ∀ (vs : List Value) (o : Nat) (w : World), Below B a w → Below B a (w.setCells g o vs)
  | [], _, _, h => h
  | v :: r, o, w, h => by rw [World.setCells]; exact sc_below hg r (o + 1) _ (h.setCell hg v)
/-- A mark is laid. -/
theorem LQs.put {w : World} {B C Lb : Nat} {O : List Value} (h : LQs w B C Lb O) {k g n c : Nat} (i : Nat) (hk : O[k]? = some (.slice (some ⟨g, 0, none⟩) n c)) : LQs (w.setCells g (i * 5) (mkI k i)) B C Lb O := by
  have hg := h.low k _ g hk rfl
  have hne : ∀ x, x ≠ g → (w.setCells g (i * 5) (mkI k i)).heap[x]? = w.heap[x]? := sc_heap g _ _ w
  refine ⟨fun j u hj => ?_, fun j u hj => ?_, h.low, h.nd, h.lb, h.le, by rw [sc_size]; exact h.sz⟩
  · rw [World.cell?_of_block (w := w) (a := ⟨Lb, j, none⟩) (hne Lb (by have := h.lb; omega))]; exact h.cell j u hj
  · obtain ⟨m, xs, hO⟩ := h.row j u hj
    by_cases e : u.ownBlock = some g
    · obtain ⟨m', xs', hO'⟩ := h.row j u hj
      have r := own_set (own_set (own_set (own_set (own_set hO' e (i * 5) (.string ⟨(mkT k i).toArray⟩)) e (i * 5 + 1) (.string ⟨#[]⟩)) e (i * 5 + 1 + 1) (.string ⟨#[]⟩)) e (i * 5 + 1 + 1 + 1) (.string ⟨#[]⟩)) e (i * 5 + 1 + 1 + 1 + 1) (.slice none 0 0)
      rw [← sc5] at r
      exact ⟨m', _, r⟩
    · exact ⟨m, xs, owns_blkq hO (fun x hx => hne x (fun e2 => e (by rw [← e2]; exact hx)))⟩
theorem mk_there {w : World} {B : Nat} {g n c i : Nat} {xs : List Value} (h : w.ownsRow B 58 5 (.slice (some ⟨g, 0, none⟩) n c) n xs) (hi : i < n) : w.there g (i * 5) 5 := by
  intro j hj
  have hlt : i * 5 + j < xs.length := by rw [h.1]; omega
  have hc := World.ownsRow.cells h rfl (i * 5 + j) _ (List.getElem?_eq_getElem hlt)
  rw [Addr.add_lit, Nat.zero_add] at hc
  exact ⟨by rw [hc]; rfl, World.ownsRow.frozenAt h (i * 5 + j)⟩
theorem LQs.len {w : World} {B C Lb : Nat} {O : List Value} (h : LQs w B C Lb O) {k : Nat} {a : Option Addr} {n c : Nat} (hk : O[k]? = some (.slice a n c)) : ∃ xs, w.ownsRow B 58 5 (.slice a n c) n xs := by
  obtain ⟨m, xs, hO⟩ := h.row k _ hk
  obtain ⟨a', c', e⟩ := sl_shape hO
  injection e with _ e2 _
  subst e2
  exact ⟨xs, hO⟩
theorem MKs.put {w : World} {B C Lb : Nat} {O : List Value} (hL : LQs w B C Lb O) {k g n c i : Nat} (hk : O[k]? = some (.slice (some ⟨g, 0, none⟩) n c)) (hi : i < n) (h : MKs w O k i) : MKs (w.setCells g (i * 5) (mkI k i)) O k (i + 1) := by
  intro j g' n' c' m hj hm hlt
  by_cases e : g' = g
  · subst e
    have ej := nd_apart hL.nd hj hk rfl rfl
    subst ej
    rw [hj] at hk
    cases hk
    by_cases em : m = i
    · subst em
      obtain ⟨xs, hO⟩ := hL.len hj
      exact World.rangeAt_setCells_same w g' (m * 5) (mkI j m) (mk_there hO hi) 0 _ rfl
    · rw [World.cell?_setCells_out g' (mkI j i) (i * 5) w ⟨g', m * 5, none⟩ (fun _ _ => by show m * 5 < i * 5 ∨ i * 5 + 5 ≤ m * 5; omega)]
      exact h j g' _ _ m hj hm (by omega)
  · rw [World.cell?_of_block (w := w) (a := ⟨g', m * 5, none⟩) (sc_heap g _ _ w g' e)]
    refine h j g' n' c' m hj hm ?_
    rcases hlt with h1 | h1
    · exact .inl h1
    · obtain ⟨rfl, _⟩ := h1
      rw [hj] at hk
      cases hk
      exact absurd rfl e
theorem MKs.next {w : World} {O : List Value} {k i : Nat} (h : MKs w O k i) (hn : ∀ g n c, O[k]? = some (.slice (some ⟨g, 0, none⟩) n c) → n ≤ i) : MKs w O (k + 1) 0 := by
  intro j g n c m hj hm hlt
  refine h j g n c m hj hm ?_
  by_cases e : j = k
  · subst e
    have := hn g n c hj
    exact .inr ⟨rfl, by omega⟩
  · exact .inl (by omega)
theorem LQs.below {w w' : World} {B C Lb : Nat} {O : List Value} (h : LQs w B C Lb O) (hb : Below w.heap.size w w') (hlb : Lb < w.heap.size) : LQs w' B C Lb O :=
  ⟨fun k u hk => (hb.cell (p := ⟨Lb, k, none⟩) hlb).trans (h.cell k u hk), fun k u hk => by
    obtain ⟨n, xs, hO⟩ := h.row k u hk
    exact ⟨n, xs, owns_blkq hO (fun x hx => hb.block x (own_ltq hO x hx).2)⟩, h.low, h.nd, h.lb, h.le, Nat.le_trans h.sz hb.size⟩
theorem MKs.below {w w' : World} {B C Lb : Nat} {O : List Value} {k i : Nat} (hL : LQs w B C Lb O) (h : MKs w O k i) (hb : Below w.heap.size w w') : MKs w' O k i := fun j g n c m hj hm hlt => (hb.cell (p := ⟨g, m * 5, none⟩) (by have := hL.low j _ g hj rfl; have := hL.sz; show g < _; omega)).trans (h j g n c m hj hm hlt)
theorem op_ai_itm {o : Oper} {a : Act} {K : Act → World → Prop} {Q : Exit → Act → World → Prop} {w : World} (s x : Operand) (ho : o.op = .call { callee := .builtin .append, args := #[s, x], argTypes := #[27, 27] }) (v : Value) (b m c : Nat) (hs : a.eval s = v) (hx : a.eval x = .slice (some ⟨b, 0, none⟩) m c)
    (v' : Value) (w' : World) (hr : (Builtin.append_ #[27, 27] o.type #[v, .slice (some ⟨b, 0, none⟩) m c]).run Tryz.prog w = .ok v' w') (h : K (a.put o.dst v') w') : o.wp Tryz.prog a w K Q := by
  unfold Oper.wp execOp
  simp only [ho, resolve, invoke, builtin, Sem.run_bind, Sem.run_pure, Result.andThen_ok, List.map_toArray, List.map_cons, List.map_nil, hs, hx, hr]
  exact h
/-- While the lists are grown: those still to grow. -/
structure GQs (w : World) (B C Lb : Nat) (O : List Value) (k : Nat) : Prop where
  cell : ∀ (j : Nat) (u : Value), O[j]? = some u → w.cell? ⟨Lb, j, none⟩ = some u
  row : ∀ (j : Nat) (u : Value), k ≤ j → O[j]? = some u → ∃ n xs, w.ownsRow B 58 5 u n xs
  low : ∀ (j : Nat) (u : Value) (x : Nat), O[j]? = some u → u.ownBlock = some x → x < C
  nd : Nd O
  lb : C ≤ Lb
  sz : Lb < w.heap.size
theorem LQs.gq {w : World} {B C Lb : Nat} {O : List Value} (h : LQs w B C Lb O) (hlt : Lb < w.heap.size) : GQs w B C Lb O 0 := ⟨h.cell, fun j u _ hj => h.row j u hj, h.low, h.nd, h.lb, hlt⟩
/-- List k is being grown out of world W. -/
structure RIg (W w : World) (B : Nat) (O : List Value) (k n t KK : Nat) (u g : Value) : Prop where
  ch : ∀ x, x < W.heap.size → u.ownBlock ≠ some x → w.heap[x]? = W.heap[x]?
  sz : W.heap.size ≤ w.heap.size
  own : ∃ xs, w.ownsRow B 58 5 g (n + t) xs
  blk : ∀ x, g.ownBlock = some x → u.ownBlock = some x ∨ W.heap.size ≤ x
  mks : MKs w O KK 0
theorem RIg.step {W w w' : World} {B C Lb : Nat} {O : List Value} {k n t c KK : Nat} {ua : Option Addr} {g g' : Value} {o : Obj} (hG : GQs W B C Lb O k) (hk : O[k]? = some (.slice ua n c)) (h : RIg W w B O k n t KK (.slice ua n c) g)
    (hO : ∃ xs, w'.ownsRow B 58 5 g' (n + t + 1) xs) (hg : (w.alloc o).grownBy w' g.ownBlock) (hr : ∀ x, g'.ownBlock = some x → g.ownBlock = some x ∨ (w.alloc o).heap.size ≤ x) (hkeep : ∀ P j u, j < (n + t) * 5 → (w.alloc o).cell? ⟨P, j, none⟩ = some u → w'.cell? ⟨P, j, none⟩ = some u) : RIg W w' B O k n (t + 1) KK (.slice ua n c) g' := by
  have hsa : (w.alloc o).heap.size = w.heap.size + 1 := by simp
  have hch : ∀ x, x < W.heap.size → (Value.slice ua n c).ownBlock ≠ some x → w'.heap[x]? = W.heap[x]? := fun x hx hne => by
    have h1 : some x ≠ g.ownBlock := fun e => by
      rcases h.blk x e.symm with h2 | h2
      · exact hne h2
      · omega
    have hs := h.sz
    rw [hg.block x (by omega) h1, Below.heap_alloc w o x (by omega)]
    exact h.ch x hx hne
  refine ⟨hch, by have := h.sz; have := hg.size; omega, by simpa [Nat.add_assoc] using hO, fun x hx => ?_, ?_⟩
  · rcases hr x hx with h1 | h1
    · exact h.blk x h1
    · exact .inr (by have := h.sz; omega)
  · intro j g1 n1 c1 m hj hm hlt
    have hmark := h.mks j g1 n1 c1 m hj hm hlt
    have hgl := hG.low j _ g1 hj rfl
    have hgw : g1 < W.heap.size := by have := hG.lb; have := hG.sz; omega
    by_cases e : (Value.slice ua n c).ownBlock = some g1
    · have ej := nd_apart hG.nd hj hk rfl e
      subst ej
      rw [hj] at hk
      cases hk
      refine hkeep g1 (m * 5) _ (by omega) ?_
      rw [World.cell?_alloc_lt _ _ ⟨g1, m * 5, none⟩ (by have := h.sz; show g1 < _; omega)]
      exact hmark
    · have e1 : w'.heap[g1]? = w.heap[g1]? := (hch g1 hgw e).trans (h.ch g1 hgw e).symm
      rw [World.cell?_of_block (w := w) (a := ⟨g1, m * 5, none⟩) e1]
      exact hmark
theorem GQs.next {W w : World} {B C Lb : Nat} {O : List Value} {k n t c KK : Nat} {ua : Option Addr} {g : Value} (hG : GQs W B C Lb O k) (hk : O[k]? = some (.slice ua n c)) (h : RIg W w B O k n t KK (.slice ua n c) g) : GQs w B C Lb O (k + 1) := by
  have hne : (Value.slice ua n c).ownBlock ≠ some Lb := fun e => by have := hG.low k _ Lb hk e; have := hG.lb; omega
  refine ⟨fun j u hj => ?_, fun j u hkj hj => ?_, hG.low, hG.nd, hG.lb, Nat.lt_of_lt_of_le hG.sz h.sz⟩
  · rw [World.cell?_of_block (w := W) (a := ⟨Lb, j, none⟩) (h.ch Lb hG.sz hne)]; exact hG.cell j u hj
  · obtain ⟨n', xs, hO⟩ := hG.row j u (by omega) hj
    refine ⟨n', xs, owns_blkq hO (fun x hx => h.ch x (own_ltq hO x hx).2 (fun e => ?_))⟩
    have := nd_apart hG.nd hj hk hx e
    omega
theorem RIg.start {W : World} {B : Nat} {O : List Value} {k n c KK : Nat} {ua : Option Addr} {xs : List Value} (hO : W.ownsRow B 58 5 (.slice ua n c) n xs) (hm : MKs W O KK 0) : RIg W W B O k n 0 KK (.slice ua n c) (.slice ua n c) :=
  ⟨fun _ _ _ => rfl, Nat.le_refl _, ⟨xs, hO⟩, fun _ h => .inl h, hm⟩
end Go.Proofs.YtbaideeiljeamaaGreatDoor.TG
