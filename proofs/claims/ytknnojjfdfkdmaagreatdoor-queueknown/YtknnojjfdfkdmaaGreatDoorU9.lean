/-
  My own text: layer 19: New; Items and Idle.
-/
import Derived.Test.YtknnojjfdfkdmaaGreatDoorU8
import Derived.Carry
namespace Go.Proofs.YtknnojjfdfkdmaaGreatDoor
open Go.RowKit Go.Extern Go.MapKept Go.ChangeMaps

def e0 : Et := ⟨0, 0, [], .slice none 0 0, 0, false⟩
def Qx.new (room : Int) (mb mw : Nat) : Qx := { room := max room 0, n := 0, mb := mb, mw := mw, va := .slice none 0 0, vr := .slice none 0 0, f := fun _ => none, N := fun _ => none, T := fun _ => e0, X := [], A := [], Rd := [], C := fun _ => [] }
set_option maxRecDepth 100000 in
set_option maxHeartbeats 1000000 in
theorem new_any (room : Int) (w : World) :
    Calls Tryz.prog 6 #[.int .i64 room] w fun r w' => r = .returned (.pointer (some ⟨w.heap.size + 2, 0, none⟩)) ∧ QM (fun g => w.heap.size ≤ g) w' (w.heap.size + 2) (Qx.new room w.heap.size (w.heap.size + 1)) ∧ Below w.heap.size w w' := by
  have mm : ∀ (t : TypeId) (W : World), (Instr.makeMap t none).run Tryz.prog W = .ok (.map (some W.heap.size)) (W.alloc (.map #[] 0)) := fun t W => run_makeMap t W
  have HB : Hid (Below w.heap.size w (((w.alloc (.map #[] 0)).alloc (.map #[] 0)).alloc (qb (Qx.new room w.heap.size (w.heap.size + 1))))) := hide ((((Below.refl w.heap.size w).alloc (Nat.le_refl _) _).alloc (by simp) _).alloc (by simp; omega) _)
  have HQ : Hid (QM (fun g => w.heap.size ≤ g) (((w.alloc (.map #[] 0)).alloc (.map #[] 0)).alloc (qb (Qx.new room w.heap.size (w.heap.size + 1)))) (w.heap.size + 2) (Qx.new room w.heap.size (w.heap.size + 1))) := hide (by
    have m1 : MP iv IOK (w.alloc (.map #[] 0)) w.heap.size (fun _ => none) := MP.made w
    have s1 : (w.alloc (.map #[] 0)).heap.size = w.heap.size + 1 := by simp
    have m2 : MP kv KOK ((w.alloc (.map #[] 0)).alloc (.map #[] 0)) (w.heap.size + 1) (fun _ => none) := by rw [← s1]; exact MP.made _
    have s2 : ((w.alloc (.map #[] 0)).alloc (.map #[] 0)).heap.size = w.heap.size + 2 := by simp
    have h1 := alloc_new ((w.alloc (.map #[] 0)).alloc (.map #[] 0)) (qb (Qx.new room w.heap.size (w.heap.size + 1)))
    rw [s2] at h1
    have b2 : Below ((w.alloc (.map #[] 0)).alloc (.map #[] 0)).heap.size ((w.alloc (.map #[] 0)).alloc (.map #[] 0)) (((w.alloc (.map #[] 0)).alloc (.map #[] 0)).alloc (qb (Qx.new room w.heap.size (w.heap.size + 1)))) := (Below.refl _ _).alloc (Nat.le_refl _) _
    have b1 : Below (w.alloc (.map #[] 0)).heap.size (w.alloc (.map #[] 0)) ((w.alloc (.map #[] 0)).alloc (.map #[] 0)) := (Below.refl _ _).alloc (Nat.le_refl _) _
    exact ⟨h1, (m1.later b1).later b2, m2.later b2, PR.nil _, PR.nil _, fun _ => PR.nil _, fun x hx => (by cases hx), fun g hg => (by cases hg), fun k g hg => (by cases hg), fun k k' g _ hg => (by cases hg), by show w.heap.size ≠ w.heap.size + 1; omega, ⟨by show w.heap.size ≤ w.heap.size + 2; omega, Nat.le_refl _, by show w.heap.size ≤ w.heap.size + 1; omega⟩, fun g hg => (by cases hg), fun g hg => (by cases hg), fun k g hg => (by cases hg), fun x hx => (by cases hx)⟩)
  unfold qb Qx.new at HB
  dsimp only at HB
  have HQ' : Hid (QM (fun g => w.heap.size ≤ g) (((w.alloc (.map #[] 0)).alloc (.map #[] 0)).alloc (.cells #[.int .i64 (max room 0), .int .i64 0, .map (some w.heap.size), .slice none 0 0, .slice none 0 0, .map (some (w.heap.size + 1))] 62 (0, 0))) (w.heap.size + 2) (Qx.new room w.heap.size (w.heap.size + 1))) := HQ
  clear HQ
  go_enter Tryz.func6, Tryz.ntmps6
  go_wp2_with fail
  go_ret
  exact ⟨rfl, HQ'.out, HB.out⟩
def ic (L : List Int) : List Value := L.map (.int .i64)
theorem ic_len (L : List Int) : (ic L).length = L.length := by simp [ic]
theorem ic_app (a b : List Int) : ic (a ++ b) = ic a ++ ic b := by simp [ic]
theorem Tryz.infoI : (Tryz.prog.info? 3).map (fun i => (i.zero, i.size, i.bytes)) = some (some (.int .i64 0), 1, 8) := by kernel_rfl
/-- A row of numbers of one's own. -/
abbrev OI (w : World) (B : Nat) (v : Value) (L : List Int) : Prop := w.ownsRow B 3 1 v L.length (ic L)
theorem OI.later {w w' : World} {B : Nat} {v : Value} {L : List Int} (h : OI w B v L) (hb : Below w.heap.size w w') : OI w' B v L := owns_lat h hb
theorem OI.slc {w : World} {B : Nat} {v : Value} {L : List Int} (h : OI w B v L) : ∃ a cap, v = .slice a L.length cap := by
  rcases h.2 with ⟨rfl, h0⟩ | ⟨g, cap, cur, rfl, _⟩
  · exact ⟨none, 0, by rw [h0]⟩
  · exact ⟨_, _, rfl⟩
theorem items1_any (x : Nat) (w : World) : Calls Tryz.prog 35 #[.pointer (some ⟨x, 0, none⟩)] w fun r w' => r = .returned (.bool true) ∧ w' = w := by
  go_enter Tryz.func35, Tryz.ntmps35
  go_wp2_with fail
  go_ret
  exact ⟨rfl, rfl⟩
theorem idle1_any (x : Nat) (e : Et) (w : World) (h : En w x e) : Calls Tryz.prog 33 #[.pointer (some ⟨x, 0, none⟩)] w fun r w' => r = .returned (.bool (e.st == 0)) ∧ w' = w := by
  have c3 := h.cells.2.2.2.1
  clear h
  generalize e.st = s at *
  go_enter Tryz.func33, Tryz.ntmps33
  go_wp2_with fail
  go_ret
  exact ⟨rfl, rfl⟩
/-- Those of the first k that are so. -/
def idsK (p : Nat → Bool) (i : Nat → Int) (L : List Nat) (k : Nat) : List Int := ((L.take k).filter p).map i
theorem idsK_yes {p : Nat → Bool} {i : Nat → Int} {L : List Nat} {k x : Nat} (h : L[k]? = some x) (hp : p x = true) : idsK p i L (k + 1) = idsK p i L k ++ [i x] := by
  unfold idsK
  rw [List.take_add_one, h, List.filter_append, List.map_append]
  simp [hp]
theorem idsK_no {p : Nat → Bool} {i : Nat → Int} {L : List Nat} {k x : Nat} (h : L[k]? = some x) (hp : p x = false) : idsK p i L (k + 1) = idsK p i L k := by
  unfold idsK
  rw [List.take_add_one, h, List.filter_append, List.map_append]
  simp [hp]
theorem idsK_le (p : Nat → Bool) (i : Nat → Int) (L : List Nat) (k : Nat) : (idsK p i L k).length ≤ k := by
  unfold idsK
  rw [List.length_map]
  exact Nat.le_trans (List.length_filter_le _ _) (by rw [List.length_take]; omega)
set_option maxRecDepth 100000 in
set_option maxHeartbeats 2000000 in
theorem ids_items (v : Value) (L : List Nat) (T : Nat → Et) (w : World) (h : PR w v L) (he : ∀ x ∈ L, En w x (T x)) (hl : L.length ≤ 8796093022000) :
    Calls Tryz.prog 32 #[v, .func (Fn.func 35) #[] #[]] w fun r w' => ∃ v', r = .returned v' ∧ OI w' w.heap.size v' ((L.filter (fun _ => true)).map fun x => (T x).id) ∧ Below w.heap.size w w' := by
  obtain ⟨i0, hi, hz0, hz1, hz2⟩ := info_parts Tryz.infoI
  have HPR := hide h.get
  have HE := hide he
  have HL := hide hl
  obtain ⟨av, cap, rfl⟩ := h.slc
  have HFIN : Hid (((L.filter (fun _ => true)).map fun x => (T x).id) = idsK (fun _ => true) (fun x => (T x).id) L L.length) := hide (by unfold idsK; rw [List.take_length])
  rw [HFIN.out]
  have HLE := hide (fun k => idsK_le (fun _ => true) (fun x => (T x).id) L k)
  obtain ⟨K, hK⟩ : ∃ K, K = idsK (fun _ => true) (fun x => (T x).id) L := ⟨_, rfl⟩
  have HY : Hid (∀ k x, L[k]? = some x → (fun _ => true) x = true → K (k + 1) = K k ++ [(T x).id]) := hide (fun k x h1 h2 => by rw [hK]; exact idsK_yes h1 h2)
  have HN : Hid (∀ k x, L[k]? = some x → (fun _ => true) x = false → K (k + 1) = K k) := hide (fun k x h1 h2 => by rw [hK]; exact idsK_no h1 h2)
  have H0 : Hid (K 0 = []) := hide (by rw [hK]; rfl)
  rw [← hK]
  rw [← hK] at HLE
  clear h he hl hK HFIN
  go_enter Tryz.func32, Tryz.ntmps32
  go_wp2_with fail
  go_loopw [5, 10] (fun o i wr => ∃ k : Nat, k ≤ L.length ∧ i = .int .i64 (k : Int) ∧ Hid (wr.ownsRow w.heap.size 3 1 o (K k).length (ic (K k))) ∧ Hid (Below w.heap.size w wr)) (fun _ i _ => L.length - (intOf i).toNat)
  case atStart => exact ⟨0, Nat.zero_le _, rfl, hide (by rw [H0.out]; exact World.ownsRow_nil w w.heap.size 3 1), hide (Below.refl _ _)⟩
  case round =>
    obtain ⟨k, hk, rfl, HO, HB⟩ := hrel
    by_cases hlt : k < L.length
    · obtain ⟨x, hx⟩ : ∃ p, L[k]? = some p := ⟨_, List.getElem?_eq_getElem hlt⟩
      rcases HPR.out with ⟨_, hnil⟩ | ⟨b, off, cap', cur, hv, hbl, _, _, _, hcl⟩
      · rw [hnil] at hlt; simp at hlt
      injection hv with hv1 hv2 hv3
      clear hv2 hv3
      have c0 : wr.cell? ⟨b, off + k, none⟩ = some (.pointer (some ⟨x, 0, none⟩)) := (HB.out.cell (p := ⟨b, _, none⟩) (Array.getElem?_eq_some_iff.1 hbl).1).trans (hcl k x hx)
      subst hv1
      have hEx := (HE.out x (List.mem_of_getElem? hx)).later HB.out
      have i0' := hEx.cells.1
      have hd1 : decide ((k : Int) < (L.length : Int)) = true := by rw [decide_eq_true_eq]; omega
      have k0 : (0 : Int) ≤ (k : Int) := by omega
      have k1 : (k : Int) < (L.length : Int) := by omega
      have wk : wrap64 ((k : Int) + 1) = (k : Int) + 1 := by have := HL.out; unfold wrap64; omega
      have HCL := hide (items1_any x wr)
      have HX := hide hx
      have HKL := hide (HLE.out k)
      have H63 : Hid ((K k).length + 1 ≤ 8796093022001) := hide (by have := HLE.out k; have := HL.out; omega)
      clear hcl hbl hx hEx
      cases hP : (fun _ => true) x with
      | true =>
        skip
        have HT := hide (HY.out k x HX.out (by first | exact hP | trivial))
        clear hP
        go_wp2_with fail
        refine HCL.out.mono ?_
        rintro r w1 ⟨rfl, rfl⟩
        clear HCL
        obtain ⟨n0, hn0⟩ : ∃ n0, (K k).length = n0 := ⟨_, rfl⟩
        rw [hn0] at HO H63
        obtain ⟨cs, hcs⟩ : ∃ cs, ic (K k) = cs := ⟨_, rfl⟩
        rw [hcs] at HO
        go_wp2_with (first
          | (at_builtin; refine wpList_append_own_wide _ rfl _ _ 40 rfl w.heap.size 3 i0 (.int .i64 0) 1 8 Tryz.underlying40 hi hz0 hz1 hz2 rfl (by decide) _ _ _ rfl (HO.out.alloc _) ⟨_, 0, none⟩ 1 1 [.int .i64 (T x).id] rfl rfl ?c1 ?c2 ?c3 ?c4 ?c5 ?_))
        case c3 => have := H63.out; unfold maxLen; omega
        case c4 => have := H63.out; omega
        case c5 => have := HB.out.size; simp; omega
        case c1 => exact fun j u hj => by rw [Addr.add_lit, cell_of_row _ _ _ _ _ _ (alloc_new w1 _), Nat.zero_add]; simpa using hj
        case c2 => first | exact rfl | exact ⟨rfl, rfl⟩ | (intro u hu; rw [List.mem_singleton.1 hu]; rfl)
        intro v' w2 hown' hgrow _
        have hB1 : Below w.heap.size w w2 := (HB.out.alloc HB.out.size _).grown hgrow (by have := HB.out.size; simp; omega) (fun k hk => (HO.out.lt k hk).1)
        have HO2 : Hid (w2.ownsRow w.heap.size 3 1 v' (K (k + 1)).length (ic (K (k + 1)))) := hide (by
          rw [HT.out, ic_app, List.length_append, hn0, hcs]; exact hown')
        have HB2 := hide hB1
        clear hown' hgrow hB1 HO HB
        go_wp2_with fail
        go_roundw
        case rel => exact ⟨k + 1, by omega, by go_num, HO2, HB2⟩
        case measure => first | (rw [wk]; simp [intOf]; omega) | (simp [intOf]; omega)
      | false =>
        cases hP
    · have e : k = L.length := by omega
      subst e
      go_wp2_with fail
      go_ret
      exact ⟨_, rfl, HO.out, HB.out⟩
set_option maxRecDepth 100000 in
set_option maxHeartbeats 2000000 in
theorem ids_idle (v : Value) (L : List Nat) (T : Nat → Et) (w : World) (h : PR w v L) (he : ∀ x ∈ L, En w x (T x)) (hl : L.length ≤ 8796093022000) :
    Calls Tryz.prog 32 #[v, .func (Fn.func 33) #[] #[]] w fun r w' => ∃ v', r = .returned v' ∧ OI w' w.heap.size v' ((L.filter (fun x => (T x).st == 0)).map fun x => (T x).id) ∧ Below w.heap.size w w' := by
  obtain ⟨i0, hi, hz0, hz1, hz2⟩ := info_parts Tryz.infoI
  have HPR := hide h.get
  have HE := hide he
  have HL := hide hl
  obtain ⟨av, cap, rfl⟩ := h.slc
  have HFIN : Hid (((L.filter (fun x => (T x).st == 0)).map fun x => (T x).id) = idsK (fun x => (T x).st == 0) (fun x => (T x).id) L L.length) := hide (by unfold idsK; rw [List.take_length])
  rw [HFIN.out]
  have HLE := hide (fun k => idsK_le (fun x => (T x).st == 0) (fun x => (T x).id) L k)
  obtain ⟨K, hK⟩ : ∃ K, K = idsK (fun x => (T x).st == 0) (fun x => (T x).id) L := ⟨_, rfl⟩
  have HY : Hid (∀ k x, L[k]? = some x → (fun x => (T x).st == 0) x = true → K (k + 1) = K k ++ [(T x).id]) := hide (fun k x h1 h2 => by rw [hK]; exact idsK_yes h1 h2)
  have HN : Hid (∀ k x, L[k]? = some x → (fun x => (T x).st == 0) x = false → K (k + 1) = K k) := hide (fun k x h1 h2 => by rw [hK]; exact idsK_no h1 h2)
  have H0 : Hid (K 0 = []) := hide (by rw [hK]; rfl)
  rw [← hK]
  rw [← hK] at HLE
  clear h he hl hK HFIN
  go_enter Tryz.func32, Tryz.ntmps32
  go_wp2_with fail
  go_loopw [5, 10] (fun o i wr => ∃ k : Nat, k ≤ L.length ∧ i = .int .i64 (k : Int) ∧ Hid (wr.ownsRow w.heap.size 3 1 o (K k).length (ic (K k))) ∧ Hid (Below w.heap.size w wr)) (fun _ i _ => L.length - (intOf i).toNat)
  case atStart => exact ⟨0, Nat.zero_le _, rfl, hide (by rw [H0.out]; exact World.ownsRow_nil w w.heap.size 3 1), hide (Below.refl _ _)⟩
  case round =>
    obtain ⟨k, hk, rfl, HO, HB⟩ := hrel
    by_cases hlt : k < L.length
    · obtain ⟨x, hx⟩ : ∃ p, L[k]? = some p := ⟨_, List.getElem?_eq_getElem hlt⟩
      rcases HPR.out with ⟨_, hnil⟩ | ⟨b, off, cap', cur, hv, hbl, _, _, _, hcl⟩
      · rw [hnil] at hlt; simp at hlt
      injection hv with hv1 hv2 hv3
      clear hv2 hv3
      have c0 : wr.cell? ⟨b, off + k, none⟩ = some (.pointer (some ⟨x, 0, none⟩)) := (HB.out.cell (p := ⟨b, _, none⟩) (Array.getElem?_eq_some_iff.1 hbl).1).trans (hcl k x hx)
      subst hv1
      have hEx := (HE.out x (List.mem_of_getElem? hx)).later HB.out
      have i0' := hEx.cells.1
      have hd1 : decide ((k : Int) < (L.length : Int)) = true := by rw [decide_eq_true_eq]; omega
      have k0 : (0 : Int) ≤ (k : Int) := by omega
      have k1 : (k : Int) < (L.length : Int) := by omega
      have wk : wrap64 ((k : Int) + 1) = (k : Int) + 1 := by have := HL.out; unfold wrap64; omega
      have HCL := hide (idle1_any x (T x) wr hEx)
      have HX := hide hx
      have HKL := hide (HLE.out k)
      have H63 : Hid ((K k).length + 1 ≤ 8796093022001) := hide (by have := HLE.out k; have := HL.out; omega)
      clear hcl hbl hx hEx
      cases hP : (fun x => (T x).st == 0) x with
      | true =>
        have hP2 := hP
        dsimp only at hP2
        rw [hP2] at HCL
        clear hP2
        have HT := hide (HY.out k x HX.out (by first | exact hP | trivial))
        clear hP
        go_wp2_with fail
        refine HCL.out.mono ?_
        rintro r w1 ⟨rfl, rfl⟩
        clear HCL
        obtain ⟨n0, hn0⟩ : ∃ n0, (K k).length = n0 := ⟨_, rfl⟩
        rw [hn0] at HO H63
        obtain ⟨cs, hcs⟩ : ∃ cs, ic (K k) = cs := ⟨_, rfl⟩
        rw [hcs] at HO
        go_wp2_with (first
          | (at_builtin; refine wpList_append_own_wide _ rfl _ _ 40 rfl w.heap.size 3 i0 (.int .i64 0) 1 8 Tryz.underlying40 hi hz0 hz1 hz2 rfl (by decide) _ _ _ rfl (HO.out.alloc _) ⟨_, 0, none⟩ 1 1 [.int .i64 (T x).id] rfl rfl ?c1 ?c2 ?c3 ?c4 ?c5 ?_))
        case c3 => have := H63.out; unfold maxLen; omega
        case c4 => have := H63.out; omega
        case c5 => have := HB.out.size; simp; omega
        case c1 => exact fun j u hj => by rw [Addr.add_lit, cell_of_row _ _ _ _ _ _ (alloc_new w1 _), Nat.zero_add]; simpa using hj
        case c2 => first | exact rfl | exact ⟨rfl, rfl⟩ | (intro u hu; rw [List.mem_singleton.1 hu]; rfl)
        intro v' w2 hown' hgrow _
        have hB1 : Below w.heap.size w w2 := (HB.out.alloc HB.out.size _).grown hgrow (by have := HB.out.size; simp; omega) (fun k hk => (HO.out.lt k hk).1)
        have HO2 : Hid (w2.ownsRow w.heap.size 3 1 v' (K (k + 1)).length (ic (K (k + 1)))) := hide (by
          rw [HT.out, ic_app, List.length_append, hn0, hcs]; exact hown')
        have HB2 := hide hB1
        clear hown' hgrow hB1 HO HB
        go_wp2_with fail
        go_roundw
        case rel => exact ⟨k + 1, by omega, by go_num, HO2, HB2⟩
        case measure => first | (rw [wk]; simp [intOf]; omega) | (simp [intOf]; omega)
      | false =>
        have HT := hide (HN.out k x HX.out hP)
        dsimp only at hP
        rw [hP] at HCL
        clear hP
        go_wp2_with fail
        refine HCL.out.mono ?_
        rintro r w1 ⟨rfl, rfl⟩
        clear HCL
        have HO2 := HO
        rw [← HT.out] at HO2
        go_wp2_with fail
        go_roundw
        case rel => exact ⟨k + 1, by omega, by go_num, HO2, HB⟩
        case measure => first | (rw [wk]; simp [intOf]; omega) | (simp [intOf]; omega)
    · have e : k = L.length := by omega
      subst e
      go_wp2_with fail
      go_ret
      exact ⟨_, rfl, HO.out, HB.out⟩
set_option maxRecDepth 100000 in
set_option maxHeartbeats 1000000 in
theorem items_any (F : Nat → Prop) (q : Nat) (Z : Qx) (w : World) (h : QM F w q Z) (hA : ∀ x ∈ Z.A, x ∈ Z.X) (hl : Z.A.length ≤ 8796093022000) :
    Calls Tryz.prog 15 #[.pointer (some ⟨q, 0, none⟩)] w fun r w' => ∃ v', r = .returned v' ∧ OI w' w.heap.size v' (Z.A.map fun x => (Z.T x).id) ∧ Below w.heap.size w w' := by
  have q3 := h.cells.2.2.2.1
  have HI0 := ids_items Z.va Z.A Z.T w h.all (fun x hx => h.ent x (hA x hx)) hl
  rw [show (Z.A.filter fun _ => true) = Z.A from List.filter_eq_self.2 (fun _ _ => rfl)] at HI0
  obtain ⟨av, cap, hva⟩ := h.all.slc
  rw [hva] at q3 HI0
  have HI := hide HI0
  clear h hva HI0 hA hl
  go_enter Tryz.func15, Tryz.ntmps15
  go_wp2_with fail
  refine HI.out.mono ?_
  rintro r w1 ⟨v', rfl, h1, h2⟩
  have H1 := hide h1
  have H2 := hide h2
  clear h1 h2 HI
  go_wp2_with fail
  go_ret
  exact ⟨_, rfl, H1.out, H2.out⟩
set_option maxRecDepth 100000 in
set_option maxHeartbeats 1000000 in
theorem idle_any (F : Nat → Prop) (q : Nat) (Z : Qx) (w : World) (h : QM F w q Z) (hA : ∀ x ∈ Z.A, x ∈ Z.X) (hl : Z.A.length ≤ 8796093022000) :
    Calls Tryz.prog 12 #[.pointer (some ⟨q, 0, none⟩)] w fun r w' => ∃ v', r = .returned v' ∧ OI w' w.heap.size v' ((Z.A.filter fun x => (Z.T x).st == 0).map fun x => (Z.T x).id) ∧ Below w.heap.size w w' := by
  have q3 := h.cells.2.2.2.1
  have HI0 := ids_idle Z.va Z.A Z.T w h.all (fun x hx => h.ent x (hA x hx)) hl
  obtain ⟨av, cap, hva⟩ := h.all.slc
  rw [hva] at q3 HI0
  have HI := hide HI0
  clear h hva HI0 hA hl
  go_enter Tryz.func12, Tryz.ntmps12
  go_wp2_with fail
  refine HI.out.mono ?_
  rintro r w1 ⟨v', rfl, h1, h2⟩
  have H1 := hide h1
  have H2 := hide h2
  clear h1 h2 HI
  go_wp2_with fail
  go_ret
  exact ⟨_, rfl, H1.out, H2.out⟩
end Go.Proofs.YtknnojjfdfkdmaaGreatDoor
