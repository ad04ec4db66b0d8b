/-
  My own text: layer 19: a row with one more, a row without one, by the program.
-/
import Derived.Test.YtknnojjfdfkdmaaGreatDoorU4
namespace Go.Proofs.YtknnojjfdfkdmaaGreatDoor
open Go.RowKit

theorem PR.slc {w : World} {v : Value} {L : List Nat} (h : PR w v L) : ∃ a cap, v = .slice a L.length cap := by
  rcases h.get with ⟨rfl, rfl⟩ | ⟨g, off, cap, cur, rfl, _⟩
  · exact ⟨_, _, rfl⟩
  · exact ⟨_, _, rfl⟩
set_option maxRecDepth 100000 in
set_option maxHeartbeats 1000000 in
theorem with_any (v : Value) (L : List Nat) (c : Nat → Int) (e : Nat) (w : World) (h : PR w v L) (hr : Sr c L) (hc : ∀ x ∈ L, Cm w c x) (he : Cm w c e) (hl : L.length ≤ 8796093022000) :
    Calls Tryz.prog 27 #[v, .pointer (some ⟨e, 0, none⟩)] w fun r w' => ∃ v', r = .returned v' ∧ PR w' v' (insE c e L) ∧ w.grownBy w' v.ownBlock ∧ (∀ g, v'.ownBlock = some g → v.ownBlock = some g ∨ w.heap.size ≤ g) := by
  have HPL := hide (place_any v L c e w h hr hc he (by omega))
  have HPR := hide h
  have HLE := hide (lo_le c (c e) L)
  have HL := hide hl
  unfold insE
  generalize lo c (c e) L = M at *
  generalize hasC c (c e) L = F at *
  obtain ⟨av, cap, rfl⟩ := h.slc
  clear h hr hc he hl
  go_enter Tryz.func27, Tryz.ntmps27
  go_wp2_with fail
  refine HPL.out.mono ?_
  rintro r w1 ⟨rfl, hb1⟩
  have HB1 := hide hb1
  clear hb1 HPL
  have HN2 := hide (alloc_new w1 (.cells #[ep e] 63))
  have HB2 := hide ((Below.refl w1.heap.size w1).alloc (Nat.le_refl _) (.cells #[ep e] 63))
  have HP2 := hide ((HPR.out.later HB1.out).later HB2.out)
  have HIN := hide (ins_any (.slice av L.length cap) M e w1.heap.size L _ HP2.out HLE.out HN2.out (fun q => by have := (HPR.out.later HB1.out).lt q; omega) HL.out)
  have HG2 : Hid (w.grownBy (w1.alloc (.cells #[ep e] 63)) (Value.slice av L.length cap).ownBlock) := hide (gb_trans (gb_below HB1.out _) (gb_below HB2.out _))
  have HS2 : Hid (w.heap.size ≤ (w1.alloc (.cells #[ep e] 63)).heap.size) := hide HG2.out.size
  clear HN2 HB2 HP2 HB1
  go_wp2_with fail
  refine HIN.out.mono ?_
  rintro r w3 ⟨v', rfl, h1, h2, h3⟩
  have H1 := hide h1
  have H2 := hide (gb_trans HG2.out h2)
  have H3 : Hid (∀ g, v'.ownBlock = some g → (Value.slice av L.length cap).ownBlock = some g ∨ w.heap.size ≤ g) := hide (fun g hg => (h3 g hg).imp id (fun q => Nat.le_trans HS2.out q))
  clear h1 h2 h3 HIN HG2 HS2
  go_wp2_with fail
  go_ret
  exact ⟨v', rfl, H1.out, H2.out, H3.out⟩
theorem pr_tail {w : World} {g off cap : Nat} {cur : Array Value} {x : Nat} {t : List Nat} (hh : w.heap[g]? = some (.cells cur 63 (0, 0))) (hn : t.length + 1 ≤ cap) (hm : cap ≤ maxLen) (hsz : off + cap ≤ cur.size) (hc : ∀ j y, (x :: t)[j]? = some y → w.cell? ⟨g, off + j, none⟩ = some (ep y)) :
    PR (w.setCell ⟨g, off, none⟩ (.pointer none)) (.slice (some ⟨g, off + 1, none⟩) t.length (cap - 1)) t ∧ (cap = 1 → PR (w.setCell ⟨g, off, none⟩ (.pointer none)) (.slice (some ⟨g, off, none⟩) t.length (cap - 1)) t) ∧ w.grownBy (w.setCell ⟨g, off, none⟩ (.pointer none)) (some g) := by
  have e := setCell_eq_setRow w g off cur _ _ (.pointer none) hh
  have hh' : (w.setCell ⟨g, off, none⟩ (.pointer none)).heap[g]? = some (.cells (cur.setIfInBounds off (.pointer none)) 63 (0, 0)) := by rw [e]; exact setRow_heap w g cur _ _ _ hh
  refine ⟨PR.mk hh' (by omega) (by omega) (by simp; omega) (fun j y hy => ?_), fun h1 => ?_, ⟨rfl, rfl, rfl, by simp [World.setCell], fun y _ hs => Below.heap_setCell _ _ _ y (fun q => hs (by rw [q]))⟩⟩
  · have := hc (j + 1) y (by rw [List.getElem?_cons_succ]; exact hy)
    rw [cell_of_row _ _ _ _ _ _ hh] at this
    rw [cell_of_row _ _ _ _ _ _ hh', Array.getElem?_setIfInBounds_ne (by omega), show off + 1 + j = off + (j + 1) by omega]
    exact this
  · have ht : t = [] := List.eq_nil_of_length_eq_zero (by omega)
    subst ht
    exact PR.mk hh' (by simp) (by omega) (by simp; omega) (fun j y hy => by simp at hy)
set_option maxRecDepth 100000 in
set_option maxHeartbeats 1000000 in
theorem without_any (v : Value) (L : List Nat) (c : Nat → Int) (e : Nat) (w : World) (h : PR w v L) (hr : Sr c L) (hc : ∀ x ∈ L, Cm w c x) (he : Cm w c e) (hl : L.length ≤ 8796093022000) :
    Calls Tryz.prog 31 #[v, .pointer (some ⟨e, 0, none⟩)] w fun r w' => ∃ v', r = .returned v' ∧ PR w' v' (if hasC c (c e) L = true then delE c e L else L) ∧ w.grownBy w' v.ownBlock ∧ v'.ownBlock = v.ownBlock := by
  have HPL := hide (place_any v L c e w h hr hc he (by omega))
  have HPR := hide h
  obtain ⟨av, cap, rfl⟩ := h.slc
  cases hF : hasC c (c e) L with
  | false =>
    rw [if_neg (by decide)]
    rw [hF] at HPL
    generalize lo c (c e) L = M at *
    clear h hr hc he hl hF
    go_enter Tryz.func31, Tryz.ntmps31
    go_wp2_with fail
    refine HPL.out.mono ?_
    rintro r w1 ⟨rfl, hb1⟩
    have HB1 := hide hb1
    clear hb1 HPL
    go_wp2_with fail
    go_ret
    exact ⟨_, rfl, HPR.out.later HB1.out, gb_below HB1.out _, rfl⟩
  | true =>
    rw [if_pos rfl]
    obtain ⟨x, hx, _⟩ := hasC_at hr hF
    have hlt := (List.getElem?_eq_some_iff.1 hx).1
    rw [hF] at HPL
    unfold delE
    generalize lo c (c e) L = M at *
    clear hr hc he hF hx
    by_cases h0 : M = 0
    · subst h0
      obtain ⟨y, t, rfl⟩ : ∃ y t, L = y :: t := by
        cases L with
        | nil => simp at hlt
        | cons y t => exact ⟨y, t, rfl⟩
      rcases h.get with ⟨_, h1⟩ | ⟨g, off, cap', cur, hv, hh, hn, hm, hsz, hcl⟩
      · cases h1
      injection hv with hv1 hv2 hv3
      subst hv1 hv3
      have hT : ∀ w1 : World, Below w.heap.size w w1 → _ := fun w1 hb1 => pr_tail (w := w1) (x := y) (t := t) (blk_later hh hb1) hn hm hsz (fun j z hz => (hb1.cell (p := ⟨g, _, none⟩) (Array.getElem?_eq_some_iff.1 hh).1).trans (hcl j z hz))
      have HT := hide hT
      have HH := hide hh
      have hi1 : (1 : Int) ≤ ((t.length : Int) + 1) := by omega
      have hi2 : ((t.length : Int) + 1) ≤ (cap : Int) := by simp at hn; omega
      have HC0 := hide (hcl 0 y rfl)
      clear hT hh hn hm hsz hcl hlt h hv2 hl
      rw [show List.take 0 (y :: t) ++ List.drop (0 + 1) (y :: t) = t by simp]
      by_cases hcap : cap = 1
      · subst hcap
        go_enter Tryz.func31, Tryz.ntmps31
        go_wp2_with fail
        refine HPL.out.mono ?_
        rintro r w1 ⟨rfl, hb1⟩
        have HB1 := hide hb1
        obtain ⟨t1, t2, t3⟩ := HT.out w1 hb1
        have HT2 := hide (t2 trivial)
        have HT3 := hide (gb_trans (gb_below hb1 (some g)) t3)
        have c0 : w1.cell? ⟨g, off, none⟩ = some (.pointer (some ⟨y, 0, none⟩)) := (hb1.cell (p := ⟨g, _, none⟩) (Array.getElem?_eq_some_iff.1 HH.out).1).trans HC0.out
        have f0 : w1.frozen? ⟨g, off, none⟩ = false := clr_row (blk_later HH.out hb1) _
        clear hb1 HPL HT t1 t2 t3
        go_wp2_with fail
        go_ret
        exact ⟨_, rfl, HT2.out, HT3.out, rfl⟩
      · go_enter Tryz.func31, Tryz.ntmps31
        go_wp2_with fail
        refine HPL.out.mono ?_
        rintro r w1 ⟨rfl, hb1⟩
        have HB1 := hide hb1
        obtain ⟨t1, t2, t3⟩ := HT.out w1 hb1
        have HT1 := hide t1
        have HT3 := hide (gb_trans (gb_below hb1 (some g)) t3)
        have c0 : w1.cell? ⟨g, off, none⟩ = some (.pointer (some ⟨y, 0, none⟩)) := (hb1.cell (p := ⟨g, _, none⟩) (Array.getElem?_eq_some_iff.1 HH.out).1).trans HC0.out
        have f0 : w1.frozen? ⟨g, off, none⟩ = false := clr_row (blk_later HH.out hb1) _
        clear hb1 HPL HT t1 t2 t3
        go_wp2_with fail
        go_ret
        exact ⟨_, rfl, HT1.out, HT3.out, rfl⟩
    · have hz : ((M : Int) == 0) = false := by rw [beq_eq_false_iff_ne]; omega
      have hw : wrap64 ((M : Int) + 1) = (M : Int) + 1 := by unfold wrap64; omega
      have HD := hide (fun (w1 : World) (hb : Below w.heap.size w w1) => delete_any (.slice av L.length cap) M L w1 (h.later hb) hlt (by omega) hl)
      clear h hlt hl h0
      go_enter Tryz.func31, Tryz.ntmps31
      go_wp2_with fail
      refine HPL.out.mono ?_
      rintro r w1 ⟨rfl, hb1⟩
      have HB1 := hide hb1
      have HD1 := hide (HD.out w1 hb1)
      clear hb1 HPL HD
      go_wp2_with fail
      refine HD1.out.mono ?_
      rintro r w2 ⟨v', rfl, h1, h2, h3⟩
      have H1 := hide h1
      have H2 := hide (gb_trans (gb_below HB1.out _) h2)
      have H3 := hide h3
      clear h1 h2 h3 HD1 HB1
      go_wp2_with fail
      go_ret
      exact ⟨v', rfl, H1.out, H2.out, H3.out⟩
end Go.Proofs.YtknnojjfdfkdmaaGreatDoor
