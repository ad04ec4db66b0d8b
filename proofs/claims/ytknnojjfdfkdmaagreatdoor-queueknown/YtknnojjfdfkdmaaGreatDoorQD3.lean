/-
  My own text: layer 19: the document's Touch, Items, Idles.
-/
import Derived.Test.YtknnojjfdfkdmaaGreatDoorQD2
import Derived.Test.YtknnojjfdfkdmaaGreatDoorU9
namespace Go.Proofs.YtknnojjfdfkdmaaGreatDoor
open Go.RowKit Go.Extern Go.MapKept Go.ChangeMaps

theorem rm_blk {w w' : World} {v : Value} {K : List Ky} (h : KY.RM w v K) (hs : w.heap.size ≤ w'.heap.size) (hb : 0 < K.length → ∀ g, v.ownBlock = some g → w'.heap[g]? = w.heap[g]?) : KY.RM w' v K := by
  obtain ⟨a, cap, rfl, hc, h1⟩ := h
  refine ⟨a, cap, rfl, hc, ?_⟩
  rcases h1 with h1 | ⟨b, off, rfl, hlt, hcc⟩
  · exact .inl h1
  · by_cases hK : K = []
    · exact .inl hK
    · refine .inr ⟨b, off, rfl, Nat.lt_of_lt_of_le hlt hs, fun j p hj => ?_⟩
      have hblk := hb (List.length_pos_iff.2 hK) b rfl
      have e : ∀ o, w'.cell? ⟨b, o, none⟩ = w.cell? ⟨b, o, none⟩ := fun o => World.cell?_of_block hblk
      exact ⟨(e _).trans (hcc j p hj).1, (e _).trans (hcc j p hj).2⟩
theorem rm_ltU {w : World} {v : Value} {K : List Ky} (h : KY.RM w v K) (h0 : 0 < K.length) : ∀ g, v.ownBlock = some g → g < w.heap.size := by
  obtain ⟨a, cap, rfl, _, h1 | ⟨b, off, rfl, hlt, _⟩⟩ := h
  · rw [h1] at h0; simp at h0
  · intro g hg
    have : b = g := Option.some.inj hg
    rw [← this]; exact hlt
/-- A key of an entry is touched. -/
def tcD (K : List Ky) (e : De) : De := if meetsB e.ks K = true then (if e.is = 0 then { e with is := 1 } else if e.is = 2 then { e with tc := true } else e) else e
theorem tcD_kv (K : List Ky) (e : De) : (tcD K e).kv = e.kv ∧ (tcD K e).ks = e.ks := by
  unfold tcD
  split
  · split
    · exact ⟨rfl, rfl⟩
    · split
      · exact ⟨rfl, rfl⟩
      · exact ⟨rfl, rfl⟩
  · exact ⟨rfl, rfl⟩
def tlD (K : List Ky) (E : List De) (j : Nat) : List De := (E.take j).map (tcD K) ++ E.drop j
def ctD (K : List Ky) (E : List De) (j : Nat) : Nat := ((E.take j).filter (fun e => meetsB e.ks K && e.is == 0)).length
theorem tlD_len (K : List Ky) (E : List De) (j : Nat) : (tlD K E j).length = E.length := by unfold tlD; simp; omega
theorem tlD_zero (K : List Ky) (E : List De) : tlD K E 0 = E := by unfold tlD; simp
theorem tlD_all (K : List Ky) (E : List De) : tlD K E E.length = E.map (tcD K) := by unfold tlD; simp
theorem tlD_at {K : List Ky} {E : List De} {j : Nat} {p : De} (h : E[j]? = some p) : (tlD K E j)[j]? = some p := by
  have := (List.getElem?_eq_some_iff.1 h).1
  unfold tlD
  rw [List.getElem?_append_right (by simp; omega)]
  simp only [List.length_map, List.length_take]
  rw [Nat.min_eq_left (by omega), Nat.sub_self, List.getElem?_drop]; simpa using h
theorem tlD_set {K : List Ky} {E : List De} {k : Nat} {p : De} (h : E[k]? = some p) : (tlD K E k).set k (tcD K p) = tlD K E (k + 1) := by
  have hlt := (List.getElem?_eq_some_iff.1 h).1
  have e1 : E.drop k = p :: E.drop (k + 1) := by rw [List.drop_eq_getElem_cons hlt]; rw [(List.getElem?_eq_some_iff.1 h).2]
  have e2 : E.take (k + 1) = E.take k ++ [p] := by rw [List.take_add_one, h]; rfl
  unfold tlD
  rw [e1, e2, List.map_append, List.append_assoc, List.set_append_right _ _ (by simp; omega)]
  congr 1
  simp only [List.length_map, List.length_take]
  rw [Nat.min_eq_left (by omega), Nat.sub_self]
  rfl
theorem tlD_no {K : List Ky} {E : List De} {k : Nat} {p : De} (h : E[k]? = some p) (hp : tcD K p = p) : tlD K E (k + 1) = tlD K E k := by
  have e := tlD_set (K := K) h
  rw [hp] at e
  obtain ⟨h1, h2⟩ := List.getElem?_eq_some_iff.1 (tlD_at (K := K) h)
  rw [← h2, List.set_getElem_self h1] at e
  exact e.symm
theorem ctD_yes {K : List Ky} {E : List De} {k : Nat} {p : De} (h : E[k]? = some p) (hp : (meetsB p.ks K && p.is == 0) = true) : ctD K E (k + 1) = ctD K E k + 1 := by
  have e2 : E.take (k + 1) = E.take k ++ [p] := by rw [List.take_add_one, h]; rfl
  unfold ctD; rw [e2, List.filter_append, List.length_append]; simp [hp]
theorem ctD_no {K : List Ky} {E : List De} {k : Nat} {p : De} (h : E[k]? = some p) (hp : (meetsB p.ks K && p.is == 0) = false) : ctD K E (k + 1) = ctD K E k := by
  have e2 : E.take (k + 1) = E.take k ++ [p] := by rw [List.take_add_one, h]; rfl
  unfold ctD; rw [e2, List.filter_append, List.length_append]; simp [hp]
theorem ctD_le (K : List Ky) (E : List De) (k : Nat) : ctD K E k ≤ k := by unfold ctD; exact Nat.le_trans (List.length_filter_le _ _) (by rw [List.length_take]; omega)
theorem wr_up1 (n : Nat) (h : n ≤ 8796093022000) : wrap64 ((n : Int) + 1) = ((n + 1 : Nat) : Int) := by unfold wrap64; omega
set_option maxRecDepth 100000 in
set_option maxHeartbeats 4000000 in
theorem rtouch_any (B r : Nat) (room : Int) (vl v : Value) (K : List Ky) (E : List De) (w : World) (h : DQ w B r room vl E) (hl : E.length ≤ 8796093022000) (hv : KY.RM w v K) (hKl : K.length ≤ 8796093022000) (hfr : 0 < K.length → ∀ g, v.ownBlock = some g → ¬ ftD r vl E g) :
    Calls Tryz.prog 38 #[.pointer (some ⟨r, 0, none⟩), v] w fun e w' => e = .returned (.int .i64 (ctD K E E.length : Int)) ∧ DTo w w' B r room vl E vl (E.map (tcD K)) := by
  obtain ⟨a, c, rfl⟩ := h.sl
  have HV : Hid (∀ W, FS (ftD r (.slice a E.length c) E) w W → KY.RM W v K) := hide (fun W hf => rm_blk hv hf.size (fun h0 g hg => hf.block g (rm_ltU hv h0 g hg) (hfr h0 g hg)))
  obtain ⟨va, vc, rfl⟩ := KY.rm_lt hv
  have H0 : Hid (DTo w w B r room (.slice a E.length c) E (.slice a E.length c) (tlD K E 0)) := hide (by rw [tlD_zero]; exact DTo.same h (Below.refl _ _))
  have HL := hide hl
  have HKL := hide hKl
  clear h hl hv hKl hfr
  go_enter Tryz.func38, Tryz.ntmps38
  go_wp2_with fail
  go_loopw [5, 6] (fun n i wr => ∃ k : Nat, k ≤ E.length ∧ i = .int .i64 (k : Int) ∧ n = .int .i64 (ctD K E k : Int) ∧ Hid (DTo w wr B r room (.slice a E.length c) E (.slice a E.length c) (tlD K E k))) (fun _ i _ => E.length - (intOf i).toNat)
  case atStart => exact ⟨0, Nat.zero_le _, rfl, rfl, H0⟩
  case round =>
    clear H0
    obtain ⟨k, hk, rfl, rfl, HM⟩ := hrel
    have k1 := HM.out.q.c1
    by_cases hlt : k < E.length
    · obtain ⟨p, hp⟩ : ∃ p, E[k]? = some p := ⟨_, List.getElem?_eq_getElem hlt⟩
      obtain ⟨g, hga, -, -, c0, c1, c2, c3⟩ := HM.out.q.el (tlD_at (K := K) hp)
      subst hga
      unfold De.kv at c1
      obtain ⟨hd1, i0, i1, wk⟩ := ix hlt HL.out
      have hpm := List.mem_of_getElem? (tlD_at (K := K) hp)
      have HME0 := meets_any p.kv (.slice va K.length vc) p.ks K wr (HM.out.q.ks p hpm).1.rm (HV.out wr HM.out.f) (HM.out.q.ks p hpm).2 HKL.out
      unfold De.kv at HME0
      have HME := hide HME0
      have HLT := hide hlt
      have HP := hide hp
      obtain ⟨ct, hct⟩ : ∃ ct, ctD K E k = ct := ⟨_, rfl⟩
      have HCT := hide hct
      have wct := wr_up1 ct (by rw [← hct]; have := ctD_le K E k; have := HL.out; omega)
      rw [hct]
      clear HME0 hp hpm hk hlt hct c0 c2 c3
      go_wp2_with fail
      refine HME.out.mono ?_
      rintro e w4 ⟨rfl, b4⟩
      have HM4 := hide (HM.out.trans (DTo.same HM.out.q b4))
      obtain ⟨mb, hmb⟩ : ∃ mb, meetsB p.ks K = mb := ⟨_, rfl⟩
      rw [hmb]
      have HMB := hide hmb
      have k4 := HM4.out.q.c1
      clear b4 hmb HM HME k1 c1
      cases mb with
      | false =>
        have HR : Hid (ctD K E (k + 1) = ct ∧ tlD K E (k + 1) = tlD K E k) := hide ⟨by rw [ctD_no HP.out (by rw [HMB.out]; rfl)]; exact HCT.out, tlD_no HP.out (by unfold tcD; rw [if_neg (by rw [HMB.out]; decide)])⟩
        go_wp2_with fail
        go_roundw
        case rel => exact ⟨k + 1, HLT.out, congrArg (Value.int .i64) wk, by rw [HR.out.1], by rw [HR.out.2]; exact HM4⟩
        case measure => first | exact meas_up HLT.out | (rw [wk]; exact meas_up HLT.out)
      | true =>
        obtain ⟨g4, hg4, -, hf4, -, -, c2, c3⟩ := HM4.out.q.el (tlD_at (K := K) HP.out)
        obtain rfl : g = g4 := by injection hg4 with hg4; injection hg4
        have hlen := tlD_len K E k
        have HQ : Hid (DQ w4 B r room (.slice (some ⟨g, 0, none⟩) (tlD K E k).length c) (tlD K E k)) := hide (by rw [hlen]; exact HM4.out.q)
        clear hg4
        by_cases h0 : p.is = 0
        · have e0 : (p.is == 0) = true := by simpa using h0
          have d1 := HQ.out.setIs (tlD_at HP.out) 1
          have HR : Hid (ctD K E (k + 1) = ct + 1 ∧ tlD K E (k + 1) = (tlD K E k).set k { p with is := 1 }) := hide ⟨by rw [ctD_yes HP.out (by rw [HMB.out, e0]; rfl), HCT.out], by rw [← tlD_set HP.out]; unfold tcD; rw [if_pos HMB.out, if_pos h0]⟩
          have HT := hide (HM4.out.trans (show DTo w4 (w4.setCell ⟨g, k * 4 + 2, none⟩ (.int .i64 1)) B r room (.slice (some ⟨g, 0, none⟩) E.length c) (tlD K E k) (.slice (some ⟨g, 0, none⟩) E.length c) ((tlD K E k).set k { p with is := 1 }) from ⟨by rw [hlen] at d1; exact d1, FS.set (.inr (.inl rfl)), fun _ hg => .inl (ftD_kv (set_kv (p' := { p with is := 1 }) (tlD_at HP.out) ⟨rfl, rfl⟩) hg)⟩))
          have hf2 := hf4 (k * 4 + 2)
          clear d1 hf4 h0 hlen HQ c3
          go_wp2_with fail
          go_roundw
          case rel => exact ⟨k + 1, HLT.out, congrArg (Value.int .i64) wk, by rw [HR.out.1]; exact congrArg (Value.int .i64) wct, by rw [HR.out.2]; exact HT⟩
          case measure => first | exact meas_up HLT.out | (rw [wk]; exact meas_up HLT.out)
        · have e0 : (p.is == 0) = false := by simpa using h0
          have HC : Hid (ctD K E (k + 1) = ct) := hide (by rw [ctD_no HP.out (by rw [e0, Bool.and_false])]; exact HCT.out)
          by_cases h2 : p.is = 2
          · have e2 : (p.is == 2) = true := by simpa using h2
            have d1 := HQ.out.setTc (tlD_at HP.out) true
            have HR : Hid (tlD K E (k + 1) = (tlD K E k).set k { p with tc := true }) := hide (by rw [← tlD_set HP.out]; unfold tcD; rw [if_pos HMB.out, if_neg h0, if_pos h2])
            have HT := hide (HM4.out.trans (show DTo w4 (w4.setCell ⟨g, k * 4 + 3, none⟩ (.bool true)) B r room (.slice (some ⟨g, 0, none⟩) E.length c) (tlD K E k) (.slice (some ⟨g, 0, none⟩) E.length c) ((tlD K E k).set k { p with tc := true }) from ⟨by rw [hlen] at d1; exact d1, FS.set (.inr (.inl rfl)), fun _ hg => .inl (ftD_kv (set_kv (p' := { p with tc := true }) (tlD_at HP.out) ⟨rfl, rfl⟩) hg)⟩))
            have hf3 := hf4 (k * 4 + 3)
            clear d1 hf4 h0 h2 hlen HQ
            go_wp2_with fail
            go_roundw
            case rel => exact ⟨k + 1, HLT.out, congrArg (Value.int .i64) wk, by rw [HC.out], by rw [HR.out]; exact HT⟩
            case measure => first | exact meas_up HLT.out | (rw [wk]; exact meas_up HLT.out)
          · have e2 : (p.is == 2) = false := by simpa using h2
            have HR : Hid (tlD K E (k + 1) = tlD K E k) := hide (tlD_no HP.out (by unfold tcD; rw [if_pos HMB.out, if_neg h0, if_neg h2]))
            clear hf4 h0 h2 hlen HQ c3
            go_wp2_with fail
            go_roundw
            case rel => exact ⟨k + 1, HLT.out, congrArg (Value.int .i64) wk, by rw [HC.out], by rw [HR.out]; exact HM4⟩
            case measure => first | exact meas_up HLT.out | (rw [wk]; exact meas_up HLT.out)
    · have e : k = E.length := by omega
      subst e
      go_wp2_with fail
      go_ret
      exact ⟨rfl, by have := HM.out; rw [tlD_all] at this; exact this⟩
end Go.Proofs.YtknnojjfdfkdmaaGreatDoor
