/-
  My own text: the call that looks whether messages have memory of their own. (Printed by mkai3.py.)
-/
import Derived.Test.YtbaideeiljeamaaGreatDoorAI2
namespace Go.Proofs.YtbaideeiljeamaaGreatDoor.TG
open Go.RowKit Go.Extern

theorem own_base {w : World} {e : TypeId} {B k : Nat} {v : Value} {n : Nat} {xs : List Value} (h : w.ownsRow 0 e k v n xs) (hb : ∀ x, v.ownBlock = some x → B ≤ x) : w.ownsRow B e k v n xs :=
  ⟨h.1, h.2.imp id (fun ⟨g, cap, cur, hv, _, rest⟩ => ⟨g, cap, cur, hv, hb g (by rw [hv]; rfl), rest⟩)⟩
/-- Messages with all their lists. -/
def msO (Ms : List (Value × List Tr × List Value)) : List Value := (Ms.map (·.2.2)).flatten
theorem msO_take {Ms : List (Value × List Tr × List Value)} {k : Nat} {x : Value × List Tr × List Value} (h : Ms[k]? = some x) : msO (Ms.take (k + 1)) = msO (Ms.take k) ++ x.2.2 := by
  have hlt := (List.getElem?_eq_some_iff.1 h).1
  have e : Ms[k] = x := (List.getElem?_eq_some_iff.1 h).2
  unfold msO
  rw [List.take_succ_eq_append_getElem hlt, List.map_append, List.flatten_append, e]; simp
theorem msO_le {Ms : List (Value × List Tr × List Value)} (k : Nat) : (msO (Ms.take k)).length ≤ (msO Ms).length := by
  have e : msO Ms = msO (Ms.take k) ++ msO (Ms.drop k) := by unfold msO; rw [← List.flatten_append, ← List.map_append, List.take_append_drop]
  rw [e]; simp
set_option maxRecDepth 100000 in
set_option maxHeartbeats 8000000 in
theorem apartItems_any (B M K0 c0 : Nat) (Ms : List (Value × List Tr × List Value)) (w : World) (hK0 : K0 = Ms.length) (hK1 : K0 ≤ 1000) (hM : M < w.heap.size) (hBM : B ≤ M) (hcap : K0 ≤ c0) (hms : ∀ (k : Nat) (x : Value × List Tr × List Value), Ms[k]? = some x → w.cell? ⟨M, k, none⟩ = some x.1 ∧ LT w x.1 x.2.1 x.2.2)
    (how : ∀ u ∈ msO Ms, OW w (fun x => B ≤ x ∧ x < M) u) (hnd : Nd (msO Ms)) (hcn : (msO Ms).length ≤ 1000000000) (hpos : 0 < (msO Ms).length) (hlen : ∀ a n c, Value.slice a n c ∈ msO Ms → n ≤ 1000000000) :
    Calls Tryz.prog 10 #[.slice (some ⟨M, 0, none⟩) K0 c0] w fun e w' => e = .returned (.bool true) ∧ Below B w w' := by
  have HMS := hide hms
  have HOW := hide how
  have HND := hide hnd
  have HLEN := hide hlen
  have HK0 := hide hK0
  clear hms how hnd hlen hK0
  obtain ⟨C, hC⟩ : ∃ C, C = w.heap.size := ⟨_, rfl⟩
  have HC := hide hC
  have hBC : B ≤ C := by omega
  have hMC : M < C := by omega
  clear hC
  go_enter Tryz.func10, Tryz.ntmps10
  go_wp2_with fail
  go_loopw [3, 4] (fun v i wr => ∃ (k : Nat) (a : Option Addr) (c : Nat), k ≤ K0 ∧ i = .int .i64 (k : Int) ∧ v = .slice a (msO (Ms.take k)).length c ∧ Hid (wr.ownsRow C 27 1 (.slice a (msO (Ms.take k)).length c) (msO (Ms.take k)).length (msO (Ms.take k))) ∧ Hid (Below C w wr)) (fun _ i _ => K0 - (intOf i).toNat)
  case atStart => exact ⟨0, none, 0, Nat.zero_le _, rfl, rfl, hide (World.ownsRow_nil _ _ _ _), hide (Below.refl _ _)⟩
  case round =>
    obtain ⟨k, a, c, hk, rfl, rfl, HO, HB⟩ := hrel
    by_cases hlt : k < K0
    · obtain ⟨x, hx⟩ : ∃ x, Ms[k]? = some x := ⟨_, List.getElem?_eq_getElem (by have := HK0.out; omega)⟩
      obtain ⟨hc1, hLT⟩ := HMS.out k x hx
      have hcell : wr.cell? ⟨M, k, none⟩ = some x.1 := (HB.out.cell (p := ⟨M, k, none⟩) hMC).trans hc1
      have htk := msO_take hx
      have hin : ∀ y ∈ x.2.2, y ∈ msO Ms := fun y hy => List.mem_flatten.2 ⟨x.2.2, List.mem_map.2 ⟨x, List.mem_of_getElem? hx, rfl⟩, hy⟩
      have hle := msO_le (Ms := Ms) (k + 1)
      rw [htk, List.length_append] at hle
      have HI := hide (itemLists_any C (wts x.2.1) x.2.1 x.1 x.2.2 _ _ _ wr (Nat.le_refl _) (LT_kept (w' := wr) _ _ _ _ (Nat.le_refl _) hLT (fun y hy g hg => HB.out.block g (by have := ((HOW.out y (hin y hy)).2 g hg).2; omega))) (fun y hy => (HOW.out y (hin y hy)).kept (fun g hg _ => HB.out.block g (by have := hg.2; omega)) (fun g hg _ => by have := hg.2; omega)) (by have := HB.out.size; have := HC.out; omega) HO.out (by omega))
      have HTK := hide htk
      have hk0 : (0 : Int) ≤ (k : Int) := by omega
      have hkl : (k : Int) < (K0 : Int) := by omega
      obtain ⟨x1, x2, x3⟩ := x
      dsimp only at *
      obtain ⟨m, hm⟩ : ∃ m, m = (msO (Ms.take k)).length := ⟨_, rfl⟩
      rw [← hm] at HI HO hle ⊢
      have HMM := hide hm
      clear hm hc1 hLT hin htk hx
      go_wp2_with fail
      refine HI.out.mono ?_
      rintro e w5 ⟨⟨ov', rfl, hO5⟩, hb5⟩
      have B5 := hide (HB.out.trans hb5)
      have O5 := hide hO5
      obtain ⟨a5, c5, rfl⟩ := sl_shape hO5
      clear hO5 hb5
      go_wp2_with fail
      go_roundw
      case rel => exact ⟨k + 1, a5, c5, by omega, by go_num, by rw [HTK.out, List.length_append, HMM.out], by rw [HTK.out, List.length_append, ← HMM.out]; exact O5, B5⟩
      case measure => simp [intOf]; omega
    · have hke : k = K0 := by omega
      subst hke
      have e : Ms.take k = Ms := by rw [HK0.out, List.take_length]
      rw [e] at HO ⊢
      obtain ⟨W1, rfl⟩ : ∃ W1, W1 = wr := ⟨wr, rfl⟩
      obtain ⟨Lb, lc, hv, hlb, hlbl⟩ := ai_form HO.out hpos
      injection hv with h1 _ h3
      subst h1; subst h3
      generalize hOO : msO Ms = O at *
      have Q0 : Hid (LQs W1 B C Lb O) := hide ⟨fun j u hj => by
          have := World.ownsRow.cells HO.out rfl j u hj
          rw [Addr.add_lit, Nat.zero_add] at this; exact this, fun j u hj => by
          obtain ⟨⟨n, xs, hr⟩, hs⟩ := (HOW.out u (List.mem_of_getElem? hj)).kept (w' := W1) (S' := fun x => B ≤ x ∧ x < M) (fun g hg _ => HB.out.block g (by have := hg.2; omega)) (fun g hg _ => hg)
          exact ⟨n, xs, own_base hr (fun x hx => (hs x hx).1)⟩, fun j u x hj hx => by have := ((HOW.out u (List.mem_of_getElem? hj)).2 x hx).2; omega, HND.out, hlb, hBC, by have := HB.out.size; have := HC.out; omega⟩
      have B0 : Hid (Below B w W1) := hide (HB.out.mono hBC)
      have HBB : Hid (B ≤ w.heap.size) := hide (by omega)
      have HSH : Hid (∀ (j : Nat) (u : Value), O[j]? = some u → ∃ a n c, u = .slice a n c ∧ n ≤ 1000000000 ∧ (0 < n → ∃ g, a = some ⟨g, 0, none⟩)) := hide (fun j u hj => by
        obtain ⟨n, xs, hr⟩ := Q0.out.row j u hj
        obtain ⟨a, c, rfl⟩ := sl_shape hr
        refine ⟨a, n, c, rfl, HLEN.out a n c (List.mem_of_getElem? hj), fun hn => ?_⟩
        obtain ⟨g, c', hv, _⟩ := ai_form hr hn
        injection hv with e1
        exact ⟨g, e1⟩)
      have HLT0 : Hid (Lb < W1.heap.size) := hide hlbl
      obtain ⟨KK, hKK⟩ : ∃ KK, KK = O.length := ⟨_, rfl⟩
      rw [← hKK] at hcn hpos ⊢
      have HKK := hide hKK
      clear HO HB hKK hlbl e hlt hk HMS HOW HND hOO
      go_wp2_with fail
      go_loopw [5] (fun i wr => ∃ k : Nat, k ≤ KK ∧ i = .int .i64 (k : Int) ∧ Hid (LQs wr B C Lb O) ∧ Hid (MKs wr O k 0) ∧ Hid (Below B w wr) ∧ Hid (Lb < wr.heap.size)) (fun i _ => KK - (intOf i).toNat)
      case atStart => exact ⟨0, Nat.zero_le _, rfl, Q0, hide (fun j g n c m _ _ h => by omega), B0, HLT0⟩
      case round =>
        clear Q0 B0 HLT0
        obtain ⟨k, hk, rfl, HQ, HM, HB, HLT⟩ := hrel
        by_cases hlt : k < KK
        · obtain ⟨u, hu⟩ : ∃ u, O[k]? = some u := ⟨_, List.getElem?_eq_getElem (by have := HKK.out; omega)⟩
          obtain ⟨n0, xs0, hr0⟩ := HQ.out.row k u hu
          obtain ⟨ua, uc, rfl⟩ := sl_shape hr0
          have hcell := HQ.out.cell k _ hu
          have hn0 := HLEN.out ua n0 uc (List.mem_of_getElem? hu)
          have HOK := hide hu
          have hkl : (k : Int) < (KK : Int) := by omega
          have hk0 : (0 : Int) ≤ (k : Int) := by omega
          clear hr0 hu
          go_wp2_with fail
          clear hcell
          go_loopw [6] (fun i wr => ∃ i' : Nat, i' ≤ n0 ∧ i = .int .i64 (i' : Int) ∧ Hid (LQs wr B C Lb O) ∧ Hid (MKs wr O k i') ∧ Hid (Below B w wr) ∧ Hid (Lb < wr.heap.size)) (fun i _ => n0 - (intOf i).toNat)
          case atStart => exact ⟨0, Nat.zero_le _, rfl, HQ, HM, HB, HLT⟩
          case round =>
            clear HQ HM HB HLT
            obtain ⟨i, hi, rfl, HQ, HM, HB, HLT⟩ := hrel
            have hcell := HQ.out.cell k _ HOK.out
            by_cases hil : i < n0
            · obtain ⟨xs1, hr1⟩ := HQ.out.len HOK.out
              obtain ⟨g, c, hv, hgB, _⟩ := ai_form hr1 (by omega)
              injection hv with e1 _ e3
              subst e1; subst e3
              have HMT := hide (fun W : World => markText_any k i W)
              have HBW : Hid (B ≤ wr.heap.size) := hide (by have := HB.out.size; have := HBB.out; omega)
              have HGB := hide hgB
              clear hr1 hgB
              generalize n0 = n at *
              go_wp2_with fail
              refine z_begins (S := fun W => W.cell? ⟨Lb, k, none⟩ = some (.slice (some ⟨g, 0, none⟩) n uc)) 10 11 #[false, false, false, false, false, false, false, false, false, false, false] (by kernel_rfl) (by kernel_rfl) (by kernel_rfl) ?hS0 (fun hHeld => ?_)
              case hS0 => exact hcell
              refine zk (v := ?_) 0 39 #[true, false, false, false, false, false, false, false, false, false, false] rfl rfl (by kernel_rfl) (by kernel_rfl) (by kernel_rfl) (by kernel_rfl) (fun _ _ _ h => h) (by kernel_rfl) (by rfl) ?hy hHeld ?_
              case hy => rintro W hS1; first | (go_simp; done) | (go_simp; with_reducible rfl) | (go_simp; rw [if_pos (by omega)])
              simp only [List.setIfInBounds_toArray, List.set_cons_zero, List.set_cons_succ]
              refine zk (v := ?_) 1 40 #[true, true, false, false, false, false, false, false, false, false, false] rfl rfl (by kernel_rfl) (by kernel_rfl) (by kernel_rfl) (by kernel_rfl) (fun _ _ _ h => h) (by kernel_rfl) (by rfl) ?hy hHeld ?_
              case hy => rintro W hS1; first | (go_simp; done) | (go_simp; with_reducible rfl) | (go_simp; rw [if_pos (by omega)])
              simp only [List.setIfInBounds_toArray, List.set_cons_zero, List.set_cons_succ]
              refine zk (v := ?_) 2 41 #[true, true, true, false, false, false, false, false, false, false, false] rfl rfl (by kernel_rfl) (by kernel_rfl) (by kernel_rfl) (by kernel_rfl) (fun _ _ _ h => h) (by kernel_rfl) (by rfl) ?hy hHeld ?_
              case hy => rintro W hS1; first | (go_simp; done) | (go_simp; with_reducible rfl) | (go_simp; rw [if_pos (by omega)])
              simp only [List.setIfInBounds_toArray, List.set_cons_zero, List.set_cons_succ]
              refine zk (v := ?_) 3 42 #[true, true, true, true, false, false, false, false, false, false, false] rfl rfl (by kernel_rfl) (by kernel_rfl) (by kernel_rfl) (by kernel_rfl) (fun _ _ _ h => h) (by kernel_rfl) (by rfl) ?hy hHeld ?_
              case hy => rintro W hS1; first | (go_simp; done) | (go_simp; with_reducible rfl) | (go_simp; rw [if_pos (by omega)])
              simp only [List.setIfInBounds_toArray, List.set_cons_zero, List.set_cons_succ]
              refine zk (v := ?_) 4 43 #[true, true, true, true, true, false, false, false, false, false, false] rfl rfl (by kernel_rfl) (by kernel_rfl) (by kernel_rfl) (by kernel_rfl) (fun _ _ _ h => h) (by kernel_rfl) (by rfl) ?hy hHeld ?_
              case hy => rintro W hS1; first | (go_simp; done) | (go_simp; with_reducible rfl) | (go_simp; rw [if_pos (by omega)])
              simp only [List.setIfInBounds_toArray, List.set_cons_zero, List.set_cons_succ]
              refine zk (v := ?_) 5 44 #[true, true, true, true, true, true, false, false, false, false, false] rfl rfl (by kernel_rfl) (by kernel_rfl) (by kernel_rfl) (by kernel_rfl) (fun _ _ _ h => h) (by kernel_rfl) (by rfl) ?hy hHeld ?_
              case hy => rintro W hS1; first | (go_simp; done) | (go_simp; with_reducible rfl) | (go_simp; rw [if_pos (by omega)])
              simp only [List.setIfInBounds_toArray, List.set_cons_zero, List.set_cons_succ]
              refine zk (v := ?_) 6 45 #[true, true, true, true, true, true, true, false, false, false, false] rfl rfl (by kernel_rfl) (by kernel_rfl) (by kernel_rfl) (by kernel_rfl) (fun _ _ _ h => h) (by kernel_rfl) (by rfl) ?hy hHeld ?_
              case hy => rintro W hS1; first | (go_simp; done) | (go_simp; with_reducible rfl) | (go_simp; rw [if_pos (by omega)])
              simp only [List.setIfInBounds_toArray, List.set_cons_zero, List.set_cons_succ]
              refine z_ready 7 #[true, true, true, true, true, true, true, true, false, false, false] rfl (by kernel_rfl) (by kernel_rfl) (by rfl) (fun K hK => ?_)
              go_simp
              refine (HMT.out _).mono ?_
              rintro e w4 ⟨rfl, hb4⟩
              have hbd : Below wr.heap.size wr w4 := (Below.refl wr.heap.size wr).drew.trans hb4
              have Q4 := hide (HQ.out.below hbd HLT.out)
              have M4 := hide (HM.out.below HQ.out hbd)
              have B4 := hide (HB.out.trans (hbd.mono HBW.out))
              have HLT4 : Hid (Lb < w4.heap.size) := hide (Nat.lt_of_lt_of_le HLT.out hbd.size)
              clear hb4 hbd HQ HM HB
              go_wp2_with fail
              refine hK.out _ _ (fun _ => Q4.out.cell k _ HOK.out) (fun hHeld => ?_)
              replace hHeld := hHeld (by decide)
              clear hK K
              refine zk (v := ?_) 8 47 #[true, true, true, true, true, true, true, true, true, false, false] rfl rfl (by kernel_rfl) (by kernel_rfl) (by kernel_rfl) (by kernel_rfl) (fun _ _ _ h => h) (by kernel_rfl) (by rfl) ?hy hHeld ?_
              case hy => rintro W hS1; first | (go_simp; done) | (go_simp; with_reducible rfl) | (go_simp; rw [if_pos (by omega)])
              simp only [List.setIfInBounds_toArray, List.set_cons_zero, List.set_cons_succ]
              refine z_ready 9 #[true, true, true, true, true, true, true, true, true, true, false] rfl (by kernel_rfl) (by kernel_rfl) (by rfl) (fun K hK => ?_)
              go_simp
              (try rw [if_pos (show (i : Int) < (n : Int) by omega)])
              (try go_simp)
              refine hK.out _ _ (fun _ => hHeld) (fun hHeld => ?_)
              replace hHeld := hHeld (by decide)
              clear hK K
              refine z_ready 10 #[true, true, true, true, true, true, true, true, true, true, true] rfl (by kernel_rfl) (by kernel_rfl) (by rfl) (fun K hK => ?_)
              refine wp_store_mid 58 _ _ rfl g (i * 5) #[.string ⟨(mkT k i).toArray⟩, .string ⟨#[]⟩, .string ⟨#[]⟩, .string ⟨#[]⟩, .slice none 0 0] rfl rfl (by obtain ⟨xs, hO⟩ := Q4.out.len HOK.out; exact mk_there hO hil) Tryz.sizeItm (by simp [Value.oneCell']) ?_
              refine hK.out _ _ (fun h => absurd rfl h) (fun _ => ?_)
              clear hK K
              refine z_done (by kernel_rfl) ?_ _
              have Q5 := hide (Q4.out.put i HOK.out)
              have M5 := hide (M4.out.put Q4.out HOK.out hil)
              have B5 : Hid (Below B w (w4.setCells g (i * 5) (mkI k i))) := hide (sc_below HGB.out _ _ _ B4.out)
              have L5 : Hid (Lb < (w4.setCells g (i * 5) (mkI k i)).heap.size) := hide (by rw [sc_size]; exact HLT4.out)
              unfold mkI at Q5 M5 B5 L5
              go_wp2_with fail
              go_roundw
              case rel => exact ⟨i + 1, by omega, by go_num, Q5, M5, B5, L5⟩
              case measure => simp [intOf]; omega
            · have hie : i = n0 := by omega
              subst hie
              go_wp2_with fail
              go_roundw
              case rel => exact ⟨k + 1, by omega, by go_num, HQ, hide (HM.out.next (fun g n c h => by rw [HOK.out] at h; cases h; exact Nat.le_refl _)), HB, HLT⟩
              case measure => simp [intOf]; omega
        · have hke : k = KK := by omega
          subst hke
          obtain ⟨W2, rfl⟩ : ∃ W2, W2 = wr := ⟨wr, rfl⟩
          have G0 := hide (HQ.out.gq HLT.out)
          have M0 := HM
          have B0 := HB
          have HKB : Hid (B ≤ w.heap.size) := HBB
          clear HQ HM HB HLT hlt hk
          go_wp2_with fail
          go_loopw [7] (fun i wr => ∃ j : Nat, j ≤ k ∧ i = .int .i64 (j : Int) ∧ Hid (GQs wr B C Lb O j) ∧ Hid (MKs wr O k 0) ∧ Hid (Below B w wr)) (fun i _ => k - (intOf i).toNat)
          case atStart => exact ⟨0, Nat.zero_le _, rfl, G0, M0, B0⟩
          case round =>
            clear G0 M0 B0
            obtain ⟨j, hj, rfl, HG, HM, HB⟩ := hrel
            by_cases hlt : j < k
            · obtain ⟨u, hu⟩ : ∃ u, O[j]? = some u := ⟨_, List.getElem?_eq_getElem (by have := HKK.out; omega)⟩
              obtain ⟨n0, xs0, hr0⟩ := HG.out.row j u (Nat.le_refl _) hu
              obtain ⟨ua, uc, rfl⟩ := sl_shape hr0
              have hcell := HG.out.cell j _ hu
              have hn0 := HLEN.out ua n0 uc (List.mem_of_getElem? hu)
              have HOK := hide hu
              have hkl : (j : Int) < (k : Int) := by omega
              have hk0 : (0 : Int) ≤ (j : Int) := by omega
              have R0 := hide (RIg.start (k := j) hr0 HM.out)
              obtain ⟨W3, rfl⟩ : ∃ W3, W3 = wr := ⟨wr, rfl⟩
              have HB3 := HB
              clear hr0 hu HB HM
              go_wp2_with fail
              clear hcell
              go_loopw [8, 9] (fun v i wr => ∃ (t : Nat) (ga : Option Addr) (gc : Nat), t ≤ 64 ∧ i = .int .i64 (t : Int) ∧ v = .slice ga (n0 + t) gc ∧ Hid (RIg W3 wr B O j n0 t k (.slice ua n0 uc) (.slice ga (n0 + t) gc)) ∧ Hid (Below B w wr)) (fun _ i _ => 64 - (intOf i).toNat)
              case atStart => exact ⟨0, ua, uc, Nat.zero_le _, rfl, rfl, R0, HB3⟩
              case round =>
                clear R0 HB3
                obtain ⟨t, ga, gc, ht, rfl, rfl, HR, HB⟩ := hrel
                by_cases htl : t < 64
                · have HBW : Hid (B ≤ wr.heap.size) := hide (by have := HB.out.size; have := HKB.out; omega)
                  obtain ⟨xs1, hr1⟩ := HR.out.own
                  obtain ⟨v', w2, hrun, hown, hgrow, hfresh, hkeep⟩ := run_keep_itm (wr.alloc (.cells #[.string ⟨#[35, 109, 111, 114, 101]⟩, .string ⟨#[]⟩, .string ⟨#[]⟩, .string ⟨#[]⟩, .slice none 0 0] 58)) 27 B _ _ _ (hr1.alloc (.cells #[.string ⟨#[35, 109, 111, 114, 101]⟩, .string ⟨#[]⟩, .string ⟨#[]⟩, .string ⟨#[]⟩, .slice none 0 0] 58)) wr.heap.size [.string ⟨#[35, 109, 111, 114, 101]⟩, .string ⟨#[]⟩, .string ⟨#[]⟩, .string ⟨#[]⟩, .slice none 0 0] rfl (fun j u hj => by
                    rw [Nat.zero_add]
                    match j, hj with
                    | 0, hj => simp at hj; subst hj; simp
                    | 1, hj => simp at hj; subst hj; simp
                    | 2, hj => simp at hj; subst hj; simp
                    | 3, hj => simp at hj; subst hj; simp
                    | 4, hj => simp at hj; subst hj; simp) (by intro u hu; simp at hu; (repeat' (first | (rcases hu with rfl | hu) | subst hu)) <;> rfl) (by have := HBW.out; simp; omega) (by omega)
                  obtain ⟨g', c', rfl, _, _⟩ := ai_form hown (by omega)
                  have R2 := hide (HR.out.step HG.out HOK.out ⟨_, hown⟩ hgrow hfresh hkeep)
                  have B2 : Hid (Below B w w2) := hide ((HB.out.alloc HBW.out (.cells #[.string ⟨#[35, 109, 111, 114, 101]⟩, .string ⟨#[]⟩, .string ⟨#[]⟩, .string ⟨#[]⟩, .slice none 0 0] 58)).grown hgrow (by have := HBW.out; simp; omega) (fun x e => (own_ltq hr1 x e).1))
                  have HRUN := hide hrun
                  clear hr1 hrun hown hgrow hfresh hkeep HR HB
                  go_wp2_with (at_builtin; refine BigFrame.wpList_want (by rfl) ?_; intro K hK; refine op_ai_itm _ _ rfl _ _ 1 1 rfl rfl _ w2 HRUN.out ?_; refine hK _ _ ?_)
                  go_roundw
                  case rel => exact ⟨t + 1, some ⟨g', 0, none⟩, c', by omega, by go_num, rfl, R2, B2⟩
                  case measure => simp [intOf]; omega
                · obtain rfl : t = 64 := by omega
                  have G2 := hide (HG.out.next HOK.out HR.out)
                  have M2 := hide HR.out.mks
                  clear HR HG
                  go_wp2_with fail
                  go_roundw
                  case rel => exact ⟨j + 1, by omega, by go_num, G2, M2, HB⟩
                  case measure => simp [intOf]; omega
            · have hje : j = k := by omega
              subst hje
              obtain ⟨W4, rfl⟩ : ∃ W4, W4 = wr := ⟨wr, rfl⟩
              obtain ⟨KK, hKJ⟩ : ∃ KK, KK = j := ⟨_, rfl⟩
              rw [← hKJ] at HKK HM HG hcn hpos ⊢
              have C0 : Hid (∀ (j : Nat) (u : Value), O[j]? = some u → W4.cell? ⟨Lb, j, none⟩ = some u) := hide HG.out.cell
              have R0 : Hid (∀ (j : Nat) (u : Value), O[j]? = some u → ∃ a n c, u = .slice a n c ∧ n ≤ 1000000000 ∧ (0 < n → ∃ g, a = some ⟨g, 0, none⟩)) := HSH
              have M0 := HM
              have B0 := HB
              clear HG HM HB hlt hj hKJ
              go_wp2_with fail
              go_loopw [10] (fun i wr => ∃ k : Nat, k ≤ KK ∧ i = .int .i64 (k : Int) ∧ Hid (∀ (j : Nat) (u : Value), O[j]? = some u → wr.cell? ⟨Lb, j, none⟩ = some u) ∧ Hid (MKs wr O KK 0) ∧ Hid (Below B w wr)) (fun i _ => KK - (intOf i).toNat)
              case atStart => exact ⟨0, Nat.zero_le _, rfl, C0, M0, B0⟩
              case round =>
                clear C0 M0 B0
                obtain ⟨k, hk, rfl, HCE, HMK, HB⟩ := hrel
                by_cases hlt : k < KK
                · obtain ⟨u, hu⟩ : ∃ u, O[k]? = some u := ⟨_, List.getElem?_eq_getElem (by have := HKK.out; omega)⟩
                  obtain ⟨ua, n, uc, rfl, hn0, hua⟩ := R0.out k u hu
                  have hcell := HCE.out k _ hu
                  have HOK := hide hu
                  have hkl : (k : Int) < (KK : Int) := by omega
                  have hk0 : (0 : Int) ≤ (k : Int) := by omega
                  clear hu
                  go_wp2_with fail
                  clear hcell
                  go_loopw [11] (fun i wr => ∃ i' : Nat, i' ≤ n ∧ i = .int .i64 (i' : Int) ∧ Hid (∀ (j : Nat) (u : Value), O[j]? = some u → wr.cell? ⟨Lb, j, none⟩ = some u) ∧ Hid (MKs wr O KK 0) ∧ Hid (Below B w wr)) (fun i _ => n - (intOf i).toNat)
                  case atStart => exact ⟨0, Nat.zero_le _, rfl, HCE, HMK, HB⟩
                  case round =>
                    clear HCE HMK HB
                    obtain ⟨i, hi, rfl, HCE, HMK, HB⟩ := hrel
                    have hcell := HCE.out k _ HOK.out
                    by_cases hil : i < n
                    · obtain ⟨g, rfl⟩ := hua (by omega)
                      have hmark := HMK.out k g n uc i HOK.out hil (.inl hlt)
                      have HMT := hide (fun W : World => markText_any k i W)
                      have HBW : Hid (B ≤ wr.heap.size) := hide (by have := HB.out.size; have := HKB.out; omega)
                      have hi0 : (0 : Int) ≤ (i : Int) := by omega
                      have hin : (i : Int) < (n : Int) := by omega
                      generalize mkT k i = mt at *
                      have hmm : (mt == mt) = true := by simp
                      go_wp2_with fail
                      refine begins_held (S := fun W => W.cell? ⟨Lb, k, none⟩ = some (.slice (some ⟨g, 0, none⟩) n uc) ∧ W.cell? ⟨g, i * 5, none⟩ = some (.string ⟨mt.toArray⟩)) 12 #[false, false, false, false, false, false, false, false, false, false, false, false] (by kernel_rfl) (by kernel_rfl) (by kernel_rfl) ?hS0 (fun hHeld => ?_)
                      case hS0 => exact ⟨hcell, hmark⟩
                      refine tk (v := ?_) 0 82 #[true, false, false, false, false, false, false, false, false, false, false, false] rfl rfl (by kernel_rfl) (by kernel_rfl) (by kernel_rfl) (fun _ _ _ h => h) (by kernel_rfl) (by rfl) ?hy hHeld ?_
                      case hy => rintro W ⟨hS1, hS2⟩; first | (go_simp; done) | (go_simp; with_reducible rfl) | (go_simp; rw [if_pos (by omega)])
                      simp only [List.setIfInBounds_toArray, List.set_cons_zero, List.set_cons_succ]
                      refine tk (v := ?_) 1 83 #[true, true, false, false, false, false, false, false, false, false, false, false] rfl rfl (by kernel_rfl) (by kernel_rfl) (by kernel_rfl) (fun _ _ _ h => h) (by kernel_rfl) (by rfl) ?hy hHeld ?_
                      case hy => rintro W ⟨hS1, hS2⟩; first | (go_simp; done) | (go_simp; with_reducible rfl) | (go_simp; rw [if_pos (by omega)])
                      simp only [List.setIfInBounds_toArray, List.set_cons_zero, List.set_cons_succ]
                      refine tk (v := ?_) 2 84 #[true, true, true, false, false, false, false, false, false, false, false, false] rfl rfl (by kernel_rfl) (by kernel_rfl) (by kernel_rfl) (fun _ _ _ h => h) (by kernel_rfl) (by rfl) ?hy hHeld ?_
                      case hy => rintro W ⟨hS1, hS2⟩; first | (go_simp; done) | (go_simp; with_reducible rfl) | (go_simp; rw [if_pos (by omega)])
                      simp only [List.setIfInBounds_toArray, List.set_cons_zero, List.set_cons_succ]
                      refine tk (v := ?_) 3 85 #[true, true, true, true, false, false, false, false, false, false, false, false] rfl rfl (by kernel_rfl) (by kernel_rfl) (by kernel_rfl) (fun _ _ _ h => h) (by kernel_rfl) (by rfl) ?hy hHeld ?_
                      case hy => rintro W ⟨hS1, hS2⟩; first | (go_simp; done) | (go_simp; with_reducible rfl) | (go_simp; rw [if_pos (by omega)])
                      simp only [List.setIfInBounds_toArray, List.set_cons_zero, List.set_cons_succ]
                      refine tk (v := ?_) 4 86 #[true, true, true, true, true, false, false, false, false, false, false, false] rfl rfl (by kernel_rfl) (by kernel_rfl) (by kernel_rfl) (fun _ _ _ h => h) (by kernel_rfl) (by rfl) ?hy hHeld ?_
                      case hy => rintro W ⟨hS1, hS2⟩; first | (go_simp; done) | (go_simp; with_reducible rfl) | (go_simp; rw [if_pos (by omega)])
                      simp only [List.setIfInBounds_toArray, List.set_cons_zero, List.set_cons_succ]
                      refine tk (v := ?_) 5 87 #[true, true, true, true, true, true, false, false, false, false, false, false] rfl rfl (by kernel_rfl) (by kernel_rfl) (by kernel_rfl) (fun _ _ _ h => h) (by kernel_rfl) (by rfl) ?hy hHeld ?_
                      case hy => rintro W ⟨hS1, hS2⟩; first | (go_simp; done) | (go_simp; with_reducible rfl) | (go_simp; rw [if_pos (by omega)])
                      simp only [List.setIfInBounds_toArray, List.set_cons_zero, List.set_cons_succ]
                      refine tk (v := ?_) 6 88 #[true, true, true, true, true, true, true, false, false, false, false, false] rfl rfl (by kernel_rfl) (by kernel_rfl) (by kernel_rfl) (fun _ _ _ h => h) (by kernel_rfl) (by rfl) ?hy hHeld ?_
                      case hy => rintro W ⟨hS1, hS2⟩; first | (go_simp; done) | (go_simp; with_reducible rfl) | (go_simp; rw [if_pos (by omega)])
                      simp only [List.setIfInBounds_toArray, List.set_cons_zero, List.set_cons_succ]
                      refine tk (v := ?_) 7 89 #[true, true, true, true, true, true, true, true, false, false, false, false] rfl rfl (by kernel_rfl) (by kernel_rfl) (by kernel_rfl) (fun _ _ _ h => h) (by kernel_rfl) (by rfl) ?hy hHeld ?_
                      case hy => rintro W ⟨hS1, hS2⟩; first | (go_simp; done) | (go_simp; with_reducible rfl) | (go_simp; rw [if_pos (by omega)])
                      simp only [List.setIfInBounds_toArray, List.set_cons_zero, List.set_cons_succ]
                      refine tk (v := ?_) 8 90 #[true, true, true, true, true, true, true, true, true, false, false, false] rfl rfl (by kernel_rfl) (by kernel_rfl) (by kernel_rfl) (fun _ _ _ h => h) (by kernel_rfl) (by rfl) ?hy hHeld ?_
                      case hy => rintro W ⟨hS1, hS2⟩; first | (go_simp; done) | (go_simp; with_reducible rfl) | (go_simp; rw [if_pos (by omega)])
                      simp only [List.setIfInBounds_toArray, List.set_cons_zero, List.set_cons_succ]
                      refine tk (v := ?_) 9 91 #[true, true, true, true, true, true, true, true, true, true, false, false] rfl rfl (by kernel_rfl) (by kernel_rfl) (by kernel_rfl) (fun _ _ _ h => h) (by kernel_rfl) (by rfl) ?hy hHeld ?_
                      case hy => rintro W ⟨hS1, hS2⟩; first | (go_simp; done) | (go_simp; with_reducible rfl) | (go_simp; rw [if_pos (by omega)])
                      simp only [List.setIfInBounds_toArray, List.set_cons_zero, List.set_cons_succ]
                      refine one_ready 10 #[true, true, true, true, true, true, true, true, true, true, true, false] rfl (by kernel_rfl) (by kernel_rfl) (by rfl) (fun K hK => ?_)
                      go_simp
                      refine (HMT.out _).mono ?_
                      rintro e w4 ⟨rfl, hb4⟩
                      have hbd : Below wr.heap.size wr w4 := (Below.refl wr.heap.size wr).drew.trans hb4
                      have B4 := hide (HB.out.trans (hbd.mono HBW.out))
                      have hx1 : w4.cell? ⟨Lb, k, none⟩ = some (.slice (some ⟨g, 0, none⟩) n uc) := (hbd.cell (p := ⟨Lb, k, none⟩) (World.block_lt_of_cell? wr _ hcell)).trans hcell
                      have hx2 : w4.cell? ⟨g, i * 5, none⟩ = some (.string ⟨mt.toArray⟩) := (hbd.cell (p := ⟨g, i * 5, none⟩) (World.block_lt_of_cell? wr _ hmark)).trans hmark
                      have C4 : Hid (∀ (j : Nat) (u : Value), O[j]? = some u → w4.cell? ⟨Lb, j, none⟩ = some u) := hide (fun j u hj => (hbd.cell (p := ⟨Lb, j, none⟩) (show Lb < wr.heap.size from World.block_lt_of_cell? wr ⟨Lb, k, none⟩ hcell)).trans (HCE.out j u hj))
                      have M4 : Hid (MKs w4 O KK 0) := hide (fun j g1 n1 c1 m hj hm hl => (hbd.cell (p := ⟨g1, m * 5, none⟩) (World.block_lt_of_cell? wr _ (HMK.out j g1 n1 c1 m hj hm hl))).trans (HMK.out j g1 n1 c1 m hj hm hl))
                      clear hb4 hbd HB HCE HMK
                      go_wp2_with fail
                      refine hK.out _ _ ⟨hx1, hx2⟩ (fun hHeld => ?_)
                      clear hK K
                      refine tk (v := ?_) 11 93 #[true, true, true, true, true, true, true, true, true, true, true, true] rfl rfl (by kernel_rfl) (by kernel_rfl) (by kernel_rfl) (fun _ _ _ h => h) (by kernel_rfl) (by rfl) ?hy hHeld ?_
                      case hy => rintro W ⟨hS1, hS2⟩; first | (go_simp; done) | (go_simp; with_reducible rfl) | (go_simp; rw [if_pos (by omega)])
                      simp only [List.setIfInBounds_toArray, List.set_cons_zero, List.set_cons_succ]
                      refine wpAnyH_done (by kernel_rfl) ?_ _
                      go_wp2_with fail
                      go_roundw
                      case rel => exact ⟨i + 1, by omega, by go_num, C4, M4, B4⟩
                      case measure => simp [intOf]; omega
                    · have hie : i = n := by omega
                      subst hie
                      go_wp2_with fail
                      go_roundw
                      case rel => exact ⟨k + 1, by omega, by go_num, HCE, HMK, HB⟩
                      case measure => simp [intOf]; omega
                · have hke : k = KK := by omega
                  subst hke
                  go_wp2_with fail
                  go_ret
                  exact ⟨rfl, HB.out⟩
end Go.Proofs.YtbaideeiljeamaaGreatDoor.TG
