/-
  My own text: VS7, VS8 in one.
-/
import Derived.Test.YtdjhbecbbmdimaaGreatDoorVS6
import Derived.Deep.MidRow
namespace Go.Proofs.YtdjhbecbbmdimaaGreatDoor
open Go.RowKit

/-- What stands under a key. -/
structure CX where
  av : Int
  ml : List BL.Mk
  st : Int
  ll : List LG.El
def Cl.cx (c : Cl) : CX := ⟨c.av, c.ml, c.st, c.ll⟩
def cxZ : CX := ⟨0, [], 0, []⟩
/-- Blocks of F alone have changed, of those that were there. -/
structure FrB (F : Nat → Prop) (w w' : World) : Prop where
  os : w'.os = w.os
  tape : w'.tape = w.tape
  output : w'.output = w.output
  size : w.heap.size ≤ w'.heap.size
  block : ∀ b, b < w.heap.size → ¬ F b → w'.heap[b]? = w.heap[b]?
theorem FrB.ofBelow {F : Nat → Prop} {w w' : World} (h : Below w.heap.size w w') : FrB F w w' := ⟨h.os, h.tape, h.output, h.size, fun b hb _ => h.block b hb⟩
theorem FrB.trans {F G : Nat → Prop} {w w1 w2 : World} (h : FrB F w w1) (k : FrB G w1 w2) (hG : ∀ b, b < w.heap.size → G b → F b) : FrB F w w2 :=
  ⟨k.os.trans h.os, k.tape.trans h.tape, k.output.trans h.output, Nat.le_trans h.size k.size, fun b hb hn => (k.block b (Nat.lt_of_lt_of_le hb h.size) (fun hg => hn (hG b hb hg))).trans (h.block b hb hn)⟩
theorem FrB.refl (F : Nat → Prop) (w : World) : FrB F w w := ⟨rfl, rfl, rfl, Nat.le_refl _, fun _ _ _ => rfl⟩
theorem FrB.grown {F : Nat → Prop} {w w1 w2 : World} {g : Nat} (h : FrB F w w1) (k : w1.grownBy w2 (some g)) (hg : w.heap.size ≤ g) : FrB F w w2 :=
  ⟨k.os.trans h.os, k.tape.trans h.tape, k.output.trans h.output, Nat.le_trans h.size k.size, fun b hb hn => (k.block b (Nat.lt_of_lt_of_le hb h.size) (fun e => by injection e with e; omega)).trans (h.block b hb hn)⟩
theorem FrB.cr {F : Nat → Prop} {w w' : World} {c : Cl} (h : FrB F w w') (hc : CR w c) (hn : ∀ b, c.mv.ownBlock = some b ∨ c.lv.ownBlock = some b → ¬ F b) : CR w' c := hc.kept h.size (fun b hb hlt => h.block b hlt (hn b hb))
/-- A set of blocks, and all that are new. -/
def nF (F : Nat → Prop) (w w' : World) : Nat → Prop := fun b => F b ∨ (w.heap.size ≤ b ∧ b < w'.heap.size)
/-- A view, as dvp asks it: V holds of a world, of the blocks that it may change (F), of those that it reads (H), and of its state. -/
structure VI (X : Type) where
  T : TypeId
  p : Value
  fg : FuncId
  fp : FuncId
  V : World → (Nat → Prop) → (Nat → Prop) → X → Prop
  bk : X → Ky → CX
  gx : X → Ky → X
  px : X → Ky → Cl → X
  mG : ∀ w, (Go.method 338 T p "Get").run Tryz.prog w = .ok (fg, p) w
  nG : ∀ w, (nilAhead 338 T p "Get").run Tryz.prog w = .ok (some false) w
  mP : ∀ w, (Go.method 338 T p "Put").run Tryz.prog w = .ok (fp, p) w
  eG : ∀ args w, (callFunc fg args).run Tryz.prog w = .ok (.enter fg args) w
  eP : ∀ args w, (callFunc fp args).run Tryz.prog w = .ok (.enter fp args) w
  sub : ∀ {w F H x}, V w F H x → ∀ b, F b → H b
  low : ∀ {w F H x}, V w F H x → ∀ b, H b → b < w.heap.size
  keep : ∀ {w w' F H x}, V w F H x → w.heap.size ≤ w'.heap.size → (∀ b, H b → w'.heap[b]? = w.heap[b]?) → V w' F H x
  few : ∀ {w F H x}, V w F H x → ∀ k, (bk x k).ml.length ≤ 1000000 ∧ (bk x k).ll.length ≤ 1000000
  bkG : ∀ x k, bk (gx x k) = bk x
  rm : X → Nat
  rmG : ∀ x k, rm x ≤ rm (gx x k) + 1
  rmP : ∀ x k c, rm x ≤ rm (px x k c) + 1
  get : ∀ {w F H x} (k : Ky), V w F H x → 0 < rm x → Calls Tryz.prog fg #[p, .agg #[.int .i64 k.1, .int .i64 k.2]] w fun r w' => ∃ mv lv, r = .returned (.agg #[.int .i64 (bk x k).av, mv, .int .i64 (bk x k).st, lv]) ∧ BL.RM w' mv (bk x k).ml ∧ LG.RM w' lv (bk x k).ll ∧ V w' (nF F w w') (nF H w w') (gx x k) ∧ FrB F w w'
  put : ∀ {w F H x} (k : Ky) (c : Cl), V w F H x → CR w c → (∀ b, c.mv.ownBlock = some b ∨ c.lv.ownBlock = some b → ¬ F b) → 0 < rm x → c.ml.length ≤ 1000000 → c.ll.length ≤ 1000000 → Calls Tryz.prog fp #[p, .agg #[.int .i64 k.1, .int .i64 k.2], .agg #[.int .i64 c.av, c.mv, .int .i64 c.st, c.lv]] w fun r w' => r = .returned (.tuple #[]) ∧ V w' (nF F w w') (fun b => nF H w w' b ∨ c.mv.ownBlock = some b ∨ c.lv.ownBlock = some b) (px x k c) ∧ FrB F w w'
def VI.iv {X : Type} (I : VI X) : Value := .iface I.T I.p
/-- The keys of a row, asked one behind the other. -/
def gxs {X : Type} (I : VI X) (x : X) : List Ky → X
  | [] => x
  | k :: r => gxs I (I.gx x k) r
theorem gxs_app {X : Type} (I : VI X) (x : X) (a b : List Ky) : gxs I x (a ++ b) = gxs I (gxs I x a) b := by
  induction a generalizing x with
  | nil => rfl
  | cons k r ih => exact ih (I.gx x k)
theorem gxs_bk {X : Type} (I : VI X) (x : X) (L : List Ky) : I.bk (gxs I x L) = I.bk x := by
  induction L generalizing x with
  | nil => rfl
  | cons k r ih => exact (ih (I.gx x k)).trans (I.bkG x k)
theorem gxs_rm {X : Type} (I : VI X) (x : X) (L : List Ky) : I.rm x ≤ I.rm (gxs I x L) + L.length := by
  induction L generalizing x with
  | nil => exact Nat.le_refl _
  | cons k r ih =>
    have h1 := ih (I.gx x k)
    have h2 := I.rmG x k
    show I.rm x ≤ I.rm (gxs I (I.gx x k) r) + (r.length + 1)
    omega
/-- An entry that was read. -/
def clZ : Cl := ⟨0, [], .slice none 0 0, 0, [], .slice none 0 0⟩
def enZ : En := ⟨(0, 0), clZ, clZ⟩
theorem enZ_made (n : Nat) : (madeCells (Value.agg #[.int .i64 0, .int .i64 0, .int .i64 0, .slice none 0 0, .int .i64 0, .slice none 0 0, .int .i64 0, .slice none 0 0, .int .i64 0, .slice none 0 0]).cells (n * 10)).toList = ec (List.replicate n enZ) := by
  refine List.ext_getElem? (fun j => ?_)
  by_cases hj : j < n * 10
  · have h1 : (List.replicate n enZ)[j / 10]? = some enZ := by rw [List.getElem?_replicate, if_pos (by omega)]
    have h2 := ec_at h1 (show j % 10 < 10 by omega)
    rw [show j / 10 * 10 + j % 10 = j by omega] at h2
    rw [h2]
    have hm : j % 10 < 10 := by omega
    have hc : (Value.agg #[.int .i64 0, .int .i64 0, .int .i64 0, .slice none 0 0, .int .i64 0, .slice none 0 0, .int .i64 0, .slice none 0 0, .int .i64 0, .slice none 0 0]).cells = enZ.vs.toArray := rfl
    rw [hc]
    simp only [madeCells, Array.toList_map, Array.toList_range, List.getElem?_map]
    rw [List.getElem?_range hj]
    show some (enZ.vs.toArray[j % 10]!) = _
    rw [getElem!_pos enZ.vs.toArray (j % 10) hm, List.getElem?_eq_getElem (show j % 10 < enZ.vs.length from hm)]
    rfl
  · rw [List.getElem?_eq_none (by simp [madeCells]; omega), List.getElem?_eq_none (by rw [ec_len, List.length_replicate]; omega)]
/-- A whole entry is stored. -/
theorem SH.whole {w : World} {B g cap : Nat} {E : List En} (h : SH w B (.slice (some ⟨g, 0, none⟩) E.length cap) E) {i : Nat} (e : En) (he : EO w e) (ha : CA (.slice (some ⟨g, 0, none⟩) E.length cap) e.was ∧ CA (.slice (some ⟨g, 0, none⟩) E.length cap) e.now) :
    SH (w.setCells g (i * 10) e.vs) B (.slice (some ⟨g, 0, none⟩) E.length cap) (E.set i e) ∧ w.grownBy (w.setCells g (i * 10) e.vs) (some g) := by
  obtain ⟨xs, h1, h2, h3⟩ := setCells_own e.vs (i * 10) w (ec E) h.own
  have hx : xs = ec (E.set i e) := by
    have hxl := h1.1
    refine List.ext_getElem (by rw [hxl, ec_len, List.length_set]) (fun j hj1 hj2 => ?_)
    have hjE : j < E.length * 10 := by rw [hxl] at hj1; exact hj1
    have hjj : j / 10 < E.length := by omega
    have hc1 := World.ownsRow.cellAt h1 j hjE
    rw [List.getElem?_eq_getElem hj1] at hc1
    have hs : (E.set i e)[j / 10]? = some ((E.set i e)[j / 10]'(by rw [List.length_set]; exact hjj)) := List.getElem?_eq_getElem _
    have h4 := ec_at hs (show j % 10 < 10 by omega)
    rw [show j / 10 * 10 + j % 10 = j by omega, List.getElem?_eq_getElem hj2] at h4
    have goal : some xs[j] = some (ec (E.set i e))[j] := by
      rw [h4, ← hc1]
      by_cases hji : j / 10 = i
      · have hin := World.cell?_setCells_in g e.vs (i * 10) w (fun q hq => by
          have hq' : q < 10 := hq
          rw [World.ownsRow.cellAt h.own (i * 10 + q) (by omega), List.getElem?_eq_getElem (by rw [ec_len]; omega)]; rfl) (j % 10) (show j % 10 < 10 by omega)
        rw [show i * 10 + j % 10 = j by omega] at hin
        have e1 : (E.set i e)[j / 10]'(by rw [List.length_set]; exact hjj) = e := by simp [hji]
        rw [hin, e1]
        exact (List.getElem?_eq_getElem _).symm
      · rw [World.cell?_setCells_out g e.vs (i * 10) w ⟨g, j, none⟩ (fun _ _ => by show j < i * 10 ∨ i * 10 + 10 ≤ j; omega), World.ownsRow.cellAt h.own j hjE]
        have hs2 : E[j / 10]? = some E[j / 10] := List.getElem?_eq_getElem hjj
        have h5 := ec_at hs2 (show j % 10 < 10 by omega)
        rw [show j / 10 * 10 + j % 10 = j by omega] at h5
        rw [h5]
        simp [Ne.symm hji]
    exact Option.some.inj goal
  subst hx
  refine ⟨SH.turned h3 (by rw [List.length_set]; exact h1) (fun x hxm => ?_), h3⟩
  rcases List.mem_or_eq_of_mem_set hxm with k | k
  · exact ⟨h.ent x k, h.ap x k⟩
  · subst k; exact ⟨he, ha⟩
/-- No list of an entry lies in F. -/
def NFe (F : Nat → Prop) (e : En) : Prop := ∀ b, e.was.mv.ownBlock = some b ∨ e.was.lv.ownBlock = some b ∨ e.now.mv.ownBlock = some b ∨ e.now.lv.ownBlock = some b → ¬ F b
theorem SH.frb {w w' : World} {B g n cap : Nat} {E : List En} {F : Nat → Prop} (h : SH w B (.slice (some ⟨g, 0, none⟩) n cap) E) (hf : FrB F w w') (hg : ¬ F g) (hn : ∀ e ∈ E, NFe F e) : SH w' B (.slice (some ⟨g, 0, none⟩) n cap) E := by
  refine ⟨owns_blk h.own (fun b hb => ?_), fun e he => ⟨hf.cr (h.ent e he).1 (fun b hb => hn e he b (hb.elim .inl (fun k => .inr (.inl k)))), hf.cr (h.ent e he).2 (fun b hb => hn e he b (hb.elim (fun k => .inr (.inr (.inl k))) (fun k => .inr (.inr (.inr k)))))⟩, h.ap⟩
  cases hb
  rcases h.own.2 with ⟨hv, _⟩ | ⟨g', cap', cur, hv, _, hh, _⟩
  · cases hv
  · injection hv with e1 e2 e3
    injection e1 with e4
    injection e4 with e5 e6 e7
    subst e5
    exact hf.block g (Array.getElem?_eq_some_iff.1 hh).1 hg
theorem enZ_nf (F : Nat → Prop) : NFe F enZ := fun b hb => by rcases hb with h | h | h | h <;> cases h
theorem enZ_eo (w : World) : EO w enZ := ⟨⟨⟨none, 0, rfl, Nat.le_refl _, .inl rfl⟩, LG.RM.nil w, fun b hb => (by rcases hb with h | h <;> cases h)⟩, ⟨none, 0, rfl, Nat.le_refl _, .inl rfl⟩, LG.RM.nil w, fun b hb => (by rcases hb with h | h <;> cases h)⟩
theorem clZ_ca (v : Value) : CA v clZ := fun b _ => ⟨fun h => (by cases h), fun h => (by cases h)⟩
/-- What was read of a view. -/
structure RD {X : Type} (I : VI X) (x : X) (K : List Ky) (D : List En) (F : Nat → Prop) (N : Nat) : Prop where
  lo : ∀ e ∈ D, ∀ b, e.now.mv.ownBlock = some b ∨ e.now.lv.ownBlock = some b → N ≤ b
  keys : eks D = K
  is : ∀ e ∈ D, e.was = e.now ∧ e.now.cx = I.bk x e.k
  nf : ∀ e ∈ D, NFe F e
theorem set_mid (D R : List En) (a e : En) : (D ++ a :: R).set D.length e = D ++ e :: R := by
  rw [List.set_append_right _ _ (Nat.le_refl _), Nat.sub_self]; rfl
end Go.Proofs.YtdjhbecbbmdimaaGreatDoor
namespace Go.Proofs.YtdjhbecbbmdimaaGreatDoor
open Go.RowKit

theorem Tryz.sizeEn : (Tryz.prog.info? 103).map (·.size) = some 10 := by kernel_rfl
theorem SH.wholeN {w : World} {B g n cap : Nat} {E : List En} (h : SH w B (.slice (some ⟨g, 0, none⟩) n cap) E) (i : Nat) (e : En) (he : EO w e) (ha : CA (.slice (some ⟨g, 0, none⟩) n cap) e.was ∧ CA (.slice (some ⟨g, 0, none⟩) n cap) e.now) :
    SH (w.setCells g (i * 10) e.vs) B (.slice (some ⟨g, 0, none⟩) n cap) (E.set i e) ∧ w.grownBy (w.setCells g (i * 10) e.vs) (some g) := by
  have hl := h.len
  subst hl
  exact h.whole e he ha
set_option maxRecDepth 100000 in
set_option maxHeartbeats 8000000 in
theorem read_any {X : Type} (I : VI X) (kv : Value) (K : List Ky) (F H : Nat → Prop) (x : X) (w : World) (hV : I.V w F H x) (hK : KY.RM w kv K) (hkF : ∀ b, kv.ownBlock = some b → ¬ F b) (h0 : 0 < K.length) (h1 : K.length ≤ 1000000) (hrmx : K.length ≤ I.rm x) :
    Calls Tryz.prog 38 #[.iface I.T I.p, kv] w fun r w' => ∃ g cap E F' H', r = .returned (.slice (some ⟨g, 0, none⟩) K.length cap) ∧ SH w' w.heap.size (.slice (some ⟨g, 0, none⟩) K.length cap) E ∧ RD I x K E F' w.heap.size ∧ I.V w' F' H' (gxs I x K) ∧ FrB F w w' ∧ (∀ b, F' b → F b ∨ w.heap.size ≤ b) ∧ (∀ b, H' b → H b ∨ w.heap.size ≤ b) ∧ ¬ H' g := by
  obtain ⟨i0, hi, hz0, hz1, hz2⟩ := info_parts Tryz.infoEn
  obtain ⟨ka, kc, hkv, _, hkcs⟩ := hK
  subst hkv
  obtain ⟨kb, ko, hka, hkbl, hkc⟩ := hkcs.resolve_left (fun h => by rw [h] at h0; simp at h0)
  subst hka
  have HKC := hide hkc
  have HKF := hide (hkF kb rfl)
  have HV := hide hV
  have HII := hide (And.intro hi (And.intro hz0 (And.intro hz1 hz2)))
  have mG := I.mG
  have eG := I.eG
  clear hkcs hkc hkF hV hi hz0 hz1 hz2
  go_enter Tryz.func38, Tryz.ntmps38
  go_wp2_with (refine wpList_make_full _ rfl _ _ _ rfl w.heap.size 103 i0 _ 10 Tryz.underlying81 HII.out.1 HII.out.2.1 HII.out.2.2.1 .i64 .i64 _ _ K.length rfl rfl rfl rfl (by rw [HII.out.2.2.2]; omega) (by unfold maxLen; omega) (Nat.le_refl _) ?_)
  intro w1 hown0 hg
  have hown : w1.ownsRow w.heap.size 103 10 (.slice (some ⟨w.heap.size, 0, none⟩) K.length K.length) K.length (ec (List.replicate K.length enZ)) := by rw [← enZ_made]; exact hown0
  clear hown0
  have b1 : Below w.heap.size w w1 := ⟨hg.os, hg.tape, hg.output, hg.size, fun b hb => hg.block b hb (by intro e; cases e)⟩
  have hgl : w.heap.size < w1.heap.size := by
    have := (World.ownsRow.lt hown w.heap.size rfl).2
    exact this
  obtain ⟨g, hgg⟩ : ∃ g, w.heap.size = g := ⟨_, rfl⟩
  rw [hgg] at hown ⊢
  have HGG := hide hgg
  have HGL : Hid (g < w1.heap.size) := hide (by rw [← hgg]; exact hgl)
  have HS0 : Hid (SH w1 w.heap.size (.slice (some ⟨g, 0, none⟩) K.length K.length) ([] ++ List.replicate (K.length - 0) enZ)) := hide ⟨by rw [hgg]; simpa using hown, fun e he => (by have h : e = enZ := (by simp at he; exact he.2); rw [h]; exact enZ_eo w1), fun e he => (by have h : e = enZ := (by simp at he; exact he.2); rw [h]; exact ⟨clZ_ca _, clZ_ca _⟩)⟩
  have HX0 : Hid (RD I x (K.take 0) [] F w.heap.size) := hide ⟨fun e he => (by cases he), rfl, fun e he => (by cases he), fun e he => (by cases he)⟩
  have HV0 : Hid (I.V w1 F H (gxs I x (K.take 0))) := hide (I.keep HV.out b1.size (fun b hb => b1.block b (I.low HV.out b hb)))
  have HF0 : Hid (FrB F w w1) := hide (FrB.ofBelow b1)
  have HU0 : Hid ((∀ b, F b → F b ∨ w.heap.size ≤ b) ∧ (∀ b, H b → H b ∨ w.heap.size ≤ b) ∧ ¬ H g) := hide ⟨fun b hb => .inl hb, fun b hb => .inl hb, fun hb => by have := I.low HV.out g hb; omega⟩
  clear hown hg b1 hgl hgg HV
  go_wp2_with fail
  go_loopw [14] (fun i wr => ∃ (k : Nat) (D : List En) (F' H' : Nat → Prop), k ≤ K.length ∧ i = .int .i64 (k : Int) ∧ Hid (D.length = k) ∧ Hid (SH wr w.heap.size (.slice (some ⟨g, 0, none⟩) K.length K.length) (D ++ List.replicate (K.length - k) enZ)) ∧ Hid (RD I x (K.take k) D F' w.heap.size) ∧ Hid (I.V wr F' H' (gxs I x (K.take k))) ∧ Hid (FrB F w wr) ∧ Hid ((∀ b, F' b → F b ∨ w.heap.size ≤ b) ∧ (∀ b, H' b → H b ∨ w.heap.size ≤ b) ∧ ¬ H' g)) (fun i _ => K.length - (intOf i).toNat)
  case atStart => exact ⟨0, [], F, H, Nat.zero_le _, rfl, hide rfl, HS0, HX0, HV0, HF0, HU0⟩
  case round =>
    clear HS0 HX0 HV0 HF0 HU0
    obtain ⟨k, D, F', H', hk, rfl, HDl, HS, HX, HV, HF, HU⟩ := hrel
    by_cases hlt : k < K.length
    · obtain ⟨⟨q0, q1⟩, hx⟩ : ∃ p, K[k]? = some p := ⟨_, List.getElem?_eq_getElem hlt⟩
      have hd : decide ((k : Int) < (K.length : Int)) = true := by rw [decide_eq_true_eq]; omega
      obtain ⟨c0, c1⟩ := HKC.out k _ hx
      have hkb : wr.heap[kb]? = w.heap[kb]? := HF.out.block kb hkbl HKF.out
      have z0 := (World.cell?_of_block hkb).trans c0
      have z1 := (World.cell?_of_block hkb).trans c1
      have k0 : (0 : Int) ≤ (k : Int) := by omega
      have k1 : (k : Int) < (K.length : Int) := by omega
      have b1 := (Below.refl wr.heap.size wr).alloc (Nat.le_refl _) (.cells #[.int .i64 q0, .int .i64 q1] 39)
      have hs1 : (wr.alloc (.cells #[.int .i64 q0, .int .i64 q1] 39)).heap.size = wr.heap.size + 1 := by simp
      have N1 := hide (alloc_new wr (.cells #[.int .i64 q0, .int .i64 q1] 39))
      obtain ⟨y0, y1⟩ := pair_cells N1.out rfl
      have HV1 := hide (I.keep HV.out b1.size (fun b hb => b1.block b (I.low HV.out b hb)))
      have HS1 := hide (HS.out.later b1)
      have HF1 := hide (HF.out.trans (G := F') (FrB.ofBelow b1) (fun b hb hf => (HU.out.1 b hf).resolve_right (by omega)))
      have HG1 := hide (I.get (q0, q1) HV1.out (by have h := gxs_rm I x (K.take k); rw [List.length_take] at h; omega))
      have HHX := hide hx
      have HWR := hide hs1
      clear c0 c1 hkb b1 hs1 hx
      go_wp2_with fail
      refine HG1.out.mono ?_
      rintro r w2 ⟨mv, lv, rfl, hrm, hrl, hV2, hf2⟩
      rw [gxs_bk] at hrm hrl ⊢
      obtain ⟨c, hc⟩ : ∃ c, I.bk x (q0, q1) = c := ⟨_, rfl⟩
      have hfew := I.few hV2 (q0, q1)
      rw [I.bkG, gxs_bk, hc] at hfew
      rw [hc] at hrm hrl ⊢
      have HCX := hide hc
      have hV2' : I.V w2 (nF F' (wr.alloc (.cells #[.int .i64 q0, .int .i64 q1] 39)) w2) (nF H' (wr.alloc (.cells #[.int .i64 q0, .int .i64 q1] 39)) w2) (gxs I x (K.take (k + 1))) := by
        rw [List.take_add_one, HHX.out]
        show I.V w2 _ _ (gxs I x (K.take k ++ [(q0, q1)]))
        rw [gxs_app]
        exact hV2
      have hgF : ¬ F' g := fun hf => HU.out.2.2 (I.sub HV.out g hf)
      have hS2 : SH w2 w.heap.size (.slice (some ⟨g, 0, none⟩) K.length K.length) (D ++ List.replicate (K.length - k) enZ) := HS1.out.frb hf2 hgF (fun e he => by
        rcases List.mem_append.1 he with h | h
        · exact HX.out.nf e h
        · rw [List.eq_of_mem_replicate h]; exact enZ_nf _)
      have hg1 : g < wr.heap.size := by have := HF.out.size; have := HGL.out; have := HGG.out; have h := (World.ownsRow.lt HS.out.own g rfl).2; exact h
      have HFr2 := hide (HF1.out.trans hf2 (fun b hb hf => (HU.out.1 b hf).resolve_right (by omega)))
      obtain ⟨F2, hF2⟩ : ∃ F2, nF F' (wr.alloc (.cells #[.int .i64 q0, .int .i64 q1] 39)) w2 = F2 := ⟨_, rfl⟩
      obtain ⟨H2, hH2⟩ : ∃ H2, nF H' (wr.alloc (.cells #[.int .i64 q0, .int .i64 q1] 39)) w2 = H2 := ⟨_, rfl⟩
      have hsub : ∀ b, F' b → F2 b := fun b hb => by rw [← hF2]; exact .inl hb
      have HU2 : Hid ((∀ b, F2 b → F b ∨ w.heap.size ≤ b) ∧ (∀ b, H2 b → H b ∨ w.heap.size ≤ b) ∧ ¬ H2 g) := hide ⟨fun b hb => by
          rw [← hF2] at hb
          rcases hb with hb | hb
          · exact HU.out.1 b hb
          · refine .inr ?_
            have h2 : w.heap.size ≤ wr.heap.size := HF.out.size
            have h3 : wr.heap.size + 1 ≤ b := by have := hb.1; rw [HWR.out] at this; exact this
            omega, fun b hb => by
          rw [← hH2] at hb
          rcases hb with hb | hb
          · exact HU.out.2.1 b hb
          · refine .inr ?_
            have h2 : w.heap.size ≤ wr.heap.size := HF.out.size
            have h3 : wr.heap.size + 1 ≤ b := by have := hb.1; rw [HWR.out] at this; exact this
            omega, fun hb => by
          rw [← hH2] at hb
          rcases hb with hb | hb
          · exact HU.out.2.2 hb
          · have h3 : wr.heap.size + 1 ≤ g := by have := hb.1; rw [HWR.out] at this; exact this
            omega⟩
      have hnf2 : ∀ e ∈ D, NFe F2 e := fun e he b hb hf => by
        rw [← hF2] at hf
        rcases hf with hf | hf
        · exact HX.out.nf e he b hb hf
        · have hm : e ∈ D ++ List.replicate (K.length - k) enZ := List.mem_append_left _ he
          have hlt2 : b < wr.heap.size := by
            have hE := HS.out.ent e hm
            rcases hb with h | h | h | h
            · exact hE.1.2.2 b (.inl h)
            · exact hE.1.2.2 b (.inr h)
            · exact hE.2.2.2 b (.inl h)
            · exact hE.2.2.2 b (.inr h)
          have h3 : wr.heap.size + 1 ≤ b := by have := hf.1; rw [HWR.out] at this; exact this
          omega
      have N2 : Hid (w2.heap[wr.heap.size]? = some (.cells #[.int .i64 q0, .int .i64 q1] 39 (0, 0))) := hide ((hf2.block wr.heap.size (by rw [HWR.out]; exact Nat.lt_succ_self _) (fun hf => by have := I.low HV.out _ (I.sub HV.out _ hf); omega)).trans N1.out)
      have HF2 : Hid (∀ b, F2 b → b < w2.heap.size) := hide (fun b hb => I.low hV2' b (I.sub hV2' b (by rw [hF2]; exact hb)))
      rw [hF2, hH2] at hV2'
      have HNF2 := hide hnf2
      have HV2 := hide hV2'
      have HS2 := hide hS2
      have HCP := hide (copied_any c.av c.st mv lv c.ml c.ll w2 hrm hrl (by omega) (by omega))
      obtain ⟨ma, mc, hmv⟩ := BL.rm_lt hrm
      subst hmv
      obtain ⟨la, lc, hlv⟩ := LG.rm_lt hrl
      subst hlv
      clear hc hfew hV2 hV2' hrm hrl hf2 hS2 hnf2 HG1 hF2 hH2 hsub y0 y1 z0 z1 hgF
      go_wp2_with fail
      refine HCP.out.mono ?_
      rintro r w3 ⟨mv', lv', rfl, hm3, hl3, fm3, fl3, hb3⟩
      obtain ⟨ma', mc', hmv'⟩ := BL.rm_lt hm3
      subst hmv'
      obtain ⟨la', lc', hlv'⟩ := LG.rm_lt hl3
      subst hlv'
      have b4 := (Below.refl w3.heap.size w3).alloc (Nat.le_refl _) (.cells #[.int .i64 c.av, .slice ma' c.ml.length mc', .int .i64 c.st, .slice la' c.ll.length lc'] 64)
      have b34 := hb3.trans (b4.mono hb3.size)
      obtain ⟨W4, hW4⟩ : ∃ W4, w3.alloc (.cells #[.int .i64 c.av, .slice ma' c.ml.length mc', .int .i64 c.st, .slice la' c.ll.length lc'] 64) = W4 := ⟨_, rfl⟩
      have hN4 := alloc_new w3 (.cells #[.int .i64 c.av, .slice ma' c.ml.length mc', .int .i64 c.st, .slice la' c.ll.length lc'] 64)
      have HW4 := hide hW4
      have hK4' := blk_later N2.out b34
      obtain ⟨y0, y1⟩ := pair_cells hK4' rfl
      obtain ⟨z0, z1, z2, z3⟩ := four_cells hN4 rfl
      rw [hW4] at b4 b34
      have hS4 := HS2.out.later b34
      have hEl : (D ++ List.replicate (K.length - k) enZ).length = K.length := by rw [List.length_append, List.length_replicate, HDl.out]; omega
      obtain ⟨c', hc'⟩ : ∃ c' : Cl, c' = ⟨c.av, c.ml, .slice ma' c.ml.length mc', c.st, c.ll, .slice la' c.ll.length lc'⟩ := ⟨_, rfl⟩
      have hcr : CR W4 c' := by
        rw [hc']
        exact ⟨hm3.later b4, hl3.later b4, fun b hb => hb.elim (fun h => Nat.lt_of_lt_of_le (fm3 b h).2 b4.size) (fun h => Nat.lt_of_lt_of_le (fl3 b h).2 b4.size)⟩
      have hg2 : g < w2.heap.size := by have h := (World.ownsRow.lt HS2.out.own g rfl).2; exact h
      have hca : CA (.slice (some ⟨g, 0, none⟩) K.length K.length) c' := by
        rw [hc']
        intro b hb
        cases hb
        exact ⟨fun h => by have : w2.heap.size ≤ g := (fm3 g h).1; omega, fun h => by have : w2.heap.size ≤ g := (fl3 g h).1; omega⟩
      have hnfc : NFe F2 ⟨(q0, q1), c', c'⟩ := fun b hb hf => by
        have hlt2 := HF2.out b hf
        rw [hc'] at hb
        have hge : w2.heap.size ≤ b := by
          rcases hb with h | h | h | h
          · exact (fm3 b h).1
          · exact (fl3 b h).1
          · exact (fm3 b h).1
          · exact (fl3 b h).1
        omega
      obtain ⟨hS5, hg5⟩ := hS4.wholeN k ⟨(q0, q1), c', c'⟩ ⟨hcr, hcr⟩ ⟨hca, hca⟩
      have hrep : List.replicate (K.length - k) enZ = enZ :: List.replicate (K.length - (k + 1)) enZ := by rw [show K.length - k = (K.length - (k + 1)) + 1 by omega]; rfl
      rw [hrep] at hS5
      have hset := set_mid D (List.replicate (K.length - (k + 1)) enZ) enZ ⟨(q0, q1), c', c'⟩
      rw [HDl.out] at hset
      rw [hset] at hS5
      have hvs : (⟨(q0, q1), c', c'⟩ : En).vs = [.int .i64 q0, .int .i64 q1, .int .i64 c.av, .slice ma' c.ml.length mc', .int .i64 c.st, .slice la' c.ll.length lc', .int .i64 c.av, .slice ma' c.ml.length mc', .int .i64 c.st, .slice la' c.ll.length lc'] := by rw [hc']; rfl
      rw [hvs] at hS5 hg5
      have HS5 : Hid (SH (W4.setCells g (k * 10) [.int .i64 q0, .int .i64 q1, .int .i64 c.av, .slice ma' c.ml.length mc', .int .i64 c.st, .slice la' c.ll.length lc', .int .i64 c.av, .slice ma' c.ml.length mc', .int .i64 c.st, .slice la' c.ll.length lc']) w.heap.size (.slice (some ⟨g, 0, none⟩) K.length K.length) ((D ++ [⟨(q0, q1), c', c'⟩]) ++ List.replicate (K.length - (k + 1)) enZ)) := hide (by rw [List.append_assoc]; exact hS5)
      have HX5 : Hid (RD I x (K.take (k + 1)) (D ++ [⟨(q0, q1), c', c'⟩]) F2 w.heap.size) := hide ⟨fun e he b hb => by
          rcases List.mem_append.1 he with h | h
          · exact HX.out.lo e h b hb
          · rw [List.mem_singleton.1 h] at hb
            have h2 := HFr2.out.size
            rw [hc'] at hb
            rcases hb with k2 | k2
            · exact Nat.le_trans h2 (fm3 b k2).1
            · exact Nat.le_trans h2 (fl3 b k2).1, by rw [List.take_add_one, HHX.out]; show (D ++ [_]).map _ = _; rw [List.map_append]; show eks D ++ _ = _; rw [HX.out.keys]; rfl, fun e he => by
          rcases List.mem_append.1 he with h | h
          · exact HX.out.is e h
          · rw [List.mem_singleton.1 h]
            refine ⟨rfl, ?_⟩
            show c'.cx = I.bk x (q0, q1)
            rw [HCX.out, hc']; rfl, fun e he => by
          rcases List.mem_append.1 he with h | h
          · exact HNF2.out e h
          · rw [List.mem_singleton.1 h]; exact hnfc⟩
      have HDl5 : Hid ((D ++ [(⟨(q0, q1), c', c'⟩ : En)]).length = k + 1) := hide (by rw [List.length_append, HDl.out]; rfl)
      have HV5 : Hid (I.V (W4.setCells g (k * 10) [.int .i64 q0, .int .i64 q1, .int .i64 c.av, .slice ma' c.ml.length mc', .int .i64 c.st, .slice la' c.ll.length lc', .int .i64 c.av, .slice ma' c.ml.length mc', .int .i64 c.st, .slice la' c.ll.length lc']) F2 H2 (gxs I x (K.take (k + 1)))) := hide (I.keep HV2.out (Nat.le_trans b34.size hg5.size) (fun b hb => (hg5.block b (Nat.lt_of_lt_of_le (I.low HV2.out b hb) b34.size) (fun e => HU2.out.2.2 (by injection e with e; rw [← e]; exact hb))).trans (b34.block b (I.low HV2.out b hb))))
      have HF5 : Hid (FrB F w (W4.setCells g (k * 10) [.int .i64 q0, .int .i64 q1, .int .i64 c.av, .slice ma' c.ml.length mc', .int .i64 c.st, .slice la' c.ll.length lc', .int .i64 c.av, .slice ma' c.ml.length mc', .int .i64 c.st, .slice la' c.ll.length lc'])) := hide ((HFr2.out.trans (G := F) (FrB.ofBelow b34) (fun _ _ h => h)).grown hg5 (by rw [HGG.out]; exact Nat.le_refl _))
      have ht : W4.there g (k * 10) 10 := fun j hj => ⟨by
        have ho := hS4.own
        rw [hEl] at ho
        rw [World.ownsRow.cellAt ho (k * 10 + j) (by omega), List.getElem?_eq_getElem (by rw [ec_len, hEl]; omega)]; rfl, hS4.froz _⟩
      have HT := hide ht
      obtain ⟨W5, hW5⟩ : ∃ W5, W4.setCells g (k * 10) [.int .i64 q0, .int .i64 q1, .int .i64 c.av, .slice ma' c.ml.length mc', .int .i64 c.st, .slice la' c.ll.length lc', .int .i64 c.av, .slice ma' c.ml.length mc', .int .i64 c.st, .slice la' c.ll.length lc'] = W5 := ⟨_, rfl⟩
      rw [hW5] at HS5 HV5 HF5
      have HW5 : Hid ((w3.alloc (.cells #[.int .i64 c.av, .slice ma' c.ml.length mc', .int .i64 c.st, .slice la' c.ll.length lc'] 64)).setCells g (k * 10) (#[.int .i64 q0, .int .i64 q1, .int .i64 c.av, .slice ma' c.ml.length mc', .int .i64 c.st, .slice la' c.ll.length lc', .int .i64 c.av, .slice ma' c.ml.length mc', .int .i64 c.st, .slice la' c.ll.length lc'] : Array Value).toList = W5) := hide (by rw [HW4.out]; exact hW5)
      clear hm3 hl3 fm3 fl3 hb3 b4 b34 hN4 hK4' hW4 hS4 hEl hcr hg2 hca hnfc hS5 hg5 hrep hset hvs hc' ht HCP hW5
      go_upto_region 6 with fail
      clear HS1 HF1 HV1 N1 N2 HWR HHX HCX HNF2 HFr2 HS2 HV2 HF2
      go_wp2_with (refine wpList_store_mid rfl 103 _ _ rfl g (k * 10) #[.int .i64 q0, .int .i64 q1, .int .i64 c.av, .slice ma' c.ml.length mc', .int .i64 c.st, .slice la' c.ll.length lc', .int .i64 c.av, .slice ma' c.ml.length mc', .int .i64 c.st, .slice la' c.ll.length lc'] rfl rfl (by rw [HW4.out]; exact HT.out) Tryz.sizeEn (by simp [Value.oneCell']) ?_; rw [HW5.out])
      go_roundw
      case rel => exact ⟨k + 1, D ++ [⟨(q0, q1), c', c'⟩], F2, H2, hlt, by go_num, HDl5, HS5, HX5, HV5, HF5, HU2⟩
      case measure => simp [intOf]; omega
    · have hd : decide ((k : Int) < (K.length : Int)) = false := by rw [decide_eq_false_iff_not]; omega
      have hk2 : k = K.length := by omega
      have HS9 : Hid (SH wr w.heap.size (.slice (some ⟨g, 0, none⟩) K.length K.length) D) := hide (by have := HS.out; rw [hk2, Nat.sub_self] at this; simpa using this)
      have HX9 : Hid (RD I x K D F' w.heap.size) := hide (by have := HX.out; rw [hk2, List.take_length] at this; exact this)
      have HV9 : Hid (I.V wr F' H' (gxs I x K)) := hide (by have := HV.out; rw [hk2, List.take_length] at this; exact this)
      clear hk2 HS HX HV
      go_wp2_with fail
      go_ret
      exact ⟨g, _, D, F', H', rfl, HS9.out, HX9.out, HV9.out, HF.out, HU.out⟩
end Go.Proofs.YtdjhbecbbmdimaaGreatDoor
