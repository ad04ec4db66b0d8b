/-
  My own text: T18A, QW in one.
-/
import Derived.Test.YtpkgaidnpooahaaGreatDoorT20
import Derived.Test.YtpkgaidnpooahaaGreatDoorQA2
import Derived.Test.YtpkgaidnpooahaaGreatDoorQH
import Derived.Test.YtpkgaidnpooahaaGreatDoorQS
import Derived.Test.YtpkgaidnpooahaaGreatDoorQC
namespace Go.Proofs.YtpkgaidnpooahaaGreatDoor
open Go.RowKit

structure FWA (w : World) (B : Nat) (o f : Value) (k : Nat) (l : List Tr) (G : List (Nat × Nat)) : Prop where
  fw : FW w B o f k l G
  ap : ∃ O : List (List Value), O.length = k ∧ (∀ (j : Nat) (a : Tr) (g c : Nat) (p : List Value), l[j]? = some a → G[j]? = some (g, c) → O[j]? = some p → LT w (.slice (some ⟨g, 0, none⟩) a.kids.length c) a.kids p) ∧ Nd O.flatten ∧ ∀ u ∈ O.flatten, OW w (SB B w o f) u
theorem FWA.later {w w' : World} {B : Nat} {o f : Value} {k : Nat} {l : List Tr} {G : List (Nat × Nat)} (h : FWA w B o f k l G) (hb : Below w.heap.size w w') : FWA w' B o f k l G := by
  obtain ⟨O, h1, h2, h3, h4⟩ := h.ap
  exact ⟨h.fw.later hb, O, h1, fun j a g c p e1 e2 e3 => LT_kept _ _ _ _ (Nat.le_refl _) (h2 j a g c p e1 e2 e3) (fun y hy x hx => hb.block x ((h4 y (List.mem_flatten.2 ⟨p, List.mem_of_getElem? e3, hy⟩)).lt hx).2), h3, fun u hu => (h4 u hu).kept (fun g _ hg => hb.block g hg) (fun _ hg _ => ⟨hg.1, Nat.lt_of_lt_of_le hg.2.1 hb.size, hg.2.2⟩)⟩
theorem FWA_step {w0 w1 w2 w3 : World} {B k g c : Nat} {o f o' f' : Value} {l : List Tr} {G : List (Nat × Nat)} {t : Tr} (h0 : FWA w0 B o f k l G) (hb0 : Below w0.heap.size w0 w1) (hF : FWA w1 B o f k l G) (ht : l[k]? = some t) (hlo : B ≤ w0.heap.size) (ho : ∀ q, o.ownBlock = some q → q < w0.heap.size) (hf : ∀ q, f.ownBlock = some q → q < w0.heap.size)
    (hU : FU w1 (fun x => w0.heap.size ≤ x ∧ x < w1.heap.size) g c t.kids ∧ AP w1 (fun x => w0.heap.size ≤ x ∧ x < w1.heap.size) (.slice (some ⟨g, 0, none⟩) t.kids.length c) t.kids)
    (O : w2.ownsRow B 25 5 o' (k + 1) (oc (l.take k) G ++ [.string ⟨t.itm.tag.toArray⟩, .string ⟨t.itm.qual.toArray⟩, .string ⟨t.itm.text.toArray⟩, .string ⟨t.itm.name.toArray⟩, .slice (some ⟨g, 0, none⟩) t.kids.length c])) (g2 : ∀ x, x < w1.heap.size → o.ownBlock ≠ some x → w2.heap[x]? = w1.heap[x]?) (s2 : w1.heap.size ≤ w2.heap.size) (r2 : ∀ q, o'.ownBlock = some q → o.ownBlock = some q ∨ w1.heap.size ≤ q)
    (L : w3.ownsRow B 25 5 f' (k + 1) (fc (l.take k) G ++ [.string ⟨fullS.toArray⟩, .string ⟨#[]⟩, .string ⟨#[]⟩, .string ⟨#[]⟩, .slice (some ⟨g, 0, none⟩) (2 * t.kids.length + 1) c])) (g3 : ∀ x, x < w2.heap.size → f.ownBlock ≠ some x → w3.heap[x]? = w2.heap[x]?) (s3 : w2.heap.size ≤ w3.heap.size) (r3 : ∀ q, f'.ownBlock = some q → f.ownBlock = some q ∨ w2.heap.size ≤ q) :
    FWA w3 B o' f' (k + 1) l (G ++ [(g, c)]) := by
  refine ⟨FW_step hF.fw ht hlo ho hf hU.1 O g2 s2 r2 L g3 s3 r3, ?_⟩
  obtain ⟨OO, h1, h2, h3, h4⟩ := h0.ap
  obtain ⟨p, q1, q2, q3⟩ := hU.2
  have hs0 := hb0.size
  have both : ∀ x, x < w1.heap.size → o.ownBlock ≠ some x → f.ownBlock ≠ some x → w3.heap[x]? = w1.heap[x]? := fun x h1 h2 h3 => (g3 x (by omega) h3).trans (g2 x h1 h2)
  have new : ∀ x, B ≤ x → x < w1.heap.size → o.ownBlock ≠ some x → f.ownBlock ≠ some x → SB B w3 o' f' x := by
    intro x hB h1 h2 h3
    refine ⟨hB, by omega, fun e => ?_, fun e => ?_⟩
    · rcases r2 x e with h | h
      · exact h2 h
      · omega
    · rcases r3 x e with h | h
      · exact h3 h
      · omega
  have no : ∀ z, w0.heap.size ≤ z → o.ownBlock ≠ some z ∧ f.ownBlock ≠ some z := fun z hz => ⟨fun e => by have := ho z e; omega, fun e => by have := hf z e; omega⟩
  have kold : ∀ u ∈ OO.flatten, ∀ x, u.ownBlock = some x → w3.heap[x]? = w0.heap[x]? := fun u hu x hx => by
    have := (h4 u hu).lt hx
    exact (both x (by omega) this.1.2.2.1 this.1.2.2.2).trans (hb0.block x this.2)
  have knew : ∀ y ∈ p, ∀ x, y.ownBlock = some x → w3.heap[x]? = w1.heap[x]? := fun y hy x hx => by
    have := (q3 y hy).lt hx
    exact both x this.2 (no x this.1.1).1 (no x this.1.1).2
  have hG : G.length = k := h0.fw.len
  refine ⟨OO ++ [p], by simp [h1], fun j a x y r e1 e2 e3 => ?_, ?_, fun y hy => ?_⟩
  · by_cases hj : j < k
    · rw [List.getElem?_append_left (by omega)] at e2
      rw [List.getElem?_append_left (by omega)] at e3
      exact LT_kept _ _ _ _ (Nat.le_refl _) (h2 j a x y r e1 e2 e3) (fun u hu => kold u (List.mem_flatten.2 ⟨r, List.mem_of_getElem? e3, hu⟩))
    · have hj0 : j - k = 0 := by rw [List.getElem?_append_right (by omega)] at e3; have := (List.getElem?_eq_some_iff.1 e3).1; simp at this; omega
      have hjk : j = k := by omega
      subst hjk
      rw [List.getElem?_append_right (by omega), hG, Nat.sub_self] at e2
      rw [List.getElem?_append_right (by omega), h1, Nat.sub_self] at e3
      rw [ht] at e1
      simp at e1 e2 e3
      obtain ⟨rfl, rfl⟩ := e2
      subst e1; subst e3
      exact LT_kept _ _ _ _ (Nat.le_refl _) q1 knew
  · rw [List.flatten_append, List.flatten_singleton]
    refine nd_append h3 q2 (fun u hu y hy x e1 e2 => ?_)
    have a1 := ((h4 u hu).lt e1).2
    have a2 := ((q3 y hy).lt e2).1.1
    omega
  · rw [List.flatten_append, List.flatten_singleton] at hy
    rcases List.mem_append.1 hy with hy | hy
    · obtain ⟨⟨n, xs, hO'⟩, h5⟩ := h4 y hy
      exact ⟨⟨n, xs, owns_blkq hO' (fun x e => kold y hy x e)⟩, fun x hx => by
        have := ((h4 y hy).lt hx)
        exact new x this.1.1 (by omega) this.1.2.2.1 this.1.2.2.2⟩
    · obtain ⟨⟨n, xs, hO'⟩, h5⟩ := q3 y hy
      exact ⟨⟨n, xs, owns_blkq hO' (fun x e => knew y hy x e)⟩, fun x hx => by
        have := ((q3 y hy).lt hx)
        exact new x (by omega) this.2 (no x this.1.1).1 (no x this.1.1).2⟩
theorem row_front {w : World} {B g n m c : Nat} {e : TypeId} {s : Nat} {xs ys : List Value} (h : w.ownsRow B e s (.slice (some ⟨g, 0, none⟩) (n + m) c) (n + m) (xs ++ ys)) (hl : xs.length = n * s) : w.ownsRow B e s (.slice (some ⟨g, 0, none⟩) n c) n xs := by
  rcases h.2 with ⟨hv, _⟩ | ⟨g', cap, cur, hv, hb, hh, h3, h4, h5, h6⟩
  · cases hv
  · injection hv with e1 _ e3
    injection e1 with e1
    injection e1 with e1
    subst e1; subst e3
    refine ⟨hl, .inr ⟨g, c, cur, rfl, hb, hh, by omega, h4, h5, ?_⟩⟩
    have e := congrArg (List.take (n * s)) h6
    rw [List.take_take, show min (n * s) ((n + m) * s) = n * s by rw [Nat.min_eq_left]; exact Nat.mul_le_mul_right _ (by omega), List.take_left' hl] at e
    exact e
theorem FWA_done {w w2 : World} {B : Nat} {o f v : Value} {l : List Tr} {G : List (Nat × Nat)} (hF : FWA w B o f l.length l G) (hk : ∀ x, x < w.heap.size → o.ownBlock ≠ some x → w2.heap[x]? = w.heap[x]?) (hs : w.heap.size ≤ w2.heap.size) (hr : ∀ q, v.ownBlock = some q → o.ownBlock = some q ∨ w.heap.size ≤ q)
    (hO : w2.ownsRow B 25 5 v (l.length + l.length + 1) (oc l G ++ (fc l G ++ [.string ⟨endS.toArray⟩, .string ⟨#[]⟩, .string ⟨#[]⟩, .string ⟨#[]⟩, .slice none 0 0]))) :
    ∃ g c, v = .slice (some ⟨g, 0, none⟩) (2 * l.length + 1) c ∧ FU w2 (fun x => B ≤ x ∧ x < w2.heap.size) g c l ∧ AP w2 (fun x => B ≤ x ∧ x < w2.heap.size) (.slice (some ⟨g, 0, none⟩) l.length c) l := by
  obtain ⟨g, c, hv, hfu⟩ := FW_done hF.fw hk hs hr hO
  refine ⟨g, c, hv, hfu, ?_⟩
  obtain ⟨OO, h1, h2, h3, h4⟩ := hF.ap
  subst hv
  have hG : G.length = l.length := hF.fw.len
  have hol := oc_len l G hG.symm
  have e2n : 2 * l.length + 1 = l.length + (l.length + 1) := by omega
  have hO2 : w2.ownsRow B 25 5 (.slice (some ⟨g, 0, none⟩) (l.length + (l.length + 1)) c) (l.length + (l.length + 1)) (oc l G ++ (fc l G ++ [.string ⟨endS.toArray⟩, .string ⟨#[]⟩, .string ⟨#[]⟩, .string ⟨#[]⟩, .slice none 0 0])) := by
    rw [← e2n]
    rw [show l.length + l.length + 1 = 2 * l.length + 1 by omega] at hO
    exact hO
  have hrow := row_front hO2 hol
  have hgl := own_ltq hrow g rfl
  have kk : ∀ u ∈ OO.flatten, ∀ x, u.ownBlock = some x → w2.heap[x]? = w.heap[x]? := fun u hu x hx => by
    have := (h4 u hu).lt hx
    exact hk x this.2 this.1.2.2.1
  refine ⟨.slice (some ⟨g, 0, none⟩) l.length c :: OO.flatten, ⟨_, c, OO.flatten, rfl, rfl, .inr ⟨g, rfl, ?_⟩⟩, ?_, fun u hu => ?_⟩
  · have hV : ∀ (j : Nat) (a : Tr) (u : Value) (p : List Value), l[j]? = some a → (G.zipWith (fun q a => Value.slice (some ⟨q.1, 0, none⟩) a.kids.length q.2) l)[j]? = some u → OO[j]? = some p → w2.cell? ⟨g, 0 + j * 5 + 4, none⟩ = some u ∧ LT w2 u a.kids p := fun j a u p e1 e2 e3 => by
      rw [List.getElem?_zipWith, e1] at e2
      cases hg : G[j]? with
      | none => rw [hg] at e2; cases e2
      | some q =>
        rw [hg] at e2
        simp at e2
        subst e2
        obtain ⟨x, y⟩ := q
        refine ⟨?_, LT_kept _ _ _ _ (Nat.le_refl _) (h2 j a x y p e1 hg e3) (fun z hz => kk z (List.mem_flatten.2 ⟨p, List.mem_of_getElem? e3, hz⟩))⟩
        have := World.ownsRow.cells hrow rfl (j * 5 + 4) _ (oc_at l G j a x y e1 hg).2.2.2.2
        rw [Addr.add_lit, Nat.zero_add] at this
        rw [Nat.zero_add]; exact this
    exact LR_mk l _ OO 0 (by simp [hG]) h1 hV
  · have e : Value.slice (some ⟨g, 0, none⟩) l.length c :: OO.flatten = [.slice (some ⟨g, 0, none⟩) l.length c] ++ OO.flatten := rfl
    rw [e]
    refine nd_append (by unfold Nd; simp [Value.ownBlock]) h3 (fun u hu y hy x e1 e2 => ?_)
    rw [List.mem_singleton] at hu
    subst hu
    cases e1
    have h7 := (h4 y hy).lt e2
    have h8 : g < w.heap.size := h7.2
    rcases hr g rfl with h | h
    · exact h7.1.2.2.1 h
    · omega
  · rcases List.mem_cons.1 hu with rfl | hu
    · exact ⟨⟨_, _, World.ownsRow.mono hrow (Nat.zero_le _)⟩, fun x hx => own_ltq hrow x hx⟩
    · obtain ⟨⟨n, xs, hO'⟩, h5⟩ := h4 u hu
      exact ⟨⟨n, xs, owns_blkq hO' (fun x e => kk u hu x e)⟩, fun x hx => ⟨(h5 x hx).1, by have := (h5 x hx).2.1; omega⟩⟩
set_option maxRecDepth 100000 in
set_option maxHeartbeats 8000000 in
theorem fullItems_anyA : ∀ (D : Nat) (l : List Tr) (v : Value) (w : World), wts l ≤ D → D ≤ 1073741824 → RT w v l →
    Calls Tryz.prog 58 #[v] w fun e w' => ∃ g c, e = .returned (.slice (some ⟨g, 0, none⟩) (2 * l.length + 1) c) ∧ (FU w' (fun x => w.heap.size ≤ x ∧ x < w'.heap.size) g c l ∧ AP w' (fun x => w.heap.size ≤ x ∧ x < w'.heap.size) (.slice (some ⟨g, 0, none⟩) l.length c) l) ∧ Below w.heap.size w w' := by
  intro D
  induction D using Nat.strongRecOn with
  | ind D ih =>
    intro l v w hD hD2 hv
    have IH := hide ih
    obtain ⟨i0, hi, hz0, hz1, hz2⟩ := info_parts Tryz.infoItm
    obtain ⟨a, cap, rfl, hr⟩ := hv
    have HR := hide hr
    clear hr ih
    have hll : l.length ≤ 1073741824 := by have := wts_len l; omega
    go_enter Tryz.func58, Tryz.ntmps58
    go_wp2_with fail
    go_loopw [3, 4, 5] (fun o f i wr => ∃ (k : Nat) (G : List (Nat × Nat)), k ≤ l.length ∧ i = .int .i64 k ∧ Hid (k = 0 → f = .slice none 0 0) ∧ Hid (FWA wr w.heap.size o f k l G) ∧ Hid (Below w.heap.size w wr)) (fun _ _ i _ => l.length - (intOf i).toNat)
    case atStart => exact ⟨0, [], Nat.zero_le _, rfl, hide (fun _ => rfl), hide ⟨⟨rfl, World.ownsRow_nil _ _ _ _, World.ownsRow_nil _ _ _ _, (fun g hg => by cases hg), (fun j a g c _ h2 => by simp at h2)⟩, [], rfl, fun j a g c o _ _ h => by simp at h, List.nodup_nil, fun u hu => by simp at hu⟩, hide (Below.refl _ _)⟩
    case round =>
      obtain ⟨k, G, hk, rfl, HN, HF, HB⟩ := hrel
      by_cases hlt : k < l.length
      · obtain ⟨t, ht⟩ : ∃ t, l[k]? = some t := ⟨_, List.getElem?_eq_getElem hlt⟩
        have HTT := hide ht
        have HWE := hide (wt_eq t)
        have HWA := hide (wts_at ht)
        obtain ⟨b, off, kv, ha, hbl, c0, c1, c2, c3, c4, hkv⟩ := RT_at HR.out ht
        have HC0 := hide c0
        have HC1 := hide c1
        have HC2 := hide c2
        have HC3 := hide c3
        have HC4 := hide c4
        have HBL := hide hbl
        subst ha
        obtain ⟨ka, kcap, rfl, hkr⟩ := hkv
        have HKV : Hid (RT w (.slice ka t.kids.length kcap) t.kids) := hide ⟨ka, kcap, rfl, hkr⟩
        clear hkr ht c0 c1 c2 c3 c4 hbl
        have c4 := (HB.out.cell (p := ⟨b, _, none⟩) HBL.out).trans HC4.out
        have HIH := hide (IH.out (wts t.kids) (by have := HWE.out; have := HWA.out; omega) t.kids (.slice ka t.kids.length kcap) wr (Nat.le_refl _) (by have := HWE.out; have := HWA.out; omega) (RT_later HKV.out HB.out))
        have hkl : t.kids.length ≤ 1073741824 := by have := wts_len t.kids; have := HWE.out; have := HWA.out; omega
        go_wp2_with fail
        refine HIH.out.mono ?_
        rintro e w1 ⟨g, c, rfl, hfu, hb1⟩
        have HFU := hide hfu
        have HF0 := HF
        have HB1 := hide hb1
        have HF1 := hide (HF.out.later hb1)
        have HOL := hide (fun q hq => (own_lt HF.out.fw.out q hq).2)
        have HFLL := hide (fun q hq => (own_lt HF.out.fw.full q hq).2)
        have HLO : Hid (w.heap.size ≤ wr.heap.size) := hide HB.out.size
        have B1 := hide (HB.out.trans (hb1.mono HB.out.size))
        obtain ⟨⟨hc1, _⟩, _⟩ := hfu
        have hcne : ¬ c = t.kids.length := by omega
        have hcle : (t.kids.length : Int) ≤ (c : Int) := by omega
        clear hb1 HF HB HIH c4 HN
        have BA := hide (B1.out.alloc B1.out.size (.cells (iC t.itm (.slice ka t.kids.length kcap)) 25))
        have c0 := (B1.out.cell (p := ⟨b, _, none⟩) HBL.out).trans HC0.out
        have c1 := (B1.out.cell (p := ⟨b, _, none⟩) HBL.out).trans HC1.out
        have c2 := (B1.out.cell (p := ⟨b, _, none⟩) HBL.out).trans HC2.out
        have c3 := (B1.out.cell (p := ⟨b, _, none⟩) HBL.out).trans HC3.out
        have c4 := (B1.out.cell (p := ⟨b, _, none⟩) HBL.out).trans HC4.out
        have d4 := (BA.out.cell (p := ⟨b, _, none⟩) HBL.out).trans HC4.out
        unfold iC at d4
        go_wp2_with (at_builtin; refine wp_append_items rfl _ _ rfl w.heap.size _ k _ rfl ((HF1.out.fw.out.alloc _).alloc _) _ 1 1 [.string ⟨t.itm.tag.toArray⟩, .string ⟨t.itm.qual.toArray⟩, .string ⟨t.itm.text.toArray⟩, .string ⟨t.itm.name.toArray⟩, .slice (some ⟨g, 0, none⟩) t.kids.length c] rfl rfl (by decide) ?c1 ?c2 ?c3 ?c4 ?_)
        case c1 =>
          intro j u hj
          match j, hj with
          | 0, hj => simp at hj; subst hj; simp [Addr.add]
          | 1, hj => simp at hj; subst hj; simp [Addr.add]
          | 2, hj => simp at hj; subst hj; simp [Addr.add]
          | 3, hj => simp at hj; subst hj; simp [Addr.add]
          | 4, hj => simp at hj; subst hj; simp [Addr.add]
        case c2 => intro u hu; simp at hu; rcases hu with rfl | rfl | rfl | rfl | rfl <;> rfl
        case c3 => have := B1.out.size; simp; omega
        case c4 => omega
        intro v' w2 hown' hgrow hfresh
        have HO2 := hide hown'
        have HFR2 : Hid (∀ q, v'.ownBlock = some q → u3.ownBlock = some q ∨ w1.heap.size ≤ q) := hide (fun q hq => (hfresh q hq).imp id (fun h => by (try simp at h); omega))
        have HS2 : Hid (w1.heap.size ≤ w2.heap.size) := by show _ ≤ _; have := hgrow.size; (try simp at this); omega
        have HG2 : Hid (∀ x, x < w1.heap.size → u3.ownBlock ≠ some x → w2.heap[x]? = w1.heap[x]?) := hide (fun x hx hne => by
          rw [hgrow.block x (by simp; omega) (fun e => hne e.symm), (((Below.refl w1.heap.size w1).alloc (Nat.le_refl _) _).alloc (by simp) _).block x hx])
        have B2 : Hid (Below w.heap.size w w2) := hide (((B1.out.alloc B1.out.size _).alloc (by have := B1.out.size; simp; omega) _).grown hgrow (by have := B1.out.size; simp; omega) (fun q hq => (own_lt HF1.out.fw.out q hq).1))
        have HF2 : Hid (w2.ownsRow w.heap.size 25 5 u4 k (fc (l.take k) G)) := hide (owns_blk HF1.out.fw.full (fun q hq => HG2.out q (own_lt HF1.out.fw.full q hq).2 (fun e => HF1.out.fw.ne q e hq)))
        clear hown' hgrow hfresh c0 c1 c2 c3 c4 d4 BA
        go_wp2_with (at_builtin; refine wp_append_items rfl _ _ rfl w.heap.size _ k _ rfl (HF2.out.alloc _) _ 1 1 [.string ⟨#[35, 102, 117, 108, 108]⟩, .string ⟨#[]⟩, .string ⟨#[]⟩, .string ⟨#[]⟩, .slice (some ⟨g, 0, none⟩) (2 * t.kids.length + 1) c] rfl rfl (by decide) ?d1 ?d2 ?d3 ?d4 ?_)
        case d1 =>
          intro j u hj
          match j, hj with
          | 0, hj => simp at hj; subst hj; simp [Addr.add]
          | 1, hj => simp at hj; subst hj; simp [Addr.add]
          | 2, hj => simp at hj; subst hj; simp [Addr.add]
          | 3, hj => simp at hj; subst hj; simp [Addr.add]
          | 4, hj => simp at hj; subst hj; simp [Addr.add]
        case d2 => intro u hu; simp at hu; rcases hu with rfl | rfl | rfl | rfl | rfl <;> rfl
        case d3 => have := B2.out.size; simp; omega
        case d4 => omega
        intro v'' w3 hown'' hgrow hfresh
        have HFW := hide (FWA_step HF0.out HB1.out HF1.out HTT.out HLO.out HOL.out HFLL.out HFU.out HO2.out HG2.out HS2.out HFR2.out hown'' (fun x hx hne => by
          rw [hgrow.block x (by simp; omega) (fun e => hne e.symm), ((Below.refl w2.heap.size w2).alloc (Nat.le_refl _) _).block x hx]) (by have := hgrow.size; (try simp at this); omega) (fun q hq => (hfresh q hq).imp id (fun h => by (try simp at h); omega)))
        have B3 : Hid (Below w.heap.size w w3) := hide ((B2.out.alloc B2.out.size _).grown hgrow (by have := B2.out.size; simp; omega) (fun q hq => (own_lt HF2.out q hq).1))
        clear hown'' hgrow hfresh
        go_wp2_with fail
        go_roundw
        case rel => exact ⟨k + 1, _, by omega, by go_num, hide (fun h => absurd h (Nat.succ_ne_zero k)), HFW, B3⟩
        case measure => simp [intOf]; omega
      · have hk' : k = l.length := by omega
        subst hk'
        go_wp2_with (at_builtin; refine wp_append_rows rfl _ _ rfl w.heap.size _ l.length _ rfl HF.out.fw.out _ l.length _ rfl HF.out.fw.full HN.out (fc_one _ _) ?e1 ?e2 ?_)
        case e1 => exact HB.out.size
        case e2 => omega
        intro v1 w1 hown1 hgrow hfresh
        have HO1 := hide hown1
        have B1 : Hid (Below w.heap.size w w1) := hide (HB.out.grown hgrow HB.out.size (fun q hq => (own_lt HF.out.fw.out q hq).1))
        have HK1 : Hid (∀ x, x < wr.heap.size → u3.ownBlock ≠ some x → w1.heap[x]? = wr.heap[x]?) := hide (fun x hx hne => hgrow.block x hx (fun e => hne e.symm))
        have HS1 : Hid (wr.heap.size ≤ w1.heap.size) := hide hgrow.size
        have HR1 : Hid (∀ q, v1.ownBlock = some q → u3.ownBlock = some q ∨ wr.heap.size ≤ q) := hide hfresh
        clear hown1 hgrow hfresh
        go_wp2_with (at_builtin; refine wp_append_items rfl _ _ rfl w.heap.size _ _ _ rfl (HO1.out.alloc _) _ 1 1 [.string ⟨#[35, 101, 110, 100]⟩, .string ⟨#[]⟩, .string ⟨#[]⟩, .string ⟨#[]⟩, .slice none 0 0] rfl rfl (by decide) ?f1 ?f2 ?f3 ?f4 ?_)
        case f1 =>
          intro j u hj
          match j, hj with
          | 0, hj => simp at hj; subst hj; simp [Addr.add]
          | 1, hj => simp at hj; subst hj; simp [Addr.add]
          | 2, hj => simp at hj; subst hj; simp [Addr.add]
          | 3, hj => simp at hj; subst hj; simp [Addr.add]
          | 4, hj => simp at hj; subst hj; simp [Addr.add]
        case f2 => intro u hu; simp at hu; rcases hu with rfl | rfl | rfl | rfl | rfl <;> rfl
        case f3 => have := B1.out.size; simp; omega
        case f4 => omega
        intro v2 w2 hown2 hgrow hfresh
        have hk1 : ∀ x, x < w1.heap.size → v1.ownBlock ≠ some x → w2.heap[x]? = w1.heap[x]? := fun x hx hne => by
          rw [hgrow.block x (by simp; omega) (fun e => hne e.symm), ((Below.refl w1.heap.size w1).alloc (Nat.le_refl _) _).block x hx]
        have hs1 : w1.heap.size ≤ w2.heap.size := by have := hgrow.size; (try simp at this); omega
        have B2 : Hid (Below w.heap.size w w2) := hide ((B1.out.alloc B1.out.size _).grown hgrow (by have := B1.out.size; simp; omega) (fun q hq => (own_lt HO1.out q hq).1))
        have hd := FWA_done (w2 := w2) HF.out (fun x hx hne => (hk1 x (by have := HS1.out; omega) (fun e => by
          rcases HR1.out x e with h | h
          · exact hne h
          · omega)).trans (HK1.out x hx hne)) (by have := HS1.out; omega) (fun q hq => by
          rcases hfresh q hq with h | h
          · exact HR1.out q h
          · right; have := HS1.out; (try simp at h); omega) hown2
        obtain ⟨g, c, rfl, hfu⟩ := hd
        have HFU := hide hfu
        clear hk1 hs1 hfu hown2 hgrow hfresh
        go_wp2_with fail
        go_ret
        exact ⟨g, c, rfl, HFU.out, B2.out⟩
set_option maxRecDepth 100000 in
set_option maxHeartbeats 4000000 in
theorem lentItems_anyA (l : List Tr) (v : Value) (w : World) (hD : wts l ≤ 1073741824) (hv : RT w v l) :
    Calls Tryz.prog 31 #[v] w fun e w' => ∃ g c, e = .returned (.slice (some ⟨g, 0, none⟩) l.length c) ∧ (FU w' (fun x => w.heap.size ≤ x ∧ x < w'.heap.size) g c l ∧ AP w' (fun x => w.heap.size ≤ x ∧ x < w'.heap.size) (.slice (some ⟨g, 0, none⟩) l.length c) l) ∧ Below w.heap.size w w' := by
  have HF := hide (fullItems_anyA (wts l) l v w (Nat.le_refl _) hD hv)
  have hll : l.length ≤ 1073741824 := by have := wts_len l; omega
  obtain ⟨a, cap, rfl, hr⟩ := hv
  clear hr
  go_enter Tryz.func31, Tryz.ntmps31
  go_wp2_with fail
  refine HF.out.mono ?_
  rintro e w1 ⟨g, c, rfl, hfu, hb1⟩
  have HFU := hide hfu
  have HB1 := hide hb1
  have hcne : ¬ c = l.length := by have := hfu.1.1; omega
  have hcle : (l.length : Int) ≤ (c : Int) := by have := hfu.1.1; omega
  clear hfu hb1
  go_wp2_with fail
  go_ret
  exact ⟨g, c, rfl, HFU.out, HB1.out⟩
end Go.Proofs.YtpkgaidnpooahaaGreatDoor
namespace Go.Proofs.YtpkgaidnpooahaaGreatDoor
open Go.RowKit

def wT : List UInt8 := [58, 50, 48, 67, 58, 58, 83, 69, 77, 69, 47, 47, 65, 10]
def wI : Tr := .mk ⟨[50, 48, 67], [83, 69, 77, 69], [65], []⟩ []
theorem w_read : rdT wT = .ok [wI] 2 14 := by rfl
theorem w_err : prE [wI] = 0 := by decide +kernel
theorem w_txt : prT [wI] = wT := by decide +kernel
theorem w_find : fndL [50, 48, 67] [83, 69, 77, 69] [wI] = some wI := by rfl
theorem w_count : cntL [wI] = 1 := by rfl
theorem w_wts : wts [wI] = 9 := by rfl
theorem RT_one {w : World} {b cap : Nat} {i : Itm} (h : Ix w b i (.slice none 0 0)) : RT w (.slice (some ⟨b, 0, none⟩) 1 cap) [.mk i []] :=
  ⟨_, cap, rfl, .inr ⟨b, 0, rfl, h.lt, RR_mk (fun k a hk => by
    have hk0 : k = 0 := by have := (List.getElem?_eq_some_iff.1 hk).1; simp at this; omega
    subst hk0
    simp at hk; subst hk
    exact RI_iff.2 ⟨h.tag trivial, h.qual trivial, h.text trivial, h.name trivial, _, h.items trivial, ⟨none, 0, rfl, .inl rfl⟩⟩)⟩⟩
set_option maxRecDepth 100000 in
set_option maxHeartbeats 4000000 in
theorem works_any (w : World) (hm : ML w) :
    Calls Tryz.prog 13 #[] w fun e w' => e = .returned (.bool true) ∧ Below w.heap.size w w' := by
  have HM := hide hm
  clear hm
  have X0 := hide (Ix.new w wI.itm (.slice none 0 0))
  have R0 : Hid (RT (w.alloc (.cells (iC wI.itm (.slice none 0 0)) 25)) (.slice (some ⟨w.heap.size, 0, none⟩) 1 1) [wI]) := hide (RT_one X0.out)
  have B0 := hide ((Below.refl w.heap.size w).alloc (Nat.le_refl _) (.cells (iC wI.itm (.slice none 0 0)) 25))
  have HPR := hide (tPrint_any [wI] (.slice (some ⟨w.heap.size, 0, none⟩) 1 1) (w.alloc (.cells (iC wI.itm (.slice none 0 0)) 25)) (by rw [w_wts]; omega) R0.out)
  rw [w_err, w_txt, errV_zero] at HPR
  have HPA := hide (fun (W : World) (h : ML W) => parse_ok wT [wI] W (by decide) (readsOk (by decide) w_read) h)
  have HFD := hide (fun (W : World) (h : RT W (.slice (some ⟨w.heap.size, 0, none⟩) 1 1) [wI]) => find_any [50, 48, 67] [83, 69, 77, 69] 9 [wI] (.slice (some ⟨w.heap.size, 0, none⟩) 1 1) W (by rw [w_wts]; omega) (by omega) h)
  rw [w_find] at HFD
  have HCT := hide (fun (W : World) (h : RT W (.slice (some ⟨w.heap.size, 0, none⟩) 1 1) [wI]) => count_any 9 [wI] (.slice (some ⟨w.heap.size, 0, none⟩) 1 1) W (by rw [w_wts]; omega) (by omega) h)
  rw [w_count] at HCT
  have HSM := hide (fun (a : Option Addr) (cap : Nat) (W : World) (h1 : RT W (.slice a 1 cap) [wI]) (h2 : RT W (.slice (some ⟨w.heap.size, 0, none⟩) 1 1) [wI]) => sameItems_all 9 [wI] [wI] (.slice a 1 cap) (.slice (some ⟨w.heap.size, 0, none⟩) 1 1) W (by rw [w_wts]; omega) (by omega) h1 h2)
  rw [eqL_refl] at HSM
  unfold wT at HPR HPA
  unfold iC wI Tr.itm at X0 R0 B0 HPR
  unfold wI at HPA HFD HCT HSM
  dsimp only at X0 R0 B0 HPR
  go_enter Tryz.func13, Tryz.ntmps13
  go_wp2_with fail
  refine HPR.out.mono ?_
  rintro e w1 ⟨rfl, hb1⟩
  have B1 := hide (B0.out.trans (hb1.mono B0.out.size))
  have R1 := hide (RT_later R0.out hb1)
  clear hb1 HPR
  go_wp2_with fail
  refine (HPA.out w1 (HM.out.later B1.out)).mono ?_
  rintro e w2 ⟨⟨a, cap, rfl, hpt⟩, hb2⟩
  have B2 := hide (B1.out.trans (hb2.mono B1.out.size))
  have R2 := hide (RT_later R1.out hb2)
  have M2 := hide (PT_rt _ _ _ (Nat.le_refl _) hpt)
  clear hb2 hpt HPA
  go_wp2_with fail
  refine (HFD.out w2 R2.out).mono ?_
  rintro e w3 ⟨⟨qa, qc, rfl, _⟩, hb3⟩
  have B3 := hide (B2.out.trans (hb3.mono B2.out.size))
  have R3 := hide (RT_later R2.out hb3)
  have M3 := hide (RT_later M2.out hb3)
  clear hb3 HFD
  have BW := hide ((Below.refl w3.heap.size w3).alloc (Nat.le_refl _) (.cells (iC ⟨[50, 48, 67], [83, 69, 77, 69], [65], []⟩ (.slice qa 0 qc)) 25))
  have B4 := hide (B3.out.trans (BW.out.mono B3.out.size))
  have R4 := hide (RT_later R3.out BW.out)
  have M4 := hide (RT_later M3.out BW.out)
  have X4 := hide (Ix.new w3 ⟨[50, 48, 67], [83, 69, 77, 69], [65], []⟩ (.slice qa 0 qc))
  unfold iC at BW B4 R4 M4 X4
  dsimp only [Tr.kids, Tr.itm, List.length_nil, List.length_cons] at *
  unfold iC
  dsimp only
  go_wp2_with fail
  refine (HSM.out a cap _ M4.out R4.out).mono ?_
  rintro e w5 ⟨rfl, hb5⟩
  have B5 := hide (B4.out.trans (hb5.mono B4.out.size))
  have R5 := hide (RT_later R4.out hb5)
  have X5 := hide (Ix.later X4.out hb5)
  clear hb5 HSM
  have x2 := X5.out.text trivial
  dsimp only at x2
  go_wp2_with fail
  refine (HCT.out _ R5.out).mono ?_
  rintro e w6 ⟨rfl, hb6⟩
  have B6 := hide (B5.out.trans (hb6.mono B5.out.size))
  clear hb6 HCT
  go_wp2_with fail
  go_ret
  exact ⟨rfl, B6.out⟩
end Go.Proofs.YtpkgaidnpooahaaGreatDoor
