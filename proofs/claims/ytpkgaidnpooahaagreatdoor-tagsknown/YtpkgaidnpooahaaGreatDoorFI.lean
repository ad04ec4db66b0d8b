/-
  My own text: the law of Find, Block and Count. (Printed by mkfi.py.)
-/
import Derived.Test.YtpkgaidnpooahaaGreatDoorFD2
import Derived.Test.YtpkgaidnpooahaaGreatDoorQW
import Derived.Test.YtpkgaidnpooahaaGreatDoorAI3
import Derived.Test.YtpkgaidnpooahaaGreatDoorQW
namespace Go.Proofs.YtpkgaidnpooahaaGreatDoor
open Go.RowKit

def oI : Option Tr → Itm
  | none => ⟨[], [], [], []⟩
  | some x => x.itm
def oK : Option Tr → List Tr
  | none => []
  | some x => x.kids
theorem FO_uni {w w' : World} {e : Ending} : ∀ {o : Option Tr}, FO w w' e o → ∃ a cap, e = .returned (.tuple #[.agg (iC (oI o) (.slice a (oK o).length cap)), .bool o.isSome]) ∧ PA w' (fun g => w.heap.size ≤ g ∧ g < w'.heap.size) (.slice a (oK o).length cap) (oK o)
  | none, h => ⟨none, 0, h, PA.nil _ _⟩
  | some _, h => h
theorem FD_uni {w' : World} {e : Ending} : ∀ {o : Option Tr}, FD w' e o → ∃ a cap, e = .returned (.tuple #[.agg (iC (oI o) (.slice a (oK o).length cap)), .bool o.isSome]) ∧ RT w' (.slice a (oK o).length cap) (oK o)
  | none, h => ⟨none, 0, h, none, 0, rfl, .inl rfl⟩
  | some _, h => h
theorem BO_uni {w w' : World} {e : Ending} : ∀ {o : Option (List Tr)}, BO w w' e o → ∃ a cap, e = .returned (.tuple #[.slice a (o.getD []).length cap, .bool o.isSome]) ∧ PA w' (fun g => w.heap.size ≤ g ∧ g < w'.heap.size) (.slice a (o.getD []).length cap) (o.getD [])
  | none, h => ⟨none, 0, h, PA.nil _ _⟩
  | some _, h => h
theorem BD_uni {w' : World} {e : Ending} : ∀ {o : Option (List Tr)}, BD w' e o → ∃ a cap, e = .returned (.tuple #[.slice a (o.getD []).length cap, .bool o.isSome]) ∧ RT w' (.slice a (o.getD []).length cap) (o.getD [])
  | none, h => ⟨none, 0, h, none, 0, rfl, .inl rfl⟩
  | some _, h => h
theorem fnd_wts (tag qual : List UInt8) (l : List Tr) : wts (oK (fndL tag qual l)) ≤ wts l := by
  rw [← fls_find tag qual _ l (Nat.le_refl _)]
  cases h : (flsL l).find? (fun a => a.itm.tag == tag && a.itm.qual == qual) with
  | none => simp [oK, wts]
  | some x => exact fls_wts _ l (Nat.le_refl _) x (List.mem_of_find?_eq_some h)
theorem blk_wts (nm : List UInt8) : ∀ l : List Tr, wts ((blkL nm l).getD []) ≤ wts l
  | [] => by simp [blkL, wts]
  | a :: r => by
    have h1 := blk_wts nm r
    have h2 := wts_cons a r
    have h3 := wt_eq a
    rw [blkL]
    split
    · show wts a.kids ≤ _; omega
    · omega
theorem AP_kept {w w' : World} {S S' : Nat → Prop} (hb : Below w.heap.size w w') (hS : ∀ g, S g → g < w.heap.size → S' g) {l : List Tr} {v : Value} (h : AP w S v l) : AP w' S' v l := by
  obtain ⟨o, h2, h3, h4⟩ := h
  exact ⟨o, LT_kept _ l v o (Nat.le_refl _) h2 (fun u hu g hg => hb.block g ((h4 u hu).lt hg).2), h3, fun u hu => (h4 u hu).kept (fun g _ hg => hb.block g hg) hS⟩
theorem wts_len3 : ∀ (l : List Tr), l.length ≤ wts l
  | [] => by simp [wts]
  | a :: r => by
    have := wts_len3 r
    have := wt_eq a
    rw [wts_cons, List.length_cons]; omega
theorem LR_b3 {w : World} {g : Nat} : ∀ (l : List Tr) (off : Nat) (os : List Value), (∀ x ∈ l, ∀ (u : Value) (o : List Value), LT w u x.kids o → o.length ≤ wts x.kids + 1 ∧ ∀ a n c, Value.slice a n c ∈ o → n ≤ wts x.kids) → LR w l g off os → os.length ≤ wts l ∧ ∀ a n c, Value.slice a n c ∈ os → n ≤ wts l
  | [], _, os, _, h => by rw [LR_nil.1 h]; simp
  | x :: r, off, os, hx, h => by
    obtain ⟨o1, o2, e, h1, h2⟩ := LR_cons.1 h
    obtain ⟨u, _, hu2⟩ := LI_iff.1 h1
    obtain ⟨a1, a2⟩ := hx x (List.mem_cons_self ..) u o1 hu2
    obtain ⟨b1, b2⟩ := LR_b3 r (off + 5) o2 (fun y hy => hx y (List.mem_cons_of_mem _ hy)) h2
    have hw := wt_eq x
    rw [wts_cons]
    subst e
    refine ⟨by rw [List.length_append]; omega, fun a n c hm => ?_⟩
    rcases List.mem_append.1 hm with hm | hm
    · have := a2 a n c hm; omega
    · have := b2 a n c hm; omega
theorem LT_b3 {w : World} : ∀ (d : Nat) (l : List Tr) (v : Value) (o : List Value), wts l ≤ d → LT w v l o → o.length ≤ wts l + 1 ∧ ∀ a n c, Value.slice a n c ∈ o → n ≤ wts l := by
  intro d
  induction d using Nat.strongRecOn with
  | ind d ih =>
    intro l v o hd h
    obtain ⟨a, cap, os, rfl, rfl, h3⟩ := h
    have hl := wts_len3 l
    have hb : os.length ≤ wts l ∧ ∀ a n c, Value.slice a n c ∈ os → n ≤ wts l := by
      rcases h3 with ⟨rfl, rfl⟩ | ⟨g, _, h3⟩
      · simp
      · exact LR_b3 l 0 os (fun x hx u o' hu => ih (wts x.kids) (by have := wts_mem hx; omega) x.kids u o' (Nat.le_refl _) hu) h3
    refine ⟨by rw [List.length_cons]; have := hb.1; omega, fun a' n c hm => ?_⟩
    rcases List.mem_cons.1 hm with e | hm
    · cases e; exact hl
    · exact hb.2 a' n c hm
/-- Five messages, each in memory of its own, made one behind the other. -/
theorem apart_five {B x1 a0 a1 b0 b1 c0 c1 d0 d1 : Nat} {la lb lx : List Tr} {va vb vc vd vx : Value} {W : World} (h1 : B ≤ x1) (h2 : x1 ≤ a0) (h3 : a0 ≤ a1) (h4 : a1 ≤ b0) (h5 : b0 ≤ b1) (h6 : b1 ≤ c0) (h7 : c0 ≤ c1) (h8 : c1 ≤ d0) (h9 : d0 ≤ d1) (h10 : d1 ≤ W.heap.size) (ka : wts la ≤ 1048576) (kb : wts lb ≤ 1048576) (kx : wts lx ≤ 1048576)
    (ha : AP W (fun x => a0 ≤ x ∧ x < a1) va la) (hb : AP W (fun x => b0 ≤ x ∧ x < b1) vb lb) (hc : AP W (fun x => c0 ≤ x ∧ x < c1) vc lb) (hd : AP W (fun x => d0 ≤ x ∧ x < d1) vd la) (hx : AP W (fun x => B ≤ x ∧ x < x1) vx lx) :
    Calls Tryz.prog 28 #[.slice (some ⟨W.heap.size, 0, none⟩) 5 5] (W.alloc (.cells #[vb, vc, va, vd, vx] 23)) fun e w' => e = .returned (.bool true) ∧ Below B W w' := by
  have BW := (Below.refl W.heap.size W).alloc (Nat.le_refl _) (.cells #[vb, vc, va, vd, vx] 23)
  have na := LT_b3 _ la va _ (Nat.le_refl _) ha.choose_spec.1
  have ha := AP_kept BW (S' := fun x => (a0 ≤ x ∧ x < a1) ∧ x < W.heap.size) (fun g hg h => ⟨hg, h⟩) ha
  have hb := AP_kept BW (S' := fun x => (b0 ≤ x ∧ x < b1) ∧ x < W.heap.size) (fun g hg h => ⟨hg, h⟩) hb
  have hc := AP_kept BW (S' := fun x => (c0 ≤ x ∧ x < c1) ∧ x < W.heap.size) (fun g hg h => ⟨hg, h⟩) hc
  have hd := AP_kept BW (S' := fun x => (d0 ≤ x ∧ x < d1) ∧ x < W.heap.size) (fun g hg h => ⟨hg, h⟩) hd
  have hx := AP_kept BW (S' := fun x => (B ≤ x ∧ x < x1) ∧ x < W.heap.size) (fun g hg h => ⟨hg, h⟩) hx
  clear na
  obtain ⟨oa, p1, p2, p3⟩ := ha
  obtain ⟨ob, q1, q2, q3⟩ := hb
  obtain ⟨oc, r1, r2, r3⟩ := hc
  obtain ⟨od, s1, s2, s3⟩ := hd
  obtain ⟨ox, t1, t2, t3⟩ := hx
  have na := LT_b3 _ la va oa (Nat.le_refl _) p1
  have nb := LT_b3 _ lb vb ob (Nat.le_refl _) q1
  have nc := LT_b3 _ lb vc oc (Nat.le_refl _) r1
  have ne := LT_b3 _ la vd od (Nat.le_refl _) s1
  have nx := LT_b3 _ lx vx ox (Nat.le_refl _) t1
  have hO : msO [(vb, lb, ob), (vc, lb, oc), (va, la, oa), (vd, la, od), (vx, lx, ox)] = ob ++ (oc ++ (oa ++ (od ++ ox))) := by simp [msO]
  have hp1 : 0 < ob.length := by obtain ⟨_, _, _, _, rfl, _⟩ := q1; simp
  refine (apartItems_any B W.heap.size 5 5 [(vb, lb, ob), (vc, lb, oc), (va, la, oa), (vd, la, od), (vx, lx, ox)] (W.alloc (.cells #[vb, vc, va, vd, vx] 23)) rfl (by omega) (by simp) (by omega) (Nat.le_refl _) ?_ ?_ ?_ ?_ ?_ ?_).mono ?_
  · intro k x hk
    match k, hk with
    | 0, hk => simp at hk; subst hk; exact ⟨by simp, q1⟩
    | 1, hk => simp at hk; subst hk; exact ⟨by simp, r1⟩
    | 2, hk => simp at hk; subst hk; exact ⟨by simp, p1⟩
    | 3, hk => simp at hk; subst hk; exact ⟨by simp, s1⟩
    | 4, hk => simp at hk; subst hk; exact ⟨by simp, t1⟩
  · rw [hO]
    intro u hu
    rcases List.mem_append.1 hu with hu | hu
    · exact (q3 u hu).kept (fun _ _ _ => rfl) (fun g hg _ => ⟨by omega, hg.2⟩)
    rcases List.mem_append.1 hu with hu | hu
    · exact (r3 u hu).kept (fun _ _ _ => rfl) (fun g hg _ => ⟨by omega, hg.2⟩)
    rcases List.mem_append.1 hu with hu | hu
    · exact (p3 u hu).kept (fun _ _ _ => rfl) (fun g hg _ => ⟨by omega, hg.2⟩)
    rcases List.mem_append.1 hu with hu | hu
    · exact (s3 u hu).kept (fun _ _ _ => rfl) (fun g hg _ => ⟨by omega, hg.2⟩)
    · exact (t3 u hu).kept (fun _ _ _ => rfl) (fun g hg _ => ⟨by omega, hg.2⟩)
  · rw [hO]
    have dis : ∀ {S S' : Nat → Prop} {x y : List Value}, (∀ u ∈ x, OW (W.alloc (.cells #[vb, vc, va, vd, vx] 23)) S u) → (∀ u ∈ y, OW (W.alloc (.cells #[vb, vc, va, vd, vx] 23)) S' u) → (∀ g, S g → S' g → False) → ∀ u ∈ x, ∀ z ∈ y, ∀ g, u.ownBlock = some g → z.ownBlock ≠ some g := fun h1 h2 h3 u hu z hz g e1 e2 => h3 g ((h1 u hu).lt e1).1 ((h2 z hz).lt e2).1
    have more : ∀ {x y z : List Value}, (∀ u ∈ x, ∀ v ∈ y, ∀ g, u.ownBlock = some g → v.ownBlock ≠ some g) → (∀ u ∈ x, ∀ v ∈ z, ∀ g, u.ownBlock = some g → v.ownBlock ≠ some g) → ∀ u ∈ x, ∀ v ∈ y ++ z, ∀ g, u.ownBlock = some g → v.ownBlock ≠ some g := fun h1 h2 u hu v hv => by
      rcases List.mem_append.1 hv with hv | hv
      · exact h1 u hu v hv
      · exact h2 u hu v hv
    refine nd_append q2 (nd_append r2 (nd_append p2 (nd_append s2 t2 (dis s3 t3 (by intro g; omega))) (more (dis p3 s3 (by intro g; omega)) (dis p3 t3 (by intro g; omega)))) (more (dis r3 p3 (by intro g; omega)) (more (dis r3 s3 (by intro g; omega)) (dis r3 t3 (by intro g; omega))))) (more (dis q3 r3 (by intro g; omega)) (more (dis q3 p3 (by intro g; omega)) (more (dis q3 s3 (by intro g; omega)) (dis q3 t3 (by intro g; omega)))))
  · rw [hO]; simp only [List.length_append]; have := na.1; have := nb.1; have := nc.1; have := ne.1; have := nx.1; omega
  · rw [hO]; simp only [List.length_append]; omega
  · rw [hO]
    intro a n c hm
    rcases List.mem_append.1 hm with hm | hm
    · have := nb.2 a n c hm; omega
    rcases List.mem_append.1 hm with hm | hm
    · have := nc.2 a n c hm; omega
    rcases List.mem_append.1 hm with hm | hm
    · have := na.2 a n c hm; omega
    rcases List.mem_append.1 hm with hm | hm
    · have := ne.2 a n c hm; omega
    · have := nx.2 a n c hm; omega
  · rintro e w' ⟨rfl, hb'⟩
    exact ⟨rfl, (BW.mono (by omega)).trans hb'⟩
theorem eqI_same (i : Itm) : eqI i i = true := by simp [eqI]
theorem BkX {w W : World} {g : Nat} {cs : Array Value} {t : TypeId} (h : Bk w g cs t) (hb : Below w.heap.size w W) (j : Nat) (u : Value) (hj : cs.toList[j]? = some u) : W.cell? ⟨g, j, none⟩ = some u := by
  have := (h.later hb).cell j
  rw [this]; simpa using hj
set_option maxRecDepth 100000 in
set_option maxHeartbeats 8000000 in
theorem finds_law (l : List Tr) (v : Value) (tag qual name : List UInt8) (w : World) (hD : wts l ≤ 1048576) (hv : RT w v l) (hm : ML w) :
    Calls Tryz.prog 17 #[v, .string ⟨tag.toArray⟩, .string ⟨qual.toArray⟩, .string ⟨name.toArray⟩] w fun e w' => e = .returned (.bool true) ∧ Below w.heap.size w w' := by
  have HF := hide (few_any l v w (by omega) hv)
  have HV := hide hv
  have HML := hide hm
  have HLW := hide hD
  have HDF := hide (fun (W : World) (h : RT W v l) => (dFind_any tag qual l v W (by omega) h).mono (fun _ _ h => And.intro (FD_uni h.1) h.2))
  have HTF := hide (fun (g c : Nat) (W : World) (h : RT W (.slice (some ⟨g, 0, none⟩) l.length c) l) => (find_any tag qual _ l _ W (Nat.le_refl _) (by omega) h).mono (fun _ _ h => And.intro (FO_uni h.1) h.2))
  have HDB := hide (fun (W : World) (h : RT W v l) => (dBlock_any name l v W (by omega) h).mono (fun _ _ h => And.intro (BD_uni h.1) h.2))
  have HTB := hide (fun (g c : Nat) (W : World) (h : RT W (.slice (some ⟨g, 0, none⟩) l.length c) l) => (tBlock_any name l _ W (by omega) h).mono (fun _ _ h => And.intro (BO_uni h.1) h.2))
  have HTC := hide (fun (g c : Nat) (W : World) (h : RT W (.slice (some ⟨g, 0, none⟩) l.length c) l) => count_any _ l _ W (Nat.le_refl _) (by omega) h)
  have HDC := hide (fun (W : World) (h : RT W v l) => dCount_any l v W (by omega) h)
  have HKD : Hid (wts (oK (fndL tag qual l)) ≤ 1048576) := hide (by have := fnd_wts tag qual l; omega)
  have HMB : Hid (wts ((blkL name l).getD []) ≤ 1048576) := hide (by have := blk_wts name l; omega)
  generalize oI (fndL tag qual l) = it at *
  generalize oK (fndL tag qual l) = kd at *
  generalize (fndL tag qual l).isSome = ok at *
  generalize (blkL name l).getD [] = mb at *
  generalize (blkL name l).isSome = okb at *
  generalize cntL l = cn at *
  have HSI := hide (fun (a1 : Option Addr) (c1 : Nat) (a2 : Option Addr) (c2 : Nat) (W : World) (h1 : RT W (.slice a1 kd.length c1) kd) (h2 : RT W (.slice a2 kd.length c2) kd) => sameItem_any it it (.slice a1 kd.length c1) (.slice a2 kd.length c2) true W (fun W' hW' => by
    have h := sameItems_all _ kd kd _ _ W' (Nat.le_refl _) (by have := HKD.out; omega) (RT_later h1 hW') (RT_later h2 hW')
    rw [eqL_refl] at h; exact h))
  have HSB := hide (fun (v1 v2 : Value) (W : World) (h1 : RT W v1 mb) (h2 : RT W v2 mb) => sameItems_all _ mb mb v1 v2 W (Nat.le_refl _) (by have := HMB.out; omega) h1 h2)
  rw [eqI_same] at HSI
  rw [eqL_refl] at HSB
  unfold iC at HDF HTF HSI
  clear hv hm
  go_enter Tryz.func17, Tryz.ntmps17
  go_wp2_with fail
  refine HF.out.mono ?_
  rintro e w0 ⟨⟨b, rfl⟩, q, rfl⟩
  have B0 := hide (below_dN (Below.refl w.heap.size w) q)
  clear HF
  cases b
  · go_wp2_with fail
    go_ret
    exact ⟨rfl, B0.out⟩
  · generalize w.drewN q = w0 at *
    have HL := hide (lentItems_anyA l v w0 (by omega) (RT_later HV.out B0.out))
    go_wp2_with fail
    refine HL.out.mono ?_
    rintro e w1 ⟨g, c, rfl, ⟨hfu, hap⟩, hb⟩
    have XF := hide hfu
    have XA := hide hap
    have XR := hide (FU_rt _ l g c (Nat.le_refl _) hfu)
    have S1 : Hid (w0.heap.size ≤ w1.heap.size) := hide hb.size
    have B1 := hide (B0.out.trans (hb.mono B0.out.size))
    clear hb hfu hap HL
    have T_w1 := hide (Below.refl w1.heap.size w1)
    go_wp2_with fail
    refine (HDF.out _ (RT_later HV.out B1.out)).mono ?_
    rintro e w2 ⟨⟨pa, pc, rfl, hr⟩, hb⟩
    have T_w1 := hide (T_w1.out.trans (hb.mono T_w1.out.size))
    have B1 := hide (B1.out.trans (hb.mono B1.out.size))
    have WR := hide hr
    have S2 : Hid (w1.heap.size ≤ w2.heap.size) := hide hb.size
    clear hb hr
    have T_w2 := hide (Below.refl w2.heap.size w2)
    have BW : Hid (Bk (w2.alloc (.cells #[.string ⟨it.tag.toArray⟩, .string ⟨it.qual.toArray⟩, .string ⟨it.text.toArray⟩, .string ⟨it.name.toArray⟩, .slice pa kd.length pc] 25)) w2.heap.size #[.string ⟨it.tag.toArray⟩, .string ⟨it.qual.toArray⟩, .string ⟨it.text.toArray⟩, .string ⟨it.name.toArray⟩, .slice pa kd.length pc] 25) := hide (alloc_new w2 _)
    have hb := (Below.refl w2.heap.size w2).alloc (Nat.le_refl _) (.cells #[.string ⟨it.tag.toArray⟩, .string ⟨it.qual.toArray⟩, .string ⟨it.text.toArray⟩, .string ⟨it.name.toArray⟩, .slice pa kd.length pc] 25)
    obtain ⟨w3, hw3⟩ : ∃ x, w2.alloc (.cells #[.string ⟨it.tag.toArray⟩, .string ⟨it.qual.toArray⟩, .string ⟨it.text.toArray⟩, .string ⟨it.name.toArray⟩, .slice pa kd.length pc] 25) = x := ⟨_, rfl⟩
    rw [hw3] at BW hb
    have T_w1 := hide (T_w1.out.trans (hb.mono T_w1.out.size))
    have T_w2 := hide (T_w2.out.trans (hb.mono T_w2.out.size))
    have B1 := hide (B1.out.trans (hb.mono B1.out.size))
    have Zw3 : Hid (w2.heap.size ≤ w3.heap.size) := hide hb.size
    clear hb
    have T_w3 := hide (Below.refl w3.heap.size w3)
    go_wp2_with fail
    refine (HTF.out g c _ (RT_later XR.out T_w1.out)).mono ?_
    rintro e w4 ⟨⟨qa, qc, rfl, hr⟩, hb⟩
    have T_w1 := hide (T_w1.out.trans (hb.mono T_w1.out.size))
    have T_w2 := hide (T_w2.out.trans (hb.mono T_w2.out.size))
    have T_w3 := hide (T_w3.out.trans (hb.mono T_w3.out.size))
    have B1 := hide (B1.out.trans (hb.mono B1.out.size))
    have AR := hide hr
    have S4 : Hid (w3.heap.size ≤ w4.heap.size) := hide hb.size
    clear hb hr
    have T_w4 := hide (Below.refl w4.heap.size w4)
    have BA : Hid (Bk (w4.alloc (.cells #[.string ⟨it.tag.toArray⟩, .string ⟨it.qual.toArray⟩, .string ⟨it.text.toArray⟩, .string ⟨it.name.toArray⟩, .slice qa kd.length qc] 25)) w4.heap.size #[.string ⟨it.tag.toArray⟩, .string ⟨it.qual.toArray⟩, .string ⟨it.text.toArray⟩, .string ⟨it.name.toArray⟩, .slice qa kd.length qc] 25) := hide (alloc_new w4 _)
    have hb := (Below.refl w4.heap.size w4).alloc (Nat.le_refl _) (.cells #[.string ⟨it.tag.toArray⟩, .string ⟨it.qual.toArray⟩, .string ⟨it.text.toArray⟩, .string ⟨it.name.toArray⟩, .slice qa kd.length qc] 25)
    obtain ⟨w5, hw5⟩ : ∃ x, w4.alloc (.cells #[.string ⟨it.tag.toArray⟩, .string ⟨it.qual.toArray⟩, .string ⟨it.text.toArray⟩, .string ⟨it.name.toArray⟩, .slice qa kd.length qc] 25) = x := ⟨_, rfl⟩
    rw [hw5] at BA hb
    have T_w1 := hide (T_w1.out.trans (hb.mono T_w1.out.size))
    have T_w2 := hide (T_w2.out.trans (hb.mono T_w2.out.size))
    have T_w3 := hide (T_w3.out.trans (hb.mono T_w3.out.size))
    have T_w4 := hide (T_w4.out.trans (hb.mono T_w4.out.size))
    have B1 := hide (B1.out.trans (hb.mono B1.out.size))
    have Zw5 : Hid (w4.heap.size ≤ w5.heap.size) := hide hb.size
    clear hb
    have T_w5 := hide (Below.refl w5.heap.size w5)
    go_wp2_with fail
    refine (HDB.out _ (RT_later HV.out B1.out)).mono ?_
    rintro e w6 ⟨⟨ra, rc, rfl, hr⟩, hb⟩
    have T_w1 := hide (T_w1.out.trans (hb.mono T_w1.out.size))
    have T_w2 := hide (T_w2.out.trans (hb.mono T_w2.out.size))
    have T_w3 := hide (T_w3.out.trans (hb.mono T_w3.out.size))
    have T_w4 := hide (T_w4.out.trans (hb.mono T_w4.out.size))
    have T_w5 := hide (T_w5.out.trans (hb.mono T_w5.out.size))
    have B1 := hide (B1.out.trans (hb.mono B1.out.size))
    have NR := hide hr
    have S6 : Hid (w5.heap.size ≤ w6.heap.size) := hide hb.size
    clear hb hr
    have T_w6 := hide (Below.refl w6.heap.size w6)
    go_wp2_with fail
    refine (HTB.out g c _ (RT_later XR.out T_w1.out)).mono ?_
    rintro e w7 ⟨⟨sa, sc, rfl, hr⟩, hb⟩
    have T_w1 := hide (T_w1.out.trans (hb.mono T_w1.out.size))
    have T_w2 := hide (T_w2.out.trans (hb.mono T_w2.out.size))
    have T_w3 := hide (T_w3.out.trans (hb.mono T_w3.out.size))
    have T_w4 := hide (T_w4.out.trans (hb.mono T_w4.out.size))
    have T_w5 := hide (T_w5.out.trans (hb.mono T_w5.out.size))
    have T_w6 := hide (T_w6.out.trans (hb.mono T_w6.out.size))
    have B1 := hide (B1.out.trans (hb.mono B1.out.size))
    have BR := hide hr
    have S7 : Hid (w6.heap.size ≤ w7.heap.size) := hide hb.size
    clear hb hr
    have T_w7 := hide (Below.refl w7.heap.size w7)
    go_wp2_with fail
    refine (HTB.out g c _ (RT_later XR.out T_w1.out)).mono ?_
    rintro e w8 ⟨⟨ta, tc, rfl, hr⟩, hb⟩
    have T_w1 := hide (T_w1.out.trans (hb.mono T_w1.out.size))
    have T_w2 := hide (T_w2.out.trans (hb.mono T_w2.out.size))
    have T_w3 := hide (T_w3.out.trans (hb.mono T_w3.out.size))
    have T_w4 := hide (T_w4.out.trans (hb.mono T_w4.out.size))
    have T_w5 := hide (T_w5.out.trans (hb.mono T_w5.out.size))
    have T_w6 := hide (T_w6.out.trans (hb.mono T_w6.out.size))
    have T_w7 := hide (T_w7.out.trans (hb.mono T_w7.out.size))
    have B1 := hide (B1.out.trans (hb.mono B1.out.size))
    have CR := hide hr
    have S8 : Hid (w7.heap.size ≤ w8.heap.size) := hide hb.size
    clear hb hr
    have T_w8 := hide (Below.refl w8.heap.size w8)
    go_wp2_with fail
    refine (HTF.out g c _ (RT_later XR.out T_w1.out)).mono ?_
    rintro e w9 ⟨⟨ya, yc, rfl, hr⟩, hb⟩
    have T_w1 := hide (T_w1.out.trans (hb.mono T_w1.out.size))
    have T_w2 := hide (T_w2.out.trans (hb.mono T_w2.out.size))
    have T_w3 := hide (T_w3.out.trans (hb.mono T_w3.out.size))
    have T_w4 := hide (T_w4.out.trans (hb.mono T_w4.out.size))
    have T_w5 := hide (T_w5.out.trans (hb.mono T_w5.out.size))
    have T_w6 := hide (T_w6.out.trans (hb.mono T_w6.out.size))
    have T_w7 := hide (T_w7.out.trans (hb.mono T_w7.out.size))
    have T_w8 := hide (T_w8.out.trans (hb.mono T_w8.out.size))
    have B1 := hide (B1.out.trans (hb.mono B1.out.size))
    have DR := hide hr
    have S9 : Hid (w8.heap.size ≤ w9.heap.size) := hide hb.size
    clear hb hr
    have T_w9 := hide (Below.refl w9.heap.size w9)
    have BD : Hid (Bk (w9.alloc (.cells #[.string ⟨it.tag.toArray⟩, .string ⟨it.qual.toArray⟩, .string ⟨it.text.toArray⟩, .string ⟨it.name.toArray⟩, .slice ya kd.length yc] 25)) w9.heap.size #[.string ⟨it.tag.toArray⟩, .string ⟨it.qual.toArray⟩, .string ⟨it.text.toArray⟩, .string ⟨it.name.toArray⟩, .slice ya kd.length yc] 25) := hide (alloc_new w9 _)
    have hb := (Below.refl w9.heap.size w9).alloc (Nat.le_refl _) (.cells #[.string ⟨it.tag.toArray⟩, .string ⟨it.qual.toArray⟩, .string ⟨it.text.toArray⟩, .string ⟨it.name.toArray⟩, .slice ya kd.length yc] 25)
    obtain ⟨w10, hw10⟩ : ∃ x, w9.alloc (.cells #[.string ⟨it.tag.toArray⟩, .string ⟨it.qual.toArray⟩, .string ⟨it.text.toArray⟩, .string ⟨it.name.toArray⟩, .slice ya kd.length yc] 25) = x := ⟨_, rfl⟩
    rw [hw10] at BD hb
    have T_w1 := hide (T_w1.out.trans (hb.mono T_w1.out.size))
    have T_w2 := hide (T_w2.out.trans (hb.mono T_w2.out.size))
    have T_w3 := hide (T_w3.out.trans (hb.mono T_w3.out.size))
    have T_w4 := hide (T_w4.out.trans (hb.mono T_w4.out.size))
    have T_w5 := hide (T_w5.out.trans (hb.mono T_w5.out.size))
    have T_w6 := hide (T_w6.out.trans (hb.mono T_w6.out.size))
    have T_w7 := hide (T_w7.out.trans (hb.mono T_w7.out.size))
    have T_w8 := hide (T_w8.out.trans (hb.mono T_w8.out.size))
    have T_w9 := hide (T_w9.out.trans (hb.mono T_w9.out.size))
    have B1 := hide (B1.out.trans (hb.mono B1.out.size))
    have Zw10 : Hid (w9.heap.size ≤ w10.heap.size) := hide hb.size
    clear hb
    have T_w10 := hide (Below.refl w10.heap.size w10)
    have hoo : (ok != ok) = false := by cases ok <;> rfl
    have hbb : (okb != okb) = false := by cases okb <;> rfl
    have RW : Hid (w10.rangeAt w2.heap.size 0 [.string ⟨it.tag.toArray⟩, .string ⟨it.qual.toArray⟩, .string ⟨it.text.toArray⟩, .string ⟨it.name.toArray⟩, .slice pa kd.length pc]) := hide (fun j u hj => by rw [Nat.zero_add]; exact (BkX (BW.out) T_w3.out j u hj))
    have RA : Hid (w10.rangeAt w4.heap.size 0 [.string ⟨it.tag.toArray⟩, .string ⟨it.qual.toArray⟩, .string ⟨it.text.toArray⟩, .string ⟨it.name.toArray⟩, .slice qa kd.length qc]) := hide (fun j u hj => by rw [Nat.zero_add]; exact (BkX (BA.out) T_w5.out j u hj))
    have RD : Hid (w10.rangeAt w9.heap.size 0 [.string ⟨it.tag.toArray⟩, .string ⟨it.qual.toArray⟩, .string ⟨it.text.toArray⟩, .string ⟨it.name.toArray⟩, .slice ya kd.length yc]) := hide (fun j u hj => by rw [Nat.zero_add]; exact (BkX (BD.out) T_w10.out j u hj))
    go_wp2_with (first
        | (refine BigFrame.wpList_want (by rfl) ?_; intro K hK; refine wp_load_mid 25 _ rfl w4.heap.size 0 rfl [.string ⟨it.tag.toArray⟩, .string ⟨it.qual.toArray⟩, .string ⟨it.text.toArray⟩, .string ⟨it.name.toArray⟩, .slice qa kd.length qc] _ RA.out Tryz.underlying25 rfl Tryz.sizeItm ?_; refine hK _ _ ?_)
        | (refine BigFrame.wpList_want (by rfl) ?_; intro K hK; refine wp_load_mid 25 _ rfl w2.heap.size 0 rfl [.string ⟨it.tag.toArray⟩, .string ⟨it.qual.toArray⟩, .string ⟨it.text.toArray⟩, .string ⟨it.name.toArray⟩, .slice pa kd.length pc] _ RW.out Tryz.underlying25 rfl Tryz.sizeItm ?_; refine hK _ _ ?_)
        | (refine BigFrame.wpList_want (by rfl) ?_; intro K hK; refine wp_load_mid 25 _ rfl w9.heap.size 0 rfl [.string ⟨it.tag.toArray⟩, .string ⟨it.qual.toArray⟩, .string ⟨it.text.toArray⟩, .string ⟨it.name.toArray⟩, .slice ya kd.length yc] _ RD.out Tryz.underlying25 rfl Tryz.sizeItm ?_; refine hK _ _ ?_))
    refine (HSI.out qa qc pa pc _ (RT_later (PT_rt _ _ _ (Nat.le_refl _) AR.out.1) T_w4.out) (RT_later WR.out T_w2.out)).mono ?_
    rintro e w11 ⟨rfl, hb⟩
    have T_w1 := hide (T_w1.out.trans (hb.mono T_w1.out.size))
    have T_w2 := hide (T_w2.out.trans (hb.mono T_w2.out.size))
    have T_w3 := hide (T_w3.out.trans (hb.mono T_w3.out.size))
    have T_w4 := hide (T_w4.out.trans (hb.mono T_w4.out.size))
    have T_w5 := hide (T_w5.out.trans (hb.mono T_w5.out.size))
    have T_w6 := hide (T_w6.out.trans (hb.mono T_w6.out.size))
    have T_w7 := hide (T_w7.out.trans (hb.mono T_w7.out.size))
    have T_w8 := hide (T_w8.out.trans (hb.mono T_w8.out.size))
    have T_w9 := hide (T_w9.out.trans (hb.mono T_w9.out.size))
    have T_w10 := hide (T_w10.out.trans (hb.mono T_w10.out.size))
    have B1 := hide (B1.out.trans (hb.mono B1.out.size))
    clear hb
    clear RA RW RD
    have RW : Hid (w11.rangeAt w2.heap.size 0 [.string ⟨it.tag.toArray⟩, .string ⟨it.qual.toArray⟩, .string ⟨it.text.toArray⟩, .string ⟨it.name.toArray⟩, .slice pa kd.length pc]) := hide (fun j u hj => by rw [Nat.zero_add]; exact (BkX (BW.out) T_w3.out j u hj))
    have RA : Hid (w11.rangeAt w4.heap.size 0 [.string ⟨it.tag.toArray⟩, .string ⟨it.qual.toArray⟩, .string ⟨it.text.toArray⟩, .string ⟨it.name.toArray⟩, .slice qa kd.length qc]) := hide (fun j u hj => by rw [Nat.zero_add]; exact (BkX (BA.out) T_w5.out j u hj))
    have RD : Hid (w11.rangeAt w9.heap.size 0 [.string ⟨it.tag.toArray⟩, .string ⟨it.qual.toArray⟩, .string ⟨it.text.toArray⟩, .string ⟨it.name.toArray⟩, .slice ya kd.length yc]) := hide (fun j u hj => by rw [Nat.zero_add]; exact (BkX (BD.out) T_w10.out j u hj))
    go_wp2_with (first
        | (refine BigFrame.wpList_want (by rfl) ?_; intro K hK; refine wp_load_mid 25 _ rfl w4.heap.size 0 rfl [.string ⟨it.tag.toArray⟩, .string ⟨it.qual.toArray⟩, .string ⟨it.text.toArray⟩, .string ⟨it.name.toArray⟩, .slice qa kd.length qc] _ RA.out Tryz.underlying25 rfl Tryz.sizeItm ?_; refine hK _ _ ?_)
        | (refine BigFrame.wpList_want (by rfl) ?_; intro K hK; refine wp_load_mid 25 _ rfl w2.heap.size 0 rfl [.string ⟨it.tag.toArray⟩, .string ⟨it.qual.toArray⟩, .string ⟨it.text.toArray⟩, .string ⟨it.name.toArray⟩, .slice pa kd.length pc] _ RW.out Tryz.underlying25 rfl Tryz.sizeItm ?_; refine hK _ _ ?_)
        | (refine BigFrame.wpList_want (by rfl) ?_; intro K hK; refine wp_load_mid 25 _ rfl w9.heap.size 0 rfl [.string ⟨it.tag.toArray⟩, .string ⟨it.qual.toArray⟩, .string ⟨it.text.toArray⟩, .string ⟨it.name.toArray⟩, .slice ya kd.length yc] _ RD.out Tryz.underlying25 rfl Tryz.sizeItm ?_; refine hK _ _ ?_))
    refine (HSI.out ya yc pa pc _ (RT_later (PT_rt _ _ _ (Nat.le_refl _) DR.out.1) T_w9.out) (RT_later WR.out T_w2.out)).mono ?_
    rintro e w12 ⟨rfl, hb⟩
    have T_w1 := hide (T_w1.out.trans (hb.mono T_w1.out.size))
    have T_w2 := hide (T_w2.out.trans (hb.mono T_w2.out.size))
    have T_w3 := hide (T_w3.out.trans (hb.mono T_w3.out.size))
    have T_w4 := hide (T_w4.out.trans (hb.mono T_w4.out.size))
    have T_w5 := hide (T_w5.out.trans (hb.mono T_w5.out.size))
    have T_w6 := hide (T_w6.out.trans (hb.mono T_w6.out.size))
    have T_w7 := hide (T_w7.out.trans (hb.mono T_w7.out.size))
    have T_w8 := hide (T_w8.out.trans (hb.mono T_w8.out.size))
    have T_w9 := hide (T_w9.out.trans (hb.mono T_w9.out.size))
    have T_w10 := hide (T_w10.out.trans (hb.mono T_w10.out.size))
    have B1 := hide (B1.out.trans (hb.mono B1.out.size))
    clear hb
    go_wp2_with (first
        | (refine BigFrame.wpList_want (by rfl) ?_; intro K hK; refine wp_load_mid 25 _ rfl w4.heap.size 0 rfl [.string ⟨it.tag.toArray⟩, .string ⟨it.qual.toArray⟩, .string ⟨it.text.toArray⟩, .string ⟨it.name.toArray⟩, .slice qa kd.length qc] _ RA.out Tryz.underlying25 rfl Tryz.sizeItm ?_; refine hK _ _ ?_)
        | (refine BigFrame.wpList_want (by rfl) ?_; intro K hK; refine wp_load_mid 25 _ rfl w2.heap.size 0 rfl [.string ⟨it.tag.toArray⟩, .string ⟨it.qual.toArray⟩, .string ⟨it.text.toArray⟩, .string ⟨it.name.toArray⟩, .slice pa kd.length pc] _ RW.out Tryz.underlying25 rfl Tryz.sizeItm ?_; refine hK _ _ ?_)
        | (refine BigFrame.wpList_want (by rfl) ?_; intro K hK; refine wp_load_mid 25 _ rfl w9.heap.size 0 rfl [.string ⟨it.tag.toArray⟩, .string ⟨it.qual.toArray⟩, .string ⟨it.text.toArray⟩, .string ⟨it.name.toArray⟩, .slice ya kd.length yc] _ RD.out Tryz.underlying25 rfl Tryz.sizeItm ?_; refine hK _ _ ?_))
    refine (HSB.out _ _ _ (RT_later (PT_rt _ _ _ (Nat.le_refl _) BR.out.1) T_w7.out) (RT_later NR.out T_w6.out)).mono ?_
    rintro e w13 ⟨rfl, hb⟩
    have T_w1 := hide (T_w1.out.trans (hb.mono T_w1.out.size))
    have T_w2 := hide (T_w2.out.trans (hb.mono T_w2.out.size))
    have T_w3 := hide (T_w3.out.trans (hb.mono T_w3.out.size))
    have T_w4 := hide (T_w4.out.trans (hb.mono T_w4.out.size))
    have T_w5 := hide (T_w5.out.trans (hb.mono T_w5.out.size))
    have T_w6 := hide (T_w6.out.trans (hb.mono T_w6.out.size))
    have T_w7 := hide (T_w7.out.trans (hb.mono T_w7.out.size))
    have T_w8 := hide (T_w8.out.trans (hb.mono T_w8.out.size))
    have T_w9 := hide (T_w9.out.trans (hb.mono T_w9.out.size))
    have T_w10 := hide (T_w10.out.trans (hb.mono T_w10.out.size))
    have B1 := hide (B1.out.trans (hb.mono B1.out.size))
    clear hb
    go_wp2_with (first
        | (refine BigFrame.wpList_want (by rfl) ?_; intro K hK; refine wp_load_mid 25 _ rfl w4.heap.size 0 rfl [.string ⟨it.tag.toArray⟩, .string ⟨it.qual.toArray⟩, .string ⟨it.text.toArray⟩, .string ⟨it.name.toArray⟩, .slice qa kd.length qc] _ RA.out Tryz.underlying25 rfl Tryz.sizeItm ?_; refine hK _ _ ?_)
        | (refine BigFrame.wpList_want (by rfl) ?_; intro K hK; refine wp_load_mid 25 _ rfl w2.heap.size 0 rfl [.string ⟨it.tag.toArray⟩, .string ⟨it.qual.toArray⟩, .string ⟨it.text.toArray⟩, .string ⟨it.name.toArray⟩, .slice pa kd.length pc] _ RW.out Tryz.underlying25 rfl Tryz.sizeItm ?_; refine hK _ _ ?_)
        | (refine BigFrame.wpList_want (by rfl) ?_; intro K hK; refine wp_load_mid 25 _ rfl w9.heap.size 0 rfl [.string ⟨it.tag.toArray⟩, .string ⟨it.qual.toArray⟩, .string ⟨it.text.toArray⟩, .string ⟨it.name.toArray⟩, .slice ya kd.length yc] _ RD.out Tryz.underlying25 rfl Tryz.sizeItm ?_; refine hK _ _ ?_))
    refine (HSB.out _ _ _ (RT_later (PT_rt _ _ _ (Nat.le_refl _) CR.out.1) T_w8.out) (RT_later NR.out T_w6.out)).mono ?_
    rintro e w14 ⟨rfl, hb⟩
    have T_w1 := hide (T_w1.out.trans (hb.mono T_w1.out.size))
    have T_w2 := hide (T_w2.out.trans (hb.mono T_w2.out.size))
    have T_w3 := hide (T_w3.out.trans (hb.mono T_w3.out.size))
    have T_w4 := hide (T_w4.out.trans (hb.mono T_w4.out.size))
    have T_w5 := hide (T_w5.out.trans (hb.mono T_w5.out.size))
    have T_w6 := hide (T_w6.out.trans (hb.mono T_w6.out.size))
    have T_w7 := hide (T_w7.out.trans (hb.mono T_w7.out.size))
    have T_w8 := hide (T_w8.out.trans (hb.mono T_w8.out.size))
    have T_w9 := hide (T_w9.out.trans (hb.mono T_w9.out.size))
    have T_w10 := hide (T_w10.out.trans (hb.mono T_w10.out.size))
    have B1 := hide (B1.out.trans (hb.mono B1.out.size))
    clear hb
    go_wp2_with (first
        | (refine BigFrame.wpList_want (by rfl) ?_; intro K hK; refine wp_load_mid 25 _ rfl w4.heap.size 0 rfl [.string ⟨it.tag.toArray⟩, .string ⟨it.qual.toArray⟩, .string ⟨it.text.toArray⟩, .string ⟨it.name.toArray⟩, .slice qa kd.length qc] _ RA.out Tryz.underlying25 rfl Tryz.sizeItm ?_; refine hK _ _ ?_)
        | (refine BigFrame.wpList_want (by rfl) ?_; intro K hK; refine wp_load_mid 25 _ rfl w2.heap.size 0 rfl [.string ⟨it.tag.toArray⟩, .string ⟨it.qual.toArray⟩, .string ⟨it.text.toArray⟩, .string ⟨it.name.toArray⟩, .slice pa kd.length pc] _ RW.out Tryz.underlying25 rfl Tryz.sizeItm ?_; refine hK _ _ ?_)
        | (refine BigFrame.wpList_want (by rfl) ?_; intro K hK; refine wp_load_mid 25 _ rfl w9.heap.size 0 rfl [.string ⟨it.tag.toArray⟩, .string ⟨it.qual.toArray⟩, .string ⟨it.text.toArray⟩, .string ⟨it.name.toArray⟩, .slice ya kd.length yc] _ RD.out Tryz.underlying25 rfl Tryz.sizeItm ?_; refine hK _ _ ?_))
    refine (HTC.out g c _ (RT_later XR.out T_w1.out)).mono ?_
    rintro e w15 ⟨rfl, hb⟩
    have T_w1 := hide (T_w1.out.trans (hb.mono T_w1.out.size))
    have T_w2 := hide (T_w2.out.trans (hb.mono T_w2.out.size))
    have T_w3 := hide (T_w3.out.trans (hb.mono T_w3.out.size))
    have T_w4 := hide (T_w4.out.trans (hb.mono T_w4.out.size))
    have T_w5 := hide (T_w5.out.trans (hb.mono T_w5.out.size))
    have T_w6 := hide (T_w6.out.trans (hb.mono T_w6.out.size))
    have T_w7 := hide (T_w7.out.trans (hb.mono T_w7.out.size))
    have T_w8 := hide (T_w8.out.trans (hb.mono T_w8.out.size))
    have T_w9 := hide (T_w9.out.trans (hb.mono T_w9.out.size))
    have T_w10 := hide (T_w10.out.trans (hb.mono T_w10.out.size))
    have B1 := hide (B1.out.trans (hb.mono B1.out.size))
    clear hb
    go_wp2_with (first
        | (refine BigFrame.wpList_want (by rfl) ?_; intro K hK; refine wp_load_mid 25 _ rfl w4.heap.size 0 rfl [.string ⟨it.tag.toArray⟩, .string ⟨it.qual.toArray⟩, .string ⟨it.text.toArray⟩, .string ⟨it.name.toArray⟩, .slice qa kd.length qc] _ RA.out Tryz.underlying25 rfl Tryz.sizeItm ?_; refine hK _ _ ?_)
        | (refine BigFrame.wpList_want (by rfl) ?_; intro K hK; refine wp_load_mid 25 _ rfl w2.heap.size 0 rfl [.string ⟨it.tag.toArray⟩, .string ⟨it.qual.toArray⟩, .string ⟨it.text.toArray⟩, .string ⟨it.name.toArray⟩, .slice pa kd.length pc] _ RW.out Tryz.underlying25 rfl Tryz.sizeItm ?_; refine hK _ _ ?_)
        | (refine BigFrame.wpList_want (by rfl) ?_; intro K hK; refine wp_load_mid 25 _ rfl w9.heap.size 0 rfl [.string ⟨it.tag.toArray⟩, .string ⟨it.qual.toArray⟩, .string ⟨it.text.toArray⟩, .string ⟨it.name.toArray⟩, .slice ya kd.length yc] _ RD.out Tryz.underlying25 rfl Tryz.sizeItm ?_; refine hK _ _ ?_))
    refine (HDC.out _ (RT_later HV.out B1.out)).mono ?_
    rintro e w16 ⟨rfl, hb⟩
    have T_w1 := hide (T_w1.out.trans (hb.mono T_w1.out.size))
    have T_w2 := hide (T_w2.out.trans (hb.mono T_w2.out.size))
    have T_w3 := hide (T_w3.out.trans (hb.mono T_w3.out.size))
    have T_w4 := hide (T_w4.out.trans (hb.mono T_w4.out.size))
    have T_w5 := hide (T_w5.out.trans (hb.mono T_w5.out.size))
    have T_w6 := hide (T_w6.out.trans (hb.mono T_w6.out.size))
    have T_w7 := hide (T_w7.out.trans (hb.mono T_w7.out.size))
    have T_w8 := hide (T_w8.out.trans (hb.mono T_w8.out.size))
    have T_w9 := hide (T_w9.out.trans (hb.mono T_w9.out.size))
    have T_w10 := hide (T_w10.out.trans (hb.mono T_w10.out.size))
    have B1 := hide (B1.out.trans (hb.mono B1.out.size))
    have hcc : ((cn : Int) == (cn : Int)) = true := by simp
    clear hb
    go_wp2_with (first
        | (refine BigFrame.wpList_want (by rfl) ?_; intro K hK; refine wp_load_mid 25 _ rfl w4.heap.size 0 rfl [.string ⟨it.tag.toArray⟩, .string ⟨it.qual.toArray⟩, .string ⟨it.text.toArray⟩, .string ⟨it.name.toArray⟩, .slice qa kd.length qc] _ RA.out Tryz.underlying25 rfl Tryz.sizeItm ?_; refine hK _ _ ?_)
        | (refine BigFrame.wpList_want (by rfl) ?_; intro K hK; refine wp_load_mid 25 _ rfl w2.heap.size 0 rfl [.string ⟨it.tag.toArray⟩, .string ⟨it.qual.toArray⟩, .string ⟨it.text.toArray⟩, .string ⟨it.name.toArray⟩, .slice pa kd.length pc] _ RW.out Tryz.underlying25 rfl Tryz.sizeItm ?_; refine hK _ _ ?_)
        | (refine BigFrame.wpList_want (by rfl) ?_; intro K hK; refine wp_load_mid 25 _ rfl w9.heap.size 0 rfl [.string ⟨it.tag.toArray⟩, .string ⟨it.qual.toArray⟩, .string ⟨it.text.toArray⟩, .string ⟨it.name.toArray⟩, .slice ya kd.length yc] _ RD.out Tryz.underlying25 rfl Tryz.sizeItm ?_; refine hK _ _ ?_))
    refine (keptItems_any _ l g c v w16 (by omega) (FU_kept (S' := fun _ => True) (fun x _ hx => T_w1.out.block x hx) T_w1.out.size (fun _ _ _ => trivial) _ l g c (Nat.le_refl _) XF.out) (RT_later HV.out B1.out)).mono ?_
    rintro e w17 ⟨rfl, hb⟩
    have T_w1 := hide (T_w1.out.trans (hb.mono T_w1.out.size))
    have T_w2 := hide (T_w2.out.trans (hb.mono T_w2.out.size))
    have T_w3 := hide (T_w3.out.trans (hb.mono T_w3.out.size))
    have T_w4 := hide (T_w4.out.trans (hb.mono T_w4.out.size))
    have T_w5 := hide (T_w5.out.trans (hb.mono T_w5.out.size))
    have T_w6 := hide (T_w6.out.trans (hb.mono T_w6.out.size))
    have T_w7 := hide (T_w7.out.trans (hb.mono T_w7.out.size))
    have T_w8 := hide (T_w8.out.trans (hb.mono T_w8.out.size))
    have T_w9 := hide (T_w9.out.trans (hb.mono T_w9.out.size))
    have T_w10 := hide (T_w10.out.trans (hb.mono T_w10.out.size))
    have B1 := hide (B1.out.trans (hb.mono B1.out.size))
    clear hb
    have ca : w17.cell? ⟨w4.heap.size, 4, none⟩ = some (.slice qa kd.length qc) := BkX BA.out T_w5.out 4 _ rfl
    have cd : w17.cell? ⟨w9.heap.size, 4, none⟩ = some (.slice ya kd.length yc) := BkX BD.out T_w10.out 4 _ rfl
    have HAP := hide (apart_five (B := w0.heap.size) (x1 := w1.heap.size) (a0 := w3.heap.size) (a1 := w4.heap.size) (b0 := w6.heap.size) (b1 := w7.heap.size) (c0 := w7.heap.size) (c1 := w8.heap.size) (d0 := w8.heap.size) (d1 := w9.heap.size) (W := w17) S1.out (Nat.le_trans S2.out Zw3.out) S4.out (Nat.le_trans Zw5.out S6.out) S7.out (Nat.le_refl _) S8.out (Nat.le_refl _) S9.out T_w9.out.size HKD.out HMB.out HLW.out
      (AP_kept T_w4.out (fun _ h _ => h) AR.out.2) (AP_kept T_w7.out (fun _ h _ => h) BR.out.2) (AP_kept T_w8.out (fun _ h _ => h) CR.out.2) (AP_kept T_w9.out (fun _ h _ => h) DR.out.2) (AP_kept T_w1.out (fun _ h _ => h) XA.out))
    go_wp2_with fail
    refine HAP.out.mono ?_
    rintro e w18 ⟨rfl, hb⟩
    have B2 := hide (B1.out.trans (hb.mono B0.out.size))
    clear hb
    go_wp2_with fail
    refine (works_any w18 (HML.out.later B2.out)).mono ?_
    rintro e w19 ⟨rfl, hb⟩
    have B3 := hide (B2.out.trans (hb.mono B2.out.size))
    clear hb
    go_wp2_with fail
    go_ret
    exact ⟨rfl, B3.out⟩
end Go.Proofs.YtpkgaidnpooahaaGreatDoor
