/-
  My own text: SP1, SP2 in one.
-/
import Derived.Test.YtnjjehlfgoggfaaDoorSK6
import Derived.Test.YtnjjehlfgoggfaaDoorSN13
namespace Go.Proofs.YtnjjehlfgoggfaaDoor
open Go.RowKit Go.Sort Go.Lib Go.Shelf

/-- Versions above o; calls that lay down one of a key above o. -/
def cV (o : Int) (L : List Ver) : Nat := L.countP fun p => decide (o < p.1)
def cC (o : Int) (k : Ky) (ps : List Cl) : Nat := ps.countP fun d => decide (d.kind = 0 ∧ d.k = k ∧ o < d.N)
def abv (o : Int) (L : List Ky) (ps : List Cl) : Nat := ps.countP fun d => decide (d.kind = 0 ∧ d.k ∈ L ∧ o < d.N)
/-- No more versions than calls. -/
def PC (X : Sx) (qs : List Cl) : Prop := ∀ j o, cV o (X.K j) ≤ cC o j qs
theorem PC.new : PC newX [] := fun _ _ => Nat.le_refl _
theorem cV_drop (o : Int) (L : List Ver) (d : Nat) : cV o (L.drop d) ≤ cV o L := (List.drop_sublist d L).countP_le
theorem cC_snoc (o : Int) (k : Ky) (qs : List Cl) (d : Cl) : cC o k (qs ++ [d]) = cC o k qs + if d.kind = 0 ∧ d.k = k ∧ o < d.N then 1 else 0 := by
  unfold cC; rw [List.countP_append, List.countP_singleton]; simp
theorem PC.ask {X : Sx} {qs : List Cl} (h : PC X qs) (d : Cl) : PC (X.ask d) (qs ++ [d]) := by
  intro j o
  have h0 := h j o
  have hs := cC_snoc o j qs d
  have hle : cC o j qs ≤ cC o j (qs ++ [d]) := by omega
  unfold Sx.ask
  by_cases e0 : d.kind = 0
  · rw [if_pos e0]
    show cV o (upK X.K d.k (ptL d.N d.V (X.K d.k)) j) ≤ _
    by_cases e : j = d.k
    · rw [e, upK_same]
      rw [e] at h0 hs
      unfold ptL
      split
      · unfold cV at h0 ⊢
        rw [List.countP_append, List.countP_singleton]
        by_cases ho : o < d.N
        · rw [if_pos ⟨e0, rfl, ho⟩] at hs
          rw [if_pos (by simpa using ho)]; omega
        · rw [if_neg (by simpa using ho)]; omega
      · omega
    · rw [upK_other e]; omega
  rw [if_neg e0]
  by_cases e4 : d.kind = 4
  · rw [if_pos e4]; exact Nat.le_trans h0 hle
  rw [if_neg e4]
  by_cases e5 : d.kind = 5
  · rw [if_pos e5, cls_K]; exact Nat.le_trans h0 hle
  rw [if_neg e5]
  by_cases e7 : d.kind = 7
  · rw [if_pos e7]
    show cV o (upK X.K d.k ((X.K d.k).drop _) j) ≤ _
    by_cases e : j = d.k
    · rw [e, upK_same]
      rw [e] at h0 hs
      have := cV_drop o (X.K d.k) (ab (oldR d.N X.L) (X.K d.k) - 1)
      omega
    · rw [upK_other e]; omega
  rw [if_neg e7]
  exact Nat.le_trans h0 hle
theorem PC.skip {X : Sx} {qs : List Cl} (h : PC X qs) (d : Cl) : PC X (qs ++ [d]) := fun j o => by
  have := h j o
  have := cC_snoc o j qs d
  omega
theorem abv_nil (o : Int) (ps : List Cl) : abv o [] ps = 0 := by unfold abv; rw [List.countP_eq_zero]; intro d _; simp
theorem abv_le (o : Int) (L : List Ky) (ps : List Cl) : abv o L ps ≤ ps.length := List.countP_le_length
theorem abv_snoc (o : Int) (L : List Ky) (k : Ky) (hk : k ∉ L) : ∀ ps : List Cl, abv o (L ++ [k]) ps = abv o L ps + cC o k ps
  | [] => rfl
  | d :: r => by
    have ih := abv_snoc o L k hk r
    unfold abv cC at ih ⊢
    rw [List.countP_cons, List.countP_cons, List.countP_cons, ih]
    by_cases h1 : d.kind = 0 ∧ o < d.N
    · by_cases h2 : d.k = k
      · have h3 : d.k ∉ L := by rw [h2]; exact hk
        simp [h1.1, h1.2, h2, hk]; omega
      · simp [h1.1, h1.2, h2]; split <;> omega
    · have h4 : ¬ (d.kind = 0 ∧ d.k ∈ L ++ [k] ∧ o < d.N) := fun h => h1 ⟨h.1, h.2.2⟩
      have h5 : ¬ (d.kind = 0 ∧ d.k ∈ L ∧ o < d.N) := fun h => h1 ⟨h.1, h.2.2⟩
      have h6 : ¬ (d.kind = 0 ∧ d.k = k ∧ o < d.N) := fun h => h1 ⟨h.1, h.2.2⟩
      rw [decide_eq_false h4, decide_eq_false h5, decide_eq_false h6]; simp
theorem abv_cons (o : Int) (L : List Ky) (k : Ky) (hk : k ∉ L) (ps : List Cl) : abv o (k :: L) ps = abv o L ps + cC o k ps := by
  rw [← abv_snoc o L k hk ps]
  unfold abv
  congr 1
  funext d
  have : (d.k ∈ k :: L) ↔ (d.k ∈ L ++ [k]) := by simp [or_comm]
  simp only [this]
/-- What is left behind a pruning. -/
theorem few_left {o : Int} {B : List Ver} (hr : Ris B) : (B.drop (ab o B - 1)).length ≤ 1 + cV o B := by
  have h1 := cV_rest o B hr
  rw [List.length_drop]
  have := ab_le o B
  omega
where
  cV_rest (o : Int) : ∀ B : List Ver, Ris B → cV o B = B.length - ab o B
    | [], _ => rfl
    | p :: r, hr => by
      have ih := cV_rest o r hr.2
      have hl := ab_le o r
      unfold cV at ih ⊢
      rw [List.countP_cons, ih]
      show _ = (p :: r).length - (if o < p.1 then 0 else ab o r + 1)
      by_cases h : o < p.1
      · have h0 : ab o r = 0 := by
          cases r with
          | nil => rfl
          | cons a t => unfold ab; rw [if_pos (by have := hr.1 a (List.mem_cons_self ..); omega)]
        rw [if_pos h, if_pos (by simpa using h), h0]; simp
      · rw [if_neg h, if_neg (by simpa using h)]; simp
/-- Pruned at the keys L. -/
structure PR (X1 X0 : Sx) (o : Int) (L : List Ky) : Prop where
  l : X1.L = X0.L
  inn : ∀ j, j ∈ L → X1.K j = (X0.K j).drop (ab o (X0.K j) - 1)
  out : ∀ j, j ∉ L → X1.K j = X0.K j
theorem PR.nil (X : Sx) (o : Int) : PR X X o [] := ⟨rfl, (fun j h => by cases h), fun _ _ => rfl⟩
theorem PR.step {X1 X0 : Sx} {q : Int} {L : List Ky} (h : PR X1 X0 (oldR q X0.L) L) (k : Ky) (hk : k ∉ L) : PR (X1.pru k q) X0 (oldR q X0.L) (L ++ [k]) := by
  have ek := h.out k hk
  refine ⟨h.l, fun j hj => ?_, fun j hj => ?_⟩
  · show upK X1.K k ((X1.K k).drop (ab (oldR q X1.L) (X1.K k) - 1)) j = _
    rcases List.mem_append.1 hj with hj | hj
    · rw [upK_other (fun e => hk (by rw [← e]; exact hj))]; exact h.inn j hj
    · rw [List.mem_singleton.1 hj, upK_same, h.l, ek]
  · show upK X1.K k _ j = _
    rw [upK_other (fun e => hj (by rw [e]; simp))]
    exact h.out j (fun hm => hj (List.mem_append.2 (.inl hm)))
theorem PR.all {X1 X0 : Sx} {o : Int} {L : List Ky} (h : PR X1 X0 o L) (hL : KL X0 L) (j : Ky) : X1.K j = (X0.K j).drop (ab o (X0.K j) - 1) := by
  by_cases hj : j ∈ L
  · exact h.inn j hj
  · rw [h.out j hj]
    have : X0.K j = [] := by
      have := hL.mem j
      by_cases e : X0.K j = []
      · exact e
      · exact absurd (this.2 e) hj
    rw [this]; rfl
theorem PR.dr {X1 X0 : Sx} {o : Int} {L : List Ky} (h : PR X1 X0 o L) (hL : KL X0 L) (j : Ky) : DR o (X1.K j) (X0.K j) := ⟨ab o (X0.K j) - 1, h.all hL j, Nat.le_refl _⟩
theorem PR.kl {X1 X0 : Sx} {o : Int} {L : List Ky} (h : PR X1 X0 o L) (hL : KL X0 L) : KL X1 L := by
  refine ⟨hL.srt, hL.nd, fun j => ?_⟩
  rw [hL.mem j, h.all hL j]
  have h2 := ab_le o (X0.K j)
  constructor
  · intro hne
    have := List.length_pos_iff.2 hne
    rw [← List.length_pos_iff, List.length_drop]; omega
  · intro hne e
    rw [e] at hne; exact hne rfl
theorem PR.again {X1 X0 : Sx} {q : Int} {L : List Ky} (h : PR X1 X0 (oldR q X0.L) L) (hL : KL X0 L) (hr : ∀ j, Ris (X0.K j)) (k : Ky) : ab (oldR q X1.L) (X1.K k) - 1 = 0 ∧ X1.pru k q = X1 := by
  have e : ab (oldR q X1.L) (X1.K k) - 1 = 0 := by rw [h.l, h.all hL k]; exact prune_twice (hr k)
  refine ⟨e, ?_⟩
  unfold Sx.pru
  rw [e, List.drop_zero, upK_self]
/-- How many versions are left. -/
theorem PR.few {X1 X0 : Sx} {o : Int} {L : List Ky} {ps : List Cl} (h : PR X1 X0 o L) (hL : KL X0 L) (hr : ∀ j, Ris (X0.K j)) (hp : PC X0 ps) : lenS X1 L ≤ L.length + abv o L ps := by
  have main : ∀ M : List Ky, M.Nodup → lenS X1 M ≤ M.length + abv o M ps := by
    intro M
    induction M with
    | nil => intro _; simp [lenS]
    | cons k M ih =>
      intro hnd
      rw [List.nodup_cons] at hnd
      rw [abv_cons o M k hnd.1 ps, List.length_cons]
      have h1 := ih hnd.2
      have h2 : lenS X1 (k :: M) = (X1.K k).length + lenS X1 M := by simp [lenS]
      have h3 : (X1.K k).length ≤ 1 + cV o (X0.K k) := by rw [h.all hL k]; exact few_left (hr k)
      have h4 := hp k o
      omega
  exact main L hL.nd
/-- Rising lists of the same keys are the same. -/
theorem srtK_one : ∀ {a b : List Ky}, SrtK a → SrtK b → a.Perm b → a = b := by
  intro a b ha hb hp
  refine List.Perm.eq_of_pairwise (le := fun x y => ltOf cfK y x = false) ?_ ha hb hp
  intro x y _ _ h1 h2
  exact totK x y h2 h1
theorem KL.one {X Y : Sx} {a b : List Ky} (ha : KL X a) (hb : KL Y b) (h : ∀ k, X.K k ≠ [] ↔ Y.K k ≠ []) : a = b :=
  srtK_one ha.srt hb.srt (perm_nd ha.nd hb.nd (fun k => by rw [ha.mem, hb.mem]; exact h k))
theorem SO.keysLen {B : Nat} {W : World} {sb n : Nat} {X : Sx} {kk : Nat} {F : Nat → Prop} {L : List Ky} (h : SO B W sb n X kk F) (hL : KL X L) : L.length ≤ kk := by
  obtain ⟨m, g, rb, v, h⟩ := h
  have hperm : L.Perm (allK m n) := perm_nd hL.nd (nd_allK h n (Nat.le_refl _)) (fun k => by rw [hL.mem, mem_allK h])
  rw [hperm.length_eq, allK_len]; exact h.tot
theorem SO.keysOK {B : Nat} {W : World} {sb n : Nat} {X : Sx} {kk : Nat} {F : Nat → Prop} {L : List Ky} (h : SO B W sb n X kk F) (hL : KL X L) : ∀ k ∈ L, KOK k := by
  obtain ⟨m, g, rb, v, h⟩ := h
  intro k hk
  have hm := (mem_allK h k).2 ((hL.mem k).1 hk)
  obtain ⟨i, hi, hki⟩ := List.mem_flatMap.1 hm
  obtain ⟨p, hp, rfl⟩ := List.mem_map.1 hki
  obtain ⟨es, clock, hb, he, h1, _⟩ := h.sv.st.mb i (List.mem_range.1 hi)
  exact h1 p hp
theorem take_nd {L : List Ky} {k : Nat} {p : Ky} (hn : L.Nodup) (hp : L[k]? = some p) : p ∉ L.take k := by
  intro hm
  obtain ⟨j, hj⟩ := List.getElem?_of_mem hm
  have hjk : j < k := by
    have := (List.getElem?_eq_some_iff.1 hj).1
    rw [List.length_take] at this; omega
  rw [List.getElem?_take, if_pos hjk] at hj
  obtain ⟨h1, e1⟩ := List.getElem?_eq_some_iff.1 hj
  obtain ⟨h2, e2⟩ := List.getElem?_eq_some_iff.1 hp
  exact (List.pairwise_iff_getElem.1 hn) j k h1 h2 hjk (by rw [e1, e2])
end Go.Proofs.YtnjjehlfgoggfaaDoor
namespace Go.Proofs.YtnjjehlfgoggfaaDoor
open Go.RowKit

theorem OR.keyAt {W : World} {B : Nat} {v : Value} {L : List Ky} (h : OR W B 29 2 v L.length (kc L)) : ∃ a cap, v = .slice a L.length cap ∧ ∀ (i : Nat) (k : Ky), L[i]? = some k → ∃ g off, a = some ⟨g, off, none⟩ ∧ W.cell? ⟨g, off + i * 2, none⟩ = some (.int .i64 k.1) ∧ W.cell? ⟨g, off + i * 2 + 1, none⟩ = some (.int .i64 k.2) := by
  rcases h.2 with ⟨rfl, h0⟩ | ⟨g, off, cap, cur, rfl, _, _, _, _, _, h5⟩
  · refine ⟨none, 0, by rw [h0], fun i k hk => ?_⟩
    have := (List.getElem?_eq_some_iff.1 hk).1
    omega
  · refine ⟨_, cap, rfl, fun i k hk => ⟨g, off, rfl, ?_, ?_⟩⟩
    · exact h5 _ _ (kc_at L i k hk).1
    · have := h5 _ _ (kc_at L i k hk).2
      rw [← Nat.add_assoc] at this; exact this
theorem Tryd.neqKy (x y : Int) (w : World) : (binOp .neq 29 (.agg #[.int .i64 x, .int .i64 y]) (.agg #[.int .i64 x, .int .i64 y])).run Tryd.prog w = .ok (.bool false) w := by
  simp [go_sem]
set_option maxRecDepth 100000 in
set_option maxHeartbeats 1000000 in
theorem sameK_any (v v' : Value) (B B' : Nat) (L : List Ky) (w : World) (h : OR w B 29 2 v L.length (kc L)) (h' : OR w B' 29 2 v' L.length (kc L)) (hl : L.length ≤ 4611686018427387904) :
    Calls Tryd.prog 15 #[v, v'] w fun e w' => e = .returned (.bool true) ∧ Below w.heap.size w w' := by
  obtain ⟨a, cap, rfl, hc⟩ := h.keyAt
  obtain ⟨a', cap', rfl, hc'⟩ := h'.keyAt
  have HC := hide hc
  have HC' := hide hc'
  have hq := Tryd.neqKy
  clear h h' hc hc'
  go_enter Tryd.func15, Tryd.ntmps15
  go_wp2_with fail
  go_loopw [5] (fun i wr => ∃ k : Nat, k ≤ L.length ∧ i = .int .i64 (k : Int) ∧ Hid (Below w.heap.size w wr)) (fun i _ => L.length - (intOf i).toNat)
  case atStart => exact ⟨0, Nat.zero_le _, rfl, hide (Below.refl _ _)⟩
  case round =>
    obtain ⟨k, hk, rfl, HB⟩ := hrel
    by_cases hlt : k < L.length
    · obtain ⟨p, hp⟩ : ∃ p, L[k]? = some p := ⟨_, List.getElem?_eq_getElem hlt⟩
      obtain ⟨g, off, rfl, c0, c1⟩ := HC.out k p hp
      obtain ⟨g', off', rfl, d0, d1⟩ := HC'.out k p hp
      have hgl : g < w.heap.size := World.block_lt_of_cell? _ _ c0
      have hgl' : g' < w.heap.size := World.block_lt_of_cell? _ _ d0
      have e0 : wr.cell? ⟨g, off + k * 2, none⟩ = some (.int .i64 p.1) := (HB.out.cell (p := ⟨g, _, none⟩) hgl).trans c0
      have e1 : wr.cell? ⟨g, off + k * 2 + 1, none⟩ = some (.int .i64 p.2) := (HB.out.cell (p := ⟨g, _, none⟩) hgl).trans c1
      have f0 : wr.cell? ⟨g', off' + k * 2, none⟩ = some (.int .i64 p.1) := (HB.out.cell (p := ⟨g', _, none⟩) hgl').trans d0
      have f1 : wr.cell? ⟨g', off' + k * 2 + 1, none⟩ = some (.int .i64 p.2) := (HB.out.cell (p := ⟨g', _, none⟩) hgl').trans d1
      clear c0 c1 d0 d1 hgl hgl'
      have hd1 : decide ((k : Int) < (L.length : Int)) = true := by rw [decide_eq_true_eq]; omega
      have k0 : (0 : Int) ≤ (k : Int) := by omega
      have k1 : (k : Int) < (L.length : Int) := by omega
      have wk : wrap64 ((k : Int) + 1) = (k : Int) + 1 := by unfold wrap64; omega
      have HX0 := hide ((Below.refl wr.heap.size wr).drew)
      haveI : Nonempty (Gr wr) := ⟨⟨_, HX0.out⟩⟩
      have y0 : ∀ x : Gr wr, x.1.cell? ⟨g, off + k * 2, none⟩ = some (.int .i64 p.1) := fun x => (x.2.cell (p := ⟨g, _, none⟩) (World.block_lt_of_cell? _ _ e0)).trans e0
      have y1 : ∀ x : Gr wr, x.1.cell? ⟨g, off + k * 2 + 1, none⟩ = some (.int .i64 p.2) := fun x => (x.2.cell (p := ⟨g, _, none⟩) (World.block_lt_of_cell? _ _ e1)).trans e1
      have y2 : ∀ x : Gr wr, x.1.cell? ⟨g', off' + k * 2, none⟩ = some (.int .i64 p.1) := fun x => (x.2.cell (p := ⟨g', _, none⟩) (World.block_lt_of_cell? _ _ f0)).trans f0
      have y3 : ∀ x : Gr wr, x.1.cell? ⟨g', off' + k * 2 + 1, none⟩ = some (.int .i64 p.2) := fun x => (x.2.cell (p := ⟨g', _, none⟩) (World.block_lt_of_cell? _ _ f1)).trans f1
      have yq : ∀ x : Gr wr, (binOp .neq 29 (.agg #[.int .i64 p.1, .int .i64 p.2]) (.agg #[.int .i64 p.1, .int .i64 p.2])).run Tryd.prog x.1 = .ok (.bool false) x.1 := fun x => hq p.1 p.2 x.1
      go_wp2_with fail
      refine region_class (C := fun w' => ∃ x : Gr wr, w' = x.1) (by kernel_rfl) (by kernel_rfl) ⟨⟨_, HX0.out⟩, rfl⟩ ?_
      repeat (first
        | go_big_quiet_skip
        | (go_big_quiet_want; (go_big_quiet_op; go_big_quiet_on)))
      refine wpQuiet_nil ?_
      rintro w3 ⟨x, rfl⟩
      obtain ⟨w3, hx3⟩ := x
      dsimp only
      have HB3 := hide (HB.out.trans (hx3.mono HB.out.size))
      clear y0 y1 y2 y3 yq this HX0 hx3 e0 e1 f0 f1
      go_wp2_with fail
      go_roundw
      case rel => exact ⟨k + 1, by omega, by go_num, HB3⟩
      case measure => simp [intOf]; omega
    · have e : k = L.length := by omega
      subst e
      go_wp2_with fail
      go_ret
      exact ⟨rfl, HB.out⟩
end Go.Proofs.YtnjjehlfgoggfaaDoor
