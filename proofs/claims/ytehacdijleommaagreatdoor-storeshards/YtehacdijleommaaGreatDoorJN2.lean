/-
  My own text: SN0, SN2 in one.
-/
import Derived.Test.YtehacdijleommaaGreatDoorJM10
import Derived.Carry
import Derived.Test.YtehacdijleommaaGreatDoorIC20
import Derived.Test.YtehacdijleommaaGreatDoorJM1
import Derived.Test.YtehacdijleommaaGreatDoorSN2
namespace Go.Proofs.YtehacdijleommaaGreatDoor.CI
open Go.RowKit Go.Extern Go.MapKept Go.ChangeMaps

end Go.Proofs.YtehacdijleommaaGreatDoor.CI
namespace Go.Proofs.YtehacdijleommaaGreatDoor.CI
open Go.RowKit Go.Extern

/-- A store that is being made: k of its maps are there. -/
structure NJ (w : World) (sb g n rb b0 : Nat) (hdr : Array Value) (k : Nat) (V : World) : Prop where
  sz : V.heap.size = b0 + k
  st : V.heap[sb]? = some (.cells hdr 50 (0, 0))
  ar : ∃ arr, V.heap[g]? = some (.cells arr 51 (0, 0)) ∧ arr.size = n ∧ ∀ i, i < k → arr[i]? = some (.map (some (b0 + i)))
  mb : ∀ i, i < k → MB V (b0 + i) []
  low : Below w.heap.size w V
  rm : V.heap[rb]? = some (.map #[] 0)
theorem NJ.step {w V : World} {sb g n rb b0 k : Nat} {hdr : Array Value} (h : NJ w sb g n rb b0 hdr k V) (h1 : g < b0) (h2 : sb < b0) (h3 : sb ≠ g) (h5 : rb < b0) (h6 : rb ≠ g) (h4 : w.heap.size ≤ g) (hk : k < n) :
    (∃ u, (V.alloc (.map #[] 0)).cell? ⟨g, k, none⟩ = some u) ∧ (V.alloc (.map #[] 0)).frozen? ⟨g, k, none⟩ = false ∧ NJ w sb g n rb b0 hdr (k + 1) ((V.alloc (.map #[] 0)).setCell ⟨g, k, none⟩ (.map (some V.heap.size))) := by
  obtain ⟨arr, q1, q2, q3⟩ := h.ar
  have hb : Below V.heap.size V (V.alloc (.map #[] 0)) := (Below.refl _ _).alloc (Nat.le_refl _) _
  have hs := h.sz
  have c1 : (V.alloc (.map #[] 0)).heap[g]? = some (.cells arr 51 (0, 0)) := (hb.block g (by omega)).trans q1
  have hm := MB.made V
  have e5 := setCell_eq_setRow (V.alloc (.map #[] 0)) g k _ _ _ (.map (some V.heap.size)) c1
  have e6 := setRow_heap (V.alloc (.map #[] 0)) g _ (arr.setIfInBounds k (.map (some V.heap.size))) _ _ c1
  refine ⟨⟨arr[k]'(by omega), by rw [cell_of_row _ g _ _ _ _ c1]; exact Array.getElem?_eq_getElem _⟩, by unfold World.frozen?; simp [c1], ?_⟩
  have oth : ∀ x, x ≠ g → ((V.alloc (.map #[] 0)).setCell ⟨g, k, none⟩ (.map (some V.heap.size))).heap[x]? = (V.alloc (.map #[] 0)).heap[x]? := fun x hx => Below.heap_setCell _ _ _ x hx
  refine ⟨?_, ?_, ⟨arr.setIfInBounds k (.map (some V.heap.size)), by rw [e5]; exact e6, by simp [q2], fun i hi => ?_⟩, fun i hi => ?_, ?_, (oth rb h6).trans ((hb.block rb (by omega)).trans h.rm)⟩
  · simp [World.setCell, hs]; omega
  · exact (oth sb h3).trans ((hb.block sb (by omega)).trans h.st)
  · by_cases e : i = k
    · subst e
      rw [Array.getElem?_setIfInBounds_self_of_lt (by omega), hs]
    · rw [Array.getElem?_setIfInBounds_ne (fun h' => e h'.symm)]; exact q3 i (by omega)
  · by_cases e : i = k
    · subst e
      rw [hs] at hm
      exact hm.kept (oth _ (by omega))
    · exact ((h.mb i (by omega)).later hb).kept (oth _ (by omega))
  · exact (h.low.trans (hb.mono h.low.size)).setCell (p := ⟨g, k, none⟩) h4 _
set_option maxRecDepth 100000 in
set_option maxHeartbeats 1000000 in
theorem newSt_any (s : Int) (n : Nat) (w : World) (hn : (n : Int) = cnt s) :
    Calls Tryz.prog 5 #[.int .i64 s] w fun e w' => ∃ sb m, w.heap.size ≤ sb ∧ e = .returned (.pointer (some ⟨sb, 0, none⟩)) ∧ ST w' sb n m ∧ (∀ i, (m i).2 = []) ∧ (∀ i, i < n → w.heap.size ≤ (m i).1) ∧ Below w.heap.size w w' ∧
      ∃ g rb, w'.heap[sb]? = some (.cells #[.slice (some ⟨g, 0, none⟩) n n, .int .i64 0, .map (some rb), .slice none 0 0] 50 (0, 0)) ∧ w'.heap[rb]? = some (.map #[] 0) ∧ w.heap.size ≤ g ∧ w.heap.size ≤ rb ∧ ∀ i, i < n → (m i).1 ≠ rb := by
  have hlo := cnt_lo s
  have hhi := cnt_hi s
  have HK := hide (fun W => counted_any s W)
  rw [← hn] at HK hlo hhi
  have n1 : 1 ≤ n := by omega
  have n2 : n ≤ 64 := by omega
  have hmk := run_make_row' (P := Tryz.prog) 48 51 (.map none) 8 Tryz.underlying48 Tryz.infoMap rfl .i64 .i64 n (by omega) (by omega)
  have mm : ∀ (t : TypeId) (W : World), (Instr.makeMap t none).run Tryz.prog W = .ok (.map (some W.heap.size)) (W.alloc (.map #[] 0)) := fun t W => run_makeMap t W
  clear hn hlo hhi
  go_enter Tryz.func5, Tryz.ntmps5
  go_wp2_with fail
  refine (HK.out _).mono ?_
  rintro e w1 ⟨rfl, hb1⟩
  have B1 := hide hb1
  clear hb1
  go_wp2_with fail
  have N0 : Hid (NJ w (w1.heap.size + 1 + 1) w1.heap.size n (w1.heap.size + 1) (w1.heap.size + 3) #[.slice (some ⟨w1.heap.size, 0, none⟩) n n, .int .i64 0, .map (some (w1.heap.size + 1)), .slice none 0 0] 0
      (((w1.alloc (.cells (madeCells #[.map none] n) 51)).alloc (.map #[] 0)).alloc (.cells #[.slice (some ⟨w1.heap.size, 0, none⟩) n n, .int .i64 0, .map (some (w1.heap.size + 1)), .slice none 0 0] 50))) := hide (by
    have a1 : Below w1.heap.size w1 (w1.alloc (.cells (madeCells #[.map none] n) 51)) := (Below.refl _ _).alloc (Nat.le_refl _) _
    have b1 := alloc_newV w1 (.cells (madeCells #[.map none] n) 51)
    generalize e1 : w1.alloc (.cells (madeCells #[.map none] n) 51) = U1 at *
    have z1 : U1.heap.size = w1.heap.size + 1 := by rw [← e1]; simp
    have a2 : Below U1.heap.size U1 (U1.alloc (.map #[] 0)) := (Below.refl _ _).alloc (Nat.le_refl _) _
    have b2 := (a2.block w1.heap.size (by omega)).trans b1
    have z2 : (U1.alloc (.map #[] 0)).heap.size = w1.heap.size + 1 + 1 := by simp [z1]
    have b4 : (U1.alloc (.map #[] 0)).heap[w1.heap.size + 1]? = some (.map #[] 0) := by rw [← z1]; exact (Go.MapKept.heap_alloc U1 _).1
    generalize U1.alloc (.map #[] 0) = U2 at *
    have b3 := alloc_newV U2 (.cells #[.slice (some ⟨w1.heap.size, 0, none⟩) n n, .int .i64 0, .map (some (w1.heap.size + 1)), .slice none 0 0] 50)
    have a3 : Below U2.heap.size U2 (U2.alloc (.cells #[.slice (some ⟨w1.heap.size, 0, none⟩) n n, .int .i64 0, .map (some (w1.heap.size + 1)), .slice none 0 0] 50)) := (Below.refl _ _).alloc (Nat.le_refl _) _
    rw [z2] at b3
    refine ⟨by simp [z2], b3, ⟨_, (a3.block w1.heap.size (by omega)).trans b2, size_madeCells _ _, fun i hi => by omega⟩, fun i hi => by omega, ?_, (a3.block _ (by omega)).trans b4⟩
    exact B1.out.trans (((a1.trans (a2.mono (by omega))).trans (a3.mono (by omega))).mono B1.out.size))
  have HS1 := hide B1.out.size
  clear B1 hmk HK
  generalize (((w1.alloc (.cells (madeCells #[.map none] n) 51)).alloc (.map #[] 0)).alloc (.cells #[.slice (some ⟨w1.heap.size, 0, none⟩) n n, .int .i64 0, .map (some (w1.heap.size + 1)), .slice none 0 0] 50)) = V0 at *
  obtain ⟨g, hg⟩ : ∃ g, g = w1.heap.size := ⟨_, rfl⟩
  rw [← hg] at N0 HS1 ⊢
  obtain ⟨sb, hsb⟩ : ∃ sb, sb = g + 1 + 1 := ⟨_, rfl⟩
  rw [← hsb] at N0 ⊢
  have HSB := hide hsb
  clear hg hsb
  obtain ⟨rb, hrb⟩ : ∃ rb, rb = g + 1 := ⟨_, rfl⟩
  rw [← hrb] at N0 ⊢
  have HRB := hide hrb
  clear hrb
  go_loopw [16] (fun i wr => ∃ k : Nat, k ≤ n ∧ i = .int .i64 (k : Int) ∧ Hid (NJ w sb g n rb (g + 3) #[.slice (some ⟨g, 0, none⟩) n n, .int .i64 0, .map (some rb), .slice none 0 0] k wr)) (fun i _ => n - (intOf i).toNat)
  case atStart => exact ⟨0, Nat.zero_le _, rfl, N0⟩
  case round =>
    clear N0
    obtain ⟨k, hk, rfl, HN⟩ := hrel
    by_cases hlt : k < n
    · obtain ⟨⟨u, c1⟩, f1, hN1⟩ := HN.out.step (by omega) (by have := HSB.out; omega) (by have := HSB.out; omega) (by have := HRB.out; omega) (by have := HRB.out; omega) HS1.out hlt
      have hd1 : decide ((k : Int) < (n : Int)) = true := by rw [decide_eq_true_eq]; omega
      have k0 : (0 : Int) ≤ (k : Int) := by omega
      have k1 : (k : Int) < (n : Int) := by omega
      have wk : wrap64 ((k : Int) + 1) = (k : Int) + 1 := by unfold wrap64; omega
      have c0 : wr.cell? ⟨sb, 0, none⟩ = some (.slice (some ⟨g, 0, none⟩) n n) := by rw [cell_of_row wr sb 0 _ _ _ HN.out.st]; rfl
      obtain ⟨W5, hW5⟩ : ∃ W5, wr.alloc (.map #[] 0) = W5 := ⟨_, rfl⟩
      rw [hW5] at c1 f1 hN1
      have HN1 := hide hN1
      clear hN1
      go_wp2_with fail
      go_roundw
      case rel => exact ⟨k + 1, by omega, by go_num, HN1⟩
      case measure => simp [intOf]; omega
    · have e : k = n := by omega
      subst e
      go_wp2_with fail
      go_ret
      obtain ⟨arr, q1, q2, q3⟩ := HN.out.ar
      refine ⟨sb, fun i => (g + 3 + i, []), by have := HSB.out; have := HS1.out; omega, rfl, ⟨⟨_, _, _, _, HN.out.st, arr, q1, q3⟩, fun i hi => HN.out.mb i hi, fun i j _ _ hij => by dsimp only; omega, n1, n2⟩, fun _ => rfl, fun i _ => by have := HS1.out; dsimp only; omega, HN.out.low, g, rb, HN.out.st, HN.out.rm, HS1.out, by have := HRB.out; have := HS1.out; omega, fun i _ => by have := HRB.out; dsimp only; omega⟩
end Go.Proofs.YtehacdijleommaaGreatDoor.CI
namespace Go.Proofs.YtehacdijleommaaGreatDoor.CI

/-- Of A less is left than of B; what counts at n, and above, is left. -/
def DR (n : Int) (A B : List Ver) : Prop := ∃ d, A = B.drop d ∧ d ≤ ab n B - 1
theorem DR.refl (n : Int) (B : List Ver) : DR n B B := ⟨0, by rw [List.drop_zero], Nat.zero_le _⟩
theorem DR.last {n : Int} {A B : List Ver} (h : DR n A B) : lastN A = lastN B ∧ laP A = laP B ∧ laB A = laB B := by
  obtain ⟨d, rfl, hd⟩ := h
  have hle := ab_le n B
  have hm : d = 0 ∨ d < B.length := by omega
  refine ⟨?_, la_pr hm⟩
  rcases hm with rfl | hm
  · rw [List.drop_zero]
  · unfold lastN
    rw [List.length_drop, List.getElem?_drop, show d + (B.length - d - 1) = B.length - 1 by omega]
theorem DR.ris {n : Int} {A B : List Ver} (h : DR n A B) (hr : Ris B) : Ris A := by
  obtain ⟨d, rfl, _⟩ := h
  exact hr.drop d
theorem DR.put {n m : Int} {s : Int} {A B : List Ver} (h : DR n A B) (hr : Ris B) : DR n (ptL m s A) (ptL m s B) := by
  have hl := h.last.1
  unfold ptL
  rw [hl]
  split
  · rename_i hm
    obtain ⟨d, rfl, hd⟩ := h
    have hle := ab_le n B
    refine ⟨d, ?_, ?_⟩
    · rw [List.drop_append_of_le_length (by omega)]
    · have hs := ab_snoc n B (m, s) (fun q hq => by
        obtain ⟨i, hi⟩ := List.getElem?_of_mem hq
        exact lastN_all hr hm i q hi)
      rw [hs]
      split <;> omega
  · exact h
theorem DR.prune {n o : Int} {A B : List Ver} (h : DR n A B) (hr : Ris B) (ho : o ≤ n) : DR n (A.drop (ab o A - 1)) B := by
  obtain ⟨d, rfl, hd⟩ := h
  refine ⟨d + (ab o (B.drop d) - 1), by rw [List.drop_drop], ?_⟩
  have h1 := ab_drop o B d hr
  have h2 := ab_mono ho B
  omega
theorem DR.at {n q : Int} {A B : List Ver} (h : DR n A B) (hr : Ris B) (hq : n ≤ q) : atS q A = atS q B ∧ atB q A = atB q B := by
  obtain ⟨d, rfl, hd⟩ := h
  have h1 := ab_mono hq B
  have h2 := ab_drop q B d hr
  rcases Nat.eq_zero_or_pos d with h0 | h0
  · rw [h0, List.drop_zero]; exact ⟨rfl, rfl⟩
  · unfold atS atB
    rw [h2, if_neg (show ¬ ab q B - d = 0 by omega), if_neg (show ¬ ab q B = 0 by omega), List.getElem?_drop, show d + (ab q B - d - 1) = ab q B - 1 by omega]
    exact ⟨rfl, by rw [decide_eq_true (show 0 < ab q B - d by omega), decide_eq_true (show 0 < ab q B by omega)]⟩
/-- What is left behind a pruning at n: one at most that isn't above n. -/
theorem prune_few {n : Int} {B : List Ver} (hr : Ris B) : ab n (B.drop (ab n B - 1)) ≤ 1 := by
  have := ab_drop n B (ab n B - 1) hr
  omega
/-- And to prune again forgets nothing. -/
theorem prune_twice {n : Int} {B : List Ver} (hr : Ris B) : ab n (B.drop (ab n B - 1)) - 1 = 0 := by
  have := prune_few (n := n) hr
  omega
end Go.Proofs.YtehacdijleommaaGreatDoor.CI
namespace Go.Proofs.YtehacdijleommaaGreatDoor.CI
open Go.RowKit Go.Extern Go.MapKept Go.ChangeMaps

/-- A store: what its keys hold, how many readers have begun, those that read, and the numbers that are read. -/
structure Sx where
  K : Ky → List Ver
  bg : Nat
  R : List (Int × Int)
  L : List Int
def upK (K : Ky → List Ver) (k : Ky) (l : List Ver) : Ky → List Ver := fun j => if j = k then l else K j
theorem upK_same (K : Ky → List Ver) (k : Ky) (l : List Ver) : upK K k l k = l := if_pos rfl
theorem upK_other {K : Ky → List Ver} {k j : Ky} {l : List Ver} (h : j ≠ k) : upK K k l j = K j := if_neg h
/-- The readers' part. -/
structure RP (B : Nat) (W : World) (sb g n rb : Nat) (v : Value) (bg : Nat) (R : List (Int × Int)) (L : List Int) : Prop where
  hdr : W.heap[sb]? = some (.cells #[.slice (some ⟨g, 0, none⟩) n n, .int .i64 (bg : Int), .map (some rb), v] 50 (0, 0))
  row : OR W B 3 1 v L.length (ic L)
  rm : RM W rb R
  rs : RS R L
  bgl : ∀ p ∈ R, 1 ≤ p.1 ∧ p.1 ≤ (bg : Int)
structure SW (B : Nat) (W : World) (sb n : Nat) (X : Sx) (kk : Nat) (F : Nat → Prop) (m : Nat → Nat × List (Ky × Nat)) (g rb : Nat) (v : Value) : Prop where
  sv : SV W sb n m X.K kk
  rp : RP B W sb g n rb v X.bg X.R X.L
  rbne : ∀ i, i < n → (m i).1 ≠ rb
  bgk : X.bg ≤ kk
  len : X.L.length ≤ kk
  fs : F sb
  fg : F g
  fm : ∀ i, i < n → F (m i).1
  fr : F rb
  fv : ∀ x, v.ownBlock = some x → F x
  fc : ∀ k c, lk (m (si k n)).2 k = some c → F c ∧ ∀ u, W.cell? ⟨c, 0, none⟩ = some u → ∀ x, u.ownBlock = some x → F x
  fb : ∀ x, F x → B ≤ x ∧ x < W.heap.size
  sh : ∀ i, i < n → ∀ p ∈ (m i).2, si p.1 n = i
  nn : ∀ k c, lk (m (si k n)).2 k = some c → X.K k ≠ []
  tot : ((List.range n).map fun i => (m i).2.length).sum ≤ kk
def SO (B : Nat) (W : World) (sb n : Nat) (X : Sx) (kk : Nat) (F : Nat → Prop) : Prop := ∃ m g rb v, SW B W sb n X kk F m g rb v
/-- The shards' row is the header's. -/
theorem SW.arr {B : Nat} {W : World} {sb n : Nat} {X : Sx} {kk : Nat} {F : Nat → Prop} {m : Nat → Nat × List (Ky × Nat)} {g rb : Nat} {v : Value} (h : SW B W sb n X kk F m g rb v) : ∃ arr, W.heap[g]? = some (.cells arr 51 (0, 0)) ∧ ∀ i, i < n → arr[i]? = some (.map (some (m i).1)) := by
  obtain ⟨g', x1, x2, x3, h1, arr, h2, h3⟩ := h.sv.st.hdr
  rw [h.rp.hdr] at h1
  injection h1 with h1
  injection h1 with h1
  simp at h1
  obtain ⟨rfl, _⟩ := h1
  exact ⟨arr, h2, h3⟩
/-- A store stays as it is where its blocks do. -/
theorem SW.kept {B : Nat} {W W' : World} {sb n : Nat} {X : Sx} {kk : Nat} {F : Nat → Prop} {m : Nat → Nat × List (Ky × Nat)} {g rb : Nat} {v : Value} (h : SW B W sb n X kk F m g rb v) (hk : ∀ x, F x → W'.heap[x]? = W.heap[x]?) (hs : W.heap.size ≤ W'.heap.size) : SW B W' sb n X kk F m g rb v := by
  have hcell : ∀ c, F c → ∀ off, W'.cell? ⟨c, off, none⟩ = W.cell? ⟨c, off, none⟩ := fun c hc off => World.cell?_of_block (hk c hc)
  have hch : ∀ k c, lk (m (si k n)).2 k = some c → CH W' c c (X.K k) := fun k c hc => by
    have hf := h.fc k c hc
    obtain ⟨q1, u, em, hh, ho, hn⟩ := h.sv.ch k c hc
    refine ⟨q1, u, em, (hk c hf.1).trans hh, ho.kept (fun x hx => hk x (hf.2 u (by rw [cell_of_row W c 0 _ _ _ hh]; rfl) x hx)), hn⟩
  obtain ⟨arr, h2, h3⟩ := h.arr
  have hd := h.rp.hdr
  refine ⟨⟨⟨⟨g, _, _, _, (hk sb h.fs).trans hd, arr, (hk g h.fg).trans h2, h3⟩, fun i hi => (h.sv.st.mb i hi).kept (hk _ (h.fm i hi)), h.sv.st.ne, h.sv.st.lo, h.sv.st.hi⟩, hch, h.sv.no, h.sv.lv, fun k k' c c' e h1 h2 => ⟨(h.sv.ne k k' c c' e h1 h2).1, (h.sv.ne k k' c c' e h1 h2).2.same (hcell c (h.fc k c h1).1 0) (hcell c' (h.fc k' c' h2).1 0)⟩⟩,
    ⟨(hk sb h.fs).trans hd, h.rp.row.kept (fun x hx => hk x (h.fv x hx)), h.rp.rm.kept (hk rb h.fr), h.rp.rs, h.rp.bgl⟩, h.rbne, h.bgk, h.len, h.fs, h.fg, h.fm, h.fr, h.fv, fun k c hc => ⟨(h.fc k c hc).1, fun u hu => (h.fc k c hc).2 u (by rw [← hcell c (h.fc k c hc).1 0]; exact hu)⟩, fun x hx => ⟨(h.fb x hx).1, Nat.lt_of_lt_of_le (h.fb x hx).2 hs⟩, h.sh, h.nn, h.tot⟩
theorem SO.kept {B : Nat} {W W' : World} {sb n : Nat} {X : Sx} {kk : Nat} {F : Nat → Prop} (h : SO B W sb n X kk F) (hk : ∀ x, F x → W'.heap[x]? = W.heap[x]?) (hs : W.heap.size ≤ W'.heap.size) : SO B W' sb n X kk F := by
  obtain ⟨m, g, rb, v, h⟩ := h
  exact ⟨m, g, rb, v, h.kept hk hs⟩
theorem SO.fb {B : Nat} {W : World} {sb n : Nat} {X : Sx} {kk : Nat} {F : Nat → Prop} (h : SO B W sb n X kk F) : ∀ x, F x → B ≤ x ∧ x < W.heap.size := by
  obtain ⟨m, g, rb, v, h⟩ := h
  exact h.fb
theorem SO.later {B : Nat} {W W' : World} {sb n : Nat} {X : Sx} {kk : Nat} {F : Nat → Prop} (h : SO B W sb n X kk F) (hb : Below W.heap.size W W') : SO B W' sb n X kk F :=
  h.kept (fun x hx => hb.block x (h.fb x hx).2) hb.size
theorem SO.size {B : Nat} {W : World} {sb n : Nat} {X : Sx} {kk : Nat} {F : Nat → Prop} (h : SO B W sb n X kk F) : B ≤ W.heap.size := by
  obtain ⟨m, g, rb, v, h⟩ := h
  have := h.fb sb h.fs; omega
/-- More blocks may be its own. -/
theorem SW.more {B : Nat} {W : World} {sb n : Nat} {X : Sx} {kk : Nat} {F F' : Nat → Prop} {m : Nat → Nat × List (Ky × Nat)} {g rb : Nat} {v : Value} (h : SW B W sb n X kk F m g rb v) (hf : ∀ x, F x → F' x) (hb : ∀ x, F' x → B ≤ x ∧ x < W.heap.size) : SW B W sb n X kk F' m g rb v :=
  ⟨h.sv, h.rp, h.rbne, h.bgk, h.len, hf _ h.fs, hf _ h.fg, fun i hi => hf _ (h.fm i hi), hf _ h.fr, fun x hx => hf _ (h.fv x hx), fun k c hc => ⟨hf _ (h.fc k c hc).1, fun u hu x hx => hf _ ((h.fc k c hc).2 u hu x hx)⟩, hb, h.sh, h.nn, h.tot⟩
theorem SV.upk {W : World} {sb n : Nat} {m : Nat → Nat × List (Ky × Nat)} {K : Ky → List Ver} {kk : Nat} (h : SV W sb n m K kk) : SV W sb n m K (kk + 1) := ⟨h.st, h.ch, h.no, fun k => (h.lv k).up, h.ne⟩
theorem SO.up {B : Nat} {W : World} {sb n : Nat} {X : Sx} {kk : Nat} {F : Nat → Prop} (h : SO B W sb n X kk F) : SO B W sb n X (kk + 1) F := by
  obtain ⟨m, g, rb, v, h⟩ := h
  exact ⟨m, g, rb, v, h.sv.upk, h.rp, h.rbne, Nat.le_succ_of_le h.bgk, Nat.le_succ_of_le h.len, h.fs, h.fg, h.fm, h.fr, h.fv, h.fc, h.fb, h.sh, h.nn, Nat.le_succ_of_le h.tot⟩
/-- A new store. -/
def newX : Sx := ⟨fun _ => [], 0, [], []⟩
theorem newO_any (s : Int) (n B : Nat) (w : World) (hn : (n : Int) = cnt s) (hB : B ≤ w.heap.size) :
    Calls Tryz.prog 5 #[.int .i64 s] w fun e w' => ∃ sb, e = .returned (.pointer (some ⟨sb, 0, none⟩)) ∧ SO B w' sb n newX 0 (fun x => w.heap.size ≤ x ∧ x < w'.heap.size) ∧ Below w.heap.size w w' := by
  refine (newSt_any s n w hn).mono ?_
  rintro e w' ⟨sb, m, hsb, rfl, hS, hm, hlo, hb, g, rb, h1, h2, h3, h4, h5⟩
  have hl : ∀ k c, lk (m (si k n)).2 k = some c → False := fun k c hc => by rw [hm] at hc; cases hc
  obtain ⟨g', x1, x2, x3, q1, arr, q2, q3⟩ := id hS.hdr
  have eg : g' = g := by
    rw [h1] at q1
    injection q1 with q1
    injection q1 with q1
    simp at q1
    exact q1.1.symm
  subst eg
  refine ⟨sb, rfl, ⟨m, g', rb, _, ⟨hS, fun k c hc => (hl k c hc).elim, fun _ _ => rfl, fun _ => LK.nil, fun k k' c c' _ hc _ => (hl k c hc).elim⟩, ⟨h1, OR.nil _ _ _ _, ⟨#[], 0, [], h2, rfl, List.Perm.refl _, (fun p hp => by cases hp), List.nodup_nil⟩, RS.nil, fun p hp => by cases hp⟩, h5, Nat.le_refl _, Nat.le_refl _,
    ⟨hsb, (Array.getElem?_eq_some_iff.1 h1).1⟩, ⟨h3, (Array.getElem?_eq_some_iff.1 q2).1⟩, fun i hi => ⟨hlo i hi, (hS.mb i hi).lt⟩, ⟨h4, (Array.getElem?_eq_some_iff.1 h2).1⟩, (fun x hx => by cases hx), fun k c hc => (hl k c hc).elim, fun x hx => ⟨Nat.le_trans hB hx.1, hx.2⟩, (fun i _ p hp => by rw [hm] at hp; cases hp), (fun k c hc => (hl k c hc).elim), by simp only [hm, List.length_nil]; exact Nat.le_of_eq (sum0 n)⟩, hb⟩
end Go.Proofs.YtehacdijleommaaGreatDoor.CI
