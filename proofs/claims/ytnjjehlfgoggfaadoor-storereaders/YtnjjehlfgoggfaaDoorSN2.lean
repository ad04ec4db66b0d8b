/-
  My own text: SR2, SN2 in one.
-/
import Derived.Test.YtnjjehlfgoggfaaDoorHC20
import Derived.Test.YtnjjehlfgoggfaaDoorHD3
import Derived.Test.YtnjjehlfgoggfaaDoorSN0
namespace Go.Proofs.YtnjjehlfgoggfaaDoor

/-- Of A less is left than of B; what counts at n, and above, is left. -/
def DR (n : Int) (A B : List Ver) : Prop := ∃ d, A = B.drop d ∧ d ≤ ab n B - 1
theorem DR.refl (n : Int) (B : List Ver) : DR n B B := ⟨0, by rw [List.drop_zero], Nat.zero_le _⟩
theorem DR.last {n : Int} {A B : List Ver} (h : DR n A B) : lastN A = lastN B ∧ laP A = laP B ∧ laB A = laB B := by
  obtain ⟨d, rfl, hd⟩ := h
  have hle := ab_le n B
  have hm : d = 0 ∨ d < B.length := by omega
  refine ⟨?_, la_pr hm⟩
  rcases hm with rfl | hm
  · rw [List.drop_zero]
  · unfold lastN
    rw [List.length_drop, List.getElem?_drop, show d + (B.length - d - 1) = B.length - 1 by omega]
theorem DR.ris {n : Int} {A B : List Ver} (h : DR n A B) (hr : Ris B) : Ris A := by
  obtain ⟨d, rfl, _⟩ := h
  exact hr.drop d
theorem DR.put {n m : Int} {s : List UInt8} {A B : List Ver} (h : DR n A B) (hr : Ris B) : DR n (ptL m s A) (ptL m s B) := by
  have hl := h.last.1
  unfold ptL
  rw [hl]
  split
  · rename_i hm
    obtain ⟨d, rfl, hd⟩ := h
    have hle := ab_le n B
    refine ⟨d, ?_, ?_⟩
    · rw [List.drop_append_of_le_length (by omega)]
    · have hs := ab_snoc n B (m, s) (fun q hq => by
        obtain ⟨i, hi⟩ := List.getElem?_of_mem hq
        exact lastN_all hr hm i q hi)
      rw [hs]
      split <;> omega
  · exact h
theorem DR.prune {n o : Int} {A B : List Ver} (h : DR n A B) (hr : Ris B) (ho : o ≤ n) : DR n (A.drop (ab o A - 1)) B := by
  obtain ⟨d, rfl, hd⟩ := h
  refine ⟨d + (ab o (B.drop d) - 1), by rw [List.drop_drop], ?_⟩
  have h1 := ab_drop o B d hr
  have h2 := ab_mono ho B
  omega
theorem DR.at {n q : Int} {A B : List Ver} (h : DR n A B) (hr : Ris B) (hq : n ≤ q) : atS q A = atS q B ∧ atB q A = atB q B := by
  obtain ⟨d, rfl, hd⟩ := h
  have h1 := ab_mono hq B
  have h2 := ab_drop q B d hr
  rcases Nat.eq_zero_or_pos d with h0 | h0
  · rw [h0, List.drop_zero]; exact ⟨rfl, rfl⟩
  · unfold atS atB
    rw [h2, if_neg (show ¬ ab q B - d = 0 by omega), if_neg (show ¬ ab q B = 0 by omega), List.getElem?_drop, show d + (ab q B - d - 1) = ab q B - 1 by omega]
    exact ⟨rfl, by rw [decide_eq_true (show 0 < ab q B - d by omega), decide_eq_true (show 0 < ab q B by omega)]⟩
/-- What is left behind a pruning at n: one at most that isn't above n. -/
theorem prune_few {n : Int} {B : List Ver} (hr : Ris B) : ab n (B.drop (ab n B - 1)) ≤ 1 := by
  have := ab_drop n B (ab n B - 1) hr
  omega
/-- And to prune again forgets nothing. -/
theorem prune_twice {n : Int} {B : List Ver} (hr : Ris B) : ab n (B.drop (ab n B - 1)) - 1 = 0 := by
  have := prune_few (n := n) hr
  omega
end Go.Proofs.YtnjjehlfgoggfaaDoor
namespace Go.Proofs.YtnjjehlfgoggfaaDoor
open Go.RowKit Go.Extern Go.MapKept Go.ChangeMaps

/-- A store: what its keys hold, how many readers have begun, those that read, and the numbers that are read. -/
structure Sx where
  K : Ky → List Ver
  bg : Nat
  R : List (Int × Int)
  L : List Int
def upK (K : Ky → List Ver) (k : Ky) (l : List Ver) : Ky → List Ver := fun j => if j = k then l else K j
theorem upK_same (K : Ky → List Ver) (k : Ky) (l : List Ver) : upK K k l k = l := if_pos rfl
theorem upK_other {K : Ky → List Ver} {k j : Ky} {l : List Ver} (h : j ≠ k) : upK K k l j = K j := if_neg h
/-- What changed: blocks of F, and new ones. -/
structure FB (W w' : World) (F F' : Nat → Prop) : Prop where
  os : w'.os = W.os
  tape : w'.tape = W.tape
  output : w'.output = W.output
  size : W.heap.size ≤ w'.heap.size
  block : ∀ x, x < W.heap.size → ¬ F x → w'.heap[x]? = W.heap[x]?
  grow : ∀ x, F' x → F x ∨ W.heap.size ≤ x
theorem FB.trans {A B C : World} {F F1 F2 : Nat → Prop} (h : FB A B F F1) (k : FB B C F1 F2) : FB A C F F2 :=
  ⟨k.os.trans h.os, k.tape.trans h.tape, k.output.trans h.output, Nat.le_trans h.size k.size, fun x hx hf => (k.block x (Nat.lt_of_lt_of_le hx h.size) (fun h1 => by rcases h.grow x h1 with h2 | h2; exact hf h2; omega)).trans (h.block x hx hf),
   fun x h2 => by
    rcases k.grow x h2 with h3 | h3
    · exact h.grow x h3
    · exact .inr (Nat.le_trans h.size h3)⟩
theorem FB.of_below {W w' : World} (h : Below W.heap.size W w') (F : Nat → Prop) : FB W w' F F := ⟨h.os, h.tape, h.output, h.size, fun x hx _ => h.block x hx, fun _ hx => .inl hx⟩
theorem FB.below {W w' : World} {F F' : Nat → Prop} {B : Nat} (h : FB W w' F F') (hB : ∀ x, F x → B ≤ x) (hs : B ≤ W.heap.size) : Below B W w' :=
  ⟨h.os, h.tape, h.output, h.size, fun x hx => h.block x (by omega) (fun hf => by have := hB x hf; omega)⟩
/-- F, and all that has been made since. -/
def gw (F : Nat → Prop) (W w' : World) : Nat → Prop := fun x => F x ∨ (W.heap.size ≤ x ∧ x < w'.heap.size)
theorem gw_grow {F : Nat → Prop} {W w' : World} : ∀ x, gw F W w' x → F x ∨ W.heap.size ≤ x := fun _ h => by
  rcases h with h | h
  · exact .inl h
  · exact .inr h.1
/-- The readers' part. -/
structure RP (B : Nat) (W : World) (sb g n rb : Nat) (v : Value) (bg : Nat) (R : List (Int × Int)) (L : List Int) : Prop where
  hdr : W.heap[sb]? = some (.cells #[.slice (some ⟨g, 0, none⟩) n n, .int .i64 (bg : Int), .map (some rb), v] 49 (0, 0))
  row : OR W B 3 1 v L.length (ic L)
  rm : RM W rb R
  rs : RS R L
  bgl : ∀ p ∈ R, 1 ≤ p.1 ∧ p.1 ≤ (bg : Int)
structure SW (B : Nat) (W : World) (sb n : Nat) (X : Sx) (kk : Nat) (F : Nat → Prop) (m : Nat → Nat × List (Ky × Nat)) (g rb : Nat) (v : Value) : Prop where
  sv : SV W sb n m X.K kk
  rp : RP B W sb g n rb v X.bg X.R X.L
  rbne : ∀ i, i < n → (m i).1 ≠ rb
  bgk : X.bg ≤ kk
  len : X.L.length ≤ kk
  fs : F sb
  fg : F g
  fm : ∀ i, i < n → F (m i).1
  fr : F rb
  fv : ∀ x, v.ownBlock = some x → F x
  fc : ∀ k c, lk (m (si k n)).2 k = some c → F c ∧ ∀ u, W.cell? ⟨c, 0, none⟩ = some u → ∀ x, u.ownBlock = some x → F x
  fb : ∀ x, F x → B ≤ x ∧ x < W.heap.size
  sh : ∀ i, i < n → ∀ p ∈ (m i).2, si p.1 n = i
def SO (B : Nat) (W : World) (sb n : Nat) (X : Sx) (kk : Nat) (F : Nat → Prop) : Prop := ∃ m g rb v, SW B W sb n X kk F m g rb v
/-- The shards' row is the header's. -/
theorem SW.arr {B : Nat} {W : World} {sb n : Nat} {X : Sx} {kk : Nat} {F : Nat → Prop} {m : Nat → Nat × List (Ky × Nat)} {g rb : Nat} {v : Value} (h : SW B W sb n X kk F m g rb v) : ∃ arr, W.heap[g]? = some (.cells arr 50 (0, 0)) ∧ ∀ i, i < n → arr[i]? = some (.map (some (m i).1)) := by
  obtain ⟨g', x1, x2, x3, h1, arr, h2, h3⟩ := h.sv.st.hdr
  rw [h.rp.hdr] at h1
  injection h1 with h1
  injection h1 with h1
  simp at h1
  obtain ⟨rfl, _⟩ := h1
  exact ⟨arr, h2, h3⟩
/-- A store stays as it is where its blocks do. -/
theorem SW.kept {B : Nat} {W W' : World} {sb n : Nat} {X : Sx} {kk : Nat} {F : Nat → Prop} {m : Nat → Nat × List (Ky × Nat)} {g rb : Nat} {v : Value} (h : SW B W sb n X kk F m g rb v) (hk : ∀ x, F x → W'.heap[x]? = W.heap[x]?) (hs : W.heap.size ≤ W'.heap.size) : SW B W' sb n X kk F m g rb v := by
  have hcell : ∀ c, F c → ∀ off, W'.cell? ⟨c, off, none⟩ = W.cell? ⟨c, off, none⟩ := fun c hc off => World.cell?_of_block (hk c hc)
  have hch : ∀ k c, lk (m (si k n)).2 k = some c → CH W' c c (X.K k) := fun k c hc => by
    have hf := h.fc k c hc
    obtain ⟨q1, u, em, hh, ho, hn⟩ := h.sv.ch k c hc
    refine ⟨q1, u, em, (hk c hf.1).trans hh, ho.kept (fun x hx => hk x (hf.2 u (by rw [cell_of_row W c 0 _ _ _ hh]; rfl) x hx)), hn⟩
  obtain ⟨arr, h2, h3⟩ := h.arr
  have hd := h.rp.hdr
  refine ⟨⟨⟨⟨g, _, _, _, (hk sb h.fs).trans hd, arr, (hk g h.fg).trans h2, h3⟩, fun i hi => (h.sv.st.mb i hi).kept (hk _ (h.fm i hi)), h.sv.st.ne, h.sv.st.lo, h.sv.st.hi⟩, hch, h.sv.no, h.sv.lv, fun k k' c c' e h1 h2 => ⟨(h.sv.ne k k' c c' e h1 h2).1, (h.sv.ne k k' c c' e h1 h2).2.same (hcell c (h.fc k c h1).1 0) (hcell c' (h.fc k' c' h2).1 0)⟩⟩,
    ⟨(hk sb h.fs).trans hd, h.rp.row.kept (fun x hx => hk x (h.fv x hx)), h.rp.rm.kept (hk rb h.fr), h.rp.rs, h.rp.bgl⟩, h.rbne, h.bgk, h.len, h.fs, h.fg, h.fm, h.fr, h.fv, fun k c hc => ⟨(h.fc k c hc).1, fun u hu => (h.fc k c hc).2 u (by rw [← hcell c (h.fc k c hc).1 0]; exact hu)⟩, fun x hx => ⟨(h.fb x hx).1, Nat.lt_of_lt_of_le (h.fb x hx).2 hs⟩, h.sh⟩
theorem SO.kept {B : Nat} {W W' : World} {sb n : Nat} {X : Sx} {kk : Nat} {F : Nat → Prop} (h : SO B W sb n X kk F) (hk : ∀ x, F x → W'.heap[x]? = W.heap[x]?) (hs : W.heap.size ≤ W'.heap.size) : SO B W' sb n X kk F := by
  obtain ⟨m, g, rb, v, h⟩ := h
  exact ⟨m, g, rb, v, h.kept hk hs⟩
theorem SO.fb {B : Nat} {W : World} {sb n : Nat} {X : Sx} {kk : Nat} {F : Nat → Prop} (h : SO B W sb n X kk F) : ∀ x, F x → B ≤ x ∧ x < W.heap.size := by
  obtain ⟨m, g, rb, v, h⟩ := h
  exact h.fb
theorem SO.later {B : Nat} {W W' : World} {sb n : Nat} {X : Sx} {kk : Nat} {F : Nat → Prop} (h : SO B W sb n X kk F) (hb : Below W.heap.size W W') : SO B W' sb n X kk F :=
  h.kept (fun x hx => hb.block x (h.fb x hx).2) hb.size
theorem SO.size {B : Nat} {W : World} {sb n : Nat} {X : Sx} {kk : Nat} {F : Nat → Prop} (h : SO B W sb n X kk F) : B ≤ W.heap.size := by
  obtain ⟨m, g, rb, v, h⟩ := h
  have := h.fb sb h.fs; omega
/-- More blocks may be its own. -/
theorem SW.more {B : Nat} {W : World} {sb n : Nat} {X : Sx} {kk : Nat} {F F' : Nat → Prop} {m : Nat → Nat × List (Ky × Nat)} {g rb : Nat} {v : Value} (h : SW B W sb n X kk F m g rb v) (hf : ∀ x, F x → F' x) (hb : ∀ x, F' x → B ≤ x ∧ x < W.heap.size) : SW B W sb n X kk F' m g rb v :=
  ⟨h.sv, h.rp, h.rbne, h.bgk, h.len, hf _ h.fs, hf _ h.fg, fun i hi => hf _ (h.fm i hi), hf _ h.fr, fun x hx => hf _ (h.fv x hx), fun k c hc => ⟨hf _ (h.fc k c hc).1, fun u hu x hx => hf _ ((h.fc k c hc).2 u hu x hx)⟩, hb, h.sh⟩
theorem SV.upk {W : World} {sb n : Nat} {m : Nat → Nat × List (Ky × Nat)} {K : Ky → List Ver} {kk : Nat} (h : SV W sb n m K kk) : SV W sb n m K (kk + 1) := ⟨h.st, h.ch, h.no, fun k => (h.lv k).up, h.ne⟩
theorem SO.up {B : Nat} {W : World} {sb n : Nat} {X : Sx} {kk : Nat} {F : Nat → Prop} (h : SO B W sb n X kk F) : SO B W sb n X (kk + 1) F := by
  obtain ⟨m, g, rb, v, h⟩ := h
  exact ⟨m, g, rb, v, h.sv.upk, h.rp, h.rbne, Nat.le_succ_of_le h.bgk, Nat.le_succ_of_le h.len, h.fs, h.fg, h.fm, h.fr, h.fv, h.fc, h.fb, h.sh⟩
/-- A new store. -/
def newX : Sx := ⟨fun _ => [], 0, [], []⟩
theorem newO_any (s : Int) (n B : Nat) (w : World) (hn : (n : Int) = cnt s) (hB : B ≤ w.heap.size) :
    Calls Tryd.prog 5 #[.int .i64 s] w fun e w' => ∃ sb, e = .returned (.pointer (some ⟨sb, 0, none⟩)) ∧ SO B w' sb n newX 0 (fun x => w.heap.size ≤ x ∧ x < w'.heap.size) ∧ Below w.heap.size w w' := by
  refine (newSt_any s n w hn).mono ?_
  rintro e w' ⟨sb, m, hsb, rfl, hS, hm, hlo, hb, g, rb, h1, h2, h3, h4, h5⟩
  have hl : ∀ k c, lk (m (si k n)).2 k = some c → False := fun k c hc => by rw [hm] at hc; cases hc
  obtain ⟨g', x1, x2, x3, q1, arr, q2, q3⟩ := id hS.hdr
  have eg : g' = g := by
    rw [h1] at q1
    injection q1 with q1
    injection q1 with q1
    simp at q1
    exact q1.1.symm
  subst eg
  refine ⟨sb, rfl, ⟨m, g', rb, _, ⟨hS, fun k c hc => (hl k c hc).elim, fun _ _ => rfl, fun _ => LK.nil, fun k k' c c' _ hc _ => (hl k c hc).elim⟩, ⟨h1, OR.nil _ _ _ _, ⟨#[], 0, [], h2, rfl, List.Perm.refl _, (fun p hp => by cases hp), List.nodup_nil⟩, RS.nil, fun p hp => by cases hp⟩, h5, Nat.le_refl _, Nat.le_refl _,
    ⟨hsb, (Array.getElem?_eq_some_iff.1 h1).1⟩, ⟨h3, (Array.getElem?_eq_some_iff.1 q2).1⟩, fun i hi => ⟨hlo i hi, (hS.mb i hi).lt⟩, ⟨h4, (Array.getElem?_eq_some_iff.1 h2).1⟩, (fun x hx => by cases hx), fun k c hc => (hl k c hc).elim, fun x hx => ⟨Nat.le_trans hB hx.1, hx.2⟩, fun i _ p hp => by rw [hm] at hp; cases hp⟩, hb⟩
end Go.Proofs.YtnjjehlfgoggfaaDoor
