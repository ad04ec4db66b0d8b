/-
  My own text: SN12, SN13 in one.
-/
import Derived.Test.YtehacdijleommaaGreatDoorSN11
import Derived.Test.YtehacdijleommaaGreatDoorSM5
namespace Go.Proofs.YtehacdijleommaaGreatDoor
open Go.RowKit Go.Extern Go.MapKept Go.ChangeMaps

theorem ask_any (d : Cl) (B sb n kk : Nat) (X : Sx) (F : Nat → Prop) (w : World) (HE : Hid (∀ w', Below B w w' → ErrType w')) (h : SO B w sb n X kk F) (hk : KOK d.k) (hI : IOK d.N) (hN : d.N ≤ 9223372036854775807) (hl : kk ≤ 5864062014803) :
    Calls Tryz.prog 10 #[.pointer (some ⟨sb, 0, none⟩), .agg (clc d)] w fun e w' => (∃ s x b, e = .returned (.agg #[.string s, .int .i64 x, .bool b]) ∧ (d.kind = 0 → s = ⟨#[]⟩ ∧ x = peR d.N (X.K d.k) ∧ b = true)) ∧ SO B w' sb n (X.ask d) (kk + 1) (gw F w w') ∧ FB w w' F (gw F w w') := by
  obtain ⟨on, kind, k, N, V⟩ := d
  unfold clc Sx.ask
  dsimp only at hk hI hN ⊢
  by_cases h0 : kind = 0
  · subst h0
    refine (ask_put on k N V B sb n kk X F w HE h hk hN hl).mono ?_
    rintro e w' ⟨rfl, r⟩
    exact ⟨⟨_, _, _, rfl, fun _ => ⟨rfl, rfl, rfl⟩⟩, by rw [if_pos rfl]; exact r⟩
  rw [if_neg h0]
  by_cases h1 : kind = 1
  · subst h1
    refine (ask_at on k N V B sb n kk X F w h hk hl).mono ?_
    rintro e w' ⟨rfl, r⟩
    exact ⟨⟨_, _, _, rfl, fun e => absurd e h0⟩, by rw [if_neg (by decide), if_neg (by decide), if_neg (by decide)]; exact r⟩
  by_cases h2 : kind = 2
  · subst h2
    refine (ask_last on k N V B sb n kk X F w h hk hl).mono ?_
    rintro e w' ⟨rfl, r⟩
    exact ⟨⟨_, _, _, rfl, fun e => absurd e h0⟩, by rw [if_neg (by decide), if_neg (by decide), if_neg (by decide)]; exact r⟩
  by_cases h4 : kind = 4
  · subst h4
    refine (ask_open on k N V B sb n kk X F w h hl).mono ?_
    rintro e w' ⟨rfl, r⟩
    exact ⟨⟨_, _, _, rfl, fun e => absurd e h0⟩, by rw [if_pos rfl]; exact r⟩
  rw [if_neg h4]
  by_cases h5 : kind = 5
  · subst h5
    refine (ask_close on k N V B sb n kk X F w h hI hl).mono ?_
    rintro e w' ⟨rfl, r⟩
    exact ⟨⟨_, _, _, rfl, fun e => absurd e h0⟩, by rw [if_pos rfl]; exact r⟩
  rw [if_neg h5]
  by_cases h6 : kind = 6
  · subst h6
    refine (ask_old on k N V B sb n kk X F w h hl).mono ?_
    rintro e w' ⟨rfl, r⟩
    exact ⟨⟨_, _, _, rfl, fun e => absurd e h0⟩, by rw [if_neg (by decide)]; exact r⟩
  by_cases h7 : kind = 7
  · subst h7
    refine (ask_prune on k N V B sb n kk X F w h hk hl).mono ?_
    rintro e w' ⟨rfl, r⟩
    exact ⟨⟨_, _, _, rfl, fun e => absurd e h0⟩, by rw [if_pos rfl]; exact r⟩
  rw [if_neg h7]
  by_cases h8 : kind = 8
  · subst h8
    refine (ask_ver on k N V B sb n kk X F w h).mono ?_
    rintro e w' ⟨⟨s, x, b, rfl⟩, r⟩
    exact ⟨⟨_, _, _, rfl, fun e => absurd e h0⟩, r⟩
  refine (ask_rest on kind k N V B sb n kk X F w h ⟨h0, h1, h2, h4, h5, h6, h7, h8⟩).mono ?_
  rintro e w' ⟨rfl, r⟩
  exact ⟨⟨_, _, _, rfl, fun e => absurd e h0⟩, r⟩
/-- What a call answers. -/
def Sx.ans (X : Sx) (n : Nat) (d : Cl) : List UInt8 × Int × Bool :=
  if d.kind = 0 then ([], peR d.N (X.K d.k), true) else if d.kind = 1 then (atS d.N (X.K d.k), 0, atB d.N (X.K d.k)) else if d.kind = 2 then ((laP (X.K d.k)).2, (laP (X.K d.k)).1, laB (X.K d.k))
  else if d.kind = 4 then ([], (X.bg : Int) + 1, false) else if d.kind = 5 then ([], 0, (X.R.find? fun p => p.1 == d.N).isSome) else if d.kind = 6 then ([], oldR d.N X.L, false)
  else if d.kind = 7 then ([], ((ab (oldR d.N X.L) (X.K d.k) - 1 : Nat) : Int), false) else ([], (n : Int), false)
def ansV (a : List UInt8 × Int × Bool) : Value := .agg #[.string ⟨a.1.toArray⟩, .int .i64 a.2.1, .bool a.2.2]
/-- Any call but Versions, to the letter. -/
theorem ask_ans (d : Cl) (B sb n kk : Nat) (X : Sx) (F : Nat → Prop) (w : World) (HE : Hid (∀ w', Below B w w' → ErrType w')) (h : SO B w sb n X kk F) (hk : KOK d.k) (hI : IOK d.N) (hN : d.N ≤ 9223372036854775807) (hl : kk ≤ 5864062014803) (h8 : d.kind ≠ 8) :
    Calls Tryz.prog 10 #[.pointer (some ⟨sb, 0, none⟩), .agg (clc d)] w fun e w' => e = .returned (ansV (X.ans n d)) ∧ SO B w' sb n (X.ask d) (kk + 1) (gw F w w') ∧ FB w w' F (gw F w w') := by
  obtain ⟨on, kind, k, N, V⟩ := d
  unfold clc Sx.ask Sx.ans
  dsimp only at hk hI hN h8 ⊢
  by_cases h0 : kind = 0
  · subst h0; exact ask_put on k N V B sb n kk X F w HE h hk hN hl
  by_cases h1 : kind = 1
  · subst h1; exact ask_at on k N V B sb n kk X F w h hk hl
  by_cases h2 : kind = 2
  · subst h2; exact ask_last on k N V B sb n kk X F w h hk hl
  by_cases h4 : kind = 4
  · subst h4; exact ask_open on k N V B sb n kk X F w h hl
  by_cases h5 : kind = 5
  · subst h5; exact ask_close on k N V B sb n kk X F w h hI hl
  by_cases h6 : kind = 6
  · subst h6; exact ask_old on k N V B sb n kk X F w h hl
  by_cases h7 : kind = 7
  · subst h7; exact ask_prune on k N V B sb n kk X F w h hk hl
  simp only [if_neg h0, if_neg h1, if_neg h2, if_neg h4, if_neg h5, if_neg h6, if_neg h7]
  exact ask_rest on kind k N V B sb n kk X F w h ⟨h0, h1, h2, h4, h5, h6, h7, h8⟩
/-- A row of calls in memory. -/
def RCl (w : World) (v : Value) (ps : List Cl) : Prop := ∃ a cap, v = .slice a ps.length cap ∧ ∀ (i : Nat) (p : Cl), ps[i]? = some p → ∃ g off, a = some ⟨g, off, none⟩ ∧ w.cell? ⟨g, off + i * 6, none⟩ = some (.int .i64 p.on) ∧ w.cell? ⟨g, off + i * 6 + 1, none⟩ = some (.int .i64 p.kind) ∧ w.cell? ⟨g, off + i * 6 + 2, none⟩ = some (.int .i64 p.k.1) ∧ w.cell? ⟨g, off + i * 6 + 3, none⟩ = some (.int .i64 p.k.2) ∧ w.cell? ⟨g, off + i * 6 + 4, none⟩ = some (.int .i64 p.N) ∧ w.cell? ⟨g, off + i * 6 + 5, none⟩ = some (.string ⟨p.V.toArray⟩)
theorem RCl.below {w w' : World} {v : Value} {ps : List Cl} (h : RCl w v ps) (hb : Below w.heap.size w w') : RCl w' v ps := by
  obtain ⟨a, cap, hv, h1⟩ := h
  refine ⟨a, cap, hv, fun i p hp => ?_⟩
  obtain ⟨g, off, e, c0, c1, c2, c3, c4, c5⟩ := h1 i p hp
  have hlt := World.block_lt_of_cell? _ _ c0
  have hc : ∀ o, w'.cell? ⟨g, o, none⟩ = w.cell? ⟨g, o, none⟩ := fun o => hb.cell (p := ⟨g, o, none⟩) hlt
  exact ⟨g, off, e, (hc _).trans c0, (hc _).trans c1, (hc _).trans c2, (hc _).trans c3, (hc _).trans c4, (hc _).trans c5⟩
end Go.Proofs.YtehacdijleommaaGreatDoor
namespace Go.Proofs.YtehacdijleommaaGreatDoor
open Go.RowKit Go.Extern Go.MapKept Go.ChangeMaps

/-- Two stores, apart. -/
structure TW (B : Nat) (W : World) (sa sc n kx ky : Nat) (X Y : Sx) (F G : Nat → Prop) : Prop where
  x : SO B W sa n X kx F
  y : SO B W sc n Y ky G
  ap : ∀ z, F z → ¬ G z
theorem TW.later {B : Nat} {W W' : World} {sa sc n kx ky : Nat} {X Y : Sx} {F G : Nat → Prop} (h : TW B W sa sc n kx ky X Y F G) (hb : Below W.heap.size W W') : TW B W' sa sc n kx ky X Y F G := ⟨h.x.later hb, h.y.later hb, h.ap⟩
theorem TW.onX {B : Nat} {W W' : World} {sa sc n kx ky kx' : Nat} {X X' Y : Sx} {F F' G : Nat → Prop} (h : TW B W sa sc n kx ky X Y F G) (hx : SO B W' sa n X' kx' F') (hf : FB W W' F F') : TW B W' sa sc n kx' ky X' Y F' G :=
  ⟨hx, h.y.kept (fun z hz => hf.block z (h.y.fb z hz).2 (fun hF => h.ap z hF hz)) hf.size, fun z hz hg => by
    rcases hf.grow z hz with h1 | h1
    · exact h.ap z h1 hg
    · have := (h.y.fb z hg).2; omega⟩
theorem TW.onY {B : Nat} {W W' : World} {sa sc n kx ky ky' : Nat} {X Y Y' : Sx} {F G G' : Nat → Prop} (h : TW B W sa sc n kx ky X Y F G) (hy : SO B W' sc n Y' ky' G') (hf : FB W W' G G') : TW B W' sa sc n kx ky' X Y' F G' :=
  ⟨h.x.kept (fun z hz => hf.block z (h.x.fb z hz).2 (fun hG => h.ap z hz hG)) hf.size, hy, fun z hz hg => by
    rcases hf.grow z hg with h1 | h1
    · exact h.ap z hz h1
    · have := (h.x.fb z hz).2; omega⟩
theorem TW.belowX {B : Nat} {W W' : World} {sa sc n kx ky : Nat} {X Y : Sx} {F F' G : Nat → Prop} (h : TW B W sa sc n kx ky X Y F G) (hf : FB W W' F F') : Below B W W' := hf.below (fun z hz => (h.x.fb z hz).1) h.x.size
theorem TW.belowY {B : Nat} {W W' : World} {sa sc n kx ky : Nat} {X Y : Sx} {F G G' : Nat → Prop} (h : TW B W sa sc n kx ky X Y F G) (hf : FB W W' G G') : Below B W W' := hf.below (fun z hz => (h.y.fb z hz).1) h.y.size
theorem SO.rs {B : Nat} {W : World} {sb n : Nat} {X : Sx} {kk : Nat} {F : Nat → Prop} (h : SO B W sb n X kk F) : RS X.R X.L := by
  obtain ⟨m, g, rb, v, h⟩ := h
  exact h.rp.rs
theorem SO.ris {B : Nat} {W : World} {sb n : Nat} {X : Sx} {kk : Nat} {F : Nat → Prop} (h : SO B W sb n X kk F) (k : Ky) : Ris (X.K k) := by
  obtain ⟨m, g, rb, v, h⟩ := h
  exact (h.sv.lv k).ris
/-- Behind the reader's beginning. -/
structure RK (q own : Int) (X Y : Sx) : Prop where
  pos : 1 ≤ own
  has : (own, q) ∈ X.R
  dr : ∀ j, DR q (X.K j) (Y.K j)
/-- Ahead of round k. -/
structure RJ (k A : Nat) (q own : Int) (X Y : Sx) (kx ky : Nat) : Prop where
  low : k ≤ A → X = Y ∧ own = 0 ∧ kx ≤ k ∧ ky ≤ k
  high : A < k → RK q own X Y ∧ kx ≤ k + 1 ∧ ky ≤ k + 1
/-- Within it. -/
structure MJ (k A : Nat) (q own : Int) (X Y : Sx) (kx ky : Nat) : Prop where
  low : k < A → X = Y ∧ own = 0 ∧ kx ≤ k ∧ ky ≤ k
  high : A ≤ k → RK q own X Y ∧ kx ≤ k + 1 ∧ ky ≤ k + 1
theorem RJ.start (A : Nat) (q : Int) : RJ 0 A q 0 newX newX 0 0 := ⟨fun _ => ⟨rfl, rfl, Nat.le_refl _, Nat.le_refl _⟩, fun h => absurd h (by omega)⟩
theorem RJ.mid {k A : Nat} {q own : Int} {X Y : Sx} {kx ky : Nat} (h : RJ k A q own X Y kx ky) (hne : k ≠ A) : MJ k A q own X Y kx ky := ⟨fun hl => h.low (by omega), fun hl => h.high (by omega)⟩
theorem RJ.opens {k : Nat} {q own : Int} {X Y : Sx} {kx ky : Nat} (h : RJ k k q own X Y kx ky) : MJ k k q ((X.bg : Int) + 1) (X.opn q) (Y.opn q) (kx + 1) (ky + 1) ∧ Y.bg = X.bg := by
  obtain ⟨rfl, rfl, h3, h4⟩ := h.low (Nat.le_refl _)
  exact ⟨⟨fun hl => absurd hl (by omega), fun _ => ⟨⟨by omega, List.mem_cons_self .., fun j => DR.refl _ _⟩, by omega, by omega⟩⟩, rfl⟩
theorem MJ.skip {k A : Nat} {q own : Int} {X Y : Sx} {kx ky : Nat} (h : MJ k A q own X Y kx ky) : RJ (k + 1) A q own X Y kx ky :=
  ⟨fun hl => by obtain ⟨h1, h2, h3, h4⟩ := h.low (by omega); exact ⟨h1, h2, by omega, by omega⟩, fun hl => by obtain ⟨h1, h3, h4⟩ := h.high (by omega); exact ⟨h1, by omega, by omega⟩⟩
theorem MJ.few {k A : Nat} {q own : Int} {X Y : Sx} {kx ky : Nat} (h : MJ k A q own X Y kx ky) : kx ≤ k + 1 ∧ ky ≤ k + 1 := by
  by_cases hl : k < A
  · obtain ⟨_, _, h3, h4⟩ := h.low hl; omega
  · obtain ⟨_, h3, h4⟩ := h.high (by omega); omega
theorem MJ.same {k A : Nat} {q own : Int} {X Y : Sx} {kx ky : Nat} (h : MJ k A q own X Y kx ky) (N : Int) (j : Ky) : peR N (X.K j) = peR N (Y.K j) := by
  by_cases hl : k < A
  · obtain ⟨rfl, _⟩ := h.low hl; rfl
  · obtain ⟨h1, _⟩ := h.high (by omega)
    unfold peR; rw [(h1.dr j).last.1]
theorem cls_K (X : Sx) (r : Int) : (X.cls r).K = X.K := by unfold Sx.cls; split <;> rfl
theorem cls_R {X : Sx} {r : Int} {p : Int × Int} (hp : p ∈ X.R) (hr : p.1 ≠ r) : p ∈ (X.cls r).R := by
  unfold Sx.cls; split
  · exact endR_mem.2 ⟨hp, hr⟩
  · exact hp
/-- A call of both. -/
theorem MJ.both {k A : Nat} {q own : Int} {X Y : Sx} {kx ky : Nat} (h : MJ k A q own X Y kx ky) (hr : ∀ j, Ris (Y.K j)) (d : Cl) (h5 : ¬ (d.kind = 5 ∧ d.N = own)) (h7 : d.kind = 7 → k < A) : RJ (k + 1) A q own (X.ask d) (Y.ask d) (kx + 1) (ky + 1) := by
  refine ⟨fun hl => ?_, fun hl => ?_⟩
  · obtain ⟨rfl, h2, h3, h4⟩ := h.low (by omega)
    exact ⟨rfl, h2, by omega, by omega⟩
  · obtain ⟨h1, h3, h4⟩ := h.high (by omega)
    refine ⟨?_, by omega, by omega⟩
    unfold Sx.ask
    by_cases e0 : d.kind = 0
    · rw [if_pos e0, if_pos e0]
      refine ⟨h1.pos, h1.has, fun j => ?_⟩
      show DR q (upK X.K d.k (ptL d.N d.V (X.K d.k)) j) (upK Y.K d.k (ptL d.N d.V (Y.K d.k)) j)
      by_cases e : j = d.k
      · rw [e, upK_same, upK_same]; exact (h1.dr d.k).put (hr d.k)
      · rw [upK_other e, upK_other e]; exact h1.dr j
    rw [if_neg e0, if_neg e0]
    by_cases e4 : d.kind = 4
    · rw [if_pos e4, if_pos e4]
      exact ⟨h1.pos, List.mem_cons_of_mem _ h1.has, h1.dr⟩
    rw [if_neg e4, if_neg e4]
    by_cases e5 : d.kind = 5
    · rw [if_pos e5, if_pos e5]
      refine ⟨h1.pos, cls_R h1.has (fun e => h5 ⟨e5, e.symm⟩), fun j => ?_⟩
      rw [cls_K, cls_K]; exact h1.dr j
    rw [if_neg e5, if_neg e5]
    by_cases e7 : d.kind = 7
    · have := h7 e7; omega
    rw [if_neg e7, if_neg e7]
    exact h1
/-- A pruning of the first alone. -/
theorem MJ.one {k A : Nat} {q own : Int} {X Y : Sx} {kx ky : Nat} (h : MJ k A q own X Y kx ky) (hs : RS X.R X.L) (hr : ∀ j, Ris (Y.K j)) (d : Cl) (h7 : d.kind = 7) (hA : A ≤ k) : RJ (k + 1) A q own (X.ask d) Y (kx + 1) ky := by
  refine ⟨fun hl => absurd hl (by omega), fun _ => ?_⟩
  obtain ⟨h1, h3, h4⟩ := h.high hA
  refine ⟨?_, by omega, by omega⟩
  unfold Sx.ask
  rw [if_neg (by omega), if_neg (by omega), if_neg (by omega), if_pos h7]
  refine ⟨h1.pos, h1.has, fun j => ?_⟩
  show DR q (upK X.K d.k ((X.K d.k).drop (ab (oldR d.N X.L) (X.K d.k) - 1)) j) (Y.K j)
  by_cases e : j = d.k
  · rw [e, upK_same]; exact (h1.dr d.k).prune (hr d.k) (hs.old h1.has d.N)
  · rw [upK_other e]; exact h1.dr j
/-- What is seen. -/
theorem RJ.seen {k A : Nat} {q own : Int} {X Y : Sx} {kx ky : Nat} (h : RJ k A q own X Y kx ky) (hr : ∀ j, Ris (Y.K j)) (hA : A < k) : ∀ j z, q ≤ z → atS z (X.K j) = atS z (Y.K j) ∧ atB z (X.K j) = atB z (Y.K j) := fun j _ hz => ((h.high hA).1.dr j).at (hr j) hz
theorem Tryz.neqS (x : Int) (w : World) : (binOp .neq 36 (.agg #[.string ⟨#[]⟩, .int .i64 x, .bool true]) (.agg #[.string ⟨#[]⟩, .int .i64 x, .bool true])).run Tryz.prog w = .ok (.bool false) w := by
  simp [go_sem]
theorem clc_cells {W : World} {cb : Nat} {d : Cl} (h : W.heap[cb]? = some (.cells (clc d) 31 (0, 0))) : W.cell? ⟨cb, 0, none⟩ = some (.int .i64 d.on) ∧ W.cell? ⟨cb, 1, none⟩ = some (.int .i64 d.kind) ∧ W.cell? ⟨cb, 2, none⟩ = some (.int .i64 d.k.1) ∧ W.cell? ⟨cb, 3, none⟩ = some (.int .i64 d.k.2) ∧ W.cell? ⟨cb, 4, none⟩ = some (.int .i64 d.N) ∧ W.cell? ⟨cb, 5, none⟩ = some (.string ⟨d.V.toArray⟩) := by
  refine ⟨?_, ?_, ?_, ?_, ?_, ?_⟩
  · rw [cell_of_row _ _ 0 _ _ _ h]; rfl
  · rw [cell_of_row _ _ 1 _ _ _ h]; rfl
  · rw [cell_of_row _ _ 2 _ _ _ h]; rfl
  · rw [cell_of_row _ _ 3 _ _ _ h]; rfl
  · rw [cell_of_row _ _ 4 _ _ _ h]; rfl
  · rw [cell_of_row _ _ 5 _ _ _ h]; rfl
end Go.Proofs.YtehacdijleommaaGreatDoor
