/-
  My own text: layer 15: PrioHeaps: two heaps, two rows of the document, and what Sorted has told.
-/
import Derived.Test.YtegemfkadclnkaaPS1
import Derived.Test.YtegemfkadclnkaaPB4
namespace Go.Proofs.Ytegemfkadclnkaa
open Go.RowKit Go.Extern

/-- Where things lie: the two arrays of pointers, the heaps with their less functions, the document's rows. -/
structure Cn where
  hx : Nat
  rx : Nat
  hb : Bool → Nat
  lb : Bool → Nat
  rb : Bool → Nat
  bh : Bool → Nat
  br : Bool → Nat
def lfB (f : Bool) : FuncId := if f then 6 else 5
theorem lfB_ok (f : Bool) : LOk (lfB f) (kB f) := by
  cases f
  · exact rises_ok
  · exact falls_ok
def HCp (c : Cn) (f : Bool) (v : Value) (R : List En) (N : Nat) : Cp := ⟨fun g => g = c.hb f ∨ g = c.lb f ∨ v.ownBlock = some g, fun w => HQ w (c.bh f) (c.hb f) (c.lb f) (lfB f) (kB f) v R N⟩
theorem HCp.ok (c : Cn) (f : Bool) (v : Value) (R : List En) (N : Nat) : (HCp c f v R N).Ok := by
  refine ⟨fun w w' h hs hk => HQ.keep h hs hk, fun w h g hg => ?_⟩
  rcases hg with rfl | rfl | hg
  · obtain ⟨cs, hh⟩ := HQ.hdr h; exact (Array.getElem?_eq_some_iff.1 hh).1
  · exact (Array.getElem?_eq_some_iff.1 (HQ.les h)).1
  · obtain ⟨_, cs, hh⟩ := HQ.own h g hg; exact (Array.getElem?_eq_some_iff.1 hh).1
def RCp (c : Cn) (f : Bool) (v : Value) (R : List En) : Cp := ⟨fun g => g = c.rb f ∨ v.ownBlock = some g, fun w => RQ w (c.br f) (c.rb f) f v R⟩
theorem RCp.ok (c : Cn) (f : Bool) (v : Value) (R : List En) : (RCp c f v R).Ok := by
  refine ⟨fun w w' h hs hk => RQ.keep h hs hk, fun w h g hg => ?_⟩
  rcases hg with rfl | hg
  · exact (Array.getElem?_eq_some_iff.1 h.hdr).1
  · exact (World.ownsRow.lt h.row g hg).2
/-- What Sorted has told. -/
structure TLk (w : World) (B : Nat) (vt : Value) (TL : List (Value × List Pr)) : Prop where
  row : w.ownsRow B 29 1 vt TL.length (TL.map (·.1))
  own : ∀ u ∈ TL, OM w B u.1 u.2
  ap : ∀ (i j : Nat) (u u' : Value × List Pr) (g : Nat), TL[i]? = some u → TL[j]? = some u' → u.1.ownBlock = some g → u'.1.ownBlock = some g → i = j
  len : ∀ u ∈ TL, u.2.length ≤ 8796093022000
def TCp (B : Nat) (vt : Value) (TL : List (Value × List Pr)) : Cp := ⟨fun g => vt.ownBlock = some g ∨ ∃ u ∈ TL, u.1.ownBlock = some g, fun w => TLk w B vt TL⟩
theorem TCp.ok (B : Nat) (vt : Value) (TL : List (Value × List Pr)) : (TCp B vt TL).Ok := by
  refine ⟨fun w w' h _ hk => ⟨owns_later h.row (fun g hg => hk g (.inl hg)), fun u hu => owns_later (h.own u hu) (fun g hg => hk g (.inr ⟨u, hu, hg⟩)), h.ap, h.len⟩, fun w h g hg => ?_⟩
  rcases hg with hg | ⟨u, hu, hg⟩
  · exact (World.ownsRow.lt h.row g hg).2
  · exact (World.ownsRow.lt (h.own u hu) g hg).2
def pP (b : Nat) : Value := .pointer (some ⟨b, 0, none⟩)
def bs (B : Nat) (c : Cn) (vh : Bool → Value) (RH : Bool → List En) (N : Bool → Nat) (vr : Bool → Value) (RD : Bool → List En) (vt : Value) (TL : List (Value × List Pr)) : List Cp :=
  [HCp c false (vh false) (RH false) (N false), HCp c true (vh true) (RH true) (N true), BCp c.hx #[.pointer (some ⟨c.hb false, 0, none⟩), .pointer (some ⟨c.hb true, 0, none⟩)] 27,
   RCp c false (vr false) (RD false), RCp c true (vr true) (RD true), BCp c.rx #[.pointer (some ⟨c.rb false, 0, none⟩), .pointer (some ⟨c.rb true, 0, none⟩)] 32, TCp B vt TL]
/-- The law's memory. -/
structure PH (w0 w : World) (c : Cn) (vh : Bool → Value) (RH : Bool → List En) (N : Bool → Nat) (vr : Bool → Value) (RD : Bool → List En) (vt : Value) (TL : List (Value × List Pr)) (ex : List Cp) : Prop where
  sep : Sep w0 w (bs w0.heap.size c vh RH N vr RD vt TL ++ ex)
def up {α : Type} (f : Bool) (x : α) (g : Bool → α) : Bool → α := fun b => if b = f then x else g b
theorem up_self {α : Type} (f : Bool) (g : Bool → α) : up f (g f) g = g := by
  funext b; unfold up; split
  · next h => rw [h]
  · rfl
theorem up_at {α : Type} (f : Bool) (x : α) (g : Bool → α) : up f x g f = x := by unfold up; rw [if_pos rfl]
section
variable {w0 w w' : World} {c : Cn} {vh : Bool → Value} {RH : Bool → List En} {N : Bool → Nat} {vr : Bool → Value} {RD : Bool → List En} {vt : Value} {TL : List (Value × List Pr)} {ex : List Cp}
theorem PH.bl (h : PH w0 w c vh RH N vr RD vt TL ex) : Below w0.heap.size w0 w := h.sep.bl
theorem PH.later (h : PH w0 w c vh RH N vr RD vt TL ex) (hb : Below w.heap.size w w') : PH w0 w' c vh RH N vr RD vt TL ex := ⟨h.sep.later hb⟩
theorem PH.hq (h : PH w0 w c vh RH N vr RD vt TL ex) (f : Bool) : HQ w (c.bh f) (c.hb f) (c.lb f) (lfB f) (kB f) (vh f) (RH f) (N f) := by
  cases f
  · exact h.sep.is 0 _ rfl
  · exact h.sep.is 1 _ rfl
theorem PH.rq (h : PH w0 w c vh RH N vr RD vt TL ex) (f : Bool) : RQ w (c.br f) (c.rb f) f (vr f) (RD f) := by
  cases f
  · exact h.sep.is 3 _ rfl
  · exact h.sep.is 4 _ rfl
theorem PH.tl (h : PH w0 w c vh RH N vr RD vt TL ex) : TLk w w0.heap.size vt TL := h.sep.is 6 _ rfl
theorem PH.hxc (h : PH w0 w c vh RH N vr RD vt TL ex) : w.heap[c.hx]? = some (.cells #[.pointer (some ⟨c.hb false, 0, none⟩), .pointer (some ⟨c.hb true, 0, none⟩)] 27 (0, 0)) := h.sep.is 2 _ rfl
theorem PH.rxc (h : PH w0 w c vh RH N vr RD vt TL ex) : w.heap[c.rx]? = some (.cells #[.pointer (some ⟨c.rb false, 0, none⟩), .pointer (some ⟨c.rb true, 0, none⟩)] 32 (0, 0)) := h.sep.is 5 _ rfl
theorem PH.hxf (h : PH w0 w c vh RH N vr RD vt TL ex) (f : Bool) : w.cell? ⟨c.hx, f.toNat, none⟩ = some (.pointer (some ⟨c.hb f, 0, none⟩)) := by
  cases f
  · rw [show (false : Bool).toNat = 0 from rfl, cell_of_row _ _ 0 _ _ _ h.hxc]; rfl
  · rw [show (true : Bool).toNat = 1 from rfl, cell_of_row _ _ 1 _ _ _ h.hxc]; rfl
theorem PH.rxf (h : PH w0 w c vh RH N vr RD vt TL ex) (f : Bool) : w.cell? ⟨c.rx, f.toNat, none⟩ = some (.pointer (some ⟨c.rb f, 0, none⟩)) := by
  cases f
  · rw [show (false : Bool).toNat = 0 from rfl, cell_of_row _ _ 0 _ _ _ h.rxc]; rfl
  · rw [show (true : Bool).toNat = 1 from rfl, cell_of_row _ _ 1 _ _ _ h.rxc]; rfl
theorem PH.setH (h : PH w0 w c vh RH N vr RD vt TL ex) (f : Bool) {v' : Value} {R' : List En} {N' : Nat} (hf : Fq w w' (c.hb f) (vh f) v') (hq : HQ w' (c.bh f) (c.hb f) (c.lb f) (lfB f) (kB f) v' R' N') : PH w0 w' c (up f v' vh) (up f R' RH) (up f N' N) vr RD vt TL ex := by
  cases f
  · exact ⟨h.sep.step (i := 0) (c' := HCp c false v' R' N') rfl (FS.of_fq hf (.inl rfl) (fun g hg => .inr (.inr hg))) (HCp.ok _ _ _ _ _) hq (fun g hg => hg.elim (fun e => .inl (.inl e)) (fun e => e.elim (fun e => .inl (.inr (.inl e))) (fun e => (hf.own g e).elim (fun e => .inl (.inr (.inr e))) .inr)))⟩
  · exact ⟨h.sep.step (i := 1) (c' := HCp c true v' R' N') rfl (FS.of_fq hf (.inl rfl) (fun g hg => .inr (.inr hg))) (HCp.ok _ _ _ _ _) hq (fun g hg => hg.elim (fun e => .inl (.inl e)) (fun e => e.elim (fun e => .inl (.inr (.inl e))) (fun e => (hf.own g e).elim (fun e => .inl (.inr (.inr e))) .inr)))⟩
theorem PH.setR (h : PH w0 w c vh RH N vr RD vt TL ex) (f : Bool) {v' : Value} {R' : List En} (hf : Fq w w' (c.rb f) (vr f) v') (hq : RQ w' (c.br f) (c.rb f) f v' R') : PH w0 w' c vh RH N (up f v' vr) (up f R' RD) vt TL ex := by
  cases f
  · exact ⟨h.sep.step (i := 3) (c' := RCp c false v' R') rfl (FS.of_fq hf (.inl rfl) (fun g hg => .inr hg)) (RCp.ok _ _ _ _) hq (fun g hg => hg.elim (fun e => .inl (.inl e)) (fun e => (hf.own g e).elim (fun e => .inl (.inr e)) .inr))⟩
  · exact ⟨h.sep.step (i := 4) (c' := RCp c true v' R') rfl (FS.of_fq hf (.inl rfl) (fun g hg => .inr hg)) (RCp.ok _ _ _ _) hq (fun g hg => hg.elim (fun e => .inl (.inl e)) (fun e => (hf.own g e).elim (fun e => .inl (.inr e)) .inr))⟩
theorem PH.box (h : PH w0 w c vh RH N vr RD vt TL ex) (xs : Array Value) (t : TypeId) : PH w0 (w.alloc (.cells xs t)) c vh RH N vr RD vt TL (ex ++ [BCp w.heap.size xs t]) := ⟨h.sep.box xs t⟩
theorem PH.setB (h : PH w0 w c vh RH N vr RD vt TL ex) {i b : Nat} {xs : Array Value} {t : TypeId} (hi : ex[i]? = some (BCp b xs t)) (ys : Array Value) : PH w0 (w.setRow b ys) c vh RH N vr RD vt TL (ex.set i (BCp b ys t)) := ⟨h.sep.setBox (i := i + 7) hi ys⟩
theorem PH.bx (h : PH w0 w c vh RH N vr RD vt TL ex) {i b : Nat} {xs : Array Value} {t : TypeId} (hi : ex[i]? = some (BCp b xs t)) : w.heap[b]? = some (.cells xs t (0, 0)) := h.sep.is (i + 7) _ hi
theorem PH.drop {ds : List Cp} (h : PH w0 w c vh RH N vr RD vt TL (ex ++ ds)) : PH w0 w c vh RH N vr RD vt TL ex := ⟨Sep.front (cs := bs w0.heap.size c vh RH N vr RD vt TL ++ ex) (ds := ds) h.sep⟩
theorem PH.bare (h : PH w0 w c vh RH N vr RD vt TL ex) : PH w0 w c vh RH N vr RD vt TL [] := PH.drop (ex := []) (ds := ex) h
theorem PH.row (h : PH w0 w c vh RH N vr RD vt TL ex) (hb : Below w.heap.size w w') {v : Value} {L : List Pr} (ho : OM w' w.heap.size v L) : PH w0 w' c vh RH N vr RD vt TL (ex ++ [OCp w0.heap.size v L]) :=
  ⟨h.sep.new (c := OCp w0.heap.size v L) hb (OCp.ok _ _ _) (owns_low ho h.sep.bl.size) (fun g hg => (World.ownsRow.lt ho g hg).1)⟩
theorem PH.om (h : PH w0 w c vh RH N vr RD vt TL ex) {i : Nat} {v : Value} {L : List Pr} (hi : ex[i]? = some (OCp w0.heap.size v L)) : OM w w0.heap.size v L := h.sep.is (i + 7) _ hi
/-- What Sorted answered is told. -/
theorem PH.tell {v vt' : Value} {L : List Pr} (h : PH w0 w c vh RH N vr RD vt TL (ex ++ [OCp w0.heap.size v L])) (ho : w'.ownsRow w0.heap.size 29 1 vt' (TL.length + 1) (TL.map (·.1) ++ [v])) (hg : w.grownBy w' vt.ownBlock) (hat : vt'.ownBlock = vt.ownBlock ∨ vt'.ownBlock = some w.heap.size) (hl : L.length ≤ 8796093022000) : PH w0 w' c vh RH N vr RD vt' (TL ++ [(v, L)]) ex := by
  have hO : OM w w0.heap.size v L := h.sep.is (ex.length + 7) (OCp w0.heap.size v L) (by show (ex ++ [OCp w0.heap.size v L])[ex.length]? = _; simp)
  have hdj : ∀ u ∈ TL, ∀ g, u.1.ownBlock = some g → v.ownBlock = some g → False := fun u hu g h1 h2 => h.sep.dj 6 (ex.length + 7) _ (OCp w0.heap.size v L) rfl (by show (ex ++ [OCp w0.heap.size v L])[ex.length]? = _; simp) (by omega) g (.inr ⟨u, hu, h1⟩) h2
  have hT := h.tl
  have keep : ∀ (u : Value) (K : List Pr), OM w w0.heap.size u K → OM w' w0.heap.size u K := fun u K hu => by
    obtain ⟨e1, e2, e3, e4, e5⟩ := hg
    refine owns_later hu (fun g hgu => e5 g (World.ownsRow.lt hu g hgu).2 (fun e => ?_))
    have e' : vt.ownBlock = some g := by first | exact e | exact e.symm
    obtain ⟨c1, f1, h1⟩ := ownsRow_kind hT.row g e'
    obtain ⟨c2, f2, h2⟩ := ownsRow_kind hu g hgu
    rw [h1] at h2
    injection h2 with h2
    injection h2 with _ h2 _
    exact absurd h2 (by decide)
  have hT' : TLk w' w0.heap.size vt' (TL ++ [(v, L)]) := by
    refine ⟨by rw [List.length_append, List.map_append]; exact ho, fun u hu => ?_, fun i j u u' g hi hj h1 h2 => ?_, fun u hu => ?_⟩
    · rcases List.mem_append.1 hu with hu | hu
      · exact keep _ _ (hT.own u hu)
      · rw [List.mem_singleton.1 hu]; exact keep _ _ hO
    · have cs : ∀ (i : Nat) (u : Value × List Pr), (TL ++ [(v, L)])[i]? = some u → (TL[i]? = some u) ∨ (i = TL.length ∧ u = (v, L)) := fun i u hi => by
        by_cases hlt : i < TL.length
        · rw [List.getElem?_append_left hlt] at hi; exact .inl hi
        · have := (List.getElem?_eq_some_iff.1 hi).1
          have e : i = TL.length := by simp at this; omega
          subst e
          simp at hi
          exact .inr ⟨rfl, hi.symm⟩
      rcases cs i u hi with hi | ⟨e1, rfl⟩
      · rcases cs j u' hj with hj | ⟨e2, rfl⟩
        · exact hT.ap i j u u' g hi hj h1 h2
        · exact (hdj u (List.mem_of_getElem? hi) g h1 h2).elim
      · rcases cs j u' hj with hj | ⟨e2, rfl⟩
        · exact (hdj u' (List.mem_of_getElem? hj) g h2 h1).elim
        · omega
    · rcases List.mem_append.1 hu with hu | hu
      · exact hT.len u hu
      · rw [List.mem_singleton.1 hu]; exact hl
  refine ⟨Sep.merge (cs := bs w0.heap.size c vh RH N vr RD vt TL ++ ex) (d := OCp w0.heap.size v L) (i := 6) (c := TCp w0.heap.size vt TL) (c' := TCp w0.heap.size vt' (TL ++ [(v, L)])) h.sep rfl (FS.of_gb hg (fun g hg => .inl hg)) (TCp.ok _ _ _) hT' (fun g hgg => ?_)⟩
  rcases hgg with e | ⟨u, hu, e⟩
  · rcases hat with q | q
    · exact .inl (.inl (by rw [← q]; exact e))
    · rw [q] at e; exact .inr (.inr (by have := Option.some.inj e; omega))
  · rcases List.mem_append.1 hu with hu | hu
    · exact .inl (.inr ⟨u, hu, e⟩)
    · rw [List.mem_singleton.1 hu] at e; exact .inr (.inl e)
end
end Go.Proofs.Ytegemfkadclnkaa
