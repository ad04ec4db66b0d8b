/-
  My own text: QF1, QF2 in one.
-/
import Derived.Test.YtknnojjfdfkdmaaGreatDoorQE4
import Derived.Test.YtknnojjfdfkdmaaGreatDoorQIS
import Derived.Test.YtknnojjfdfkdmaaGreatDoorQRs
namespace Go.Proofs.YtknnojjfdfkdmaaGreatDoor
open Go.RowKit Go.Extern Go.MapKept Go.ChangeMaps

/-- Lists of numbers that were told. -/
structure TIk (w : World) (B : Nat) (vt : Value) (TL : List (Value × List Int)) : Prop where
  row : w.ownsRow B 40 1 vt TL.length (TL.map (·.1))
  own : ∀ u ∈ TL, OI w B u.1 u.2
  ap : ∀ (i j : Nat) (u u' : Value × List Int) (g : Nat), TL[i]? = some u → TL[j]? = some u' → u.1.ownBlock = some g → u'.1.ownBlock = some g → i = j
  len : ∀ u ∈ TL, u.2.length ≤ 8796093022000
def TIp (B : Nat) (vt : Value) (TL : List (Value × List Int)) : Cp := ⟨fun g => vt.ownBlock = some g ∨ ∃ u ∈ TL, u.1.ownBlock = some g, fun w => TIk w B vt TL⟩
theorem TIp.ok (B : Nat) (vt : Value) (TL : List (Value × List Int)) : (TIp B vt TL).Ok := by
  refine ⟨fun w w' h _ hk => ⟨owns_blk h.row (fun g hg => hk g (.inl hg)), fun u hu => owns_blk (h.own u hu) (fun g hg => hk g (.inr ⟨u, hu, hg⟩)), h.ap, h.len⟩, fun w h g hg => ?_⟩
  rcases hg with hg | ⟨u, hu, hg⟩
  · exact (World.ownsRow.lt h.row g hg).2
  · exact (World.ownsRow.lt (h.own u hu) g hg).2
theorem TIk.nil (w : World) (B : Nat) : TIk w B (.slice none 0 0) [] := ⟨World.ownsRow_nil _ _ _ _, fun u hu => (by cases hu), fun i j u u' g hi => (by simp at hi), fun u hu => (by cases hu)⟩
theorem TIk.slc {w : World} {B : Nat} {vt : Value} {TL : List (Value × List Int)} (h : TIk w B vt TL) : ∃ a cap, vt = .slice a TL.length cap := by
  rcases h.row.2 with ⟨rfl, h0⟩ | ⟨g, cap, cur, rfl, _⟩
  · exact ⟨none, 0, by rw [h0]⟩
  · exact ⟨_, _, rfl⟩
/-- A list that was answered. -/
def OIp (B : Nat) (v : Value) (L : List Int) : Cp := ⟨fun g => v.ownBlock = some g, fun w => OI w B v L⟩
theorem OIp.ok (B : Nat) (v : Value) (L : List Int) : (OIp B v L).Ok := ⟨fun _ _ h _ hk => owns_blk h hk, fun _ h g hg => (World.ownsRow.lt h g hg).2⟩
theorem OI.kept_other {w w' : World} {B : Nat} {vt : Value} {n : Nat} {cs : List Value} {u : Value} {K : List Int} (hu : OI w B u K) (hT : w.ownsRow B 40 1 vt n cs) (hg : w.grownBy w' vt.ownBlock) : OI w' B u K := by
  obtain ⟨e1, e2, e3, e4, e5⟩ := hg
  refine owns_blk hu (fun g hgu => e5 g (World.ownsRow.lt hu g hgu).2 (fun e => ?_))
  have e' : vt.ownBlock = some g := by first | exact e | exact e.symm
  obtain ⟨c1, f1, h1⟩ := ownsRow_kind hT g e'
  obtain ⟨c2, f2, h2⟩ := ownsRow_kind hu g hgu
  rw [h1] at h2
  injection h2 with h2
  injection h2 with _ h2 _
  exact absurd h2 (by decide)
section
variable {w0 w w' : World} {cs : List Cp} {i : Nat} {vt vt' a b : Value} {TL : List (Value × List Int)} {L M : List Int}
theorem Sep.tellI (h : Sep w0 w (cs ++ [OIp w0.heap.size a L])) (hi : cs[i]? = some (TIp w0.heap.size vt TL)) (ho : w'.ownsRow w0.heap.size 40 1 vt' (TL.length + 1) (TL.map (·.1) ++ [a])) (hg : w.grownBy w' vt.ownBlock) (hat : vt'.ownBlock = vt.ownBlock ∨ vt'.ownBlock = some w.heap.size) (hl : L.length ≤ 8796093022000) : Sep w0 w' (cs.set i (TIp w0.heap.size vt' (TL ++ [(a, L)]))) := by
  have il := (List.getElem?_eq_some_iff.1 hi).1
  have it : (cs ++ [OIp w0.heap.size a L])[i]? = some (TIp w0.heap.size vt TL) := by rw [List.getElem?_append_left il]; exact hi
  have ia : (cs ++ [OIp w0.heap.size a L])[cs.length]? = some (OIp w0.heap.size a L) := by simp
  have hO : OI w w0.heap.size a L := h.is _ _ ia
  have hT : TIk w w0.heap.size vt TL := h.is _ _ it
  have hdj : ∀ u ∈ TL, ∀ g, u.1.ownBlock = some g → a.ownBlock = some g → False := fun u hu g h1 h2 => h.dj i cs.length _ _ it ia (by omega) g (.inr ⟨u, hu, h1⟩) h2
  have mem : ∀ u, u ∈ TL ++ [(a, L)] → u ∈ TL ∨ u = (a, L) := fun u hu => by simpa using hu
  have hT' : TIk w' w0.heap.size vt' (TL ++ [(a, L)]) := by
    refine ⟨by rw [List.length_append, List.map_append]; exact ho, fun u hu => ?_, fun i j u u' g hi hj h1 h2 => ?_, fun u hu => ?_⟩
    · rcases mem u hu with hu | hu
      · exact OI.kept_other (hT.own u hu) hT.row hg
      · rw [hu]; exact OI.kept_other hO hT.row hg
    · have cs : ∀ (i : Nat) (u : Value × List Int), (TL ++ [(a, L)])[i]? = some u → (TL[i]? = some u) ∨ (i = TL.length ∧ u = (a, L)) := fun i u hi => by
        by_cases hlt : i < TL.length
        · rw [List.getElem?_append_left hlt] at hi; exact .inl hi
        · have := (List.getElem?_eq_some_iff.1 hi).1
          have e : i = TL.length := by simp at this; omega
          subst e
          simp at hi
          exact .inr ⟨rfl, hi.symm⟩
      rcases cs i u hi with hi | ⟨e1, rfl⟩
      · rcases cs j u' hj with hj | ⟨e2, rfl⟩
        · exact hT.ap i j u u' g hi hj h1 h2
        · exact (hdj u (List.mem_of_getElem? hi) g h1 h2).elim
      · rcases cs j u' hj with hj | ⟨e2, rfl⟩
        · exact (hdj u' (List.mem_of_getElem? hj) g h2 h1).elim
        · omega
    · rcases mem u hu with hu | hu
      · exact hT.len u hu
      · rw [hu]; exact hl
  refine h.merge hi (FS.of_gb hg (fun g hg => .inl hg)) (TIp.ok _ _ _) hT' (fun g hgg => ?_)
  rcases hgg with e | ⟨u, hu, e⟩
  · rcases hat with q | q
    · exact .inl (.inl (by rw [← q]; exact e))
    · rw [q] at e; exact .inr (.inr (by have := Option.some.inj e; omega))
  · rcases mem u hu with hu | hu
    · exact .inl (.inr ⟨u, hu, e⟩)
    · rw [hu] at e; exact .inr (.inl e)
theorem Sep.tellI2 (h : Sep w0 w (cs ++ [OIp w0.heap.size a L, OIp w0.heap.size b M])) (hi : cs[i]? = some (TIp w0.heap.size vt TL)) (ho : w'.ownsRow w0.heap.size 40 1 vt' (TL.length + 2) (TL.map (·.1) ++ [a, b])) (hg : w.grownBy w' vt.ownBlock) (hat : vt'.ownBlock = vt.ownBlock ∨ vt'.ownBlock = some w.heap.size) (hl : L.length ≤ 8796093022000) (hm : M.length ≤ 8796093022000) : Sep w0 w' (cs.set i (TIp w0.heap.size vt' (TL ++ [(a, L), (b, M)]))) := by
  have il := (List.getElem?_eq_some_iff.1 hi).1
  have it : (cs ++ [OIp w0.heap.size a L, OIp w0.heap.size b M])[i]? = some (TIp w0.heap.size vt TL) := by rw [List.getElem?_append_left il]; exact hi
  have ia : (cs ++ [OIp w0.heap.size a L, OIp w0.heap.size b M])[cs.length]? = some (OIp w0.heap.size a L) := by simp
  have ib : (cs ++ [OIp w0.heap.size a L, OIp w0.heap.size b M])[cs.length + 1]? = some (OIp w0.heap.size b M) := by simp
  have hOa : OI w w0.heap.size a L := h.is _ _ ia
  have hOb : OI w w0.heap.size b M := h.is _ _ ib
  have hT : TIk w w0.heap.size vt TL := h.is _ _ it
  have da : ∀ u ∈ TL, ∀ g, u.1.ownBlock = some g → a.ownBlock = some g → False := fun u hu g h1 h2 => h.dj i cs.length _ _ it ia (by omega) g (.inr ⟨u, hu, h1⟩) h2
  have db : ∀ u ∈ TL, ∀ g, u.1.ownBlock = some g → b.ownBlock = some g → False := fun u hu g h1 h2 => h.dj i (cs.length + 1) _ _ it ib (by omega) g (.inr ⟨u, hu, h1⟩) h2
  have dab : ∀ g, a.ownBlock = some g → b.ownBlock = some g → False := fun g h1 h2 => h.dj cs.length (cs.length + 1) _ _ ia ib (by omega) g h1 h2
  have mem : ∀ u, u ∈ TL ++ [(a, L), (b, M)] → u ∈ TL ∨ u = (a, L) ∨ u = (b, M) := fun u hu => by simpa using hu
  have hT' : TIk w' w0.heap.size vt' (TL ++ [(a, L), (b, M)]) := by
    refine ⟨by rw [List.length_append, List.map_append]; exact ho, fun u hu => ?_, fun i j u u' g hi hj h1 h2 => ?_, fun u hu => ?_⟩
    · rcases mem u hu with hu | hu | hu
      · exact OI.kept_other (hT.own u hu) hT.row hg
      · rw [hu]; exact OI.kept_other hOa hT.row hg
      · rw [hu]; exact OI.kept_other hOb hT.row hg
    · have cs : ∀ (i : Nat) (u : Value × List Int), (TL ++ [(a, L), (b, M)])[i]? = some u → (TL[i]? = some u) ∨ (i = TL.length ∧ u = (a, L)) ∨ (i = TL.length + 1 ∧ u = (b, M)) := fun i u hi => by
        by_cases hlt : i < TL.length
        · rw [List.getElem?_append_left hlt] at hi; exact .inl hi
        · have hil := (List.getElem?_eq_some_iff.1 hi).1
          simp at hil
          rcases (show i = TL.length ∨ i = TL.length + 1 by omega) with e | e
          · subst e; simp at hi; exact .inr (.inl ⟨rfl, hi.symm⟩)
          · subst e; simp at hi; exact .inr (.inr ⟨rfl, hi.symm⟩)
      rcases cs i u hi with hi | ⟨e1, q1⟩ | ⟨e1, q1⟩
      · rcases cs j u' hj with hj | ⟨e2, q2⟩ | ⟨e2, q2⟩
        · exact hT.ap i j u u' g hi hj h1 h2
        · rw [q2] at h2; exact (da u (List.mem_of_getElem? hi) g h1 h2).elim
        · rw [q2] at h2; exact (db u (List.mem_of_getElem? hi) g h1 h2).elim
      · rw [q1] at h1
        rcases cs j u' hj with hj | ⟨e2, q2⟩ | ⟨e2, q2⟩
        · exact (da u' (List.mem_of_getElem? hj) g h2 h1).elim
        · omega
        · rw [q2] at h2; exact (dab g h1 h2).elim
      · rw [q1] at h1
        rcases cs j u' hj with hj | ⟨e2, q2⟩ | ⟨e2, q2⟩
        · exact (db u' (List.mem_of_getElem? hj) g h2 h1).elim
        · rw [q2] at h2; exact (dab g h2 h1).elim
        · omega
    · rcases mem u hu with hu | hu | hu
      · exact hT.len u hu
      · rw [hu]; exact hl
      · rw [hu]; exact hm
  refine h.merges hi (FS.of_gb hg (fun g hg => .inl hg)) (TIp.ok _ _ _) hT' (fun g hgg => ?_)
  rcases hgg with e | ⟨u, hu, e⟩
  · rcases hat with q | q
    · exact .inl (.inl (by rw [← q]; exact e))
    · rw [q] at e; exact .inr (.inr (by have := Option.some.inj e; omega))
  · rcases mem u hu with hu | hu | hu
    · exact .inl (.inr ⟨u, hu, e⟩)
    · rw [hu] at e; exact .inr (.inl ⟨OIp w0.heap.size a L, by simp, e⟩)
    · rw [hu] at e; exact .inr (.inl ⟨OIp w0.heap.size b M, by simp, e⟩)
end
theorem Sep.pick {w0 w : World} {cs ds : List Cp} (h : Sep w0 w cs) (s : Nat → Nat) (hs : ∀ i j, s i = s j → i = j) (hd : ∀ (i : Nat) (c : Cp), ds[i]? = some c → cs[s i]? = some c) : Sep w0 w ds :=
  ⟨h.bl, fun i c hi => h.ok _ c (hd i c hi), fun i c hi => h.is _ c (hd i c hi), fun i c hi => h.lo _ c (hd i c hi), fun i j c d hi hj hij => h.dj _ _ c d (hd i c hi) (hd j d hj) (fun e => hij (hs i j e))⟩
def sAdI : Value → Option Addr
  | .slice a _ _ => a
  | _ => none
def sCpI : Value → Nat
  | .slice _ _ c => c
  | _ => 0
def avOI (TL : List (Value × List Int)) (k : Nat) : Option Addr := match TL[k]? with | some u => sAdI u.1 | none => none
def avNI (TL : List (Value × List Int)) (k : Nat) : Nat := match TL[k]? with | some u => u.2.length | none => 0
def avCI (TL : List (Value × List Int)) (k : Nat) : Nat := match TL[k]? with | some u => sCpI u.1 | none => 0
def avRI (TL : List (Value × List Int)) (k : Nat) : List Int := match TL[k]? with | some u => u.2 | none => []
theorem avI_at {w : World} {B : Nat} {vt : Value} {TL : List (Value × List Int)} (h : TIk w B vt TL) {k : Nat} {u : Value × List Int} (hk : TL[k]? = some u) : u.1 = .slice (avOI TL k) (avNI TL k) (avCI TL k) ∧ avRI TL k = u.2 := by
  obtain ⟨a, cap, e⟩ := OI.slc (h.own u (List.mem_of_getElem? hk))
  refine ⟨?_, by unfold avRI; rw [hk]⟩
  have e1 : avOI TL k = a := by unfold avOI; rw [hk]; show sAdI u.1 = a; rw [e]; rfl
  have e2 : avNI TL k = u.2.length := by unfold avNI; rw [hk]
  have e3 : avCI TL k = cap := by unfold avCI; rw [hk]; show sCpI u.1 = cap; rw [e]; rfl
  rw [e1, e2, e3]; exact e
theorem TIk.cell {w : World} {B g cap : Nat} {TL : List (Value × List Int)} (h : TIk w B (.slice (some ⟨g, 0, none⟩) TL.length cap) TL) {k : Nat} {u : Value × List Int} (hk : TL[k]? = some u) : w.cell? ⟨g, k, none⟩ = some u.1 := by
  have hl := (List.getElem?_eq_some_iff.1 hk).1
  refine (h.row.cellAt k (by omega)).trans ?_
  rw [List.getElem?_map, hk]; rfl
theorem TIk.all {w : World} {B g cap : Nat} {TL : List (Value × List Int)} (h : TIk w B (.slice (some ⟨g, 0, none⟩) TL.length cap) TL) : IN.AllB w B g TL.length (avOI TL) (avNI TL) (avCI TL) (avRI TL) := by
  have ex : ∀ k, k < TL.length → ∃ u, TL[k]? = some u := fun k hk => ⟨_, List.getElem?_eq_getElem hk⟩
  refine ⟨(World.ownsRow.lt h.row g rfl).2, fun k hk => ?_, fun k hk => ?_, fun k hk => ?_, fun j k x hj hk h1 h2 => ?_⟩
  · obtain ⟨u, hu⟩ := ex k hk
    rw [← (avI_at h hu).1]; exact h.cell hu
  · obtain ⟨u, hu⟩ := ex k hk
    rw [← (avI_at h hu).1, (avI_at h hu).2]; exact h.own u (List.mem_of_getElem? hu)
  · obtain ⟨u, hu⟩ := ex k hk
    rw [← (avI_at h hu).1]
    intro e
    obtain ⟨c1, f1, h1⟩ := ownsRow_kind h.row g rfl
    obtain ⟨c2, f2, h2⟩ := ownsRow_kind (h.own u (List.mem_of_getElem? hu)) g e
    rw [h1] at h2
    injection h2 with h2
    injection h2 with _ h2 _
    exact absurd h2 (by decide)
  · obtain ⟨u, hu⟩ := ex j hj
    obtain ⟨u', hu'⟩ := ex k hk
    rw [← (avI_at h hu).1] at h1
    rw [← (avI_at h hu').1] at h2
    exact h.ap j k u u' x hu hu' h1 h2
theorem avNI_le {w : World} {B : Nat} {vt : Value} {TL : List (Value × List Int)} (h : TIk w B vt TL) (k : Nat) : avNI TL k ≤ 17592186044100 := by
  unfold avNI
  split
  · next u hu => have := h.len u (List.mem_of_getElem? hu); omega
  · omega
/-- Behind ApartInts: what was told is no one's any more. -/
theorem Sep.apartI {w0 w w' : World} {cs : List Cp} {i g n cap : Nat} {TL : List (Value × List Int)} (h : Sep w0 w cs) (hi : cs[i]? = some (TIp w0.heap.size (.slice (some ⟨g, 0, none⟩) n cap) TL)) (hs : Sp TL.length (avOI TL) (avNI TL) (avCI TL) w w') : Sep w0 w' (cs.set i noCp) := by
  refine h.step hi ⟨hs.os, hs.tape, hs.output, hs.size, fun y hy hn => hs.block y hy (fun k hk e => hn (.inr ?_))⟩ noCp_ok trivial (fun g hg => hg.elim)
  obtain ⟨u, hu⟩ : ∃ u, TL[k]? = some u := ⟨_, List.getElem?_eq_getElem hk⟩
  exact ⟨u, List.mem_of_getElem? hu, by rw [(avI_at (h.is i _ hi) hu).1]; exact e⟩
end Go.Proofs.YtknnojjfdfkdmaaGreatDoor
namespace Go.Proofs.YtknnojjfdfkdmaaGreatDoor
open Go.RowKit Go.Extern Go.MapKept Go.ChangeMaps

/-- A queue of the program's and its one of the document's. -/
structure Qf where
  O : Nat → Prop
  q : Nat
  Z : Qx
  r : Nat
  room : Int
  vl : Value
  E : List De
def upQ (f : Bool) (x : Qf) (F : Bool → Qf) : Bool → Qf := fun b => if b = f then x else F b
theorem upQ_at (f : Bool) (x : Qf) (F : Bool → Qf) : upQ f x F f = x := by unfold upQ; rw [if_pos rfl]
def bsQ (B xa ra : Nat) (F : Bool → Qf) (vo : Value) (TO : List (Value × List Int)) (vw : Value) (TW : List (Value × List Int)) : List Cp :=
  [QCp (F false).O (F false).q (F false).Z, QCp (F true).O (F true).q (F true).Z, DCp B (F false).r (F false).room (F false).vl (F false).E, DCp B (F true).r (F true).room (F true).vl (F true).E,
   BCp xa #[.pointer (some ⟨(F false).q, 0, none⟩), .pointer (some ⟨(F true).q, 0, none⟩)] 44, BCp ra #[.pointer (some ⟨(F false).r, 0, none⟩), .pointer (some ⟨(F true).r, 0, none⟩)] 47, TIp B vo TO, TIp B vw TW]
/-- The law's memory. -/
structure QL (w0 w : World) (xa ra : Nat) (F : Bool → Qf) (vo : Value) (TO : List (Value × List Int)) (vw : Value) (TW : List (Value × List Int)) (ex : List Cp) : Prop where
  sep : Sep w0 w (bsQ w0.heap.size xa ra F vo TO vw TW ++ ex)
theorem set_blkF {w : World} {g : Nat} {cs cs' : Array Value} {t : TypeId} (h : w.heap[g]? = some (.cells cs t (0, 0))) (i : Nat) (v : Value) (hc : cs.setIfInBounds i v = cs') : (w.setCell ⟨g, i, none⟩ v).heap[g]? = some (.cells cs' t (0, 0)) := by
  rw [heap_setCell_same _ _ _ _ _ _ h, hc]
section
variable {w0 w w' w1 : World} {xa ra : Nat} {F : Bool → Qf} {vo vw vt : Value} {TO TW : List (Value × List Int)} {ex : List Cp}
theorem QL.bl (h : QL w0 w xa ra F vo TO vw TW ex) : Below w0.heap.size w0 w := h.sep.bl
theorem QL.later (h : QL w0 w xa ra F vo TO vw TW ex) (hb : Below w.heap.size w w') : QL w0 w' xa ra F vo TO vw TW ex := ⟨h.sep.later hb⟩
theorem QL.qs (h : QL w0 w xa ra F vo TO vw TW ex) (f : Bool) : QS (F f).O w (F f).q (F f).Z := by
  cases f
  · exact h.sep.is 0 _ rfl
  · exact h.sep.is 1 _ rfl
theorem QL.dq (h : QL w0 w xa ra F vo TO vw TW ex) (f : Bool) : DQ w w0.heap.size (F f).r (F f).room (F f).vl (F f).E := by
  cases f
  · exact h.sep.is 2 _ rfl
  · exact h.sep.is 3 _ rfl
theorem QL.to (h : QL w0 w xa ra F vo TO vw TW ex) : TIk w w0.heap.size vo TO := h.sep.is 6 _ rfl
theorem QL.tw (h : QL w0 w xa ra F vo TO vw TW ex) : TIk w w0.heap.size vw TW := h.sep.is 7 _ rfl
theorem QL.xac (h : QL w0 w xa ra F vo TO vw TW ex) : w.heap[xa]? = some (.cells #[.pointer (some ⟨(F false).q, 0, none⟩), .pointer (some ⟨(F true).q, 0, none⟩)] 44 (0, 0)) := h.sep.is 4 _ rfl
theorem QL.rac (h : QL w0 w xa ra F vo TO vw TW ex) : w.heap[ra]? = some (.cells #[.pointer (some ⟨(F false).r, 0, none⟩), .pointer (some ⟨(F true).r, 0, none⟩)] 47 (0, 0)) := h.sep.is 5 _ rfl
theorem QL.xf (h : QL w0 w xa ra F vo TO vw TW ex) (f : Bool) : w.cell? ⟨xa, f.toNat, none⟩ = some (.pointer (some ⟨(F f).q, 0, none⟩)) ∧ w.frozen? ⟨xa, f.toNat, none⟩ = false := by
  refine ⟨?_, by simp [World.frozen?, h.xac]⟩
  cases f
  · rw [show (false : Bool).toNat = 0 from rfl, cell_of_row _ _ 0 _ _ _ h.xac]; rfl
  · rw [show (true : Bool).toNat = 1 from rfl, cell_of_row _ _ 1 _ _ _ h.xac]; rfl
theorem QL.rf (h : QL w0 w xa ra F vo TO vw TW ex) (f : Bool) : w.cell? ⟨ra, f.toNat, none⟩ = some (.pointer (some ⟨(F f).r, 0, none⟩)) ∧ w.frozen? ⟨ra, f.toNat, none⟩ = false := by
  refine ⟨?_, by simp [World.frozen?, h.rac]⟩
  cases f
  · rw [show (false : Bool).toNat = 0 from rfl, cell_of_row _ _ 0 _ _ _ h.rac]; rfl
  · rw [show (true : Bool).toNat = 1 from rfl, cell_of_row _ _ 1 _ _ _ h.rac]; rfl
theorem QL.box (h : QL w0 w xa ra F vo TO vw TW ex) (xs : Array Value) (t : TypeId) : QL w0 (w.alloc (.cells xs t)) xa ra F vo TO vw TW (ex ++ [BCp w.heap.size xs t]) := ⟨h.sep.box xs t⟩
theorem QL.bx (h : QL w0 w xa ra F vo TO vw TW ex) {i b : Nat} {xs : Array Value} {t : TypeId} (hi : ex[i]? = some (BCp b xs t)) : w.heap[b]? = some (.cells xs t (0, 0)) := h.sep.is (i + 8) _ hi
theorem QL.oi (h : QL w0 w xa ra F vo TO vw TW ex) {i : Nat} {v : Value} {L : List Int} (hi : ex[i]? = some (OIp w0.heap.size v L)) : OI w w0.heap.size v L := h.sep.is (i + 8) _ hi
theorem QL.drop {ds : List Cp} (h : QL w0 w xa ra F vo TO vw TW (ex ++ ds)) : QL w0 w xa ra F vo TO vw TW ex := ⟨Sep.front (cs := bsQ w0.heap.size xa ra F vo TO vw TW ++ ex) (ds := ds) h.sep⟩
theorem QL.bare (h : QL w0 w xa ra F vo TO vw TW ex) : QL w0 w xa ra F vo TO vw TW [] := QL.drop (ex := []) (ds := ex) h
theorem QL.row (h : QL w0 w xa ra F vo TO vw TW ex) (hb : Below w.heap.size w w') {v : Value} {L : List Int} (ho : OI w' w.heap.size v L) : QL w0 w' xa ra F vo TO vw TW (ex ++ [OIp w0.heap.size v L]) :=
  ⟨h.sep.new (c := OIp w0.heap.size v L) hb (OIp.ok _ _ _) (low_row ho h.sep.bl.size) (fun g hg => (World.ownsRow.lt ho g hg).1)⟩
theorem QL.step (h : QL w0 w xa ra F vo TO vw TW ex) (f : Bool) {n : Nat} (hS : SR (F f).Z (F f).room (F f).E n) (hn : n < 2932031007402) (hET : ErrType w0) {p : Oq} (hp : OqOk w0 p) {kd : Int} (hk : kd = 0 ∨ kd = 1 ∨ kd = 2 ∨ kd = 3 ∨ kd = 4 ∨ kd = 5) :
    Calls Tryz.prog 20 #[.pointer (some ⟨(F f).q, 0, none⟩), .pointer (some ⟨(F f).r, 0, none⟩), .agg #[.int .i64 p.on, .int .i64 p.kind, .int .i64 p.id, .slice p.ka p.ks.length p.kc], .int .i64 kd] w fun e w' => e = .returned (.bool true) ∧ ∃ x : Qf, Hid (QL w0 w' xa ra (upQ f x F) vo TO vw TW ex) ∧ Hid (SR x.Z x.room x.E (n + 1)) := by
  cases f
  · have h1 : SQ w0 w (bsQ w0.heap.size xa ra F vo TO vw TW ++ ex) 0 2 (F false).O (F false).q (F false).Z (F false).r (F false).room (F false).vl (F false).E := ⟨h.sep, by simp [bsQ], by simp [bsQ], by decide⟩
    refine (step_any w0 w _ 0 2 _ _ _ _ _ _ _ n p kd h1 hS hn hET hp hk).mono ?_
    rintro e w' ⟨rfl, O', Z', vl', E', h2, s2⟩
    exact ⟨rfl, ⟨O', (F false).q, Z', (F false).r, (F false).room, vl', E'⟩, hide ⟨h2.out.sep⟩, s2⟩
  · have h1 : SQ w0 w (bsQ w0.heap.size xa ra F vo TO vw TW ++ ex) 1 3 (F true).O (F true).q (F true).Z (F true).r (F true).room (F true).vl (F true).E := ⟨h.sep, by simp [bsQ], by simp [bsQ], by decide⟩
    refine (step_any w0 w _ 1 3 _ _ _ _ _ _ _ n p kd h1 hS hn hET hp hk).mono ?_
    rintro e w' ⟨rfl, O', Z', vl', E', h2, s2⟩
    exact ⟨rfl, ⟨O', (F true).q, Z', (F true).r, (F true).room, vl', E'⟩, hide ⟨h2.out.sep⟩, s2⟩
theorem QL.items (h : QL w0 w xa ra F vo TO vw TW ex) (f : Bool) {L : List Int} (hL : ((F f).Z.A.map fun x => ((F f).Z.T x).id) = L) :
    Calls Tryz.prog 15 #[.pointer (some ⟨(F f).q, 0, none⟩)] w fun e w' => ∃ a cap, e = .returned (.slice a L.length cap) ∧ Hid (QL w0 w' xa ra F vo TO vw TW (ex ++ [OIp w0.heap.size (.slice a L.length cap) L])) := by
  refine (itemsQ_any _ _ _ w (h.qs f)).mono ?_
  rintro e w' ⟨v', rfl, ho, hb⟩
  rw [hL] at ho
  obtain ⟨a, cap, rfl⟩ := OI.slc ho
  exact ⟨a, cap, rfl, hide (h.row hb ho)⟩
theorem QL.idle (h : QL w0 w xa ra F vo TO vw TW ex) (f : Bool) {L : List Int} (hL : (((F f).Z.A.filter fun x => ((F f).Z.T x).st == 0).map fun x => ((F f).Z.T x).id) = L) :
    Calls Tryz.prog 12 #[.pointer (some ⟨(F f).q, 0, none⟩)] w fun e w' => ∃ a cap, e = .returned (.slice a L.length cap) ∧ Hid (QL w0 w' xa ra F vo TO vw TW (ex ++ [OIp w0.heap.size (.slice a L.length cap) L])) := by
  refine (idleQ_any _ _ _ w (h.qs f)).mono ?_
  rintro e w' ⟨v', rfl, ho, hb⟩
  rw [hL] at ho
  obtain ⟨a, cap, rfl⟩ := OI.slc ho
  exact ⟨a, cap, rfl, hide (h.row hb ho)⟩
theorem QL.ritems (h : QL w0 w xa ra F vo TO vw TW ex) (f : Bool) (hr : RelD (F f).Z (F f).E) (hl : (F f).E.length ≤ 8796093022000) {L : List Int} (hL : ((F f).Z.A.map fun x => ((F f).Z.T x).id) = L) :
    Calls Tryz.prog 18 #[.pointer (some ⟨(F f).r, 0, none⟩)] w fun e w' => ∃ a cap, e = .returned (.slice a L.length cap) ∧ Hid (QL w0 w' xa ra F vo TO vw TW (ex ++ [OIp w0.heap.size (.slice a L.length cap) L])) := by
  refine (ritems_any _ _ _ _ _ w (h.dq f) hl).mono ?_
  rintro e w' ⟨v', rfl, ho, hb⟩
  rw [← hr.items, hL] at ho
  obtain ⟨a, cap, rfl⟩ := OI.slc ho
  exact ⟨a, cap, rfl, hide (h.row hb ho)⟩
theorem QL.ridles (h : QL w0 w xa ra F vo TO vw TW ex) (f : Bool) (hr : RelD (F f).Z (F f).E) (hl : (F f).E.length ≤ 8796093022000) {L : List Int} (hL : (((F f).Z.A.filter fun x => ((F f).Z.T x).st == 0).map fun x => ((F f).Z.T x).id) = L) :
    Calls Tryz.prog 19 #[.pointer (some ⟨(F f).r, 0, none⟩)] w fun e w' => ∃ a cap, e = .returned (.slice a L.length cap) ∧ Hid (QL w0 w' xa ra F vo TO vw TW (ex ++ [OIp w0.heap.size (.slice a L.length cap) L])) := by
  refine (ridles_any _ _ _ _ _ w (h.dq f) hl).mono ?_
  rintro e w' ⟨v', rfl, ho, hb⟩
  rw [← hr.idles, hL] at ho
  obtain ⟨a, cap, rfl⟩ := OI.slc ho
  exact ⟨a, cap, rfl, hide (h.row hb ho)⟩
theorem QL.tellO {a : Value} {L : List Int} (h : QL w0 w xa ra F vo TO vw TW (ex ++ [OIp w0.heap.size a L])) (ho : w'.ownsRow w0.heap.size 40 1 vt (TO.length + 1) (TO.map (·.1) ++ [a])) (hg : w.grownBy w' vo.ownBlock) (hat : vt.ownBlock = vo.ownBlock ∨ vt.ownBlock = some w.heap.size) (hl : L.length ≤ 8796093022000) : QL w0 w' xa ra F vt (TO ++ [(a, L)]) vw TW ex :=
  ⟨Sep.tellI (cs := bsQ w0.heap.size xa ra F vo TO vw TW ++ ex) (i := 6) h.sep rfl ho hg hat hl⟩
theorem QL.tellW {a : Value} {L : List Int} (h : QL w0 w xa ra F vo TO vw TW (ex ++ [OIp w0.heap.size a L])) (ho : w'.ownsRow w0.heap.size 40 1 vt (TW.length + 1) (TW.map (·.1) ++ [a])) (hg : w.grownBy w' vw.ownBlock) (hat : vt.ownBlock = vw.ownBlock ∨ vt.ownBlock = some w.heap.size) (hl : L.length ≤ 8796093022000) : QL w0 w' xa ra F vo TO vt (TW ++ [(a, L)]) ex :=
  ⟨Sep.tellI (cs := bsQ w0.heap.size xa ra F vo TO vw TW ++ ex) (i := 7) h.sep rfl ho hg hat hl⟩
theorem QL.tellO2 {a b : Value} {L M : List Int} (h : QL w0 w xa ra F vo TO vw TW (ex ++ [OIp w0.heap.size a L, OIp w0.heap.size b M])) (ho : w'.ownsRow w0.heap.size 40 1 vt (TO.length + 2) (TO.map (·.1) ++ [a, b])) (hg : w.grownBy w' vo.ownBlock) (hat : vt.ownBlock = vo.ownBlock ∨ vt.ownBlock = some w.heap.size) (hl : L.length ≤ 8796093022000) (hm : M.length ≤ 8796093022000) : QL w0 w' xa ra F vt (TO ++ [(a, L), (b, M)]) vw TW ex :=
  ⟨Sep.tellI2 (cs := bsQ w0.heap.size xa ra F vo TO vw TW ++ ex) (i := 6) h.sep rfl ho hg hat hl hm⟩
theorem QL.tellW2 {a b : Value} {L M : List Int} (h : QL w0 w xa ra F vo TO vw TW (ex ++ [OIp w0.heap.size a L, OIp w0.heap.size b M])) (ho : w'.ownsRow w0.heap.size 40 1 vt (TW.length + 2) (TW.map (·.1) ++ [a, b])) (hg : w.grownBy w' vw.ownBlock) (hat : vt.ownBlock = vw.ownBlock ∨ vt.ownBlock = some w.heap.size) (hl : L.length ≤ 8796093022000) (hm : M.length ≤ 8796093022000) : QL w0 w' xa ra F vo TO vt (TW ++ [(a, L), (b, M)]) ex :=
  ⟨Sep.tellI2 (cs := bsQ w0.heap.size xa ra F vo TO vw TW ++ ex) (i := 7) h.sep rfl ho hg hat hl hm⟩
/-- A new queue of the program's. -/
theorem QL.newX {O' : Nat → Prop} {q' : Nat} {Z' : Qx} (h : QL w0 w xa ra F vo TO vw TW ex) (f : Bool) (hb : Below w.heap.size w w1) (hq : QS O' w1 q' Z') (hO : ∀ g, O' g → w.heap.size ≤ g) :
    QL w0 (w1.setCell ⟨xa, f.toNat, none⟩ (.pointer (some ⟨q', 0, none⟩))) xa ra (upQ f ⟨O', q', Z', (F f).r, (F f).room, (F f).vl, (F f).E⟩ F) vo TO vw TW ex := by
  have hx := blk_later h.xac hb
  cases f
  · have s := h.sep.step (i := 0) (c' := QCp O' q' Z') rfl (FS.below hb) (QCp.ok _ _ _) hq (fun g hg => .inr (hO g hg))
    exact ⟨s.step (i := 4) (c := BCp xa #[.pointer (some ⟨(F false).q, 0, none⟩), .pointer (some ⟨(F true).q, 0, none⟩)] 44) (c' := BCp xa #[.pointer (some ⟨q', 0, none⟩), .pointer (some ⟨(F true).q, 0, none⟩)] 44) rfl (FS.set (O := fun g => g = xa) rfl) (BCp.ok _ _ _) (set_blkF hx 0 _ rfl) (fun _ hg => .inl hg)⟩
  · have s := h.sep.step (i := 1) (c' := QCp O' q' Z') rfl (FS.below hb) (QCp.ok _ _ _) hq (fun g hg => .inr (hO g hg))
    exact ⟨s.step (i := 4) (c := BCp xa #[.pointer (some ⟨(F false).q, 0, none⟩), .pointer (some ⟨(F true).q, 0, none⟩)] 44) (c' := BCp xa #[.pointer (some ⟨(F false).q, 0, none⟩), .pointer (some ⟨q', 0, none⟩)] 44) rfl (FS.set (O := fun g => g = xa) rfl) (BCp.ok _ _ _) (set_blkF hx 1 _ rfl) (fun _ hg => .inl hg)⟩
theorem DQ.start {w : World} {B : Nat} (hb : B ≤ w.heap.size) (rm : Int) : DQ (w.alloc (.cells #[.int .i64 rm, .slice none 0 0] 56)) B w.heap.size rm (.slice none 0 0) [] :=
  ⟨alloc_new _ _, World.ownsRow_nil _ _ _ _, fun e he => (by cases he), hb, by simp; omega⟩
/-- A new one of the document's. -/
theorem QL.newR (h : QL w0 w xa ra F vo TO vw TW ex) (f : Bool) (rm : Int) :
    QL w0 ((w.alloc (.cells #[.int .i64 rm, .slice none 0 0] 56)).setCell ⟨ra, f.toNat, none⟩ (.pointer (some ⟨w.heap.size, 0, none⟩))) xa ra (upQ f ⟨(F f).O, (F f).q, (F f).Z, w.heap.size, rm, .slice none 0 0, []⟩ F) vo TO vw TW ex := by
  have hb : Below w.heap.size w (w.alloc (.cells #[.int .i64 rm, .slice none 0 0] 56)) := (Below.refl _ _).alloc (Nat.le_refl _) _
  have hx := blk_later h.rac hb
  have hO : ∀ g, (DCp w0.heap.size w.heap.size rm (.slice none 0 0) []).O g → w.heap.size ≤ g := fun g hg => by
    rcases hg with e | e | ⟨e, he, _⟩
    · rw [e]; exact Nat.le_refl _
    · cases e
    · cases he
  cases f
  · have s := h.sep.step (i := 2) (c' := DCp w0.heap.size w.heap.size rm (.slice none 0 0) []) rfl (FS.below hb) (DCp.ok _ _ _ _ _) (DQ.start h.bl.size rm) (fun g hg => .inr (hO g hg))
    exact ⟨s.step (i := 5) (c := BCp ra #[.pointer (some ⟨(F false).r, 0, none⟩), .pointer (some ⟨(F true).r, 0, none⟩)] 47) (c' := BCp ra #[.pointer (some ⟨w.heap.size, 0, none⟩), .pointer (some ⟨(F true).r, 0, none⟩)] 47) rfl (FS.set (O := fun g => g = ra) rfl) (BCp.ok _ _ _) (set_blkF hx 0 _ rfl) (fun _ hg => .inl hg)⟩
  · have s := h.sep.step (i := 3) (c' := DCp w0.heap.size w.heap.size rm (.slice none 0 0) []) rfl (FS.below hb) (DCp.ok _ _ _ _ _) (DQ.start h.bl.size rm) (fun g hg => .inr (hO g hg))
    exact ⟨s.step (i := 5) (c := BCp ra #[.pointer (some ⟨(F false).r, 0, none⟩), .pointer (some ⟨(F true).r, 0, none⟩)] 47) (c' := BCp ra #[.pointer (some ⟨(F false).r, 0, none⟩), .pointer (some ⟨w.heap.size, 0, none⟩)] 47) rfl (FS.set (O := fun g => g = ra) rfl) (BCp.ok _ _ _) (set_blkF hx 1 _ rfl) (fun _ hg => .inl hg)⟩
end
theorem SR.start {Z : Qx} {room : Int} (hr : Z.room = max room 0) (hA : Z.A = []) (hn : Z.n = 0) (n : Nat) : SR Z (max room 0) [] n :=
  ⟨⟨by rw [hA]; rfl, fun j x p hx => by rw [hA] at hx; simp at hx⟩, hr, by rw [hA]; simp; omega, by rw [hn]; omega⟩
theorem snd_at {TO TW : List (Value × List Int)} (he : TO.map (·.2) = TW.map (·.2)) {k : Nat} {u : Value × List Int} (hu : TO[k]? = some u) : ∃ u', TW[k]? = some u' ∧ u'.2 = u.2 := by
  have h1 : (TO.map (·.2))[k]? = some u.2 := by rw [List.getElem?_map, hu]; rfl
  rw [he, List.getElem?_map] at h1
  cases hw : TW[k]? with
  | none => rw [hw] at h1; cases h1
  | some u' => rw [hw] at h1; exact ⟨u', rfl, Option.some.inj h1⟩
set_option maxRecDepth 100000 in
set_option maxHeartbeats 2000000 in
theorem sameLists_any (w : World) (B g g' cap cap' n : Nat) (TO TW : List (Value × List Int)) (hO : TIk w B (.slice (some ⟨g, 0, none⟩) TO.length cap) TO) (hW : TIk w B (.slice (some ⟨g', 0, none⟩) TW.length cap') TW) (he : TO.map (·.2) = TW.map (·.2)) (hn : TO.length = n) (hl : n ≤ 8796093022000) :
    Calls Tryz.prog 21 #[.slice (some ⟨g, 0, none⟩) n cap, .slice (some ⟨g', 0, none⟩) n cap'] w fun e w' => e = .returned (.bool true) ∧ Below w.heap.size w w' := by
  have hn' : TW.length = n := by rw [← hn]; have := congrArg List.length he; simpa using this.symm
  have HO := hide hO
  have HW := hide hW
  have HE := hide he
  have HN := hide (And.intro hn hn')
  have HL := hide hl
  clear hO hW he hn hn' hl
  have hne : ((n : Int) != (n : Int)) = false := by simp
  go_enter Tryz.func21, Tryz.ntmps21
  go_wp2_with fail
  go_loopw [5] (fun i wr => ∃ k : Nat, k ≤ n ∧ i = .int .i64 (k : Int) ∧ Hid (Below w.heap.size w wr)) (fun i _ => n - (intOf i).toNat)
  case atStart => exact ⟨0, Nat.zero_le _, rfl, hide (Below.refl _ _)⟩
  case round =>
    obtain ⟨k, hk, rfl, HB⟩ := hrel
    by_cases hlt : k < n
    · obtain ⟨u, hu⟩ : ∃ u, TO[k]? = some u := ⟨_, List.getElem?_eq_getElem (by rw [HN.out.1]; exact hlt)⟩
      obtain ⟨u', hu', hs⟩ := snd_at HE.out hu
      have z0 : wr.cell? ⟨g, k, none⟩ = some u.1 := (HB.out.cell (p := ⟨g, _, none⟩) (World.ownsRow.lt HO.out.row g rfl).2).trans (HO.out.cell hu)
      have y0 : wr.cell? ⟨g', k, none⟩ = some u'.1 := (HB.out.cell (p := ⟨g', _, none⟩) (World.ownsRow.lt HW.out.row g' rfl).2).trans (HW.out.cell hu')
      have HC := hide (fun W (hb : Below w.heap.size w W) => by
        have h1 := (OI.later (HO.out.own u (List.mem_of_getElem? hu)) hb)
        have h2 := (OI.later (HW.out.own u' (List.mem_of_getElem? hu')) hb)
        have := IN.sameM_any u.1 u'.1 u.2 u'.2 W (IN.OM.rb h1) (IN.OM.rb h2) (by have := HO.out.len u (List.mem_of_getElem? hu); omega) (by have := HW.out.len u' (List.mem_of_getElem? hu'); omega)
        rw [decide_eq_true hs.symm] at this
        exact this)
      obtain ⟨a1, h1⟩ : ∃ a, u.1 = a := ⟨_, rfl⟩
      obtain ⟨a2, h2⟩ : ∃ a, u'.1 = a := ⟨_, rfl⟩
      rw [h1] at z0 HC
      rw [h2] at y0 HC
      obtain ⟨hd1, i0, i1, wk⟩ := ix hlt HL.out
      have HLT := hide hlt
      clear hu hu' hs h1 h2 hlt
      have HGL : Hid (g < wr.heap.size ∧ g' < wr.heap.size) := hide ⟨Nat.lt_of_lt_of_le (World.ownsRow.lt HO.out.row g rfl).2 HB.out.size, Nat.lt_of_lt_of_le (World.ownsRow.lt HW.out.row g' rfl).2 HB.out.size⟩
      go_wp2_with fail
      replace HB := hide (HB.out.trans (((Below.refl wr.heap.size wr).drew).mono HB.out.size))
      replace HGL : Hid (g < wr.drew.heap.size ∧ g' < wr.drew.heap.size) := hide HGL.out
      have HC1 := hide (HC.out wr.drew HB.out)
      have hHeld : Hid (wr.drew.cell? ⟨g, k, none⟩ = some a1 ∧ wr.drew.cell? ⟨g', k, none⟩ = some a2) := hide ⟨z0, y0⟩
      --Z6
      refine s_begins (S := fun W => W.cell? ⟨g, k, none⟩ = some a1 ∧ W.cell? ⟨g', k, none⟩ = some a2) [] 10 #[false, false, false, false, false, false, false, false, false, false] (by kernel_rfl) (by kernel_rfl) (by kernel_rfl) ?_
      refine sk0 (v := ?_) 0 17 #[true, false, false, false, false, false, false, false, false, false] rfl rfl (by kernel_rfl) (by kernel_rfl) (by kernel_rfl) (by kernel_rfl) (fun _ _ _ h => h) (by kernel_rfl) (by rfl) ?hy (fun _ => hHeld.out) ?_
      case hy => intro W; first | (go_simp; done) | (go_simp; with_reducible rfl)
      simp only [List.setIfInBounds_toArray, List.set_cons_zero, List.set_cons_succ]
      refine sk0 (v := ?_) 1 18 #[true, true, false, false, false, false, false, false, false, false] rfl rfl (by kernel_rfl) (by kernel_rfl) (by kernel_rfl) (by kernel_rfl) (fun _ _ _ h => h) (by kernel_rfl) (by rfl) ?hy (fun _ => hHeld.out) ?_
      case hy => intro W; first | (go_simp; done) | (go_simp; with_reducible rfl)
      simp only [List.setIfInBounds_toArray, List.set_cons_zero, List.set_cons_succ]
      refine sk0 (v := ?_) 2 19 #[true, true, true, false, false, false, false, false, false, false] rfl rfl (by kernel_rfl) (by kernel_rfl) (by kernel_rfl) (by kernel_rfl) (fun _ _ _ h => h) (by kernel_rfl) (by rfl) ?hy (fun _ => hHeld.out) ?_
      case hy => intro W; first | (go_simp; done) | (go_simp; with_reducible rfl)
      simp only [List.setIfInBounds_toArray, List.set_cons_zero, List.set_cons_succ]
      refine sk1 (v := ?_) 3 20 #[true, true, true, true, false, false, false, false, false, false] rfl rfl (by kernel_rfl) (by kernel_rfl) (by kernel_rfl) (by kernel_rfl) (by kernel_rfl) (by kernel_rfl) (fun _ _ _ h => h) (by kernel_rfl) (by rfl) ?hy hHeld.out ?_
      case hy => rintro W ⟨e1, e2⟩; first | (go_simp; done) | (go_simp; with_reducible rfl)
      simp only [List.setIfInBounds_toArray, List.set_cons_zero, List.set_cons_succ]
      refine sk0 (v := ?_) 4 21 #[true, true, true, true, true, false, false, false, false, false] rfl rfl (by kernel_rfl) (by kernel_rfl) (by kernel_rfl) (by kernel_rfl) (fun _ _ _ h => h) (by kernel_rfl) (by rfl) ?hy (fun _ => hHeld.out) ?_
      case hy => intro W; first | (go_simp; done) | (go_simp; with_reducible rfl)
      simp only [List.setIfInBounds_toArray, List.set_cons_zero, List.set_cons_succ]
      refine sk0 (v := ?_) 5 22 #[true, true, true, true, true, true, false, false, false, false] rfl rfl (by kernel_rfl) (by kernel_rfl) (by kernel_rfl) (by kernel_rfl) (fun _ _ _ h => h) (by kernel_rfl) (by rfl) ?hy (fun _ => hHeld.out) ?_
      case hy => intro W; first | (go_simp; done) | (go_simp; with_reducible rfl)
      simp only [List.setIfInBounds_toArray, List.set_cons_zero, List.set_cons_succ]
      refine sk0 (v := ?_) 6 23 #[true, true, true, true, true, true, true, false, false, false] rfl rfl (by kernel_rfl) (by kernel_rfl) (by kernel_rfl) (by kernel_rfl) (fun _ _ _ h => h) (by kernel_rfl) (by rfl) ?hy (fun _ => hHeld.out) ?_
      case hy => intro W; first | (go_simp; done) | (go_simp; with_reducible rfl)
      simp only [List.setIfInBounds_toArray, List.set_cons_zero, List.set_cons_succ]
      refine sk1 (v := ?_) 7 24 #[true, true, true, true, true, true, true, true, false, false] rfl rfl (by kernel_rfl) (by kernel_rfl) (by kernel_rfl) (by kernel_rfl) (by kernel_rfl) (by kernel_rfl) (fun _ _ _ h => h) (by kernel_rfl) (by rfl) ?hy hHeld.out ?_
      case hy => rintro W ⟨e1, e2⟩; first | (go_simp; done) | (go_simp; with_reducible rfl)
      simp only [List.setIfInBounds_toArray, List.set_cons_zero, List.set_cons_succ]
      refine s_ready 8 #[true, true, true, true, true, true, true, true, true, false] rfl (by kernel_rfl) (by kernel_rfl) (by rfl) (fun K hK => ?_)
      go_simp
      refine HC1.out.mono ?_
      rintro e w2 ⟨rfl, b2⟩
      have HB2 := hide (HB.out.trans (b2.mono HB.out.size))
      have HS1 := hide (And.intro ((b2.cell (p := ⟨g, k, none⟩) HGL.out.1).trans hHeld.out.1) ((b2.cell (p := ⟨g', k, none⟩) HGL.out.2).trans hHeld.out.2))
      clear b2
      refine hK.out _ _ (fun _ => HS1.out) ?_
      clear hK K
      refine s_ready 9 #[true, true, true, true, true, true, true, true, true, true] rfl (by kernel_rfl) (by kernel_rfl) (by rfl) (fun K hK => ?_)
      go_simp
      refine hK.out _ _ (fun _ => HS1.out) ?_
      clear hK K
      refine s_done (by kernel_rfl) ?_ _
      --Z6 END
      clear HC1 z0 y0 HS1 hHeld
      go_wp2_with fail
      go_roundw
      case rel => exact ⟨k + 1, HLT.out, congrArg (Value.int .i64) wk, HB2⟩
      case measure => first | exact meas_up HLT.out | (rw [wk]; exact meas_up HLT.out)
    · have e : k = n := by omega
      subst e
      go_wp2_with fail
      go_ret
      exact ⟨rfl, HB.out⟩
end Go.Proofs.YtknnojjfdfkdmaaGreatDoor
