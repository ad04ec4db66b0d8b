/-
  My own text: layer 15: PrioHeaps: the end: two rows are told at once; all that was told lies apart.
-/
import Derived.Test.YtegemfkadclnkaaPS3
namespace Go.Proofs.Ytegemfkadclnkaa
open Go.RowKit Go.Extern

theorem OM.kept_other {w w' : World} {B : Nat} {vt : Value} {n : Nat} {cs : List Value} {u : Value} {K : List Pr} (hu : OM w B u K) (hT : w.ownsRow B 29 1 vt n cs) (hg : w.grownBy w' vt.ownBlock) : OM w' B u K := by
  obtain ⟨e1, e2, e3, e4, e5⟩ := hg
  refine owns_later hu (fun g hgu => e5 g (World.ownsRow.lt hu g hgu).2 (fun e => ?_))
  have e' : vt.ownBlock = some g := by first | exact e | exact e.symm
  obtain ⟨c1, f1, h1⟩ := ownsRow_kind hT g e'
  obtain ⟨c2, f2, h2⟩ := ownsRow_kind hu g hgu
  rw [h1] at h2
  injection h2 with h2
  injection h2 with _ h2 _
  exact absurd h2 (by decide)
section
variable {w0 w w' : World} {c : Cn} {vh : Bool → Value} {RH : Bool → List En} {N : Bool → Nat} {vr : Bool → Value} {RD : Bool → List En} {vt vt' : Value} {TL : List (Value × List Pr)} {ex : List Cp} {a b : Value} {L M : List Pr}
/-- Two answers of Sorted are told. -/
theorem PH.tell2 (h : PH w0 w c vh RH N vr RD vt TL (ex ++ [OCp w0.heap.size a L, OCp w0.heap.size b M])) (ho : w'.ownsRow w0.heap.size 29 1 vt' (TL.length + 2) (TL.map (·.1) ++ [a, b])) (hg : w.grownBy w' vt.ownBlock) (hat : vt'.ownBlock = vt.ownBlock ∨ vt'.ownBlock = some w.heap.size) (hl : L.length ≤ 8796093022000) (hm : M.length ≤ 8796093022000) : PH w0 w' c vh RH N vr RD vt' (TL ++ [(a, L), (b, M)]) ex := by
  have ia : (bs w0.heap.size c vh RH N vr RD vt TL ++ (ex ++ [OCp w0.heap.size a L, OCp w0.heap.size b M]))[ex.length + 7]? = some (OCp w0.heap.size a L) := by show (ex ++ [OCp w0.heap.size a L, OCp w0.heap.size b M])[ex.length]? = _; simp
  have ib : (bs w0.heap.size c vh RH N vr RD vt TL ++ (ex ++ [OCp w0.heap.size a L, OCp w0.heap.size b M]))[ex.length + 1 + 7]? = some (OCp w0.heap.size b M) := by show (ex ++ [OCp w0.heap.size a L, OCp w0.heap.size b M])[ex.length + 1]? = _; simp
  have hOa : OM w w0.heap.size a L := h.sep.is _ _ ia
  have hOb : OM w w0.heap.size b M := h.sep.is _ _ ib
  have hT := h.tl
  have da : ∀ u ∈ TL, ∀ g, u.1.ownBlock = some g → a.ownBlock = some g → False := fun u hu g h1 h2 => h.sep.dj 6 (ex.length + 7) _ (OCp w0.heap.size a L) rfl ia (by omega) g (.inr ⟨u, hu, h1⟩) h2
  have db : ∀ u ∈ TL, ∀ g, u.1.ownBlock = some g → b.ownBlock = some g → False := fun u hu g h1 h2 => h.sep.dj 6 (ex.length + 1 + 7) _ (OCp w0.heap.size b M) rfl ib (by omega) g (.inr ⟨u, hu, h1⟩) h2
  have dab : ∀ g, a.ownBlock = some g → b.ownBlock = some g → False := fun g h1 h2 => h.sep.dj (ex.length + 7) (ex.length + 1 + 7) _ _ ia ib (by omega) g h1 h2
  have keep : ∀ (u : Value) (K : List Pr), OM w w0.heap.size u K → OM w' w0.heap.size u K := fun u K hu => OM.kept_other hu hT.row hg
  have mem : ∀ u, u ∈ TL ++ [(a, L), (b, M)] → u ∈ TL ∨ u = (a, L) ∨ u = (b, M) := fun u hu => by simpa using hu
  have hT' : TLk w' w0.heap.size vt' (TL ++ [(a, L), (b, M)]) := by
    refine ⟨by rw [List.length_append, List.map_append]; exact ho, fun u hu => ?_, fun i j u u' g hi hj h1 h2 => ?_, fun u hu => ?_⟩
    · rcases mem u hu with hu | hu | hu
      · exact keep _ _ (hT.own u hu)
      · rw [hu]; exact keep _ _ hOa
      · rw [hu]; exact keep _ _ hOb
    · have cs : ∀ (i : Nat) (u : Value × List Pr), (TL ++ [(a, L), (b, M)])[i]? = some u → (TL[i]? = some u) ∨ (i = TL.length ∧ u = (a, L)) ∨ (i = TL.length + 1 ∧ u = (b, M)) := fun i u hi => by
        by_cases hlt : i < TL.length
        · rw [List.getElem?_append_left hlt] at hi; exact .inl hi
        · have hil := (List.getElem?_eq_some_iff.1 hi).1
          simp at hil
          rcases (show i = TL.length ∨ i = TL.length + 1 by omega) with e | e
          · subst e; simp at hi; exact .inr (.inl ⟨rfl, hi.symm⟩)
          · subst e; simp at hi; exact .inr (.inr ⟨rfl, hi.symm⟩)
      rcases cs i u hi with hi | ⟨e1, q1⟩ | ⟨e1, q1⟩
      · rcases cs j u' hj with hj | ⟨e2, q2⟩ | ⟨e2, q2⟩
        · exact hT.ap i j u u' g hi hj h1 h2
        · rw [q2] at h2; exact (da u (List.mem_of_getElem? hi) g h1 h2).elim
        · rw [q2] at h2; exact (db u (List.mem_of_getElem? hi) g h1 h2).elim
      · rw [q1] at h1
        rcases cs j u' hj with hj | ⟨e2, q2⟩ | ⟨e2, q2⟩
        · exact (da u' (List.mem_of_getElem? hj) g h2 h1).elim
        · omega
        · rw [q2] at h2; exact (dab g h1 h2).elim
      · rw [q1] at h1
        rcases cs j u' hj with hj | ⟨e2, q2⟩ | ⟨e2, q2⟩
        · exact (db u' (List.mem_of_getElem? hj) g h2 h1).elim
        · rw [q2] at h2; exact (dab g h2 h1).elim
        · omega
    · rcases mem u hu with hu | hu | hu
      · exact hT.len u hu
      · rw [hu]; exact hl
      · rw [hu]; exact hm
  refine ⟨Sep.merges (cs := bs w0.heap.size c vh RH N vr RD vt TL ++ ex) (ds := [OCp w0.heap.size a L, OCp w0.heap.size b M]) (i := 6) (c := TCp w0.heap.size vt TL) (c' := TCp w0.heap.size vt' (TL ++ [(a, L), (b, M)])) h.sep rfl (FS.of_gb hg (fun g hg => .inl hg)) (TCp.ok _ _ _) hT' (fun g hgg => ?_)⟩
  rcases hgg with e | ⟨u, hu, e⟩
  · rcases hat with q | q
    · exact .inl (.inl (by rw [← q]; exact e))
    · rw [q] at e; exact .inr (.inr (by have := Option.some.inj e; omega))
  · rcases mem u hu with hu | hu | hu
    · exact .inl (.inr ⟨u, hu, e⟩)
    · rw [hu] at e; exact .inr (.inl ⟨OCp w0.heap.size a L, by simp, e⟩)
    · rw [hu] at e; exact .inr (.inl ⟨OCp w0.heap.size b M, by simp, e⟩)
end
def sAd : Value → Option Addr
  | .slice a _ _ => a
  | _ => none
def sCp : Value → Nat
  | .slice _ _ c => c
  | _ => 0
def avO (TL : List (Value × List Pr)) (k : Nat) : Option Addr := match TL[k]? with | some u => sAd u.1 | none => none
def avN (TL : List (Value × List Pr)) (k : Nat) : Nat := match TL[k]? with | some u => u.2.length | none => 0
def avC (TL : List (Value × List Pr)) (k : Nat) : Nat := match TL[k]? with | some u => sCp u.1 | none => 0
def avR (TL : List (Value × List Pr)) (k : Nat) : List Pr := match TL[k]? with | some u => u.2 | none => []
theorem av_at {w : World} {B : Nat} {vt : Value} {TL : List (Value × List Pr)} (h : TLk w B vt TL) {k : Nat} {u : Value × List Pr} (hk : TL[k]? = some u) : u.1 = .slice (avO TL k) (avN TL k) (avC TL k) ∧ avR TL k = u.2 := by
  obtain ⟨a, cap, e⟩ := (h.own u (List.mem_of_getElem? hk)).slice
  refine ⟨?_, by unfold avR; rw [hk]⟩
  have e1 : avO TL k = a := by unfold avO; rw [hk]; show sAd u.1 = a; rw [e]; rfl
  have e2 : avN TL k = u.2.length := by unfold avN; rw [hk]
  have e3 : avC TL k = cap := by unfold avC; rw [hk]; show sCp u.1 = cap; rw [e]; rfl
  rw [e1, e2, e3]; exact e
theorem TLk.all {w : World} {B g cap : Nat} {TL : List (Value × List Pr)} (h : TLk w B (.slice (some ⟨g, 0, none⟩) TL.length cap) TL) : AllM w B g TL.length (avO TL) (avN TL) (avC TL) (avR TL) := by
  have hcell : ∀ (k : Nat) (u : Value × List Pr), TL[k]? = some u → w.cell? ⟨g, k, none⟩ = some u.1 := fun k u hk => by
    have hl := (List.getElem?_eq_some_iff.1 hk).1
    refine (h.row.cellAt k (by omega)).trans ?_
    rw [List.getElem?_map, hk]; rfl
  have ex : ∀ k, k < TL.length → ∃ u, TL[k]? = some u := fun k hk => ⟨_, List.getElem?_eq_getElem hk⟩
  refine ⟨(World.ownsRow.lt h.row g rfl).2, fun k hk => ?_, fun k hk => ?_, fun k hk => ?_, fun j k x hj hk h1 h2 => ?_⟩
  · obtain ⟨u, hu⟩ := ex k hk
    rw [← (av_at h hu).1]; exact hcell k u hu
  · obtain ⟨u, hu⟩ := ex k hk
    rw [← (av_at h hu).1, (av_at h hu).2]; exact h.own u (List.mem_of_getElem? hu)
  · obtain ⟨u, hu⟩ := ex k hk
    rw [← (av_at h hu).1]
    intro e
    obtain ⟨c1, f1, h1⟩ := ownsRow_kind h.row g rfl
    obtain ⟨c2, f2, h2⟩ := ownsRow_kind (h.own u (List.mem_of_getElem? hu)) g e
    rw [h1] at h2
    injection h2 with h2
    injection h2 with _ h2 _
    exact absurd h2 (by decide)
  · obtain ⟨u, hu⟩ := ex j hj
    obtain ⟨u', hu'⟩ := ex k hk
    rw [← (av_at h hu).1] at h1
    rw [← (av_at h hu').1] at h2
    exact h.ap j k u u' x hu hu' h1 h2
theorem avN_le {w : World} {B : Nat} {vt : Value} {TL : List (Value × List Pr)} (h : TLk w B vt TL) (k : Nat) : avN TL k ≤ 8796093022000 := by
  unfold avN
  split
  · next u hu => exact h.len u (List.mem_of_getElem? hu)
  · omega
/-- Behind ApartTwos: what was told is no one's any more. -/
theorem PH.apart {w0 w w' : World} {c : Cn} {vh : Bool → Value} {RH : Bool → List En} {N : Bool → Nat} {vr : Bool → Value} {RD : Bool → List En} {g n cap : Nat} {TL : List (Value × List Pr)} {ex : List Cp} (h : PH w0 w c vh RH N vr RD (.slice (some ⟨g, 0, none⟩) n cap) TL ex) (hs : Sp TL.length (avO TL) (avN TL) (avC TL) w w') : Sep w0 w' ((bs w0.heap.size c vh RH N vr RD (.slice (some ⟨g, 0, none⟩) n cap) TL ++ ex).set 6 noCp) := by
  refine h.sep.step (i := 6) (c := TCp w0.heap.size (.slice (some ⟨g, 0, none⟩) n cap) TL) rfl ⟨hs.os, hs.tape, hs.output, hs.size, fun y hy hn => hs.block y hy (fun k hk e => hn (.inr ?_))⟩ noCp_ok trivial (fun g hg => hg.elim)
  obtain ⟨u, hu⟩ : ∃ u, TL[k]? = some u := ⟨_, List.getElem?_eq_getElem hk⟩
  exact ⟨u, List.mem_of_getElem? hu, by rw [(av_at h.tl hu).1]; exact e⟩
/-- What the law's end leans on. -/
structure FE (w0 w : World) (c : Cn) (vh : Bool → Value) (R : Bool → List En) (N : Bool → Nat) (lb : Nat) (u0 u1 : Value) (K0 K1 : List Pr) : Prop where
  h : ∀ f, HQ w (c.bh f) (c.hb f) (c.lb f) (lfB f) (kB f) (vh f) (R f) (N f)
  hx : w.heap[c.hx]? = some (.cells #[.pointer (some ⟨c.hb false, 0, none⟩), .pointer (some ⟨c.hb true, 0, none⟩)] 27 (0, 0))
  lx : w.heap[lb]? = some (.cells #[u0, u1] 46 (0, 0))
  o0 : OM w w0.heap.size u0 K0
  o1 : OM w w0.heap.size u1 K1
  bl : Below w0.heap.size w0 w
theorem FE.later {w0 w w' : World} {c : Cn} {vh : Bool → Value} {R : Bool → List En} {N : Bool → Nat} {lb : Nat} {u0 u1 : Value} {K0 K1 : List Pr} (h : FE w0 w c vh R N lb u0 u1 K0 K1) (hb : Below w.heap.size w w') : FE w0 w' c vh R N lb u0 u1 K0 K1 :=
  ⟨fun f => (h.h f).later hb, blk_later h.hx hb, blk_later h.lx hb, owns_lat h.o0 hb, owns_lat h.o1 hb, h.bl.trans (hb.mono h.bl.size)⟩
theorem FE.of {w0 w w' : World} {c : Cn} {vh : Bool → Value} {RH : Bool → List En} {N : Bool → Nat} {vr : Bool → Value} {RD : Bool → List En} {g n cap : Nat} {TL : List (Value × List Pr)} {ex : List Cp} {lb i j m : Nat} {u0 u1 : Value} {K0 K1 : List Pr} (h : PH w0 w c vh RH N vr RD (.slice (some ⟨g, 0, none⟩) n cap) TL ex) (hs : Sp TL.length (avO TL) (avN TL) (avC TL) w w') (hi : ex[i]? = some (BCp lb #[u0, u1] 46)) (hj : ex[j]? = some (OCp w0.heap.size u0 K0)) (hm : ex[m]? = some (OCp w0.heap.size u1 K1)) : FE w0 w' c vh RH N lb u0 u1 K0 K1 := by
  have s := h.apart hs
  refine ⟨fun f => ?_, s.is 2 _ rfl, s.is (i + 7) _ hi, s.is (j + 7) _ hj, s.is (m + 7) _ hm, s.bl⟩
  cases f
  · exact s.is 0 _ rfl
  · exact s.is 1 _ rfl
theorem FE.sort {w0 w : World} {c : Cn} {vh : Bool → Value} {R : Bool → List En} {N : Bool → Nat} {lb : Nat} {u0 u1 : Value} {K0 K1 : List Pr} (h : FE w0 w c vh R N lb u0 u1 K0 K1) (f : Bool) (hN : N f ≤ 5864062014805) {L : List Pr} (hL : srt (kB f) (R f).length (R f) = L) :
    Calls Try.prog 18 #[.pointer (some ⟨c.hb f, 0, none⟩)] w fun e w' => ∃ a cap, e = .returned (.slice a L.length cap) ∧ Hid (FE w0 w' c vh R N lb u0 u1 K0 K1) ∧ Hid (RM w' (.slice a L.length cap) L) := by
  refine (sortedQ (lfB_ok f) (h.h f) hN).mono ?_
  rintro e w' ⟨v', rfl, ho, hb⟩
  rw [hL] at ho
  obtain ⟨a, cap, rfl⟩ := ho.slice
  exact ⟨a, cap, rfl, hide (h.later hb), hide ho.rm⟩
theorem FE.cells {w0 w : World} {a b d lb : Nat} {vh : Bool → Value} {R : Bool → List En} {N : Bool → Nat} {u0 u1 : Value} {K0 K1 : List Pr} (h : FE w0 w ⟨d, d + 1 + 1 + 1, fun f => if f then b + 1 else a + 1, fun f => if f then b else a, fun f => if f then d + 1 + 1 else d + 1, fun f => if f then b else a, fun f => if f then d + 1 + 1 else d + 1⟩ vh R N lb u0 u1 K0 K1) :
    w.cell? ⟨d, 0, none⟩ = some (.pointer (some ⟨a + 1, 0, none⟩)) ∧ w.cell? ⟨d, 1, none⟩ = some (.pointer (some ⟨b + 1, 0, none⟩)) ∧ w.cell? ⟨lb, 0, none⟩ = some u0 ∧ w.cell? ⟨lb, 1, none⟩ = some u1 :=
  ⟨by rw [cell_of_row _ _ 0 _ _ _ h.hx]; rfl, by rw [cell_of_row _ _ 1 _ _ _ h.hx]; rfl, by rw [cell_of_row _ _ 0 _ _ _ h.lx]; rfl, by rw [cell_of_row _ _ 1 _ _ _ h.lx]; rfl⟩
theorem end_nums (n : Nat) (h : n ≤ 8796093022000) : wrap64 (((n + 2 : Nat) : Int) - 2) = (n : Int) ∧ wrap64 (((n + 2 : Nat) : Int) - 1) = ((n + 1 : Nat) : Int) ∧ (0 : Int) ≤ (n : Int) ∧ (n : Int) < ((n + 2 : Nat) : Int) ∧ (0 : Int) ≤ ((n + 1 : Nat) : Int) ∧ ((n + 1 : Nat) : Int) < ((n + 2 : Nat) : Int) :=
  ⟨by unfold wrap64; omega, by unfold wrap64; omega, by omega, by omega, by omega, by omega⟩
theorem end_numsL {t5 t6 n8 : Nat} (h6 : t5 + 1 = t6) (h8 : t5 + 2 = n8) (h : t5 ≤ 8796093022000) : wrap64 ((n8 : Int) - 2) = (t5 : Int) ∧ wrap64 ((n8 : Int) - 1) = (t6 : Int) ∧ (0 : Int) ≤ (t5 : Int) ∧ (t5 : Int) < (n8 : Int) ∧ (0 : Int) ≤ (t6 : Int) ∧ (t6 : Int) < (n8 : Int) := by
  subst h6 h8
  exact end_nums t5 h
theorem wrapEqP (x : Int) : IntKind.i64.wrap x = wrap64 x := by rw [IntKind.wrap_i64]; unfold wrap64; omega
theorem Try.size46 : (Try.prog.info? 46).map (·.size) = some 2 := by kernel_rfl
end Go.Proofs.Ytegemfkadclnkaa
