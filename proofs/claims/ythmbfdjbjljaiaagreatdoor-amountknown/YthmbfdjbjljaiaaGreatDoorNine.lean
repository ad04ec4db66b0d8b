/-
  My own text: nine lists that grow side by side.
-/
import Derived.Test.YthmbfdjbjljaiaaGreatDoorLists
import Derived.Test.YthmbfdjbjljaiaaGreatDoorRefSum
import Derived.Lib.OwnKind
namespace Go.Proofs.YthmbfdjbjljaiaaGreatDoor
open Go.RowKit

theorem kept_type {w w1 : World} {B e e' n n' : Nat} {v v' : Value} {xs xs' : List Value} (h : w.ownsRow B e 1 v n xs) (h' : w.ownsRow B e' 1 v' n' xs') (hne : e ≠ e') (hg : w.grownBy w1 v'.ownBlock) : w1.ownsRow B e 1 v n xs := by
  refine h.kept hg ?_
  cases hv : v.ownBlock with
  | none => exact .inl rfl
  | some k =>
    refine .inr fun he => hne ?_
    obtain ⟨c, fz, h1⟩ := Go.Lib.ownsRow_kind h k hv
    obtain ⟨c', fz', h2⟩ := Go.Lib.ownsRow_kind h' k he.symm
    rw [h1] at h2
    simp at h2
    exact h2.2.1
theorem kept_apart {w w1 : World} {B e n : Nat} {v v' : Value} {xs : List Value} (h : w.ownsRow B e 1 v n xs) (hd : ∀ g, v.ownBlock = some g → v'.ownBlock ≠ some g) (hg : w.grownBy w1 v'.ownBlock) : w1.ownsRow B e 1 v n xs := by
  refine h.kept hg ?_
  cases hv : v.ownBlock with
  | none => exact .inl rfl
  | some k => exact .inr fun he => hd k hv he.symm
/-- Nine lists of the call's own; the last three, of one type, lie apart. -/
structure Nine (w : World) (B : Nat) (va vb vc vd vf vg vp vq vr : Value) (xa xb xc xd xf xg xp xq xr : List Value) : Prop where
  oa : w.ownsRow B 31 1 va xa.length xa
  ob : w.ownsRow B 35 1 vb xb.length xb
  oc : w.ownsRow B 21 1 vc xc.length xc
  od : w.ownsRow B 3 1 vd xd.length xd
  of : w.ownsRow B 59 1 vf xf.length xf
  og : w.ownsRow B 60 1 vg xg.length xg
  op : w.ownsRow B 2 1 vp xp.length xp
  oq : w.ownsRow B 2 1 vq xq.length xq
  or : w.ownsRow B 2 1 vr xr.length xr
  dpq : ∀ g, vp.ownBlock = some g → vq.ownBlock ≠ some g
  dpr : ∀ g, vp.ownBlock = some g → vr.ownBlock ≠ some g
  dqr : ∀ g, vq.ownBlock = some g → vr.ownBlock ≠ some g
theorem Nine.alloc {w : World} {B : Nat} {va vb vc vd vf vg vp vq vr : Value} {xa xb xc xd xf xg xp xq xr : List Value} (h : Nine w B va vb vc vd vf vg vp vq vr xa xb xc xd xf xg xp xq xr) (o : Obj) : Nine (w.alloc o) B va vb vc vd vf vg vp vq vr xa xb xc xd xf xg xp xq xr :=
  ⟨h.oa.alloc o, h.ob.alloc o, h.oc.alloc o, h.od.alloc o, h.of.alloc o, h.og.alloc o, h.op.alloc o, h.oq.alloc o, h.or.alloc o, h.dpq, h.dpr, h.dqr⟩
theorem own_snoc {w : World} {B e g n cap : Nat} {xs : List Value} {u : Value} (h : w.ownsRow B e 1 (.slice (some ⟨g, 0, none⟩) (n + 1) cap) (n + 1) (xs ++ [u])) (hn : xs.length = n) : w.ownsRow B e 1 (.slice (some ⟨g, 0, none⟩) (n + 1) cap) (xs ++ [u]).length (xs ++ [u]) := by
  rw [List.length_append, hn]; exact h
theorem Nine.app_a {w w1 : World} {B g n cap : Nat} {u : Value} {va vb vc vd vf vg vp vq vr : Value} {xa xb xc xd xf xg xp xq xr : List Value} (h : Nine w B va vb vc vd vf vg vp vq vr xa xb xc xd xf xg xp xq xr) (hn : xa.length = n) (hown : w1.ownsRow B 31 1 (.slice (some ⟨g, 0, none⟩) (n + 1) cap) (n + 1) (xa ++ [u])) (hg : w.grownBy w1 va.ownBlock) (hat : va.ownBlock = some g ∨ g = w.heap.size) :
    Nine w1 B (.slice (some ⟨g, 0, none⟩) (n + 1) cap) vb vc vd vf vg vp vq vr (xa ++ [u]) xb xc xd xf xg xp xq xr := by
  have _ := hat
  exact ⟨own_snoc hown hn, kept_type h.ob h.oa (by decide) hg, kept_type h.oc h.oa (by decide) hg, kept_type h.od h.oa (by decide) hg, kept_type h.of h.oa (by decide) hg, kept_type h.og h.oa (by decide) hg, kept_type h.op h.oa (by decide) hg, kept_type h.oq h.oa (by decide) hg, kept_type h.or h.oa (by decide) hg, h.dpq, h.dpr, h.dqr⟩
theorem Nine.app_b {w w1 : World} {B g n cap : Nat} {u : Value} {va vb vc vd vf vg vp vq vr : Value} {xa xb xc xd xf xg xp xq xr : List Value} (h : Nine w B va vb vc vd vf vg vp vq vr xa xb xc xd xf xg xp xq xr) (hn : xb.length = n) (hown : w1.ownsRow B 35 1 (.slice (some ⟨g, 0, none⟩) (n + 1) cap) (n + 1) (xb ++ [u])) (hg : w.grownBy w1 vb.ownBlock) (hat : vb.ownBlock = some g ∨ g = w.heap.size) :
    Nine w1 B va (.slice (some ⟨g, 0, none⟩) (n + 1) cap) vc vd vf vg vp vq vr xa (xb ++ [u]) xc xd xf xg xp xq xr := by
  have _ := hat
  exact ⟨kept_type h.oa h.ob (by decide) hg, own_snoc hown hn, kept_type h.oc h.ob (by decide) hg, kept_type h.od h.ob (by decide) hg, kept_type h.of h.ob (by decide) hg, kept_type h.og h.ob (by decide) hg, kept_type h.op h.ob (by decide) hg, kept_type h.oq h.ob (by decide) hg, kept_type h.or h.ob (by decide) hg, h.dpq, h.dpr, h.dqr⟩
theorem Nine.app_c {w w1 : World} {B g n cap : Nat} {u : Value} {va vb vc vd vf vg vp vq vr : Value} {xa xb xc xd xf xg xp xq xr : List Value} (h : Nine w B va vb vc vd vf vg vp vq vr xa xb xc xd xf xg xp xq xr) (hn : xc.length = n) (hown : w1.ownsRow B 21 1 (.slice (some ⟨g, 0, none⟩) (n + 1) cap) (n + 1) (xc ++ [u])) (hg : w.grownBy w1 vc.ownBlock) (hat : vc.ownBlock = some g ∨ g = w.heap.size) :
    Nine w1 B va vb (.slice (some ⟨g, 0, none⟩) (n + 1) cap) vd vf vg vp vq vr xa xb (xc ++ [u]) xd xf xg xp xq xr := by
  have _ := hat
  exact ⟨kept_type h.oa h.oc (by decide) hg, kept_type h.ob h.oc (by decide) hg, own_snoc hown hn, kept_type h.od h.oc (by decide) hg, kept_type h.of h.oc (by decide) hg, kept_type h.og h.oc (by decide) hg, kept_type h.op h.oc (by decide) hg, kept_type h.oq h.oc (by decide) hg, kept_type h.or h.oc (by decide) hg, h.dpq, h.dpr, h.dqr⟩
theorem Nine.app_d {w w1 : World} {B g n cap : Nat} {u : Value} {va vb vc vd vf vg vp vq vr : Value} {xa xb xc xd xf xg xp xq xr : List Value} (h : Nine w B va vb vc vd vf vg vp vq vr xa xb xc xd xf xg xp xq xr) (hn : xd.length = n) (hown : w1.ownsRow B 3 1 (.slice (some ⟨g, 0, none⟩) (n + 1) cap) (n + 1) (xd ++ [u])) (hg : w.grownBy w1 vd.ownBlock) (hat : vd.ownBlock = some g ∨ g = w.heap.size) :
    Nine w1 B va vb vc (.slice (some ⟨g, 0, none⟩) (n + 1) cap) vf vg vp vq vr xa xb xc (xd ++ [u]) xf xg xp xq xr := by
  have _ := hat
  exact ⟨kept_type h.oa h.od (by decide) hg, kept_type h.ob h.od (by decide) hg, kept_type h.oc h.od (by decide) hg, own_snoc hown hn, kept_type h.of h.od (by decide) hg, kept_type h.og h.od (by decide) hg, kept_type h.op h.od (by decide) hg, kept_type h.oq h.od (by decide) hg, kept_type h.or h.od (by decide) hg, h.dpq, h.dpr, h.dqr⟩
theorem Nine.app_f {w w1 : World} {B g n cap : Nat} {u : Value} {va vb vc vd vf vg vp vq vr : Value} {xa xb xc xd xf xg xp xq xr : List Value} (h : Nine w B va vb vc vd vf vg vp vq vr xa xb xc xd xf xg xp xq xr) (hn : xf.length = n) (hown : w1.ownsRow B 59 1 (.slice (some ⟨g, 0, none⟩) (n + 1) cap) (n + 1) (xf ++ [u])) (hg : w.grownBy w1 vf.ownBlock) (hat : vf.ownBlock = some g ∨ g = w.heap.size) :
    Nine w1 B va vb vc vd (.slice (some ⟨g, 0, none⟩) (n + 1) cap) vg vp vq vr xa xb xc xd (xf ++ [u]) xg xp xq xr := by
  have _ := hat
  exact ⟨kept_type h.oa h.of (by decide) hg, kept_type h.ob h.of (by decide) hg, kept_type h.oc h.of (by decide) hg, kept_type h.od h.of (by decide) hg, own_snoc hown hn, kept_type h.og h.of (by decide) hg, kept_type h.op h.of (by decide) hg, kept_type h.oq h.of (by decide) hg, kept_type h.or h.of (by decide) hg, h.dpq, h.dpr, h.dqr⟩
theorem Nine.app_g {w w1 : World} {B g n cap : Nat} {u : Value} {va vb vc vd vf vg vp vq vr : Value} {xa xb xc xd xf xg xp xq xr : List Value} (h : Nine w B va vb vc vd vf vg vp vq vr xa xb xc xd xf xg xp xq xr) (hn : xg.length = n) (hown : w1.ownsRow B 60 1 (.slice (some ⟨g, 0, none⟩) (n + 1) cap) (n + 1) (xg ++ [u])) (hg : w.grownBy w1 vg.ownBlock) (hat : vg.ownBlock = some g ∨ g = w.heap.size) :
    Nine w1 B va vb vc vd vf (.slice (some ⟨g, 0, none⟩) (n + 1) cap) vp vq vr xa xb xc xd xf (xg ++ [u]) xp xq xr := by
  have _ := hat
  exact ⟨kept_type h.oa h.og (by decide) hg, kept_type h.ob h.og (by decide) hg, kept_type h.oc h.og (by decide) hg, kept_type h.od h.og (by decide) hg, kept_type h.of h.og (by decide) hg, own_snoc hown hn, kept_type h.op h.og (by decide) hg, kept_type h.oq h.og (by decide) hg, kept_type h.or h.og (by decide) hg, h.dpq, h.dpr, h.dqr⟩
theorem Nine.app_p {w w1 : World} {B g n cap : Nat} {u : Value} {va vb vc vd vf vg vp vq vr : Value} {xa xb xc xd xf xg xp xq xr : List Value} (h : Nine w B va vb vc vd vf vg vp vq vr xa xb xc xd xf xg xp xq xr) (hn : xp.length = n) (hown : w1.ownsRow B 2 1 (.slice (some ⟨g, 0, none⟩) (n + 1) cap) (n + 1) (xp ++ [u])) (hg : w.grownBy w1 vp.ownBlock) (hat : vp.ownBlock = some g ∨ g = w.heap.size) :
    Nine w1 B va vb vc vd vf vg (.slice (some ⟨g, 0, none⟩) (n + 1) cap) vq vr xa xb xc xd xf xg (xp ++ [u]) xq xr := by
  have _ := hat
  exact ⟨kept_type h.oa h.op (by decide) hg, kept_type h.ob h.op (by decide) hg, kept_type h.oc h.op (by decide) hg, kept_type h.od h.op (by decide) hg, kept_type h.of h.op (by decide) hg, kept_type h.og h.op (by decide) hg, own_snoc hown hn, kept_apart h.oq (fun k hk hk' => h.dpq k hk' hk) hg, kept_apart h.or (fun k hk hk' => h.dpr k hk' hk) hg, fun k hk => by
    have hk2 : g = k := by simpa [Value.ownBlock] using hk
    subst hk2
    rcases hat with ha | ha
    · exact h.dpq g ha
    · intro hc; have := (h.oq.lt g hc).2; omega, fun k hk => by
    have hk2 : g = k := by simpa [Value.ownBlock] using hk
    subst hk2
    rcases hat with ha | ha
    · exact h.dpr g ha
    · intro hc; have := (h.or.lt g hc).2; omega, h.dqr⟩
theorem Nine.app_q {w w1 : World} {B g n cap : Nat} {u : Value} {va vb vc vd vf vg vp vq vr : Value} {xa xb xc xd xf xg xp xq xr : List Value} (h : Nine w B va vb vc vd vf vg vp vq vr xa xb xc xd xf xg xp xq xr) (hn : xq.length = n) (hown : w1.ownsRow B 2 1 (.slice (some ⟨g, 0, none⟩) (n + 1) cap) (n + 1) (xq ++ [u])) (hg : w.grownBy w1 vq.ownBlock) (hat : vq.ownBlock = some g ∨ g = w.heap.size) :
    Nine w1 B va vb vc vd vf vg vp (.slice (some ⟨g, 0, none⟩) (n + 1) cap) vr xa xb xc xd xf xg xp (xq ++ [u]) xr := by
  have _ := hat
  exact ⟨kept_type h.oa h.oq (by decide) hg, kept_type h.ob h.oq (by decide) hg, kept_type h.oc h.oq (by decide) hg, kept_type h.od h.oq (by decide) hg, kept_type h.of h.oq (by decide) hg, kept_type h.og h.oq (by decide) hg, kept_apart h.op h.dpq hg, own_snoc hown hn, kept_apart h.or (fun k hk hk' => h.dqr k hk' hk) hg, fun k hk hc => by
    have hk2 : g = k := by simpa [Value.ownBlock] using hc
    subst hk2
    rcases hat with ha | ha
    · exact h.dpq g hk ha
    · have := (h.op.lt g hk).2; omega, h.dpr, fun k hk => by
    have hk2 : g = k := by simpa [Value.ownBlock] using hk
    subst hk2
    rcases hat with ha | ha
    · exact h.dqr g ha
    · intro hc; have := (h.or.lt g hc).2; omega⟩
theorem Nine.app_r {w w1 : World} {B g n cap : Nat} {u : Value} {va vb vc vd vf vg vp vq vr : Value} {xa xb xc xd xf xg xp xq xr : List Value} (h : Nine w B va vb vc vd vf vg vp vq vr xa xb xc xd xf xg xp xq xr) (hn : xr.length = n) (hown : w1.ownsRow B 2 1 (.slice (some ⟨g, 0, none⟩) (n + 1) cap) (n + 1) (xr ++ [u])) (hg : w.grownBy w1 vr.ownBlock) (hat : vr.ownBlock = some g ∨ g = w.heap.size) :
    Nine w1 B va vb vc vd vf vg vp vq (.slice (some ⟨g, 0, none⟩) (n + 1) cap) xa xb xc xd xf xg xp xq (xr ++ [u]) := by
  have _ := hat
  exact ⟨kept_type h.oa h.or (by decide) hg, kept_type h.ob h.or (by decide) hg, kept_type h.oc h.or (by decide) hg, kept_type h.od h.or (by decide) hg, kept_type h.of h.or (by decide) hg, kept_type h.og h.or (by decide) hg, kept_apart h.op h.dpr hg, kept_apart h.oq h.dqr hg, own_snoc hown hn, h.dpq, fun k hk hc => by
    have hk2 : g = k := by simpa [Value.ownBlock] using hc
    subst hk2
    rcases hat with ha | ha
    · exact h.dpr g hk ha
    · have := (h.op.lt g hk).2; omega, fun k hk hc => by
    have hk2 : g = k := by simpa [Value.ownBlock] using hc
    subst hk2
    rcases hat with ha | ha
    · exact h.dqr g hk ha
    · have := (h.oq.lt g hk).2; omega⟩
end Go.Proofs.YthmbfdjbjljaiaaGreatDoor
