/-
  My own text: layer 19: Put.
-/
import Derived.Test.YtknnojjfdfkdmaaGreatDoorU9
import Derived.Test.YtknnojjfdfkdmaaGreatDoorU5e
import Derived.Deep.RegionWith
namespace Go.Proofs.YtknnojjfdfkdmaaGreatDoor
open Go.RowKit Go.Extern Go.MapKept Go.ChangeMaps

/-- An error of the integer type. -/
def er (n : Int) : Value := .iface 65 (.int .i64 n)
set_option maxRecDepth 100000 in
set_option maxHeartbeats 1000000 in
theorem put_twice (F : Nat → Prop) (q : Nat) (id : Int) (v u : Value) (Z : Qx) (w : World) (h : QM F w q Z) (hid : IOK id) (h0 : Z.N id = some u) (hv : ∃ a n c, v = .slice a n c) (hu : ∃ p, u = .pointer p) :
    Calls Tryz.prog 8 #[.pointer (some ⟨q, 0, none⟩), .int .i64 id, v] w fun r w' => r = .returned (er 11) ∧ w' = w := by
  obtain ⟨a, n, c, rfl⟩ := hv
  obtain ⟨p, rfl⟩ := hu
  have q2 := h.cells.2.2.1
  have hlk := by_look h.by' hid
  rw [h0] at hlk
  dsimp only [Option.getD, Option.isSome] at hlk
  clear h h0
  go_enter Tryz.func8, Tryz.ntmps8
  go_wp2_with fail
  go_ret
  exact ⟨rfl, rfl⟩
set_option maxRecDepth 100000 in
set_option maxHeartbeats 1000000 in
theorem put_full (F : Nat → Prop) (q : Nat) (id : Int) (v : Value) (Z : Qx) (w : World) (h : QM F w q Z) (hid : IOK id) (h0 : Z.N id = none) (hv : ∃ a n c, v = .slice a n c) (hf : (Z.A.length : Int) = Z.room) :
    Calls Tryz.prog 8 #[.pointer (some ⟨q, 0, none⟩), .int .i64 id, v] w fun r w' => r = .returned (er 20) ∧ Below w.heap.size w w' := by
  obtain ⟨a, n, c, rfl⟩ := hv
  have q2 := h.cells.2.2.1
  have hlk := by_look h.by' hid
  rw [h0] at hlk
  dsimp only [Option.getD, Option.isSome] at hlk
  have HF0 := full_any F q Z w h
  rw [beq_iff_eq.2 hf] at HF0
  have HFU := hide HF0
  clear h h0 HF0 hf
  go_enter Tryz.func8, Tryz.ntmps8
  go_wp2_with fail
  refine HFU.out.mono ?_
  rintro r w1 ⟨rfl, hb⟩
  have HB := hide hb
  clear hb HFU
  go_wp2_with fail
  go_ret
  exact ⟨rfl, HB.out⟩
/-- A new entry. -/
def updT (T : Nat → Et) (x : Nat) (e : Et) : Nat → Et := fun y => if y = x then e else T y
theorem QM.fresh {F : Nat → Prop} {w : World} {q : Nat} {Z : Qx} (h : QM F w q Z) (hF : ∀ g, w.heap.size ≤ g → F g) (e : Et) (hk : KY.OM w 0 e.kv e.keys) (hkF : ∀ g, e.kv.ownBlock = some g → F g) :
    QM F (w.alloc (eb e)) q { Z with T := updT Z.T w.heap.size e, X := w.heap.size :: Z.X } ∧ Fw F w (w.alloc (eb e)) := by
  have hb : Below w.heap.size w (w.alloc (eb e)) := (Below.refl _ _).alloc (Nat.le_refl _) _
  have h' := h.later hb
  have hT : ∀ x ∈ Z.X, updT Z.T w.heap.size e x = Z.T x := fun x hx => if_neg (by have := (h.ent x hx).lt; omega)
  refine ⟨⟨h'.hd, h'.by', h'.wt, h'.all, h'.rdy, h'.row, fun x hx => ?_, h'.ap1, h'.ap2, h'.ap3, h'.ne, h'.oq, h'.oa, h'.or', h'.ow, fun x hx => ?_⟩, Fw.below hb⟩
  · dsimp only at hx ⊢
    rcases List.mem_cons.1 hx with e1 | hx
    · subst e1
      rw [show updT Z.T w.heap.size e w.heap.size = e from if_pos rfl]
      exact ⟨alloc_new w _, owns_lat hk hb⟩
    · rw [hT x hx]; exact h'.ent x hx
  · dsimp only at hx ⊢
    rcases List.mem_cons.1 hx with e1 | hx
    · subst e1
      rw [show updT Z.T w.heap.size e w.heap.size = e from if_pos rfl]
      exact ⟨hF _ (Nat.le_refl _), hkF⟩
    · rw [hT x hx]; exact h.oe x hx
theorem QM.count {F : Nat → Prop} {w : World} {q : Nat} {Z : Qx} (h : QM F w q Z) (n' : Int) : QM F (w.setCell ⟨q, 1, none⟩ (.int .i64 n')) q { Z with n := n' } ∧ Fw F w (w.setCell ⟨q, 1, none⟩ (.int .i64 n')) := by
  have hk : ∀ (b : Nat) (c : Array Value) (t : TypeId) (fz : Nat × Nat), w.heap[b]? = some (.cells c t fz) → t ≠ 62 → (w.setCell ⟨q, 1, none⟩ (.int .i64 n')).heap[b]? = w.heap[b]? := fun b c t fz hb ht => set_ne (ne_kind hb h.hd ht)
  have hm : ∀ (b : Nat) (es : Array MapEntry) (cl : Nat), w.heap[b]? = some (.map es cl) → (w.setCell ⟨q, 1, none⟩ (.int .i64 n')).heap[b]? = w.heap[b]? := fun b es cl hb => set_ne (ne_map h.hd hb).symm
  have hpr : ∀ (u : Value) (M : List Nat), PR w u M → PR (w.setCell ⟨q, 1, none⟩ (.int .i64 n')) u M := fun u M hu => hu.kept (fun g hgu => by obtain ⟨cur, hc⟩ := hu.blk hgu; exact hk g cur _ _ hc (by decide))
  refine ⟨⟨setq 1 _ h.hd rfl, ?_, ?_, hpr _ _ h.all, hpr _ _ h.rdy, fun k => hpr _ _ (h.row k), fun x hx => ?_, h.ap1, h.ap2, h.ap3, h.ne, h.oq, h.oa, h.or', h.ow, h.oe⟩, Fw.set w q 1 _ h.oq.1⟩
  · obtain ⟨es, cl, hb⟩ := h.by'.map
    exact h.by'.kept (hm _ es cl hb)
  · obtain ⟨es, cl, hb⟩ := h.wt.map
    exact h.wt.kept (hm _ es cl hb)
  · have he := h.ent x hx
    refine he.kept (hk x _ _ _ he.blk (by decide)) (fun g hgg => ?_)
    obtain ⟨c, fz, hc⟩ := he.kb hgg
    exact hk g c _ fz hc (by decide)
theorem by_put {w : World} {mb : Nat} {N : Int → Option Value} {id : Int} (h : MP iv IOK w mb N) (hid : IOK id) (u : Value) :
    ∃ w', (Instr.mapUpdate 57 (.map (some mb)) (.int .i64 id) u).run Tryz.prog w = .ok () w' ∧ MP iv IOK w' mb (fun x => if x = id then some u else N x) ∧ w.grownBy w' (some mb) := by
  obtain ⟨w', h1, h2, h3, _⟩ := h.put Tryz.underlying57 lawInt keyOf_iv iv_inj stays_iv hid u
  exact ⟨w', h1, h2, h3⟩
theorem wt_look {w : World} {mw : Nat} {f : Ky → Option Value} {k : Ky} (h : MP kv KOK w mw f) (hk : KOK k) :
    (Instr.lookup 58 (.map (some mw)) (.agg #[.int .i64 k.1, .int .i64 k.2]) false).run Tryz.prog w = .ok (Rf f k) w :=
  h.look Tryz.underlying58 lawKey keyOf_kv kv_inj (z := .slice none 0 0) (fun W => by kernel_rfl) hk false
theorem wt_put {w : World} {mw : Nat} {f : Ky → Option Value} {k : Ky} (h : MP kv KOK w mw f) (hk : KOK k) (u : Value) :
    ∃ w', (Instr.mapUpdate 58 (.map (some mw)) (.agg #[.int .i64 k.1, .int .i64 k.2]) u).run Tryz.prog w = .ok () w' ∧ MP kv KOK w' mw (fun x => if x = k then some u else f x) ∧ w.grownBy w' (some mw) := by
  obtain ⟨w', h1, h2, h3, _⟩ := h.put Tryz.underlying58 lawKey keyOf_kv kv_inj stays_kv hk u
  exact ⟨w', h1, h2, h3⟩
/-- What a queue is behind a Put. -/
structure PutTo (Z Z' : Qx) (x : Nat) (id : Int) (K : List Ky) (v : Value) : Prop where
  room : Z'.room = Z.room
  n : Z'.n = Z.n + 1
  T : Z'.T = updT Z.T x ⟨id, Z.n, K, v, 0, false⟩
  X : Z'.X = x :: Z.X
  A : Z'.A = insE (fun y => (updT Z.T x ⟨id, Z.n, K, v, 0, false⟩ y).came) x Z.A
  Rd : Z'.Rd = Z.Rd
  N : ∀ i, Z'.N i = if i = id then some (ep x) else Z.N i
  C : ∀ k, Z'.C k = if k ∈ K then insE (fun y => (updT Z.T x ⟨id, Z.n, K, v, 0, false⟩ y).came) x (Z.C k) else Z.C k
theorem row_kept {w w1 : World} {v : Value} {L : List Nat} (hv : PR w v L) (hg : w.grownBy w1 v.ownBlock) {b : Nat} {c : Array Value} {t : TypeId} {fz : Nat × Nat} (hb : w.heap[b]? = some (.cells c t fz)) (ht : t ≠ 63) : w1.heap[b]? = some (.cells c t fz) :=
  (hg.block b (Array.getElem?_eq_some_iff.1 hb).1 (fun e => by
    obtain ⟨cur, hcur⟩ := hv.blk e.symm
    exact ne_kind hb hcur ht rfl)).trans hb
theorem map_kept {w w1 : World} {b g : Nat} {es : Array MapEntry} {cl : Nat} {c : Array Value} {t : TypeId} {fz : Nat × Nat} (hb : w.heap[b]? = some (.map es cl)) (hg : w.grownBy w1 (some b)) (hc : w.heap[g]? = some (.cells c t fz)) : w1.heap[g]? = some (.cells c t fz) :=
  (hg.block g (Array.getElem?_eq_some_iff.1 hc).1 (fun e => ne_map hc hb (Option.some.inj e))).trans hc
/-- A row of those that wait for a key is laid down anew. -/
theorem QM.lays {F : Nat → Prop} {w w1 : World} {q kb : Nat} {Z : Qx} (h : QM F w q Z) (hF : ∀ g, w.heap.size ≤ g → F g) {k : Ky} (hk : KOK k) {v' : Value} {L : List Nat} (hp : PR w1 v' L) (hg : w.grownBy w1 (Rf Z.f k).ownBlock) (ho : ∀ g, v'.ownBlock = some g → (Rf Z.f k).ownBlock = some g ∨ w.heap.size ≤ g) {c : Array Value} (hkb : w.heap[kb]? = some (.cells c 23 (0, 0))) :
    w1.cell? ⟨q, 5, none⟩ = some (.map (some Z.mw)) ∧ w1.heap[kb]? = some (.cells c 23 (0, 0)) ∧ ∃ w2, (Instr.mapUpdate 58 (.map (some Z.mw)) (.agg #[.int .i64 k.1, .int .i64 k.2]) v').run Tryz.prog w1 = .ok () w2 ∧ w2.cell? ⟨q, 5, none⟩ = some (.map (some Z.mw)) ∧ w2.heap[kb]? = some (.cells c 23 (0, 0)) ∧ QM F w2 q { Z with f := fun x => if x = k then some v' else Z.f x, C := fun x => if x = k then L else Z.C x } ∧ Fw F w w2 := by
  obtain ⟨a1, a2, a3, a4, a5⟩ := h.rowed (h.row k) hg
  have yk := row_kept (h.row k) hg hkb (by decide)
  obtain ⟨w2, r2, m2, g2⟩ := wt_put a3 hk v'
  obtain ⟨z1, z2⟩ := h.waits (k := k) (f' := fun x => if x = k then some v' else Z.f x) hF hp hg ho m2 g2 (by show (if k = k then some v' else Z.f k).getD _ = v'; rw [if_pos rfl]; rfl) (fun k' e => if_neg e)
  obtain ⟨es, cl, hb⟩ := a3.map
  exact ⟨by rw [cell_of_row _ _ 5 _ _ _ a1]; rfl, yk, w2, r2, z1.cells.2.2.2.2.2, map_kept hb g2 yk, z1, z2⟩
theorem sr_congr {c c' : Nat → Int} {M : List Nat} (h : Sr c M) (he : ∀ y ∈ M, c y = c' y) : Sr c' M := by
  refine List.Pairwise.imp_of_mem (fun {a b} ha hb hab => ?_) h
  rw [← he a ha, ← he b hb]; exact hab
theorem mem_take_succ {K : List Ky} {j : Nat} {k x : Ky} (h : K[j]? = some k) : x ∈ K.take (j + 1) ↔ x = k ∨ x ∈ K.take j := by
  rw [List.take_add_one, h, List.mem_append]
  simp [or_comm]
theorem inc_not_take {K : List Ky} (hi : Inc K) {j : Nat} {k : Ky} (h : K[j]? = some k) : k ∉ K.take j := fun hm => by
  obtain ⟨i, hi'⟩ := List.getElem?_of_mem hm
  rw [List.getElem?_take] at hi'
  split at hi'
  · rename_i hlt
    have h1 := (List.getElem?_eq_some_iff.1 h).1
    have := List.pairwise_iff_getElem.1 hi i j (by omega) h1 hlt
    rw [(List.getElem?_eq_some_iff.1 h).2, (List.getElem?_eq_some_iff.1 hi').2] at this
    exact ltK_irr k this
  · cases hi'
set_option maxRecDepth 100000 in
set_option maxHeartbeats 2000000 in
theorem put_ok (F : Nat → Prop) (q : Nat) (id : Int) (v : Value) (L : List Ky) (Z : Qx) (w : World) (h : QM F w q Z) (hF : ∀ g, w.heap.size ≤ g → F g) (hid : IOK id) (h0 : Z.N id = none) (hf : (Z.A.length : Int) ≠ Z.room) (hv : KY.RM w v L) (hl : L.length ≤ 8796093022000) (hLK : ∀ k ∈ L, KOK k)
    (hA : Sr (fun y => (Z.T y).came) Z.A ∧ (∀ y ∈ Z.A, y ∈ Z.X) ∧ Z.A.length ≤ 8796093022000) (hC : ∀ k, Sr (fun y => (Z.T y).came) (Z.C k) ∧ (∀ y ∈ Z.C k, y ∈ Z.X) ∧ (Z.C k).length ≤ 8796093022000) (hn : 0 ≤ Z.n ∧ Z.n ≤ 8796093022000) :
    Calls Tryz.prog 8 #[.pointer (some ⟨q, 0, none⟩), .int .i64 id, v] w fun r w' => r = .returned .nilIface ∧ ∃ Z' x K kv', QM F w' q Z' ∧ PutTo Z Z' x id K kv' ∧ w.heap.size ≤ x ∧ Inc K ∧ (∀ k, k ∈ K ↔ k ∈ L) ∧ Fw F w w' := by
  obtain ⟨a, c, rfl⟩ := KY.rm_lt hv
  have q2 := h.cells.2.2.1
  have hlk := by_look h.by' hid
  rw [h0] at hlk
  dsimp only [Option.getD, Option.isSome] at hlk
  have HF0 := full_any F q Z w h
  rw [beq_eq_false_iff_ne.2 hf] at HF0
  have HFU := hide HF0
  have HH := hide h
  have HV := hide hv
  have HL := hide hl
  have HF' := hide hF
  have HLK := hide hLK
  have HA := hide hA
  have HC := hide hC
  have HN := hide hn
  have HID := hide hid
  have wn : wrap64 (Z.n + 1) = Z.n + 1 := by unfold wrap64; omega
  clear h h0 HF0 hf hv hl hF hLK hA hC hn hid
  go_enter Tryz.func8, Tryz.ntmps8
  go_wp2_with fail
  refine HFU.out.mono ?_
  rintro r w1 ⟨rfl, hb⟩
  have HB1 := hide hb
  have h1 := HH.out.later hb
  have H1 := hide h1
  have bd : Below w1.heap.size w1 w1.drew := (Below.refl _ _).drew
  have n0 : w1.cell? ⟨q, 1, none⟩ = some (.int .i64 Z.n) := h1.cells.2.1
  have n1 : w1.drew.cell? ⟨q, 1, none⟩ = some (.int .i64 Z.n) := h1.cells.2.1
  have HON := hide (once_any _ L w1.drew ((HV.out.later hb).later bd) HL.out)
  have HD := hide bd
  clear hb HFU HH h1 bd q2 hlk
  go_wp2_with fail
  go_region_held3 (fun W => W.cell? ⟨q, 1, none⟩ = some (.int .i64 Z.n)) (go_keep) ((go_at_call 26; refine HON.out.mono ?_; rintro r w2 ⟨v2, K, rfl, o1, o2, o3, o4, o5⟩; have n2 : w2.cell? ⟨q, 1, none⟩ = some (.int .i64 Z.n) := ((H1.out.later HD.out).later o5).cells.2.1; obtain ⟨a2, c2, hv2⟩ := KY.rm_lt o1.rm; subst hv2; have O1 := hide o1; have O2 := hide (And.intro o2 (And.intro o3 o4)); have O5 := hide (HD.out.trans o5); clear o1 o2 o3 o4 o5))
  obtain ⟨E, hE⟩ : ∃ E : Et, E = ⟨id, Z.n, K, .slice a2 K.length c2, 0, false⟩ := ⟨_, rfl⟩
  obtain ⟨x, hx⟩ : ∃ x, x = w2.heap.size := ⟨_, rfl⟩
  have h2 := H1.out.later O5.out
  have hxX : ∀ y ∈ Z.X, y ≠ x := fun y hy e => by have := (h2.ent y hy).lt; omega
  have hF2 : ∀ g, w2.heap.size ≤ g → F g := fun g hg => HF'.out g (Nat.le_trans HB1.out.size (Nat.le_trans O5.out.size hg))
  have hw2 : w.heap.size ≤ w2.heap.size := Nat.le_trans HB1.out.size O5.out.size
  have hEk : KY.OM w2 0 E.kv E.keys := by rw [hE]; exact KY.OM.base O1.out (fun g _ => Nat.zero_le _)
  obtain ⟨h3, f3⟩ := h2.fresh hF2 E hEk (fun g hg => HF'.out g (by rw [hE] at hg; exact Nat.le_trans HB1.out.size (World.ownsRow.lt O1.out g hg).1))
  have f3' : Fw F w (w2.alloc (eb E)) := (Fw.below (HB1.out.trans (O5.out.mono HB1.out.size))).trans f3
  obtain ⟨W3, hW3⟩ : ∃ W3, w2.alloc (eb E) = W3 := ⟨_, rfl⟩
  have hW3' : w2.alloc (.cells #[.int .i64 id, .int .i64 Z.n, .slice a2 K.length c2, .int .i64 0, .bool false] 68) = W3 := by rw [← hW3, hE]; rfl
  rw [hW3]at h3 f3'
  rw [← hx] at h3
  rw [hW3', ← hx]
  have HWX : Hid (w.heap.size ≤ x) := hide (by rw [hx]; exact hw2)
  have hF3 : ∀ g, W3.heap.size ≤ g → F g := fun g hg => HF'.out g (Nat.le_trans f3'.size hg)
  clear hW3 hW3' hx h2 hF2 hw2 hEk f3 n0 n1 n2 O1 O5 H1 HON HD HB1
  have m1 := h3.cells.2.1
  have m1f := h3.fz 1
  obtain ⟨h4, f4⟩ := h3.count (Z.n + 1)
  have f4' := f3'.trans f4
  obtain ⟨W4, hW4⟩ : ∃ W4, W3.setCell ⟨q, 1, none⟩ (.int .i64 (Z.n + 1)) = W4 := ⟨_, rfl⟩
  rw [hW4] at h4 f4'
  have m2 := h4.cells.2.2.1
  obtain ⟨W5, run5, mp5, g5⟩ := by_put h4.by' HID.out (.pointer (some ⟨x, 0, none⟩))
  obtain ⟨h5, f5⟩ := h4.named mp5 g5
  have f5' := f4'.trans f5
  dsimp only at m1 m2 run5
  have hc : ∀ {M : List Nat}, (∀ y ∈ M, y ∈ Z.X) → Sr (fun y => (Z.T y).came) M → Sr (fun y => (updT Z.T x E y).came) M := fun hM hs => sr_congr hs (fun y hy => by unfold updT; rw [if_neg (hxX y (hM y hy))])
  have hA := HA.out
  have m3 := h5.cells.2.2.2.1
  dsimp only at m3
  obtain ⟨av, cap, hva⟩ := h5.all.slc
  dsimp only at hva
  have HVA := hide hva
  have HW0 := with_any Z.va Z.A (fun y => (updT Z.T x E y).came) x W5 h5.all (hc hA.2.1 hA.1) (h5.cms (fun y hy => List.mem_cons_of_mem _ (hA.2.1 y hy))) (En.cm (T := updT Z.T x E) (h5.ent x (by simp))) hA.2.2
  have HW : Hid (Calls Tryz.prog 27 #[.slice av Z.A.length cap, .pointer (some ⟨x, 0, none⟩)] W5 fun r w' => ∃ v', r = .returned v' ∧ PR w' v' (insE (fun y => (updT Z.T x E y).came) x Z.A) ∧ W5.grownBy w' Z.va.ownBlock ∧ (∀ g, v'.ownBlock = some g → Z.va.ownBlock = some g ∨ W5.heap.size ≤ g)) := hide (by
    rw [hva] at HW0 ⊢
    exact HW0)
  rw [hva] at m3
  obtain ⟨A', hA'⟩ : ∃ A', insE (fun y => (updT Z.T x E y).came) x Z.A = A' := ⟨_, rfl⟩
  rw [hA'] at HW
  have HA' := hide hA'
  have HE := hide hE
  have H5 := hide h5
  have HF5 := hide f5'
  have HXX := hide hxX
  have HCC := hide (fun (M : List Nat) (h1 : ∀ y ∈ M, y ∈ Z.X) (h2 : Sr (fun y => (Z.T y).came) M) => hc h1 h2)
  clear h3 f3' hF3 h4 f4 f4' mp5 g5 h5 f5 f5' hc hA hva HW0 hxX hA' hE
  go_wp2_with fail
  refine HW.out.mono ?_
  rintro r w6 ⟨v', rfl, p1, p2, p3⟩
  obtain ⟨z1, z2, z3⟩ := H5.out.alls (fun g hg => HF'.out g (Nat.le_trans HF5.out.size hg)) p1 p2 p3
  obtain ⟨a', cap', rfl⟩ := p1.slc
  have d3 : w6.cell? ⟨q, 3, none⟩ = some (.slice av Z.A.length cap) := by rw [cell_of_row _ _ 3 _ _ _ z1]; show some Z.va = _; rw [HVA.out]
  have g3 : w6.frozen? ⟨q, 3, none⟩ = false := clr_row z1 3
  have f7 := HF5.out.trans z3
  obtain ⟨W7, hW7⟩ : ∃ W7, w6.setCell ⟨q, 3, none⟩ (.slice a' A'.length cap') = W7 := ⟨_, rfl⟩
  rw [hW7] at z2 f7
  have e2 : W7.cell? ⟨x, 2, none⟩ = some (.slice a2 K.length c2) := by
    have := (z2.ent x (by simp)).cells.2.2.1
    dsimp only at this
    rw [show updT Z.T x E x = E from if_pos rfl, HE.out] at this
    exact this
  have HZ7 := hide z2
  have HF7 := hide f7
  clear p1 p2 p3 z1 z2 z3 HW H5 HF5 m1 m1f m2 m3 run5 hW4 f7
  go_wp2_with fail
  clear hW7 d3 g3
  obtain ⟨Z7, hZ7⟩ : ∃ Z7 : Qx, Z7 = { room := Z.room, n := Z.n + 1, mb := Z.mb, mw := Z.mw, va := .slice a' A'.length cap', vr := Z.vr, f := Z.f, N := fun i => if i = id then some (.pointer (some ⟨x, 0, none⟩)) else Z.N i, T := updT Z.T x E, X := x :: Z.X, A := A', Rd := Z.Rd, C := Z.C } := ⟨_, rfl⟩
  have H7 : Hid (QM F W7 q { Z7 with f := Z.f, C := Z.C }) := hide (by rw [hZ7]; exact HZ7.out)
  have HZ : Hid (Z7.room = Z.room ∧ Z7.n = Z.n + 1 ∧ Z7.T = updT Z.T x E ∧ Z7.X = x :: Z.X ∧ Z7.A = A' ∧ Z7.Rd = Z.Rd ∧ Z7.N = fun i => if i = id then some (ep x) else Z.N i) := hide (by rw [hZ7]; exact ⟨rfl, rfl, rfl, rfl, rfl, rfl, rfl⟩)
  clear hZ7 HZ7
  go_loopw [62] (fun i wr => ∃ (j : Nat) (f : Ky → Option Value) (C : Ky → List Nat), j ≤ K.length ∧ i = .int .i64 (j : Int) ∧ Hid (QM F wr q { Z7 with f := f, C := C }) ∧ Hid (∀ k, C k = if k ∈ K.take j then insE (fun y => (updT Z.T x E y).came) x (Z.C k) else Z.C k) ∧ Hid (Fw F w wr)) (fun i _ => K.length - (intOf i).toNat)
  case atStart => exact ⟨0, Z.f, Z.C, Nat.zero_le _, rfl, H7, hide (fun k => by rw [if_neg (by simp)]), HF7⟩
  case round =>
    clear H7 HF7 e2
    obtain ⟨j, f, C, hj, rfl, HQ, HCJ, HFW⟩ := hrel
    by_cases hlt : j < K.length
    · obtain ⟨⟨k1, k2⟩, hk⟩ : ∃ p, K[j]? = some p := ⟨_, List.getElem?_eq_getElem hlt⟩
      have hxm : x ∈ Z7.X := by rw [HZ.out.2.2.2.1]; simp
      have hTx : Z7.T x = E := by rw [HZ.out.2.2.1]; exact if_pos rfl
      have hks := (HQ.out.ent x hxm).ks
      dsimp only at hks
      rw [hTx, HE.out] at hks
      obtain ⟨ga, gcap, hgv, _, hgr⟩ := KY.OM.rm hks
      injection hgv with hv1 hv2 hv3
      clear hv2 hv3
      obtain ⟨gb, goff, hga, hgl, hgc⟩ := hgr.resolve_left (fun h => by dsimp only at h; rw [h] at hlt; simp at hlt)
      have z0 : wr.cell? ⟨gb, goff + j * 2, none⟩ = some (.int .i64 k1) := (hgc j _ hk).1
      have z1 : wr.cell? ⟨gb, goff + j * 2 + 1, none⟩ = some (.int .i64 k2) := (hgc j _ hk).2
      have z1' : wr.cell? ⟨gb, goff + (j * 2 + 1), none⟩ = some (.int .i64 k2) := z1
      subst hga
      subst hv1
      have hKOK : KOK (k1, k2) := HLK.out _ ((O2.out.2.1 _).1 (List.mem_of_getElem? hk))
      have hd1 : decide ((j : Int) < (K.length : Int)) = true := by rw [decide_eq_true_eq]; omega
      have i0 : (0 : Int) ≤ (j : Int) := by omega
      have i1 : (j : Int) < (K.length : Int) := by omega
      have wk : wrap64 ((j : Int) + 1) = (j : Int) + 1 := by have := HL.out; have := O2.out.2.2; unfold wrap64; omega
      obtain ⟨W8, hW8⟩ : ∃ W8, wr.alloc (.cells #[.int .i64 k1, .int .i64 k2] 23) = W8 := ⟨_, rfl⟩
      have b8 : Below wr.heap.size wr W8 := by rw [← hW8]; exact (Below.refl _ _).alloc (Nat.le_refl _) _
      have kb8 : W8.heap[wr.heap.size]? = some (.cells #[.int .i64 k1, .int .i64 k2] 23 (0, 0)) := by rw [← hW8]; exact alloc_new wr _
      have b8d : Below wr.heap.size wr W8.drew := b8.trans ⟨rfl, rfl, rfl, Nat.le_refl _, fun _ _ => rfl⟩
      have h8 := HQ.out.later b8d
      have kd8 : W8.drew.heap[wr.heap.size]? = some (.cells #[.int .i64 k1, .int .i64 k2] 23 (0, 0)) := kb8
      obtain ⟨s0, s1⟩ := pair_cells kb8 rfl
      obtain ⟨d0, d1⟩ := pair_cells kd8 rfl
      have q5 : W8.cell? ⟨q, 5, none⟩ = some (.map (some Z7.mw)) := (HQ.out.later b8).cells.2.2.2.2.2
      have q5d : W8.drew.cell? ⟨q, 5, none⟩ = some (.map (some Z7.mw)) := h8.cells.2.2.2.2.2
      have hlk8 := wt_look (k := (k1, k2)) h8.wt hKOK
      dsimp only at hlk8
      have hCk : C (k1, k2) = Z.C (k1, k2) := by rw [HCJ.out, if_neg (inc_not_take O2.out.1 hk)]
      have hC0 := HC.out (k1, k2)
      have hrow : PR W8.drew (Rf f (k1, k2)) (Z.C (k1, k2)) := by have := h8.row (k1, k2); dsimp only at this; rw [hCk] at this; exact this
      have HW0 := with_any (Rf f (k1, k2)) (Z.C (k1, k2)) (fun y => (updT Z.T x E y).came) x W8.drew hrow (HCC.out _ hC0.2.1 hC0.1) (fun y hy => by have := En.cm (T := Z7.T) (h8.ent y (by show y ∈ Z7.X; rw [HZ.out.2.2.2.1]; exact List.mem_cons_of_mem _ (hC0.2.1 y hy))); rw [HZ.out.2.2.1] at this; exact this) (by have := En.cm (T := Z7.T) (h8.ent x hxm); rw [HZ.out.2.2.1] at this; exact this) hC0.2.2
      obtain ⟨ar, cr, hRf⟩ := hrow.slc
      have HRF := hide hRf
      have HW : Hid (Calls Tryz.prog 27 #[.slice ar (Z.C (k1, k2)).length cr, .pointer (some ⟨x, 0, none⟩)] W8.drew fun r w' => ∃ v', r = .returned v' ∧ PR w' v' (insE (fun y => (updT Z.T x E y).came) x (Z.C (k1, k2))) ∧ W8.drew.grownBy w' (Rf f (k1, k2)).ownBlock ∧ (∀ g, v'.ownBlock = some g → (Rf f (k1, k2)).ownBlock = some g ∨ W8.drew.heap.size ≤ g)) := hide (by
        rw [hRf] at HW0 ⊢
        exact HW0)
      rw [hRf] at hlk8
      have H8 := hide h8
      have HROW := hide hrow
      have HF8 : Hid (Fw F w W8.drew) := hide (HFW.out.trans (Fw.below b8d))
      have HKD := hide kd8
      have HKOK := hide hKOK
      have HK := hide hk
      clear hgr hgl hgc hks hTx hxm hk hKOK b8 b8d kb8 kd8 h8 hrow HW0 hC0 hCk hRf
      go_wp2_with fail
      go_region_held3 (fun W => W.cell? ⟨q, 5, none⟩ = some (.map (some Z7.mw)) ∧ W.cell? ⟨wr.heap.size, 0, none⟩ = some (.int .i64 k1) ∧ W.cell? ⟨wr.heap.size, 1, none⟩ = some (.int .i64 k2)) (go_keep) ((go_at_call 27; refine HW.out.mono ?_; rintro r w9 ⟨v9, rfl, p1, p2, p3⟩; obtain ⟨a9, c9, hv9⟩ := p1.slc; obtain ⟨y5, yk, W10, run10, x5, xk, hQ10, hF10⟩ := H8.out.lays (fun g hg => HF'.out g (Nat.le_trans HF8.out.size hg)) HKOK.out p1 p2 p3 HKD.out; obtain ⟨y0, y1⟩ := pair_cells yk rfl; obtain ⟨x0, x1⟩ := pair_cells xk rfl; have HQ10 := hide hQ10; have HF10 := hide (HF8.out.trans hF10); subst hv9; dsimp only at run10 y5 x5; clear p1 p2 p3 yk xk hQ10 hF10))
      go_wp2_with fail
      go_roundw
      case rel =>
        refine ⟨j + 1, _, _, by omega, by go_num, HQ10, hide (fun k => ?_), HF10⟩
        show (if k = (k1, k2) then _ else C k) = _
        by_cases e : k = (k1, k2)
        · rw [if_pos e, if_pos ((mem_take_succ HK.out).2 (.inl e)), e]
        · rw [if_neg e, HCJ.out k]
          by_cases e2 : k ∈ K.take j
          · rw [if_pos e2, if_pos ((mem_take_succ HK.out).2 (.inr e2))]
          · rw [if_neg e2, if_neg (fun h => ((mem_take_succ HK.out).1 h).elim e e2)]
      case measure => first | (rw [wk]; simp [intOf]; omega) | (simp [intOf]; omega)
    · have e : j = K.length := by omega
      subst e
      go_wp2_with fail
      go_ret
      refine ⟨rfl, _, x, K, .slice a2 K.length c2, HQ.out, ?_, HWX.out, O2.out.1, O2.out.2.1, HFW.out⟩
      obtain ⟨y1, y2, y3, y4, y5, y6, y7⟩ := HZ.out
      rw [HE.out] at y3
      refine ⟨y1, y2, y3, y4, ?_, y6, fun i => by dsimp only; rw [y7], fun k => ?_⟩
      · dsimp only; rw [y5, ← HA'.out, HE.out]
      · have := HCJ.out k
        rw [List.take_length, HE.out] at this
        exact this
end Go.Proofs.YtknnojjfdfkdmaaGreatDoor
