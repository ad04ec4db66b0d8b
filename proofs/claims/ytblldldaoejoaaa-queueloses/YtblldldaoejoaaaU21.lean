/-
  My own text: layer 19: the law QueueLoses (printed by mku21.py).
-/
import Derived.Test.YtblldldaoejoaaaU20
import Derived.Maps.AppendAt
namespace Go.Proofs.Ytblldldaoejoaaa
open Go.RowKit Go.Extern Go.MapKept Go.ChangeMaps

theorem pick5 (k : Int) : k % 5 = 0 ∨ k % 5 = 1 ∨ k % 5 = 2 ∨ k % 5 = 3 ∨ k % 5 = 4 := by omega
theorem four_cells {w : World} {a b c d : Value} {t : TypeId} {g : Nat} (h : w.heap[g]? = some (.cells #[a, b, c, d] t (0, 0))) : w.cell? ⟨g, 0, none⟩ = some a ∧ w.cell? ⟨g, 1, none⟩ = some b ∧ w.cell? ⟨g, 2, none⟩ = some c ∧ w.cell? ⟨g, 3, none⟩ = some d :=
  ⟨by rw [cell_of_row _ _ 0 _ _ _ h]; rfl, by rw [cell_of_row _ _ 1 _ _ _ h]; rfl, by rw [cell_of_row _ _ 2 _ _ _ h]; rfl, by rw [cell_of_row _ _ 3 _ _ _ h]; rfl⟩
theorem LL.start {w w1 w2 : World} {q : Nat} {room : Int} {O : Nat → Prop} {Z : Qx} (h1 : QS O w1 q Z) (h2 : ∀ g, O g → w.heap.size ≤ g) (h3 : Below w.heap.size w w1) (h4 : Z.room = max room 0) (h5 : Z.A = []) (h6 : Z.n = 0) (hb : Below w1.heap.size w1 w2) : LL w w2 q room O Z (.slice none 0 0) [] 0 :=
  ⟨h1.later hb, World.ownsRow_nil _ _ _ _, h2, fun g hg => (by cases hg), h3.trans (hb.mono h3.size), ⟨by rw [h5]; rfl, fun j x p hx => by rw [h5] at hx; simp at hx⟩, by rw [h6]; exact Int.le_refl _, h4, by rw [h5, h4]; show (0 : Int) ≤ _; omega, fun p hp => (by cases hp)⟩
theorem set_same {L : List Kn} {j : Nat} {p : Kn} (h : L[j]? = some p) : L.set j p = L := by
  obtain ⟨h1, h2⟩ := List.getElem?_eq_some_iff.1 h
  rw [← h2]; exact List.set_getElem_self h1
theorem Rl.back {e : Et} {p : Kn} (h : Rl e p) (hs : e.st = 2) : Rl { e with st := if e.tch = true then 1 else 0 } { p with o := false } := by
  refine ⟨h.id, h.ks, ?_, ?_⟩
  · dsimp only; cases e.tch <;> rfl
  · dsimp only; rw [h.d, hs]; cases e.tch <;> rfl
theorem Rl.take {e : Et} {p : Kn} (h : Rl e p) : Rl { e with st := 2, tch := false } { p with d := false, o := true } := ⟨h.id, h.ks, rfl, rfl⟩
theorem Rl.out {e : Et} {p : Kn} (h : Rl e p) (hs : e.st = 2) : p.o = true ∧ p.d = e.tch := ⟨by rw [h.o, hs]; rfl, by rw [h.d, hs]; simp⟩
theorem Rl.ready {e : Et} {p : Kn} (h : Rl e p) (hs : e.st = 1) : p.o = false ∧ p.d = true := ⟨by rw [h.o, hs]; rfl, by rw [h.d, hs]; rfl⟩
theorem rm_ob {w : World} {v : Value} {K : List Ky} (h : KY.RM w v K) (h0 : 0 < K.length) : ∀ g, v.ownBlock = some g → g < w.heap.size := by
  obtain ⟨a, cap, rfl, _, h1 | ⟨b, off, rfl, hlt, _⟩⟩ := h
  · rw [h1] at h0; simp at h0
  · intro g hg
    have : b = g := Option.some.inj hg
    rw [← this]; exact hlt
theorem touched_n {Z Z' : Qx} {K : List Ky} (h : Ok Z) (h' : Ok Z') (hA : Z'.A = Z.A) (hT : ∀ y ∈ Z.A, Z'.T y = if meetsB (Z.T y).keys K = true then tcE (Z.T y) else Z.T y) : 0 ≤ (Z'.Rd.length : Int) - (Z.Rd.length : Int) ∧ (Z'.Rd.length : Int) - (Z.Rd.length : Int) ≤ (Z.A.length : Int) := by
  have h1 : Z'.Rd.length ≤ Z.A.length := by rw [← hA]; exact sr_len h'.o.sa h'.o.sr (fun y hy => ((h'.o.rd y).1 hy).1)
  have h2 : Z.Rd.length ≤ Z'.Rd.length := by
    refine sr_len h'.o.sr (sr_congr h.o.sr (fun y hy => ?_)) (fun y hy => ?_)
    · rw [hT y ((h.o.rd y).1 hy).1]; split
      · exact (tcE_came _).1.symm
      · rfl
    · obtain ⟨y1, y2⟩ := (h.o.rd y).1 hy
      refine (h'.o.rd y).2 ⟨by rw [hA]; exact y1, ?_⟩
      rw [hT y y1]; split
      · unfold tcE; rw [if_neg (by omega), if_neg (by omega)]; exact y2
      · exact y2
  omega
def tl (K : List Ky) (L : List Kn) (j : Nat) : List Kn := (L.take j).map (tch K) ++ L.drop j
theorem tl_len (K : List Ky) (L : List Kn) (j : Nat) : (tl K L j).length = L.length := by unfold tl; simp; omega
theorem tl_at {K : List Ky} {L : List Kn} {j : Nat} {p : Kn} (h : L[j]? = some p) : (tl K L j)[j]? = some p := by
  have := (List.getElem?_eq_some_iff.1 h).1
  unfold tl
  rw [List.getElem?_append_right (by simp; omega)]
  simp only [List.length_map, List.length_take]
  rw [Nat.min_eq_left (by omega), Nat.sub_self, List.getElem?_drop]; simpa using h
theorem tl_step {K : List Ky} {L : List Kn} {j : Nat} {p : Kn} (h : L[j]? = some p) (b : Bool) (hb : b = (p.d || meetsB p.ks K)) : (tl K L j).set j { p with d := b } = tl K L (j + 1) := by
  have hlt := (List.getElem?_eq_some_iff.1 h).1
  have e1 : L.drop j = p :: L.drop (j + 1) := by rw [List.drop_eq_getElem_cons hlt]; rw [(List.getElem?_eq_some_iff.1 h).2]
  have e2 : L.take (j + 1) = L.take j ++ [p] := by rw [List.take_add_one, h]; rfl
  unfold tl
  rw [e1, e2, List.map_append, List.append_assoc, List.set_append_right _ _ (by simp; omega)]
  congr 1
  simp only [List.length_map, List.length_take]
  rw [Nat.min_eq_left (by omega), Nat.sub_self, hb]
  rfl
theorem tl_zero (K : List Ky) (L : List Kn) : tl K L 0 = L := by unfold tl; simp
theorem tl_all (K : List Ky) (L : List Kn) : tl K L L.length = L.map (tch K) := by unfold tl; simp
theorem tn (n : Int) (m : Nat) (h0 : 0 ≤ n) (h1 : n ≤ (m : Int)) : decide (n < 0) = false ∧ decide (n > (m : Int)) = false ∧ decide ((m : Int) < n) = false := ⟨decide_eq_false (by omega), decide_eq_false (by omega), decide_eq_false (by omega)⟩
theorem LM.tstep {w0 wr : World} {q n g cap : Nat} {room : Int} {O : Nat → Prop} {Z : Qx} {K : List Ky} {L : List Kn} {j : Nat} {p : Kn} (h : LM w0 wr q room O Z (.slice (some ⟨g, 0, none⟩) L.length cap) (tl K L j) n) (hp : L[j]? = some p) (b : Bool) (hb : b = (p.d || meetsB p.ks K)) : LM w0 (wr.setCell ⟨g, j * 4 + 2, none⟩ (.bool b)) q room O Z (.slice (some ⟨g, 0, none⟩) L.length cap) (tl K L (j + 1)) n := by
  have h' : LM w0 wr q room O Z (.slice (some ⟨g, 0, none⟩) (tl K L j).length cap) (tl K L j) n := by rw [tl_len]; exact h
  have := h'.setD (tl_at hp) b
  rw [tl_step hp b hb, tl_len] at this; exact this
theorem putN {Z : Qx} {L : List Kn} {room : Int} (hr : Z.room = max room 0) (har : (Z.A.length : Int) ≤ Z.room) (hl : Z.A.length = L.length) (hne : (Z.A.length : Int) ≠ Z.room) : decide ((L.length : Int) ≥ room) = false ∧ decide (room ≤ (L.length : Int)) = false := ⟨decide_eq_false (by omega), decide_eq_false (by omega)⟩
theorem putF {Z : Qx} {L : List Kn} {room : Int} (hr : Z.room = max room 0) (hl : Z.A.length = L.length) (he : (Z.A.length : Int) = Z.room) : decide ((L.length : Int) < room) = false := decide_eq_false (by omega)
theorem LM.put9 {w0 w9 w10 w11 : World} {q n m ob : Nat} {room : Int} {O : Nat → Prop} {Z Z' : Qx} {v : Value} {L : List Kn} {X : Obj} (h : LM w0 w9 q room O Z v L n) (hb : Below w9.heap.size w9 w10) (hq : QTo O w10 w11 q Z') (hn : Z'.n ≤ (m : Int)) (hrm : Z'.room = Z.room) (har : (Z'.A.length : Int) ≤ Z'.room) (hO : ∀ g, O g → g ≠ ob) (hbx : w9.heap[ob]? = some X) : ∃ O', LM w0 w11 q room O' Z' v L m ∧ w11.heap[ob]? = some X := by
  obtain ⟨O', m11, -, hf⟩ := (h.later hb).call hq hn hrm har
  have hlt := (Array.getElem?_eq_some_iff.1 hbx).1
  exact ⟨O', m11, ((hf.block ob (Nat.lt_of_lt_of_le hlt hb.size) (fun h => hO ob h rfl)).trans (hb.block ob hlt)).trans hbx⟩
theorem egNil (n : Nat) (W : World) : (eqGuard .eql 32 (.tmp n) (.const .nilIface) .nilIface .nilIface).run Try.prog W = .ok () W := by kernel_rfl
theorem egNo (k : Int) (n : Nat) (W : World) : (eqGuard .eql 32 (.tmp n) (.const .nilIface) (.iface 63 (.int .i64 k)) .nilIface).run Try.prog W = .ok () W := by kernel_rfl
theorem LL.puts {w0 w9 w10 : World} {q n ob : Nat} {room : Int} {O : Nat → Prop} {Z : Qx} {v v10 : Value} {L : List Kn} {X : Obj} {p : Oq} (h : LL w0 w9 q room O Z v L n) (hb : Below w9.heap.size w9 w10) (hO : ∀ g, O g → g ≠ ob) (hbx : w9.heap[ob]? = some X) (hp : OqOk w0 p) (hv : KY.RM w10 v10 p.ks) (hn : n ≤ 2932031007402) :
    Calls Try.prog 8 #[.pointer (some ⟨q, 0, none⟩), .int .i64 p.id, v10] w10 fun r w' => ∃ (rv : Value) (b : Bool), r = .returned rv ∧ (∀ W, (binOp .eql 32 rv .nilIface).run Try.prog W = .ok (.bool b) W) ∧ (∀ (n : Nat) W, (eqGuard .eql 32 (.tmp n) (.const .nilIface) rv .nilIface).run Try.prog W = .ok () W) ∧ w'.heap[ob]? = some X ∧ Hid (
      (∃ (O' : Nat → Prop) (j : Nat), b = false ∧ j < L.length ∧ Hid (LL w0 w' q room O' Z v L n) ∧ fd p.id L = (j : Int)) ∨
      (∃ (O' : Nat → Prop), b = false ∧ Hid (LL w0 w' q room O' Z v L n) ∧ fd p.id L = -1 ∧ decide ((L.length : Int) < room) = false) ∨
      (∃ (O' : Nat → Prop) (Z' : Qx), b = true ∧ Hid (LM w0 w' q room O' Z' v L (n + 1)) ∧ Hid (Rel (RZ Z') Z'.A (L ++ [⟨p.id, p.ks, p.ka, p.kc, false, false⟩])) ∧ fd p.id L = -1 ∧ decide ((L.length : Int) ≥ room) = false ∧ decide (room ≤ (L.length : Int)) = false)) := by
  refine (putQ_any O q p.id v10 p.ks Z w10 (h.qs.later hb) hp.id hv hp.kl hp.kk (by have := h.nn; omega)).mono ?_
  rintro r w11 (⟨⟨x, hx, hi⟩, rfl, hq⟩ | ⟨hno, hfl, rfl, hq⟩ | ⟨hno, hnf, rfl, Z', x, K, kv', hq, hr, hn', hA, hT, hx, hTx, hK⟩)
  · obtain ⟨O', m11, hb'⟩ := h.lm.put9 hb hq h.nn rfl h.ar hO hbx
    obtain ⟨j, pj, hj, hpj, hrl, hfd⟩ := fd_of h.qs.ok h.rel hx hi
    exact ⟨er 11, false, rfl, eqNo 11, egNo 11, hb', hide <| .inl ⟨O', j, rfl, (List.getElem?_eq_some_iff.1 hpj).1, hide (m11.ll h.rel), hfd⟩⟩
  · obtain ⟨O', m11, hb'⟩ := h.lm.put9 hb hq h.nn rfl h.ar hO hbx
    exact ⟨er 20, false, rfl, eqNo 20, egNo 20, hb', hide <| .inr (.inl ⟨O', rfl, hide (m11.ll h.rel), fd_not h.rel hno, putF h.rm h.rel.len hfl⟩)⟩
  · obtain ⟨O', m11, hb'⟩ := h.lm.put9 (m := n + 1) hb hq (by have := h.nn; omega) hr (by rw [hr, hA, List.length_append]; have := h.ar; show ((Z.A.length + 1 : Nat) : Int) ≤ _; omega) hO hbx
    obtain ⟨g1, g2⟩ := putN h.rm h.ar h.rel.len hnf
    exact ⟨.nilIface, true, rfl, eqNil, egNil, hb', hide <| .inr (.inr ⟨O', Z', rfl, hide m11, hide (h.rel.put hA hT (by rw [hTx]; exact ⟨rfl, hK, rfl, rfl⟩)), fd_not h.rel hno, g1, g2⟩)⟩
/-- The law's list grows. -/
theorem LM.app {w0 w1 w2 : World} {q n : Nat} {room : Int} {O : Nat → Prop} {Z : Qx} {v v' : Value} {L : List Kn} {p : Kn} (h : LM w0 w1 q room O Z v L n) (ho : w2.ownsRow w0.heap.size 37 4 v' (L.length + 1) (nc L ++ [.int .i64 p.id, p.kv, .bool p.d, .bool p.o])) (hg : w1.grownBy w2 v.ownBlock) (hat : v'.ownBlock = v.ownBlock ∨ v'.ownBlock = some w1.heap.size) (hk : KY.RM w0 p.kv p.ks ∧ p.ks.length ≤ 8796093022000) : LM w0 w2 q room O Z v' (L ++ [p]) n := by
  obtain ⟨e1, e2, e3, e4, e5⟩ := hg
  have hg : w1.grownBy w2 v.ownBlock := ⟨e1, e2, e3, e4, e5⟩
  refine ⟨h.qs.kept (fun g hO => e5 g (h.qs.lt g hO) (fun e => h.vo g (by first | exact e | exact e.symm) hO)) e4, ?_, h.ob, fun g hg' hO => ?_, h.bl.grown hg h.bl.size (fun k hk => (World.ownsRow.lt h.on k hk).1), h.nn, h.rm, h.ar, fun r hr => ?_⟩
  · unfold ON
    rw [List.length_append, nc_app]; exact ho
  · rcases hat with e | e
    · exact h.vo g (by rw [← e]; exact hg') hO
    · rw [e] at hg'
      have := Option.some.inj hg'
      have := h.qs.lt g hO
      omega
  · rcases List.mem_append.1 hr with h1 | h1
    · exact h.kn r h1
    · rw [List.mem_singleton.1 h1]; exact hk
theorem gtNil (q : Nat) (W : World) : (binOp .eql 23 (.pointer (some ⟨q, 0, none⟩)) (.pointer none)).run Try.prog W = .ok (.bool false) W := by kernel_rfl
theorem LL.slc {w0 wr : World} {q n : Nat} {room : Int} {O : Nat → Prop} {Z : Qx} {v : Value} {L : List Kn} (h : LL w0 wr q room O Z v L n) : ∃ a c, v = .slice a L.length c := by
  rcases h.on.slc with ⟨rfl, rfl⟩ | ⟨g, cap, rfl, _⟩
  · exact ⟨_, _, rfl⟩
  · exact ⟨_, _, rfl⟩
set_option maxRecDepth 100000 in
set_option maxHeartbeats 16000000 in
theorem loses_law (room : Int) (v : Value) (S : List Oq) (w : World) (hv : RO w v S) (hl : S.length ≤ 2932031007402) :
    Calls Try.prog 3 #[.int .i64 room, v] w fun e w' => e = .returned (.bool true) ∧ Below w.heap.size w w' := by
  obtain ⟨hOq, a, cap, rfl, hS⟩ := hv
  have HN := hide (newQ_any room w)
  have HOQ := hide hOq
  have HS := hide hS
  have HL := hide hl
  clear hOq hS hl
  go_enter Try.func3, Try.ntmps3
  go_wp2_with fail
  refine HN.out.mono ?_
  rintro r w1 ⟨q, Z0, O0, rfl, h1, h2, h3, h4, h5, h6, _⟩
  have HW := hide (works_any w1)
  have HST := hide (fun (w2 : World) (hb : Below w1.heap.size w1 w2) => LL.start h1 h2 h3 h4 h5 h6 hb)
  have gn := gtNil
  clear h1 h2 h3 h4 h5 h6 HN
  go_wp2_with fail
  refine HW.out.mono ?_
  rintro r w2 ⟨rfl, hb2⟩
  have H0 := hide (HST.out w2 hb2)
  clear hb2 HST HW
  go_wp2_with fail
  go_loopw [6, 7] (fun l i wr => ∃ (k : Nat) (O : Nat → Prop) (Z : Qx) (L : List Kn), k ≤ S.length ∧ i = .int .i64 (k : Int) ∧ Hid (LL w wr q room O Z l L k)) (fun _ i _ => S.length - (intOf i).toNat)
  case atStart => exact ⟨0, O0, Z0, [], Nat.zero_le _, rfl, H0⟩
  case round =>
    clear H0
    obtain ⟨k, O, Z, L, hk, rfl, HLL⟩ := hrel
    obtain ⟨la, lc, hlv⟩ := HLL.out.slc
    subst hlv
    by_cases hlt : k < S.length
    · obtain ⟨p, hp⟩ : ∃ p, S[k]? = some p := ⟨_, List.getElem?_eq_getElem hlt⟩
      obtain ⟨sb, soff, ha, hsl, hsc⟩ := HS.out.resolve_left (fun h => by rw [h] at hlt; simp at hlt)
      have hbl := HLL.out.bl
      obtain ⟨e0, e1, e2, e3⟩ := hsc k p hp
      have c0 := (hbl.cell (p := ⟨sb, _, none⟩) hsl).trans e0
      have c1 := (hbl.cell (p := ⟨sb, _, none⟩) hsl).trans e1
      have c2 := (hbl.cell (p := ⟨sb, _, none⟩) hsl).trans e2
      have c3 := (hbl.cell (p := ⟨sb, _, none⟩) hsl).trans e3
      have c1' : wr.cell? ⟨sb, soff + (k * 4 + 1), none⟩ = some (.int .i64 p.kind) := c1
      have c2' : wr.cell? ⟨sb, soff + (k * 4 + 2), none⟩ = some (.int .i64 p.id) := c2
      have c3' : wr.cell? ⟨sb, soff + (k * 4 + 3), none⟩ = some p.kv := c3
      unfold Oq.kv at c3 c3'
      subst ha
      have HP := hide (HOQ.out p (List.mem_of_getElem? hp))
      obtain ⟨hd1, i0, i1, wk⟩ := ix hlt (by have := HL.out; omega)
      obtain ⟨W8, hW8⟩ : ∃ W8, wr.alloc (.cells #[.int .i64 p.on, .int .i64 p.kind, .int .i64 p.id, .slice p.ka p.ks.length p.kc] 29) = W8 := ⟨_, rfl⟩
      have b8 : Below wr.heap.size wr W8 := by rw [← hW8]; exact (Below.refl _ _).alloc (Nat.le_refl _) _
      have kb8 : W8.heap[wr.heap.size]? = some (.cells #[.int .i64 p.on, .int .i64 p.kind, .int .i64 p.id, .slice p.ka p.ks.length p.kc] 29 (0, 0)) := by rw [← hW8]; exact alloc_new wr _
      obtain ⟨s0, s1, s2, s3⟩ := four_cells kb8
      have HBX := hide kb8
      have H8 := hide (HLL.out.later b8)
      have HPK := hide (pick_any p.kind 5 W8 (by omega) (by omega))
      have HOBX : Hid (∀ g, O g → g ≠ wr.heap.size) := hide (fun g hg e => by have := HLL.out.qs.lt g hg; omega)
      have HOBV : Hid (∀ g, (Value.slice la L.length lc).ownBlock = some g → g ≠ wr.heap.size) := hide (fun g hg e => by have := (World.ownsRow.lt HLL.out.on g hg).2; omega)
      have HKN : Hid (k ≤ 2932031007402) := hide (by have := HL.out; omega)
      obtain ⟨ob, hob⟩ : ∃ ob, ob = wr.heap.size := ⟨_, rfl⟩
      have HLT := hide hlt
      clear hsc hp hsl hbl e0 e1 e2 e3 b8 kb8
      go_wp2_with fail
      rw [← hob] at HBX HOBX HOBV s0 s1 s2 s3 ⊢
      clear hob c0 c1 c2 c3 c1' c2' c3' hW8 HLL
      refine HPK.out.mono ?_
      rintro r w9 ⟨rfl, rfl⟩
      clear HPK s0 s1
      rcases pick5 p.kind with hm | hm | hm | hm | hm
      · as_aux_lemma =>
          have b9 : Below w9.heap.size w9 w9.drew := (Below.refl _ _).drew
          have HOL := hide (Array.getElem?_eq_some_iff.1 HBX.out).1
          have HCP0 := KY.copyM_any p.kv p.ks w9.drew ((HP.out.rm.later H8.out.bl).later b9) HP.out.kl
          unfold Oq.kv at HCP0
          have HCP := hide HCP0
          have HB9 := hide b9
          have d2 : w9.drew.cell? ⟨ob, 2, none⟩ = some (.int .i64 p.id) := s2
          have d3 : w9.drew.cell? ⟨ob, 3, none⟩ = some (.slice p.ka p.ks.length p.kc) := s3
          have HPU := hide (fun (v : Value) (W : World) (ho : KY.OM W w9.drew.heap.size v p.ks) (hb : Below w9.drew.heap.size w9.drew W) => H8.out.puts (HB9.out.trans hb) HOBX.out HBX.out HP.out ho.rm HKN.out)
          have HBC : Hid (∀ (W : World) (o : Nat), Below w9.drew.heap.size w9.drew W → W.cell? ⟨ob, o, none⟩ = w9.drew.cell? ⟨ob, o, none⟩) := hide (fun W o hb => hb.cell (p := ⟨ob, o, none⟩) HOL.out)
          rw [hm]
          clear hm b9 HCP0
          go_wp2_with fail
          go_region_held3 (fun W => W.cell? ⟨ob, 2, none⟩ = some (.int .i64 p.id) ∧ W.cell? ⟨ob, 3, none⟩ = some (.slice p.ka p.ks.length p.kc)) (go_keep) (first
            | (go_at_call 9; refine HCP.out.mono ?_; rintro r w10 ⟨v10, rfl, o10, b10⟩; obtain ⟨a10, c10, hv10⟩ := KY.OM.slice o10; subst hv10; have t2 := (HBC.out w10 2 b10).trans d2; have t3 := (HBC.out w10 3 b10).trans d3; have HPV := hide (HPU.out _ w10 o10 b10); have HB10 := hide b10; clear o10 b10)
            | (go_at_call 8; refine HPV.out.mono ?_; rintro r w11 ⟨rv, b, rfl, hrun, hgrd, hbx, HC⟩; obtain ⟨-, -, y2, y3⟩ := four_cells hbx; have BX := hide hbx; clear hbx HPU HPV HCP HBC HB10 s2 s3 d2 d3 t2 t3))
          have HLE : Hid (L.length ≤ k) := hide H8.out.len
          rcases HC.out with ⟨O', j, rfl, hj, HA0, hfd⟩ | ⟨O', rfl, HA0, hfd, g1⟩ | ⟨O', Z', rfl, HA0, HRL, hfd, g1, g2⟩
          · have HA := hide (HA0.out.up (Nat.le_succ k))
            have HFD := hide (HA0.out.find (by have := HKN.out; omega) p.id)
            rw [hfd] at HFD
            obtain ⟨g1, g2, g3, g4, g5⟩ := jx j _ hj
            clear HA0 hj hfd H8 HC
            go_wp2_with fail
            refine HFD.out.mono ?_
            rintro r w12 ⟨rfl, rfl⟩
            clear HFD
            go_wp2_with fail
            have HH := hide HA.out.holds
            go_wp2_with fail
            refine HH.out.mono ?_
            rintro r wz ⟨rfl, hbz⟩
            have HZZ := hide (HA.out.later hbz)
            clear hbz HH
            go_wp2_with fail
            go_roundw
            case rel => exact ⟨k + 1, _, _, _, HLT.out, congrArg (Value.int .i64) wk, HZZ⟩
            case measure => first | exact meas_up HLT.out | (rw [wk]; exact meas_up HLT.out)
          · have HA := hide (HA0.out.up (Nat.le_succ k))
            have HFD := hide (HA0.out.find (by have := HKN.out; omega) p.id)
            rw [hfd] at HFD
            clear HA0 hfd H8 HC
            go_wp2_with fail
            refine HFD.out.mono ?_
            rintro r w12 ⟨rfl, rfl⟩
            clear HFD
            go_wp2_with fail
            have HH := hide HA.out.holds
            go_wp2_with fail
            refine HH.out.mono ?_
            rintro r wz ⟨rfl, hbz⟩
            have HZZ := hide (HA.out.later hbz)
            clear hbz HH
            go_wp2_with fail
            go_roundw
            case rel => exact ⟨k + 1, _, _, _, HLT.out, congrArg (Value.int .i64) wk, HZZ⟩
            case measure => first | exact meas_up HLT.out | (rw [wk]; exact meas_up HLT.out)
          · have HFD := hide (find_any _ w.heap.size L p.id w11 HA0.out.on (by have := HLE.out; have := HKN.out; omega))
            rw [hfd] at HFD
            clear hfd H8 HC
            go_wp2_with fail
            refine HFD.out.mono ?_
            rintro r w12 ⟨rfl, rfl⟩
            clear HFD
            have HO : Hid (w12.ownsRow w.heap.size 37 4 (.slice la L.length lc) L.length (nc L)) := hide HA0.out.on
            have H63 : Hid (L.length + 1 ≤ 3000000000001) := hide (by have := HLE.out; have := HKN.out; omega)
            have HBS : Hid (w.heap.size ≤ w12.heap.size) := hide HA0.out.bl.size
            obtain ⟨it0, hit, hz0, hz1, hz2⟩ := info_parts Try.infoKn
            obtain ⟨cs, hcs⟩ : ∃ cs, nc L = cs := ⟨_, rfl⟩
            rw [hcs] at HO
            have HCS := hide hcs
            clear hcs
            go_wp2_with (first
              | (at_builtin; refine wpList_append_own_at _ rfl _ _ 26 rfl w.heap.size 37 it0 (.agg #[.int .i64 0, .slice none 0 0, .bool false, .bool false]) 4 40 Try.underlying26 hit hz0 hz1 hz2 rfl (by decide) _ _ _ rfl (HO.out.alloc _) ⟨_, 0, none⟩ 1 1 [.int .i64 p.id, .slice p.ka p.ks.length p.kc, .bool false, .bool false] rfl rfl ?c1 ?c2 ?c3 ?c4 ?c5 ?_))
            case c3 => have := H63.out; unfold maxLen; omega
            case c4 => have := H63.out; omega
            case c5 => have := HBS.out; simp; omega
            case c1 => exact fun j u hj => by rw [Addr.add_lit, cell_of_row _ _ _ _ _ _ (alloc_new w12 _), Nat.zero_add]; simpa using hj
            case c2 => first | exact ⟨rfl, rfl, rfl, rfl⟩ | (intro u hu; simp at hu; rcases hu with rfl | rfl | rfl | rfl <;> rfl)
            intro v' w2' hown' hgrow _ hat
            rw [← HCS.out] at hown'
            have HA := hide (((HA0.out.later ((Below.refl _ _).alloc (Nat.le_refl _) _)).app (p := ⟨p.id, p.ks, p.ka, p.kc, false, false⟩) hown' hgrow (hat.imp_right (fun e => by rw [e]; simp)) ⟨HP.out.rm, HP.out.kl⟩).ll HRL.out)
            generalize hLL' : L ++ [(⟨p.id, p.ks, p.ka, p.kc, false, false⟩ : Kn)] = L' at HA
            obtain ⟨a', c', hv'⟩ := HA.out.slc
            subst hv'
            clear hown' hgrow hat HO HA0 HRL HCS hLL' H63 HBS hit hz0 hz1 hz2 g1 g2 y2 y3
            go_wp2_with fail
            have HH := hide HA.out.holds
            go_wp2_with fail
            refine HH.out.mono ?_
            rintro r wz ⟨rfl, hbz⟩
            have HZZ := hide (HA.out.later hbz)
            clear hbz HH
            go_wp2_with fail
            go_roundw
            case rel => exact ⟨k + 1, _, _, _, HLT.out, congrArg (Value.int .i64) wk, HZZ⟩
            case measure => first | exact meas_up HLT.out | (rw [wk]; exact meas_up HLT.out)
      · as_aux_lemma =>
          have HTC := hide (touchQ_any O q p.kv p.ks Z _ H8.out.qs (HP.out.rm.later H8.out.bl) HP.out.kl HP.out.kk (fun h0 g hg hO => by have := rm_ob HP.out.rm h0 g hg; have := H8.out.ob g hO; omega))
          unfold Oq.kv at HTC
          rw [hm]
          clear hm s2
          go_wp2_with fail
          refine HTC.out.mono ?_
          rintro r w11 ⟨Z', rfl, hq, hr, hn, hA, hT⟩
          obtain ⟨O', m9, hO', hFw⟩ := H8.out.lm.call (m := k) hq (by rw [hn]; exact H8.out.nn) hr (by rw [hr, hA]; exact H8.out.ar)
          obtain ⟨n0, n1⟩ := touched_n H8.out.qs.ok m9.qs.ok hA hT
          rw [H8.out.rel.len] at n1
          obtain ⟨N, hN⟩ : ∃ N, (Z'.Rd.length : Int) - (Z.Rd.length : Int) = N := ⟨_, rfl⟩
          rw [hN] at n0 n1 ⊢
          obtain ⟨n2, n3, n4⟩ := tn N _ n0 n1
          have HRL := hide (H8.out.rel.touch H8.out.qs.ok hA hT)
          have HLE : Hid (L.length ≤ 8796093022000) := hide (by have := HKN.out; have := H8.out.len; omega)
          have hbx : w11.heap[ob]? = some (.cells #[.int .i64 p.on, .int .i64 p.kind, .int .i64 p.id, .slice p.ka p.ks.length p.kc] 29 (0, 0)) := (hFw.block ob (Array.getElem?_eq_some_iff.1 HBX.out).1 (fun h => HOBX.out ob h rfl)).trans HBX.out
          have BX := hide hbx
          have M9 := hide m9
          clear s3 n0 n1 hN hq hr hn hA hT m9 hO' hFw HTC hbx HBX HOBX H8
          go_wp2_with fail
          go_loopw [10] (fun i wr => ∃ (j : Nat), j ≤ L.length ∧ i = .int .i64 (j : Int) ∧ Hid (LM w wr q room O' Z' (.slice la L.length lc) (tl p.ks L j) k) ∧ Hid (wr.heap[ob]? = some (.cells #[.int .i64 p.on, .int .i64 p.kind, .int .i64 p.id, .slice p.ka p.ks.length p.kc] 29 (0, 0)))) (fun i _ => L.length - (intOf i).toNat)
          case atStart => exact ⟨0, Nat.zero_le _, rfl, hide (by rw [tl_zero]; exact M9.out), BX⟩
          case round =>
            clear M9 BX
            obtain ⟨j, hj, rfl, M, BX⟩ := hrel
            by_cases hjl : j < L.length
            · obtain ⟨pj, hpj⟩ : ∃ pj, L[j]? = some pj := ⟨_, List.getElem?_eq_getElem hjl⟩
              obtain ⟨g, hga, -, hfz, k0, k1, k2, k3⟩ := M.out.el (tl_at hpj)
              subst hga
              obtain ⟨-, -, -, s3⟩ := four_cells BX.out
              obtain ⟨hdj, j0, j1, wj1⟩ := ix hjl HLE.out
              have HPJ := hide hpj
              have HKJ := hide (M.out.kn pj (List.mem_of_getElem? (tl_at hpj)))
              have HGL := hide (World.ownsRow.lt M.out.on g rfl).2
              have HOL := hide (Array.getElem?_eq_some_iff.1 BX.out).1
              have HJL := hide hjl
              have HMT : Hid (∀ x : Gr wr, Calls Try.prog 12 #[pj.kv, p.kv] x.1 fun e w' => e = .returned (.bool (meetsB pj.ks p.ks)) ∧ Below x.1.heap.size x.1 w') := hide (fun x => meets_any _ _ _ _ x.1 ((HKJ.out.1.later M.out.bl).later (x.2.mono (Nat.le_refl _))) ((HP.out.rm.later M.out.bl).later x.2) HKJ.out.2 HP.out.kl)
              unfold Kn.kv Oq.kv at HMT
              unfold Kn.kv at k1
              obtain ⟨d, hd⟩ : ∃ d, pj.d = d := ⟨_, rfl⟩
              obtain ⟨mb, hmb⟩ : ∃ mb, meetsB pj.ks p.ks = mb := ⟨_, rfl⟩
              rw [hd] at k2
              rw [hmb] at HMT
              have HD := hide (And.intro hd hmb)
              have HK1 := hide k1
              have HK2 := hide k2
              have HS3 := hide s3
              clear hfz hpj k0 k3 hd hmb k1 k2 s3 hj hjl
              cases d with
              | true =>
                go_wp2_with fail
                have HX0 := hide ((Below.refl wr.heap.size wr).drew)
                haveI : Nonempty (Gr wr) := ⟨⟨_, HX0.out⟩⟩
                have z1 : ∀ x : Gr wr, x.1.cell? ⟨g, j * 4 + 1, none⟩ = some (.slice pj.ka pj.ks.length pj.kc) := fun x => (x.2.cell (p := ⟨g, j * 4 + 1, none⟩) HGL.out).trans HK1.out
                have z2 : ∀ x : Gr wr, x.1.cell? ⟨g, j * 4 + 2, none⟩ = some (.bool true) := fun x => (x.2.cell (p := ⟨g, j * 4 + 2, none⟩) HGL.out).trans HK2.out
                have z3 : ∀ x : Gr wr, x.1.cell? ⟨ob, 3, none⟩ = some (.slice p.ka p.ks.length p.kc) := fun x => (x.2.cell (p := ⟨ob, 3, none⟩) HOL.out).trans HS3.out
                refine region_qtails (C := fun w' => ∃ x : Gr wr, w' = x.1) 19 0 rfl (by kernel_rfl) (by kernel_rfl) ⟨⟨_, HX0.out⟩, rfl⟩ ?_
                simp only [List.take_succ_cons, List.take_zero, List.drop_succ_cons, List.drop_zero]
                repeat (first
                  | go_big_quiet_skip
                  | (go_big_quiet_want; (go_big_quiet_op; first
                      | go_big_quiet_on
                      | (apply Exists.intro; refine ⟨fun x => ?_, ?_⟩; (go_at_call 12; exact x.call (HMT.out x)); go_big_quiet_on))))
                refine wpQuiet_nil ?_
                rintro w5 ⟨x5, rfl⟩
                obtain ⟨w5, hx⟩ := x5
                dsimp only
                obtain ⟨g', hga, -, hfz, -, -, k2, -⟩ := (M.out.later hx).el (tl_at HPJ.out)
                obtain rfl : g = g' := by injection hga with hga; injection hga
                have hf2 := hfz (j * 4 + 2)
                rw [HD.out.1] at k2
                have M' := hide ((M.out.later hx).tstep HPJ.out true (by rw [HD.out.1, HD.out.2]; rfl))
                have BX' := hide (((Below.heap_setCell w5 ⟨g, j * 4 + 2, none⟩ (.bool true) ob (fun e => HOBV.out g rfl e.symm)).trans (hx.block ob HOL.out)).trans BX.out)
                clear hga hfz HMT HK1 HK2 HS3 M BX z1 z2 z3 hx HX0
                go_wp2_with fail
                go_roundw
                case rel => exact ⟨j + 1, HJL.out, congrArg (Value.int .i64) wj1, M', BX'⟩
                case measure => first | exact meas_up HJL.out | (rw [wj1]; exact meas_up HJL.out)
              | false =>
                go_wp2_with fail
                have HX0 := hide ((Below.refl wr.heap.size wr).drew)
                haveI : Nonempty (Gr wr) := ⟨⟨_, HX0.out⟩⟩
                have z1 : ∀ x : Gr wr, x.1.cell? ⟨g, j * 4 + 1, none⟩ = some (.slice pj.ka pj.ks.length pj.kc) := fun x => (x.2.cell (p := ⟨g, j * 4 + 1, none⟩) HGL.out).trans HK1.out
                have z2 : ∀ x : Gr wr, x.1.cell? ⟨g, j * 4 + 2, none⟩ = some (.bool false) := fun x => (x.2.cell (p := ⟨g, j * 4 + 2, none⟩) HGL.out).trans HK2.out
                have z3 : ∀ x : Gr wr, x.1.cell? ⟨ob, 3, none⟩ = some (.slice p.ka p.ks.length p.kc) := fun x => (x.2.cell (p := ⟨ob, 3, none⟩) HOL.out).trans HS3.out
                refine region_qtails (C := fun w' => ∃ x : Gr wr, w' = x.1) 19 0 rfl (by kernel_rfl) (by kernel_rfl) ⟨⟨_, HX0.out⟩, rfl⟩ ?_
                simp only [List.take_succ_cons, List.take_zero, List.drop_succ_cons, List.drop_zero]
                repeat (first
                  | go_big_quiet_skip
                  | (go_big_quiet_want; (go_big_quiet_op; first
                      | go_big_quiet_on
                      | (apply Exists.intro; refine ⟨fun x => ?_, ?_⟩; (go_at_call 12; exact x.call (HMT.out x)); go_big_quiet_on))))
                refine wpQuiet_nil ?_
                rintro w5 ⟨x5, rfl⟩
                obtain ⟨w5, hx⟩ := x5
                dsimp only
                obtain ⟨g', hga, -, hfz, -, -, k2, -⟩ := (M.out.later hx).el (tl_at HPJ.out)
                obtain rfl : g = g' := by injection hga with hga; injection hga
                have hf2 := hfz (j * 4 + 2)
                rw [HD.out.1] at k2
                have M' := hide ((M.out.later hx).tstep HPJ.out mb (by rw [HD.out.1, HD.out.2]; rfl))
                have BX' := hide (((Below.heap_setCell w5 ⟨g, j * 4 + 2, none⟩ (.bool mb) ob (fun e => HOBV.out g rfl e.symm)).trans (hx.block ob HOL.out)).trans BX.out)
                clear hga hfz HMT HK1 HK2 HS3 M BX z1 z2 z3 hx HX0
                go_wp2_with fail
                go_roundw
                case rel => exact ⟨j + 1, HJL.out, congrArg (Value.int .i64) wj1, M', BX'⟩
                case measure => first | exact meas_up HJL.out | (rw [wj1]; exact meas_up HJL.out)
            · have e : j = L.length := by omega
              subst e
              have HA := hide ((show LM w wr q room O' Z' _ (L.map (tch p.ks)) k from by rw [← tl_all]; exact M.out).ll HRL.out |>.up (Nat.le_succ k))
              have hl2 : (L.map (tch p.ks)).length = L.length := List.length_map _
              clear M BX
              go_wp2_with fail
              have HH := hide HA.out.holds
              go_wp2_with fail
              refine HH.out.mono ?_
              rintro r wz ⟨rfl, hbz⟩
              have HZZ := hide (HA.out.later hbz)
              clear hbz HH
              go_wp2_with fail
              go_roundw
              case rel => exact ⟨k + 1, _, _, _, HLT.out, congrArg (Value.int .i64) wk, HZZ⟩
              case measure => first | exact meas_up HLT.out | (rw [wk]; exact meas_up HLT.out)
      · as_aux_lemma =>
          have HTK := hide (takeQ_any O q Z _ H8.out.qs)
          rw [hm]
          clear hm s2 s3
          go_wp2_with fail
          refine HTK.out.mono ?_
          rintro r w11 (⟨h0, rfl, hq⟩ | ⟨x, t, Z', hR, hx, rfl, hq, hr, hn, hA, hT⟩)
          · obtain ⟨O', h9⟩ := H8.out.call hq H8.out.rel H8.out.nn rfl H8.out.ar
            have HFD := hide (h9.find (by have := HKN.out; omega) 0)
            have HA := hide (h9.up (Nat.le_succ k))
            clear h0 hq h9 HTK H8
            go_wp2_with fail
            refine HFD.out.mono ?_
            rintro r w10 ⟨rfl, rfl⟩
            clear HFD
            obtain ⟨F, hF⟩ : ∃ F, fd 0 L = F := ⟨_, rfl⟩
            rw [hF]
            clear hF
            go_wp2_with fail
            have HH := hide HA.out.holds
            go_wp2_with fail
            refine HH.out.mono ?_
            rintro r wz ⟨rfl, hbz⟩
            have HZZ := hide (HA.out.later hbz)
            clear hbz HH
            go_wp2_with fail
            go_roundw
            case rel => exact ⟨k + 1, _, _, _, HLT.out, congrArg (Value.int .i64) wk, HZZ⟩
            case measure => first | exact meas_up HLT.out | (rw [wk]; exact meas_up HLT.out)
          · obtain ⟨O', m9, -, -⟩ := H8.out.lm.call (m := k) hq (by rw [hn]; exact H8.out.nn) hr (by rw [hr, hA]; exact H8.out.ar)
            have hst : (Z.T x).st = 1 := ((H8.out.qs.ok.o.rd x).1 (by rw [hR]; exact List.mem_cons_self)).2
            obtain ⟨j, pj, hj, hpj, hrl, hfd⟩ := fd_of H8.out.qs.ok H8.out.rel hx rfl
            have hjl := (List.getElem?_eq_some_iff.1 hpj).1
            obtain ⟨g1, g2, g3, g4, g5⟩ := jx j _ hjl
            obtain ⟨g, rfl, -, hfz, k0, k1, k2, k3⟩ := m9.el hpj
            obtain ⟨eo, ed⟩ := hrl.ready hst
            rw [eo] at k3
            rw [ed] at k2
            have hf2 := hfz (j * 4 + 2)
            have m10 := m9.setD hpj false
            have hp10 : (L.set j { pj with d := false })[j]? = some { pj with d := false } := by rw [List.getElem?_set_self hjl]
            obtain ⟨g', eg, -, hfz', -, -, -, k3'⟩ := m10.el hp10
            obtain rfl : g = g' := by injection eg with eg; injection eg
            have hf3 := hfz' (j * 4 + 3)
            have m11 := (show LM w _ q room O' Z' (.slice (some ⟨g, 0, none⟩) (L.set j { pj with d := false }).length lc) (L.set j { pj with d := false }) k from by rw [List.length_set]; exact m10).setO hp10 true
            rw [List.length_set, List.set_set] at m11
            have HA := hide ((m11.ll (H8.out.rel.upd H8.out.qs.ok hA hT hj hrl.take)).up (Nat.le_succ k))
            have HFD := hide (find_any _ w.heap.size L (Z.T x).id w11 m9.on (by have := H8.out.len; have := HKN.out; omega))
            rw [hfd] at HFD
            rw [show ({ pj with d := false } : Kn).o = false from eo] at k3'
            clear hq hr hn hA hT m9 m10 m11 HTK H8 hx hj hpj hrl hfd hfz hfz' hjl k0 k1 eo ed hst hp10 eg hR
            go_wp2_with fail
            refine HFD.out.mono ?_
            rintro r w10 ⟨rfl, rfl⟩
            clear HFD
            go_wp2_with fail
            have HH := hide HA.out.holds
            go_wp2_with fail
            refine HH.out.mono ?_
            rintro r wz ⟨rfl, hbz⟩
            have HZZ := hide (HA.out.later hbz)
            clear hbz HH
            go_wp2_with fail
            go_roundw
            case rel => exact ⟨k + 1, _, _, _, HLT.out, congrArg (Value.int .i64) wk, HZZ⟩
            case measure => first | exact meas_up HLT.out | (rw [wk]; exact meas_up HLT.out)
      · as_aux_lemma =>
          have HFD := hide (H8.out.find (by have := HKN.out; omega) p.id)
          have HBK := hide (backQ_any O q p.id Z _ H8.out.qs HP.out.id)
          rw [hm]
          clear hm
          go_wp2_with fail
          refine HFD.out.mono ?_
          rintro r w10 ⟨rfl, rfl⟩
          clear HFD
          obtain ⟨F, hF⟩ : ∃ F, fd p.id L = F := ⟨_, rfl⟩
          have HF := hide hF
          rw [hF]
          clear hF
          go_wp2_with fail
          refine HBK.out.mono ?_
          rintro r w11 (⟨hno, rfl, hq⟩ | ⟨x, Z', hx, hi, hst, rfl, hq, hr, hn, hA, hT⟩)
          · obtain ⟨O', m9, -, -⟩ := H8.out.lm.call (m := k) hq H8.out.nn rfl H8.out.ar
            have HRL := hide H8.out.rel
            rcases H8.out.qs.ok.named p.id with ⟨hN, hno2⟩ | ⟨x, hx, hi, hN⟩
            · have eF : F = -1 := by rw [← HF.out]; exact fd_not H8.out.rel hno2
              subst eF
              have HA := hide ((m9.ll HRL.out).up (Nat.le_succ k))
              clear hno hno2 hN hq m9 HBK H8 HRL HF
              go_wp2_with fail
              have HH := hide HA.out.holds
              go_wp2_with fail
              refine HH.out.mono ?_
              rintro r wz ⟨rfl, hbz⟩
              have HZZ := hide (HA.out.later hbz)
              clear hbz HH
              go_wp2_with fail
              go_roundw
              case rel => exact ⟨k + 1, _, _, _, HLT.out, congrArg (Value.int .i64) wk, HZZ⟩
              case measure => first | exact meas_up HLT.out | (rw [wk]; exact meas_up HLT.out)
            · obtain ⟨j, pj, hj, hpj, hrl, hfd⟩ := fd_of H8.out.qs.ok H8.out.rel hx hi
              have eF : F = (j : Int) := by rw [← HF.out]; exact hfd
              subst eF
              have hjl := (List.getElem?_eq_some_iff.1 hpj).1
              obtain ⟨g1, g2, g3, g4, g5⟩ := jx j _ hjl
              obtain ⟨g, rfl, -, hfz, k0, k1, k2, k3⟩ := m9.el hpj
              have ho : pj.o = false := by rw [hrl.o]; exact decide_eq_false (hno x hx hi)
              rw [ho] at k3
              have hf3 := hfz (j * 4 + 3)
              have HA := hide (((m9.setO hpj false).ll (by
                have e : ({ pj with o := false } : Kn) = pj := by rw [← ho]
                rw [e, set_same hpj]; exact HRL.out)).up (Nat.le_succ k))
              clear hno hN hq m9 HBK H8 HRL HF hx hi hj hpj hrl hfd hfz hjl ho k0 k1
              go_wp2_with fail
              have HH := hide HA.out.holds
              go_wp2_with fail
              refine HH.out.mono ?_
              rintro r wz ⟨rfl, hbz⟩
              have HZZ := hide (HA.out.later hbz)
              clear hbz HH
              go_wp2_with fail
              go_roundw
              case rel => exact ⟨k + 1, _, _, _, HLT.out, congrArg (Value.int .i64) wk, HZZ⟩
              case measure => first | exact meas_up HLT.out | (rw [wk]; exact meas_up HLT.out)
          · obtain ⟨O', m9, -, -⟩ := H8.out.lm.call (m := k) hq (by rw [hn]; exact H8.out.nn) hr (by rw [hr, hA]; exact H8.out.ar)
            have HRL := hide H8.out.rel
            obtain ⟨j, pj, hj, hpj, hrl, hfd⟩ := fd_of H8.out.qs.ok H8.out.rel hx hi
            have eF : F = (j : Int) := by rw [← HF.out]; exact hfd
            subst eF
            have hjl := (List.getElem?_eq_some_iff.1 hpj).1
            obtain ⟨g1, g2, g3, g4, g5⟩ := jx j _ hjl
            obtain ⟨g, rfl, -, hfz, k0, k1, k2, k3⟩ := m9.el hpj
            obtain ⟨eo, ed⟩ := hrl.out hst
            rw [eo] at k3
            rw [ed] at k2
            have hf3 := hfz (j * 4 + 3)
            have HA := hide (((m9.setO hpj false).ll (HRL.out.upd H8.out.qs.ok hA hT hj (hrl.back hst))).up (Nat.le_succ k))
            obtain ⟨b, hb⟩ : ∃ b, (Z.T x).tch = b := ⟨_, rfl⟩
            rw [hb] at k2 ⊢
            clear hq hr hn hA hT m9 HBK H8 HRL HF hx hi hj hpj hrl hfd hfz hjl k0 k1 eo ed hst hb
            cases b
            · go_wp2_with fail
              have HH := hide HA.out.holds
              go_wp2_with fail
              refine HH.out.mono ?_
              rintro r wz ⟨rfl, hbz⟩
              have HZZ := hide (HA.out.later hbz)
              clear hbz HH
              go_wp2_with fail
              go_roundw
              case rel => exact ⟨k + 1, _, _, _, HLT.out, congrArg (Value.int .i64) wk, HZZ⟩
              case measure => first | exact meas_up HLT.out | (rw [wk]; exact meas_up HLT.out)
            · go_wp2_with fail
              have HH := hide HA.out.holds
              go_wp2_with fail
              refine HH.out.mono ?_
              rintro r wz ⟨rfl, hbz⟩
              have HZZ := hide (HA.out.later hbz)
              clear hbz HH
              go_wp2_with fail
              go_roundw
              case rel => exact ⟨k + 1, _, _, _, HLT.out, congrArg (Value.int .i64) wk, HZZ⟩
              case measure => first | exact meas_up HLT.out | (rw [wk]; exact meas_up HLT.out)
      · as_aux_lemma =>
          have HFD := hide (H8.out.find (by have := HKN.out; omega) p.id)
          have HRM := hide (removeQ_any O q p.id Z _ H8.out.qs HP.out.id)
          rw [hm]
          clear hm
          go_wp2_with fail
          refine HFD.out.mono ?_
          rintro r w10 ⟨rfl, rfl⟩
          clear HFD
          obtain ⟨F, hF⟩ : ∃ F, fd p.id L = F := ⟨_, rfl⟩
          have HF := hide hF
          rw [hF]
          clear hF
          go_wp2_with fail
          refine HRM.out.mono ?_
          rintro r w11 (⟨hno, rfl, hq⟩ | ⟨x, Z', hx, hi, rfl, hq, hr, hn, hA, hT⟩)
          · have eF : F = -1 := by rw [← HF.out]; exact fd_not H8.out.rel hno
            subst eF
            obtain ⟨O', h9⟩ := H8.out.call hq H8.out.rel H8.out.nn rfl H8.out.ar
            have H9 := hide h9
            have HWO := hide (withoutL_any _ w.heap.size L (-1) w11 h9.on (by have := h9.len; have := HKN.out; omega))
            rw [woK_none] at HWO
            clear hno hq h9 HRM H8
            go_wp2_with fail
            refine HWO.out.mono ?_
            rintro r w12 ⟨v', rfl, o1, b12⟩
            have HA := hide ((H9.out.list b12 o1 H9.out.rel H9.out.kn).up (Nat.le_succ k))
            obtain ⟨a', c', hv'⟩ := HA.out.slc
            subst hv'
            clear o1 b12 HWO H9
            have HH := hide HA.out.holds
            go_wp2_with fail
            refine HH.out.mono ?_
            rintro r wz ⟨rfl, hbz⟩
            have HZZ := hide (HA.out.later hbz)
            clear hbz HH
            go_wp2_with fail
            go_roundw
            case rel => exact ⟨k + 1, _, _, _, HLT.out, congrArg (Value.int .i64) wk, HZZ⟩
            case measure => first | exact meas_up HLT.out | (rw [wk]; exact meas_up HLT.out)
          · obtain ⟨j, pj, hj, hpj, hrl, hfd⟩ := fd_of H8.out.qs.ok H8.out.rel hx hi
            have eF : F = (j : Int) := by rw [← HF.out]; exact hfd
            subst eF
            have hjl := (List.getElem?_eq_some_iff.1 hpj).1
            obtain ⟨g1, g2, g3, g4, g5⟩ := jx j _ hjl
            have hle : Z'.A.length ≤ Z.A.length := by rw [hA]; exact List.length_filter_le _ _
            obtain ⟨O', m9, -, -⟩ := H8.out.lm.call (m := k) hq (by rw [hn]; exact H8.out.nn) hr (by rw [hr]; have := H8.out.ar; omega)
            have M9 := hide m9
            have HRL := hide (H8.out.rel.rem H8.out.qs.ok hA hT hj)
            have HWO := hide (withoutL_any _ w.heap.size L (j : Int) w11 m9.on (by have := H8.out.len; have := HKN.out; omega))
            rw [woK_one hjl] at HWO
            clear hx hi hq hr hn hA hT hj hpj hrl hfd hle m9 HRM H8 hjl
            go_wp2_with fail
            refine HWO.out.mono ?_
            rintro r w12 ⟨v', rfl, o1, b12⟩
            have HA := hide (((M9.out.list b12 o1 (fun p hp => M9.out.kn p (List.mem_of_mem_eraseIdx hp))).ll HRL.out).up (Nat.le_succ k))
            obtain ⟨a', c', hv'⟩ := HA.out.slc
            subst hv'
            clear o1 b12 HWO M9 HRL
            have HH := hide HA.out.holds
            go_wp2_with fail
            refine HH.out.mono ?_
            rintro r wz ⟨rfl, hbz⟩
            have HZZ := hide (HA.out.later hbz)
            clear hbz HH
            go_wp2_with fail
            go_roundw
            case rel => exact ⟨k + 1, _, _, _, HLT.out, congrArg (Value.int .i64) wk, HZZ⟩
            case measure => first | exact meas_up HLT.out | (rw [wk]; exact meas_up HLT.out)
    · have e : k = S.length := by omega
      subst e
      go_wp2_with fail
      go_ret
      exact ⟨rfl, HLL.out.bl⟩
end Go.Proofs.Ytblldldaoejoaaa
