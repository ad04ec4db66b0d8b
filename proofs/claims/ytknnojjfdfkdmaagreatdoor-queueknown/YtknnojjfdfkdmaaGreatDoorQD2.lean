/-
  My own text: layer 19: the document's Take, Back, Touch, New, Full.
-/
import Derived.Test.YtknnojjfdfkdmaaGreatDoorQD1
namespace Go.Proofs.YtknnojjfdfkdmaaGreatDoor
open Go.RowKit Go.Extern Go.MapKept Go.ChangeMaps

theorem FS.trans {O : Nat → Prop} {a b c : World} (h : FS O a b) (k : FS O b c) : FS O a c :=
  ⟨k.os.trans h.os, k.tape.trans h.tape, k.output.trans h.output, Nat.le_trans h.size k.size, fun y hy hn => (k.block y (Nat.lt_of_lt_of_le hy h.size) hn).trans (h.block y hy hn)⟩
theorem ftD_kv {r : Nat} {vl : Value} {E E' : List De} (hk : ∀ e ∈ E', ∃ e0 ∈ E, e.kv = e0.kv ∧ e.ks = e0.ks) {g : Nat} (h : ftD r vl E' g) : ftD r vl E g := by
  rcases h with h | h | ⟨e, he, h⟩
  · exact .inl h
  · exact .inr (.inl h)
  · obtain ⟨e0, h0, q, _⟩ := hk e he
    exact .inr (.inr ⟨e0, h0, by rw [← q]; exact h⟩)
theorem fdD_cases (id : Int) : ∀ (E : List De), (fdD id E = -1 ∧ ∀ p ∈ E, p.id ≠ id) ∨ ∃ (k : Nat) (p : De), fdD id E = (k : Int) ∧ E[k]? = some p ∧ p.id = id
  | [] => .inl ⟨rfl, fun p hp => by cases hp⟩
  | q :: t => by
    by_cases e : q.id = id
    · exact .inr ⟨0, q, by unfold fdD; rw [if_pos e]; rfl, rfl, e⟩
    · rcases fdD_cases id t with ⟨h1, h2⟩ | ⟨k, p, h1, h2, h3⟩
      · refine .inl ⟨by unfold fdD; rw [if_neg e, h1, if_pos (by omega)], fun p hp => ?_⟩
        rcases List.mem_cons.1 hp with rfl | hp
        · exact e
        · exact h2 p hp
      · exact .inr ⟨k + 1, p, by unfold fdD; rw [if_neg e, h1, if_neg (by omega)]; omega, h2, h3⟩
theorem DQ.el {w : World} {B r : Nat} {room : Int} {a : Option Addr} {c n : Nat} {E : List De} (h : DQ w B r room (.slice a n c) E) {j : Nat} {p : De} (hp : E[j]? = some p) : ∃ g, a = some ⟨g, 0, none⟩ ∧ n = E.length ∧ (∀ o, w.frozen? ⟨g, o, none⟩ = false) ∧ w.cell? ⟨g, j * 4, none⟩ = some (.int .i64 p.id) ∧ w.cell? ⟨g, j * 4 + 1, none⟩ = some p.kv ∧ w.cell? ⟨g, j * 4 + 2, none⟩ = some (.int .i64 p.is) ∧ w.cell? ⟨g, j * 4 + 3, none⟩ = some (.bool p.tc) := by
  rcases h.row.slc with ⟨_, h0⟩ | ⟨g, cap, hv, _, _, hf, hc⟩
  · rw [h0] at hp; simp at hp
  · injection hv with e1 e2 e3
    exact ⟨g, e1, e2, hf, hc j p hp⟩
theorem DTo.set1 {w : World} {B r g cap : Nat} {room : Int} {E E' : List De} {o : Nat} {u : Value} (h : DQ (w.setCell ⟨g, o, none⟩ u) B r room (.slice (some ⟨g, 0, none⟩) E.length cap) E') (hk : ∀ e ∈ E', ∃ e0 ∈ E, e.kv = e0.kv ∧ e.ks = e0.ks) : DTo w (w.setCell ⟨g, o, none⟩ u) B r room (.slice (some ⟨g, 0, none⟩) E.length cap) E (.slice (some ⟨g, 0, none⟩) E.length cap) E' :=
  ⟨h, FS.set (.inr (.inl rfl)), fun _ hg => .inl (ftD_kv hk hg)⟩
theorem DTo.trans {w w' w'' : World} {B r : Nat} {room : Int} {vl vl' vl'' : Value} {E E' E'' : List De} (h : DTo w w' B r room vl E vl' E') (k : DTo w' w'' B r room vl' E' vl'' E'') : DTo w w'' B r room vl E vl'' E'' := by
  refine ⟨k.q, ⟨k.f.os.trans h.f.os, k.f.tape.trans h.f.tape, k.f.output.trans h.f.output, Nat.le_trans h.f.size k.f.size, fun y hy hn => (k.f.block y (Nat.lt_of_lt_of_le hy h.f.size) (fun e => (h.n y e).elim hn (fun e => by omega))).trans (h.f.block y hy hn)⟩, fun g hg => (k.n g hg).elim (h.n g) (fun e => .inr (Nat.le_trans h.f.size e))⟩
set_option maxRecDepth 100000 in
set_option maxHeartbeats 2000000 in
theorem rtake_any (B r : Nat) (room : Int) (vl : Value) (E : List De) (w : World) (h : DQ w B r room vl E) (hl : E.length ≤ 8796093022000) :
    Calls Tryz.prog 39 #[.pointer (some ⟨r, 0, none⟩)] w fun e w' =>
      ((∀ p ∈ E, p.is ≠ 1) ∧ e = .returned (.tuple #[.int .i64 0, .bool false]) ∧ w' = w) ∨
      (∃ (k : Nat) (p : De), E[k]? = some p ∧ p.is = 1 ∧ (∀ i q, i < k → E[i]? = some q → q.is ≠ 1) ∧ e = .returned (.tuple #[.int .i64 p.id, .bool true]) ∧ DTo w w' B r room vl E vl (E.set k { p with is := 2, tc := false })) := by
  obtain ⟨a, c, rfl⟩ := h.sl
  have k1 := h.c1
  have HL := hide hl
  have HD := hide h
  clear h hl
  go_enter Tryz.func39, Tryz.ntmps39
  go_wp2_with fail
  go_loopw [4] (fun i wr => ∃ k : Nat, k ≤ E.length ∧ i = .int .i64 (k : Int) ∧ Hid (∀ i q, i < k → E[i]? = some q → q.is ≠ 1) ∧ wr = w) (fun i _ => E.length - (intOf i).toNat)
  case atStart => exact ⟨0, Nat.zero_le _, rfl, hide (fun i q hi => by omega), rfl⟩
  case round =>
    obtain ⟨k, hk, rfl, HN, rfl⟩ := hrel
    by_cases hlt : k < E.length
    · obtain ⟨p, hp⟩ : ∃ p, E[k]? = some p := ⟨_, List.getElem?_eq_getElem hlt⟩
      obtain ⟨g, hga, -, hf, c0, c1, c2, c3⟩ := HD.out.el hp
      subst hga
      obtain ⟨hd1, i0, i1, wk⟩ := ix hlt HL.out
      have HP := hide hp
      clear hp c1
      cases hE : (p.is == 1) with
      | true =>
        have d1 := HD.out.setIs HP.out 2
        have hp1 : (E.set k { p with is := 2 })[k]? = some { p with is := 2 } := by rw [List.getElem?_set_self hlt]
        have d1' : DQ (wr.setCell ⟨g, k * 4 + 2, none⟩ (.int .i64 2)) B r room (.slice (some ⟨g, 0, none⟩) (E.set k { p with is := 2 }).length c) (E.set k { p with is := 2 }) := by rw [List.length_set]; exact d1
        have d2 := d1'.setTc hp1 false
        rw [List.length_set, List.set_set] at d2
        have hf2 := hf (k * 4 + 2)
        obtain ⟨g', hg', -, hfx, -, -, -, n3⟩ := d1.el hp1
        obtain rfl : g = g' := by injection hg' with hg'; injection hg'
        have hf3 := hfx (k * 4 + 3)
        dsimp only at n3
        have k2 := d1.c1
        have k3 := d2.c1
        have hp2 : (E.set k { p with is := 2, tc := false })[k]? = some { p with is := 2, tc := false } := by rw [List.getElem?_set_self hlt]
        obtain ⟨g'', hg'', -, -, c4, -⟩ := d2.el hp2
        obtain rfl : g = g'' := by injection hg'' with hg''; injection hg''
        have HT : Hid (DTo wr ((wr.setCell ⟨g, k * 4 + 2, none⟩ (.int .i64 2)).setCell ⟨g, k * 4 + 3, none⟩ (.bool false)) B r room (.slice (some ⟨g, 0, none⟩) E.length c) E (.slice (some ⟨g, 0, none⟩) E.length c) (E.set k { p with is := 2, tc := false })) := hide ⟨d2, (FS.set (.inr (.inl rfl))).trans (FS.set (.inr (.inl rfl))), fun _ hg => .inl (ftD_kv (set_kv (p' := { p with is := 2, tc := false }) HP.out ⟨rfl, rfl⟩) hg)⟩
        have HI : Hid (p.is = 1) := hide (by simpa using hE)
        dsimp only at c4
        clear d1 d1' d2 hp1 hp2 hfx hg' hg'' hf
        go_wp2_with fail
        first | go_ret | go_ret2
        exact .inr ⟨k, p, HP.out, HI.out, HN.out, rfl, HT.out⟩
      | false =>
        have HN2 : Hid (∀ i q, i < k + 1 → E[i]? = some q → q.is ≠ 1) := hide (fun i q hi hq => by
          by_cases e : i = k
          · subst e
            rw [HP.out] at hq
            obtain rfl := Option.some.inj hq
            simpa using hE
          · exact HN.out i q (by omega) hq)
        clear hf
        go_wp2_with fail
        go_roundw
        case rel => exact ⟨k + 1, hlt, congrArg (Value.int .i64) wk, HN2, trivial⟩
        case measure => first | exact meas_up hlt | (rw [wk]; exact meas_up hlt)
    · have e : k = E.length := by omega
      subst e
      go_wp2_with fail
      first | go_ret | go_ret2
      exact .inl ⟨fun p hp => by obtain ⟨i, hi⟩ := List.getElem?_of_mem hp; exact HN.out i p (List.getElem?_eq_some_iff.1 hi).1 hi, rfl, rfl⟩
set_option maxRecDepth 100000 in
set_option maxHeartbeats 2000000 in
theorem rback_any (B r : Nat) (room id : Int) (vl : Value) (E : List De) (w : World) (h : DQ w B r room vl E) (hl : E.length ≤ 8796093022000) :
    Calls Tryz.prog 40 #[.pointer (some ⟨r, 0, none⟩), .int .i64 id] w fun e w' =>
      ((∀ p ∈ E, p.id ≠ id) ∧ e = .returned (.bool false) ∧ w' = w) ∨
      (∃ (k : Nat) (p : De), E[k]? = some p ∧ p.id = id ∧ ((p.is ≠ 2 ∧ e = .returned (.bool false) ∧ w' = w) ∨ (p.is = 2 ∧ e = .returned (.bool p.tc) ∧ DTo w w' B r room vl E vl (E.set k { p with is := if p.tc = true then 1 else 0 })))) := by
  obtain ⟨a, c, rfl⟩ := h.sl
  have k1 := h.c1
  have HF := hide (rfind_any B r room id _ E w h hl)
  have HL := hide hl
  have HD := hide h
  clear h hl
  rcases fdD_cases id E with ⟨h1, h2⟩ | ⟨k, p, h1, hp, hid⟩
  · rw [h1] at HF
    have H2 := hide h2
    clear h1 h2
    go_enter Tryz.func40, Tryz.ntmps40
    go_wp2_with fail
    refine HF.out.mono ?_
    rintro e w' ⟨rfl, e9⟩
    replace e9 := e9.symm
    subst e9
    go_wp2_with fail
    go_ret
    exact .inl ⟨H2.out, rfl, rfl⟩
  · rw [h1] at HF
    obtain ⟨g, hga, -, hf, c0, c1, c2, c3⟩ := HD.out.el hp
    subst hga
    have hlt := (List.getElem?_eq_some_iff.1 hp).1
    obtain ⟨hd1, i0, i1, wk⟩ := ix hlt HL.out
    have hd2 : decide ((k : Int) < 0) = false := decide_eq_false (by omega)
    have HP := hide hp
    have HID := hide hid
    clear h1 hp hid c0 c1
    cases hE : (p.is == 2) with
    | false =>
      have hE2 : (p.is != 2) = true := by rw [bne, hE]; rfl
      have HI : Hid (p.is ≠ 2) := hide (by simpa using hE)
      clear hf
      go_enter Tryz.func40, Tryz.ntmps40
      go_wp2_with fail
      refine HF.out.mono ?_
      rintro e w' ⟨rfl, e9⟩
      replace e9 := e9.symm
      subst e9
      go_wp2_with fail
      go_ret
      exact .inr ⟨k, p, HP.out, HID.out, .inl ⟨HI.out, rfl, rfl⟩⟩
    | true =>
      have hE2 : (p.is != 2) = false := by rw [bne, hE]; rfl
      have HI : Hid (p.is = 2) := hide (by simpa using hE)
      have d1 := HD.out.setIs HP.out 0
      have hp1 : (E.set k { p with is := 0 })[k]? = some { p with is := 0 } := by rw [List.getElem?_set_self hlt]
      have d1' : DQ (w.setCell ⟨g, k * 4 + 2, none⟩ (.int .i64 0)) B r room (.slice (some ⟨g, 0, none⟩) (E.set k { p with is := 0 }).length c) (E.set k { p with is := 0 }) := by rw [List.length_set]; exact d1
      have d2 := d1'.setIs hp1 1
      rw [List.length_set, List.set_set] at d2
      have hf2 := hf (k * 4 + 2)
      obtain ⟨g', hg', -, hfx, -, -, n2, n3⟩ := d1.el hp1
      obtain rfl : g = g' := by injection hg' with hg'; injection hg'
      have hf3 := hfx (k * 4 + 2)
      have k2 := d1.c1
      have k3 := d2.c1
      have hp2 : (E.set k { p with is := 1 })[k]? = some { p with is := 1 } := by rw [List.getElem?_set_self hlt]
      obtain ⟨g'', hg'', -, -, -, -, n4, -⟩ := d2.el hp2
      obtain rfl : g = g'' := by injection hg'' with hg''; injection hg''
      have HT0 : Hid (DTo w (w.setCell ⟨g, k * 4 + 2, none⟩ (.int .i64 0)) B r room (.slice (some ⟨g, 0, none⟩) E.length c) E (.slice (some ⟨g, 0, none⟩) E.length c) (E.set k { p with is := 0 })) := hide ⟨d1, FS.set (.inr (.inl rfl)), fun _ hg => .inl (ftD_kv (set_kv (p' := { p with is := 0 }) HP.out ⟨rfl, rfl⟩) hg)⟩
      have HT1 : Hid (DTo w ((w.setCell ⟨g, k * 4 + 2, none⟩ (.int .i64 0)).setCell ⟨g, k * 4 + 2, none⟩ (.int .i64 1)) B r room (.slice (some ⟨g, 0, none⟩) E.length c) E (.slice (some ⟨g, 0, none⟩) E.length c) (E.set k { p with is := 1 })) := hide ⟨d2, (FS.set (.inr (.inl rfl))).trans (FS.set (.inr (.inl rfl))), fun _ hg => .inl (ftD_kv (set_kv (p' := { p with is := 1 }) HP.out ⟨rfl, rfl⟩) hg)⟩
      dsimp only at n2 n3 n4
      obtain ⟨tb, htb⟩ : ∃ tb, p.tc = tb := ⟨_, rfl⟩
      rw [htb] at n3
      have HTB := hide htb
      clear d1 d1' d2 hp1 hp2 hfx hg' hg'' hf htb c3
      cases tb with
      | true =>
        go_enter Tryz.func40, Tryz.ntmps40
        go_wp2_with fail
        refine HF.out.mono ?_
        rintro e w' ⟨rfl, e9⟩
        replace e9 := e9.symm
        subst e9
        go_wp2_with fail
        go_ret
        exact .inr ⟨k, p, HP.out, HID.out, .inr ⟨HI.out, by rw [HTB.out]; rfl, by rw [if_pos HTB.out]; exact HT1.out⟩⟩
      | false =>
        go_enter Tryz.func40, Tryz.ntmps40
        go_wp2_with fail
        refine HF.out.mono ?_
        rintro e w' ⟨rfl, e9⟩
        replace e9 := e9.symm
        subst e9
        go_wp2_with fail
        go_ret
        exact .inr ⟨k, p, HP.out, HID.out, .inr ⟨HI.out, by rw [HTB.out]; rfl, by rw [if_neg (by rw [HTB.out]; decide)]; exact HT0.out⟩⟩
theorem rfull_any (B r : Nat) (room : Int) (vl : Value) (E : List De) (w : World) (h : DQ w B r room vl E) :
    Calls Tryz.prog 25 #[.pointer (some ⟨r, 0, none⟩)] w fun e w' => e = .returned (.bool (decide ((E.length : Int) ≥ room))) ∧ ∃ n, w' = w.drewN n := by
  obtain ⟨a, c, rfl⟩ := h.sl
  have k0 := h.c0
  have k1 := h.c1
  clear h
  go_enter Tryz.func25, Tryz.ntmps25
  go_wp2_with fail
  go_quiet (fail)
  go_wp2_with fail
  go_ret
  exact ⟨rfl, _, rfl⟩
theorem rnew_any (room : Int) (w : World) :
    Calls Tryz.prog 16 #[.int .i64 room] w fun e w' => e = .returned (.pointer (some ⟨w.heap.size, 0, none⟩)) ∧ w' = w.alloc (.cells #[.int .i64 (max room 0), .slice none 0 0] 56) := by
  by_cases hr : room < 0
  · have e : max room 0 = 0 := by omega
    have hd : decide (room < 0) = true := decide_eq_true hr
    rw [e]
    go_enter Tryz.func16, Tryz.ntmps16
    go_wp2_with fail
    go_ret
    exact ⟨rfl, rfl⟩
  · have e : max room 0 = room := by omega
    have hd : decide (room < 0) = false := decide_eq_false hr
    rw [e]
    go_enter Tryz.func16, Tryz.ntmps16
    go_wp2_with fail
    go_ret
    exact ⟨rfl, rfl⟩
theorem DQ.new (w : World) (room : Int) : DQ (w.alloc (.cells #[.int .i64 room, .slice none 0 0] 56)) w.heap.size w.heap.size room (.slice none 0 0) [] :=
  ⟨alloc_new w _, World.ownsRow_nil _ _ _ _, fun e he => (by cases he), Nat.le_refl _, by simp⟩
end Go.Proofs.YtknnojjfdfkdmaaGreatDoor
