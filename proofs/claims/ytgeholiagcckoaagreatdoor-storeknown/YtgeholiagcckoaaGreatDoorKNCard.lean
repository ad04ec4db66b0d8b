/-
  My own text: KN3, KNCard in one.
-/
import Derived.Test.YtgeholiagcckoaaGreatDoorKN2
import Derived.Test.YtgeholiagcckoaaGreatDoorSNArg
import Derived.Stop.LaidErr
import Derived.Carry
namespace Go.Proofs.YtgeholiagcckoaaGreatDoor
open Go.RowKit Go.Extern Go.MapKept Go.ChangeMaps

def kx : Ky := (3, 1)
theorem kok_kx : KOK kx := ⟨by decide, by decide⟩
def xs1 : Sx := newX.put kx 1 [97]
def xs2 : Sx := xs1.put kx 3 [98]
def xs3 : Sx := xs2.put kx 3 [99]
def xs4 : Sx := xs3.put kx 5 [100]
def xs5 : Sx := xs4.opn 2
def xs6 : Sx := xs5.opn 9
def xs7 : Sx := xs6.pru kx 5
def xs8 : Sx := xs7.cls 1
def xs9 : Sx := xs8.cls 1
def xs10 : Sx := xs9.cls 3
def xs11 : Sx := xs10.pru kx 4
theorem a1 : peR 1 (newX.K kx) = 0 := by decide
theorem a2 : peR 3 (xs1.K kx) = 0 := by decide
theorem a3 : peR 3 (xs2.K kx) = 1 := by decide
theorem a4 : peR 5 (xs3.K kx) = 0 := by decide
theorem a5 : (xs4.bg : Int) + 1 = 1 := by decide
theorem a6 : (xs5.bg : Int) + 1 = 2 := by decide
theorem a7 : oldR 7 xs6.L = 2 := by decide
theorem a8 : oldR 1 xs6.L = 1 := by decide
theorem a9 : ((ab (oldR 5 xs6.L) (xs6.K kx) - 1 : Nat) : Int) = 0 := by decide
theorem a10 : (atS 2 (xs7.K kx)).toArray = #[97] := by decide
theorem a11 : atB 2 (xs7.K kx) = true := by decide
theorem a12 : (xs7.R.find? fun p => p.1 == 1).isSome = true := by decide
theorem a13 : (xs8.R.find? fun p => p.1 == 1).isSome = false := by decide
theorem a14 : (xs9.R.find? fun p => p.1 == 3).isSome = false := by decide
theorem a15 : oldR 7 xs10.L = 7 := by decide
theorem a16 : ((ab (oldR 4 xs10.L) (xs10.K kx) - 1 : Nat) : Int) = 1 := by decide
theorem a17 : atB 2 (xs11.K kx) = false := by decide
theorem a18 : laP (xs11.K kx) = (5, [100]) := by decide
theorem a19 : laB (xs11.K kx) = true := by decide
theorem xk7 (j : Ky) : xs7.K j = if j = kx then [(1, [97]), (3, [98]), (5, [100])] else [] := by
  by_cases h : j = kx
  · subst h; rw [if_pos rfl]; decide
  · rw [if_neg h]
    have e : ∀ (K : Ky → List Ver) (l : List Ver), upK K kx l j = K j := fun K l => upK_other h
    show upK _ kx _ j = []
    rw [e]
    show upK _ kx _ j = []
    rw [e]
    show upK _ kx _ j = []
    rw [e]
    show upK _ kx _ j = []
    rw [e]
    show upK _ kx _ j = []
    rw [e]
    rfl
theorem xk11 (j : Ky) : xs11.K j = if j = kx then [(3, [98]), (5, [100])] else [] := by
  by_cases h : j = kx
  · subst h; rw [if_pos rfl]; decide
  · rw [if_neg h]
    have e : ∀ (K : Ky → List Ver) (l : List Ver), upK K kx l j = K j := fun K l => upK_other h
    show upK _ kx _ j = []
    rw [e]
    have h7 := xk7 j
    rw [if_neg h] at h7
    have hc : xs10.K j = xs7.K j := rfl
    rw [hc, h7]
theorem kl7 : KL xs7 [kx] := ⟨List.pairwise_singleton _ _, by simp, fun j => by rw [xk7, List.mem_singleton]; split <;> simp [*]⟩
theorem kl11 : KL xs11 [kx] := ⟨List.pairwise_singleton _ _, by simp, fun j => by rw [xk11, List.mem_singleton]; split <;> simp [*]⟩
theorem l7 : lenS xs7 [kx] = 3 := by decide
theorem l11 : lenS xs11 [kx] = 2 := by decide
theorem kl0 {L : List Ky} (h : KL newX L) : L = [] := List.eq_nil_iff_forall_not_mem.2 (fun k hk => (h.mem k).1 hk rfl)
theorem h00 : hashF 0 0 = 9808874869469701221 := by decide
theorem h12 : hashF 1 2 = 17633220212635757292 := by decide
theorem h17 : hashF (-1) 7 = 8650659753387173368 := by decide
theorem s12 : shF 1 2 100 = 44 := by unfold shF; rw [h12]; decide

def SHs (w0 w : World) (sb kb : Nat) (X : Sx) (kk : Nat) (F : Nat → Prop) : Prop := Sep w0 w [SOp w0.heap.size sb 4 X kk F, BCp kb #[.int .i64 3, .int .i64 1] 26]
section
variable {w0 w : World} {sb kb kk : Nat} {X : Sx} {F : Nat → Prop}
theorem SHs.so (h : SHs w0 w sb kb X kk F) : SO w0.heap.size w sb 4 X kk F := h.is 0 _ rfl
theorem SHs.ks (h : SHs w0 w sb kb X kk F) : w.cell? ⟨kb, 0, none⟩ = some (.int .i64 3) ∧ w.cell? ⟨kb, 1, none⟩ = some (.int .i64 1) := ⟨(h.cells2 (i := 1) rfl).1, (h.cells2 (i := 1) rfl).2.1⟩
theorem SHs.put (h : SHs w0 w sb kb X kk F) {N : Int} {V : List UInt8} (hN : N ≤ 9223372036854775807) (hl : kk ≤ 100) {r : Int} (hr : peR N (X.K kx) = r) {Y : Sx} (hY : X.put kx N V = Y) :
    Calls Tryz.prog 11 #[.pointer (some ⟨sb, 0, none⟩), .agg #[.int .i64 3, .int .i64 1], .int .i64 N, .string ⟨V.toArray⟩] w fun e w' => e = .returned (errV r) ∧ ∃ F', Hid (SHs w0 w' sb kb Y (kk + 1) F') := by
  subst hr hY
  refine (putO_any kx N V _ _ _ _ _ _ w h.so kok_kx hN (by omega)).mono ?_
  rintro e w' ⟨rfl, h1, h2⟩
  exact ⟨rfl, _, hide (Sep.so (i := 0) h rfl h1 h2)⟩
theorem SHs.opn (h : SHs w0 w sb kb X kk F) (q : Int) (hl : kk ≤ 100) {r : Int} (hr : (X.bg : Int) + 1 = r) {Y : Sx} (hY : X.opn q = Y) :
    Calls Tryz.prog 13 #[.pointer (some ⟨sb, 0, none⟩), .int .i64 q] w fun e w' => e = .returned (.int .i64 r) ∧ ∃ F', Hid (SHs w0 w' sb kb Y (kk + 1) F') := by
  subst hr hY
  refine (openO_any q _ _ _ _ _ _ w h.so (by omega)).mono ?_
  rintro e w' ⟨rfl, h1, h2⟩
  exact ⟨rfl, _, hide (Sep.so (i := 0) h rfl h1 h2)⟩
theorem SHs.cls (h : SHs w0 w sb kb X kk F) {q : Int} (hI : IOK q) (hl : kk ≤ 100) {r : Bool} (hr : (X.R.find? fun p => p.1 == q).isSome = r) {Y : Sx} (hY : X.cls q = Y) :
    Calls Tryz.prog 18 #[.pointer (some ⟨sb, 0, none⟩), .int .i64 q] w fun e w' => e = .returned (.bool r) ∧ ∃ F', Hid (SHs w0 w' sb kb Y (kk + 1) F') := by
  subst hr hY
  refine (closeO_any q _ _ _ _ _ _ w h.so (by omega) hI).mono ?_
  rintro e w' ⟨rfl, h1, h2⟩
  exact ⟨rfl, _, hide (Sep.so (i := 0) h rfl h1 h2)⟩
theorem SHs.pru (h : SHs w0 w sb kb X kk F) (q : Int) (hl : kk ≤ 100) {r : Int} (hr : ((ab (oldR q X.L) (X.K kx) - 1 : Nat) : Int) = r) {Y : Sx} (hY : X.pru kx q = Y) :
    Calls Tryz.prog 15 #[.pointer (some ⟨sb, 0, none⟩), .agg #[.int .i64 3, .int .i64 1], .int .i64 q] w fun e w' => e = .returned (.int .i64 r) ∧ ∃ F', Hid (SHs w0 w' sb kb Y (kk + 1) F') := by
  subst hr hY
  refine (pruneO_any kx q _ _ _ _ _ _ w h.so kok_kx (by omega)).mono ?_
  rintro e w' ⟨rfl, h1, h2⟩
  exact ⟨rfl, _, hide (Sep.so (i := 0) h rfl h1 h2)⟩
theorem SHs.old (h : SHs w0 w sb kb X kk F) (q : Int) (hl : kk ≤ 100) {r : Int} (hr : oldR q X.L = r) :
    Calls Tryz.prog 14 #[.pointer (some ⟨sb, 0, none⟩), .int .i64 q] w fun e w' => e = .returned (.int .i64 r) ∧ ∃ F', Hid (SHs w0 w' sb kb X kk F') := by
  subst hr
  refine (oldO_any q _ _ _ _ _ _ w h.so (by omega)).mono ?_
  rintro e w' ⟨rfl, h1⟩
  exact ⟨rfl, _, hide (Sep.later h h1)⟩
theorem SHs.at (h : SHs w0 w sb kb X kk F) (q : Int) (hl : kk ≤ 100) {r : Array UInt8} {b : Bool} (hr : (atS q (X.K kx)).toArray = r) (hb : atB q (X.K kx) = b) :
    Calls Tryz.prog 17 #[.pointer (some ⟨sb, 0, none⟩), .agg #[.int .i64 3, .int .i64 1], .int .i64 q] w fun e w' => e = .returned (.tuple #[.string ⟨r⟩, .bool b]) ∧ ∃ F', Hid (SHs w0 w' sb kb X kk F') := by
  subst hr hb
  refine (atO_any kx q _ _ _ _ _ _ w h.so kok_kx (by omega)).mono ?_
  rintro e w' ⟨rfl, h1⟩
  exact ⟨rfl, _, hide (Sep.later h h1)⟩
theorem SHs.last (h : SHs w0 w sb kb X kk F) (hl : kk ≤ 100) {p : Ver} {b : Bool} (hr : laP (X.K kx) = p) (hb : laB (X.K kx) = b) :
    Calls Tryz.prog 19 #[.pointer (some ⟨sb, 0, none⟩), .agg #[.int .i64 3, .int .i64 1]] w fun e w' => e = .returned (.tuple #[.string ⟨p.2.toArray⟩, .int .i64 p.1, .bool b]) ∧ ∃ F', Hid (SHs w0 w' sb kb X kk F') := by
  subst hr hb
  refine (lastO_any kx _ _ _ _ _ _ w h.so kok_kx (by omega)).mono ?_
  rintro e w' ⟨rfl, h1⟩
  exact ⟨rfl, _, hide (Sep.later h h1)⟩
theorem SHs.ver (h : SHs w0 w sb kb X kk F) {L : List Ky} (hL : KL X L) {r : Nat} (hr : lenS X L = r) (h100 : r ≤ 100) :
    Calls Tryz.prog 16 #[.pointer (some ⟨sb, 0, none⟩)] w fun e w' => e = .returned (.int .i64 (r : Int)) ∧ ∃ F', Hid (SHs w0 w' sb kb X kk F') := by
  subst hr
  refine (verE_any _ _ _ _ _ _ L w h.so hL (by omega)).mono ?_
  rintro e w' ⟨rfl, h1⟩
  exact ⟨rfl, _, hide (Sep.later h h1)⟩
theorem SHs.shards (h : SHs w0 w sb kb X kk F) :
    Calls Tryz.prog 9 #[.pointer (some ⟨sb, 0, none⟩)] w fun e w' => e = .returned (.int .i64 4) ∧ ∃ F', Hid (SHs w0 w' sb kb X kk F') := by
  refine (shardsO_any _ _ _ _ _ _ w h.so).mono ?_
  rintro e w' ⟨rfl, h1⟩
  first
    | exact ⟨rfl, _, hide (Sep.later h h1)⟩
    | (rw [h1]; exact ⟨rfl, _, hide h⟩)
theorem SHs.nokeys (h : SHs w0 w sb kb newX kk F) (hl : kk ≤ 100) :
    Calls Tryz.prog 10 #[.pointer (some ⟨sb, 0, none⟩)] w fun e w' => ∃ a cap, e = .returned (.slice a 0 cap) ∧ ∃ F', Hid (SHs w0 w' sb kb newX kk F') := by
  refine (keysO_any _ _ _ _ _ _ w h.so (by omega)).mono ?_
  rintro e w' ⟨v, L, rfl, hL, hO, hb⟩
  obtain rfl := kl0 hL
  obtain ⟨a, cap, rfl⟩ := hO.slc
  exact ⟨a, cap, rfl, _, hide (Sep.later h hb)⟩
end
theorem neqNilE (W : World) : (binOp .neq 34 .nilIface .nilIface).run Tryz.prog W = .ok (.bool false) W := by kernel_rfl
set_option maxRecDepth 100000 in
set_option maxHeartbeats 8000000 in
theorem shown_any (w : World) (hET : ErrType w) : Calls Tryz.prog 4 #[] w fun e w' => e = .returned (.bool true) ∧ Below w.heap.size w w' := by
  have HET := hide hET
  have gn := gtNilS
  have ge := neqNilE
  clear hET
  have hash0 := hash_any 0 0 w
  rw [h00] at hash0
  have HC := hide hash0
  clear hash0
  go_enter Tryz.func4, Tryz.ntmps4
  go_wp2_with fail
  refine HC.out.mono ?_
  rintro e v1 ⟨rfl, hb1⟩
  have B1 := hide hb1
  have hash1 := hash_any 1 2 v1
  rw [h12] at hash1
  replace HC := hide hash1
  clear hash1 hb1
  go_wp2_with fail
  refine HC.out.mono ?_
  rintro e v2 ⟨rfl, hb2⟩
  have B2 := hide (B1.out.trans (hb2.mono B1.out.size))
  have hash2 := hash_any (-1) 7 v2
  rw [h17] at hash2
  replace HC := hide hash2
  clear hash2 hb2 B1
  go_wp2_with fail
  refine HC.out.mono ?_
  rintro e v3 ⟨rfl, hb3⟩
  have B3 := hide (B2.out.trans (hb3.mono B2.out.size))
  have hash3 := shard_any 1 2 100 v3
  rw [s12] at hash3
  replace HC := hide hash3
  clear hash3 hb3 B2
  go_wp2_with fail
  refine HC.out.mono ?_
  rintro e v4 ⟨rfl, hb4⟩
  have B4 := hide (B3.out.trans (hb4.mono B3.out.size))
  replace HC := hide (Sep.newS (w0 := w) (Sep.nil B4.out) 4 4 (by decide))
  clear hb4 B3 B4
  go_wp2_with fail
  refine HC.out.mono ?_
  rintro e v5 ⟨sb, F5, rfl, H5⟩
  obtain ⟨W6, hW6⟩ : ∃ W, v5.alloc (.cells #[.int .i64 0, .int .i64 0] 26) = W := ⟨_, rfl⟩
  have H6 := hide (H5.out.box #[.int .i64 0, .int .i64 0] 26)
  rw [hW6] at H6
  obtain ⟨x0, x1, y0, y1⟩ := H6.out.cells2 (i := 1) rfl
  obtain ⟨W7, hW7⟩ : ∃ W, (W6.setCell ⟨v5.heap.size, 0, none⟩ (.int .i64 3)).setCell ⟨v5.heap.size, 1, none⟩ (.int .i64 1) = W := ⟨_, rfl⟩
  have H : Hid (SHs w W7 sb v5.heap.size newX 0 F5) := hide (by
    have h := H6.out.set2 (i := 1) rfl (.int .i64 3) (.int .i64 1)
    rw [hW7] at h
    exact h)
  replace HC := hide H.out.shards
  clear H5 H6
  go_wp2_with fail
  obtain ⟨kb, hkb⟩ : ∃ kb, v5.heap.size = kb := ⟨_, rfl⟩
  rw [hkb] at H HC ⊢
  clear hkb hW6 hW7 x0 x1 y0 y1
  refine HC.out.mono ?_
  rintro e v6 ⟨rfl, Fa, Ha⟩
  have E0 : Hid (SHs w v6 sb kb newX 0 Fa) := Ha
  clear H HC Ha
  have HC := hide (E0.out.nokeys (by decide))
  go_wp2_with fail
  refine HC.out.mono ?_
  rintro e v7 ⟨a0, c0, rfl, F7, E7⟩
  clear HC E0
  obtain ⟨g0, g1⟩ := E7.out.ks
  have HC := hide (E7.out.put (N := 1) (V := [97]) (by decide) (by decide) a1 (Y := xs1) rfl)
  go_wp2_with fail
  refine HC.out.mono ?_
  rintro e v8 ⟨rfl, F8, E8⟩
  clear HC E7 g0 g1
  rw [errV_zero]
  obtain ⟨g0, g1⟩ := E8.out.ks
  have HC := hide (E8.out.put (N := 3) (V := [98]) (by decide) (by decide) a2 (Y := xs2) rfl)
  go_wp2_with fail
  refine HC.out.mono ?_
  rintro e v9 ⟨rfl, F9, E9⟩
  clear HC E8 g0 g1
  rw [errV_zero]
  obtain ⟨g0, g1⟩ := E9.out.ks
  have HC := hide (E9.out.put (N := 3) (V := [99]) (by decide) (by decide) a3 (Y := xs3) rfl)
  go_wp2_with fail
  refine HC.out.mono ?_
  rintro e v10 ⟨rfl, F10, E10⟩
  clear HC E9 g0 g1
  have HP := hide (plain_errV 1 1 v10 (by decide) (by decide) (HET.out.below E10.out.bl))
  generalize errV 1 = ev at HP ⊢
  go_wp2_with fail
  refine HP.out.mono ?_
  rintro e vp ⟨rfl, hbp⟩
  have Ep : Hid (SHs w vp sb kb xs3 3 F10) := hide (Sep.later E10.out hbp)
  clear HP hbp E10
  obtain ⟨g0, g1⟩ := Ep.out.ks
  have HC := hide (Ep.out.put (N := 5) (V := [100]) (by decide) (by decide) a4 (Y := xs4) rfl)
  go_wp2_with fail
  refine HC.out.mono ?_
  rintro e v11 ⟨rfl, F11, E11⟩
  clear HC Ep g0 g1
  rw [errV_zero]
  have HC := hide (E11.out.opn 2 (by decide) a5 (Y := xs5) rfl)
  go_wp2_with fail
  refine HC.out.mono ?_
  rintro e v12 ⟨rfl, F12, E12⟩
  clear HC E11
  have HC := hide (E12.out.opn 9 (by decide) a6 (Y := xs6) rfl)
  go_wp2_with fail
  refine HC.out.mono ?_
  rintro e v13 ⟨rfl, F13, E13⟩
  clear HC E12
  have HC := hide (E13.out.old 7 (by decide) a7)
  go_wp2_with fail
  refine HC.out.mono ?_
  rintro e v14 ⟨rfl, F14, E14⟩
  clear HC E13
  have HC := hide (E14.out.old 1 (by decide) a8)
  go_wp2_with fail
  refine HC.out.mono ?_
  rintro e v15 ⟨rfl, F15, E15⟩
  clear HC E14
  obtain ⟨g0, g1⟩ := E15.out.ks
  have HC := hide (E15.out.pru 5 (by decide) a9 (Y := xs7) rfl)
  go_wp2_with fail
  refine HC.out.mono ?_
  rintro e v16 ⟨rfl, F16, E16⟩
  clear HC E15 g0 g1
  have HC := hide (E16.out.ver kl7 l7 (by decide))
  go_wp2_with fail
  refine HC.out.mono ?_
  rintro e v17 ⟨rfl, F17, E17⟩
  clear HC E16
  obtain ⟨g0, g1⟩ := E17.out.ks
  have HC := hide (E17.out.at 2 (by decide) a10 a11)
  go_wp2_with fail
  refine HC.out.mono ?_
  rintro e v18 ⟨rfl, F18, E18⟩
  clear HC E17 g0 g1
  have HC := hide (E18.out.cls (q := 1) (iok_of (by decide) (by decide)) (by decide) a12 (Y := xs8) rfl)
  go_wp2_with fail
  refine HC.out.mono ?_
  rintro e v19 ⟨rfl, F19, E19⟩
  clear HC E18
  have HC := hide (E19.out.cls (q := 1) (iok_of (by decide) (by decide)) (by decide) a13 (Y := xs9) rfl)
  go_wp2_with fail
  refine HC.out.mono ?_
  rintro e v20 ⟨rfl, F20, E20⟩
  clear HC E19
  have HC := hide (E20.out.cls (q := 3) (iok_of (by decide) (by decide)) (by decide) a14 (Y := xs10) rfl)
  go_wp2_with fail
  refine HC.out.mono ?_
  rintro e v21 ⟨rfl, F21, E21⟩
  clear HC E20
  have HC := hide (E21.out.old 7 (by decide) a15)
  go_wp2_with fail
  refine HC.out.mono ?_
  rintro e v22 ⟨rfl, F22, E22⟩
  clear HC E21
  obtain ⟨g0, g1⟩ := E22.out.ks
  have HC := hide (E22.out.pru 4 (by decide) a16 (Y := xs11) rfl)
  go_wp2_with fail
  refine HC.out.mono ?_
  rintro e v23 ⟨rfl, F23, E23⟩
  clear HC E22 g0 g1
  obtain ⟨g0, g1⟩ := E23.out.ks
  have HC := hide (E23.out.at 2 (by decide) rfl a17)
  go_wp2_with fail
  refine HC.out.mono ?_
  rintro e v24 ⟨rfl, F24, E24⟩
  clear HC E23 g0 g1
  obtain ⟨g0, g1⟩ := E24.out.ks
  have HC := hide (E24.out.last (by decide) a18 a19)
  go_wp2_with fail
  refine HC.out.mono ?_
  rintro e v25 ⟨rfl, F25, E25⟩
  clear HC E24 g0 g1
  have HC := hide (E25.out.ver kl11 l11 (by decide))
  go_wp2_with fail
  refine HC.out.mono ?_
  rintro e v26 ⟨rfl, F26, E26⟩
  clear HC E25
  have HW := hide (worksS_any v26 (hide (HET.out.below E26.out.bl)))
  go_wp2_with fail
  refine HW.out.mono ?_
  rintro e vz ⟨rfl, hbz⟩
  have HZ := hide (Below.trans E26.out.bl (hbz.mono E26.out.bl.size))
  clear HW hbz E26
  go_wp2_with fail
  go_ret
  exact ⟨rfl, HZ.out⟩
theorem known_any (w : World) (hET : ErrType w) : Calls Tryz.prog 3 #[] w fun e w' => e = .returned (.bool true) ∧ Below w.heap.size w w' := by
  have HET := hide hET
  have HC := hide (shown_any w hET)
  clear hET
  go_enter Tryz.func3, Tryz.ntmps3
  go_wp2_with fail
  refine HC.out.mono ?_
  rintro e w1 ⟨rfl, hb1⟩
  have B1 := hide hb1
  replace HC := hide (edged_any w1 (HET.out.below hb1))
  clear hb1
  go_wp2_with fail
  refine HC.out.mono ?_
  rintro e w2 ⟨rfl, hb2⟩
  have B2 := hide (B1.out.trans (hb2.mono B1.out.size))
  clear HC hb2 B1
  go_wp2_with fail
  go_ret
  exact ⟨rfl, B2.out⟩
end Go.Proofs.YtgeholiagcckoaaGreatDoor
namespace Go.Proofs.YtgeholiagcckoaaGreatDoor
open Go.ChangeShapes Go.WideShapes Go.ChangeAt Go.RowKit

set_option maxRecDepth 100000 in
theorem storeKnown_lifted (os : Os) (started : os.Started) (H : Type) (enc : TypeId × Value → H) :
    ReturnsInHanded {} Tryz.checked os 3 .any (fun w args => (Rows.storeKnownSpec.pre enc Tryz.prog Tryz.f3 [] false w args ∧ laidMetH Tryz.prog laidE w) ∧ sizedMet enc Tryz.prog Tryz.f3 (OpenSpec.ofChange Rows.storeKnownSpec) false w args)
      (Rows.storeKnownSpec.post enc Tryz.prog Tryz.f3 false true false false) := by
  refine returnsInHanded_of_change_and (C := Tryz.checked) (X := fun w _ => laidMetH Tryz.prog laidE w) (fun _ _ _ hh h => h.of_heap hh) Tryz.own started (by kernel_rfl) Tryz.func3
    (ChangeSpec.witness_shaped (enc := enc) (C := Tryz.checked) (os := os) (X := fun w _ => laidMetH Tryz.prog laidE w) false (World.doorLaid Tryz.prog 400 os) #[] 8 rfl (World.shaped_of_RefB (by kernel_rfl) (by kernel_rfl)) (by kernel_rfl) (by kernel_rfl) (by kernel_rfl) (door_met os _)) ?_
  intro W base args ds gs before hval0 hW _ hsz0 hL _
  have hsz : (DataW.weightsEach Tryz.prog (Tryz.f3.params.toList ++ Rows.storeKnownSpec.plain.varTypes Tryz.prog) (ds ++ gs)).all (· ≤ reachBytes) = true := hsz0
  clear hsz0
  have hval : ∀ (j : Nat) t v, Tryz.f3.params[j]? = some t → args[j]? = some v → Value.okWide Tryz.prog W .any base t v := hval0
  have hW' := hW
  obtain ⟨p, q, hA0, hV, rfl, hfz, hnd⟩ := hW
  have hA : DataW.TrodAll enc Tryz.prog W 0 (fun _ => true) true Tryz.f3.params.toList args.toList ds p := hA0
  rw [Tryz.params3] at hA hval hsz
  obtain ⟨rfl, rfl, rfl⟩ := trodAll_none hA
  obtain ⟨rfl, rfl⟩ := trodVars_none hV
  clear hA0 hval0
  have e1 : Rows.storeKnownSpec.fn H ([] ++ []) = { results := [.lit (.bool true)], args := [] } := by simp [Rows.storeKnownSpec]
  refine (known_any W (errType_of_laid hL)).mono fun e W' ⟨he, hw⟩ => ?_
  subst he
  refine ⟨_, rfl, _, _, _, [], [], [], hW', ?_, ?_, ?_, hw.frame _, fun h => by cases h⟩
  · rw [e1]; exact trodAll_mk1 (shut_bool Tryz.underlying4 true)
  · rw [e1]; exact trodAll_mk0
  · rw [e1]; rfl

theorem storeKnown_holds : Rows.StoreKnownSaid :=
  OpenClaim.holds_of_wide 3 Tryz.f3 rfl rfl rfl rfl rfl rfl rfl ⟨rfl, rfl, rfl, rfl, rfl⟩ rfl rfl rfl rfl rfl (by kernel_rfl) Tryz.func3 (by kernel_rfl)
    (of_decide_eq_true (by kernel_rfl)) (by unfold Func.isWrapper; rw [if_neg (of_decide_eq_false (by kernel_rfl))]; exact ⟨rfl, rfl⟩)
    (fun os started H enc _ => storeKnown_lifted os started H enc)

theorem storeKnown_card : Rows.StoreKnownCardSaid :=
  Claim7.holds_tied_plain_at .later [] [.handle] true (true, Rows.storeKnownCard.stood.harness.2) true
    storeKnown_holds (fun _ h => by cases h) (by kernel_rfl) (fun _ h => by cases h) storeKnown_row_tie rfl ⟨rfl, rfl⟩ (by kernel_rfl) rfl
    (fun f fn hf hfn => by
      obtain rfl : f = 3 := Option.some.inj ((show Tryz.prog.funcNamed Rows.storeKnownRow.func = some 3 by kernel_rfl).symm.trans hf) |>.symm
      obtain rfl : fn = Tryz.f3 := (Option.some.inj (Tryz.func3.symm.trans hfn)).symm
      exact ⟨by kernel_rfl, fun j t ht => by
        rw [Tryz.params3] at ht
        have hm : t ∈ ([] : List TypeId) := by simpa using Array.mem_of_getElem? ht
        have hall : (([] : List TypeId).all fun u => !Tryz.prog.wantsStandIn u) = true := by kernel_rfl
        exact (show Tryz.prog.wantsStandIn t = false by simpa using List.all_eq_true.1 hall t hm)⟩)
    (by kernel_rfl)
#print axioms storeKnown_card
end Go.Proofs.YtgeholiagcckoaaGreatDoor
