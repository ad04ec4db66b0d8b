/-
  My own text: GKS, RL5, RL6, TKq, SF0, SF1 in one.
-/
import Derived.Test.YtgeholiagcckoaaGreatDoorGKR
import Derived.Test.YtgeholiagcckoaaGreatDoorRL4
import Derived.Test.YtgeholiagcckoaaGreatDoorSN13
import Derived.Test.YtgeholiagcckoaaGreatDoorSEP
import Derived.Test.YtgeholiagcckoaaGreatDoorGKA
import Derived.OpenShut
namespace Go.Proofs.YtgeholiagcckoaaGreatDoor.KY
open Go.RowKit

theorem take_step {A B : List El} {k : Nat} {p : El} (h : A.take k = B.take k) (ha : A[k]? = some p) (hb : B[k]? = some p) : A.take (k + 1) = B.take (k + 1) := by
  rw [List.take_add_one, List.take_add_one, h, ha, hb]
theorem take_ne {A B : List El} {k : Nat} {p q : El} (ha : A[k]? = some p) (hb : B[k]? = some q) (h : ¬ p = q) : ¬ A = B := fun e => by
  rw [e, hb] at ha; exact h (Option.some.inj ha).symm
set_option maxRecDepth 100000 in
set_option maxHeartbeats 2000000 in
theorem sameM_any (va vb : Value) (A B : List El) (w : World) (ha : RM w va A) (hb : RM w vb B) (hl : A.length ≤ 4611686018427387904) (hl2 : B.length ≤ 4611686018427387904) :
    Calls Tryz.prog 48 #[va, vb] w fun e w' => e = .returned (.bool (decide (A = B))) ∧ Below w.heap.size w w' := by
  obtain ⟨aa, ca, rfl, _, hca⟩ := ha
  obtain ⟨ab, cb, rfl, _, hcb⟩ := hb
  have HA := hide hca
  have HB := hide hcb
  have HL := hide (And.intro hl hl2)
  have hg : Tryz.prog.eqGuardType Tryz.prog.depth 26 = false := by kernel_rfl
  clear hca hcb hl hl2
  by_cases hln : A.length = B.length
  · have hne : ((A.length : Int) != (B.length : Int)) = false := by rw [bne_eq_false_iff_eq, hln]
    obtain ⟨R, HR⟩ : ∃ R : Bool, Hid (decide (A = B) = R) := ⟨_, hide rfl⟩
    rw [HR.out]
    have HLN := hide hln
    rw [← hln]
    rw [← hln] at hne
    clear hln
    go_enter Tryz.func48, Tryz.ntmps48
    go_wp2_with fail
    go_loopw [5] (fun i wr => ∃ k : Nat, k ≤ A.length ∧ i = .int .i64 (k : Int) ∧ Hid (A.take k = B.take k) ∧ Hid (Below w.heap.size w wr)) (fun i _ => A.length - (intOf i).toNat)
    case atStart => exact ⟨0, Nat.zero_le _, rfl, hide (by rw [List.take_zero, List.take_zero]), hide (Below.refl _ _)⟩
    case round =>
      obtain ⟨k, hk, rfl, HT, HW⟩ := hrel
      by_cases hlt : k < A.length
      · obtain ⟨⟨N0, N1⟩, hp⟩ : ∃ p, A[k]? = some p := ⟨_, List.getElem?_eq_getElem hlt⟩
        obtain ⟨⟨M0, M1⟩, hp2⟩ : ∃ p, B[k]? = some p := ⟨_, List.getElem?_eq_getElem (by have := HLN.out; omega)⟩
        obtain ⟨g, off, rfl, hgl, hc⟩ := HA.out.resolve_left (fun h => by rw [h] at hlt; simp at hlt)
        obtain ⟨g', off', rfl, hgl', hc'⟩ := HB.out.resolve_left (fun h => by rw [h] at hp2; simp at hp2)
        have z0 : wr.cell? ⟨g, off + k * 2, none⟩ = some (.int .i64 N0) := (HW.out.cell (p := ⟨g, _, none⟩) hgl).trans (hc k _ hp).1
        have z1 : wr.cell? ⟨g, off + k * 2 + 1, none⟩ = some (.int .i64 N1) := (HW.out.cell (p := ⟨g, _, none⟩) hgl).trans (hc k _ hp).2
        have y0 : wr.cell? ⟨g', off' + k * 2, none⟩ = some (.int .i64 M0) := (HW.out.cell (p := ⟨g', _, none⟩) hgl').trans (hc' k _ hp2).1
        have y1 : wr.cell? ⟨g', off' + k * 2 + 1, none⟩ = some (.int .i64 M1) := (HW.out.cell (p := ⟨g', _, none⟩) hgl').trans (hc' k _ hp2).2
        have hd1 : decide ((k : Int) < (A.length : Int)) = true := by rw [decide_eq_true_eq]; omega
        have k0 : (0 : Int) ≤ (k : Int) := by omega
        have k1 : (k : Int) < (A.length : Int) := by omega
        have wk : wrap64 ((k : Int) + 1) = (k : Int) + 1 := by have := HL.out.1; unfold wrap64; omega
        have HP := hide (And.intro hp hp2)
        have ev := eqMk N0 N1 M0 M1
        clear hp hp2 hc hc'
        cases hE : (N0 == M0 && N1 == M1) with
        | true =>
          rw [hE] at ev
          have HT2 := hide (take_step HT.out HP.out.1 (by
            have h1 := HP.out.2
            simp only [Bool.and_eq_true, beq_iff_eq] at hE
            rw [h1]
            simp [hE]))
          clear hE HP
          go_wp2_with fail
          go_quiet (fail)
          have HW2 := hide (below_dN HW.out nq)
          go_wp2_with fail
          go_roundw
          case rel => exact ⟨k + 1, by omega, by go_num, HT2, HW2⟩
          case measure => first | (rw [wk]; simp [intOf]; omega) | (simp [intOf]; omega)
        | false =>
          rw [hE] at ev
          have HF := HR.out
          rw [decide_eq_false (take_ne HP.out.1 HP.out.2 (fun e => by
            simp only [Prod.mk.injEq] at e
            simp [e] at hE))] at HF
          subst HF
          clear hE HP
          go_wp2_with fail
          go_quiet (fail)
          have HW2 := hide (below_dN HW.out nq)
          go_wp2_with fail
          go_ret
          exact ⟨rfl, HW2.out⟩
      · have e : k = A.length := by omega
        subst e
        have HF := HR.out
        rw [decide_eq_true (by have h1 := HT.out; rw [List.take_length, HLN.out, List.take_length] at h1; exact h1)] at HF
        subst HF
        go_wp2_with fail
        go_ret
        exact ⟨rfl, HW.out⟩
  · have hne : ((A.length : Int) != (B.length : Int)) = true := by rw [bne_iff_ne]; omega
    rw [decide_eq_false (fun e => hln (by rw [e]))]
    have hne2 : ¬ (A.length : Int) = (B.length : Int) := by omega
    go_enter Tryz.func48, Tryz.ntmps48
    go_wp2_with fail
    go_ret
    exact ⟨rfl, Below.refl _ _⟩
end Go.Proofs.YtgeholiagcckoaaGreatDoor.KY
namespace Go.Proofs.YtgeholiagcckoaaGreatDoor
open Go.RowKit

/-- The document's store behind a call. -/
def TlD (B : Nat) (w w' : World) (rb : Nat) (sh : Int) (kk : Nat) (H : Nat → Prop) (X : Sx) : Prop := ∃ R D vr vd, RF B w' rb sh R D vr vd (kk + 1) (hN w w' H) ∧ RFr w w' H (hN w w' H) ∧ StR X R D ∧ ∀ p ∈ R, p.2.1 ≠ []
theorem TlD.idle {B : Nat} {w w' : World} {rb : Nat} {sh : Int} {R : List Rw} {D : List (Int × Bool)} {vr vd : Value} {kk : Nat} {H : Nat → Prop} {X : Sx} (h : RF B w rb sh R D vr vd kk H) (hb : Below w.heap.size w w') (hS : StR X R D) (hne : ∀ p ∈ R, p.2.1 ≠ []) : TlD B w w' rb sh kk H X := by
  have hB := h.lt rb h.hb
  have s1 := hb.size
  refine ⟨R, D, vr, vd, ((h.later hb).up).wide (fun x hx => Or.inl hx) (fun x hx => ?_), RFr.below hb, hS, hne⟩
  rcases hx with hx | hx
  · have := h.lt x hx; exact ⟨this.1, by omega⟩
  · exact ⟨by omega, hx.2⟩
theorem rsT_ne {R2 R : List Rw} {k : Ky} {L : List Ver} {b : Bool} (h : RsT R2 R k L b) (hne : ∀ p ∈ R, p.2.1 ≠ []) (hL : b = true → L ≠ []) : ∀ p ∈ R2, p.2.1 ≠ [] := by
  unfold RsT at h
  cases b with
  | true =>
    rw [if_pos rfl] at h
    obtain ⟨v, rfl⟩ := h
    exact rset_ne hne k (hL rfl) v
  | false =>
    rw [if_neg (by simp)] at h
    rw [h]; exact hne
theorem tell_ans (d : Cl) (B rb n : Nat) (R : List Rw) (D : List (Int × Bool)) (vr vd : Value) (kk : Nat) (H : Nat → Prop) (X : Sx) (w : World) (h : RF B w rb (n : Int) R D vr vd kk H) (hS : StR X R D) (hne : ∀ p ∈ R, p.2.1 ≠ []) (hI : IOK d.N) (hN : d.N ≤ 9223372036854775807) (hN0 : -9223372036854775808 ≤ d.N) (hl : kk < 3518437208882) (h8 : d.kind ≠ 8) :
    Calls Tryz.prog 47 #[.pointer (some ⟨rb, 0, none⟩), .agg (clc d)] w fun e w' => e = .returned (ansV (X.ans n d)) ∧ TlD B w w' rb (n : Int) kk H (X.ask d) := by
  obtain ⟨on, kind, k, N, V⟩ := d
  unfold clc Sx.ask Sx.ans
  dsimp only at hI hN h8 hN0 ⊢
  by_cases h0 : kind = 0
  · subst h0
    refine (tell_put on k N V B rb n R D vr vd kk H w h hl hN).mono ?_
    rintro e w' ⟨rfl, R2, vr2, g1, g2, g3⟩
    refine ⟨by rw [if_pos rfl, hS.kk k]; rfl, R2, D, vr2, vd, g1, g2, by rw [if_pos rfl]; exact hS.put g3, rsT_ne g3 hne (fun hb => ?_)⟩
    unfold ptL
    rw [if_pos (of_decide_eq_true hb)]
    simp
  by_cases h1 : kind = 1
  · subst h1
    refine (tell_at on k N V B rb n R D vr vd kk H w h (by omega)).mono ?_
    rintro e w' ⟨rfl, hb⟩
    exact ⟨by simp [hS.kk k, ansV], TlD.idle h hb (by simpa using hS) hne⟩
  by_cases h2 : kind = 2
  · subst h2
    refine (tell_last on k N V B rb n R D vr vd kk H w h (by omega)).mono ?_
    rintro e w' ⟨rfl, hb⟩
    exact ⟨by simp [hS.kk k, ansV], TlD.idle h hb (by simpa using hS) hne⟩
  by_cases h4 : kind = 4
  · subst h4
    refine (tell_open on k N V B rb n R D vr vd kk H w h (by omega)).mono ?_
    rintro e w' ⟨rfl, vd2, g1, g2⟩
    exact ⟨by simp [hS.rd.len, ansV], R, _, vr, vd2, g1, g2, by simpa using hS.opn N, hne⟩
  by_cases h5 : kind = 5
  · subst h5
    cases hc : clB D N with
    | false =>
      refine (tell_closeNo on k N V B rb n R D vr vd kk H w h (by omega) hc hN0).mono ?_
      rintro e w' ⟨rfl, hb⟩
      exact ⟨by simp [hS.rd.has N, hc, ansV], TlD.idle h hb (by simpa using hS.clsNo hc) hne⟩
    | true =>
      refine (tell_closeYes on k N V B rb n R D vr vd kk H w h (by omega) hc).mono ?_
      rintro e w' ⟨rfl, g1, g2⟩
      exact ⟨by simp [hS.rd.has N, hc, ansV], R, _, vr, vd, g1, g2, by simpa using hS.clsYes hc, hne⟩
  by_cases h6 : kind = 6
  · subst h6
    refine (tell_old on k N V B rb n R D vr vd kk H w h (by omega)).mono ?_
    rintro e w' ⟨rfl, hb⟩
    exact ⟨by simp [hS.rd.old N, ansV], TlD.idle h hb (by simpa using hS) hne⟩
  by_cases h7 : kind = 7
  · subst h7
    refine (tell_prune on k N V B rb n R D vr vd kk H w h hl).mono ?_
    rintro e w' ⟨rfl, R2, vr2, g1, g2, g3⟩
    refine ⟨by simp [hS.rd.old N, hS.kk k, ansV], R2, D, vr2, vd, g1, g2, by simpa using hS.pru g3, rsT_ne g3 hne (fun hb e => ?_)⟩
    have hb' := of_decide_eq_true hb
    have h9 := ab_le (oldD N D) (rgo R k)
    have := List.drop_eq_nil_iff.1 e
    omega
  refine (tell_rest on kind k N V B rb n R D vr vd kk H w h (by omega) ⟨h0, h1, h2, h4, h5, h6, h7, h8⟩).mono ?_
  rintro e w' ⟨rfl, hb⟩
  simp only [if_neg h0, if_neg h1, if_neg h2, if_neg h4, if_neg h5, if_neg h6, if_neg h7]
  exact ⟨rfl, TlD.idle h hb hS hne⟩
end Go.Proofs.YtgeholiagcckoaaGreatDoor
namespace Go.Proofs.YtgeholiagcckoaaGreatDoor
open Go.RowKit

def SOp (B sb n : Nat) (X : Sx) (kk : Nat) (F : Nat → Prop) : Cp := ⟨F, fun w => SO B w sb n X kk F⟩
theorem SOp.ok (B sb n : Nat) (X : Sx) (kk : Nat) (F : Nat → Prop) : (SOp B sb n X kk F).Ok := ⟨fun _ _ h hs hk => h.kept hk hs, fun _ h g hg => (h.fb g hg).2⟩
def RFp (B rb : Nat) (sh : Int) (R : List Rw) (D : List (Int × Bool)) (vr vd : Value) (kk : Nat) (H : Nat → Prop) : Cp := ⟨H, fun w => RF B w rb sh R D vr vd kk H⟩
theorem RFp.ok (B rb : Nat) (sh : Int) (R : List Rw) (D : List (Int × Bool)) (vr vd : Value) (kk : Nat) (H : Nat → Prop) : (RFp B rb sh R D vr vd kk H).Ok := ⟨fun _ _ h hs hk => h.kept hk hs, fun _ h g hg => (h.lt g hg).2⟩
theorem FS.of_fb {w w' : World} {F F' : Nat → Prop} (h : FB w w' F F') : FS F w w' := ⟨h.os, h.tape, h.output, h.size, h.block⟩
theorem FS.of_rfr {w w' : World} {H H' : Nat → Prop} (h : RFr w w' H H') : FS H w w' := ⟨h.os, h.tape, h.output, h.size, h.block⟩
/-- A call of the program's store at i. -/
theorem Sep.so {w0 w w' : World} {cs : List Cp} {i sb n kk kk' : Nat} {X X' : Sx} {F : Nat → Prop} (h : Sep w0 w cs) (hi : cs[i]? = some (SOp w0.heap.size sb n X kk F)) (h1 : SO w0.heap.size w' sb n X' kk' (gw F w w')) (h2 : FB w w' F (gw F w w')) : Sep w0 w' (cs.set i (SOp w0.heap.size sb n X' kk' (gw F w w'))) :=
  h.step (c' := SOp w0.heap.size sb n X' kk' (gw F w w')) hi (FS.of_fb h2) (SOp.ok _ _ _ _ _ _) h1 (fun g hg => h2.grow g hg)
/-- A call of the document's store at i. -/
theorem Sep.rf {w0 w w' : World} {cs : List Cp} {i rb kk kk' : Nat} {sh : Int} {R R' : List Rw} {D D' : List (Int × Bool)} {vr vd vr' vd' : Value} {H : Nat → Prop} (h : Sep w0 w cs) (hi : cs[i]? = some (RFp w0.heap.size rb sh R D vr vd kk H)) (h1 : RF w0.heap.size w' rb sh R' D' vr' vd' kk' (hN w w' H)) (h2 : RFr w w' H (hN w w' H)) : Sep w0 w' (cs.set i (RFp w0.heap.size rb sh R' D' vr' vd' kk' (hN w w' H))) :=
  h.step (c' := RFp w0.heap.size rb sh R' D' vr' vd' kk' (hN w w' H)) hi (FS.of_rfr h2) (RFp.ok _ _ _ _ _ _ _ _ _) h1 (fun g hg => h2.grow g hg)
end Go.Proofs.YtgeholiagcckoaaGreatDoor
namespace Go.Proofs.YtgeholiagcckoaaGreatDoor
open Go.RowKit Go.Extern Go.MapKept Go.ChangeMaps

/-- Lists of numbers that were told. -/
structure TKk (w : World) (B : Nat) (vt : Value) (TL : List (Value × List (Int × Int))) : Prop where
  row : w.ownsRow B 31 1 vt TL.length (TL.map (·.1))
  own : ∀ u ∈ TL, KY.OM w B u.1 u.2
  ap : ∀ (i j : Nat) (u u' : Value × List (Int × Int)) (g : Nat), TL[i]? = some u → TL[j]? = some u' → u.1.ownBlock = some g → u'.1.ownBlock = some g → i = j
  len : ∀ u ∈ TL, u.2.length ≤ 8796093022000
def TKp (B : Nat) (vt : Value) (TL : List (Value × List (Int × Int))) : Cp := ⟨fun g => vt.ownBlock = some g ∨ ∃ u ∈ TL, u.1.ownBlock = some g, fun w => TKk w B vt TL⟩
theorem TKp.ok (B : Nat) (vt : Value) (TL : List (Value × List (Int × Int))) : (TKp B vt TL).Ok := by
  refine ⟨fun w w' h _ hk => ⟨owns_blk h.row (fun g hg => hk g (.inl hg)), fun u hu => owns_blk (h.own u hu) (fun g hg => hk g (.inr ⟨u, hu, hg⟩)), h.ap, h.len⟩, fun w h g hg => ?_⟩
  rcases hg with hg | ⟨u, hu, hg⟩
  · exact (World.ownsRow.lt h.row g hg).2
  · exact (World.ownsRow.lt (h.own u hu) g hg).2
theorem TKk.nil (w : World) (B : Nat) : TKk w B (.slice none 0 0) [] := ⟨World.ownsRow_nil _ _ _ _, fun u hu => (by cases hu), fun i j u u' g hi => (by simp at hi), fun u hu => (by cases hu)⟩
theorem TKk.slc {w : World} {B : Nat} {vt : Value} {TL : List (Value × List (Int × Int))} (h : TKk w B vt TL) : ∃ a cap, vt = .slice a TL.length cap := by
  rcases h.row.2 with ⟨rfl, h0⟩ | ⟨g, cap, cur, rfl, _⟩
  · exact ⟨none, 0, by rw [h0]⟩
  · exact ⟨_, _, rfl⟩
/-- A list that was answered. -/
def OKp (B : Nat) (v : Value) (L : List (Int × Int)) : Cp := ⟨fun g => v.ownBlock = some g, fun w => KY.OM w B v L⟩
theorem OKp.ok (B : Nat) (v : Value) (L : List (Int × Int)) : (OKp B v L).Ok := ⟨fun _ _ h _ hk => owns_blk h hk, fun _ h g hg => (World.ownsRow.lt h g hg).2⟩
theorem KO.kept_other {w w' : World} {B : Nat} {vt : Value} {n : Nat} {cs : List Value} {u : Value} {K : List (Int × Int)} (hu : KY.OM w B u K) (hT : w.ownsRow B 31 1 vt n cs) (hg : w.grownBy w' vt.ownBlock) : KY.OM w' B u K := by
  obtain ⟨e1, e2, e3, e4, e5⟩ := hg
  refine owns_blk hu (fun g hgu => e5 g (World.ownsRow.lt hu g hgu).2 (fun e => ?_))
  have e' : vt.ownBlock = some g := by first | exact e | exact e.symm
  obtain ⟨c1, f1, h1⟩ := ownsRow_kind hT g e'
  obtain ⟨c2, f2, h2⟩ := ownsRow_kind hu g hgu
  rw [h1] at h2
  injection h2 with h2
  injection h2 with _ h2 _
  exact absurd h2 (by decide)
section
variable {w0 w w' : World} {cs : List Cp} {i : Nat} {vt vt' a b : Value} {TL : List (Value × List (Int × Int))} {L M : List (Int × Int)}
theorem Sep.tellK (h : Sep w0 w (cs ++ [OKp w0.heap.size a L])) (hi : cs[i]? = some (TKp w0.heap.size vt TL)) (ho : w'.ownsRow w0.heap.size 31 1 vt' (TL.length + 1) (TL.map (·.1) ++ [a])) (hg : w.grownBy w' vt.ownBlock) (hat : vt'.ownBlock = vt.ownBlock ∨ vt'.ownBlock = some w.heap.size) (hl : L.length ≤ 8796093022000) : Sep w0 w' (cs.set i (TKp w0.heap.size vt' (TL ++ [(a, L)]))) := by
  have il := (List.getElem?_eq_some_iff.1 hi).1
  have it : (cs ++ [OKp w0.heap.size a L])[i]? = some (TKp w0.heap.size vt TL) := by rw [List.getElem?_append_left il]; exact hi
  have ia : (cs ++ [OKp w0.heap.size a L])[cs.length]? = some (OKp w0.heap.size a L) := by simp
  have hO : KY.OM w w0.heap.size a L := h.is _ _ ia
  have hT : TKk w w0.heap.size vt TL := h.is _ _ it
  have hdj : ∀ u ∈ TL, ∀ g, u.1.ownBlock = some g → a.ownBlock = some g → False := fun u hu g h1 h2 => h.dj i cs.length _ _ it ia (by omega) g (.inr ⟨u, hu, h1⟩) h2
  have mem : ∀ u, u ∈ TL ++ [(a, L)] → u ∈ TL ∨ u = (a, L) := fun u hu => by simpa using hu
  have hT' : TKk w' w0.heap.size vt' (TL ++ [(a, L)]) := by
    refine ⟨by rw [List.length_append, List.map_append]; exact ho, fun u hu => ?_, fun i j u u' g hi hj h1 h2 => ?_, fun u hu => ?_⟩
    · rcases mem u hu with hu | hu
      · exact KO.kept_other (hT.own u hu) hT.row hg
      · rw [hu]; exact KO.kept_other hO hT.row hg
    · have cs : ∀ (i : Nat) (u : Value × List (Int × Int)), (TL ++ [(a, L)])[i]? = some u → (TL[i]? = some u) ∨ (i = TL.length ∧ u = (a, L)) := fun i u hi => by
        by_cases hlt : i < TL.length
        · rw [List.getElem?_append_left hlt] at hi; exact .inl hi
        · have := (List.getElem?_eq_some_iff.1 hi).1
          have e : i = TL.length := by simp at this; omega
          subst e
          simp at hi
          exact .inr ⟨rfl, hi.symm⟩
      rcases cs i u hi with hi | ⟨e1, rfl⟩
      · rcases cs j u' hj with hj | ⟨e2, rfl⟩
        · exact hT.ap i j u u' g hi hj h1 h2
        · exact (hdj u (List.mem_of_getElem? hi) g h1 h2).elim
      · rcases cs j u' hj with hj | ⟨e2, rfl⟩
        · exact (hdj u' (List.mem_of_getElem? hj) g h2 h1).elim
        · omega
    · rcases mem u hu with hu | hu
      · exact hT.len u hu
      · rw [hu]; exact hl
  refine h.merge hi (FS.of_gb hg (fun g hg => .inl hg)) (TKp.ok _ _ _) hT' (fun g hgg => ?_)
  rcases hgg with e | ⟨u, hu, e⟩
  · rcases hat with q | q
    · exact .inl (.inl (by rw [← q]; exact e))
    · rw [q] at e; exact .inr (.inr (by have := Option.some.inj e; omega))
  · rcases mem u hu with hu | hu
    · exact .inl (.inr ⟨u, hu, e⟩)
    · rw [hu] at e; exact .inr (.inl e)
theorem Sep.tellK2 (h : Sep w0 w (cs ++ [OKp w0.heap.size a L, OKp w0.heap.size b M])) (hi : cs[i]? = some (TKp w0.heap.size vt TL)) (ho : w'.ownsRow w0.heap.size 31 1 vt' (TL.length + 2) (TL.map (·.1) ++ [a, b])) (hg : w.grownBy w' vt.ownBlock) (hat : vt'.ownBlock = vt.ownBlock ∨ vt'.ownBlock = some w.heap.size) (hl : L.length ≤ 8796093022000) (hm : M.length ≤ 8796093022000) : Sep w0 w' (cs.set i (TKp w0.heap.size vt' (TL ++ [(a, L), (b, M)]))) := by
  have il := (List.getElem?_eq_some_iff.1 hi).1
  have it : (cs ++ [OKp w0.heap.size a L, OKp w0.heap.size b M])[i]? = some (TKp w0.heap.size vt TL) := by rw [List.getElem?_append_left il]; exact hi
  have ia : (cs ++ [OKp w0.heap.size a L, OKp w0.heap.size b M])[cs.length]? = some (OKp w0.heap.size a L) := by simp
  have ib : (cs ++ [OKp w0.heap.size a L, OKp w0.heap.size b M])[cs.length + 1]? = some (OKp w0.heap.size b M) := by simp
  have hOa : KY.OM w w0.heap.size a L := h.is _ _ ia
  have hOb : KY.OM w w0.heap.size b M := h.is _ _ ib
  have hT : TKk w w0.heap.size vt TL := h.is _ _ it
  have da : ∀ u ∈ TL, ∀ g, u.1.ownBlock = some g → a.ownBlock = some g → False := fun u hu g h1 h2 => h.dj i cs.length _ _ it ia (by omega) g (.inr ⟨u, hu, h1⟩) h2
  have db : ∀ u ∈ TL, ∀ g, u.1.ownBlock = some g → b.ownBlock = some g → False := fun u hu g h1 h2 => h.dj i (cs.length + 1) _ _ it ib (by omega) g (.inr ⟨u, hu, h1⟩) h2
  have dab : ∀ g, a.ownBlock = some g → b.ownBlock = some g → False := fun g h1 h2 => h.dj cs.length (cs.length + 1) _ _ ia ib (by omega) g h1 h2
  have mem : ∀ u, u ∈ TL ++ [(a, L), (b, M)] → u ∈ TL ∨ u = (a, L) ∨ u = (b, M) := fun u hu => by simpa using hu
  have hT' : TKk w' w0.heap.size vt' (TL ++ [(a, L), (b, M)]) := by
    refine ⟨by rw [List.length_append, List.map_append]; exact ho, fun u hu => ?_, fun i j u u' g hi hj h1 h2 => ?_, fun u hu => ?_⟩
    · rcases mem u hu with hu | hu | hu
      · exact KO.kept_other (hT.own u hu) hT.row hg
      · rw [hu]; exact KO.kept_other hOa hT.row hg
      · rw [hu]; exact KO.kept_other hOb hT.row hg
    · have cs : ∀ (i : Nat) (u : Value × List (Int × Int)), (TL ++ [(a, L), (b, M)])[i]? = some u → (TL[i]? = some u) ∨ (i = TL.length ∧ u = (a, L)) ∨ (i = TL.length + 1 ∧ u = (b, M)) := fun i u hi => by
        by_cases hlt : i < TL.length
        · rw [List.getElem?_append_left hlt] at hi; exact .inl hi
        · have hil := (List.getElem?_eq_some_iff.1 hi).1
          simp at hil
          rcases (show i = TL.length ∨ i = TL.length + 1 by omega) with e | e
          · subst e; simp at hi; exact .inr (.inl ⟨rfl, hi.symm⟩)
          · subst e; simp at hi; exact .inr (.inr ⟨rfl, hi.symm⟩)
      rcases cs i u hi with hi | ⟨e1, q1⟩ | ⟨e1, q1⟩
      · rcases cs j u' hj with hj | ⟨e2, q2⟩ | ⟨e2, q2⟩
        · exact hT.ap i j u u' g hi hj h1 h2
        · rw [q2] at h2; exact (da u (List.mem_of_getElem? hi) g h1 h2).elim
        · rw [q2] at h2; exact (db u (List.mem_of_getElem? hi) g h1 h2).elim
      · rw [q1] at h1
        rcases cs j u' hj with hj | ⟨e2, q2⟩ | ⟨e2, q2⟩
        · exact (da u' (List.mem_of_getElem? hj) g h2 h1).elim
        · omega
        · rw [q2] at h2; exact (dab g h1 h2).elim
      · rw [q1] at h1
        rcases cs j u' hj with hj | ⟨e2, q2⟩ | ⟨e2, q2⟩
        · exact (db u' (List.mem_of_getElem? hj) g h2 h1).elim
        · rw [q2] at h2; exact (dab g h2 h1).elim
        · omega
    · rcases mem u hu with hu | hu | hu
      · exact hT.len u hu
      · rw [hu]; exact hl
      · rw [hu]; exact hm
  refine h.merges hi (FS.of_gb hg (fun g hg => .inl hg)) (TKp.ok _ _ _) hT' (fun g hgg => ?_)
  rcases hgg with e | ⟨u, hu, e⟩
  · rcases hat with q | q
    · exact .inl (.inl (by rw [← q]; exact e))
    · rw [q] at e; exact .inr (.inr (by have := Option.some.inj e; omega))
  · rcases mem u hu with hu | hu | hu
    · exact .inl (.inr ⟨u, hu, e⟩)
    · rw [hu] at e; exact .inr (.inl ⟨OKp w0.heap.size a L, by simp, e⟩)
    · rw [hu] at e; exact .inr (.inl ⟨OKp w0.heap.size b M, by simp, e⟩)
end
theorem Sep.pick {w0 w : World} {cs ds : List Cp} (h : Sep w0 w cs) (s : Nat → Nat) (hs : ∀ i j, s i = s j → i = j) (hd : ∀ (i : Nat) (c : Cp), ds[i]? = some c → cs[s i]? = some c) : Sep w0 w ds :=
  ⟨h.bl, fun i c hi => h.ok _ c (hd i c hi), fun i c hi => h.is _ c (hd i c hi), fun i c hi => h.lo _ c (hd i c hi), fun i j c d hi hj hij => h.dj _ _ c d (hd i c hi) (hd j d hj) (fun e => hij (hs i j e))⟩
def sAdK : Value → Option Addr
  | .slice a _ _ => a
  | _ => none
def sCpI : Value → Nat
  | .slice _ _ c => c
  | _ => 0
def avOK (TL : List (Value × List (Int × Int))) (k : Nat) : Option Addr := match TL[k]? with | some u => sAdK u.1 | none => none
def avNK (TL : List (Value × List (Int × Int))) (k : Nat) : Nat := match TL[k]? with | some u => u.2.length | none => 0
def avCK (TL : List (Value × List (Int × Int))) (k : Nat) : Nat := match TL[k]? with | some u => sCpI u.1 | none => 0
def avRK (TL : List (Value × List (Int × Int))) (k : Nat) : List (Int × Int) := match TL[k]? with | some u => u.2 | none => []
theorem avK_at {w : World} {B : Nat} {vt : Value} {TL : List (Value × List (Int × Int))} (h : TKk w B vt TL) {k : Nat} {u : Value × List (Int × Int)} (hk : TL[k]? = some u) : u.1 = .slice (avOK TL k) (avNK TL k) (avCK TL k) ∧ avRK TL k = u.2 := by
  obtain ⟨a, cap, e⟩ := KY.OM.slice (h.own u (List.mem_of_getElem? hk))
  refine ⟨?_, by unfold avRK; rw [hk]⟩
  have e1 : avOK TL k = a := by unfold avOK; rw [hk]; show sAdK u.1 = a; rw [e]; rfl
  have e2 : avNK TL k = u.2.length := by unfold avNK; rw [hk]
  have e3 : avCK TL k = cap := by unfold avCK; rw [hk]; show sCpI u.1 = cap; rw [e]; rfl
  rw [e1, e2, e3]; exact e
theorem TKk.cell {w : World} {B g cap : Nat} {TL : List (Value × List (Int × Int))} (h : TKk w B (.slice (some ⟨g, 0, none⟩) TL.length cap) TL) {k : Nat} {u : Value × List (Int × Int)} (hk : TL[k]? = some u) : w.cell? ⟨g, k, none⟩ = some u.1 := by
  have hl := (List.getElem?_eq_some_iff.1 hk).1
  refine (h.row.cellAt k (by omega)).trans ?_
  rw [List.getElem?_map, hk]; rfl
theorem TKk.all {w : World} {B g cap : Nat} {TL : List (Value × List (Int × Int))} (h : TKk w B (.slice (some ⟨g, 0, none⟩) TL.length cap) TL) : KY.AllM w B g TL.length (avOK TL) (avNK TL) (avCK TL) (avRK TL) := by
  have ex : ∀ k, k < TL.length → ∃ u, TL[k]? = some u := fun k hk => ⟨_, List.getElem?_eq_getElem hk⟩
  refine ⟨(World.ownsRow.lt h.row g rfl).2, fun k hk => ?_, fun k hk => ?_, fun k hk => ?_, fun j k x hj hk h1 h2 => ?_⟩
  · obtain ⟨u, hu⟩ := ex k hk
    rw [← (avK_at h hu).1]; exact h.cell hu
  · obtain ⟨u, hu⟩ := ex k hk
    rw [← (avK_at h hu).1, (avK_at h hu).2]; exact h.own u (List.mem_of_getElem? hu)
  · obtain ⟨u, hu⟩ := ex k hk
    rw [← (avK_at h hu).1]
    intro e
    obtain ⟨c1, f1, h1⟩ := ownsRow_kind h.row g rfl
    obtain ⟨c2, f2, h2⟩ := ownsRow_kind (h.own u (List.mem_of_getElem? hu)) g e
    rw [h1] at h2
    injection h2 with h2
    injection h2 with _ h2 _
    exact absurd h2 (by decide)
  · obtain ⟨u, hu⟩ := ex j hj
    obtain ⟨u', hu'⟩ := ex k hk
    rw [← (avK_at h hu).1] at h1
    rw [← (avK_at h hu').1] at h2
    exact h.ap j k u u' x hu hu' h1 h2
theorem avNK_le {w : World} {B : Nat} {vt : Value} {TL : List (Value × List (Int × Int))} (h : TKk w B vt TL) (k : Nat) : avNK TL k ≤ 17592186044100 := by
  unfold avNK
  split
  · next u hu => have := h.len u (List.mem_of_getElem? hu); omega
  · omega
/-- Behind ApartKeys: what was told is no one's any more. -/
theorem Sep.apartK {w0 w w' : World} {cs : List Cp} {i g n cap : Nat} {TL : List (Value × List (Int × Int))} (h : Sep w0 w cs) (hi : cs[i]? = some (TKp w0.heap.size (.slice (some ⟨g, 0, none⟩) n cap) TL)) (hs : Sp TL.length (avOK TL) (avNK TL) (avCK TL) w w') : Sep w0 w' (cs.set i noCp) := by
  refine h.step hi ⟨hs.os, hs.tape, hs.output, hs.size, fun y hy hn => hs.block y hy (fun k hk e => hn (.inr ?_))⟩ noCp_ok trivial (fun g hg => hg.elim)
  obtain ⟨u, hu⟩ : ∃ u, TL[k]? = some u := ⟨_, List.getElem?_eq_getElem hk⟩
  exact ⟨u, List.mem_of_getElem? hu, by rw [(avK_at (h.is i _ hi) hu).1]; exact e⟩
end Go.Proofs.YtgeholiagcckoaaGreatDoor
namespace Go.Proofs.YtgeholiagcckoaaGreatDoor
open Go.RowKit

theorem OR.owns {w : World} {B : Nat} {e : TypeId} {k : Nat} {v : Value} {n : Nat} {xs : List Value} (h : OR w B e k v n xs) (hz : Z0 v) : w.ownsRow B e k v n xs := by
  refine ⟨h.1, ?_⟩
  rcases h.2 with h0 | ⟨g, off, cap, cur, hv, hb, hh, h1, h2, h3, h4⟩
  · exact .inl h0
  · have e0 : off = 0 := hz _ _ _ _ _ hv
    subst e0
    refine .inr ⟨g, cap, cur, hv, hb, hh, h1, h2, by omega, ?_⟩
    apply List.ext_getElem?
    intro j
    by_cases hj : j < xs.length
    · have hc := h4 j _ (List.getElem?_eq_getElem hj)
      rw [cell_of_row _ _ _ _ _ _ hh, Nat.zero_add] at hc
      rw [List.getElem?_take_of_lt (by rw [← h.1]; exact hj), Array.getElem?_toList, hc, List.getElem?_eq_getElem hj]
    · rw [List.getElem?_eq_none (by have := h.1; rw [List.length_take]; omega), List.getElem?_eq_none (by omega)]
theorem kc_mc : ∀ L : List Ky, kc L = KY.mc L
  | [] => rfl
  | p :: r => by show _ :: _ :: kc r = _ :: _ :: KY.mc r; rw [kc_mc r]
theorem OR.om {w : World} {B : Nat} {v : Value} {L : List Ky} (h : OR w B 26 2 v L.length (kc L)) (hz : Z0 v) : KY.OM w B v L := by
  have h1 := h.owns hz
  rw [kc_mc] at h1
  exact h1
/-- A rising row of keys. -/
def insL (x : Ky) : List Ky → List Ky
  | [] => [x]
  | y :: t => if ltR x y then x :: y :: t else y :: insL x t
theorem insL_perm (x : Ky) : ∀ L, (insL x L).Perm (x :: L)
  | [] => List.Perm.refl _
  | y :: t => by
    unfold insL
    split
    · exact List.Perm.refl _
    · exact ((insL_perm x t).cons y).trans (List.Perm.swap x y t)
theorem insL_srt (x : Ky) : ∀ {L}, SrR L → SrR (insL x L)
  | [], _ => List.pairwise_cons.2 ⟨fun b hb => (by cases hb), List.Pairwise.nil⟩
  | y :: t, h => by
    obtain ⟨h1, h2⟩ := List.pairwise_cons.1 h
    unfold insL
    split
    · next hl =>
      refine List.pairwise_cons.2 ⟨fun b hb hbx => ?_, h⟩
      rcases List.mem_cons.1 hb with rfl | hb
      · exact ltR_asym hl hbx
      · exact h1 b hb (ltR_trans hbx hl)
    · next hl =>
      refine List.pairwise_cons.2 ⟨fun b hb => ?_, insL_srt x h2⟩
      rcases List.mem_cons.1 ((insL_perm x t).subset hb) with rfl | hb
      · exact hl
      · exact h1 b hb
def srtL : List Ky → List Ky
  | [] => []
  | x :: t => insL x (srtL t)
theorem srtL_perm : ∀ L, (srtL L).Perm L
  | [] => List.Perm.refl _
  | x :: t => (insL_perm x (srtL t)).trans ((srtL_perm t).cons x)
theorem srtL_srt : ∀ L, SrR (srtL L)
  | [] => List.Pairwise.nil
  | x :: t => insL_srt x (srtL_srt t)
theorem srR_K {L : List Ky} (h : SrR L) : SrtK L := by
  unfold SrR at h
  unfold SrtK
  refine List.Pairwise.imp (fun {a b} hab => ?_) h
  rw [ltK]
  unfold ltR at hab
  simp
  omega
theorem kl_ex {X : Sx} {R : List Rw} {D : List (Int × Bool)} (h : StR X R D) (hne : ∀ p ∈ R, p.2.1 ≠ []) (hnd : (R.map (·.1)).Nodup) : ∃ L, KL X L ∧ L.Perm (R.map (·.1)) := by
  have hp := srtL_perm (R.map (·.1))
  exact ⟨srtL (R.map (·.1)), ⟨srR_K (srtL_srt _), hp.nodup_iff.2 hnd, fun k => by rw [hp.mem_iff, rgo_mem hne k, h.kk k]⟩, hp⟩
theorem KL.uniq {X : Sx} {L M : List Ky} (a : KL X L) (b : KL X M) : L = M :=
  srt_same (srtK_R a.srt) (srtK_R b.srt) ((List.perm_ext_iff_of_nodup a.nd b.nd).2 (fun k => by rw [a.mem, b.mem]))
/-- No more versions than m. -/
def TotB (X : Sx) (m : Nat) : Prop := ∀ L : List Ky, L.Nodup → lenS X L ≤ m
theorem TotB.new : TotB newX 0 := fun L hL => by
  clear hL
  unfold lenS
  induction L with
  | nil => exact Nat.le_refl _
  | cons a t ih => rw [List.map_cons, List.sum_cons]; show 0 + _ ≤ 0; omega
theorem TotB.up {X : Sx} {m : Nat} (h : TotB X m) : TotB X (m + 1) := fun L hL => Nat.le_succ_of_le (h L hL)
theorem lenS_same {X Y : Sx} {k : Ky} (hk : ∀ j, j ≠ k → Y.K j = X.K j) : ∀ L : List Ky, k ∉ L → lenS Y L = lenS X L
  | [], _ => rfl
  | a :: t, h => by
    have h1 : a ≠ k := fun e => h (by rw [e]; exact List.mem_cons_self ..)
    have ih := lenS_same hk t (fun e => h (List.mem_cons_of_mem _ e))
    unfold lenS at ih ⊢
    rw [List.map_cons, List.map_cons, List.sum_cons, List.sum_cons, ih, hk a h1]
theorem lenS_one {X Y : Sx} {k : Ky} (hk : ∀ j, j ≠ k → Y.K j = X.K j) (h1 : (Y.K k).length ≤ (X.K k).length + 1) : ∀ L : List Ky, L.Nodup → lenS Y L ≤ lenS X L + 1
  | [], _ => by unfold lenS; simp
  | a :: t, hn => by
    obtain ⟨n1, n2⟩ := List.nodup_cons.1 hn
    by_cases e : a = k
    · subst e
      have ih := lenS_same hk t n1
      unfold lenS at ih ⊢
      rw [List.map_cons, List.map_cons, List.sum_cons, List.sum_cons, ih]; omega
    · have ih := lenS_one hk h1 t n2
      unfold lenS at ih ⊢
      rw [List.map_cons, List.map_cons, List.sum_cons, List.sum_cons, hk a e]; omega
theorem TotB.step {X Y : Sx} {m : Nat} (h : TotB X m) {k : Ky} (hk : ∀ j, j ≠ k → Y.K j = X.K j) (h1 : (Y.K k).length ≤ (X.K k).length + 1) : TotB Y (m + 1) := fun L hL => by
  have := lenS_one hk h1 L hL
  have := h L hL
  omega
theorem TotB.ask {X : Sx} {m : Nat} (h : TotB X m) (d : Cl) : TotB (X.ask d) (m + 1) := by
  unfold Sx.ask
  by_cases e0 : d.kind = 0
  · rw [if_pos e0]
    refine h.step (k := d.k) (fun j hj => upK_other hj) ?_
    show (upK X.K d.k (ptL d.N d.V (X.K d.k)) d.k).length ≤ _
    rw [upK_same]
    unfold ptL
    split
    · rw [List.length_append]; exact Nat.le_refl _
    · omega
  rw [if_neg e0]
  by_cases e4 : d.kind = 4
  · rw [if_pos e4]; exact h.up
  rw [if_neg e4]
  by_cases e5 : d.kind = 5
  · rw [if_pos e5]
    refine h.step (k := d.k) (fun j _ => by rw [cls_K]) (by rw [cls_K]; omega)
  rw [if_neg e5]
  by_cases e7 : d.kind = 7
  · rw [if_pos e7]
    refine h.step (k := d.k) (fun j hj => upK_other hj) ?_
    show (upK X.K d.k ((X.K d.k).drop _) d.k).length ≤ _
    rw [upK_same, List.length_drop]
    omega
  rw [if_neg e7]
  exact h.up
set_option maxRecDepth 100000 in
set_option maxHeartbeats 1000000 in
theorem ask_verE (on : Int) (k : Ky) (N : Int) (V : List UInt8) (B sb n kk : Nat) (X : Sx) (F : Nat → Prop) (L : List Ky) (w : World) (h : SO B w sb n X kk F) (hL : KL X L) (hT : lenS X L ≤ 4611686018427387904) :
    Calls Tryz.prog 46 #[.pointer (some ⟨sb, 0, none⟩), .agg #[.int .i64 on, .int .i64 8, .int .i64 k.1, .int .i64 k.2, .int .i64 N, .string ⟨V.toArray⟩]] w fun e w' => e = .returned (.agg #[.string ⟨#[]⟩, .int .i64 (lenS X L : Int), .bool false]) ∧ SO B w' sb n (X) (kk + 1) (gw F w w') ∧ FB w w' F (gw F w w') := by
  have hB := h.size
  obtain ⟨W1, hW1⟩ : ∃ W1, w.alloc (.cells #[.int .i64 on, .int .i64 8, .int .i64 k.1, .int .i64 k.2, .int .i64 N, .string ⟨V.toArray⟩] 47) = W1 := ⟨_, rfl⟩
  have hb1 : Below w.heap.size w W1 := by rw [← hW1]; exact (Below.refl _ _).alloc (Nat.le_refl _) _
  have hk1 : W1.heap[w.heap.size]? = some (.cells #[.int .i64 on, .int .i64 8, .int .i64 k.1, .int .i64 k.2, .int .i64 N, .string ⟨V.toArray⟩] 47 (0, 0)) := by rw [← hW1]; exact alloc_newV w _
  have z1 : w.heap.size < W1.heap.size := (Array.getElem?_eq_some_iff.1 hk1).1
  have hb2 : Below W1.heap.size W1 (W1.alloc (.cells #[.string ⟨#[]⟩, .int .i64 0, .bool false] 84)) := (Below.refl _ _).alloc (Nat.le_refl _) _
  have hr2 := alloc_newV W1 (.cells #[.string ⟨#[]⟩, .int .i64 0, .bool false] 84)
  have hk2 := (hb2.block _ z1).trans hk1
  have d1 : (W1.alloc (.cells #[.string ⟨#[]⟩, .int .i64 0, .bool false] 84)).cell? ⟨w.heap.size, 1, none⟩ = some (.int .i64 8) := by rw [cell_of_row _ _ 1 _ _ _ hk2]; rfl
  have HB2 := hide (hb1.trans (hb2.mono (Nat.le_of_lt z1)))
  have HR2 := hide hr2
  have HF := hide (fun x hx => (h.fb x hx).2)
  have HP := hide (verE_any B sb n kk X F L _ (h.later HB2.out) hL hT)
  have HS := hide (h.later HB2.out)
  have HZ1 := hide (Nat.le_of_lt z1)
  have HZ2 := hide (Array.getElem?_eq_some_iff.1 hr2).1
  clear h hk1 hb1 hb2 hr2 hk2 z1 hL hT
  go_enter Tryz.func46, Tryz.ntmps46
  go_wp2_with fail
  generalize W1.alloc (.cells #[.string ⟨#[]⟩, .int .i64 0, .bool false] 84) = W2 at *
  generalize W1.heap.size = bx at *
  refine HP.out.mono ?_
  rintro e w5 ⟨rfl, hb3⟩
  obtain ⟨hS3, hF3⟩ := HS.out.idle hb3
  have S3 := hide (And.intro hS3 hF3)
  have R5 := hide ((hF3.box HF.out HZ1.out HZ2.out).trans HR2.out)
  have HB5 := hide (Below.refl w5.heap.size w5)
  clear hS3 hF3 HP d1 hb3 HS
  have g0 : w5.cell? ⟨bx, 0, none⟩ = some (.string ⟨#[]⟩) := by rw [cell_of_row _ _ 0 _ _ _ R5.out]; rfl
  have g1 : w5.cell? ⟨bx, 1, none⟩ = some (.int .i64 0) := by rw [cell_of_row _ _ 1 _ _ _ R5.out]; rfl
  have g2 : w5.cell? ⟨bx, 2, none⟩ = some (.bool false) := by rw [cell_of_row _ _ 2 _ _ _ R5.out]; rfl
  have gf : ∀ j, w5.frozen? ⟨bx, j, none⟩ = false := fun j => by unfold World.frozen?; simp [R5.out]
  have gf0 := gf 0
  have gf1 := gf 1
  have gf2 := gf 2
  clear gf
  go_wp2_with fail
  exact bodyPost_ret (results_cell_row rfl _ _ bx 84 _ (0, 0) _ rfl (set3_blk R5.out _ _ _) Tryz.underlying84 rfl Tryz.sizeSaid) rfl ⟨rfl, SO.done3 S3.out HB2.out HB5.out HZ1.out HZ2.out HF.out hB _ _ _⟩
/-- What any call answers. -/
def ansA (X : Sx) (R : List Rw) (n : Nat) (d : Cl) : List UInt8 × Int × Bool := if d.kind = 8 then ([], (rwl R : Int), false) else X.ans n d
theorem ask8 {X : Sx} {d : Cl} (h : d.kind = 8) : X.ask d = X := by
  unfold Sx.ask
  rw [if_neg (by omega), if_neg (by omega), if_neg (by omega), if_neg (by omega)]
theorem askE_any (d : Cl) (B sb n kk : Nat) (X : Sx) (F : Nat → Prop) (R : List Rw) (L : List Ky) (w : World) (HE : Hid (∀ w', Below B w w' → ErrType w')) (h : SO B w sb n X kk F) (hk : KOK d.k) (hI : IOK d.N) (hN : d.N ≤ 9223372036854775807) (hl : kk ≤ 5864062014803) (hL : KL X L) (he : lenS X L = rwl R) (hT : rwl R ≤ 4611686018427387904) :
    Calls Tryz.prog 46 #[.pointer (some ⟨sb, 0, none⟩), .agg (clc d)] w fun e w' => e = .returned (ansV (ansA X R n d)) ∧ SO B w' sb n (X.ask d) (kk + 1) (gw F w w') ∧ FB w w' F (gw F w w') := by
  by_cases h8 : d.kind = 8
  · rw [ask8 h8]
    unfold ansA
    rw [if_pos h8]
    obtain ⟨on, kind, k, N, V⟩ := d
    dsimp only at h8
    subst h8
    rw [← he]
    exact ask_verE on k N V B sb n kk X F L w h hL (by rw [he]; exact hT)
  · unfold ansA
    rw [if_neg h8]
    exact ask_ans d B sb n kk X F w HE h hk hI hN hl h8
theorem tellE_any (d : Cl) (B rb n : Nat) (R : List Rw) (D : List (Int × Bool)) (vr vd : Value) (kk : Nat) (H : Nat → Prop) (X : Sx) (w : World) (h : RF B w rb (n : Int) R D vr vd kk H) (hS : StR X R D) (hne : ∀ p ∈ R, p.2.1 ≠ []) (hI : IOK d.N) (hN : d.N ≤ 9223372036854775807) (hN0 : -9223372036854775808 ≤ d.N) (hl : kk < 3518437208882) (hT : rwl R ≤ 4611686018427387904) :
    Calls Tryz.prog 47 #[.pointer (some ⟨rb, 0, none⟩), .agg (clc d)] w fun e w' => e = .returned (ansV (ansA X R n d)) ∧ TlD B w w' rb (n : Int) kk H (X.ask d) := by
  by_cases h8 : d.kind = 8
  · rw [ask8 h8]
    unfold ansA
    rw [if_pos h8]
    obtain ⟨on, kind, k, N, V⟩ := d
    dsimp only at h8
    subst h8
    refine (tell_ver on k N V B rb n R D vr vd kk H w h (by omega) hT).mono ?_
    rintro e w' ⟨rfl, hb⟩
    exact ⟨rfl, TlD.idle h hb hS hne⟩
  · unfold ansA
    rw [if_neg h8]
    exact tell_ans d B rb n R D vr vd kk H X w h hS hne hI hN hN0 hl h8
end Go.Proofs.YtgeholiagcckoaaGreatDoor
namespace Go.Proofs.YtgeholiagcckoaaGreatDoor
open Go.RowKit Go.Extern Go.MapKept Go.ChangeMaps

/-- A store of the program's and its one of the document's. -/
structure Sf where
  F : Nat → Prop
  sb : Nat
  n : Nat
  X : Sx
  kk : Nat
  H : Nat → Prop
  rb : Nat
  R : List Rw
  D : List (Int × Bool)
  vr : Value
  vd : Value
  rk : Nat
def upF (f : Bool) (x : Sf) (G : Bool → Sf) : Bool → Sf := fun b => if b = f then x else G b
theorem upF_at (f : Bool) (x : Sf) (G : Bool → Sf) : upF f x G f = x := by unfold upF; rw [if_pos rfl]
theorem upF_two (f : Bool) (x y : Sf) (G : Bool → Sf) : upF f x (upF f y G) = upF f x G := by
  funext b; unfold upF; split
  · rfl
  · rfl
/-- Both sides are the same, behind at most k calls. -/
structure SG (x : Sf) (k : Nat) : Prop where
  st : StR x.X x.R x.D
  ne : ∀ p ∈ x.R, p.2.1 ≠ []
  tot : TotB x.X x.kk
  le : x.kk ≤ k
  lr : x.rk ≤ k
theorem SG.up {x : Sf} {k : Nat} (h : SG x k) : SG x (k + 1) := ⟨h.st, h.ne, h.tot, Nat.le_succ_of_le h.le, Nat.le_succ_of_le h.lr⟩
theorem SGs.up {G : Bool → Sf} {k : Nat} (h : ∀ f, SG (G f) k) {f : Bool} {x : Sf} (hx : SG x (k + 1)) : ∀ g, SG (upF f x G g) (k + 1) := fun g => by
  unfold upF; split
  · exact hx
  · exact (h g).up
theorem SGs.next {G : Bool → Sf} {k : Nat} (h : ∀ f, SG (G f) k) : ∀ g, SG (G g) (k + 1) := fun g => (h g).up
/-- Behind the program's call. -/
def askF (x : Sf) (d : Cl) (F : Nat → Prop) : Sf := ⟨F, x.sb, x.n, x.X.ask d, x.kk + 1, x.H, x.rb, x.R, x.D, x.vr, x.vd, x.rk⟩
def bsS (B xa ra : Nat) (G : Bool → Sf) (vt : Value) (TL : List (Value × List (Int × Int))) : List Cp :=
  [SOp B (G false).sb (G false).n (G false).X (G false).kk (G false).F, SOp B (G true).sb (G true).n (G true).X (G true).kk (G true).F, RFp B (G false).rb ((G false).n : Int) (G false).R (G false).D (G false).vr (G false).vd (G false).rk (G false).H, RFp B (G true).rb ((G true).n : Int) (G true).R (G true).D (G true).vr (G true).vd (G true).rk (G true).H,
   BCp xa #[.pointer (some ⟨(G false).sb, 0, none⟩), .pointer (some ⟨(G true).sb, 0, none⟩)] 77, BCp ra #[.pointer (some ⟨(G false).rb, 0, none⟩), .pointer (some ⟨(G true).rb, 0, none⟩)] 80, TKp B vt TL]
/-- The law's memory. -/
structure SL (w0 w : World) (xa ra : Nat) (G : Bool → Sf) (vt : Value) (TL : List (Value × List (Int × Int))) (ex : List Cp) : Prop where
  sep : Sep w0 w (bsS w0.heap.size xa ra G vt TL ++ ex)
section
variable {w0 w w' w1 : World} {xa ra : Nat} {G : Bool → Sf} {vt vt' : Value} {TL : List (Value × List (Int × Int))} {ex : List Cp}
theorem SL.bl (h : SL w0 w xa ra G vt TL ex) : Below w0.heap.size w0 w := h.sep.bl
theorem SL.later (h : SL w0 w xa ra G vt TL ex) (hb : Below w.heap.size w w') : SL w0 w' xa ra G vt TL ex := ⟨h.sep.later hb⟩
theorem SL.so (h : SL w0 w xa ra G vt TL ex) (f : Bool) : SO w0.heap.size w (G f).sb (G f).n (G f).X (G f).kk (G f).F := by
  cases f
  · exact h.sep.is 0 _ rfl
  · exact h.sep.is 1 _ rfl
theorem SL.rfs (h : SL w0 w xa ra G vt TL ex) (f : Bool) : RF w0.heap.size w (G f).rb ((G f).n : Int) (G f).R (G f).D (G f).vr (G f).vd (G f).rk (G f).H := by
  cases f
  · exact h.sep.is 2 _ rfl
  · exact h.sep.is 3 _ rfl
theorem SL.tk (h : SL w0 w xa ra G vt TL ex) : TKk w w0.heap.size vt TL := h.sep.is 6 _ rfl
theorem SL.xac (h : SL w0 w xa ra G vt TL ex) : w.heap[xa]? = some (.cells #[.pointer (some ⟨(G false).sb, 0, none⟩), .pointer (some ⟨(G true).sb, 0, none⟩)] 77 (0, 0)) := h.sep.is 4 _ rfl
theorem SL.rac (h : SL w0 w xa ra G vt TL ex) : w.heap[ra]? = some (.cells #[.pointer (some ⟨(G false).rb, 0, none⟩), .pointer (some ⟨(G true).rb, 0, none⟩)] 80 (0, 0)) := h.sep.is 5 _ rfl
theorem SL.xf (h : SL w0 w xa ra G vt TL ex) (f : Bool) : w.cell? ⟨xa, f.toNat, none⟩ = some (.pointer (some ⟨(G f).sb, 0, none⟩)) := by
  cases f
  · rw [show (false : Bool).toNat = 0 from rfl, cell_of_row _ _ 0 _ _ _ h.xac]; rfl
  · rw [show (true : Bool).toNat = 1 from rfl, cell_of_row _ _ 1 _ _ _ h.xac]; rfl
theorem SL.rf (h : SL w0 w xa ra G vt TL ex) (f : Bool) : w.cell? ⟨ra, f.toNat, none⟩ = some (.pointer (some ⟨(G f).rb, 0, none⟩)) := by
  cases f
  · rw [show (false : Bool).toNat = 0 from rfl, cell_of_row _ _ 0 _ _ _ h.rac]; rfl
  · rw [show (true : Bool).toNat = 1 from rfl, cell_of_row _ _ 1 _ _ _ h.rac]; rfl
theorem SL.shc (h : SL w0 w xa ra G vt TL ex) (f : Bool) : w.cell? ⟨(G f).rb, 0, none⟩ = some (.int .i64 ((G f).n : Int)) := by rw [cell_of_row _ _ 0 _ _ _ (h.rfs f).hdr]; rfl
theorem SL.box (h : SL w0 w xa ra G vt TL ex) (xs : Array Value) (t : TypeId) : SL w0 (w.alloc (.cells xs t)) xa ra G vt TL (ex ++ [BCp w.heap.size xs t]) := ⟨h.sep.box xs t⟩
theorem SL.bx (h : SL w0 w xa ra G vt TL ex) {i b : Nat} {xs : Array Value} {t : TypeId} (hi : ex[i]? = some (BCp b xs t)) : w.heap[b]? = some (.cells xs t (0, 0)) := h.sep.is (i + 7) _ hi
theorem SL.ok (h : SL w0 w xa ra G vt TL ex) {i : Nat} {v : Value} {L : List (Int × Int)} (hi : ex[i]? = some (OKp w0.heap.size v L)) : KY.OM w w0.heap.size v L := h.sep.is (i + 7) _ hi
theorem SL.drop {ds : List Cp} (h : SL w0 w xa ra G vt TL (ex ++ ds)) : SL w0 w xa ra G vt TL ex := ⟨Sep.front (cs := bsS w0.heap.size xa ra G vt TL ++ ex) (ds := ds) h.sep⟩
theorem SL.bare (h : SL w0 w xa ra G vt TL ex) : SL w0 w xa ra G vt TL [] := SL.drop (ex := []) (ds := ex) h
theorem SL.row (h : SL w0 w xa ra G vt TL ex) (hb : Below w.heap.size w w') {v : Value} {L : List (Int × Int)} (ho : KY.OM w' w.heap.size v L) : SL w0 w' xa ra G vt TL (ex ++ [OKp w0.heap.size v L]) :=
  ⟨h.sep.new (c := OKp w0.heap.size v L) hb (OKp.ok _ _ _) (ho.base (fun g hg => Nat.le_trans h.sep.bl.size (World.ownsRow.lt ho g hg).1)) (fun g hg => (World.ownsRow.lt ho g hg).1)⟩
theorem SG.kl {f : Bool} {k : Nat} (hG : SG (G f) k) (h : SL w0 w xa ra G vt TL ex) : ∃ L, KL (G f).X L ∧ L.length ≤ k ∧ lenS (G f).X L = rwl (G f).R ∧ rwl (G f).R ≤ k := by
  obtain ⟨L, h1, h2⟩ := kl_ex hG.st hG.ne (h.rfs f).nd
  have hl := len_same hG.st (h.rfs f).nd h2
  refine ⟨L, h1, ?_, hl, ?_⟩
  · have := h2.length_eq; rw [List.length_map] at this; have := (h.rfs f).len.1; have := hG.lr; omega
  · rw [← hl]; exact Nat.le_trans (hG.tot L h1.nd) hG.le
theorem SL.ask (h : SL w0 w xa ra G vt TL ex) (f : Bool) {k : Nat} (hG : SG (G f) k) (hk : k ≤ 2600000000000) (hET : ErrType w0) (d : Cl) (hd : KOK d.k ∧ IOK d.N ∧ d.N ≤ 9223372036854775807) :
    Calls Tryz.prog 46 #[.pointer (some ⟨(G f).sb, 0, none⟩), .agg (clc d)] w fun e w' => e = .returned (ansV (ansA (G f).X (G f).R (G f).n d)) ∧ ∃ F', Hid (SL w0 w' xa ra (upF f (askF (G f) d F') G) vt TL ex) := by
  obtain ⟨L, h1, h2, h3, h4⟩ := hG.kl h
  have hkk := hG.le
  refine (askE_any d w0.heap.size _ _ _ _ _ (G f).R L w (hide (fun w' hb => hET.below (h.bl.trans hb))) (h.so f) hd.1 hd.2.1 hd.2.2 (by omega) h1 h3 (by omega)).mono ?_
  rintro e w' ⟨rfl, h1, h2⟩
  refine ⟨rfl, gw (G f).F w w', hide ?_⟩
  cases f
  · exact ⟨h.sep.so (i := 0) rfl h1 h2⟩
  · exact ⟨h.sep.so (i := 1) rfl h1 h2⟩
theorem SL.tell (f : Bool) {d : Cl} {F' : Nat → Prop} (h : SL w0 w xa ra (upF f (askF (G f) d F') G) vt TL ex) {k : Nat} (hG : SG (G f) k) (hk : k ≤ 2600000000000) (hT : rwl (G f).R ≤ k) (hd : KOK d.k ∧ IOK d.N ∧ d.N ≤ 9223372036854775807) :
    Calls Tryz.prog 47 #[.pointer (some ⟨(G f).rb, 0, none⟩), .agg (clc d)] w fun e w' => e = .returned (ansV (ansA (G f).X (G f).R (G f).n d)) ∧ ∃ x : Sf, x.sb = (G f).sb ∧ x.rb = (G f).rb ∧ Hid (SL w0 w' xa ra (upF f x G) vt TL ex) ∧ Hid (SG x (k + 1)) := by
  have hr : RF w0.heap.size w (G f).rb ((G f).n : Int) (G f).R (G f).D (G f).vr (G f).vd (G f).rk (G f).H := by
    have := h.rfs f
    rw [upF_at] at this
    exact this
  have hrk := hG.lr
  refine (tellE_any d w0.heap.size _ _ _ _ _ _ _ _ (G f).X w hr hG.st hG.ne hd.2.1 hd.2.2 (Go.bounds_i64 hd.2.1).1 (by omega) (by omega)).mono ?_
  rintro e w' ⟨rfl, R', D', vr', vd', g1, g2, g3, g4⟩
  refine ⟨rfl, ⟨F', (G f).sb, (G f).n, (G f).X.ask d, (G f).kk + 1, hN w w' (G f).H, (G f).rb, R', D', vr', vd', (G f).rk + 1⟩, rfl, rfl, hide ?_, hide ⟨g3, g4, hG.tot.ask d, by have := hG.le; show (G f).kk + 1 ≤ _; omega, by show (G f).rk + 1 ≤ _; omega⟩⟩
  cases f
  · exact ⟨h.sep.rf (i := 2) rfl g1 g2⟩
  · exact ⟨h.sep.rf (i := 3) rfl g1 g2⟩
theorem SL.keys (h : SL w0 w xa ra G vt TL ex) (f : Bool) {L : List Ky} (hL : KL (G f).X L) (hk : (G f).kk ≤ 5864062014803) :
    Calls Tryz.prog 10 #[.pointer (some ⟨(G f).sb, 0, none⟩)] w fun e w' => ∃ a cap, e = .returned (.slice a L.length cap) ∧ Hid (SL w0 w' xa ra G vt TL (ex ++ [OKp w0.heap.size (.slice a L.length cap) L])) := by
  refine (keysZ_any _ _ _ _ _ _ w (h.so f) hk).mono ?_
  rintro e w' ⟨v, M, rfl, hM, ho, hz, hb⟩
  obtain rfl := hL.uniq hM
  have hO := ho.om hz
  obtain ⟨a, cap, rfl⟩ := hO.slice
  exact ⟨a, cap, rfl, hide (h.row hb hO)⟩
theorem SL.rkeys (h : SL w0 w xa ra G vt TL ex) (f : Bool) {k : Nat} (hG : SG (G f) k) (hk : k ≤ 2600000000000) {L : List Ky} (hL : KL (G f).X L) :
    Calls Tryz.prog 49 #[.pointer (some ⟨(G f).rb, 0, none⟩)] w fun e w' => ∃ a cap, e = .returned (.slice a L.length cap) ∧ Hid (SL w0 w' xa ra G vt TL (ex ++ [OKp w0.heap.size (.slice a L.length cap) L])) := by
  have := hG.lr
  refine (rKeys_any _ _ _ _ _ _ _ _ _ w (h.rfs f) (by omega)).mono ?_
  rintro e w' ⟨v, M, rfl, hO, hs, hp, hb⟩
  obtain rfl := keys_same hG.st hG.ne (h.rfs f).nd hL hs hp
  obtain ⟨a, cap, rfl⟩ := hO.slice
  exact ⟨a, cap, rfl, hide (h.row hb hO)⟩
theorem SL.same (h : SL w0 w xa ra G vt TL ex) {i j : Nat} {a b : Value} {L : List Ky} (hi : ex[i]? = some (OKp w0.heap.size a L)) (hj : ex[j]? = some (OKp w0.heap.size b L)) (hl : L.length ≤ 8796093022000) :
    Calls Tryz.prog 48 #[a, b] w fun e w' => e = .returned (.bool true) ∧ Hid (SL w0 w' xa ra G vt TL ex) := by
  have h1 := KY.sameM_any a b L L w (h.ok hi).rm (h.ok hj).rm (by omega) (by omega)
  rw [decide_eq_true rfl] at h1
  refine h1.mono ?_
  rintro e w' ⟨rfl, hb⟩
  exact ⟨rfl, hide (h.later hb)⟩
theorem SL.vers (h : SL w0 w xa ra G vt TL ex) (f : Bool) {k : Nat} (hG : SG (G f) k) (hk : k ≤ 2600000000000) :
    Calls Tryz.prog 16 #[.pointer (some ⟨(G f).sb, 0, none⟩)] w fun e w' => e = .returned (.int .i64 (rwl (G f).R : Int)) ∧ Hid (SL w0 w' xa ra G vt TL ex) := by
  obtain ⟨L, h1, h2, h3, h4⟩ := hG.kl h
  refine (verE_any _ _ _ _ _ _ L w (h.so f) h1 (by omega)).mono ?_
  rintro e w' ⟨rfl, hb⟩
  rw [h3]
  exact ⟨rfl, hide (h.later hb)⟩
theorem SL.rvers (h : SL w0 w xa ra G vt TL ex) (f : Bool) {k : Nat} (hG : SG (G f) k) (hk : k ≤ 2600000000000) :
    Calls Tryz.prog 51 #[.pointer (some ⟨(G f).rb, 0, none⟩)] w fun e w' => e = .returned (.int .i64 (rwl (G f).R : Int)) ∧ Hid (SL w0 w' xa ra G vt TL ex) := by
  obtain ⟨L, h1, h2, h3, h4⟩ := hG.kl h
  have := hG.lr
  refine (rVers_any _ _ _ _ _ _ _ _ _ w (h.rfs f) (by omega) (by omega)).mono ?_
  rintro e w' ⟨rfl, hb⟩
  exact ⟨rfl, hide (h.later hb)⟩
theorem SL.shards (h : SL w0 w xa ra G vt TL ex) (f : Bool) :
    Calls Tryz.prog 9 #[.pointer (some ⟨(G f).sb, 0, none⟩)] w fun e w' => e = .returned (.int .i64 ((G f).n : Int)) ∧ Hid (SL w0 w' xa ra G vt TL ex) := by
  refine (shardsO_any _ _ _ _ _ _ w (h.so f)).mono ?_
  rintro e w' ⟨rfl, hb⟩
  first
    | exact ⟨rfl, hide (h.later hb)⟩
    | (rw [hb]; exact ⟨rfl, hide h⟩)
theorem SL.tell2 {a b : Value} {L M : List (Int × Int)} (h : SL w0 w xa ra G vt TL (ex ++ [OKp w0.heap.size a L, OKp w0.heap.size b M])) (ho : w'.ownsRow w0.heap.size 31 1 vt' (TL.length + 2) (TL.map (·.1) ++ [a, b])) (hg : w.grownBy w' vt.ownBlock) (hat : vt'.ownBlock = vt.ownBlock ∨ vt'.ownBlock = some w.heap.size) (hl : L.length ≤ 8796093022000) (hm : M.length ≤ 8796093022000) : SL w0 w' xa ra G vt' (TL ++ [(a, L), (b, M)]) ex :=
  ⟨Sep.tellK2 (cs := bsS w0.heap.size xa ra G vt TL ++ ex) (i := 6) h.sep rfl ho hg hat hl hm⟩
theorem SL.apart {g n cap : Nat} (h : SL w0 w xa ra G (.slice (some ⟨g, 0, none⟩) n cap) TL ex) (hs : Sp TL.length (avOK TL) (avNK TL) (avCK TL) w w') : SL w0 w' xa ra G (.slice none 0 0) [] ex := by
  refine ⟨h.sep.step (i := 6) (c := TKp w0.heap.size (.slice (some ⟨g, 0, none⟩) n cap) TL) (c' := TKp w0.heap.size (.slice none 0 0) []) rfl ⟨hs.os, hs.tape, hs.output, hs.size, fun y hy hn => hs.block y hy (fun k hk e => hn (.inr ?_))⟩ (TKp.ok _ _ _) (TKk.nil _ _) (fun g hg => ?_)⟩
  · obtain ⟨u, hu⟩ : ∃ u, TL[k]? = some u := ⟨_, List.getElem?_eq_getElem hk⟩
    exact ⟨u, List.mem_of_getElem? hu, by rw [(avK_at h.tk hu).1]; exact e⟩
  · rcases hg with e | ⟨u, hu, _⟩
    · cases e
    · cases hu
end
theorem Sep.swap {w0 w : World} {cs ds : List Cp} {a b : Cp} (h : Sep w0 w (cs ++ a :: b :: ds)) : Sep w0 w (cs ++ b :: a :: ds) := by
  refine h.pick (fun i => if i = cs.length then cs.length + 1 else if i = cs.length + 1 then cs.length else i) (fun i j e => ?_) (fun i c hi => ?_)
  · split at e <;> split at e <;> (try split at e) <;> (try split at e) <;> omega
  · by_cases h1 : i = cs.length
    · subst h1; rw [if_pos rfl]; simpa using hi
    · rw [if_neg h1]
      by_cases h2 : i = cs.length + 1
      · subst h2; rw [if_pos rfl]; simpa using hi
      · rw [if_neg h2]
        by_cases h3 : i < cs.length
        · rw [List.getElem?_append_left h3] at hi ⊢; exact hi
        · obtain ⟨m, rfl⟩ : ∃ m, i = cs.length + (m + 2) := ⟨i - cs.length - 2, by omega⟩
          rw [List.getElem?_append_right (by omega), Nat.add_sub_cancel_left] at hi ⊢; exact hi
theorem Sep.newS {w0 w : World} {cs : List Cp} (h : Sep w0 w cs) (s : Int) (n : Nat) (hn : (n : Int) = cnt s) :
    Calls Tryz.prog 8 #[.int .i64 s] w fun e w' => ∃ sb F, e = .returned (.pointer (some ⟨sb, 0, none⟩)) ∧ Hid (Sep w0 w' (cs ++ [SOp w0.heap.size sb n newX 0 F])) := by
  refine (newO_any s n w0.heap.size w hn h.bl.size).mono ?_
  rintro e w' ⟨sb, rfl, h1, h2⟩
  exact ⟨sb, _, rfl, hide (h.new h2 (SOp.ok _ _ _ _ _ _) h1 (fun g hg => hg.1))⟩
theorem OR.nilB {w : World} {B C : Nat} {e : TypeId} {k : Nat} (_h : OR w B e k (.slice none 0 0) 0 []) : OR w C e k (.slice none 0 0) 0 [] := OR.nil _ _ _ _
theorem Sep.newR {w0 w : World} {cs : List Cp} (h : Sep w0 w cs) (s : Int) (n : Nat) (hn : (n : Int) = cnt s) :
    Calls Tryz.prog 44 #[.int .i64 s] w fun e w' => ∃ rb, e = .returned (.pointer (some ⟨rb, 0, none⟩)) ∧ Hid (Sep w0 w' (cs ++ [RFp w0.heap.size rb (n : Int) [] [] (.slice none 0 0) (.slice none 0 0) 0 (fun x => x = rb)])) := by
  refine (rNew_any s w).mono ?_
  rintro e w' ⟨rb, rfl, h0, h1, h2⟩
  rw [hn]
  exact ⟨rb, rfl, hide (h.new h2 (RFp.ok _ _ _ _ _ _ _ _ _) ⟨h1.hdr, OR.nil _ _ _ _, OR.nil _ _ _ _, fun p hp => (by cases hp), h1.nd, h1.hb, h1.hr, h1.hd, h1.hv, fun x hx => ⟨Nat.le_trans h.bl.size (h1.lt x hx).1, (h1.lt x hx).2⟩, h1.len⟩ (fun g hg => by rw [show g = rb from hg]; exact h0))⟩
theorem cnt_nat (s : Int) : ∃ n : Nat, (n : Int) = cnt s := ⟨(cnt s).toNat, by have : 0 ≤ cnt s := by { unfold cnt; split <;> (try split) <;> omega }; omega⟩
end Go.Proofs.YtgeholiagcckoaaGreatDoor
