/-
  My own text: layer 11: StoreShards: a store of numbers, each the length of the text, beside one of texts.
-/
import Derived.Test.YtehacdijleommaaGreatDoorSU0
import Derived.Test.YtehacdijleommaaGreatDoorJK6
namespace Go.Proofs.YtehacdijleommaaGreatDoor
open Go.RowKit

def lv (p : Ver) : CI.Ver := (p.1, (p.2.length : Int))
structure RU (X : Sx) (U : CI.Sx) : Prop where
  k : ∀ j, U.K j = (X.K j).map lv
  bg : U.bg = X.bg
  R : U.R = X.R
  L : U.L = X.L
theorem ab_lv (n : Int) : ∀ L : List Ver, CI.ab n (L.map lv) = ab n L
  | [] => rfl
  | p :: r => by
    show (if n < p.1 then 0 else CI.ab n (r.map lv) + 1) = (if n < p.1 then 0 else ab n r + 1)
    rw [ab_lv n r]
theorem lastN_lv (L : List Ver) : CI.lastN (L.map lv) = lastN L := by
  unfold CI.lastN lastN
  rw [List.length_map, List.getElem?_map]
  cases L[L.length - 1]? <;> rfl
theorem ptL_lv (n : Int) (V : List UInt8) (L : List Ver) : CI.ptL n (V.length : Int) (L.map lv) = (ptL n V L).map lv := by
  unfold CI.ptL ptL
  rw [lastN_lv]
  split
  · rw [List.map_append]; rfl
  · rfl
theorem peR_lv (n : Int) (L : List Ver) : CI.peR n (L.map lv) = peR n L := by
  unfold CI.peR peR
  rw [lastN_lv]
theorem atS_lv (q : Int) (L : List Ver) : CI.atS q (L.map lv) = ((atS q L).length : Int) := by
  unfold CI.atS atS
  rw [ab_lv]
  split
  · rfl
  · rw [List.getElem?_map]
    cases L[ab q L - 1]? <;> rfl
theorem atB_lv (q : Int) (L : List Ver) : CI.atB q (L.map lv) = atB q L := by unfold CI.atB atB; rw [ab_lv]
theorem laP_lv (L : List Ver) : CI.laP (L.map lv) = lv (laP L) := by
  unfold CI.laP laP
  rw [List.length_map, List.getElem?_map]
  cases L[L.length - 1]? <;> rfl
theorem laB_lv (L : List Ver) : CI.laB (L.map lv) = laB L := by unfold CI.laB laB; rw [List.length_map]
/-- What the same call makes of it. -/
def uask (U : CI.Sx) (d : Cl) : CI.Sx := if d.kind = 0 then U.put d.k d.N (d.V.length : Int) else if d.kind = 4 then U.opn d.N else if d.kind = 5 then U.cls d.N else if d.kind = 7 then U.pru d.k d.N else U
theorem RU.new : RU newX CI.newX := ⟨fun _ => rfl, rfl, rfl, rfl⟩
theorem RU.put {X : Sx} {U : CI.Sx} (h : RU X U) (k : Ky) (N : Int) (V : List UInt8) : RU (X.put k N V) (U.put k N (V.length : Int)) := by
  refine ⟨fun j => ?_, h.bg, h.R, h.L⟩
  show CI.upK U.K k (CI.ptL N (V.length : Int) (U.K k)) j = (upK X.K k (ptL N V (X.K k)) j).map lv
  unfold CI.upK upK
  split
  · rw [h.k, ptL_lv]
  · exact h.k j
theorem RU.pru {X : Sx} {U : CI.Sx} (h : RU X U) (k : Ky) (q : Int) : RU (X.pru k q) (U.pru k q) := by
  refine ⟨fun j => ?_, h.bg, h.R, h.L⟩
  show CI.upK U.K k ((U.K k).drop (CI.ab (oldR q U.L) (U.K k) - 1)) j = (upK X.K k ((X.K k).drop (ab (oldR q X.L) (X.K k) - 1)) j).map lv
  unfold CI.upK upK
  split
  · rw [h.k, ab_lv, h.L, List.map_drop]
  · exact h.k j
theorem RU.opn {X : Sx} {U : CI.Sx} (h : RU X U) (q : Int) : RU (X.opn q) (U.opn q) := by
  refine ⟨h.k, ?_, ?_, ?_⟩
  · show U.bg + 1 = X.bg + 1; rw [h.bg]
  · show ((U.bg : Int) + 1, q) :: U.R = ((X.bg : Int) + 1, q) :: X.R; rw [h.bg, h.R]
  · show insR q U.L = insR q X.L; rw [h.L]
theorem RU.cls {X : Sx} {U : CI.Sx} (h : RU X U) (q : Int) : RU (X.cls q) (U.cls q) := by
  unfold Sx.cls CI.Sx.cls
  rw [h.R]
  cases X.R.find? fun p => p.1 == q with
  | none => exact h
  | some p => exact ⟨h.k, h.bg, by show endR q _ = endR q _; rfl, by show delR p.2 U.L = delR p.2 X.L; rw [h.L]⟩
theorem RU.ask {X : Sx} {U : CI.Sx} (h : RU X U) (d : Cl) : RU (X.ask d) (uask U d) := by
  unfold Sx.ask uask
  split
  · exact h.put _ _ _
  · split
    · exact h.opn _
    · split
      · exact h.cls _
      · split
        · exact h.pru _ _
        · exact h
theorem RU.kl {X : Sx} {U : CI.Sx} (h : RU X U) {L : List Ky} (hL : KL X L) : CI.KL U L := ⟨hL.srt, hL.nd, fun k => by rw [hL.mem, h.k]; simp⟩
theorem RU.len {X : Sx} {U : CI.Sx} (h : RU X U) (L : List Ky) : CI.lenS U L = lenS X L := by
  unfold CI.lenS lenS
  congr 1
  refine List.map_congr_left (fun k _ => ?_)
  rw [h.k, List.length_map]
end Go.Proofs.YtehacdijleommaaGreatDoor
