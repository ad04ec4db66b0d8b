/-
  My own text: the mathematics of there and back.
-/
import Derived.Test.YtmebomifakmkbabDoorBM2
namespace Go.Proofs.YtmebomifakmkbabDoor

theorem bg_rt {av q : Int} {L : List Mk} (h : Rt av L) (hq : 1 ≤ q) : bg av L q = none := by
  unfold bg
  rw [if_neg (by simpa using (ck_right h.top).2 h), if_neg (by omega)]
theorem unmark_back {av q n a : Int} {L M : List Mk} (h1 : av ≤ top) (h : markO av L q n = .ok a M) : unmarkO a M q n = .ok av L ∧ a + sm M = av + sm L ∧ Rt av L ∧ Rt a M := by
  obtain ⟨hR, hq, hR', hs, n1, n2, rfl, rfl⟩ := mark_ok h1 h
  have hm := mq_ge (n := n) hR.ri
  have e : mq n (setM n (mq n L + q) L) = mq n L + q := by rw [setM_mq (by omega) hR.ri, if_pos rfl]
  refine ⟨?_, hs, hR, hR'⟩
  unfold unmarkO
  rw [bg_rt hR' hq]
  dsimp only
  rw [e, if_neg (by omega), if_neg (by omega), show mq n L + q - q = mq n L by omega, show av - q + q = av by omega, setM_twice hR.ri, setM_same hR.ri]
theorem debit_back {av q a : Int} {L M : List Mk} (h1 : av ≤ top) (h : creditO av L q = .ok a M) : debitO a M q 0 = .ok av L ∧ a + sm M = av + sm L + q ∧ Rt av L ∧ Rt a M := by
  obtain ⟨hR, hq, hR', hs, rfl, rfl⟩ := credit_ok h1 h
  have e0 := (mq_gt hR.ri (Int.le_refl 0)).1
  have h0 := hR.av0
  refine ⟨?_, hs, hR, hR'⟩
  unfold debitO
  rw [bg_rt hR' hq]
  dsimp only
  rw [e0, if_neg (by omega), if_neg (by omega), if_neg (by omega), show av + q - (q - 0) = av by omega]
  have := setM_same (n := 0) hR.ri
  rw [e0] at this
  rw [this]
theorem totV_rt {av : Int} {L : List Mk} (h : Rt av L) : totV av L = av + sm L := if_pos ((ck_right h.top).2 h)
end Go.Proofs.YtmebomifakmkbabDoor
