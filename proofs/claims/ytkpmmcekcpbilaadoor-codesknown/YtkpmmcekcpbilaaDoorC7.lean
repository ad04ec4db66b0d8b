/-
  My own text: identifiers of legal entities: their check digits: the program's and the document's.
-/
import Derived.Test.YtkpmmcekcpbilaaDoorC5
import Derived.Test.YtkpmmcekcpbilaaDoorCLaw
namespace Go.Proofs.YtkpmmcekcpbilaaDoor
open Go.RowKit

def leiF : List UInt8 := [83, 83, 83, 83, 83, 83, 83, 83, 83, 83, 83, 83, 83, 83, 83, 83, 83, 83, 68, 68]
def leiH : List UInt8 := [83, 83, 83, 83, 83, 83, 83, 83, 83, 83, 83, 83, 83, 83, 83, 83, 83, 83]
theorem Tryd.size2 : (Tryd.prog.info? 64).map (·.size) = some 2 := by kernel_rfl
theorem Tryd.sizeLei : (Tryd.prog.info? 38).map (·.size) = some 20 := by kernel_rfl
theorem cel_two (ds : List Int) {n : Int} (h : chk2 ds = n) : cel (two ds) = #[.int .u8 (48 + n / 10), .int .u8 (48 + n % 10)] := by
  have h2 := two_nat ds
  have hb := chk2_b ds
  unfold cel two
  simp only [List.map_cons, List.map_nil, h2.1, h2.2]
  rw [← h]
  congr 2
  · congr 1; omega
  · congr 2; omega
theorem two_len (ds : List Int) : (two ds).length = 2 := rfl
theorem dig_zero {l : List UInt8} (h : ∀ c ∈ l, Sign c) : ∀ d ∈ spr l ++ [0, 0], 0 ≤ d ∧ d ≤ 9 := by
  intro d hd
  rcases List.mem_append.1 hd with h1 | h1
  · exact spr_dig h d h1
  · simp at h1; subst h1; omega
set_option maxRecDepth 100000 in
set_option maxHeartbeats 1000000 in
theorem leiTwo_any (l : List UInt8) (w : World) (hs : ∀ c ∈ l, Sign c) (hl : l.length ≤ 100) :
    Calls Tryd.prog 38 #[.string ⟨l.toArray⟩] w fun e w' => e = .returned (.agg (cel (two (spr l)))) ∧ Below w.heap.size w w' := by
  have HSG := hide hs
  have HDG := hide (dig_zero hs)
  have HSL := hide (spr_len l)
  clear hs
  have hb0 : Below w.heap.size w (w.alloc (.cells (cel (zer 2)) 64)) := (Below.refl _ _).alloc (Nat.le_refl _) _
  have hnew := alloc_new w (.cells (cel (zer 2)) 64)
  have HRB := hide (rm_b (spr l ++ [0, 0]))
  obtain ⟨R, HR⟩ : ∃ R, Hid (rm (spr l ++ [0, 0]) = R) := ⟨_, hide rfl⟩
  have HCT := hide (cel_two (spr l) (n := 98 - R) (by unfold chk2; rw [HR.out]))
  rw [HR.out] at HRB
  have hR := HRB.out
  rw [HCT.out]
  obtain ⟨i0, hi, hz0, hz1, hz2⟩ := info_parts Tryd.infoInt
  go_enter Tryd.func38, Tryd.ntmps38
  go_wp2_with fail
  refine (spread_any l _ HSG.out (by omega)).mono ?_
  rintro e w2 ⟨v, rfl, hown, hb2⟩
  have hsl : (spr l).length ≤ 200 := by have := HSL.out; omega
  have hblk := hide ((hb2.block _ (by simp)).trans hnew)
  have hB2 := hide (hb0.trans (hb2.mono hb0.size))
  have hsz : w.heap.size + 1 ≤ w2.heap.size := by have := hb2.size; simpa using this
  clear hb0 hnew hb2
  go_wp2_with (first
    | (at_builtin; refine wpList_append_own _ rfl _ _ 58 rfl _ 3 i0 (.int .i64 0) 1 8 Tryd.underlying58 hi hz0 hz1 hz2 rfl (by decide) _ _ _ rfl (hown.alloc _) ⟨_, 0, none⟩ 2 2 [.int .i64 0, .int .i64 0] rfl rfl ?c1 ?c2 ?c3 ?c4 ?c5 ?_)
    | go_in)
  case c1 =>
    intro j u hj
    match j, hj with
    | 0, hj => simp at hj; subst hj; simp [Addr.add]
    | 1, hj => simp at hj; subst hj; simp [Addr.add]
  case c2 => first | exact ⟨rfl, rfl⟩ | (intro u hu; simp at hu; subst hu; rfl)
  case c3 => unfold maxLen; omega
  case c4 => omega
  case c5 => simp; omega
  intro v' w3 hown' hgrow _
  have hB3 := hide ((hB2.out.alloc hB2.out.size (.cells #[.int .i64 0, .int .i64 0] 3)).grown hgrow (by have := hB2.out.size; simp; omega) (fun k hk => by have := (hown.lt k hk).1; simp at this; omega))
  have hri : Hid (RI w3 .i64 v' (spr l ++ [0, 0])) := hide (ri_of_owns (e := 3) (n := (spr l).length + 2) (B := w.heap.size + 1) (by rw [lv_app]; exact hown'))
  have hblk3 := hide (((hgrow.block w.heap.size (by simp; omega) (fun e => by have h1 := (hown.lt _ e.symm).1; exact absurd h1 (by simp))).trans (alloc_block hblk.out)))
  clear hown hgrow hown' hblk hB2
  go_wp2_with fail
  refine (remainder_any v' (spr l ++ [0, 0]) _ hri.out HDG.out (by simp; omega)).mono ?_
  rintro e w4 ⟨rfl, rfl⟩
  rw [HR.out]
  obtain ⟨hR0, hR1⟩ := hR
  go_wp2_with (refine wpList_store_row rfl 64 (.tmp 2) _ rfl w.heap.size #[.int .u8 (48 + (98 - R) / 10), .int .u8 (48 + (98 - R) % 10)] rfl rfl _ _ hblk3.out Tryd.size2 rfl (by simp [Value.oneCell']) ?_)
  exact bodyPost_ret (results_cell_row rfl _ _ w.heap.size 64 _ (0, 0) _ rfl (setRow_heap _ _ _ _ _ _ hblk3.out) Tryd.underlying64 rfl Tryd.size2) rfl ⟨rfl, below_setRow hB3.out (Nat.le_refl _) _⟩
/-- The check digits' text, empty beside an error. -/
def twoV (l : List UInt8) : List UInt8 := if (formR l leiH).1 = 0 then two (spr l) else []
theorem twoV_bad {l : List UInt8} (h : ¬ Form l leiH) : twoV l = [] := by unfold twoV; rw [if_neg (form_ne h)]
theorem twoV_ok {l : List UInt8} (h : Form l leiH) : twoV l = two (spr l) := by unfold twoV; rw [form_eq h]; rfl
theorem ret_sv {a c : List UInt8} {b d : Value} (h : a = c) (h2 : b = d) : Ending.returned (.tuple #[.string ⟨a.toArray⟩, b]) = .returned (.tuple #[.string ⟨c.toArray⟩, d]) := by rw [h, h2]
set_option maxRecDepth 100000 in
set_option maxHeartbeats 1000000 in
theorem leiDigits_any (l : List UInt8) (w : World) (hl : l.length ≤ 140737488355328) :
    Calls Tryd.prog 18 #[.string ⟨l.toArray⟩] w fun e w' => e = .returned (.tuple #[.string ⟨(twoV l).toArray⟩, errF (formR l leiH)]) ∧ Below w.heap.size w w' := by
  have HC := hide (check_any l leiH w hl)
  by_cases h : Form l leiH
  · rw [form_eq h, errF_ok] at HC ⊢
    rw [twoV_ok h]
    have hlen : l.length = 18 := h.1
    have HLD := hide (fun W : World => leiTwo_any l W (form_signs h) (by omega))
    clear h hlen
    obtain ⟨T, HT, HTL⟩ : ∃ T, Hid (two (spr l) = T) ∧ Hid (T.length = 2) := ⟨_, hide rfl, hide rfl⟩
    rw [HT.out] at HLD ⊢
    go_enter Tryd.func18, Tryd.ntmps18
    go_wp2_with fail
    refine HC.out.mono ?_
    rintro e w1 ⟨rfl, hb1⟩
    go_wp2_with fail
    refine (HLD.out _).mono ?_
    rintro e w2 ⟨rfl, hb2⟩
    have hB2 := hide (hb1.trans (hb2.mono hb1.size))
    clear hb1 hb2
    have hcv : (convert 53 9 (.slice (some ⟨w2.heap.size, 0, none⟩) 2 2)).run Tryd.prog (w2.alloc (.cells (cel T) 64)) = .ok (.string ⟨T.toArray⟩) (w2.alloc (.cells (cel T) 64)) := by
      have h := run_convert_bytes_back (P := Tryd.prog) (w2.alloc (.cells (cel T) 64)) 53 9 5 ⟨w2.heap.size, 0, none⟩ 2 T Tryd.underlying53 Tryd.underlying5 Tryd.underlying9 (fun j hj => by
        rw [Addr.add_mid, Nat.zero_add, cell_of_row _ _ j _ _ _ (alloc_new w2 _), cel_at hj, getD_at hj])
      rw [HTL.out] at h; exact h
    go_wp2_with (refine wpList_store_row rfl 64 (.tmp 5) _ rfl w2.heap.size (cel T) rfl rfl _ (cel (zer 2)) (alloc_new w2 _) (by rw [cel_size, HTL.out]; exact Tryd.size2) (by rw [cel_size, cel_size, HTL.out]; rfl) (cel_one _) ?_; rw [World.setRow_alloc_new])
    go_ret2
    exact ⟨rfl, hB2.out.alloc hB2.out.size _⟩
  · have HV := hide (twoV_bad h)
    obtain ⟨t, u, hev⟩ := errF_iface (form_ne h)
    rw [hev] at HC ⊢
    clear hev h
    go_enter Tryd.func18, Tryd.ntmps18
    go_wp2_with fail
    refine HC.out.mono ?_
    rintro e w1 ⟨rfl, hb1⟩
    go_wp2_with fail
    go_ret2
    exact ⟨ret_sv (a := []) HV.out.symm rfl, hb1⟩
set_option maxRecDepth 100000 in
set_option maxHeartbeats 1000000 in
theorem refLeiDigits_any (l : List UInt8) (w : World) (hl : l.length ≤ 140737488355328) :
    Calls Tryd.prog 17 #[.string ⟨l.toArray⟩] w fun e w' => e = .returned (.tuple #[.string ⟨(twoV l).toArray⟩, .int .i64 (formR l leiH).1, .int .i64 (formR l leiH).2]) ∧ Below w.heap.size w w' := by
  have HC := hide (has_any l leiH w hl)
  by_cases h : Form l leiH
  · rw [form_eq h] at HC ⊢
    rw [twoV_ok h]
    have hlen : l.length = 18 := h.1
    have HSG := hide (form_signs h)
    have HSL := hide (spr_len (l ++ [48, 48]))
    have HL2 : Hid ((l ++ [48, 48]).length = 20) := by show _ = _; rw [List.length_append, hlen]; rfl
    have HSS : Hid (∀ c ∈ l ++ [48, 48], Sign c) := hide (fun c hc => by
      rcases List.mem_append.1 hc with h1 | h1
      · exact HSG.out c h1
      · simp at h1; subst h1; exact .inl (by decide))
    have HE : Hid (spr (l ++ [48, 48]) = spr l ++ [0, 0]) := by show _ = _; rw [spr_app]; rfl
    have happ : (⟨l.toArray⟩ : ByteArray) ++ ⟨#[48, 48]⟩ = ⟨(l ++ [48, 48]).toArray⟩ := bytes_app l [48, 48]
    clear h hlen
    have HRB := hide (rm_b (spr l ++ [0, 0]))
    obtain ⟨R, HR⟩ : ∃ R, Hid (rm (spr l ++ [0, 0]) = R) := ⟨_, hide rfl⟩
    have HCT := hide (cel_two (spr l) (n := 98 - R) (by unfold chk2; rw [HR.out]))
    rw [HR.out] at HRB
    rw [← HE.out] at HR
    obtain ⟨hR0, hR1⟩ := HRB.out
    obtain ⟨T, HT, HTL⟩ : ∃ T, Hid (two (spr l) = T) ∧ Hid (T.length = 2) := ⟨_, hide rfl, hide rfl⟩
    rw [HT.out] at HCT ⊢
    clear HE HT
    generalize l ++ [48, 48] = L at *
    go_enter Tryd.func17, Tryd.ntmps17
    go_wp2_with fail
    refine HC.out.mono ?_
    rintro e w1 ⟨rfl, hb1⟩
    go_wp2_with fail
    refine (refSpread_any L _ HSS.out (by have := HL2.out; omega)).mono ?_
    rintro e w2 ⟨v, rfl, hown, hb2⟩
    have hri := hide (ri_of_owns hown)
    have hB2 := hide (hb1.trans (hb2.mono hb1.size))
    clear hown hb2 hb1
    go_wp2_with fail
    refine (refRemainder_any v (spr L) _ hri.out (spr_dig HSS.out) (by have := HSL.out; have := HL2.out; omega)).mono ?_
    rintro e w3 ⟨rfl, rfl⟩
    rw [HR.out]
    have hcv : (convert 53 9 (.slice (some ⟨w3.heap.size, 0, none⟩) 2 2)).run Tryd.prog (w3.alloc (.cells #[.int .u8 (48 + (98 - R) / 10), .int .u8 (48 + (98 - R) % 10)] 5)) = .ok (.string ⟨T.toArray⟩) (w3.alloc (.cells #[.int .u8 (48 + (98 - R) / 10), .int .u8 (48 + (98 - R) % 10)] 5)) := by
      rw [← HCT.out]
      have h := run_convert_bytes_back (P := Tryd.prog) (w3.alloc (.cells (cel T) 5)) 53 9 5 ⟨w3.heap.size, 0, none⟩ 2 T Tryd.underlying53 Tryd.underlying5 Tryd.underlying9 (fun j hj => by
        rw [Addr.add_mid, Nat.zero_add, cell_of_row _ _ j _ _ _ (alloc_new w3 _), cel_at hj, getD_at hj])
      rw [HTL.out] at h; exact h
    go_wp2_with fail
    go_ret3
    exact ⟨rfl, hB2.out.alloc hB2.out.size _⟩
  · have HV := hide (twoV_bad h)
    have HN := hide (form_ne h)
    obtain ⟨a, b, hab⟩ : ∃ a b, formR l leiH = (a, b) := ⟨_, _, rfl⟩
    rw [hab] at HC HN ⊢
    rw [HV.out]
    have hq : (a != 0) = true := by simpa using HN.out
    clear hab h HN HV
    go_enter Tryd.func17, Tryd.ntmps17
    go_wp2_with fail
    refine HC.out.mono ?_
    rintro e w1 ⟨rfl, hb1⟩
    go_wp2_with fail
    go_ret3
    exact ⟨rfl, hb1⟩
end Go.Proofs.YtkpmmcekcpbilaaDoor
