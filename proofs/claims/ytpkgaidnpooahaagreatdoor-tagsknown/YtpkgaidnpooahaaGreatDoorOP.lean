/-
  My own text: open, the first lines of a text and the ends of its open blocks.
-/
import Derived.Test.YtpkgaidnpooahaaGreatDoorQP
import Derived.Deep.RegionHeld3
import Derived.Deep.RegionWith
namespace Go.Proofs.YtpkgaidnpooahaaGreatDoor
open Go.RowKit Go.Extern

theorem Tryz.infoS : (Tryz.prog.info? 9).map (fun i => (i.zero, i.size, i.bytes)) = some (some (.string ⟨#[]⟩), 1, 16) := by kernel_rfl
def sv (l : List (List UInt8)) : List Value := l.map fun x => .string ⟨x.toArray⟩
theorem wpS1 {w : World} {o : Oper} {a : Act} {K : Act → World → Prop} {Q : Exit → Act → World → Prop} (s x : Operand) (ho : o.op = .call { callee := .builtin .append, args := #[s, x], argTypes := #[33, 33] }) (B : Nat) (v : Value) (n : Nat) (xs : List Value) (p : List UInt8) (b : Nat)
    (hs : a.eval s = v) (hx : a.eval x = .slice (some ⟨b, 0, none⟩) 1 1) (hown : w.ownsRow B 9 1 v n xs) (hc0 : w.cell? ⟨b, 0, none⟩ = some (.string ⟨p.toArray⟩)) (hn : n ≤ 2097152) (hB : B ≤ w.heap.size)
    (h : ∀ v' w', w'.ownsRow B 9 1 v' (n + 1) (xs ++ [.string ⟨p.toArray⟩]) → w.grownBy w' v.ownBlock → K (a.put o.dst v') w') : o.wp Tryz.prog a w K Q := by
  obtain ⟨i0, hi, hz0, hz1, hz2⟩ := info_parts Tryz.infoS
  refine wp_append_own _ s x 33 ho B 9 i0 (.string ⟨#[]⟩) 1 16 Tryz.underlying33 hi hz0 hz1 hz2 rfl (by decide) v n xs hs hown ⟨b, 0, none⟩ 1 1 [.string ⟨p.toArray⟩] hx rfl ?_ ?_ (by unfold maxLen; omega) (by omega) hB (fun v' w' h1 h2 _ => h v' w' h1 h2)
  · intro j u hj
    match j, hj with
    | 0, hj => simp at hj; subst hj; simpa [Addr.add] using hc0
  · intro u hu
    simp only [List.mem_cons, List.not_mem_nil, or_false] at hu
    subst hu; rfl
theorem sc_len (T : List UInt8) : ∀ (j b : Nat) (S : List (List UInt8)), (sc T j b S).2.length ≤ S.length + j := by
  intro j
  induction j with
  | zero => intro b S; exact Nat.le_refl _
  | succ j ih =>
    intro b S
    rw [sc]
    split
    · refine Nat.le_trans (ih _ _) ?_
      have : (scS (ownL T b) S).length ≤ S.length + 1 := by
        unfold scS
        split
        · simp
        · split
          · simp; omega
          · omega
      omega
    · simp
theorem scS_short {tx : List UInt8} {S : List (List UInt8)} (h : ¬ 5 < tx.length) : scS tx S = S := by unfold scS; rw [if_neg (fun e => h e.1), if_neg (fun e => h e.1)]
theorem scS_R {tx : List UInt8} {S : List (List UInt8)} (h : 5 < tx.length) (h2 : tx.take 5 = [58, 49, 54, 82, 58]) : scS tx S = tx.drop 5 :: S := by unfold scS; rw [if_pos ⟨h, h2⟩]
theorem scS_S {tx : List UInt8} {S : List (List UInt8)} (h : 5 < tx.length) (h2 : tx.take 5 = [58, 49, 54, 83, 58]) : scS tx S = S.tail := by unfold scS; rw [if_neg (fun e => absurd e.2 (by rw [h2]; decide)), if_pos ⟨h, h2⟩]
theorem scS_other {tx : List UInt8} {S : List (List UInt8)} (h : tx.take 5 ≠ [58, 49, 54, 82, 58]) (h2 : tx.take 5 ≠ [58, 49, 54, 83, 58]) : scS tx S = S := by unfold scS; rw [if_neg (fun e => h e.2), if_neg (fun e => h2 e.2)]
theorem row_shape {w : World} {B : Nat} {e : TypeId} {k : Nat} {v : Value} {n : Nat} {xs : List Value} (h : w.ownsRow B e k v n xs) : ∃ a cap, v = .slice a n cap := by
  rcases h.2 with ⟨rfl, rfl⟩ | ⟨g, cap, cur, rfl, _⟩
  · exact ⟨none, 0, rfl⟩
  · exact ⟨_, cap, rfl⟩
theorem row_cap {w : World} {B : Nat} {e : TypeId} {k : Nat} {a : Option Addr} {cap m : Nat} {n : Nat} {xs : List Value} (h : w.ownsRow B e k (.slice a m cap) n xs) : n ≤ cap := by
  rcases h.2 with ⟨h1, rfl⟩ | ⟨g, c, cur, h1, _, _, h3, h4, _⟩
  · injection h1 with _ _ h2; subst h2; exact Nat.le_refl _
  · injection h1 with _ _ h2; subst h2; exact h3
theorem row_pop {w : World} {B : Nat} {a : Option Addr} {cap : Nat} {top : List UInt8} {S : List (List UInt8)} (h : w.ownsRow B 9 1 (.slice a (top :: S).length cap) (top :: S).length (sv (top :: S).reverse)) : w.ownsRow B 9 1 (.slice a S.length cap) S.length (sv S.reverse) := by
  rcases h.2 with ⟨_, h0⟩ | ⟨g, c, cur, hv, hb, hh, h3, h4, h5, h6⟩
  · simp at h0
  · injection hv with e1 _ e2
    subst e1; subst e2
    rw [List.length_cons] at h3
    refine ⟨by simp [sv], .inr ⟨g, cap, cur, rfl, hb, hh, by omega, h4, h5, ?_⟩⟩
    have e := congrArg (List.take S.length) h6
    rw [List.take_take, List.length_cons, show min S.length ((S.length + 1) * 1) = S.length * 1 by omega] at e
    rw [e, List.reverse_cons]
    unfold sv
    rw [List.map_append, List.take_left' (by simp)]
theorem sc_mem (T : List UInt8) : ∀ (j b : Nat) (S : List (List UInt8)) (x : List UInt8), x ∈ (sc T j b S).2 → x ∈ S ∨ x.length ≤ T.length := by
  intro j
  induction j with
  | zero => intro b S x h; exact .inl h
  | succ j ih =>
    intro b S x h
    rw [sc] at h
    split at h
    · rcases ih _ _ _ h with h | h
      · unfold scS at h
        split at h
        · rcases List.mem_cons.1 h with rfl | h
          · right
            have := own_len T b
            rw [List.length_drop]; omega
          · exact .inl h
        · split at h
          · exact .inl (List.mem_of_mem_tail h)
          · exact .inl h
      · exact .inr h
    · exact .inl h
theorem row_at {w : World} {B : Nat} {a : Option Addr} {cap : Nat} {S : List (List UInt8)} (h : w.ownsRow B 9 1 (.slice a S.length cap) S.length (sv S.reverse)) (m : Nat) (hm : m < S.length) : ∃ g nm, a = some ⟨g, 0, none⟩ ∧ Hid (S[S.length - (m + 1)]? = some nm) ∧ w.cell? ⟨g, m, none⟩ = some (.string ⟨nm.toArray⟩) ∧ nm ∈ S := by
  rcases h.2 with ⟨_, h0⟩ | ⟨g, c, cur, hv, _⟩
  · omega
  · have ha : a = some ⟨g, 0, none⟩ := by injection hv
    subst ha
    have hi : S.length - (m + 1) < S.length := by omega
    refine ⟨g, S[S.length - (m + 1)], rfl, hide (List.getElem?_eq_getElem hi), ?_, List.getElem_mem hi⟩
    have hc := World.ownsRow.cells h rfl m (.string ⟨(S[S.length - (m + 1)]).toArray⟩) (by
      unfold sv
      rw [List.getElem?_map, List.getElem?_reverse hm, show S.length - 1 - m = S.length - (m + 1) by omega, List.getElem?_eq_getElem hi]; rfl)
    rw [Addr.add_lit, Nat.zero_add] at hc
    exact hc
set_option maxRecDepth 100000 in
set_option maxHeartbeats 4000000 in
theorem open_any (T : List UInt8) (j : Nat) (w : World) (hT : T.length ≤ 1048576) (hj : j ≤ 1048577) :
    Calls Tryz.prog 34 #[.string ⟨T.toArray⟩, .int .i64 (j : Int)] w fun e w' => e = .returned (.string ⟨(T.take (sc T j 0 []).1 ++ cl (sc T j 0 []).2).toArray⟩) ∧ Below w.heap.size w w' := by
  go_enter Tryz.func34, Tryz.ntmps34
  go_wp2_with fail
  go_loopw [5, 6, 7] (fun v f k wr => ∃ (i F : Nat) (S : List (List UInt8)) (a : Option Addr) (cap : Nat), i ≤ j ∧ F ≤ T.length + 1 ∧ v = .slice a S.length cap ∧ f = .int .i64 (F : Int) ∧ k = .int .i64 (i : Int) ∧ Hid (sc T i 0 [] = (min F T.length, S)) ∧ Hid (S.length ≤ i) ∧ Hid (wr.ownsRow w.heap.size 9 1 v S.length (sv S.reverse)) ∧ Hid (Below w.heap.size w wr)) (fun _ _ k _ => j - (intOf k).toNat)
  case atStart => exact ⟨0, 0, [], none, 0, by omega, by omega, rfl, rfl, rfl, hide (by simp [sc]), hide (by simp), hide ⟨by simp [sv], .inl ⟨rfl, rfl⟩⟩, hide (Below.refl _ _)⟩
  case round =>
    obtain ⟨i, F, S, a, cap, hi, hF, rfl, rfl, rfl, HS, HL, HO, HB⟩ := hrel
    by_cases hgo : i < j ∧ F < T.length
    · obtain ⟨hlt, hlt2⟩ := hgo
      obtain ⟨tx, Htx⟩ : ∃ tx, Hid (tx = ownL T F) := ⟨_, hide rfl⟩
      have hL : F + tx.length ≤ T.length := by rw [Htx.out]; have := own_len T F; omega
      have HBy : Hid (∀ m, m < tx.length → T.getD (F + m) 0 ≠ 10) := hide (fun m hm => by rw [Htx.out] at hm; exact (own_byte hm).2)
      have HSt : Hid (F + tx.length < T.length → T.getD (F + tx.length) 0 = 10) := hide (by rw [Htx.out]; exact own_stop)
      have HN : Hid (sc T (i + 1) 0 [] = (min (F + tx.length + 1) T.length, scS tx S)) := hide (by
        rw [sc_add, HS.out]
        show sc T (0 + 1) (min F T.length) S = _
        rw [show min F T.length = F by omega, sc, if_pos hlt2, ← Htx.out]
        show (nxtB T F, scS tx S) = _
        unfold nxtB; rw [← Htx.out])
      have hsl : (⟨T.toArray⟩ : ByteArray).extract F (F + tx.length) = ⟨tx.toArray⟩ := by
        have e : tx = (T.drop F).take tx.length := by rw [Htx.out]; exact own_is.symm
        conv => rhs; rw [e]
        apply ByteArray.ext
        simp [List.extract_eq_take_drop]
      have hSl : S.length ≤ 1048577 := by have := HL.out; omega
      have hbs := HB.out.size
      clear HS Htx
      go_wp2_with fail
      go_loop [8] (fun t => ∃ z : Nat, F ≤ z ∧ z ≤ F + tx.length ∧ t = .int .i64 (z : Int)) (fun t => T.length - (intOf t).toNat)
      case atStart => exact ⟨F, Nat.le_refl _, by omega, rfl⟩
      case round =>
        obtain ⟨z, hz1, hz2, rfl⟩ := hrel
        by_cases hz : z < F + tx.length
        · have hlt3 : z < T.length := by omega
          have hs1 : z < (⟨T.toArray⟩ : ByteArray).size := by rw [bytes_size]; exact hlt3
          obtain ⟨c, hc, Hc⟩ : ∃ c, (⟨T.toArray⟩ : ByteArray)[z]'hs1 = c ∧ Hid (T.getD z 0 = c) := ⟨_, rfl, by rw [getD_at hlt3]; exact hide rfl⟩
          have hcb : ((c.toNat : Int) == 10) = false := by
            have h1 := HBy.out (z - F) (by omega)
            rw [show F + (z - F) = z by omega, Hc.out] at h1
            rw [beq_eq_false_iff_ne]
            intro e
            exact h1 (by apply UInt8.toNat_inj.1; show c.toNat = 10; omega)
          go_wp2_with fail
          go_round
          case rel => exact ⟨z + 1, by omega, by omega, by go_num⟩
          case measure => simp [intOf]; omega
        · obtain rfl : z = F + tx.length := by omega
          by_cases hlt3 : F + tx.length < T.length
          · have hs1 : F + tx.length < (⟨T.toArray⟩ : ByteArray).size := by rw [bytes_size]; exact hlt3
            obtain ⟨c, hc, Hc⟩ : ∃ c, (⟨T.toArray⟩ : ByteArray)[F + tx.length]'hs1 = c ∧ Hid (T.getD (F + tx.length) 0 = c) := ⟨_, rfl, by rw [getD_at hlt3]; exact hide rfl⟩
            have hcb : ((c.toNat : Int) == 10) = true := by
              have h1 := HSt.out hlt3
              rw [Hc.out] at h1
              rw [h1]; rfl
            clear HBy HSt
            by_cases h5 : 5 < tx.length
            · obtain ⟨hd, hsh, Hhd⟩ : ∃ hd : List UInt8, (⟨tx.toArray⟩ : ByteArray).extract 0 5 = ⟨hd.toArray⟩ ∧ Hid (hd = tx.take 5) := ⟨tx.take 5, by apply ByteArray.ext; simp, hide rfl⟩
              by_cases hR : hd = [58, 49, 54, 82, 58]
              · have hRb : (hd == [58, 49, 54, 82, 58]) = true := by rw [hR]; rfl
                have hSb : (hd == [58, 49, 54, 83, 58]) = false := by rw [hR]; rfl
                have HX : Hid (scS tx S = tx.drop 5 :: S) := hide (scS_R h5 (by rw [← Hhd.out]; exact hR))
                clear hR Hhd
                obtain ⟨nm, hs5, Hnm⟩ : ∃ nm : List UInt8, (⟨tx.toArray⟩ : ByteArray).extract 5 tx.length = ⟨nm.toArray⟩ ∧ Hid (nm = tx.drop 5) := ⟨tx.drop 5, by apply ByteArray.ext; simp; exact List.take_of_length_le (by simp), hide rfl⟩
                go_wp2_with (at_builtin; refine BigFrame.wpList_want (by rfl) ?_; intro K hK; refine wpS1 _ _ rfl w.heap.size _ _ _ nm _ rfl rfl (HO.out.alloc _) ?c1 ?c2 ?c3 (fun v2 W2 hO2 hg2 => hK _ _ ?_))
                try (case c1 => simp)
                case c2 => omega
                case c3 => (first | omega | (simp; omega))
                have HO3 : Hid (W2.ownsRow w.heap.size 9 1 v2 (nm :: S).length (sv (nm :: S).reverse)) := hide (by rw [List.reverse_cons]; unfold sv; rw [List.map_append]; exact hO2)
                have HB3 : Hid (Below w.heap.size w W2) := hide ((HB.out.alloc hbs _).grown hg2 (Nat.le_trans hbs (by simp)) (fun g e => (World.ownsRow.lt HO.out g e).1))
                obtain ⟨a2, cap2, rfl⟩ := row_shape hO2
                clear hO2 hg2 HO HB
                go_wp2_with fail
                go_roundw
                case rel => exact ⟨i + 1, F + tx.length + 1, nm :: S, a2, cap2, by omega, by omega, rfl, by go_num, by go_num, hide (by rw [HN.out, HX.out, Hnm.out]), hide (by have := HL.out; simp; omega), HO3, HB3⟩
                case measure => simp [intOf]; omega
              · have hRb : (hd == [58, 49, 54, 82, 58]) = false := by rw [beq_eq_false_iff_ne]; exact hR
                by_cases hS : hd = [58, 49, 54, 83, 58]
                · have hSb : (hd == [58, 49, 54, 83, 58]) = true := by rw [hS]; rfl
                  have HX : Hid (scS tx S = S.tail) := hide (scS_S h5 (by rw [← Hhd.out]; exact hS))
                  clear hR hS Hhd
                  cases S with
                  | nil =>
                    go_wp2_with fail
                    go_roundw
                    case rel => exact ⟨i + 1, F + tx.length + 1, [], a, cap, by omega, by omega, rfl, by go_num, by go_num, hide (by rw [HN.out, HX.out]; rfl), hide (by simp), HO, HB⟩
                    case measure => simp [intOf]; omega
                  | cons top S =>
                    have HO3 := hide (row_pop HO.out)
                    have hcp := row_cap HO.out
                    rw [List.length_cons] at hSl hcp
                    clear HO
                    go_wp2_with fail
                    go_roundw
                    case rel => exact ⟨i + 1, F + tx.length + 1, S, a, cap, by omega, by omega, rfl, by go_num, by go_num, hide (by rw [HN.out, HX.out]; rfl), hide (by have := HL.out; simp at this; omega), HO3, HB⟩
                    case measure => simp [intOf]; omega
                · have hSb : (hd == [58, 49, 54, 83, 58]) = false := by rw [beq_eq_false_iff_ne]; exact hS
                  have HX : Hid (scS tx S = S) := hide (scS_other (by rw [← Hhd.out]; exact hR) (by rw [← Hhd.out]; exact hS))
                  clear hR hS Hhd
                  go_wp2_with fail
                  go_roundw
                  case rel => exact ⟨i + 1, F + tx.length + 1, S, a, cap, by omega, by omega, rfl, by go_num, by go_num, hide (by rw [HN.out, HX.out]), hide (by have := HL.out; omega), HO, HB⟩
                  case measure => simp [intOf]; omega
            · have HX : Hid (scS tx S = S) := hide (scS_short h5)
              go_wp2_with fail
              go_roundw
              case rel => exact ⟨i + 1, F + tx.length + 1, S, a, cap, by omega, by omega, rfl, by go_num, by go_num, hide (by rw [HN.out, HX.out]), hide (by have := HL.out; omega), HO, HB⟩
              case measure => simp [intOf]; omega
          · skip
            clear HBy HSt
            by_cases h5 : 5 < tx.length
            · obtain ⟨hd, hsh, Hhd⟩ : ∃ hd : List UInt8, (⟨tx.toArray⟩ : ByteArray).extract 0 5 = ⟨hd.toArray⟩ ∧ Hid (hd = tx.take 5) := ⟨tx.take 5, by apply ByteArray.ext; simp, hide rfl⟩
              by_cases hR : hd = [58, 49, 54, 82, 58]
              · have hRb : (hd == [58, 49, 54, 82, 58]) = true := by rw [hR]; rfl
                have hSb : (hd == [58, 49, 54, 83, 58]) = false := by rw [hR]; rfl
                have HX : Hid (scS tx S = tx.drop 5 :: S) := hide (scS_R h5 (by rw [← Hhd.out]; exact hR))
                clear hR Hhd
                obtain ⟨nm, hs5, Hnm⟩ : ∃ nm : List UInt8, (⟨tx.toArray⟩ : ByteArray).extract 5 tx.length = ⟨nm.toArray⟩ ∧ Hid (nm = tx.drop 5) := ⟨tx.drop 5, by apply ByteArray.ext; simp; exact List.take_of_length_le (by simp), hide rfl⟩
                go_wp2_with (at_builtin; refine BigFrame.wpList_want (by rfl) ?_; intro K hK; refine wpS1 _ _ rfl w.heap.size _ _ _ nm _ rfl rfl (HO.out.alloc _) ?c1 ?c2 ?c3 (fun v2 W2 hO2 hg2 => hK _ _ ?_))
                try (case c1 => simp)
                case c2 => omega
                case c3 => (first | omega | (simp; omega))
                have HO3 : Hid (W2.ownsRow w.heap.size 9 1 v2 (nm :: S).length (sv (nm :: S).reverse)) := hide (by rw [List.reverse_cons]; unfold sv; rw [List.map_append]; exact hO2)
                have HB3 : Hid (Below w.heap.size w W2) := hide ((HB.out.alloc hbs _).grown hg2 (Nat.le_trans hbs (by simp)) (fun g e => (World.ownsRow.lt HO.out g e).1))
                obtain ⟨a2, cap2, rfl⟩ := row_shape hO2
                clear hO2 hg2 HO HB
                go_wp2_with fail
                go_roundw
                case rel => exact ⟨i + 1, F + tx.length + 1, nm :: S, a2, cap2, by omega, by omega, rfl, by go_num, by go_num, hide (by rw [HN.out, HX.out, Hnm.out]), hide (by have := HL.out; simp; omega), HO3, HB3⟩
                case measure => simp [intOf]; omega
              · have hRb : (hd == [58, 49, 54, 82, 58]) = false := by rw [beq_eq_false_iff_ne]; exact hR
                by_cases hS : hd = [58, 49, 54, 83, 58]
                · have hSb : (hd == [58, 49, 54, 83, 58]) = true := by rw [hS]; rfl
                  have HX : Hid (scS tx S = S.tail) := hide (scS_S h5 (by rw [← Hhd.out]; exact hS))
                  clear hR hS Hhd
                  cases S with
                  | nil =>
                    go_wp2_with fail
                    go_roundw
                    case rel => exact ⟨i + 1, F + tx.length + 1, [], a, cap, by omega, by omega, rfl, by go_num, by go_num, hide (by rw [HN.out, HX.out]; rfl), hide (by simp), HO, HB⟩
                    case measure => simp [intOf]; omega
                  | cons top S =>
                    have HO3 := hide (row_pop HO.out)
                    have hcp := row_cap HO.out
                    rw [List.length_cons] at hSl hcp
                    clear HO
                    go_wp2_with fail
                    go_roundw
                    case rel => exact ⟨i + 1, F + tx.length + 1, S, a, cap, by omega, by omega, rfl, by go_num, by go_num, hide (by rw [HN.out, HX.out]; rfl), hide (by have := HL.out; simp at this; omega), HO3, HB⟩
                    case measure => simp [intOf]; omega
                · have hSb : (hd == [58, 49, 54, 83, 58]) = false := by rw [beq_eq_false_iff_ne]; exact hS
                  have HX : Hid (scS tx S = S) := hide (scS_other (by rw [← Hhd.out]; exact hR) (by rw [← Hhd.out]; exact hS))
                  clear hR hS Hhd
                  go_wp2_with fail
                  go_roundw
                  case rel => exact ⟨i + 1, F + tx.length + 1, S, a, cap, by omega, by omega, rfl, by go_num, by go_num, hide (by rw [HN.out, HX.out]), hide (by have := HL.out; omega), HO, HB⟩
                  case measure => simp [intOf]; omega
            · have HX : Hid (scS tx S = S) := hide (scS_short h5)
              go_wp2_with fail
              go_roundw
              case rel => exact ⟨i + 1, F + tx.length + 1, S, a, cap, by omega, by omega, rfl, by go_num, by go_num, hide (by rw [HN.out, HX.out]), hide (by have := HL.out; omega), HO, HB⟩
              case measure => simp [intOf]; omega
    · have HE : Hid (sc T j 0 [] = (min F T.length, S)) := hide (by
        by_cases hij : i = j
        · rw [← hij]; exact HS.out
        · have hF2 : ¬ F < T.length := fun h => hgo ⟨by omega, h⟩
          rw [show j = i + (j - i) by omega, sc_add, HS.out]
          exact sc_end (by show ¬ min F T.length < T.length; omega) S _)
      have hSl : S.length ≤ 1048577 := by have := HL.out; omega
      have HM : Hid (∀ x ∈ S, x.length ≤ 1048576) := hide (fun x hx => by
        have hx2 : x ∈ (sc T j 0 []).2 := by rw [HE.out]; exact hx
        rcases sc_mem T j 0 [] x hx2 with h | h
        · cases h
        · omega)
      clear HS HL
      by_cases hlt : i < j
      · have hlt2 : ¬ F < T.length := fun h => hgo ⟨hlt, h⟩
        clear hgo
        by_cases hF2 : T.length < F
        · skip
          obtain ⟨P, hsl, HP⟩ : ∃ P : List UInt8, (⟨T.toArray⟩ : ByteArray).extract 0 T.length = ⟨P.toArray⟩ ∧ Hid (P = T.take (sc T j 0 []).1) := ⟨T.take T.length, by apply ByteArray.ext; simp, hide (by rw [HE.out]; congr 1; show T.length = min F T.length; omega)⟩
          have hPl : P.length ≤ 1048576 := by rw [HP.out, List.length_take]; omega
          go_wp2_with fail
          go_loop [10, 11] (fun o x => ∃ (r : Nat) (q : List UInt8), r ≤ S.length ∧ o = .string ⟨q.toArray⟩ ∧ ((r = 0 ∧ x = .int .i64 (-1)) ∨ ∃ m : Nat, r = m + 1 ∧ x = .int .i64 (m : Int)) ∧ q.length + r * 1048582 ≤ 1048576 + S.length * 1048582 ∧ Hid (q = P ++ cl (S.take (S.length - r)))) (fun _ x => (intOf x + 1).toNat)
          case atStart =>
            refine ⟨S.length, P, Nat.le_refl _, rfl, ?_, by omega, hide (by simp [cl])⟩
            cases hS : S.length with
            | zero => exact .inl ⟨rfl, by go_num⟩
            | succ m => exact .inr ⟨m, rfl, by go_num⟩
          case round =>
            obtain ⟨r, q, hr, rfl, hx, hql, HQ⟩ := hrel
            rcases hx with ⟨rfl, rfl⟩ | ⟨m, rfl, rfl⟩
            · go_wp2_with fail
              go_ret
              exact ⟨congrArg (fun l : List UInt8 => Ending.returned (.string ⟨l.toArray⟩)) (by rw [HQ.out, HP.out, HE.out]; simp), HB.out⟩
            · obtain ⟨g, nm, rfl, HN, hcell, hmem⟩ := row_at HO.out m (by omega)
              have hnl := HM.out nm hmem
              clear hmem
              have hm2 : m < S.length := by omega
              have hge : (0 : Int) ≤ (m : Int) := by omega
              have hlt3 : (m : Int) < (S.length : Int) := by omega
              go_wp2_with fail
              go_round
              case rel =>
                refine ⟨m, q ++ bC nm, by omega, ?_, ?_, by simp [bC]; omega, hide ?_⟩
                · exact congrArg Value.string (by apply ByteArray.ext; simp [bC, ByteArray.data_append])
                · cases m with
                  | zero => exact .inl ⟨rfl, by go_num⟩
                  | succ m => exact .inr ⟨m, rfl, by go_num⟩
                · rw [HQ.out, List.append_assoc]
                  congr 1
                  have e : S.length - m = (S.length - (m + 1)) + 1 := by omega
                  rw [e, List.take_add_one, HN.out]
                  simp [cl]
              case measure => simp [intOf]
        · skip
          obtain ⟨P, hsl, HP⟩ : ∃ P : List UInt8, (⟨T.toArray⟩ : ByteArray).extract 0 F = ⟨P.toArray⟩ ∧ Hid (P = T.take (sc T j 0 []).1) := ⟨T.take F, by apply ByteArray.ext; simp, hide (by rw [HE.out]; congr 1; show F = min F T.length; omega)⟩
          have hPl : P.length ≤ 1048576 := by rw [HP.out, List.length_take]; omega
          go_wp2_with fail
          go_loop [10, 11] (fun o x => ∃ (r : Nat) (q : List UInt8), r ≤ S.length ∧ o = .string ⟨q.toArray⟩ ∧ ((r = 0 ∧ x = .int .i64 (-1)) ∨ ∃ m : Nat, r = m + 1 ∧ x = .int .i64 (m : Int)) ∧ q.length + r * 1048582 ≤ 1048576 + S.length * 1048582 ∧ Hid (q = P ++ cl (S.take (S.length - r)))) (fun _ x => (intOf x + 1).toNat)
          case atStart =>
            refine ⟨S.length, P, Nat.le_refl _, rfl, ?_, by omega, hide (by simp [cl])⟩
            cases hS : S.length with
            | zero => exact .inl ⟨rfl, by go_num⟩
            | succ m => exact .inr ⟨m, rfl, by go_num⟩
          case round =>
            obtain ⟨r, q, hr, rfl, hx, hql, HQ⟩ := hrel
            rcases hx with ⟨rfl, rfl⟩ | ⟨m, rfl, rfl⟩
            · go_wp2_with fail
              go_ret
              exact ⟨congrArg (fun l : List UInt8 => Ending.returned (.string ⟨l.toArray⟩)) (by rw [HQ.out, HP.out, HE.out]; simp), HB.out⟩
            · obtain ⟨g, nm, rfl, HN, hcell, hmem⟩ := row_at HO.out m (by omega)
              have hnl := HM.out nm hmem
              clear hmem
              have hm2 : m < S.length := by omega
              have hge : (0 : Int) ≤ (m : Int) := by omega
              have hlt3 : (m : Int) < (S.length : Int) := by omega
              go_wp2_with fail
              go_round
              case rel =>
                refine ⟨m, q ++ bC nm, by omega, ?_, ?_, by simp [bC]; omega, hide ?_⟩
                · exact congrArg Value.string (by apply ByteArray.ext; simp [bC, ByteArray.data_append])
                · cases m with
                  | zero => exact .inl ⟨rfl, by go_num⟩
                  | succ m => exact .inr ⟨m, rfl, by go_num⟩
                · rw [HQ.out, List.append_assoc]
                  congr 1
                  have e : S.length - m = (S.length - (m + 1)) + 1 := by omega
                  rw [e, List.take_add_one, HN.out]
                  simp [cl]
              case measure => simp [intOf]
      · clear hgo
        by_cases hF2 : T.length < F
        · skip
          obtain ⟨P, hsl, HP⟩ : ∃ P : List UInt8, (⟨T.toArray⟩ : ByteArray).extract 0 T.length = ⟨P.toArray⟩ ∧ Hid (P = T.take (sc T j 0 []).1) := ⟨T.take T.length, by apply ByteArray.ext; simp, hide (by rw [HE.out]; congr 1; show T.length = min F T.length; omega)⟩
          have hPl : P.length ≤ 1048576 := by rw [HP.out, List.length_take]; omega
          go_wp2_with fail
          go_loop [10, 11] (fun o x => ∃ (r : Nat) (q : List UInt8), r ≤ S.length ∧ o = .string ⟨q.toArray⟩ ∧ ((r = 0 ∧ x = .int .i64 (-1)) ∨ ∃ m : Nat, r = m + 1 ∧ x = .int .i64 (m : Int)) ∧ q.length + r * 1048582 ≤ 1048576 + S.length * 1048582 ∧ Hid (q = P ++ cl (S.take (S.length - r)))) (fun _ x => (intOf x + 1).toNat)
          case atStart =>
            refine ⟨S.length, P, Nat.le_refl _, rfl, ?_, by omega, hide (by simp [cl])⟩
            cases hS : S.length with
            | zero => exact .inl ⟨rfl, by go_num⟩
            | succ m => exact .inr ⟨m, rfl, by go_num⟩
          case round =>
            obtain ⟨r, q, hr, rfl, hx, hql, HQ⟩ := hrel
            rcases hx with ⟨rfl, rfl⟩ | ⟨m, rfl, rfl⟩
            · go_wp2_with fail
              go_ret
              exact ⟨congrArg (fun l : List UInt8 => Ending.returned (.string ⟨l.toArray⟩)) (by rw [HQ.out, HP.out, HE.out]; simp), HB.out⟩
            · obtain ⟨g, nm, rfl, HN, hcell, hmem⟩ := row_at HO.out m (by omega)
              have hnl := HM.out nm hmem
              clear hmem
              have hm2 : m < S.length := by omega
              have hge : (0 : Int) ≤ (m : Int) := by omega
              have hlt3 : (m : Int) < (S.length : Int) := by omega
              go_wp2_with fail
              go_round
              case rel =>
                refine ⟨m, q ++ bC nm, by omega, ?_, ?_, by simp [bC]; omega, hide ?_⟩
                · exact congrArg Value.string (by apply ByteArray.ext; simp [bC, ByteArray.data_append])
                · cases m with
                  | zero => exact .inl ⟨rfl, by go_num⟩
                  | succ m => exact .inr ⟨m, rfl, by go_num⟩
                · rw [HQ.out, List.append_assoc]
                  congr 1
                  have e : S.length - m = (S.length - (m + 1)) + 1 := by omega
                  rw [e, List.take_add_one, HN.out]
                  simp [cl]
              case measure => simp [intOf]
        · skip
          obtain ⟨P, hsl, HP⟩ : ∃ P : List UInt8, (⟨T.toArray⟩ : ByteArray).extract 0 F = ⟨P.toArray⟩ ∧ Hid (P = T.take (sc T j 0 []).1) := ⟨T.take F, by apply ByteArray.ext; simp, hide (by rw [HE.out]; congr 1; show F = min F T.length; omega)⟩
          have hPl : P.length ≤ 1048576 := by rw [HP.out, List.length_take]; omega
          go_wp2_with fail
          go_loop [10, 11] (fun o x => ∃ (r : Nat) (q : List UInt8), r ≤ S.length ∧ o = .string ⟨q.toArray⟩ ∧ ((r = 0 ∧ x = .int .i64 (-1)) ∨ ∃ m : Nat, r = m + 1 ∧ x = .int .i64 (m : Int)) ∧ q.length + r * 1048582 ≤ 1048576 + S.length * 1048582 ∧ Hid (q = P ++ cl (S.take (S.length - r)))) (fun _ x => (intOf x + 1).toNat)
          case atStart =>
            refine ⟨S.length, P, Nat.le_refl _, rfl, ?_, by omega, hide (by simp [cl])⟩
            cases hS : S.length with
            | zero => exact .inl ⟨rfl, by go_num⟩
            | succ m => exact .inr ⟨m, rfl, by go_num⟩
          case round =>
            obtain ⟨r, q, hr, rfl, hx, hql, HQ⟩ := hrel
            rcases hx with ⟨rfl, rfl⟩ | ⟨m, rfl, rfl⟩
            · go_wp2_with fail
              go_ret
              exact ⟨congrArg (fun l : List UInt8 => Ending.returned (.string ⟨l.toArray⟩)) (by rw [HQ.out, HP.out, HE.out]; simp), HB.out⟩
            · obtain ⟨g, nm, rfl, HN, hcell, hmem⟩ := row_at HO.out m (by omega)
              have hnl := HM.out nm hmem
              clear hmem
              have hm2 : m < S.length := by omega
              have hge : (0 : Int) ≤ (m : Int) := by omega
              have hlt3 : (m : Int) < (S.length : Int) := by omega
              go_wp2_with fail
              go_round
              case rel =>
                refine ⟨m, q ++ bC nm, by omega, ?_, ?_, by simp [bC]; omega, hide ?_⟩
                · exact congrArg Value.string (by apply ByteArray.ext; simp [bC, ByteArray.data_append])
                · cases m with
                  | zero => exact .inl ⟨rfl, by go_num⟩
                  | succ m => exact .inr ⟨m, rfl, by go_num⟩
                · rw [HQ.out, List.append_assoc]
                  congr 1
                  have e : S.length - m = (S.length - (m + 1)) + 1 := by omega
                  rw [e, List.take_add_one, HN.out]
                  simp [cl]
              case measure => simp [intOf]
end Go.Proofs.YtpkgaidnpooahaaGreatDoor
