/-
  My own text: the document's Parse.
-/
import Derived.Test.YtpkgaidnpooahaaGreatDoorDP8
namespace Go.Proofs.YtpkgaidnpooahaaGreatDoor
open Go.RowKit Go.Extern

theorem res4 {fn : Func} {t u v x : Tmp} (h : fn.results = #[.tmp t, .tmp u, .tmp v, .tmp x]) (tmps : Array Value) (P : Program) (w : World) :
    (results fn tmps).run P w = .ok (.tuple #[tmps.getD t undef, tmps.getD u undef, tmps.getD v undef, tmps.getD x undef]) w := by
  simp [results, h]
theorem dln_no {s : DS} {tx : List UInt8} {no at_ : Int} (h : dln s tx = .bad no at_) : no ≠ 0 := by
  unfold dln at h
  split at h
  · cases h; decide
  split at h
  · cases h; decide
  split at h
  · split at h
    · cases h; decide
    · split at h
      · cases h; decide
      · cases h
  split at h
  · cases h; decide
  split at h
  · split at h
    · cases h; decide
    · split at h
      · cases h; decide
      · cases h
  split at h
  · split at h
    · cases h; decide
    · split at h
      · cases h; decide
      · cases h
  split at h
  · rename_i q hq
    cases h
    exact fld_no hq
  · cases h
/-- What is known of a reading behind k lines. -/
structure DB (s : DS) (k : Nat) : Prop where
  dep : s.S.length ≤ 8
  len : ∀ q ∈ s.S ++ [(s.nm, s.l)], q.2.length ≤ k
  txt : ∀ a, s.l.getLast? = some a → a.itm.text.length ≤ k * 1048577
  fl : s.fl = flOf s.l
theorem DB.start : DB ⟨[], [], [], false⟩ 0 := ⟨by simp, by simp, by simp, rfl⟩
theorem fldI_len {tag rest : List UInt8} : (fldI tag rest).text.length ≤ rest.length := by
  unfold fldI
  split
  · exact Nat.le_refl _
  · have := (cut_len (rest.drop 1) [47, 47]).2
    have h2 : (rest.drop 1).length ≤ rest.length := by rw [List.length_drop]; omega
    dsimp only
    omega
theorem DB.step {s s' : DS} {k : Nat} {tx : List UInt8} (h : DB s k) (hx : tx.length ≤ 1048576) (hd : dln s tx = .ok s') : DB s' (k + 1) := by
  obtain ⟨S, nm, l, fl⟩ := s
  have hk : k * 1048577 + 1048577 = (k + 1) * 1048577 := by omega
  unfold dln at hd
  split at hd
  · cases hd
  split at hd
  · cases hd
  split at hd
  · split at hd
    · cases hd
    · split at hd
      · cases hd
      · cases hd
        rename_i hfl
        have hf := h.fl
        dsimp only at hf hfl
        rcases List.eq_nil_or_concat l with rfl | ⟨l', a, hl'⟩
        · rw [hf] at hfl; simp [flOf] at hfl
        · rw [List.concat_eq_append] at hl'
          subst hl'
          have ht := h.txt a (by simp)
          have hm : moreL (l' ++ [a]) tx = l' ++ [a.withText (a.itm.text ++ 10 :: tx)] := by unfold moreL; rw [List.getLast?_concat]; dsimp only; rw [List.dropLast_concat]
          refine ⟨h.dep, ?_, ?_, ?_⟩
          · dsimp only
            rw [hm]
            intro q hq
            rcases List.mem_append.1 hq with hq | hq
            · have := h.len q (List.mem_append.2 (.inl hq)); omega
            · rw [List.mem_singleton] at hq
              subst hq
              have := h.len (nm, l' ++ [a]) (by simp)
              simp at this ⊢; omega
          · dsimp only
            rw [hm]
            intro b hb
            rw [List.getLast?_concat] at hb
            cases hb
            rw [withText_text]
            simp; omega
          · dsimp only
            rw [hm, flOf_snoc, hf, flOf_snoc]; rfl
  split at hd
  · cases hd
  have hcl := cut_len (tx.drop 1) [58]
  rw [List.length_drop] at hcl
  split at hd
  · split at hd
    · cases hd
    · split at hd
      · cases hd
      · cases hd
        rename_i h8 _
        refine ⟨?_, ?_, ?_, rfl⟩
        · dsimp only at h8 ⊢; rw [List.length_append, List.length_singleton]; omega
        · dsimp only
          intro q hq
          rcases List.mem_append.1 hq with hq | hq
          · have := h.len q hq; omega
          · rw [List.mem_singleton] at hq; subst hq; simp
        · intro a ha; simp at ha
  split at hd
  · split at hd
    · cases hd
    · rename_i q hq
      split at hd
      · cases hd
      · cases hd
        dsimp only at hq
        rcases List.eq_nil_or_concat S with rfl | ⟨S', q', hc⟩
        · simp at hq
        · rw [List.concat_eq_append] at hc
          subst hc
          rw [List.getLast?_concat] at hq
          cases hq
          refine ⟨?_, ?_, ?_, ?_⟩
          · have := h.dep; dsimp only at this ⊢; rw [List.dropLast_concat]; simp at this; omega
          · dsimp only
            rw [List.dropLast_concat]
            intro p hp
            rcases List.mem_append.1 hp with hp | hp
            · have := h.len p (by simp [hp]); omega
            · rw [List.mem_singleton] at hp
              subst hp
              have := h.len q (by simp)
              simp; omega
          · intro a ha
            dsimp only at ha
            rw [List.getLast?_concat] at ha
            cases ha
            show ([] : List UInt8).length ≤ _
            simp
          · dsimp only; rw [flOf_snoc]; rfl
  split at hd
  · cases hd
  · rename_i hfo
    cases hd
    have htb : tagB (Lib.cut (tx.drop 1) [58]).1 = true := by
      unfold fldO at hfo
      cases hq : tagB (Lib.cut (tx.drop 1) [58]).1 with
      | true => rfl
      | false => rw [hq] at hfo; simp at hfo
    have ht := (fldI_text _ _ _ hfo).1
    refine ⟨h.dep, ?_, ?_, ?_⟩
    · dsimp only
      intro q hq
      rcases List.mem_append.1 hq with hq | hq
      · have := h.len q (List.mem_append.2 (.inl hq)); omega
      · rw [List.mem_singleton] at hq
        subst hq
        have := h.len (nm, l) (by simp)
        simp at this ⊢; omega
    · intro a ha
      dsimp only at ha
      rw [List.getLast?_concat] at ha
      cases ha
      have : (fldI (Lib.cut (tx.drop 1) [58]).1 (Lib.cut (tx.drop 1) [58]).2.1).text.length ≤ _ := fldI_len
      show (fldI _ _).text.length ≤ _
      omega
    · dsimp only
      rw [flOf_snoc]
      show true = !(fldI _ _).tag.isEmpty
      rw [ht, tagB_ne htb]; rfl
theorem lnF_len (T : List UInt8) : ∀ (f b : Nat), (lnF T f b).length ≤ T.length - b
  | 0, b => by simp [lnF]
  | f + 1, b => by
    rw [lnF]
    split
    · rename_i hb
      have := lnF_len T f (nxtB T b)
      have := nxt_gt hb
      simp; omega
    · simp
theorem lnF_mem (T : List UInt8) : ∀ (f b : Nat) (x : List UInt8), x ∈ lnF T f b → x.length ≤ T.length
  | 0, b, x, h => by simp [lnF] at h
  | f + 1, b, x, h => by
    rw [lnF] at h
    split at h
    · rcases List.mem_cons.1 h with rfl | h
      · have := own_len T b; omega
      · exact lnF_mem T f _ x h
    · cases h
/-- The beginning: the message itself, with no items. -/
theorem dm_start (W : World) : DM ((W.alloc (.cells #[.string ⟨#[]⟩, .slice none 0 0] 84)).alloc (.cells #[.slice (some ⟨W.heap.size, 0, none⟩) 1 1, .bool false] 87)) W.heap.size (W.heap.size + 1) W.heap.size 1 (fun x => if x = W.heap.size + 1 then 0 else if x = W.heap.size then 1 else 5) [([], [])] [.slice none 0 0] false := by
  refine ⟨?_, ⟨rfl, .inr ⟨W.heap.size, 1, #[.string ⟨#[]⟩, .slice none 0 0], rfl, Nat.le_refl _, alloc_block (alloc_new W _), Nat.le_refl _, by unfold maxLen; omega, rfl, rfl⟩⟩, rfl, ?_, by simp, by simp, by omega⟩
  · have h := alloc_new (W.alloc (.cells #[.string ⟨#[]⟩, .slice none 0 0] 84)) (.cells #[.slice (some ⟨W.heap.size, 0, none⟩) 1 1, .bool false] 87)
    have hs : (W.alloc (.cells #[.string ⟨#[]⟩, .slice none 0 0] 84)).heap.size = W.heap.size + 1 := by simp
    rw [hs] at h; exact h
  · intro k q v h1 h2
    have hk : k = 0 := by have := (List.getElem?_eq_some_iff.1 h1).1; simp at this; omega
    subst hk
    simp at h1 h2; subst h1; subst h2
    exact ⟨[], LV.nil _ _ _⟩
/-- What the document's Parse ends with. -/
def PE (w' : World) (e : Ending) : DO → Prop
  | .ok l => ∃ a cap, e = .returned (.tuple #[.slice a l.length cap, .int .i64 0, .int .i64 0, .int .i64 0]) ∧ RT w' (.slice a l.length cap) l
  | .bad no n at_ => e = .returned (.tuple #[.slice none 0 0, .int .i64 no, .int .i64 n, .int .i64 at_])
set_option maxRecDepth 100000 in
set_option maxHeartbeats 2000000 in
theorem dParse_big (T : List UInt8) (w : World) (hT : 1048576 < T.length) (hT2 : T.length ≤ 140737488355328) :
    Calls Tryz.prog 25 #[.string ⟨T.toArray⟩] w fun e w' => e = .returned (.tuple #[.slice none 0 0, .int .i64 5, .int .i64 0, .int .i64 0]) ∧ w' = w := by
  go_enter Tryz.func25, Tryz.ntmps25
  go_wp2_with fail
  (try simp only [Exit.inBlock, Exit.then])
  refine bodyPost_ret (res4 rfl _ _ _) rfl ?_
  exact ⟨rfl, rfl⟩
set_option maxRecDepth 100000 in
set_option maxHeartbeats 4000000 in
theorem dParse_any (T : List UInt8) (w : World) (hT : T.length ≤ 1048576) :
    Calls Tryz.prog 25 #[.string ⟨T.toArray⟩] w fun e w' => PE w' e (toDO (rdT T)) ∧ Below w.heap.size w w' := by
  have HLS := hide (dLines_any T w hT)
  have HFIN := hide (drn_rdT T)
  have HLL := hide (lnF_len T (T.length + 1) 0)
  have HLM := hide (lnF_mem T (T.length + 1) 0)
  generalize lnF T (T.length + 1) 0 = ls at *
  generalize lnE T (T.length + 1) 0 = en at *
  generalize toDO (rdT T) = fin at *
  have hls : ls.length ≤ 1048576 := by have := HLL.out; omega
  go_enter Tryz.func25, Tryz.ntmps25
  go_wp2_with fail
  refine HLS.out.mono ?_
  rintro e W ⟨⟨la, lc, rfl, hrow⟩, hb⟩
  have B1 := hide hb
  have HROW := hide hrow
  have D0 := hide (dm_start W)
  have B0 := hide (((Below.refl W.heap.size W).alloc (Nat.le_refl _) (.cells #[.string ⟨#[]⟩, .slice none 0 0] 84)).alloc (by simp) (.cells #[.slice (some ⟨W.heap.size, 0, none⟩) 1 1, .bool false] 87))
  clear hb hrow HLS
  go_wp2_with fail
  generalize (W.alloc (.cells #[.string ⟨#[]⟩, .slice none 0 0] 84)).alloc (.cells #[.slice (some ⟨W.heap.size, 0, none⟩) 1 1, .bool false] 87) = W2 at *
  obtain ⟨R, hR⟩ : ∃ R, R = W.heap.size + 1 := ⟨_, rfl⟩
  rw [← hR] at D0 ⊢
  have HCELL : Hid (∀ k tx, ls[k]? = some tx → ∃ g, la = some ⟨g, 0, none⟩ ∧ g < W.heap.size ∧ W.cell? ⟨g, k, none⟩ = some (.string ⟨tx.toArray⟩)) := hide (fun k tx hk => by
    have hkl := (List.getElem?_eq_some_iff.1 hk).1
    obtain ⟨g, c, hv, _, hg⟩ := dp_form HROW.out (by omega)
    injection hv with h1 _ h3
    subst h1
    refine ⟨g, rfl, hg, ?_⟩
    have := World.ownsRow.cells HROW.out rfl k (.string ⟨tx.toArray⟩) (by unfold sw; rw [List.getElem?_map, hk]; rfl)
    rw [Addr.add_lit, Nat.zero_add] at this; exact this)
  clear hR
  go_loopw [9] (fun i wr => ∃ (k : Nat) (s : DS), k ≤ ls.length ∧ i = .int .i64 (k : Int) ∧ Hid (drn en (ls.drop k) s (k + 1) = fin) ∧ Hid (DB s k) ∧ Hid (∃ L cap lab vs, DM wr W.heap.size R L cap lab (s.S ++ [(s.nm, s.l)]) vs s.fl) ∧ Hid (Below W.heap.size W wr)) (fun i _ => ls.length - (intOf i).toNat)
  case atStart => exact ⟨0, ⟨[], [], [], false⟩, Nat.zero_le _, rfl, by simpa using HFIN, hide DB.start, hide ⟨_, _, _, _, D0.out⟩, B0⟩
  case round =>
    obtain ⟨k, s, hk, rfl, HR, HDB, HDM, HB⟩ := hrel
    have BF : Hid (∀ w', Below W.heap.size W w' → Below w.heap.size w w') := hide (fun w' h => B1.out.trans (h.mono B1.out.size))
    by_cases hlt : k < ls.length
    · obtain ⟨tx, htx⟩ : ∃ tx, ls[k]? = some tx := ⟨_, List.getElem?_eq_getElem hlt⟩
      obtain ⟨g, rfl, hg, hcell⟩ := HCELL.out k tx htx
      have hc2 : wr.cell? ⟨g, k, none⟩ = some (.string ⟨tx.toArray⟩) := (HB.out.cell (p := ⟨g, k, none⟩) hg).trans hcell
      have htl : tx.length ≤ 1048576 := by have := HLM.out tx (List.mem_of_getElem? htx); omega
      have hdr : ls.drop k = tx :: ls.drop (k + 1) := by
        rw [List.drop_eq_getElem_cons hlt]
        congr 1
        exact Option.some.inj ((List.getElem?_eq_getElem hlt).symm.trans htx)
      rw [hdr, drn] at HR
      have HDRP : Hid ((ls.drop (k + 1)).isEmpty = decide (k + 1 = ls.length)) := hide (by
        cases hq : ls.drop (k + 1) with
        | nil => rw [decide_eq_true (by have := congrArg List.length hq; simp at this; omega)]; rfl
        | cons a r => rw [decide_eq_false (by intro e; have := congrArg List.length hq; simp at this; omega)]; rfl)
      have hi1 : (k : Int) < (ls.length : Int) := by omega
      have hi0 : (0 : Int) ≤ (k : Int) := by omega
      clear hdr hcell htx
      by_cases hlast : en = false ∧ k + 1 = ls.length
      · obtain ⟨rfl, hke⟩ := hlast
        have HRR : Hid (fin = .bad 2 ((k + 1 : Nat) : Int) (tx.length + 1)) := hide (by rw [← HR.out, HDRP.out, decide_eq_true hke]; rfl)
        have hkb : ((k : Int) == (ls.length : Int) - 1) = true := by rw [beq_iff_eq]; omega
        have i4 : IntKind.i64.wrap ((k : Int) + 1) = (k : Int) + 1 := by rw [IntKind.wrap_i64]; omega
        have i5 : IntKind.i64.wrap ((tx.length : Int) + 1) = (tx.length : Int) + 1 := by rw [IntKind.wrap_i64]; omega
        clear HR HDRP hke
        go_wp2_with fail
        go_quiet (fail)
        go_wp2_with fail
        (try simp only [Exit.inBlock, Exit.then])
        refine bodyPost_ret (res4 rfl _ _ _) rfl ?_
        rw [HRR.out]
        exact ⟨by rw [Int.natCast_add]; rfl, BF.out _ (below_dN HB.out nq)⟩
      · have HRR : Hid ((match dln s tx with
          | .bad no at_ => DO.bad no ((k + 1 : Nat) : Int) at_
          | .ok s' => drn en (ls.drop (k + 1)) s' (k + 1 + 1)) = fin) := hide (by
          rw [← HR.out, HDRP.out, if_neg (by
            intro e
            rw [Bool.and_eq_true, decide_eq_true_eq] at e
            exact hlast ⟨by simpa using e.1, e.2⟩)]
          cases dln s tx <;> rfl)
        have HLI := hide (line_any s tx W.heap.size R wr HDM.out HDB.out.dep htl (fun q hq => by have := HDB.out.len q hq; omega) (fun a ha => by have := HDB.out.txt a ha; omega) HDB.out.fl)
        have hkb : en = false → ((k : Int) == (ls.length : Int) - 1) = false := fun e => by rw [beq_eq_false_iff_ne]; intro h; exact hlast ⟨e, by omega⟩
        clear HR HDRP hlast
        cases hd : dln s tx with
        | bad no at_ =>
          rw [hd] at HRR HLI
          have hno : (no == 0) = false := beq_eq_false_iff_ne.2 (dln_no hd)
          clear hd
          cases en
          all_goals
            (try have hkb2 := hkb rfl)
            clear hkb
            go_wp2_with fail
            refine HLI.out.mono ?_
            rintro e w5 ⟨hb5, rfl⟩
            have B5 := hide (HB.out.trans hb5)
            clear hb5
            go_wp2_with fail
            (try simp only [Exit.inBlock, Exit.then])
            refine bodyPost_ret (res4 rfl _ _ _) rfl ?_
            rw [← HRR.out]
            exact ⟨by rw [Int.natCast_add]; rfl, BF.out _ B5.out⟩
        | ok s' =>
          rw [hd] at HRR HLI
          have DB2 := hide (HDB.out.step htl hd)
          clear hd
          cases en
          all_goals
            (try have hkb2 := hkb rfl)
            clear hkb
            go_wp2_with fail
            refine HLI.out.mono ?_
            rintro e w5 ⟨hb5, rfl, hDM5⟩
            have B5 := hide (HB.out.trans hb5)
            have D5 := hide hDM5
            clear hb5 hDM5
            go_wp2_with fail
            go_roundw
            case rel => exact ⟨k + 1, s', by omega, by go_num, HRR, DB2, D5, B5⟩
            case measure => simp [intOf]; omega
    · have hke : k = ls.length := by omega
      subst hke
      rw [List.drop_length, drn] at HR
      obtain ⟨S, nm, l, fl⟩ := s
      obtain ⟨L, cap, lab, vs, hD⟩ := HDM.out
      dsimp only at hD HR
      have c0 := hD.open
      rcases List.eq_nil_or_concat S with rfl | ⟨S', q, hc'⟩
      · have HRR : Hid (fin = .ok l) := hide (by rw [← HR.out]; rfl)
        obtain ⟨vs0, v, rfl⟩ := hD.some
        obtain ⟨hl0, ⟨V, hV⟩, _, c1⟩ := hD.top
        have HPT := hide (PT_rt _ _ _ (Nat.le_refl _) hV.pt)
        obtain ⟨a, vc, hv⟩ := st_shape hV.row
        subst hv
        simp only [List.nil_append, List.length_cons, List.length_nil, Nat.zero_add, Nat.zero_mul] at c0 c1
        clear hV hD hl0 HR HDM
        go_wp2_with fail
        (try simp only [Exit.inBlock, Exit.then])
        refine bodyPost_ret (res4 rfl _ _ _) rfl ?_
        rw [HRR.out]
        exact ⟨⟨a, vc, rfl, HPT.out⟩, BF.out _ HB.out⟩
      · rw [List.concat_eq_append] at hc'
        subst hc'
        have HRR : Hid (fin = .bad 2 ((ls.length + 1 : Nat) : Int) 1) := hide (by rw [← HR.out, if_neg (by simp)])
        simp only [List.length_append, List.length_cons, List.length_nil, Nat.zero_add] at c0
        have hS8 : S'.length ≤ 8 := by have := HDB.out.dep; simp at this; omega
        clear hD HR HDM
        go_wp2_with fail
        (try simp only [Exit.inBlock, Exit.then])
        refine bodyPost_ret (res4 rfl _ _ _) rfl ?_
        rw [HRR.out]
        exact ⟨by rw [Int.natCast_add]; rfl, BF.out _ HB.out⟩
end Go.Proofs.YtpkgaidnpooahaaGreatDoor
