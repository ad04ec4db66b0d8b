/-
  My own text: NP5, NP6, NM3 in one.
-/
import Derived.Test.YtbaideeiljeamaaGreatDoorNP4
import Derived.Test.YtbaideeiljeamaaGreatDoorQRz
import Derived.Test.YtbaideeiljeamaaGreatDoorAI3
import Derived.Test.YtbaideeiljeamaaGreatDoorQA2
import Derived.Test.YtbaideeiljeamaaGreatDoorNM2
import Derived.Test.YtbaideeiljeamaaGreatDoorTKB
namespace Go.Proofs.YtbaideeiljeamaaGreatDoor
open Go.RowKit

theorem cell_setRow_other {w : World} {g k j : Nat} {cs : Array Value} (h : k ≠ g) : (w.setRow g cs).cell? ⟨k, j, none⟩ = w.cell? ⟨k, j, none⟩ := by
  unfold World.cell?
  rw [setRow_other w g k cs h]
set_option maxRecDepth 100000 in
set_option maxHeartbeats 2000000 in
theorem placeBlock_any (nm : List UInt8) (tl tk th : Value) (lk : Bool) (va : Option Addr) (vn vc : Nat) (kids : List TG.Tr) (g : Nat) (w : World) (hnm : nm.isEmpty = false)
    (hW : ∀ W : World, Below w.heap.size w W → Calls Tryz.prog 15 #[.slice va vn vc, .pointer (some ⟨g, 0, none⟩)] W fun e w' => ∃ ka kc, e = .returned (.slice ka kids.length kc) ∧ TG.PA w' (fun x => W.heap.size ≤ x ∧ x < w'.heap.size) (.slice ka kids.length kc) kids ∧ Below W.heap.size W w') :
    Calls Tryz.prog 36 #[.agg #[.string ⟨#[]⟩, .string ⟨#[]⟩, tl, tk, .string ⟨nm.toArray⟩, .slice va vn vc, th, .bool lk], .pointer (some ⟨g, 0, none⟩)] w fun e w' => ∃ ka kc, e = .returned (.agg (TG.iC ⟨[], [], [], nm⟩ (.slice ka kids.length kc))) ∧ TG.PA w' (fun x => w.heap.size ≤ x ∧ x < w'.heap.size) (.slice ka kids.length kc) kids ∧ Below w.heap.size w w' := by
  have HW := hide hW
  have z1 := bytes_nil_f hnm
  clear hW
  go_enter Tryz.func36, Tryz.ntmps36
  go_wp2_with fail
  have B0 := hide (bx2 w (.cells #[.string ⟨#[]⟩, .string ⟨#[]⟩, tl, tk, .string ⟨nm.toArray⟩, .slice va vn vc, th, .bool lk] 74) (.cells #[.string ⟨#[]⟩, .string ⟨#[]⟩, .string ⟨#[]⟩, .string ⟨#[]⟩, .slice none 0 0] 58))
  have K0 : Hid (((w.alloc (.cells #[.string ⟨#[]⟩, .string ⟨#[]⟩, tl, tk, .string ⟨nm.toArray⟩, .slice va vn vc, th, .bool lk] 74)).alloc (.cells #[.string ⟨#[]⟩, .string ⟨#[]⟩, .string ⟨#[]⟩, .string ⟨#[]⟩, .slice none 0 0] 58)).drew.heap[w.heap.size + 1]? = some (.cells #[.string ⟨#[]⟩, .string ⟨#[]⟩, .string ⟨#[]⟩, .string ⟨#[]⟩, .slice none 0 0] 58 (0, 0))) := hide (alloc2_new w _ _)
  have HC4 : Hid (((w.alloc (.cells #[.string ⟨#[]⟩, .string ⟨#[]⟩, tl, tk, .string ⟨nm.toArray⟩, .slice va vn vc, th, .bool lk] 74)).alloc (.cells #[.string ⟨#[]⟩, .string ⟨#[]⟩, .string ⟨#[]⟩, .string ⟨#[]⟩, .slice none 0 0] 58)).drew.cell? ⟨w.heap.size, 4, none⟩ = some (.string ⟨nm.toArray⟩)) := hide (by simp)
  have HC5 : Hid (((w.alloc (.cells #[.string ⟨#[]⟩, .string ⟨#[]⟩, tl, tk, .string ⟨nm.toArray⟩, .slice va vn vc, th, .bool lk] 74)).alloc (.cells #[.string ⟨#[]⟩, .string ⟨#[]⟩, .string ⟨#[]⟩, .string ⟨#[]⟩, .slice none 0 0] 58)).drew.cell? ⟨w.heap.size, 5, none⟩ = some (.slice va vn vc)) := hide (by simp)
  have HB0d := hide (B0.out.drew)
  have HZ : Hid (w.heap.size + 2 ≤ ((w.alloc (.cells #[.string ⟨#[]⟩, .string ⟨#[]⟩, tl, tk, .string ⟨nm.toArray⟩, .slice va vn vc, th, .bool lk] 74)).alloc (.cells #[.string ⟨#[]⟩, .string ⟨#[]⟩, .string ⟨#[]⟩, .string ⟨#[]⟩, .slice none 0 0] 58)).drew.heap.size) := hide (by simp)
  refine TG.begins_held (S := fun W => W.cell? ⟨w.heap.size, 4, none⟩ = some (.string ⟨nm.toArray⟩) ∧ W.cell? ⟨w.heap.size, 5, none⟩ = some (.slice va vn vc)) 8 #[false, false, false, false, false, false, false, false] (by kernel_rfl) (by kernel_rfl) (by kernel_rfl) ⟨HC4.out, HC5.out⟩ (fun hHeld => ?_)
  refine TG.tk (v := ?_) 0 8 #[true, false, false, false, false, false, false, false] rfl rfl (by kernel_rfl) (by kernel_rfl) (by kernel_rfl) (fun _ _ _ h => h) (by kernel_rfl) (by rfl) ?hy hHeld ?_
  case hy => rintro W ⟨g4, g5⟩; first | (go_simp; done) | (go_simp; with_reducible rfl)
  simp only [List.setIfInBounds_toArray, List.set_cons_zero, List.set_cons_succ]
  refine TG.tk (v := ?_) 1 9 #[true, true, false, false, false, false, false, false] rfl rfl (by kernel_rfl) (by kernel_rfl) (by kernel_rfl) (fun _ _ _ h => h) (by kernel_rfl) (by rfl) ?hy hHeld ?_
  case hy => rintro W ⟨g4, g5⟩; first | (go_simp; done) | (go_simp; with_reducible rfl)
  simp only [List.setIfInBounds_toArray, List.set_cons_zero, List.set_cons_succ]
  refine TG.tk (v := ?_) 2 10 #[true, true, true, false, false, false, false, false] rfl rfl (by kernel_rfl) (by kernel_rfl) (by kernel_rfl) (fun _ _ _ h => h) (by kernel_rfl) (by rfl) ?hy hHeld ?_
  case hy => rintro W ⟨g4, g5⟩; first | (go_simp; done) | (go_simp; with_reducible rfl)
  simp only [List.setIfInBounds_toArray, List.set_cons_zero, List.set_cons_succ]
  refine TG.tk (v := ?_) 3 11 #[true, true, true, true, false, false, false, false] rfl rfl (by kernel_rfl) (by kernel_rfl) (by kernel_rfl) (fun _ _ _ h => h) (by kernel_rfl) (by rfl) ?hy hHeld ?_
  case hy => rintro W ⟨g4, g5⟩; first | (go_simp; done) | (go_simp; with_reducible rfl)
  simp only [List.setIfInBounds_toArray, List.set_cons_zero, List.set_cons_succ]
  refine TG.tk (v := ?_) 4 12 #[true, true, true, true, true, false, false, false] rfl rfl (by kernel_rfl) (by kernel_rfl) (by kernel_rfl) (fun _ _ _ h => h) (by kernel_rfl) (by rfl) ?hy hHeld ?_
  case hy => rintro W ⟨g4, g5⟩; first | (go_simp; done) | (go_simp; with_reducible rfl)
  simp only [List.setIfInBounds_toArray, List.set_cons_zero, List.set_cons_succ]
  refine TG.one_ready 5 #[true, true, true, true, true, true, false, false] rfl (by kernel_rfl) (by kernel_rfl) (by rfl) (fun K hK => ?_)
  go_simp
  refine (HW.out _ HB0d.out).mono ?_
  rintro e w5 ⟨ka, kc, rfl, hpa, hb5⟩
  have B5 := hide (HB0d.out.trans (hb5.mono HB0d.out.size))
  have K5 := hide ((hb5.block (w.heap.size + 1) (Array.getElem?_eq_some_iff.1 K0.out).1).trans K0.out)
  have c4 := cell_later hb5 HC4.out
  have c5 := cell_later hb5 HC5.out
  have HPA := hide hpa
  have HS5 := hide hb5.size
  clear hb5 hpa HW
  go_wp2_with fail
  refine hK.out _ _ ⟨c4, c5⟩ (fun hHeld => ?_)
  clear hK K c4 c5
  refine TG.tk (v := ?_) 6 14 #[true, true, true, true, true, true, true, false] rfl rfl (by kernel_rfl) (by kernel_rfl) (by kernel_rfl) (fun _ _ _ h => h) (by kernel_rfl) (by rfl) ?hy hHeld ?_
  case hy => rintro W ⟨g4, g5⟩; first | (go_simp; done) | (go_simp; with_reducible rfl)
  simp only [List.setIfInBounds_toArray, List.set_cons_zero, List.set_cons_succ]
  refine TG.one_ready 7 #[true, true, true, true, true, true, true, true] rfl (by kernel_rfl) (by kernel_rfl) (by rfl) (fun K hK => ?_)
  refine wp_store_row 58 _ _ rfl (w.heap.size + 1) #[.string ⟨#[]⟩, .string ⟨#[]⟩, .string ⟨#[]⟩, .string ⟨nm.toArray⟩, .slice ka kids.length kc] rfl rfl _ _ K5.out Tryz.sizeItN rfl (by simp [Value.oneCell']) ?_
  have c4 := hHeld.1
  have c5 := hHeld.2
  have n1 : w.heap.size ≠ w.heap.size + 1 := by omega
  refine hK.out _ _ ⟨(cell_setRow_other n1).trans c4, (cell_setRow_other n1).trans c5⟩ (fun hHeld => ?_)
  clear hK K c4 c5
  refine wpAnyH_done (by kernel_rfl) ?_ _
  go_wp2_with fail
  have hld := run_loadVar_row (P := Tryz.prog) (w5.setRow (w.heap.size + 1) #[.string ⟨#[]⟩, .string ⟨#[]⟩, .string ⟨#[]⟩, .string ⟨nm.toArray⟩, .slice ka kids.length kc]) (w.heap.size + 1) 58 58 #[.string ⟨#[]⟩, .string ⟨#[]⟩, .string ⟨#[]⟩, .string ⟨nm.toArray⟩, .slice ka kids.length kc] (0, 0) _ (setRow_heap _ _ _ _ _ _ K5.out) Tryz.underlying58 rfl Tryz.sizeItN
  refine bodyPost_ret (v := .agg #[.string ⟨#[]⟩, .string ⟨#[]⟩, .string ⟨#[]⟩, .string ⟨nm.toArray⟩, .slice ka kids.length kc]) ?_ rfl ⟨ka, kc, rfl, ?_, below_setRow B5.out (by omega) _⟩
  · rw [results_cell1 rfl]
    exact hld
  · have hz : (w5.setRow (w.heap.size + 1) #[.string ⟨#[]⟩, .string ⟨#[]⟩, .string ⟨#[]⟩, .string ⟨nm.toArray⟩, .slice ka kids.length kc]).heap.size = w5.heap.size := by simp [World.setRow]
    refine TG.PA_kept (fun k hk _ => setRow_other _ _ _ _ (by have := HZ.out; omega)) (by rw [hz]; exact Nat.le_refl _) (fun k hk _ => ⟨by have := HZ.out; omega, by rw [hz]; exact hk.2⟩) _ _ _ (Nat.le_refl _) HPA.out
end Go.Proofs.YtbaideeiljeamaaGreatDoor
namespace Go.Proofs.YtbaideeiljeamaaGreatDoor
open Go.RowKit

theorem run_append_itN (w : World) (ty : TypeId) (B : Nat) (v : Value) (n : Nat) (xs : List Value) (hown : w.ownsRow B 58 5 v n xs)
    (b : Nat) (news : List Value) (hl : news.length = 1 * 5) (hnews : ∀ j u, news[j]? = some u → w.cell? ((⟨b, 0, none⟩ : Addr).add j) = some u) (h1 : ∀ u ∈ news, u.oneCell' = true) (hB : B ≤ w.heap.size) (hsz : n + 1 ≤ 1099511627776) :
    ∃ v' w', (Builtin.append_ #[27, 27] ty #[v, .slice (some ⟨b, 0, none⟩) 1 1]).run Tryz.prog w = .ok v' w' ∧ w'.ownsRow B 58 5 v' (n + 1) (xs ++ news) ∧ w.grownBy w' v.ownBlock ∧ (∀ g, v'.ownBlock = some g → v.ownBlock = some g ∨ w.heap.size ≤ g) := by
  obtain ⟨i0, hi, hz0, hz1, hz2⟩ := info_parts TG.Tryz.infoItmq
  rcases hown.2 with ⟨hv, h0⟩ | ⟨g, cap, cur, hv, hb, hh, hn2, hn3⟩
  · subst hv; subst h0
    obtain rfl : xs = [] := List.eq_nil_of_length_eq_zero (by simpa using hown.1)
    obtain ⟨v', w', hrun, r1, r2, _⟩ := run_append_own (P := Tryz.prog) w w.heap.size 27 ty 58 i0 _ 5 88 Tryz.underlying27 hi hz0 hz1 hz2 TG.zItmq (by decide) (.slice none 0 0) 0 [] (World.ownsRow_nil w _ _ 5) ⟨b, 0, none⟩ 1 1 news hl hnews h1 (by unfold maxLen; omega) (by omega) (Nat.le_refl _)
    exact ⟨v', w', hrun, World.ownsRow.mono r1 hB, r2, fun g hg => .inr (TG.own_ltq r1 g hg).1⟩
  · subst hv
    by_cases hroom : n + 1 ≤ cap
    · obtain ⟨w', hr, h2, h3⟩ := run_append_own_spare (P := Tryz.prog) w B 27 ty 58 i0 5 Tryz.underlying27 hi hz1 g n cap xs hown ⟨b, 0, none⟩ 1 1 news hl hnews h1 hroom
      exact ⟨_, w', hr, h2, h3, fun g' hg' => .inl hg'⟩
    · obtain ⟨v', w', hrun, r1, r2⟩ := run_append_arg_grows (P := Tryz.prog) w 27 ty 58 i0 _ 5 88 Tryz.underlying27 hi hz0 hz1 hz2 TG.zItmq (by decide) ⟨g, 0, none⟩ n cap xs hown.1 (World.ownsRow.cells hown rfl) ⟨b, 0, none⟩ 1 1 news hl hnews (by omega) (by unfold maxLen; omega) (by omega)
      exact ⟨v', w', hrun, World.ownsRow.mono r1 hB, ⟨r2.os, r2.tape, r2.output, r2.size, fun k hk _ => r2.block k hk (by intro e; cases e)⟩, fun g' hg' => .inr (TG.own_ltq r1 g' hg').1⟩
/-- One item more, which a call has made. -/
theorem wp_push {ops : Array Oper} {rest : List Oper} {o : Oper} {a : Act} {Q : Exit → Act → World → Prop} (W4 w5 : World) (B : Nat) (v : Value) (l : List TG.Tr) (V : List Value) (i : TG.Itm) (ka : Option Addr) (kc : Nat) (kids : List TG.Tr) (hgd : o.guard = none) (s x : Operand)
    (ho : o.op = .call { callee := .builtin .append, args := #[s, x], argTypes := #[27, 27] }) (hs : a.eval s = v) (hx : a.eval x = .slice (some ⟨w5.heap.size, 0, none⟩) 1 1)
    (hI : TG.IWA W4 B v l V) (hb : Below W4.heap.size W4 w5) (hB : B ≤ W4.heap.size) (hpa : TG.PA w5 (fun x => W4.heap.size ≤ x ∧ x < w5.heap.size) (.slice ka kids.length kc) kids) (hsz : l.length ≤ 1000)
    (h : ∀ v' w', TG.IWA w' B v' (l ++ [.mk i kids]) (V ++ [.slice ka kids.length kc]) → Below B W4 w' → (∀ x, x < W4.heap.size → v.ownBlock ≠ some x → w'.heap[x]? = W4.heap[x]?) → wpList Tryz.prog ops Q rest (a.put o.dst v') w') :
    wpList Tryz.prog ops Q (o :: rest) a (w5.alloc (.cells (TG.iC i (.slice ka kids.length kc)) 58)) := by
  have hA := (Below.refl w5.heap.size w5).alloc (Nat.le_refl _) (.cells (TG.iC i (.slice ka kids.length kc)) 58)
  have hnew := TG.Ix.new w5 i (.slice ka kids.length kc)
  have hz6 : (w5.alloc (.cells (TG.iC i (.slice ka kids.length kc)) 58)).heap.size = w5.heap.size + 1 := by simp
  generalize w5.alloc (.cells (TG.iC i (.slice ka kids.length kc)) 58) = W6 at *
  have hb6 : Below W4.heap.size W4 W6 := hb.trans (hA.mono hb.size)
  have hsz4 := hb.size
  have hI6 := hI.later hb6
  obtain ⟨v', w', hrun, r1, r2, r3⟩ := run_append_itN W6 o.type B v l.length _ hI6.iw.row w5.heap.size (TG.iC i (.slice ka kids.length kc)).toList rfl (fun j u hj => by
    have := hnew.range j u hj
    rw [Addr.add_lit]; exact this) (by intro u hu; simp [TG.iC] at hu; rcases hu with rfl | rfl | rfl | rfl | rfl <;> rfl) (by omega) (by omega)
  have hpa6 : TG.PA W6 (fun x => W4.heap.size ≤ x ∧ x < W6.heap.size) (.slice ka kids.length kc) kids := TG.PA_kept (fun k _ hk => hA.block k hk) hA.size (fun k hk _ => ⟨hk.1, by omega⟩) _ _ _ (Nat.le_refl _) hpa
  have hown : ∀ x, v.ownBlock = some x → x < W4.heap.size := fun x hx => (TG.own_ltq hI.iw.row x hx).2
  have hS := TG.IWA.snoc (a := .mk i kids) (u := .slice ka kids.length kc) hI6 hI (fun k _ hk => hb6.block k hk) hb6.size (Nat.le_refl _) r1 (fun k hk hne => r2.block k hk (fun e => hne e.symm)) r2.size r3 hB hown hpa6
  have hBB : Below B W4 w' := (hb6.mono hB).grown r2 (by omega) (fun k hk => (TG.own_ltq hI.iw.row k hk).1)
  refine wpList_plain hgd fun K hK => ?_
  unfold Oper.wp
  simp [execOp, ho, resolve, invoke, builtin, hs, hx, hrun, Result.andThen]
  exact hK _ _ (h v' w' hS hBB (fun k hk hne => (r2.block k (Nat.lt_of_lt_of_le hk hb6.size) (fun e => hne e.symm)).trans (hb6.block k hk)))
end Go.Proofs.YtbaideeiljeamaaGreatDoor
namespace Go.Proofs.YtbaideeiljeamaaGreatDoor
open Go.RowKit

theorem ic_itC : ∀ L : List (TG.Tr × Value), TG.ic (L.map (·.1)) (L.map (·.2)) = TG.itC L
  | [] => rfl
  | p :: r => by simp only [List.map_cons, TG.ic, TG.itC, ic_itC r]
theorem itC_len : ∀ L : List (TG.Tr × Value), (TG.itC L).length = L.length * 5
  | [] => rfl
  | p :: r => by simp only [TG.itC, List.length_cons, itC_len r]; omega
/-- A row that was laid. -/
theorem iw_lit {w : World} {B k c : Nat} (L : List (TG.Tr × Value)) (l : List TG.Tr) (V : List Value) (cs : Array Value) (hB : B ≤ w.heap.size) (hc : cs = (TG.itC L).toArray) (hl : l = L.map (·.1)) (hV : V = L.map (·.2)) (hk : k = l.length) (hk2 : c = k) (hm : k ≤ 1000) (h : ∀ p ∈ L, TG.PT w (fun x => B ≤ x ∧ x < w.heap.size) p.2 p.1.kids) :
    TG.IW (w.alloc (.cells cs 58)) B (.slice (some ⟨w.heap.size, 0, none⟩) k c) l V := by
  subst hc hl hk2 hV
  have hb := (Below.refl w.heap.size w).alloc (Nat.le_refl _) (.cells (TG.itC L).toArray 58)
  have hkl : c = L.length := by rw [hk]; simp
  refine ⟨by simp, ⟨?_, .inr ⟨w.heap.size, c, (TG.itC L).toArray, by rw [hk], hB, (MapKept.heap_alloc w _).1, by omega, by unfold maxLen; omega, ?_, ?_⟩⟩, ?_⟩
  · rw [ic_itC, itC_len]; simp
  · simp [itC_len, hkl]
  · rw [ic_itC, List.take_of_length_le (by simp [itC_len])]
  · intro j t u e1 e2
    rw [List.getElem?_map] at e1 e2
    obtain ⟨p, hp, rfl⟩ := Option.map_eq_some_iff.1 e1
    rw [hp] at e2
    simp at e2; subst e2
    exact TG.PT_kept (fun g _ hg => hb.block g hg) hb.size (fun g hg hg2 => ⟨hg.1, by simp; omega, fun e => by have : w.heap.size = g := Option.some.inj e; omega⟩) _ _ _ (Nat.le_refl _) (h p (List.mem_of_getElem? hp))
theorem pt_nil (w : World) (S : Nat → Prop) : TG.PT w S (.slice none 0 0) [] := ⟨none, 0, rfl, .inl rfl⟩
theorem pt_later {w w' : World} {B : Nat} {v : Value} {l : List TG.Tr} (h : TG.PT w (fun x => B ≤ x ∧ x < w.heap.size) v l) (hb : Below w.heap.size w w') : TG.PT w' (fun x => B ≤ x ∧ x < w'.heap.size) v l :=
  TG.PT_kept (fun g _ hg => hb.block g hg) hb.size (fun _ hg hg2 => ⟨hg.1, Nat.lt_of_lt_of_le hg2 hb.size⟩) _ _ _ (Nat.le_refl _) h
theorem pt_low {w : World} {B C : Nat} (A : Nat) {v : Value} {l : List TG.Tr} (h : TG.PT w (fun x => B ≤ x ∧ x < C) v l) (hA : A ≤ B) : TG.PT w (fun x => A ≤ x ∧ x < C) v l :=
  TG.PT_kept (fun _ _ _ => rfl) (Nat.le_refl _) (fun _ hg _ => ⟨Nat.le_trans hA hg.1, hg.2⟩) _ _ _ (Nat.le_refl _) h
/-- One item more. -/
theorem op_pushW {o : Oper} {a : Act} {K : Act → World → Prop} {Q : Exit → Act → World → Prop} (W4 w5 : World) (B : Nat) (v : Value) (l : List TG.Tr) (V : List Value) (i : TG.Itm) (u : Value) (kids : List TG.Tr) (s x : Operand)
    (ho : o.op = .call { callee := .builtin .append, args := #[s, x], argTypes := #[27, 27] }) (hs : a.eval s = v) (hx : a.eval x = .slice (some ⟨w5.heap.size, 0, none⟩) 1 1)
    (hI : TG.IW W4 B v l V) (hb : Below W4.heap.size W4 w5) (hB : B ≤ W4.heap.size) (hpt : TG.PT w5 (fun x => W4.heap.size ≤ x ∧ x < w5.heap.size) u kids) (hsz : l.length ≤ 1000)
    (h : ∀ v' w', TG.IW w' B v' (l ++ [.mk i kids]) (V ++ [u]) → Below B W4 w' → K (a.put o.dst v') w') :
    o.wp Tryz.prog a (w5.alloc (.cells (TG.iC i u) 58)) K Q := by
  have hA := (Below.refl w5.heap.size w5).alloc (Nat.le_refl _) (.cells (TG.iC i u) 58)
  have hnew := TG.Ix.new w5 i u
  have hz6 : (w5.alloc (.cells (TG.iC i u) 58)).heap.size = w5.heap.size + 1 := by simp
  have hu1 : u.oneCell' = true := by obtain ⟨_, _, rfl, _⟩ := hpt; rfl
  generalize w5.alloc (.cells (TG.iC i u) 58) = W6 at *
  have hb6 : Below W4.heap.size W4 W6 := hb.trans (hA.mono hb.size)
  have hsz4 := hb.size
  have hI6 := hI.later hb6
  obtain ⟨v', w', hrun, r1, r2, r3⟩ := run_append_itN W6 o.type B v l.length _ hI6.row w5.heap.size (TG.iC i u).toList rfl (fun j u hj => by
    have := hnew.range j u hj
    rw [Addr.add_lit]; exact this) (by intro y hy; simp [TG.iC] at hy; rcases hy with rfl | rfl | rfl | rfl | rfl <;> first | rfl | exact hu1) (by omega) (by omega)
  have hpt6 : TG.PT W6 (fun x => W4.heap.size ≤ x ∧ x < W6.heap.size) u kids := TG.PT_kept (fun k _ hk => hA.block k hk) hA.size (fun k hk _ => ⟨hk.1, by omega⟩) _ _ _ (Nat.le_refl _) hpt
  have hown : ∀ x, v.ownBlock = some x → x < W4.heap.size := fun x hx => (TG.own_ltq hI.row x hx).2
  have hS := TG.IW.snoc (a := .mk i kids) (u := u) hI6 r1 (fun k hk hne => r2.block k hk (fun e => hne e.symm)) r2.size r3 hB hown hpt6
  have hBB : Below B W4 w' := (hb6.mono hB).grown r2 (by omega) (fun k hk => (TG.own_ltq hI.row k hk).1)
  unfold Oper.wp
  simp [execOp, ho, resolve, invoke, builtin, hs, hx, hrun, Result.andThen]
  exact h v' w' hS hBB
theorem wp_pushW {ops : Array Oper} {rest : List Oper} {o : Oper} {a : Act} {Q : Exit → Act → World → Prop} (W4 w5 : World) (B : Nat) (v : Value) (l : List TG.Tr) (V : List Value) (i : TG.Itm) (u : Value) (kids : List TG.Tr) (hgd : o.guard = none) (s x : Operand)
    (ho : o.op = .call { callee := .builtin .append, args := #[s, x], argTypes := #[27, 27] }) (hs : a.eval s = v) (hx : a.eval x = .slice (some ⟨w5.heap.size, 0, none⟩) 1 1)
    (hI : TG.IW W4 B v l V) (hb : Below W4.heap.size W4 w5) (hB : B ≤ W4.heap.size) (hpt : TG.PT w5 (fun x => W4.heap.size ≤ x ∧ x < w5.heap.size) u kids) (hsz : l.length ≤ 1000)
    (h : ∀ v' w', TG.IW w' B v' (l ++ [.mk i kids]) (V ++ [u]) → Below B W4 w' → wpList Tryz.prog ops Q rest (a.put o.dst v') w') :
    wpList Tryz.prog ops Q (o :: rest) a (w5.alloc (.cells (TG.iC i u) 58)) :=
  wpList_plain hgd fun _ hK => op_pushW W4 w5 B v l V i u kids s x ho hs hx hI hb hB hpt hsz (fun v' w' h1 h2 => hK _ _ (h v' w' h1 h2))
theorem refField2 (a b c : List UInt8) (w : World) :
    Calls Tryz.prog 26 #[.string ⟨a.toArray⟩, .string ⟨b.toArray⟩, .string ⟨c.toArray⟩] w fun e w' => e = .returned (.agg #[.string ⟨a.toArray⟩, .string ⟨b.toArray⟩, .string ⟨c.toArray⟩, .string ⟨#[]⟩, .slice none 0 0]) ∧ Below w.heap.size w w' := refField_any a b c w
theorem sizeIsn : (Tryz.prog.info? 23).map (·.size) = some 12 := by kernel_rfl
end Go.Proofs.YtbaideeiljeamaaGreatDoor
