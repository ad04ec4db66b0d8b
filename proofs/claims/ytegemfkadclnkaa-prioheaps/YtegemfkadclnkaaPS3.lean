/-
  My own text: layer 15: PrioHeaps: the calls of both sides, over the law's memory.
-/
import Derived.Test.YtegemfkadclnkaaPS2
import Derived.Test.YtegemfkadclnkaaPPick
namespace Go.Proofs.Ytegemfkadclnkaa
open Go.RowKit Go.Extern

section
variable {w0 w : World} {c : Cn} {vh : Bool → Value} {RH : Bool → List En} {N : Bool → Nat} {vr : Bool → Value} {RD : Bool → List En} {vt : Value} {TL : List (Value × List Pr)} {ex : List Cp}
theorem PH.pop (h : PH w0 w c vh RH N vr RD vt TL ex) (f : Bool) (hN : N f ≤ 5864062014805) {p : Pr} {s : Bool} {R' : List En} (hp : ans (mn (kB f) (fun _ => true) (RH f)) = p) (hs : (mn (kB f) (fun _ => true) (RH f)).isSome = s) (hR : nx (RH f) (mn (kB f) (fun _ => true) (RH f)) = R') :
    Calls Try.prog 8 #[.pointer (some ⟨c.hb f, 0, none⟩)] w fun e w' => e = .returned (.tuple #[.agg #[.int .i64 p.1, .int .i64 p.2], .bool s]) ∧ ∃ vh', Hid (PH w0 w' c vh' (up f R' RH) N vr RD vt TL ex) := by
  refine (popQ (lfB_ok f) (h.hq f) hN).mono ?_
  rintro e w' ⟨rfl, v', hq, hf⟩
  rw [hR] at hq
  have := h.setH f hf hq
  rw [up_self] at this
  exact ⟨by rw [hp, hs]; rfl, _, hide this⟩
theorem PH.rpop (h : PH w0 w c vh RH N vr RD vt TL ex) (f : Bool) (hr : Rs 0 (RD f)) (hl : (RD f).length ≤ 8796093022207) {p : Pr} {s : Bool} {R' : List En} (hp : ans (mn (kB f) (fun _ => true) (RD f)) = p) (hs : (mn (kB f) (fun _ => true) (RD f)).isSome = s) (hR : nx (RD f) (mn (kB f) (fun _ => true) (RD f)) = R') :
    Calls Try.prog 9 #[.pointer (some ⟨c.rb f, 0, none⟩)] w fun e w' => e = .returned (.tuple #[.agg #[.int .i64 p.1, .int .i64 p.2], .bool s]) ∧ ∃ vr', Hid (PH w0 w' c vh RH N vr' (up f R' RD) vt TL ex) := by
  refine (rpopQ (h.rq f) hr hl).mono ?_
  rintro e w' ⟨rfl, v', hq, hf⟩
  rw [hR] at hq
  exact ⟨by rw [hp, hs]; rfl, _, hide (h.setR f hf hq)⟩
theorem PH.peek (h : PH w0 w c vh RH N vr RD vt TL ex) (f : Bool) {p : Pr} {s : Bool} (hp : ans (mn (kB f) (fun _ => true) (RH f)) = p) (hs : (mn (kB f) (fun _ => true) (RH f)).isSome = s) :
    Calls Try.prog 12 #[.pointer (some ⟨c.hb f, 0, none⟩)] w fun e w' => e = .returned (.tuple #[.agg #[.int .i64 p.1, .int .i64 p.2], .bool s]) ∧ ∃ vh', Hid (PH w0 w' c vh' RH N vr RD vt TL ex) := by
  refine (peekQ (h.hq f)).mono ?_
  rintro e w' ⟨rfl, hb⟩
  exact ⟨by rw [hp, hs]; rfl, _, hide (h.later hb)⟩
theorem PH.rpeek (h : PH w0 w c vh RH N vr RD vt TL ex) (f : Bool) (hr : Rs 0 (RD f)) (hl : (RD f).length ≤ 8796093022207) {p : Pr} {s : Bool} (hp : ans (mn (kB f) (fun _ => true) (RD f)) = p) (hs : (mn (kB f) (fun _ => true) (RD f)).isSome = s) :
    Calls Try.prog 13 #[.pointer (some ⟨c.rb f, 0, none⟩)] w fun e w' => e = .returned (.tuple #[.agg #[.int .i64 p.1, .int .i64 p.2], .bool s]) ∧ ∃ vr', Hid (PH w0 w' c vh RH N vr' RD vt TL ex) := by
  refine (rpeekQ (h.rq f) hr hl).mono ?_
  rintro e w' ⟨rfl, hb⟩
  exact ⟨by rw [hp, hs]; rfl, _, hide (h.later hb)⟩
theorem PH.rem (h : PH w0 w c vh RH N vr RD vt TL ex) (f : Bool) (hN : N f ≤ 5864062014805) {isf : FuncId} {caps : Array Value} {z : Int} (hI : IOk w isf caps (fun x => x.2 == z)) {p : Pr} {s : Bool} {R' : List En} (hp : ans (mn (kB f) (fun x => x.2 == z) (RH f)) = p) (hs : (mn (kB f) (fun x => x.2 == z) (RH f)).isSome = s) (hR : nx (RH f) (mn (kB f) (fun x => x.2 == z) (RH f)) = R') :
    Calls Try.prog 14 #[.pointer (some ⟨c.hb f, 0, none⟩), .func (Fn.func isf) #[] caps] w fun e w' => e = .returned (.tuple #[.agg #[.int .i64 p.1, .int .i64 p.2], .bool s]) ∧ ∃ vh', Hid (PH w0 w' c vh' (up f R' RH) N vr RD vt TL ex) := by
  refine (removeQ (lfB_ok f) hI (h.hq f) hN).mono ?_
  rintro e w' ⟨rfl, v', hq, hf⟩
  rw [hR] at hq
  have := h.setH f hf hq
  rw [up_self] at this
  exact ⟨by rw [hp, hs]; rfl, _, hide this⟩
theorem PH.rrem (h : PH w0 w c vh RH N vr RD vt TL ex) (f : Bool) (hr : Rs 0 (RD f)) (hl : (RD f).length ≤ 8796093022207) {z : Int} {p : Pr} {s : Bool} {R' : List En} (hp : ans (mn (kB f) (fun x => x.2 == z) (RD f)) = p) (hs : (mn (kB f) (fun x => x.2 == z) (RD f)).isSome = s) (hR : nx (RD f) (mn (kB f) (fun x => x.2 == z) (RD f)) = R') :
    Calls Try.prog 16 #[.pointer (some ⟨c.rb f, 0, none⟩), .int .i64 z] w fun e w' => e = .returned (.tuple #[.agg #[.int .i64 p.1, .int .i64 p.2], .bool s]) ∧ ∃ vr', Hid (PH w0 w' c vh RH N vr' (up f R' RD) vt TL ex) := by
  refine (rremQ z (h.rq f) hr hl).mono ?_
  rintro e w' ⟨rfl, v', hq, hf⟩
  rw [hR] at hq
  exact ⟨by rw [hp, hs]; rfl, _, hide (h.setR f hf hq)⟩
theorem PH.push (h : PH w0 w c vh RH N vr RD vt TL ex) (f : Bool) (hN : N f < 5864062014805) (a b : Int) :
    Calls Try.prog 10 #[.pointer (some ⟨c.hb f, 0, none⟩), .agg #[.int .i64 a, .int .i64 b]] w fun e w' => (∃ u, e = .returned u) ∧ ∃ vh', Hid (PH w0 w' c vh' (up f (RH f ++ [((a, b), N f)]) RH) (up f (N f + 1) N) vr RD vt TL ex) := by
  refine (pushQ (lfB_ok f) (a, b) (h.hq f) hN).mono ?_
  rintro e w' ⟨⟨u, rfl⟩, v', hq, hf⟩
  exact ⟨⟨u, rfl⟩, _, hide (h.setH f hf hq)⟩
theorem PH.rpush (h : PH w0 w c vh RH N vr RD vt TL ex) (f : Bool) (hl : (RD f).length + 1 ≤ 8796093022207) (a b : Int) (n : Nat) :
    Calls Try.prog 11 #[.pointer (some ⟨c.rb f, 0, none⟩), .agg #[.int .i64 a, .int .i64 b]] w fun e w' => (∃ u, e = .returned u) ∧ ∃ vr', Hid (PH w0 w' c vh RH N vr' (up f (RD f ++ [((a, b), n)]) RD) vt TL ex) := by
  refine (rpushQ (a, b) n (h.rq f) hl).mono ?_
  rintro e w' ⟨⟨u, rfl⟩, v', hq, hf⟩
  exact ⟨⟨u, rfl⟩, _, hide (h.setR f hf hq)⟩
theorem PH.sort (h : PH w0 w c vh RH N vr RD vt TL ex) (f : Bool) (hN : N f ≤ 5864062014805) {L : List Pr} (hL : srt (kB f) (RH f).length (RH f) = L) :
    Calls Try.prog 18 #[.pointer (some ⟨c.hb f, 0, none⟩)] w fun e w' => ∃ a cap, e = .returned (.slice a L.length cap) ∧ Hid (PH w0 w' c vh RH N vr RD vt TL (ex ++ [OCp w0.heap.size (.slice a L.length cap) L])) := by
  refine (sortedQ (lfB_ok f) (h.hq f) hN).mono ?_
  rintro e w' ⟨v', rfl, ho, hb⟩
  rw [hL] at ho
  obtain ⟨a, cap, rfl⟩ := ho.slice
  exact ⟨a, cap, rfl, hide (h.row hb ho)⟩
theorem PH.rsort (h : PH w0 w c vh RH N vr RD vt TL ex) (f : Bool) (hr : Rs 0 (RD f)) (hl : (RD f).length ≤ 5864062014805) {L : List Pr} (hL : srt (kB f) (RD f).length (RD f) = L) :
    Calls Try.prog 20 #[.pointer (some ⟨c.rb f, 0, none⟩)] w fun e w' => ∃ a cap, e = .returned (.slice a L.length cap) ∧ Hid (PH w0 w' c vh RH N vr RD vt TL (ex ++ [OCp w0.heap.size (.slice a L.length cap) L])) := by
  refine (rsorted_any (h.rq f) hr hl).mono ?_
  rintro e w' ⟨v', rfl, ho, hb⟩
  rw [hL] at ho
  obtain ⟨a, cap, rfl⟩ := ho.slice
  exact ⟨a, cap, rfl, hide (h.row hb ho)⟩
end
set_option maxRecDepth 100000 in
theorem is2_ok (a : Int) (sb : Nat) (w : World) (h : w.heap[sb]? = some (.cells #[.int .i64 a] 3 (0, 0))) : IOk w 15 #[.pointer (some ⟨sb, 0, none⟩)] (fun x => x.2 == a) := by
  refine ⟨fun W a => rfl, fun x W hb => ?_⟩
  obtain ⟨x1, x2⟩ := x
  have hW := blk_later h hb
  have B0 := hide ((Below.refl W.heap.size W).alloc (Nat.le_refl _) (.cells #[.int .i64 x1, .int .i64 x2] 25))
  have c1 : (W.alloc (.cells #[.int .i64 x1, .int .i64 x2] 25)).cell? ⟨sb, 0, none⟩ = some (.int .i64 a) := by
    rw [cell_of_row _ _ 0 _ _ _ (blk_later hW ((Below.refl W.heap.size W).alloc (Nat.le_refl _) _))]; rfl
  show Calls Try.prog 15 #[.agg #[.int .i64 x1, .int .i64 x2], .pointer (some ⟨sb, 0, none⟩)] W _
  dsimp only
  clear h hb hW
  cases d : (x2 == a)
  all_goals
    go_enter Try.func15, Try.ntmps15
    go_wp2_with fail
    go_ret
    exact ⟨rfl, B0.out⟩
theorem nqPr (a b : Int) (W : World) : (binOp .neq 25 (.agg #[.int .i64 a, .int .i64 b]) (.agg #[.int .i64 a, .int .i64 b])).run Try.prog W = .ok (.bool false) W := by
  have h := eqMk a b a b W
  simp only [binOp]
  simp [Op.equal, Op.maxDepth, h]
theorem f_of (k : Int) : ∃ f : Bool, k % 2 = (f.toNat : Int) := by
  rcases (show k % 2 = 0 ∨ k % 2 = 1 by omega) with h | h
  · exact ⟨false, h⟩
  · exact ⟨true, h⟩
theorem six (k : Int) : k = 0 ∨ k = 1 ∨ k = 2 ∨ k = 3 ∨ k = 4 ∨ ((k == 0) = false ∧ (k == 1) = false ∧ (k == 2) = false ∧ (k == 3) = false ∧ (k == 4) = false) := by
  by_cases h0 : k = 0
  · exact .inl h0
  by_cases h1 : k = 1
  · exact .inr (.inl h1)
  by_cases h2 : k = 2
  · exact .inr (.inr (.inl h2))
  by_cases h3 : k = 3
  · exact .inr (.inr (.inr (.inl h3)))
  by_cases h4 : k = 4
  · exact .inr (.inr (.inr (.inr (.inl h4))))
  exact .inr (.inr (.inr (.inr (.inr ⟨by simpa using h0, by simpa using h1, by simpa using h2, by simpa using h3, by simpa using h4⟩))))
end Go.Proofs.Ytegemfkadclnkaa
