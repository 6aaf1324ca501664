/- The laws' marks: markText answers by its number alone; markStringS writes the marks into its list, heldStringS finds them there. -/
import Derived.Test.YtdggcgipchijjaaStrs
import Derived.Test.YtdggcgipchijjaaMarkText
import Derived.Deep.RegionHeld3
namespace Go.Proofs.Ytdggcgipchijjaa
open Go.RowKit

/-- n marks from k on. -/
def marks (k n : Nat) : List ByteArray := (List.range n).map fun i => markT (k + i)
@[simp] theorem marks_length (k n : Nat) : (marks k n).length = n := by simp [marks]
theorem marks_at (k n i : Nat) (h : i < n) : (marks k n)[i]'(by simpa using h) = markT (k + i) := by simp [marks]
theorem marks_succ (k n : Nat) : marks k (n + 1) = marks k n ++ [markT (k + n)] := by simp [marks, List.range_succ]

theorem marks_sizes (k n : Nat) (h : k + n ≤ 33554432) : ∀ s ∈ marks k n, s.size ≤ maxLen := by
  intro s hs
  obtain ⟨i, hi, rfl⟩ := List.mem_map.1 hs
  have := markT_size (k + i)
  have := List.mem_range.1 hi
  unfold maxLen
  omega

/-- The texts xs, the first i of them marked. -/
def marked (xs : List ByteArray) (k i : Nat) : List Value := (marks k i ++ xs.drop i).map Value.string

theorem marked_set (xs : List ByteArray) (k i : Nat) (h : i < xs.length) : (marked xs k i).set i (.string (markT (k + i))) = marked xs k (i + 1) := by
  unfold marked
  rw [List.map_append, List.set_append_right _ _ (by simp), marks_succ, List.drop_eq_getElem_cons h]
  simp only [List.length_map, marks_length, Nat.sub_self, List.map_cons, List.set_cons_zero, List.map_append, List.map_nil, List.append_assoc, List.singleton_append]

theorem marked_at (xs : List ByteArray) (k i : Nat) (h : i < xs.length) : ∃ s, (marked xs k i)[i]? = some (.string s) := by
  unfold marked
  rw [List.map_append, List.getElem?_append_right (by simp), List.drop_eq_getElem_cons h]
  exact ⟨xs[i], by simp⟩

theorem marked_all (xs : List ByteArray) (k : Nat) : marked xs k xs.length = (marks k xs.length).map Value.string := by simp [marked]
theorem marked_none (xs : List ByteArray) (k : Nat) : marked xs k 0 = xs.map Value.string := by simp [marked, marks]

theorem grown_below_set {w wr w2 : World} {g : Nat} (h : w.grownBy wr (some g)) (hb : Below wr.heap.size wr w2) (i : Nat) (u : Value) : w.grownBy (w2.setCell ⟨g, i, none⟩ u) (some g) :=
  ⟨by rw [← h.os, ← hb.os]; rfl, by rw [← h.tape, ← hb.tape]; rfl, by rw [← h.output, ← hb.output]; rfl, by have h1 := h.size; have h2 := hb.size; simp [World.setCell]; omega,
   fun k hk hne => by rw [Below.heap_setCell _ _ _ _ (fun e => hne (by rw [e])), hb.block k (Nat.lt_of_lt_of_le hk h.size), h.block k hk hne]⟩

/-- The end of a marking. -/
def Marked (w : World) (B : Nat) (a : Option Addr) (c k n : Nat) (e : Ending) (w' : World) : Prop :=
  e = .returned (.int .i64 ((k + n : Nat) : Int)) ∧ Own w' B a c (marks k n) ∧ w.grownBy w' (Value.slice a n c).ownBlock

set_option maxHeartbeats 400000 in
theorem markStrs (a : Option Addr) (c : Nat) (xs : List ByteArray) (k B : Nat) (w : World) (hx : Own w B a c xs) (hk1 : 1 ≤ k) (hk2 : k ≤ 16) (hn : xs.length ≤ 8388608) :
    Calls Try.prog 25 #[.slice a xs.length c, .int .i64 (k : Int)] w (Marked w B a c k xs.length) := by
  go_enter Try.func25, Try.ntmps25
  go_wp2
  go_loopw [1, 5] (fun q i wr => ∃ j : Nat, j ≤ xs.length ∧ i = .int .i64 j ∧ q = .int .i64 ((k + j : Nat) : Int) ∧ wr.ownsRow B 9 1 (.slice a xs.length c) xs.length (marked xs k j) ∧ w.grownBy wr (Value.slice a xs.length c).ownBlock) (fun _ i _ => xs.length - (intOf i).toNat)
  case atStart => exact ⟨0, Nat.zero_le _, rfl, rfl, by rw [marked_none]; exact hx, World.grownBy.refl _ _⟩
  case round =>
    obtain ⟨j, hj, rfl, rfl, hown, hg⟩ := hrel
    by_cases hlt : j < xs.length
    · rcases hx.form with ⟨_, _, h0⟩ | ⟨g, rfl, hBg, hgl⟩
      · subst h0; simp at hlt
      obtain ⟨s0, hs0⟩ := marked_at xs k j hlt
      have hcell : wr.cell? ⟨g, j, none⟩ = some (.string s0) := (hown.cellAt j (by omega)).trans hs0
      have hfz : wr.frozen? ⟨g, j, none⟩ = false := hown.frozenAt j
      have hglr : g < wr.heap.size := Nat.lt_of_lt_of_le hgl hg.size
      clear hs0
      have HX := Lib.hid hx
      clear hx
      go_wp2_with (go_at_call 44; refine (markText (k + j) _ (by omega) (by omega)).mono ?_; rintro e w2 ⟨rfl, hb2⟩; have hc2 : w2.cell? ⟨g, j, none⟩ = some (.string s0) := (hb2.cell (p := ⟨g, j, none⟩) hglr).trans hcell; have hf2 : w2.frozen? ⟨g, j, none⟩ = false := (hb2.frozen (p := ⟨g, j, none⟩) hglr).trans hfz)
      go_roundw
      case rel =>
        have hown2 : w2.ownsRow B 9 1 (.slice (some ⟨g, 0, none⟩) xs.length c) xs.length (marked xs k j) := hown.kept (row := none) ⟨hb2.os, hb2.tape, hb2.output, hb2.size, fun i hi _ => hb2.block i hi⟩ (.inr (by simp [Value.ownBlock]))
        have R := (hown2.stored j (.string (markT (k + j)))).1
        rw [marked_set xs k j hlt] at R
        exact ⟨j + 1, by omega, by go_num, by go_num, R, grown_below_set hg hb2 j _⟩
      case measure => simp [intOf]; omega
    · obtain rfl : j = xs.length := by omega
      rw [marked_all] at hown
      go_wp2
      go_ret
      exact ⟨rfl, by unfold Own; simpa using hown, hg⟩

set_option maxHeartbeats 400000 in
theorem heldStrs (a : Option Addr) (c k n : Nat) (w : World) (hx : Strs w a c (marks k n)) (hk1 : 1 ≤ k) (hk2 : k ≤ 16) (hn : n ≤ 8388608) :
    Calls Try.prog 26 #[.slice a n c, .int .i64 (k : Int)] w fun e w' => e = .returned (.int .i64 ((k + n : Nat) : Int)) ∧ Below w.heap.size w w' := by
  go_enter Try.func26, Try.ntmps26
  go_wp2
  go_loopw [1, 5] (fun q i wr => ∃ j : Nat, j ≤ n ∧ i = .int .i64 j ∧ q = .int .i64 ((k + j : Nat) : Int) ∧ Below w.heap.size w wr) (fun _ i _ => n - (intOf i).toNat)
  case atStart => exact ⟨0, Nat.zero_le _, rfl, rfl, Below.refl _ _⟩
  case round =>
    obtain ⟨j, hj, rfl, rfl, hb⟩ := hrel
    by_cases hlt : j < n
    · obtain ⟨b, off, rfl, hbl, hc⟩ := (hx.below hb).spot (k := j) (by simpa using hlt)
      rw [marks_at k n j hlt] at hc
      have hs : (!((markT (k + j)).toList == (markT (k + j)).toList)) = false := by simp
      go_wp2_with fail
      go_region_held3 (fun w' => w'.cell? ⟨b, off + j, none⟩ = some (.string (markT (k + j)))) (first | exact hc | exact (hb2.cell (p := ⟨b, off + j, none⟩) hbl).trans hc)
        (first | (go_at_call 44; refine (markText (k + j) _ (by omega) (by omega)).mono ?_; rintro e w2 ⟨rfl, hb2⟩))
      have hbb : Below w.heap.size w w2 := hb.drew.trans (hb2.mono hb.size)
      clear hb2
      go_wp2
      go_roundw
      case rel => exact ⟨j + 1, by omega, by go_num, by go_num, hbb⟩
      case measure => simp [intOf]; omega
    · go_wp2
      go_ret
      obtain rfl : j = n := by omega
      exact ⟨rfl, hb⟩

end Go.Proofs.Ytdggcgipchijjaa
