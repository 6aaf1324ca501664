/- The laws' marks: markText answers by its number alone; markStringS writes the marks into its list, heldStringS finds them there. -/
import Derived.Test.YtboanhfmmhjepaaStrs
import Derived.Laws.BytesString
import Derived.Deep.RegionHeld3
namespace Go.Proofs.Ytboanhfmmhjepaa
open Go.RowKit

/-- The digits of k ahead of out. -/
def digits : Nat → Nat → List UInt8 → List UInt8
  | 0, _, out => out
  | f + 1, k, out => if k = 0 then out else digits f (k / 10) ((48 + UInt8.ofNat (k % 10)) :: out)

theorem digits_step (f k : Nat) (out : List UInt8) (h0 : 0 < k) (hf : k ≤ f) : ∃ f', k / 10 ≤ f' ∧ digits f k out = digits f' (k / 10) ((48 + UInt8.ofNat (k % 10)) :: out) := by
  cases f with
  | zero => omega
  | succ f => exact ⟨f, by omega, by rw [digits, if_neg (by omega)]⟩

theorem digits_zero (f : Nat) (out : List UInt8) : digits f 0 out = out := by
  cases f <;> simp [digits]

def markT (k : Nat) : ByteArray := ⟨((109 : UInt8) :: digits k k []).toArray⟩

theorem ba_cons (x : UInt8) (out : List UInt8) : (⟨#[x]⟩ : ByteArray) ++ ⟨out.toArray⟩ = ⟨(x :: out).toArray⟩ := by
  apply ByteArray.ext
  simp [ByteArray.data_append]

theorem convOne (W : World) (g : Nat) (x : Int) (h : W.cell? ⟨g, 0, none⟩ = some (.int .u8 x)) :
    (convert 22 9 (.slice (some ⟨g, 0, none⟩) 1 1)).run Try.prog W = .ok (.string ⟨#[UInt8.ofNat x.toNat]⟩) W := by
  rw [run_convert_bytes_string W _ _ _ _ _ _ Try.underlying22 Try.underlying5 Try.underlying9, run_bytesToString W _ 1 1 [x]]
  · rfl
  · simp [loadCells, h, go_sem]

set_option maxHeartbeats 400000 in
theorem markText (k0 : Nat) (w : World) (h1 : 1 ≤ k0) (h2 : k0 ≤ 16777216) :
    Calls Try.prog 48 #[.int .i64 (k0 : Int)] w fun e w' => e = .returned (.string (markT k0)) ∧ Below w.heap.size w w' := by
  go_enter Try.func48, Try.ntmps48
  go_wp2
  go_loopw [0, 3] (fun n o wr => ∃ (k f : Nat) (out : List UInt8), n = .int .i64 k ∧ o = .string ⟨out.toArray⟩ ∧ k ≤ f ∧ out.length + k ≤ k0 ∧ Hid (digits f k out = digits k0 k0 []) ∧ Below w.heap.size w wr) (fun n _ _ => (intOf n).toNat)
  case atStart => exact ⟨k0, k0, [], rfl, rfl, by omega, by simp, rfl, Below.refl _ _⟩
  case round =>
    obtain ⟨k, f, out, rfl, rfl, hf, hlen, hd, hb⟩ := hrel
    by_cases hp : 0 < k
    · obtain ⟨f', hf', hst⟩ := digits_step f k out hp hf
      have H := Lib.hid (hst.symm.trans hd.out)
      have hcv := fun (W : World) (g : Nat) (x : Int) => convOne W g x
      clear hst hd
      go_wp2
      go_roundw
      case rel => exact ⟨k / 10, f', (48 + UInt8.ofNat (k % 10)) :: out, by simp, congrArg Value.string (ba_cons _ _), hf', by simp; omega, H, hb.alloc hb.size _⟩
      case measure => simp [intOf]; omega
    · obtain rfl : k = 0 := by omega
      have hd' := hd.out
      rw [digits_zero] at hd'
      have H : Hid (Value.string (⟨#[109]⟩ ++ ⟨out.toArray⟩) = .string (markT k0)) := by
        unfold Hid markT; rw [ba_cons, hd']
      clear hd hd'
      go_wp2
      go_ret
      exact ⟨congrArg Ending.returned H.out, hb⟩

/-- n marks from k on. -/
def marks (k n : Nat) : List ByteArray := (List.range n).map fun i => markT (k + i)
@[simp] theorem marks_length (k n : Nat) : (marks k n).length = n := by simp [marks]
theorem marks_at (k n i : Nat) (h : i < n) : (marks k n)[i]'(by simpa using h) = markT (k + i) := by simp [marks]
theorem marks_succ (k n : Nat) : marks k (n + 1) = marks k n ++ [markT (k + n)] := by simp [marks, List.range_succ]

theorem digits_size (f k : Nat) (out : List UInt8) : (digits f k out).length ≤ out.length + f := by
  induction f generalizing k out with
  | zero => simp [digits]
  | succ f ih =>
    rw [digits]
    split
    · omega
    · have := ih (k / 10) ((48 + UInt8.ofNat (k % 10)) :: out)
      simp at this
      omega

theorem markT_size (k : Nat) : (markT k).size ≤ k + 1 := by
  have := digits_size k k []
  simp at this
  simp [markT, ByteArray.size]
  omega

theorem marks_sizes (k n : Nat) (h : k + n ≤ 33554432) : ∀ s ∈ marks k n, s.size ≤ maxLen := by
  intro s hs
  obtain ⟨i, hi, rfl⟩ := List.mem_map.1 hs
  have := markT_size (k + i)
  have := List.mem_range.1 hi
  unfold maxLen
  omega

/-- The texts xs, the first i of them marked. -/
def marked (xs : List ByteArray) (k i : Nat) : List Value := (marks k i ++ xs.drop i).map Value.string

theorem marked_set (xs : List ByteArray) (k i : Nat) (h : i < xs.length) : (marked xs k i).set i (.string (markT (k + i))) = marked xs k (i + 1) := by
  unfold marked
  rw [List.map_append, List.set_append_right _ _ (by simp), marks_succ, List.drop_eq_getElem_cons h]
  simp only [List.length_map, marks_length, Nat.sub_self, List.map_cons, List.set_cons_zero, List.map_append, List.map_nil, List.append_assoc, List.singleton_append]

theorem marked_at (xs : List ByteArray) (k i : Nat) (h : i < xs.length) : ∃ s, (marked xs k i)[i]? = some (.string s) := by
  unfold marked
  rw [List.map_append, List.getElem?_append_right (by simp), List.drop_eq_getElem_cons h]
  exact ⟨xs[i], by simp⟩

theorem marked_all (xs : List ByteArray) (k : Nat) : marked xs k xs.length = (marks k xs.length).map Value.string := by simp [marked]
theorem marked_none (xs : List ByteArray) (k : Nat) : marked xs k 0 = xs.map Value.string := by simp [marked, marks]

theorem grown_below_set {w wr w2 : World} {g : Nat} (h : w.grownBy wr (some g)) (hb : Below wr.heap.size wr w2) (i : Nat) (u : Value) : w.grownBy (w2.setCell ⟨g, i, none⟩ u) (some g) :=
  ⟨by rw [← h.os, ← hb.os]; rfl, by rw [← h.tape, ← hb.tape]; rfl, by rw [← h.output, ← hb.output]; rfl, by have h1 := h.size; have h2 := hb.size; simp [World.setCell]; omega,
   fun k hk hne => by rw [Below.heap_setCell _ _ _ _ (fun e => hne (by rw [e])), hb.block k (Nat.lt_of_lt_of_le hk h.size), h.block k hk hne]⟩

/-- The end of a marking. -/
def Marked (w : World) (B : Nat) (a : Option Addr) (c k n : Nat) (e : Ending) (w' : World) : Prop :=
  e = .returned (.int .i64 ((k + n : Nat) : Int)) ∧ Own w' B a c (marks k n) ∧ w.grownBy w' (Value.slice a n c).ownBlock

set_option maxHeartbeats 400000 in
theorem markStrs (a : Option Addr) (c : Nat) (xs : List ByteArray) (k B : Nat) (w : World) (hx : Own w B a c xs) (hk1 : 1 ≤ k) (hk2 : k ≤ 16) (hn : xs.length ≤ 8388608) :
    Calls Try.prog 35 #[.slice a xs.length c, .int .i64 (k : Int)] w (Marked w B a c k xs.length) := by
  go_enter Try.func35, Try.ntmps35
  go_wp2
  go_loopw [1, 5] (fun q i wr => ∃ j : Nat, j ≤ xs.length ∧ i = .int .i64 j ∧ q = .int .i64 ((k + j : Nat) : Int) ∧ wr.ownsRow B 9 1 (.slice a xs.length c) xs.length (marked xs k j) ∧ w.grownBy wr (Value.slice a xs.length c).ownBlock) (fun _ i _ => xs.length - (intOf i).toNat)
  case atStart => exact ⟨0, Nat.zero_le _, rfl, rfl, by rw [marked_none]; exact hx, World.grownBy.refl _ _⟩
  case round =>
    obtain ⟨j, hj, rfl, rfl, hown, hg⟩ := hrel
    by_cases hlt : j < xs.length
    · rcases hx.form with ⟨_, _, h0⟩ | ⟨g, rfl, hBg, hgl⟩
      · subst h0; simp at hlt
      obtain ⟨s0, hs0⟩ := marked_at xs k j hlt
      have hcell : wr.cell? ⟨g, j, none⟩ = some (.string s0) := (hown.cellAt j (by omega)).trans hs0
      have hfz : wr.frozen? ⟨g, j, none⟩ = false := hown.frozenAt j
      have hglr : g < wr.heap.size := Nat.lt_of_lt_of_le hgl hg.size
      clear hs0
      have HX := Lib.hid hx
      clear hx
      go_wp2_with (go_at_call 48; refine (markText (k + j) _ (by omega) (by omega)).mono ?_; rintro e w2 ⟨rfl, hb2⟩; have hc2 : w2.cell? ⟨g, j, none⟩ = some (.string s0) := (hb2.cell (p := ⟨g, j, none⟩) hglr).trans hcell; have hf2 : w2.frozen? ⟨g, j, none⟩ = false := (hb2.frozen (p := ⟨g, j, none⟩) hglr).trans hfz)
      go_roundw
      case rel =>
        have hown2 : w2.ownsRow B 9 1 (.slice (some ⟨g, 0, none⟩) xs.length c) xs.length (marked xs k j) := hown.kept (row := none) ⟨hb2.os, hb2.tape, hb2.output, hb2.size, fun i hi _ => hb2.block i hi⟩ (.inr (by simp [Value.ownBlock]))
        have R := (hown2.stored j (.string (markT (k + j)))).1
        rw [marked_set xs k j hlt] at R
        exact ⟨j + 1, by omega, by go_num, by go_num, R, grown_below_set hg hb2 j _⟩
      case measure => simp [intOf]; omega
    · obtain rfl : j = xs.length := by omega
      rw [marked_all] at hown
      go_wp2
      go_ret
      exact ⟨rfl, by unfold Own; simpa using hown, hg⟩

set_option maxHeartbeats 400000 in
theorem heldStrs (a : Option Addr) (c k n : Nat) (w : World) (hx : Strs w a c (marks k n)) (hk1 : 1 ≤ k) (hk2 : k ≤ 16) (hn : n ≤ 8388608) :
    Calls Try.prog 36 #[.slice a n c, .int .i64 (k : Int)] w fun e w' => e = .returned (.int .i64 ((k + n : Nat) : Int)) ∧ Below w.heap.size w w' := by
  go_enter Try.func36, Try.ntmps36
  go_wp2
  go_loopw [1, 5] (fun q i wr => ∃ j : Nat, j ≤ n ∧ i = .int .i64 j ∧ q = .int .i64 ((k + j : Nat) : Int) ∧ Below w.heap.size w wr) (fun _ i _ => n - (intOf i).toNat)
  case atStart => exact ⟨0, Nat.zero_le _, rfl, rfl, Below.refl _ _⟩
  case round =>
    obtain ⟨j, hj, rfl, rfl, hb⟩ := hrel
    by_cases hlt : j < n
    · obtain ⟨b, off, rfl, hbl, hc⟩ := (hx.below hb).spot (k := j) (by simpa using hlt)
      rw [marks_at k n j hlt] at hc
      have hs : (!((markT (k + j)).toList == (markT (k + j)).toList)) = false := by simp
      go_wp2_with fail
      go_region_held3 (fun w' => w'.cell? ⟨b, off + j, none⟩ = some (.string (markT (k + j)))) (first | exact hc | exact (hb2.cell (p := ⟨b, off + j, none⟩) hbl).trans hc)
        (first | (go_at_call 48; refine (markText (k + j) _ (by omega) (by omega)).mono ?_; rintro e w2 ⟨rfl, hb2⟩))
      have hbb : Below w.heap.size w w2 := hb.drew.trans (hb2.mono hb.size)
      clear hb2
      go_wp2
      go_roundw
      case rel => exact ⟨j + 1, by omega, by go_num, by go_num, hbb⟩
      case measure => simp [intOf]; omega
    · go_wp2
      go_ret
      obtain rfl : j = n := by omega
      exact ⟨rfl, hb⟩

end Go.Proofs.Ytboanhfmmhjepaa
