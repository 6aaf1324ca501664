/- The helpers over texts, expressions and types in the one form that schemas take; blocks that are written step by step. -/
import Derived.Test.YtefjjcoaeanagaaDat
import Derived.Test.YtefjjcoaeanagaaTyp2
import Derived.Test.YtefjjcoaeanagaaExSz
import Derived.Test.YtefjjcoaeanagaaExTo
import Derived.Test.YtefjjcoaeanagaaExEq
namespace Go.Proofs.Ytefjjcoaeanagaa
open Go.RowKit

theorem Below.call {n : Nat} {w W w' : World} (hb : Below W.heap.size W w') (h : Below n w W) (hn : n ≤ w.heap.size := by omega) : Below n w w' := h.trans (hb.mono (Nat.le_trans hn h.size))

theorem Blk.call {W w' : World} {b : Nat} {vs : List Value} (hb : Below W.heap.size W w') (h : Blk W b vs) : Blk w' b vs := h.below hb

theorem Kept.call {lo : Nat} {w W w' : World} (hb : Below W.heap.size W w') (h : Kept lo w W) : Kept lo w w' := h.trans (Kept.below hb)

theorem Blk.alloc {w : World} {b : Nat} {vs : List Value} (h : Blk w b vs) (o : Obj) : Blk (w.alloc o) b vs := h.below ((Below.refl _ _).alloc (Nat.le_refl _) _)

theorem blk_new (w : World) (T : TypeId) (vs : List Value) : Blk (w.alloc (.cells vs.toArray T)) w.heap.size vs := by
  refine ⟨by simp, fun j hj => ⟨?_, ?_⟩⟩
  · rw [cell_of_row _ _ _ _ _ _ (heap_alloc_new w _)]
    simp [hj]
  · simp [go_sem]

theorem blk_new' {w : World} {b : Nat} (hb : b = w.heap.size) (T : TypeId) (vs : List Value) : Blk (w.alloc (.cells vs.toArray T)) b vs := by
  subst hb
  exact blk_new w T vs

theorem Blk.set {w : World} {b : Nat} {vs : List Value} (h : Blk w b vs) (j : Nat) (v : Value) : Blk (w.setCell ⟨b, j, none⟩ v) b (vs.set j v) := by
  refine ⟨by simpa [World.setCell] using h.1, fun i hi => ?_⟩
  have hi' : i < vs.length := by simpa using hi
  refine ⟨?_, (World.frozen?_setCell ..).trans (h.2 i hi').2⟩
  by_cases e : i = j
  · subst e
    rw [World.cell?_setCell_same _ _ _ (h.2 i hi').1, List.getElem_set_self]
  · have ha : (⟨b, j, none⟩ : Addr) ≠ ⟨b, i, none⟩ := fun q => e (by cases q; rfl)
    rw [World.cell?_setCell_other _ _ _ _ ha, List.getElem_set_ne (by omega), (h.2 i hi').1]

theorem Blk.other {w : World} {b b' : Nat} {vs : List Value} (h : Blk w b vs) (hne : b ≠ b') (j : Nat) (v : Value) : Blk (w.setCell ⟨b', j, none⟩ v) b vs :=
  ⟨by simpa [World.setCell] using h.1, fun i hi => ⟨(World.cell?_setCell_other _ _ _ _ (fun q => hne (by cases q; rfl))).trans (h.2 i hi).1, (World.frozen?_setCell ..).trans (h.2 i hi).2⟩⟩

theorem leftOf_eq (xs : List ByteArray) (left : Int) : leftOf xs left = leftN (xs.length + lets xs) left := by
  unfold leftOf leftN
  split
  · rw [if_pos (by omega)]
  · rw [if_neg (by omega)]; omega

theorem szSs (a : Option Addr) (c : Nat) (xs : List ByteArray) (left : Int) (w : World) (h : Ss 0 w a c xs) (h0 : 0 ≤ left) (h1 : left ≤ 1048576) :
    Calls Try.prog 108 #[.slice a xs.length c, .int .i64 left] w fun e w' => e = .returned (.int .i64 (leftN (xs.length + lets xs) left)) ∧ Below w.heap.size w w' := by
  refine (szStrs a c xs left w h.1 h0 h1).mono ?_
  rintro e w' ⟨rfl, rfl⟩
  exact ⟨by rw [leftOf_eq], Below.refl _ _⟩

theorem szKs (a : Option Addr) (c : Nat) (xs : List Ex) (left : Int) (w : World) (h : Ks 0 w a c xs) (h0 : 0 ≤ left) (h1 : left ≤ 1048576) :
    Calls Try.prog 109 #[.slice a xs.length c, .int .i64 left] w fun e w' => e = .returned (.int .i64 (leftN (xs.length + wtL xs) left)) ∧ Below w.heap.size w w' := by
  obtain ⟨d, h⟩ := h
  exact szKids d (szEx d) a c xs left w h.at h0 h1

theorem szTy0 (k l : Int) (s : ByteArray) (n : Int) (w : World) (hs : s.size ≤ maxLen) (h0 : 0 ≤ n) (h1 : n ≤ 1048576) :
    Calls Try.prog 114 #[.agg #[.int .i64 k, .int .i64 l, .string s], .int .i64 n] w fun e w' => e = .returned (.int .i64 (leftN s.size n)) ∧ Below w.heap.size w w' := by
  refine (szTy k l s n w hs h0 h1).mono ?_
  rintro e w' ⟨rfl, hb⟩
  refine ⟨?_, hb⟩
  unfold leftN
  split
  · rw [if_pos (by omega)]
  · rw [if_neg (by omega)]

theorem toSs (a : Option Addr) (c : Nat) (xs : List ByteArray) (w : World) (h : Ss 0 w a c xs) (hn : xs.length + lets xs ≤ 1048576) :
    Calls Try.prog 110 #[.slice a xs.length c] w fun e w' => ∃ a' c', e = .returned (.slice a' xs.length c') ∧ Ss w.heap.size w' a' c' xs ∧ Below w.heap.size w w' := by
  refine (toStrs a c xs w h.1 (by omega)).mono ?_
  rintro e w' ⟨a', c', rfl, ho, hb⟩
  exact ⟨a', c', rfl, ho.ss h.1.2.2.1, hb⟩

theorem toKs (a : Option Addr) (c : Nat) (xs : List Ex) (w : World) (h : Ks 0 w a c xs) (hn : xs.length + wtL xs ≤ 1048576) :
    Calls Try.prog 111 #[.slice a xs.length c] w fun e w' => ∃ a' c', e = .returned (.slice a' xs.length c') ∧ Ks w.heap.size w' a' c' xs ∧ Below w.heap.size w w' := by
  obtain ⟨d, h⟩ := h
  refine (toKids d (toEx d) a c xs w h.at hn).mono ?_
  rintro e w' ⟨a', c', rfl, ho, hb⟩
  exact ⟨a', c', rfl, ⟨d, ho⟩, hb⟩

theorem eqSs (a a' : Option Addr) (c c' : Nat) (xs : List ByteArray) (w : World) (h : Ss 0 w a c xs) (h' : Ss 0 w a' c' xs) :
    Calls Try.prog 112 #[.slice a xs.length c, .slice a' xs.length c'] w fun e w' => e = .returned (.bool true) ∧ Below w.heap.size w w' := by
  refine (eqStrs a a' c c' xs xs w h.1 h'.1 rfl).mono ?_
  rintro e w' ⟨rfl, n, rfl⟩
  exact ⟨rfl, below_drewN (Below.refl _ _) n⟩

theorem eqKs (a a' : Option Addr) (c c' : Nat) (xs : List Ex) (w : World) (h : Ks 0 w a c xs) (h' : Ks 0 w a' c' xs) :
    Calls Try.prog 113 #[.slice a xs.length c, .slice a' xs.length c'] w fun e w' => e = .returned (.bool true) ∧ Below w.heap.size w w' := by
  obtain ⟨d, h⟩ := h
  obtain ⟨d', h'⟩ := h'
  exact eqKids (max d d') (eqEx _) a a' c c' xs w (h.at.mono (by omega)) (h'.at.mono (by omega))

set_option maxHeartbeats 1000000 in
theorem eqTy0 (k l : Int) (s : ByteArray) (w : World) :
    Calls Try.prog 116 #[.agg #[.int .i64 k, .int .i64 l, .string s], .agg #[.int .i64 k, .int .i64 l, .string s]] w fun e w' => e = .returned (.bool true) ∧ Below w.heap.size w w' := by
  have e1 : (k != k) = false := by simp
  have e2 : (l != l) = false := by simp
  have e3 : (!(s.toList == s.toList)) = false := by simp
  go_enter Try.func116, Try.ntmps116
  go_wp2_with fail
  go_ret
  exact ⟨rfl, below2 _ _ _⟩

end Go.Proofs.Ytefjjcoaeanagaa
