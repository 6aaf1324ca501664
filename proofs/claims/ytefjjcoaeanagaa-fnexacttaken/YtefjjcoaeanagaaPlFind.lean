/- The place of the first thing of a name. Written by tools/gen_plan.py. -/
import Derived.Test.YtefjjcoaeanagaaDat2
import Derived.Test.YtefjjcoaeanagaaPl
namespace Go.Proofs.Ytefjjcoaeanagaa
open Go.RowKit

/-- The place of the first thing of that name; -1 where there is none. -/
def findAt {X : Type} (f : X → ByteArray) : List X → ByteArray → Int
  | [], _ => -1
  | x :: r, n => if ((f x).toList == n.toList) = true then 0 else if findAt f r n < 0 then -1 else findAt f r n + 1

theorem findAt_hit {X : Type} (f : X → ByteArray) (xs : List X) (n : ByteArray) (k : Nat) (h : k < xs.length) (hne : ∀ m (hm : m < xs.length), m < k → ((f xs[m]).toList == n.toList) = false) (he : ((f xs[k]).toList == n.toList) = true) : findAt f xs n = k := by
  induction xs generalizing k with
  | nil => simp at h
  | cons x r ih =>
    cases k with
    | zero =>
      have he' : ((f x).toList == n.toList) = true := he
      rw [findAt, if_pos he']
      rfl
    | succ k =>
      have h0 : ((f x).toList == n.toList) = false := hne 0 (by simp) (by omega)
      have hr := ih k (by simpa using h) (fun m hm hmk => hne (m + 1) (by simpa using hm) (by omega)) he
      rw [findAt, if_neg (by rw [h0]; simp), hr, if_neg (by omega)]
      omega

theorem findAt_miss {X : Type} (f : X → ByteArray) (xs : List X) (n : ByteArray) (hne : ∀ m (hm : m < xs.length), ((f xs[m]).toList == n.toList) = false) : findAt f xs n = -1 := by
  induction xs with
  | nil => rfl
  | cons x r ih =>
    have h0 : ((f x).toList == n.toList) = false := hne 0 (by simp)
    have hr := ih fun m hm => hne (m + 1) (by simpa using hm)
    rw [findAt, if_neg (by rw [h0]; simp), hr, if_pos (by omega)]

theorem findAt_small {X : Type} (f : X → ByteArray) (xs : List X) (n : ByteArray) : -1 ≤ findAt f xs n ∧ findAt f xs n < xs.length := by
  induction xs with
  | nil => simp [findAt]
  | cons x r ih =>
    rw [findAt, List.length_cons]
    split
    · omega
    · split <;> omega

end Go.Proofs.Ytefjjcoaeanagaa
