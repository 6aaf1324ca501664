/- The model's one word at a place. -/
import Derived.Test.YtjnanlfahgjcbaaDoorLexSpec5
import Derived.Test.YtjnanlfahgjcbaaDoorToks
namespace Go.Proofs.YtjnanlfahgjcbaaDoor
open Go.RowKit

theorem run_in_at (s : ByteArray) (k : Nat) (h : k < s.size) (hb : moreB s[k] = true) : runN (s.data.toList.drop k) = 1 + runN (s.data.toList.drop (k + 1)) := by
  rw [drop_at s k h]
  unfold runN runL
  rw [List.takeWhile_cons, if_pos hb, List.length_cons]
  omega
theorem run_out_at (s : ByteArray) (k : Nat) (h : k < s.size) (hb : moreB s[k] = false) : runN (s.data.toList.drop k) = 0 := by
  rw [drop_at s k h]
  unfold runN runL
  rw [List.takeWhile_cons, if_neg (by simp [hb])]
  rfl
theorem run_end_at (s : ByteArray) : runN (s.data.toList.drop s.size) = 0 := by
  rw [List.drop_of_length_le (by simp)]; rfl

theorem runL_takeN (l : List UInt8) : runL l = l.take (runN l) := by
  unfold runN runL
  induction l with
  | nil => rfl
  | cons b r ih =>
    rw [List.takeWhile_cons]
    split
    · rw [List.length_cons, List.take_succ_cons, ← ih]
    · rfl

theorem run_extract (s : ByteArray) (i n : Nat) (hn : runN (s.data.toList.drop i) = n) : (s.extract i (i + n)).data.toList = runL (s.data.toList.drop i) := by
  rw [← Lib.toList_data, extract_toList, runL_takeN, hn, show i + n - i = n by omega]

/-- What is answered for the word at a place. -/
def OneAns (s : ByteArray) (i : Nat) (w : World) (e : Ending) (w' : World) : Prop :=
  ∃ (a : Int) (t : ByteArray) (p : Int) (n : Nat), e = .returned (.tuple #[.agg #[.int .i64 a, .string t, .int .i64 p], .int .i64 (n : Int)]) ∧
    (match one (s.data.toList.drop i) with
      | none => n = 0
      | some x => n = x.2.2 ∧ a = (x.1 : Int) ∧ t = ⟨x.2.1.toArray⟩ ∧ p = (i : Int)) ∧ Below w.heap.size w w'

theorem oneAns_some {s : ByteArray} {i : Nat} {w w' : World} {x : Nat × List UInt8 × Nat} (h : one (s.data.toList.drop i) = some x) {t : ByteArray} (ht : t = ⟨x.2.1.toArray⟩) (hb : Below w.heap.size w w') : OneAns s i w (.returned (.tuple #[.agg #[.int .i64 (x.1 : Int), .string t, .int .i64 (i : Int)], .int .i64 (x.2.2 : Int)])) w' :=
  ⟨_, _, _, _, rfl, by rw [h]; exact ⟨rfl, rfl, ht, rfl⟩, hb⟩

theorem oneAns_none {s : ByteArray} {i : Nat} {w w' : World} (h : one (s.data.toList.drop i) = none) (a : Int) (t : ByteArray) (p : Int) (hb : Below w.heap.size w w') : OneAns s i w (.returned (.tuple #[.agg #[.int .i64 a, .string t, .int .i64 p], .int .i64 0])) w' :=
  ⟨a, t, p, 0, rfl, by rw [h], hb⟩

theorem one_word (s : ByteArray) (i : Nat) (h : i < s.size) (hb : letterB s[i] = true) {n : Nat} (hn : runN (s.data.toList.drop i) = n) :
    one (s.data.toList.drop i) = some (0, (runL (s.data.toList.drop i)).map lowB, n) := by
  have e := drop_at s i h
  rw [e] at hn ⊢
  rw [one, if_pos hb, hn]
theorem one_num (s : ByteArray) (i : Nat) (h : i < s.size) (hb : letterB s[i] = false) (hd : digitB s[i] = true) {n : Nat} (hn : runN (s.data.toList.drop i) = n) :
    one (s.data.toList.drop i) = if 0 ≤ readD (runL (s.data.toList.drop i)) then some (2, runL (s.data.toList.drop i), n) else none := by
  have e := drop_at s i h
  rw [e] at hn ⊢
  rw [one, if_neg (by simp [hb]), if_pos hd, hn]
theorem one_name (s : ByteArray) (i : Nat) (h : i < s.size) (hb : s[i].toNat = 34) :
    one (s.data.toList.drop i) = (quoted s[i] (s.data.toList.drop (i + 1))).bind fun x => if nameB x.1 then some (1, x.1, 1 + x.2) else none := by
  have hq : s[i] = 34 := UInt8.toNat_inj.1 hb
  rw [drop_at s i h, one, if_neg (by simp [letterB, hb]), if_neg (by simp [digitB, hb]), if_pos hb, hq]
theorem one_text (s : ByteArray) (i : Nat) (h : i < s.size) (hb : s[i].toNat = 39) :
    one (s.data.toList.drop i) = (quoted s[i] (s.data.toList.drop (i + 1))).bind fun x => if x.1.length ≤ 100 then some (3, x.1, 1 + x.2) else none := by
  have hq : s[i] = 39 := UInt8.toNat_inj.1 hb
  rw [drop_at s i h, one, if_neg (by simp [letterB, hb]), if_neg (by simp [digitB, hb]), if_neg (by omega), if_pos hb, hq]
theorem one_sign_at (s : ByteArray) (i : Nat) (h : i < s.size) (h1 : letterB s[i] = false) (h2 : digitB s[i] = false) (h3 : s[i].toNat ≠ 34) (h4 : s[i].toNat ≠ 39) :
    one (s.data.toList.drop i) = if signN (s.data.toList.drop i) = 0 then none else some (4, (s.data.toList.drop i).take (signN (s.data.toList.drop i)), signN (s.data.toList.drop i)) := by
  have e := drop_at s i h
  rw [e]
  rw [one, if_neg (by simp [h1]), if_neg (by simp [h2]), if_neg h3, if_neg h4]

theorem extract_arr (s : ByteArray) (i n : Nat) : s.extract i (i + n) = ⟨((s.data.toList.drop i).take n).toArray⟩ := by
  have h := extract_toList s i (i + n)
  rw [show i + n - i = n by omega, Lib.toList_data] at h
  apply ByteArray.ext
  rw [← h]

theorem Below.tok {w w' : World} {cs : Array Value} {t : TypeId} (h : Below (w.alloc (.cells cs t)).heap.size (w.alloc (.cells cs t)) w') : Below w.heap.size w w' :=
  ((Below.refl _ _).alloc (Nat.le_refl _) _).trans (h.mono (by simp))

/-- A new word's three cells stand behind a call. -/
theorem tokCells {w w' : World} {a : Int} {t : ByteArray} {p : Int} {T : TypeId} (h : Below (w.alloc (.cells #[.int .i64 a, .string t, .int .i64 p] T)).heap.size (w.alloc (.cells #[.int .i64 a, .string t, .int .i64 p] T)) w') :
    w'.heap[w.heap.size]? = some (.cells #[.int .i64 a, .string t, .int .i64 p] T (0, 0)) := by
  rw [h.block w.heap.size (by simp)]
  exact heap_alloc_new _ _

theorem signN_le2 (l : List UInt8) : signN l ≤ 2 := by
  cases l with
  | nil => simp [signN]
  | cons b r => cases r with
    | nil => rw [signN]; split <;> omega
    | cons c r => rw [signN]; split <;> (try split) <;> omega

theorem signN_len (l : List UInt8) : signN l ≤ l.length := by
  cases l with
  | nil => simp [signN]
  | cons b r => cases r with
    | nil => rw [signN]; split <;> simp
    | cons c r => rw [signN]; simp only [List.length_cons]; split <;> (try split) <;> omega

theorem quoted_len2 {q : UInt8} : ∀ (m : Nat) (l : List UInt8) (x : List UInt8 × Nat), l.length ≤ m → quoted q l = some x → x.2 ≤ l.length ∧ 1 ≤ x.2 ∧ x.1.length + 1 ≤ x.2
  | _, [], x, _, h => by rw [quoted] at h; cases h
  | _, [b], x, _, h => by
    rw [quoted] at h
    split at h
    · cases h; simp
    · cases h
  | 0, b :: c :: r, x, hm, _ => by simp at hm
  | m + 1, b :: c :: r, x, hm, h => by
    have h' : r.length + 1 ≤ m := by simpa using hm
    rw [quoted] at h
    split at h
    · split at h
      · cases hq : quoted q r with
        | none => rw [hq] at h; cases h
        | some y =>
          rw [hq] at h
          cases h
          have := quoted_len2 m r y (by omega) hq
          simp only [List.length_cons]
          omega
      · cases h; simp
    · cases hq : quoted q (c :: r) with
      | none => rw [hq] at h; cases h
      | some y =>
        rw [hq] at h
        cases h
        have := quoted_len2 m (c :: r) y (by simpa using h') hq
        simp only [List.length_cons] at this ⊢
        omega

end Go.Proofs.YtjnanlfahgjcbaaDoor
