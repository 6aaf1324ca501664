/- spec.Put, impl.Put (with impl.concat): each answers a new list, the text put in at its place. -/
import Derived.Test.YtefjjcoaeanagaaDoorMLets
import Derived.Test.YtefjjcoaeanagaaDoorMPlain
import Derived.Deep.RegionHeld3
import Derived.Deep.RegionWith
namespace Go.Proofs.YtefjjcoaeanagaaDoor
open Go.RowKit

def lessB (x s : ByteArray) : Bool := Op.bytesLess x.toList s.toList

theorem ba_eq {x s : ByteArray} (h : (x.toList == s.toList) = true) : x = s := by
  apply ByteArray.ext
  have := beq_iff_eq.1 h
  rw [Lib.toList_data, Lib.toList_data] at this
  exact Array.toList_inj.1 this

def putL : List ByteArray → ByteArray → List ByteArray
  | [], s => [s]
  | x :: r, s => if lessB x s then x :: putL r s else if x.toList == s.toList then s :: r else s :: x :: r

theorem putL_len (xs : List ByteArray) (s : ByteArray) : (putL xs s).length ≤ xs.length + 1 := by
  induction xs with
  | nil => simp [putL]
  | cons x r ih => rw [putL]; split <;> (try split) <;> simp <;> omega

theorem putL_mem {xs : List ByteArray} {s t : ByteArray} (h : t ∈ putL xs s) : t = s ∨ t ∈ xs := by
  induction xs with
  | nil => simp [putL] at h; exact .inl h
  | cons x r ih =>
    rw [putL] at h
    split at h
    · rcases List.mem_cons.1 h with rfl | h
      · exact .inr (by simp)
      · rcases ih h with h | h
        · exact .inl h
        · exact .inr (by simp [h])
    · split at h <;> simp at h <;> rcases h with h | h <;> simp [h]

theorem putL_sizes {xs : List ByteArray} {s : ByteArray} (hx : ∀ t ∈ xs, t.size ≤ maxLen) (hs : s.size ≤ maxLen) : ∀ t ∈ putL xs s, t.size ≤ maxLen := by
  intro t ht
  rcases putL_mem ht with rfl | h
  · exact hs
  · exact hx t h

/-- What spec.Put holds behind one element more. -/
def putStep (s : ByteArray) (st : List ByteArray × Bool) (x : ByteArray) : List ByteArray × Bool :=
  if st.2 then (st.1 ++ [x], true) else if lessB x s then (st.1 ++ [x], false) else if x.toList == s.toList then (st.1 ++ [s], true) else (st.1 ++ [s] ++ [x], true)

def putSt (xs : List ByteArray) (s : ByteArray) (k : Nat) : List ByteArray × Bool := (xs.take k).foldl (putStep s) ([], false)

theorem putSt_succ (xs : List ByteArray) (s : ByteArray) (k : Nat) (h : k < xs.length) : putSt xs s (k + 1) = putStep s (putSt xs s k) xs[k] := by
  unfold putSt
  rw [List.take_succ_eq_append_getElem h, List.foldl_append]
  rfl

theorem putSt_true (s : ByteArray) : ∀ (xs acc : List ByteArray), xs.foldl (putStep s) (acc, true) = (acc ++ xs, true)
  | [], acc => by simp
  | x :: r, acc => by
    rw [List.foldl_cons, show putStep s (acc, true) x = (acc ++ [x], true) from by simp [putStep], putSt_true s r]
    simp

theorem putSt_false (s : ByteArray) : ∀ (xs acc : List ByteArray), (let st := xs.foldl (putStep s) (acc, false); if st.2 then st.1 else st.1 ++ [s]) = acc ++ putL xs s
  | [], acc => by simp [putL]
  | x :: r, acc => by
    rw [List.foldl_cons]
    by_cases h1 : lessB x s = true
    · have hst : putStep s (acc, false) x = (acc ++ [x], false) := by simp [putStep, h1]
      rw [hst, putL, if_pos h1]
      simpa using putSt_false s r (acc ++ [x])
    · by_cases h2 : (x.toList == s.toList) = true
      · have hst : putStep s (acc, false) x = (acc ++ [s], true) := by unfold putStep; simp only [Bool.false_eq_true, if_false, h1, h2, if_true]
        rw [hst, putSt_true, putL, if_neg h1, if_pos h2]
        simp
      · have hst : putStep s (acc, false) x = (acc ++ [s] ++ [x], true) := by unfold putStep; simp only [Bool.false_eq_true, if_false, h1, h2]
        rw [hst, putSt_true, putL, if_neg h1, if_neg h2]
        simp

theorem putSt_end (xs : List ByteArray) (s : ByteArray) : (if (putSt xs s xs.length).2 then (putSt xs s xs.length).1 else (putSt xs s xs.length).1 ++ [s]) = putL xs s := by
  have := putSt_false s xs []
  simpa [putSt] using this

theorem putSt_len (xs : List ByteArray) (s : ByteArray) : ∀ k, k ≤ xs.length → (putSt xs s k).1.length ≤ k + 1 ∧ ((putSt xs s k).2 = false → (putSt xs s k).1.length ≤ k)
  | 0, _ => by simp [putSt]
  | k + 1, h => by
    have ih := putSt_len xs s k (by omega)
    rw [putSt_succ xs s k (by omega)]
    unfold putStep
    by_cases h0 : (putSt xs s k).2 = true
    · simp [h0]; omega
    · have := ih.2 (by simpa using h0)
      simp only [h0]
      by_cases h1 : lessB xs[k] s = true
      · simp [h1]; omega
      · by_cases h2 : (xs[k].toList == s.toList) = true
        · simp [h1, h2]; omega
        · simp [h1, h2]; omega

/-- impl.Put cuts at the first place whose text is not ahead. -/
theorem putL_cut : ∀ (xs : List ByteArray) (s : ByteArray) (k : Nat), k ≤ xs.length → (∀ (j : Nat) (h : j < xs.length), j < k → lessB xs[j] s = true) → (∀ h : k < xs.length, lessB xs[k] s = false) →
    putL xs s = xs.take k ++ [s] ++ xs.drop (if (∃ h : k < xs.length, (xs[k].toList == s.toList) = true) then k + 1 else k)
  | [], s, k, hk, _, _ => by
    have : k = 0 := by simpa using hk
    subst this
    simp [putL]
  | x :: r, s, 0, _, _, h => by
    have h0 := h (by simp)
    simp at h0
    rw [putL, if_neg (by simp [h0])]
    by_cases h2 : (x.toList == s.toList) = true
    · rw [if_pos h2, if_pos ⟨by simp, by simpa using h2⟩]; simp
    · rw [if_neg h2, if_neg (by rintro ⟨_, h⟩; exact h2 (by simpa using h))]; simp
  | x :: r, s, k + 1, hk, hl, h => by
    have h0 := hl 0 (by simp) (by omega)
    simp at h0
    rw [putL, if_pos h0, putL_cut r s k (by simpa using hk) (fun j hj hjk => hl (j + 1) (by simpa using hj) (by omega)) (fun hk' => h (by simpa using hk'))]
    by_cases h2 : ∃ h : k < r.length, (r[k].toList == s.toList) = true
    · rw [if_pos h2, if_pos (by obtain ⟨p, q⟩ := h2; exact ⟨by simpa using p, by simpa using q⟩)]; simp
    · rw [if_neg h2, if_neg (by rintro ⟨p, q⟩; exact h2 ⟨by simpa using p, by simpa using q⟩)]; simp

/-- The parts of a list, each a slice that reads as texts. -/
structure Part where
  at_ : Option Addr
  cap : Nat
  xs : List ByteArray

def Part.value (p : Part) : Value := .slice p.at_ p.xs.length p.cap
def flat (ps : List Part) : List ByteArray := ps.flatMap Part.xs

theorem flat_succ (ps : List Part) (k : Nat) (h : k < ps.length) : flat (ps.take (k + 1)) = flat (ps.take k) ++ ps[k].xs := by
  unfold flat
  rw [List.take_succ_eq_append_getElem h, List.flatMap_append]
  simp

theorem flat_le (ps : List Part) (k : Nat) : (flat (ps.take k)).length ≤ (flat ps).length := by
  unfold flat
  conv => rhs; rw [← List.take_append_drop k ps, List.flatMap_append, List.length_append]
  omega

theorem Strs.front {w : World} {a : Option Addr} {c : Nat} {xs : List ByteArray} (h : Strs w a c xs) (k : Nat) : Strs w a c (xs.take k) := by
  obtain ⟨h1, h2, h3, h3', h4⟩ := h
  refine ⟨by simp; omega, h2, fun s hs => h3 s (List.mem_of_mem_take hs), h3', fun hp => ?_⟩
  obtain ⟨b, off, ha, hlt, hc⟩ := h4 (by simp at hp; omega)
  exact ⟨b, off, ha, hlt, fun i hi => by rw [List.getElem_take]; exact hc i (by simp at hi; omega)⟩

theorem Strs.back {w : World} {b off c : Nat} {xs : List ByteArray} (h : Strs w (some ⟨b, off, none⟩) c xs) (k : Nat) (hk : k ≤ xs.length) : Strs w (some ⟨b, off + k, none⟩) (c - k) (xs.drop k) := by
  obtain ⟨h1, h2, h3, h3', h4⟩ := h
  refine ⟨by simp; omega, by omega, fun s hs => h3 s (List.mem_of_mem_drop hs), (fun h => by cases h), fun hp => ?_⟩
  obtain ⟨b', off', ha, hlt, hc⟩ := h4 (by simp at hp; omega)
  cases ha
  exact ⟨b, off + k, rfl, hlt, fun i hi => by rw [List.getElem_drop, Nat.add_assoc]; exact hc (k + i) (by simp at hi; omega)⟩

theorem sized_string (W : World) : (sizeOf (Tryd.prog.elem 39)).run Tryd.prog W = .ok 1 W := by kernel_rfl

set_option maxRecDepth 100000 in
theorem sliceFront {w : World} {a : Option Addr} {c : Nat} {xs : List ByteArray} (hx : Strs w a c xs) (k : Nat) (hk : k ≤ xs.length) :
    ∃ A1, (∀ W : World, (Instr.slice 39 (.slice a xs.length c) none (some (.int .i64 (k : Int))) none).run Tryd.prog W = .ok (.slice A1 k c) W) ∧ Strs w A1 c (xs.take k) := by
  have hr : ∀ W : World, (Instr.slice 39 (.slice a xs.length c) none (some (.int .i64 (k : Int))) none).run Tryd.prog W = .ok (sliced a 0 k c 1) W := by
    intro W
    rw [run_slice_h (P := Tryd.prog) W 39 a xs.length c Tryd.underlying39 .i64 (k : Int) (by omega) (by have := hx.1; omega), sized_string]
    simp [Result.andThen]
  have hf := hx.front k
  have hS : sliced a 0 k c 1 = .slice a k c := by
    unfold sliced
    rcases a with _ | ⟨b, off, sp⟩ <;> simp [Addr.add]
  exact ⟨a, fun W => by rw [hr W, hS], hf⟩

set_option maxRecDepth 100000 in
theorem sliceBack {w : World} {a : Option Addr} {c : Nat} {xs : List ByteArray} (hx : Strs w a c xs) (z : Int) (r : Nat) (hz : z = (r : Int)) (hk : r ≤ xs.length) :
    ∃ A2, (∀ W : World, (Instr.slice 39 (.slice a xs.length c) (some (.int .i64 z)) none none).run Tryd.prog W = .ok (.slice A2 (xs.length - r) (c - r)) W) ∧ Strs w A2 (c - r) (xs.drop r) := by
  subst hz
  have hr : ∀ W : World, (Instr.slice 39 (.slice a xs.length c) (some (.int .i64 (r : Int))) none none).run Tryd.prog W = .ok (sliced a r xs.length c 1) W := by
    intro W
    rw [run_slice_l (P := Tryd.prog) W 39 a xs.length c Tryd.underlying39 .i64 (r : Int) (by omega) (by omega), sized_string]
    simp [Result.andThen]
  obtain ⟨h1, h2, h3, h3', h4⟩ := hx
  have hS : ∃ A2, sliced a r xs.length c 1 = .slice A2 (xs.length - r) (c - r) ∧ (A2 = none → a = none) ∧ (∀ b off, a = some ⟨b, off, none⟩ → c ≠ r → A2 = some ⟨b, off + r, none⟩) := by
    unfold sliced
    by_cases hc : c = r
    · refine ⟨a, by simp [hc], id, fun _ _ _ h => absurd hc h⟩
    · refine ⟨a.map (·.add r), ?_, by simp, ?_⟩
      · have hc' : ¬ c - r = 0 := by omega
        simp [hc, hc']
      · rintro b off rfl _
        by_cases h0 : r = 0 <;> simp [Addr.add, h0]
  obtain ⟨A2, hA, hnone, hsome⟩ := hS
  refine ⟨A2, fun W => by rw [hr W, hA], by simp; omega, by omega, fun s hs => h3 s (List.mem_of_mem_drop hs), fun h => by rw [h3' (hnone h)]; simp, fun hp => ?_⟩
  simp at hp
  obtain ⟨b, off, ha, hlt, hc⟩ := h4 (by omega)
  refine ⟨b, off + r, hsome b off ha (by omega), hlt, fun i hi => ?_⟩
  rw [List.getElem_drop, Nat.add_assoc]
  exact hc (r + i) (by simp at hi; omega)

end Go.Proofs.YtefjjcoaeanagaaDoor
