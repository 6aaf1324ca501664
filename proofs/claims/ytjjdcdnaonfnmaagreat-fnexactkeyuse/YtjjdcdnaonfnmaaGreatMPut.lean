/- spec.Put, impl.Put (with impl.concat): each answers a new list, the text put in at its place. -/
/- The order of texts by their bytes. -/
/- The columns of an expression, as lists of texts; the rising list of them. -/
/- Dependencies: plain mathematics. A list that is sorted and rid of its doubles is the one that is put together by Put. -/
import Derived.Test.YtjjdcdnaonfnmaaGreatMMem
import Derived.Test.YtjjdcdnaonfnmaaGreatMPlEqD
import Derived.Deep.RegionHeld3
import Derived.Deep.RegionWith
import Derived.WalkKit
import Derived.Lib.Strings
import Derived.Lib.SlicesCompact
import Derived.Sort.Walk0
namespace Go.Proofs.YtjjdcdnaonfnmaaGreat
open Go.RowKit

def lessB (x s : ByteArray) : Bool := Op.bytesLess x.toList s.toList

theorem ba_eq {x s : ByteArray} (h : (x.toList == s.toList) = true) : x = s := by
  apply ByteArray.ext
  have := beq_iff_eq.1 h
  rw [Lib.toList_data, Lib.toList_data] at this
  exact Array.toList_inj.1 this

def putL : List ByteArray → ByteArray → List ByteArray
  | [], s => [s]
  | x :: r, s => if lessB x s then x :: putL r s else if x.toList == s.toList then s :: r else s :: x :: r

theorem putL_len (xs : List ByteArray) (s : ByteArray) : (putL xs s).length ≤ xs.length + 1 := by
  induction xs with
  | nil => simp [putL]
  | cons x r ih => rw [putL]; split <;> (try split) <;> simp <;> omega

theorem putL_mem {xs : List ByteArray} {s t : ByteArray} (h : t ∈ putL xs s) : t = s ∨ t ∈ xs := by
  induction xs with
  | nil => simp [putL] at h; exact .inl h
  | cons x r ih =>
    rw [putL] at h
    split at h
    · rcases List.mem_cons.1 h with rfl | h
      · exact .inr (by simp)
      · rcases ih h with h | h
        · exact .inl h
        · exact .inr (by simp [h])
    · split at h <;> simp at h <;> rcases h with h | h <;> simp [h]

theorem putL_sizes {xs : List ByteArray} {s : ByteArray} (hx : ∀ t ∈ xs, t.size ≤ maxLen) (hs : s.size ≤ maxLen) : ∀ t ∈ putL xs s, t.size ≤ maxLen := by
  intro t ht
  rcases putL_mem ht with rfl | h
  · exact hs
  · exact hx t h

/-- What spec.Put holds behind one element more. -/
def putStep (s : ByteArray) (st : List ByteArray × Bool) (x : ByteArray) : List ByteArray × Bool :=
  if st.2 then (st.1 ++ [x], true) else if lessB x s then (st.1 ++ [x], false) else if x.toList == s.toList then (st.1 ++ [s], true) else (st.1 ++ [s] ++ [x], true)

def putSt (xs : List ByteArray) (s : ByteArray) (k : Nat) : List ByteArray × Bool := (xs.take k).foldl (putStep s) ([], false)

theorem putSt_succ (xs : List ByteArray) (s : ByteArray) (k : Nat) (h : k < xs.length) : putSt xs s (k + 1) = putStep s (putSt xs s k) xs[k] := by
  unfold putSt
  rw [List.take_succ_eq_append_getElem h, List.foldl_append]
  rfl

theorem putSt_true (s : ByteArray) : ∀ (xs acc : List ByteArray), xs.foldl (putStep s) (acc, true) = (acc ++ xs, true)
  | [], acc => by simp
  | x :: r, acc => by
    rw [List.foldl_cons, show putStep s (acc, true) x = (acc ++ [x], true) from by simp [putStep], putSt_true s r]
    simp

theorem putSt_false (s : ByteArray) : ∀ (xs acc : List ByteArray), (let st := xs.foldl (putStep s) (acc, false); if st.2 then st.1 else st.1 ++ [s]) = acc ++ putL xs s
  | [], acc => by simp [putL]
  | x :: r, acc => by
    rw [List.foldl_cons]
    by_cases h1 : lessB x s = true
    · have hst : putStep s (acc, false) x = (acc ++ [x], false) := by simp [putStep, h1]
      rw [hst, putL, if_pos h1]
      simpa using putSt_false s r (acc ++ [x])
    · by_cases h2 : (x.toList == s.toList) = true
      · have hst : putStep s (acc, false) x = (acc ++ [s], true) := by unfold putStep; simp only [Bool.false_eq_true, if_false, h1, h2, if_true]
        rw [hst, putSt_true, putL, if_neg h1, if_pos h2]
        simp
      · have hst : putStep s (acc, false) x = (acc ++ [s] ++ [x], true) := by unfold putStep; simp only [Bool.false_eq_true, if_false, h1, h2]
        rw [hst, putSt_true, putL, if_neg h1, if_neg h2]
        simp

theorem putSt_end (xs : List ByteArray) (s : ByteArray) : (if (putSt xs s xs.length).2 then (putSt xs s xs.length).1 else (putSt xs s xs.length).1 ++ [s]) = putL xs s := by
  have := putSt_false s xs []
  simpa [putSt] using this

theorem putSt_len (xs : List ByteArray) (s : ByteArray) : ∀ k, k ≤ xs.length → (putSt xs s k).1.length ≤ k + 1 ∧ ((putSt xs s k).2 = false → (putSt xs s k).1.length ≤ k)
  | 0, _ => by simp [putSt]
  | k + 1, h => by
    have ih := putSt_len xs s k (by omega)
    rw [putSt_succ xs s k (by omega)]
    unfold putStep
    by_cases h0 : (putSt xs s k).2 = true
    · simp [h0]; omega
    · have := ih.2 (by simpa using h0)
      simp only [h0]
      by_cases h1 : lessB xs[k] s = true
      · simp [h1]; omega
      · by_cases h2 : (xs[k].toList == s.toList) = true
        · simp [h1, h2]; omega
        · simp [h1, h2]; omega

/-- impl.Put cuts at the first place whose text is not ahead. -/
theorem putL_cut : ∀ (xs : List ByteArray) (s : ByteArray) (k : Nat), k ≤ xs.length → (∀ (j : Nat) (h : j < xs.length), j < k → lessB xs[j] s = true) → (∀ h : k < xs.length, lessB xs[k] s = false) →
    putL xs s = xs.take k ++ [s] ++ xs.drop (if (∃ h : k < xs.length, (xs[k].toList == s.toList) = true) then k + 1 else k)
  | [], s, k, hk, _, _ => by
    have : k = 0 := by simpa using hk
    subst this
    simp [putL]
  | x :: r, s, 0, _, _, h => by
    have h0 := h (by simp)
    simp at h0
    rw [putL, if_neg (by simp [h0])]
    by_cases h2 : (x.toList == s.toList) = true
    · rw [if_pos h2, if_pos ⟨by simp, by simpa using h2⟩]; simp
    · rw [if_neg h2, if_neg (by rintro ⟨_, h⟩; exact h2 (by simpa using h))]; simp
  | x :: r, s, k + 1, hk, hl, h => by
    have h0 := hl 0 (by simp) (by omega)
    simp at h0
    rw [putL, if_pos h0, putL_cut r s k (by simpa using hk) (fun j hj hjk => hl (j + 1) (by simpa using hj) (by omega)) (fun hk' => h (by simpa using hk'))]
    by_cases h2 : ∃ h : k < r.length, (r[k].toList == s.toList) = true
    · rw [if_pos h2, if_pos (by obtain ⟨p, q⟩ := h2; exact ⟨by simpa using p, by simpa using q⟩)]; simp
    · rw [if_neg h2, if_neg (by rintro ⟨p, q⟩; exact h2 ⟨by simpa using p, by simpa using q⟩)]; simp

/-- The parts of a list, each a slice that reads as texts. -/
structure Part where
  at_ : Option Addr
  cap : Nat
  xs : List ByteArray

def Part.value (p : Part) : Value := .slice p.at_ p.xs.length p.cap
def flat (ps : List Part) : List ByteArray := ps.flatMap Part.xs

theorem flat_succ (ps : List Part) (k : Nat) (h : k < ps.length) : flat (ps.take (k + 1)) = flat (ps.take k) ++ ps[k].xs := by
  unfold flat
  rw [List.take_succ_eq_append_getElem h, List.flatMap_append]
  simp

theorem flat_le (ps : List Part) (k : Nat) : (flat (ps.take k)).length ≤ (flat ps).length := by
  unfold flat
  conv => rhs; rw [← List.take_append_drop k ps, List.flatMap_append, List.length_append]
  omega

set_option maxHeartbeats 400000 in
theorem implConcat (g : Nat) (ps : List Part) (w : World) (hg : g < w.heap.size) (hc : ∀ (i : Nat) (h : i < ps.length), w.cell? ⟨g, i, none⟩ = some ps[i].value) (hp : ∀ p ∈ ps, Strs w p.at_ p.cap p.xs)
    (hn : (flat ps).length ≤ 8388608) (hl : ps.length ≤ 1000) :
    Calls Tryz.prog 76 #[.slice (some ⟨g, 0, none⟩) ps.length ps.length] w (NewStrs w (flat ps)) := by
  obtain ⟨i0, hi0, hz0, hz1, hz2⟩ := info_parts Tryz.infoString
  go_enter Tryz.func76, Tryz.ntmps76
  go_wp2
  go_loopw [3, 8] (fun v i wr => ∃ (k : Nat) (a : Option Addr) (c : Nat), k ≤ ps.length ∧ i = .int .i64 k ∧ v = .slice a (flat (ps.take k)).length c ∧ Own wr w.heap.size a c (flat (ps.take k)) ∧ Below w.heap.size w wr) (fun _ i _ => ps.length - (intOf i).toNat)
  case atStart => exact ⟨0, none, 0, Nat.zero_le _, rfl, rfl, Own.nil _ _, Below.refl _ _⟩
  case round =>
    obtain ⟨k, a, c, hk, rfl, rfl, hown, hb⟩ := hrel
    by_cases hlt : k < ps.length
    · have hcell : wr.cell? ⟨g, k, none⟩ = some (.slice ps[k].at_ ps[k].xs.length ps[k].cap) := (hb.cell (p := ⟨g, k, none⟩) hg).trans (hc k hlt)
      have hst := (hp _ (List.getElem_mem hlt)).below hb
      have hfs := Lib.hid (flat_succ ps k hlt)
      have hle : (flat (ps.take k)).length + ps[k].xs.length ≤ 8388608 := by
        have h1 := flat_le ps (k + 1)
        rw [hfs.out, List.length_append] at h1
        omega
      have hsz := hb.size
      go_wp2_with (at_builtin; refine wpAppendStrs rfl _ _ rfl i0 hi0 hz0 hz1 hz2 w.heap.size a c _ ps[k].at_ ps[k].cap ps[k].xs rfl hown rfl hst hle hsz ?_; intro a' c' w' hown' hgr)
      have hb' : Below w.heap.size w w' := hb.grown hgr hsz (fun q hq => (hown.lt hq).1)
      rw [← hfs.out] at hown'
      go_roundw
      case rel => exact ⟨k + 1, a', c', by omega, by go_num, by rw [hfs.out, List.length_append], hown', hb'⟩
      case measure => simp [intOf]; omega
    · obtain rfl : k = ps.length := by omega
      rw [List.take_length] at hown ⊢
      go_wp2
      go_ret
      exact ⟨_, _, rfl, hown, hb⟩

theorem Strs.front {w : World} {a : Option Addr} {c : Nat} {xs : List ByteArray} (h : Strs w a c xs) (k : Nat) : Strs w a c (xs.take k) := by
  obtain ⟨h1, h2, h3, h3', h4⟩ := h
  refine ⟨by simp; omega, h2, fun s hs => h3 s (List.mem_of_mem_take hs), h3', fun hp => ?_⟩
  obtain ⟨b, off, ha, hlt, hc⟩ := h4 (by simp at hp; omega)
  exact ⟨b, off, ha, hlt, fun i hi => by rw [List.getElem_take]; exact hc i (by simp at hi; omega)⟩

theorem Strs.back {w : World} {b off c : Nat} {xs : List ByteArray} (h : Strs w (some ⟨b, off, none⟩) c xs) (k : Nat) (hk : k ≤ xs.length) : Strs w (some ⟨b, off + k, none⟩) (c - k) (xs.drop k) := by
  obtain ⟨h1, h2, h3, h3', h4⟩ := h
  refine ⟨by simp; omega, by omega, fun s hs => h3 s (List.mem_of_mem_drop hs), (fun h => by cases h), fun hp => ?_⟩
  obtain ⟨b', off', ha, hlt, hc⟩ := h4 (by simp at hp; omega)
  cases ha
  exact ⟨b, off + k, rfl, hlt, fun i hi => by rw [List.getElem_drop, Nat.add_assoc]; exact hc (k + i) (by simp at hi; omega)⟩

/-- concat of a front, one text in a new block, and a back. -/
theorem concatThree (w : World) (a1 a2 : Option Addr) (n1 n2 c1 c2 : Nat) (ys zs : List ByteArray) (s : ByteArray) (h1 : Strs w a1 c1 ys) (h2 : Strs w a2 c2 zs) (hn1 : n1 = ys.length) (hn2 : n2 = zs.length)
    (hs : s.size ≤ maxLen) (hn : ys.length + zs.length ≤ 8388600) :
    Calls Tryz.prog 76 #[.slice (some ⟨w.heap.size + 1, 0, none⟩) 3 3]
      ((w.alloc (.cells #[.string s] 9)).alloc (.cells #[.slice a1 n1 c1, .slice (some ⟨w.heap.size, 0, none⟩) 1 1, .slice a2 n2 c2] 30)).drew (NewStrs w (ys ++ [s] ++ zs)) := by
  subst hn1 hn2
  have hb0 : Below w.heap.size w ((w.alloc (.cells #[.string s] 9)).alloc (.cells #[.slice a1 ys.length c1, .slice (some ⟨w.heap.size, 0, none⟩) 1 1, .slice a2 zs.length c2] 30)).drew :=
    (((Below.refl _ _).alloc (Nat.le_refl _) _).alloc (by simp) _).drew
  generalize hW : ((w.alloc (.cells #[.string s] 9)).alloc (.cells #[.slice a1 ys.length c1, .slice (some ⟨w.heap.size, 0, none⟩) 1 1, .slice a2 zs.length c2] 30)).drew = W at *
  have hsz : W.heap.size = w.heap.size + 2 := by rw [← hW]; simp
  have hone : Strs W (some ⟨w.heap.size, 0, none⟩) 1 [s] := by
    refine ⟨by simp, by unfold maxLen; omega, by simpa using hs, (fun h => by cases h), fun _ => ⟨w.heap.size, 0, rfl, by omega, fun i hi => ?_⟩⟩
    have : i = 0 := by simpa using hi
    subst this
    rw [← hW]
    simp [go_sem]
  have h := implConcat (w.heap.size + 1) [⟨a1, c1, ys⟩, ⟨some ⟨w.heap.size, 0, none⟩, 1, [s]⟩, ⟨a2, c2, zs⟩] W (by omega) (by
      intro i hi
      have hi' : i = 0 ∨ i = 1 ∨ i = 2 := by simp at hi; omega
      rcases hi' with rfl | rfl | rfl <;> (rw [← hW]; simp [go_sem, Part.value])) (by
      intro p hp
      simp at hp
      rcases hp with rfl | rfl | rfl
      · exact h1.below hb0
      · exact hone
      · exact h2.below hb0) (by simp [flat]; omega) (by simp)
  refine Calls.mono h ?_
  rintro e w' ⟨a, c, rfl, hown, hb⟩
  have hf : flat [⟨a1, c1, ys⟩, ⟨some ⟨w.heap.size, 0, none⟩, 1, [s]⟩, ⟨a2, c2, zs⟩] = ys ++ [s] ++ zs := by simp [flat]
  rw [hf] at hown ⊢
  exact ⟨a, c, rfl, hown.lower (by omega), hb0.trans (hb.mono (by omega))⟩

theorem sized_string (W : World) : (sizeOf (Tryz.prog.elem 30)).run Tryz.prog W = .ok 1 W := by kernel_rfl

set_option maxRecDepth 100000 in
theorem sliceFront {w : World} {a : Option Addr} {c : Nat} {xs : List ByteArray} (hx : Strs w a c xs) (k : Nat) (hk : k ≤ xs.length) :
    ∃ A1, (∀ W : World, (Instr.slice 30 (.slice a xs.length c) none (some (.int .i64 (k : Int))) none).run Tryz.prog W = .ok (.slice A1 k c) W) ∧ Strs w A1 c (xs.take k) := by
  have hr : ∀ W : World, (Instr.slice 30 (.slice a xs.length c) none (some (.int .i64 (k : Int))) none).run Tryz.prog W = .ok (sliced a 0 k c 1) W := by
    intro W
    rw [run_slice_h (P := Tryz.prog) W 30 a xs.length c Tryz.underlying30 .i64 (k : Int) (by omega) (by have := hx.1; omega), sized_string]
    simp [Result.andThen]
  have hf := hx.front k
  have hS : sliced a 0 k c 1 = .slice a k c := by
    unfold sliced
    rcases a with _ | ⟨b, off, sp⟩ <;> simp [Addr.add]
  exact ⟨a, fun W => by rw [hr W, hS], hf⟩

set_option maxRecDepth 100000 in
theorem sliceBack {w : World} {a : Option Addr} {c : Nat} {xs : List ByteArray} (hx : Strs w a c xs) (z : Int) (r : Nat) (hz : z = (r : Int)) (hk : r ≤ xs.length) :
    ∃ A2, (∀ W : World, (Instr.slice 30 (.slice a xs.length c) (some (.int .i64 z)) none none).run Tryz.prog W = .ok (.slice A2 (xs.length - r) (c - r)) W) ∧ Strs w A2 (c - r) (xs.drop r) := by
  subst hz
  have hr : ∀ W : World, (Instr.slice 30 (.slice a xs.length c) (some (.int .i64 (r : Int))) none none).run Tryz.prog W = .ok (sliced a r xs.length c 1) W := by
    intro W
    rw [run_slice_l (P := Tryz.prog) W 30 a xs.length c Tryz.underlying30 .i64 (r : Int) (by omega) (by omega), sized_string]
    simp [Result.andThen]
  obtain ⟨h1, h2, h3, h3', h4⟩ := hx
  have hS : ∃ A2, sliced a r xs.length c 1 = .slice A2 (xs.length - r) (c - r) ∧ (A2 = none → a = none) ∧ (∀ b off, a = some ⟨b, off, none⟩ → c ≠ r → A2 = some ⟨b, off + r, none⟩) := by
    unfold sliced
    by_cases hc : c = r
    · refine ⟨a, by simp [hc], id, fun _ _ _ h => absurd hc h⟩
    · refine ⟨a.map (·.add r), ?_, by simp, ?_⟩
      · have hc' : ¬ c - r = 0 := by omega
        simp [hc, hc']
      · rintro b off rfl _
        by_cases h0 : r = 0 <;> simp [Addr.add, h0]
  obtain ⟨A2, hA, hnone, hsome⟩ := hS
  refine ⟨A2, fun W => by rw [hr W, hA], by simp; omega, by omega, fun s hs => h3 s (List.mem_of_mem_drop hs), fun h => by rw [h3' (hnone h)]; simp, fun hp => ?_⟩
  simp at hp
  obtain ⟨b, off, ha, hlt, hc⟩ := h4 (by omega)
  refine ⟨b, off + r, hsome b off ha (by omega), hlt, fun i hi => ?_⟩
  rw [List.getElem_drop, Nat.add_assoc]
  exact hc (r + i) (by simp at hi; omega)

end Go.Proofs.YtjjdcdnaonfnmaaGreat

namespace Go.Proofs.YtjjdcdnaonfnmaaGreat
open Go.RowKit

theorem less_trans : ∀ (a b c : List UInt8), Op.bytesLess a b = true → Op.bytesLess b c = true → Op.bytesLess a c = true
  | _, _, [], _, h => by simp [Op.bytesLess] at h
  | [], _, _ :: _, _, _ => by simp [Op.bytesLess]
  | _ :: _, [], _ :: _, h, _ => by simp [Op.bytesLess] at h
  | x :: a, y :: b, z :: c, h1, h2 => by
    simp only [Op.bytesLess, Bool.or_eq_true, Bool.and_eq_true, decide_eq_true_eq, beq_iff_eq] at h1 h2 ⊢
    rcases h1 with h1 | ⟨rfl, h1⟩
    · rcases h2 with h2 | ⟨rfl, h2⟩
      · exact .inl (UInt8.lt_trans h1 h2)
      · exact .inl h1
    · rcases h2 with h2 | ⟨rfl, h2⟩
      · exact .inl h2
      · exact .inr ⟨rfl, less_trans a b c h1 h2⟩

theorem less_total : ∀ (a b : List UInt8), Op.bytesLess a b = false → (a == b) = false → Op.bytesLess b a = true
  | a, [], _, h => by cases a <;> simp [Op.bytesLess] at h ⊢
  | [], _ :: _, h, _ => by simp [Op.bytesLess] at h
  | x :: a, y :: b, h1, h2 => by
    simp only [Op.bytesLess, Bool.or_eq_false_iff, decide_eq_false_iff_not] at h1
    simp only [Op.bytesLess, Bool.or_eq_true, Bool.and_eq_true, decide_eq_true_eq, beq_iff_eq]
    obtain ⟨hn, hr⟩ := h1
    by_cases hxy : x = y
    · subst hxy
      refine .inr ⟨rfl, less_total a b (by simpa using hr) ?_⟩
      rw [beq_eq_false_iff_ne] at h2 ⊢
      intro e
      exact h2 (by rw [e])
    · refine .inl ?_
      rw [UInt8.lt_iff_toNat_lt] at hn ⊢
      have : x.toNat ≠ y.toNat := fun e => hxy (UInt8.toNat_inj.1 e)
      omega

theorem less_irrefl (a : List UInt8) : Op.bytesLess a a = false := by
  induction a with
  | nil => rfl
  | cons x a ih => simp [Op.bytesLess, ih]

theorem less_asym (a b : List UInt8) (h : Op.bytesLess a b = true) : Op.bytesLess b a = false ∧ (a == b) = false := by
  constructor
  · cases h2 : Op.bytesLess b a with
    | false => rfl
    | true =>
      have := less_trans a b a h h2
      rw [less_irrefl] at this
      cases this
  · rw [beq_eq_false_iff_ne]
    rintro rfl
    rw [less_irrefl] at h
    cases h

/-- Of two texts one is ahead, or they are one. -/
theorem less_three (a b : List UInt8) : (Op.bytesLess a b = true ∧ Op.bytesLess b a = false ∧ (a == b) = false) ∨ (Op.bytesLess a b = false ∧ Op.bytesLess b a = true ∧ (a == b) = false) ∨ (Op.bytesLess a b = false ∧ Op.bytesLess b a = false ∧ (a == b) = true) := by
  cases h1 : Op.bytesLess a b with
  | true => exact .inl ⟨rfl, less_asym a b h1⟩
  | false =>
    cases h2 : (a == b) with
    | true =>
      have e : a = b := by simpa using h2
      subst e
      exact .inr (.inr ⟨rfl, h1, rfl⟩)
    | false => exact .inr (.inl ⟨rfl, less_total a b h1 h2, rfl⟩)

end Go.Proofs.YtjjdcdnaonfnmaaGreat

namespace Go.Proofs.YtjjdcdnaonfnmaaGreat
open Go.RowKit

/-- A node's own column. -/
def own1 (e : Ex) : List ByteArray := if e.kind = 0 then [e.text] else []

mutual
/-- All columns, as they stand. -/
def Ex.cols : Ex → List ByteArray
  | .mk k t n kids => own1 (.mk k t n kids) ++ colsL kids
def colsL : List Ex → List ByteArray
  | [] => []
  | e :: r => e.cols ++ colsL r
end

theorem Ex.cols_eq (e : Ex) : e.cols = own1 e ++ colsL e.kids := by
  cases e; rw [Ex.cols]; rfl

def putAll (xs ys : List ByteArray) : List ByteArray := ys.foldl putL xs

theorem putAll_take (xs ys : List ByteArray) (k : Nat) (h : k < ys.length) : putAll xs (ys.take (k + 1)) = putL (putAll xs (ys.take k)) ys[k] := by
  unfold putAll
  rw [List.take_succ_eq_append_getElem h, List.foldl_append]
  rfl

mutual
/-- What spec.Columns answers. -/
def Ex.ucols : Ex → List ByteArray
  | .mk k t n kids => ucolsL (own1 (.mk k t n kids)) kids
def ucolsL : List ByteArray → List Ex → List ByteArray
  | out, [] => out
  | out, e :: r => ucolsL (putAll out e.ucols) r
end

theorem Ex.ucols_eq (e : Ex) : e.ucols = ucolsL (own1 e) e.kids := by
  cases e; rw [Ex.ucols]; rfl

theorem ucolsL_take (out : List ByteArray) (l : List Ex) (k : Nat) (h : k < l.length) : ucolsL out (l.take (k + 1)) = putAll (ucolsL out (l.take k)) l[k].ucols := by
  induction l generalizing k out with
  | nil => simp at h
  | cons e r ih =>
    cases k with
    | zero => simp [ucolsL]
    | succ k =>
      simp only [List.take_succ_cons, ucolsL, List.getElem_cons_succ]
      exact ih _ k (by simpa using h)

def ris (xs : List ByteArray) : Prop := xs.Pairwise fun a b => lessB a b = true

theorem ris_put (xs : List ByteArray) (s : ByteArray) (h : ris xs) : ris (putL xs s) := by
  induction xs with
  | nil => simp [putL, ris]
  | cons x r ih =>
    obtain ⟨h1, h2⟩ := List.pairwise_cons.1 h
    rw [putL]
    split
    · rename_i hl
      refine List.pairwise_cons.2 ⟨fun y hy => ?_, ih h2⟩
      rcases putL_mem hy with rfl | hy
      · exact hl
      · exact h1 y hy
    · split
      · rename_i _ he
        have : x = s := ba_eq he
        subst this
        exact h
      · rename_i hl he
        have hsx : lessB s x = true := less_total _ _ (by simpa [lessB] using hl) (by simpa using he)
        refine List.pairwise_cons.2 ⟨fun y hy => ?_, h⟩
        rcases List.mem_cons.1 hy with rfl | hy
        · exact hsx
        · exact less_trans _ _ _ hsx (h1 y hy)

theorem put_mem (xs : List ByteArray) (s t : ByteArray) : t ∈ putL xs s ↔ t = s ∨ t ∈ xs := by
  refine ⟨putL_mem, fun h => ?_⟩
  induction xs with
  | nil => simpa [putL] using h
  | cons x r ih =>
    rw [putL]
    split
    · rcases h with h | h
      · exact List.mem_cons_of_mem _ (ih (.inl h))
      · rcases List.mem_cons.1 h with rfl | h
        · exact List.mem_cons_self ..
        · exact List.mem_cons_of_mem _ (ih (.inr h))
    · split
      · rename_i _ he
        have : x = s := ba_eq he
        subst this
        rcases h with rfl | h
        · exact List.mem_cons_self ..
        · exact h
      · rcases h with rfl | h
        · exact List.mem_cons_self ..
        · exact List.mem_cons_of_mem _ h

theorem putAll_facts (ys xs : List ByteArray) : (ris xs → ris (putAll xs ys)) ∧ (∀ t, t ∈ putAll xs ys ↔ t ∈ xs ∨ t ∈ ys) ∧ (putAll xs ys).length ≤ xs.length + ys.length := by
  induction ys generalizing xs with
  | nil => exact ⟨id, fun t => by simp [putAll], by simp [putAll]⟩
  | cons y r ih =>
    obtain ⟨h1, h2, h3⟩ := ih (putL xs y)
    have e : putAll xs (y :: r) = putAll (putL xs y) r := rfl
    rw [e]
    refine ⟨fun h => h1 (ris_put xs y h), fun t => ?_, ?_⟩
    · rw [h2, put_mem, List.mem_cons]
      constructor
      · rintro ((h | h) | h)
        · exact .inr (.inl h)
        · exact .inl h
        · exact .inr (.inr h)
      · rintro (h | h | h)
        · exact .inl (.inr h)
        · exact .inl (.inl h)
        · exact .inr h
    · have := putL_len xs y
      rw [List.length_cons]
      omega

theorem own1_facts (e : Ex) : ris (own1 e) ∧ (own1 e).length ≤ 1 ∧ (∀ t ∈ own1 e, t = e.text) := by
  unfold own1
  split
  · exact ⟨by simp [ris], by simp, by simp⟩
  · exact ⟨by simp [ris], by simp, by simp⟩

mutual
theorem ucols_facts : (e : Ex) → ris e.ucols ∧ (∀ t, t ∈ e.ucols ↔ t ∈ e.cols) ∧ e.ucols.length ≤ e.nodes
  | .mk k t n kids => by
    obtain ⟨h1, h2, h3⟩ := ucolsL_facts kids (own1 (.mk k t n kids))
    obtain ⟨o1, o2, o3⟩ := own1_facts (.mk k t n kids)
    rw [Ex.ucols, Ex.cols, Ex.nodes]
    exact ⟨h1 o1, fun t => by rw [h2, List.mem_append], by omega⟩
theorem ucolsL_facts : (l : List Ex) → (out : List ByteArray) → (ris out → ris (ucolsL out l)) ∧ (∀ t, t ∈ ucolsL out l ↔ t ∈ out ∨ t ∈ colsL l) ∧ (ucolsL out l).length ≤ out.length + nodesL l
  | [], out => ⟨id, fun t => by simp [ucolsL, colsL], by simp [ucolsL, nodesL]⟩
  | e :: r, out => by
    obtain ⟨e1, e2, e3⟩ := ucols_facts e
    obtain ⟨p1, p2, p3⟩ := putAll_facts e.ucols out
    obtain ⟨h1, h2, h3⟩ := ucolsL_facts r (putAll out e.ucols)
    rw [ucolsL, colsL, nodesL]
    exact ⟨fun h => h1 (p1 h), fun t => by rw [h2, p2, e2, List.mem_append, or_assoc], by omega⟩
end

theorem less_self (a : ByteArray) : lessB a a = false := less_irrefl _

/-- A rising list is told by what stands in it. -/
theorem ris_ext : ∀ {xs ys : List ByteArray}, ris xs → ris ys → (∀ t, t ∈ xs ↔ t ∈ ys) → xs = ys
  | [], [], _, _, _ => rfl
  | [], y :: r, _, _, h => absurd ((h y).2 (by simp)) (by simp)
  | x :: r, [], _, _, h => absurd ((h x).1 (by simp)) (by simp)
  | x :: r, y :: s, hx, hy, h => by
    obtain ⟨x1, x2⟩ := List.pairwise_cons.1 hx
    obtain ⟨y1, y2⟩ := List.pairwise_cons.1 hy
    have hxy : x = y := by
      rcases List.mem_cons.1 ((h x).1 (by simp)) with e | e
      · exact e
      · rcases List.mem_cons.1 ((h y).2 (by simp)) with e' | e'
        · exact e'.symm
        · have a3 : lessB y y = true := less_trans _ _ _ (y1 x e) (x1 y e')
          rw [less_self] at a3
          cases a3
    subst hxy
    rw [ris_ext x2 y2 ?_]
    intro t
    constructor
    · intro ht
      rcases List.mem_cons.1 ((h t).1 (List.mem_cons_of_mem _ ht)) with rfl | h2
      · have a3 := x1 t ht
        rw [less_self] at a3
        cases a3
      · exact h2
    · intro ht
      rcases List.mem_cons.1 ((h t).2 (List.mem_cons_of_mem _ ht)) with rfl | h2
      · have a3 := y1 t ht
        rw [less_self] at a3
        cases a3
      · exact h2

/-- What slices.Sort and slices.Compact leave. -/
def sortU (zs : List (List UInt8)) : List (List UInt8) := Lib.compact (zs.mergeSort fun x y => decide (x ≤ y))
def ba (l : List UInt8) : ByteArray := ⟨l.toArray⟩
def la (s : ByteArray) : List UInt8 := s.data.toList
theorem ba_la (s : ByteArray) : ba (la s) = s := by unfold ba la; apply ByteArray.ext; simp
theorem la_ba (l : List UInt8) : la (ba l) = l := by simp [ba, la]

theorem le_less (x y : List UInt8) : decide (x ≤ y) = !Op.bytesLess y x := by
  rw [Go.Proofs.bytesLess_eq]
  by_cases h : y < x
  · rw [decide_eq_true h, decide_eq_false (fun hle => absurd h (List.not_lt.2 hle))]; rfl
  · rw [decide_eq_false h, decide_eq_true (List.not_lt.1 h)]; rfl

theorem le_trans_less (a b c : List UInt8) (h1 : Op.bytesLess b a = false) (h2 : Op.bytesLess c b = false) : Op.bytesLess c a = false := by
  cases hca : Op.bytesLess c a with
  | false => rfl
  | true =>
    by_cases hab : (b == a) = true
    · have : b = a := by simpa using hab
      subst this
      rw [hca] at h2
      cases h2
    · have := less_total b a h1 (by simpa using hab)
      rw [less_trans _ _ _ hca this] at h2
      cases h2

theorem sorted_pair (zs : List (List UInt8)) : (zs.mergeSort fun x y => decide (x ≤ y)).Pairwise fun a b => Op.bytesLess b a = false := by
  have := List.pairwise_mergeSort (le := fun x y : List UInt8 => decide (x ≤ y)) (fun a b c h1 h2 => by
    rw [le_less] at h1 h2 ⊢
    rw [le_trans_less a b c (by simpa using h1) (by simpa using h2)]
    rfl) (fun a b => by
    rw [le_less, le_less]
    cases h : Op.bytesLess b a with
    | false => rfl
    | true => rw [(less_asym _ _ h).1]; rfl) zs
  refine this.imp fun h => ?_
  rw [le_less] at h
  simpa using h

theorem compact_mem (zs : List (List UInt8)) (t : List UInt8) : t ∈ Lib.compact zs ↔ t ∈ zs := by
  unfold Lib.compact Lib.compactUpTo
  constructor
  · intro h
    obtain ⟨m, hm, rfl⟩ := List.mem_map.1 h
    have hm' := List.mem_range.1 (List.mem_filter.1 hm).1
    simp [hm']
  · intro h
    obtain ⟨m, hm, rfl⟩ := List.mem_iff_getElem.1 h
    induction m with
    | zero => exact List.mem_map.2 ⟨0, List.mem_filter.2 ⟨List.mem_range.2 hm, by simp [Lib.keeps]⟩, by simp [hm]⟩
    | succ m ih =>
      by_cases he : zs[m + 1] = zs[m]
      · rw [he]
        exact ih (by omega) (List.getElem_mem _)
      · refine List.mem_map.2 ⟨m + 1, List.mem_filter.2 ⟨List.mem_range.2 hm, Lib.keeps_pos ?_⟩, by simp [hm]⟩
        simpa [hm, show m < zs.length by omega] using he

theorem compact_ris (zs : List (List UInt8)) (h : zs.Pairwise fun a b => Op.bytesLess b a = false) : (Lib.compact zs).Pairwise fun a b => Op.bytesLess a b = true := by
  unfold Lib.compact Lib.compactUpTo
  rw [List.pairwise_map, List.pairwise_filter]
  have hr : (List.range zs.length).Pairwise (· < ·) := List.pairwise_lt_range
  refine List.Pairwise.imp_of_mem (R := (· < ·)) ?_ hr
  intro i j hi hj hlt _ hkj
  have hi' := List.mem_range.1 hi
  have hj' := List.mem_range.1 hj
  have hne : zs[j] ≠ zs[j - 1] := by
    intro e
    rw [Lib.keeps_neg (d := zs.toArray) (m := j) (by omega) (by simpa [hj', show j - 1 < zs.length by omega] using e)] at hkj
    cases hkj
  have h1 : Op.bytesLess zs[j] zs[j - 1] = false := List.pairwise_iff_getElem.1 h (j - 1) j (by omega) hj' (by omega)
  have h2 : Op.bytesLess zs[j - 1] zs[j] = true := less_total _ _ h1 (by simpa using hne)
  have h3 : i = j - 1 ∨ Op.bytesLess zs[j - 1] zs[i] = false := by
    rcases Nat.lt_or_ge i (j - 1) with hlt2 | hge
    · exact .inr (List.pairwise_iff_getElem.1 h i (j - 1) hi' (by omega) hlt2)
    · exact .inl (by omega)
  have h4 : Op.bytesLess zs[i] zs[j] = true := by
    rcases h3 with rfl | h3
    · exact h2
    · by_cases he : zs[j - 1] = zs[i]
      · rw [← he]; exact h2
      · exact less_trans _ _ _ (less_total _ _ h3 (by simpa using he)) h2
  simpa [hi', hj'] using h4

/-- The list that impl.Columns makes is the one that spec.Columns makes, in whatever order the nodes were seen. -/
theorem sortU_eq (e : Ex) (xs : List ByteArray) (h : ∀ t, t ∈ xs ↔ t ∈ e.cols) : (sortU (xs.map la)).map ba = e.ucols := by
  obtain ⟨h1, h2, _⟩ := ucols_facts e
  refine ris_ext ?_ h1 fun t => ?_
  · unfold ris
    rw [List.pairwise_map]
    refine (compact_ris _ (sorted_pair _)).imp fun h => ?_
    unfold lessB ba
    rw [Lib.toList_data, Lib.toList_data]
    simpa using h
  · rw [h2, ← h, List.mem_map]
    unfold sortU
    constructor
    · rintro ⟨l, hl, rfl⟩
      rw [compact_mem, List.mem_mergeSort] at hl
      obtain ⟨s, hs, rfl⟩ := List.mem_map.1 hl
      rw [ba_la]; exact hs
    · intro ht
      exact ⟨la t, by rw [compact_mem, List.mem_mergeSort]; exact List.mem_map.2 ⟨t, ht, rfl⟩, ba_la t⟩

mutual
theorem cols_wt : (e : Ex) → ∀ t ∈ e.cols, t.size ≤ e.wt
  | .mk k t n kids => by
    intro s hs
    rw [Ex.cols] at hs
    rw [Ex.wt]
    rcases List.mem_append.1 hs with h | h
    · have := (own1_facts (.mk k t n kids)).2.2 s h
      rw [this]
      show t.size ≤ _
      omega
    · have := colsL_wt kids s h
      omega
theorem colsL_wt : (l : List Ex) → ∀ t ∈ colsL l, t.size ≤ wtL l
  | [] => by simp [colsL]
  | e :: r => by
    intro s hs
    rw [colsL] at hs
    rw [wtL]
    rcases List.mem_append.1 hs with h | h
    · have := cols_wt e s h; omega
    · have := colsL_wt r s h; omega
end

theorem ucols_wt (e : Ex) : ∀ t ∈ e.ucols, t.size ≤ e.wt := fun t ht => cols_wt e t (((ucols_facts e).2.1 t).1 ht)

theorem colsL_take (l : List Ex) (k : Nat) : ∀ t ∈ colsL (l.take k), t ∈ colsL l := by
  induction l generalizing k with
  | nil => simp
  | cons e r ih =>
    cases k with
    | zero => simp [colsL]
    | succ k =>
      intro t ht
      simp only [List.take_succ_cons, colsL] at ht ⊢
      rcases List.mem_append.1 ht with h | h
      · exact List.mem_append_left _ h
      · exact List.mem_append_right _ (ih k t h)

theorem nodesL_takeC (l : List Ex) (k : Nat) : nodesL (l.take k) ≤ nodesL l := by
  induction l generalizing k with
  | nil => simp
  | cons x r ih =>
    cases k with
    | zero => simp [nodesL]
    | succ k => simp only [List.take_succ_cons, nodesL]; have := ih k; omega

/-- The texts on the way are small, and few. -/
theorem ucolsL_on (e : Ex) (k : Nat) : (∀ t ∈ ucolsL (own1 e) (e.kids.take k), t.size ≤ e.wt) ∧ (ucolsL (own1 e) (e.kids.take k)).length ≤ e.nodes := by
  obtain ⟨_, h2, h3⟩ := ucolsL_facts (e.kids.take k) (own1 e)
  refine ⟨fun t ht => cols_wt e t ?_, ?_⟩
  · rw [Ex.cols_eq]
    rcases (h2 t).1 ht with h | h
    · exact List.mem_append_left _ h
    · exact List.mem_append_right _ (colsL_take _ k t h)
  · have h4 := (own1_facts e).2.1
    have h5 := Ex.nodes_eq e
    have h6 := nodesL_takeC e.kids k
    omega

theorem putAll_on (xs ys : List ByteArray) (k N : Nat) (hx : ∀ t ∈ xs, t.size ≤ N) (hy : ∀ t ∈ ys, t.size ≤ N) : (∀ t ∈ putAll xs (ys.take k), t.size ≤ N) ∧ (putAll xs (ys.take k)).length ≤ xs.length + ys.length := by
  obtain ⟨_, h2, h3⟩ := putAll_facts (ys.take k) xs
  refine ⟨fun t ht => ?_, by simp at h3; omega⟩
  rcases (h2 t).1 ht with h | h
  · exact hx t h
  · exact hy t (List.mem_of_mem_take h)

end Go.Proofs.YtjjdcdnaonfnmaaGreat

namespace Go.Proofs.YtjjdcdnaonfnmaaGreat

/-- A list, sorted, each text once. -/
def risingU (xs : List ByteArray) : List ByteArray := (sortU (xs.map la)).map ba

theorem risingU_facts (xs : List ByteArray) : ris (risingU xs) ∧ ∀ t, t ∈ risingU xs ↔ t ∈ xs := by
  unfold risingU
  refine ⟨?_, fun t => ?_⟩
  · unfold ris
    rw [List.pairwise_map]
    refine (compact_ris _ (sorted_pair _)).imp fun h => ?_
    unfold lessB ba
    rw [Lib.toList_data, Lib.toList_data]
    simpa using h
  · rw [List.mem_map]
    unfold sortU
    constructor
    · rintro ⟨l, hl, rfl⟩
      rw [compact_mem, List.mem_mergeSort] at hl
      obtain ⟨s, hs, rfl⟩ := List.mem_map.1 hl
      rw [ba_la]; exact hs
    · intro ht
      exact ⟨la t, by rw [compact_mem, List.mem_mergeSort]; exact List.mem_map.2 ⟨t, ht, rfl⟩, ba_la t⟩

theorem ris_nil : ris [] := List.Pairwise.nil

theorem put_all (xs : List ByteArray) : putAll [] xs = risingU xs := by
  obtain ⟨h1, h2⟩ := risingU_facts xs
  obtain ⟨h3, h4, _⟩ := putAll_facts xs []
  exact ris_ext (h3 ris_nil) h1 fun t => by rw [h4, h2]; simp

theorem putAll_append (xs ys zs : List ByteArray) : putAll xs (ys ++ zs) = putAll (putAll xs ys) zs := by unfold putAll; rw [List.foldl_append]

theorem risingU_len (xs : List ByteArray) : (risingU xs).length ≤ xs.length := by
  rw [← put_all]
  have := (putAll_facts xs []).2.2
  simpa using this

/-- A part of a table. -/
def dotT (a b : ByteArray) : ByteArray := a ++ ⟨#[46]⟩ ++ b

theorem dotT_size (a b : ByteArray) : (dotT a b).size = a.size + 1 + b.size := by
  unfold dotT
  rw [ByteArray.size_append, ByteArray.size_append]
  rfl

theorem take_map {X Y : Type} (f : X → Y) (xs : List X) (k : Nat) (h : k < xs.length) : (xs.take (k + 1)).map f = (xs.take k).map f ++ [f xs[k]] := by
  rw [List.take_succ_eq_append_getElem h, List.map_append]; rfl

theorem take_flat {X Y : Type} (f : X → List Y) (xs : List X) (k : Nat) (h : k < xs.length) : (xs.take (k + 1)).flatMap f = (xs.take k).flatMap f ++ f xs[k] := by
  rw [List.take_succ_eq_append_getElem h, List.flatMap_append]; simp

theorem take_filter {X : Type} (p : X → Bool) (xs : List X) (k : Nat) (h : k < xs.length) : (xs.take (k + 1)).filter p = (xs.take k).filter p ++ (if p xs[k] = true then [xs[k]] else []) := by
  rw [List.take_succ_eq_append_getElem h, List.filter_append, List.filter_cons]
  simp

end Go.Proofs.YtjjdcdnaonfnmaaGreat
