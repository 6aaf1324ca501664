/- Plain facts on lists of bytes and of strings; nothing of the program. -/
/- spec.Before and impl.Before both answer by the byte order of the two texts, and leave memory alone. -/
/- spec.Put, impl.Put (with impl.concat): each answers a new list, the text put in at its place. -/
/- The order of texts by their bytes. -/
/- The columns of an expression, as lists of texts; the rising list of them. -/
/- Rows of the call's own that grow. -/
/- spec.Put answers a new list, the text put in at its place. -/
/- spec.Columns answers the rising list of the columns. -/
import Derived.WalkKit
import Derived.Lib.Hide
import Derived.Test.YtpdcmmhhgnackaaDoorRows
import Derived.WalkLawsBesides
import Derived.WalkSpells
import Derived.Deep.QuietTactic
import Derived.BigQuiet
import Derived.Deep.LoopGhost
import Derived.Outline
import Derived.Lib.Strings
import Derived.Test.YtpdcmmhhgnackaaDoorMStrs
import Derived.Deep.RegionHeld3
import Derived.Deep.RegionWith
import Derived.Test.YtpdcmmhhgnackaaDoorMMem
import Derived.Lib.SlicesCompact
import Derived.Sort.Walk0
namespace Go.Proofs.YtpdcmmhhgnackaaDoor.Plain

theorem less_drop : ∀ (k : Nat) (a b : List UInt8), k ≤ a.length → k ≤ b.length → a.take k = b.take k →
    Op.bytesLess a b = Op.bytesLess (a.drop k) (b.drop k)
  | 0, _, _, _, _, _ => rfl
  | k + 1, [], _, h, _, _ => absurd h (by simp)
  | k + 1, _ :: _, [], _, h, _ => absurd h (by simp)
  | k + 1, x :: a, y :: b, ha, hb, h => by
    simp only [List.take_succ_cons, List.cons.injEq] at h
    obtain ⟨rfl, h⟩ := h
    have ih := less_drop k a b (by simpa using ha) (by simpa using hb) h
    simp only [List.drop_succ_cons, ← ih]
    simp [Op.bytesLess]

theorem less_at (k : Nat) (a b : List UInt8) (ha : k < a.length) (hb : k < b.length) (h : a.take k = b.take k) (hne : a[k] ≠ b[k]) :
    Op.bytesLess a b = decide (a[k] < b[k]) := by
  rw [less_drop k a b (by omega) (by omega) h, List.drop_eq_getElem_cons ha, List.drop_eq_getElem_cons hb]
  simp [Op.bytesLess, hne]

theorem less_end (k : Nat) (a b : List UInt8) (ha : k ≤ a.length) (hb : k ≤ b.length) (h : a.take k = b.take k) (he : k = a.length ∨ k = b.length) :
    Op.bytesLess a b = decide (a.length < b.length) := by
  rw [less_drop k a b ha hb h]
  rcases he with he | he
  · subst he
    rw [List.drop_length]
    rcases hd : b.drop a.length with _ | ⟨y, r⟩
    · have := congrArg List.length hd
      simp at this
      simp [Op.bytesLess]; omega
    · have := congrArg List.length hd
      simp at this
      simp [Op.bytesLess]; omega
  · subst he
    rw [List.drop_length]
    rcases hd : a.drop b.length with _ | ⟨y, r⟩ <;> simp [Op.bytesLess] <;> omega

theorem take_more (k : Nat) (a b : List UInt8) (ha : k < a.length) (hb : k < b.length) (h : a.take k = b.take k) (he : a[k] = b[k]) :
    a.take (k + 1) = b.take (k + 1) := by
  rw [List.take_succ_eq_append_getElem ha, List.take_succ_eq_append_getElem hb, h, he]

end Go.Proofs.YtpdcmmhhgnackaaDoor.Plain

namespace Go.Proofs.YtpdcmmhhgnackaaDoor
open Go.RowKit

set_option maxHeartbeats 400000 in
theorem specBefore (a b : ByteArray) (w : World) (ha : a.size ≤ maxLen) (_hb : b.size ≤ maxLen) :
    Calls Tryd.prog 128 #[.string a, .string b] w fun e w' => e = .returned (.bool (Op.bytesLess a.toList b.toList)) ∧ ∃ n, w' = w.drewN n := by
  unfold maxLen at ha _hb
  go_enter Tryd.func128, Tryd.ntmps128
  go_wp2
  go_loopw [5] (fun i wr => ∃ (k n : Nat), k ≤ a.size ∧ k ≤ b.size ∧ i = .int .i64 k ∧ Hid (a.data.toList.take k = b.data.toList.take k) ∧ wr = w.drewN n) (fun i _ => a.size - (intOf i).toNat)
  case atStart => exact ⟨0, 0, Nat.zero_le _, Nat.zero_le _, rfl, rfl, rfl⟩
  case round =>
    obtain ⟨k, n, hka, hkb, rfl, heq, rfl⟩ := hrel
    by_cases hk1 : k < a.size
    · by_cases hk2 : k < b.size
      · have hla : k < a.data.toList.length := by simpa using hk1
        have hlb : k < b.data.toList.length := by simpa using hk2
        by_cases hc : a[k] = b[k]
        · have ht : ((a[k].toNat : Int) != (b[k].toNat : Int)) = false := by simp [hc]
          have H := Lib.hid (Plain.take_more k _ _ hla hlb heq.out (by exact hc))
          have Hc := Lib.hid hc
          clear hc
          go_wp2
          go_quiet (fail)
          go_wp2
          go_roundw
          case rel => exact ⟨k + 1, n + nq, by omega, by omega, by go_num, H, rfl⟩
          case measure => simp [intOf]; omega
        · have ht : ((a[k].toNat : Int) != (b[k].toNat : Int)) = true := by
            rw [bne_iff_ne]; intro h; exact hc (UInt8.toNat_inj.1 (by exact_mod_cast h))
          have H := Lib.hid (Plain.less_at k _ _ hla hlb heq.out (by exact hc))
          clear hc
          go_wp2
          go_quiet (fail)
          go_wp2
          go_quiet (fail)
          go_wp2
          go_ret
          refine ⟨?_, _, by rw [World.drewN_drewN, World.drewN_drewN]⟩
          rw [Lib.toList_data, Lib.toList_data, H.out]
          simp [UInt8.lt_iff_toNat_lt]
          exact Iff.rfl
      · have H := Lib.hid (Plain.less_end k a.data.toList b.data.toList (by simpa using hka) (by simpa using hkb) heq.out (.inr (by simp; omega)))
        go_wp2
        go_ret
        refine ⟨?_, _, rfl⟩
        rw [Lib.toList_data, Lib.toList_data, H.out]
        simp
    · have H := Lib.hid (Plain.less_end k a.data.toList b.data.toList (by simpa using hka) (by simpa using hkb) heq.out (.inl (by simp; omega)))
      go_wp2
      go_ret
      refine ⟨?_, _, rfl⟩
      rw [Lib.toList_data, Lib.toList_data, H.out]
      simp

end Go.Proofs.YtpdcmmhhgnackaaDoor

namespace Go.Proofs.YtpdcmmhhgnackaaDoor
open Go.RowKit

def lessB (x s : ByteArray) : Bool := Op.bytesLess x.toList s.toList

theorem ba_eq {x s : ByteArray} (h : (x.toList == s.toList) = true) : x = s := by
  apply ByteArray.ext
  have := beq_iff_eq.1 h
  rw [Lib.toList_data, Lib.toList_data] at this
  exact Array.toList_inj.1 this

def putL : List ByteArray → ByteArray → List ByteArray
  | [], s => [s]
  | x :: r, s => if lessB x s then x :: putL r s else if x.toList == s.toList then s :: r else s :: x :: r

theorem putL_len (xs : List ByteArray) (s : ByteArray) : (putL xs s).length ≤ xs.length + 1 := by
  induction xs with
  | nil => simp [putL]
  | cons x r ih => rw [putL]; split <;> (try split) <;> simp <;> omega

theorem putL_mem {xs : List ByteArray} {s t : ByteArray} (h : t ∈ putL xs s) : t = s ∨ t ∈ xs := by
  induction xs with
  | nil => simp [putL] at h; exact .inl h
  | cons x r ih =>
    rw [putL] at h
    split at h
    · rcases List.mem_cons.1 h with rfl | h
      · exact .inr (by simp)
      · rcases ih h with h | h
        · exact .inl h
        · exact .inr (by simp [h])
    · split at h <;> simp at h <;> rcases h with h | h <;> simp [h]

theorem putL_sizes {xs : List ByteArray} {s : ByteArray} (hx : ∀ t ∈ xs, t.size ≤ maxLen) (hs : s.size ≤ maxLen) : ∀ t ∈ putL xs s, t.size ≤ maxLen := by
  intro t ht
  rcases putL_mem ht with rfl | h
  · exact hs
  · exact hx t h

/-- What spec.Put holds behind one element more. -/
def putStep (s : ByteArray) (st : List ByteArray × Bool) (x : ByteArray) : List ByteArray × Bool :=
  if st.2 then (st.1 ++ [x], true) else if lessB x s then (st.1 ++ [x], false) else if x.toList == s.toList then (st.1 ++ [s], true) else (st.1 ++ [s] ++ [x], true)

def putSt (xs : List ByteArray) (s : ByteArray) (k : Nat) : List ByteArray × Bool := (xs.take k).foldl (putStep s) ([], false)

theorem putSt_succ (xs : List ByteArray) (s : ByteArray) (k : Nat) (h : k < xs.length) : putSt xs s (k + 1) = putStep s (putSt xs s k) xs[k] := by
  unfold putSt
  rw [List.take_succ_eq_append_getElem h, List.foldl_append]
  rfl

theorem putSt_true (s : ByteArray) : ∀ (xs acc : List ByteArray), xs.foldl (putStep s) (acc, true) = (acc ++ xs, true)
  | [], acc => by simp
  | x :: r, acc => by
    rw [List.foldl_cons, show putStep s (acc, true) x = (acc ++ [x], true) from by simp [putStep], putSt_true s r]
    simp

theorem putSt_false (s : ByteArray) : ∀ (xs acc : List ByteArray), (let st := xs.foldl (putStep s) (acc, false); if st.2 then st.1 else st.1 ++ [s]) = acc ++ putL xs s
  | [], acc => by simp [putL]
  | x :: r, acc => by
    rw [List.foldl_cons]
    by_cases h1 : lessB x s = true
    · have hst : putStep s (acc, false) x = (acc ++ [x], false) := by simp [putStep, h1]
      rw [hst, putL, if_pos h1]
      simpa using putSt_false s r (acc ++ [x])
    · by_cases h2 : (x.toList == s.toList) = true
      · have hst : putStep s (acc, false) x = (acc ++ [s], true) := by unfold putStep; simp only [Bool.false_eq_true, if_false, h1, h2, if_true]
        rw [hst, putSt_true, putL, if_neg h1, if_pos h2]
        simp
      · have hst : putStep s (acc, false) x = (acc ++ [s] ++ [x], true) := by unfold putStep; simp only [Bool.false_eq_true, if_false, h1, h2]
        rw [hst, putSt_true, putL, if_neg h1, if_neg h2]
        simp

theorem putSt_end (xs : List ByteArray) (s : ByteArray) : (if (putSt xs s xs.length).2 then (putSt xs s xs.length).1 else (putSt xs s xs.length).1 ++ [s]) = putL xs s := by
  have := putSt_false s xs []
  simpa [putSt] using this

theorem putSt_len (xs : List ByteArray) (s : ByteArray) : ∀ k, k ≤ xs.length → (putSt xs s k).1.length ≤ k + 1 ∧ ((putSt xs s k).2 = false → (putSt xs s k).1.length ≤ k)
  | 0, _ => by simp [putSt]
  | k + 1, h => by
    have ih := putSt_len xs s k (by omega)
    rw [putSt_succ xs s k (by omega)]
    unfold putStep
    by_cases h0 : (putSt xs s k).2 = true
    · simp [h0]; omega
    · have := ih.2 (by simpa using h0)
      simp only [h0]
      by_cases h1 : lessB xs[k] s = true
      · simp [h1]; omega
      · by_cases h2 : (xs[k].toList == s.toList) = true
        · simp [h1, h2]; omega
        · simp [h1, h2]; omega

/-- impl.Put cuts at the first place whose text is not ahead. -/
theorem putL_cut : ∀ (xs : List ByteArray) (s : ByteArray) (k : Nat), k ≤ xs.length → (∀ (j : Nat) (h : j < xs.length), j < k → lessB xs[j] s = true) → (∀ h : k < xs.length, lessB xs[k] s = false) →
    putL xs s = xs.take k ++ [s] ++ xs.drop (if (∃ h : k < xs.length, (xs[k].toList == s.toList) = true) then k + 1 else k)
  | [], s, k, hk, _, _ => by
    have : k = 0 := by simpa using hk
    subst this
    simp [putL]
  | x :: r, s, 0, _, _, h => by
    have h0 := h (by simp)
    simp at h0
    rw [putL, if_neg (by simp [h0])]
    by_cases h2 : (x.toList == s.toList) = true
    · rw [if_pos h2, if_pos ⟨by simp, by simpa using h2⟩]; simp
    · rw [if_neg h2, if_neg (by rintro ⟨_, h⟩; exact h2 (by simpa using h))]; simp
  | x :: r, s, k + 1, hk, hl, h => by
    have h0 := hl 0 (by simp) (by omega)
    simp at h0
    rw [putL, if_pos h0, putL_cut r s k (by simpa using hk) (fun j hj hjk => hl (j + 1) (by simpa using hj) (by omega)) (fun hk' => h (by simpa using hk'))]
    by_cases h2 : ∃ h : k < r.length, (r[k].toList == s.toList) = true
    · rw [if_pos h2, if_pos (by obtain ⟨p, q⟩ := h2; exact ⟨by simpa using p, by simpa using q⟩)]; simp
    · rw [if_neg h2, if_neg (by rintro ⟨p, q⟩; exact h2 ⟨by simpa using p, by simpa using q⟩)]; simp

/-- The parts of a list, each a slice that reads as texts. -/
structure Part where
  at_ : Option Addr
  cap : Nat
  xs : List ByteArray

def Part.value (p : Part) : Value := .slice p.at_ p.xs.length p.cap
def flat (ps : List Part) : List ByteArray := ps.flatMap Part.xs

theorem flat_succ (ps : List Part) (k : Nat) (h : k < ps.length) : flat (ps.take (k + 1)) = flat (ps.take k) ++ ps[k].xs := by
  unfold flat
  rw [List.take_succ_eq_append_getElem h, List.flatMap_append]
  simp

theorem flat_le (ps : List Part) (k : Nat) : (flat (ps.take k)).length ≤ (flat ps).length := by
  unfold flat
  conv => rhs; rw [← List.take_append_drop k ps, List.flatMap_append, List.length_append]
  omega

theorem Strs.front {w : World} {a : Option Addr} {c : Nat} {xs : List ByteArray} (h : Strs w a c xs) (k : Nat) : Strs w a c (xs.take k) := by
  obtain ⟨h1, h2, h3, h3', h4⟩ := h
  refine ⟨by simp; omega, h2, fun s hs => h3 s (List.mem_of_mem_take hs), h3', fun hp => ?_⟩
  obtain ⟨b, off, ha, hlt, hc⟩ := h4 (by simp at hp; omega)
  exact ⟨b, off, ha, hlt, fun i hi => by rw [List.getElem_take]; exact hc i (by simp at hi; omega)⟩

theorem Strs.back {w : World} {b off c : Nat} {xs : List ByteArray} (h : Strs w (some ⟨b, off, none⟩) c xs) (k : Nat) (hk : k ≤ xs.length) : Strs w (some ⟨b, off + k, none⟩) (c - k) (xs.drop k) := by
  obtain ⟨h1, h2, h3, h3', h4⟩ := h
  refine ⟨by simp; omega, by omega, fun s hs => h3 s (List.mem_of_mem_drop hs), (fun h => by cases h), fun hp => ?_⟩
  obtain ⟨b', off', ha, hlt, hc⟩ := h4 (by simp at hp; omega)
  cases ha
  exact ⟨b, off + k, rfl, hlt, fun i hi => by rw [List.getElem_drop, Nat.add_assoc]; exact hc (k + i) (by simp at hi; omega)⟩

theorem sized_string (W : World) : (sizeOf (Tryd.prog.elem 33)).run Tryd.prog W = .ok 1 W := by kernel_rfl

set_option maxRecDepth 100000 in
theorem sliceFront {w : World} {a : Option Addr} {c : Nat} {xs : List ByteArray} (hx : Strs w a c xs) (k : Nat) (hk : k ≤ xs.length) :
    ∃ A1, (∀ W : World, (Instr.slice 33 (.slice a xs.length c) none (some (.int .i64 (k : Int))) none).run Tryd.prog W = .ok (.slice A1 k c) W) ∧ Strs w A1 c (xs.take k) := by
  have hr : ∀ W : World, (Instr.slice 33 (.slice a xs.length c) none (some (.int .i64 (k : Int))) none).run Tryd.prog W = .ok (sliced a 0 k c 1) W := by
    intro W
    rw [run_slice_h (P := Tryd.prog) W 33 a xs.length c Tryd.underlying33 .i64 (k : Int) (by omega) (by have := hx.1; omega), sized_string]
    simp [Result.andThen]
  have hf := hx.front k
  have hS : sliced a 0 k c 1 = .slice a k c := by
    unfold sliced
    rcases a with _ | ⟨b, off, sp⟩ <;> simp [Addr.add]
  exact ⟨a, fun W => by rw [hr W, hS], hf⟩

set_option maxRecDepth 100000 in
theorem sliceBack {w : World} {a : Option Addr} {c : Nat} {xs : List ByteArray} (hx : Strs w a c xs) (z : Int) (r : Nat) (hz : z = (r : Int)) (hk : r ≤ xs.length) :
    ∃ A2, (∀ W : World, (Instr.slice 33 (.slice a xs.length c) (some (.int .i64 z)) none none).run Tryd.prog W = .ok (.slice A2 (xs.length - r) (c - r)) W) ∧ Strs w A2 (c - r) (xs.drop r) := by
  subst hz
  have hr : ∀ W : World, (Instr.slice 33 (.slice a xs.length c) (some (.int .i64 (r : Int))) none none).run Tryd.prog W = .ok (sliced a r xs.length c 1) W := by
    intro W
    rw [run_slice_l (P := Tryd.prog) W 33 a xs.length c Tryd.underlying33 .i64 (r : Int) (by omega) (by omega), sized_string]
    simp [Result.andThen]
  obtain ⟨h1, h2, h3, h3', h4⟩ := hx
  have hS : ∃ A2, sliced a r xs.length c 1 = .slice A2 (xs.length - r) (c - r) ∧ (A2 = none → a = none) ∧ (∀ b off, a = some ⟨b, off, none⟩ → c ≠ r → A2 = some ⟨b, off + r, none⟩) := by
    unfold sliced
    by_cases hc : c = r
    · refine ⟨a, by simp [hc], id, fun _ _ _ h => absurd hc h⟩
    · refine ⟨a.map (·.add r), ?_, by simp, ?_⟩
      · have hc' : ¬ c - r = 0 := by omega
        simp [hc, hc']
      · rintro b off rfl _
        by_cases h0 : r = 0 <;> simp [Addr.add, h0]
  obtain ⟨A2, hA, hnone, hsome⟩ := hS
  refine ⟨A2, fun W => by rw [hr W, hA], by simp; omega, by omega, fun s hs => h3 s (List.mem_of_mem_drop hs), fun h => by rw [h3' (hnone h)]; simp, fun hp => ?_⟩
  simp at hp
  obtain ⟨b, off, ha, hlt, hc⟩ := h4 (by omega)
  refine ⟨b, off + r, hsome b off ha (by omega), hlt, fun i hi => ?_⟩
  rw [List.getElem_drop, Nat.add_assoc]
  exact hc (r + i) (by simp at hi; omega)

end Go.Proofs.YtpdcmmhhgnackaaDoor

namespace Go.Proofs.YtpdcmmhhgnackaaDoor
open Go.RowKit

theorem less_trans : ∀ (a b c : List UInt8), Op.bytesLess a b = true → Op.bytesLess b c = true → Op.bytesLess a c = true
  | _, _, [], _, h => by simp [Op.bytesLess] at h
  | [], _, _ :: _, _, _ => by simp [Op.bytesLess]
  | _ :: _, [], _ :: _, h, _ => by simp [Op.bytesLess] at h
  | x :: a, y :: b, z :: c, h1, h2 => by
    simp only [Op.bytesLess, Bool.or_eq_true, Bool.and_eq_true, decide_eq_true_eq, beq_iff_eq] at h1 h2 ⊢
    rcases h1 with h1 | ⟨rfl, h1⟩
    · rcases h2 with h2 | ⟨rfl, h2⟩
      · exact .inl (UInt8.lt_trans h1 h2)
      · exact .inl h1
    · rcases h2 with h2 | ⟨rfl, h2⟩
      · exact .inl h2
      · exact .inr ⟨rfl, less_trans a b c h1 h2⟩

theorem less_total : ∀ (a b : List UInt8), Op.bytesLess a b = false → (a == b) = false → Op.bytesLess b a = true
  | a, [], _, h => by cases a <;> simp [Op.bytesLess] at h ⊢
  | [], _ :: _, h, _ => by simp [Op.bytesLess] at h
  | x :: a, y :: b, h1, h2 => by
    simp only [Op.bytesLess, Bool.or_eq_false_iff, decide_eq_false_iff_not] at h1
    simp only [Op.bytesLess, Bool.or_eq_true, Bool.and_eq_true, decide_eq_true_eq, beq_iff_eq]
    obtain ⟨hn, hr⟩ := h1
    by_cases hxy : x = y
    · subst hxy
      refine .inr ⟨rfl, less_total a b (by simpa using hr) ?_⟩
      rw [beq_eq_false_iff_ne] at h2 ⊢
      intro e
      exact h2 (by rw [e])
    · refine .inl ?_
      rw [UInt8.lt_iff_toNat_lt] at hn ⊢
      have : x.toNat ≠ y.toNat := fun e => hxy (UInt8.toNat_inj.1 e)
      omega

theorem less_irrefl (a : List UInt8) : Op.bytesLess a a = false := by
  induction a with
  | nil => rfl
  | cons x a ih => simp [Op.bytesLess, ih]

theorem less_asym (a b : List UInt8) (h : Op.bytesLess a b = true) : Op.bytesLess b a = false ∧ (a == b) = false := by
  constructor
  · cases h2 : Op.bytesLess b a with
    | false => rfl
    | true =>
      have := less_trans a b a h h2
      rw [less_irrefl] at this
      cases this
  · rw [beq_eq_false_iff_ne]
    rintro rfl
    rw [less_irrefl] at h
    cases h

/-- Of two texts one is ahead, or they are one. -/
theorem less_three (a b : List UInt8) : (Op.bytesLess a b = true ∧ Op.bytesLess b a = false ∧ (a == b) = false) ∨ (Op.bytesLess a b = false ∧ Op.bytesLess b a = true ∧ (a == b) = false) ∨ (Op.bytesLess a b = false ∧ Op.bytesLess b a = false ∧ (a == b) = true) := by
  cases h1 : Op.bytesLess a b with
  | true => exact .inl ⟨rfl, less_asym a b h1⟩
  | false =>
    cases h2 : (a == b) with
    | true =>
      have e : a = b := by simpa using h2
      subst e
      exact .inr (.inr ⟨rfl, h1, rfl⟩)
    | false => exact .inr (.inl ⟨rfl, less_total a b h1 h2, rfl⟩)

end Go.Proofs.YtpdcmmhhgnackaaDoor

namespace Go.Proofs.YtpdcmmhhgnackaaDoor
open Go.RowKit

/-- A node's own column. -/
def own1 (e : Ex) : List ByteArray := if e.kind = 0 then [e.text] else []

mutual
/-- All columns, as they stand. -/
def Ex.cols : Ex → List ByteArray
  | .mk k t n kids => own1 (.mk k t n kids) ++ colsL kids
def colsL : List Ex → List ByteArray
  | [] => []
  | e :: r => e.cols ++ colsL r
end

theorem Ex.cols_eq (e : Ex) : e.cols = own1 e ++ colsL e.kids := by
  cases e; rw [Ex.cols]; rfl

def putAll (xs ys : List ByteArray) : List ByteArray := ys.foldl putL xs

theorem putAll_take (xs ys : List ByteArray) (k : Nat) (h : k < ys.length) : putAll xs (ys.take (k + 1)) = putL (putAll xs (ys.take k)) ys[k] := by
  unfold putAll
  rw [List.take_succ_eq_append_getElem h, List.foldl_append]
  rfl

mutual
/-- What spec.Columns answers. -/
def Ex.ucols : Ex → List ByteArray
  | .mk k t n kids => ucolsL (own1 (.mk k t n kids)) kids
def ucolsL : List ByteArray → List Ex → List ByteArray
  | out, [] => out
  | out, e :: r => ucolsL (putAll out e.ucols) r
end

theorem Ex.ucols_eq (e : Ex) : e.ucols = ucolsL (own1 e) e.kids := by
  cases e; rw [Ex.ucols]; rfl

theorem ucolsL_take (out : List ByteArray) (l : List Ex) (k : Nat) (h : k < l.length) : ucolsL out (l.take (k + 1)) = putAll (ucolsL out (l.take k)) l[k].ucols := by
  induction l generalizing k out with
  | nil => simp at h
  | cons e r ih =>
    cases k with
    | zero => simp [ucolsL]
    | succ k =>
      simp only [List.take_succ_cons, ucolsL, List.getElem_cons_succ]
      exact ih _ k (by simpa using h)

def ris (xs : List ByteArray) : Prop := xs.Pairwise fun a b => lessB a b = true

theorem ris_put (xs : List ByteArray) (s : ByteArray) (h : ris xs) : ris (putL xs s) := by
  induction xs with
  | nil => simp [putL, ris]
  | cons x r ih =>
    obtain ⟨h1, h2⟩ := List.pairwise_cons.1 h
    rw [putL]
    split
    · rename_i hl
      refine List.pairwise_cons.2 ⟨fun y hy => ?_, ih h2⟩
      rcases putL_mem hy with rfl | hy
      · exact hl
      · exact h1 y hy
    · split
      · rename_i _ he
        have : x = s := ba_eq he
        subst this
        exact h
      · rename_i hl he
        have hsx : lessB s x = true := less_total _ _ (by simpa [lessB] using hl) (by simpa using he)
        refine List.pairwise_cons.2 ⟨fun y hy => ?_, h⟩
        rcases List.mem_cons.1 hy with rfl | hy
        · exact hsx
        · exact less_trans _ _ _ hsx (h1 y hy)

theorem put_mem (xs : List ByteArray) (s t : ByteArray) : t ∈ putL xs s ↔ t = s ∨ t ∈ xs := by
  refine ⟨putL_mem, fun h => ?_⟩
  induction xs with
  | nil => simpa [putL] using h
  | cons x r ih =>
    rw [putL]
    split
    · rcases h with h | h
      · exact List.mem_cons_of_mem _ (ih (.inl h))
      · rcases List.mem_cons.1 h with rfl | h
        · exact List.mem_cons_self ..
        · exact List.mem_cons_of_mem _ (ih (.inr h))
    · split
      · rename_i _ he
        have : x = s := ba_eq he
        subst this
        rcases h with rfl | h
        · exact List.mem_cons_self ..
        · exact h
      · rcases h with rfl | h
        · exact List.mem_cons_self ..
        · exact List.mem_cons_of_mem _ h

theorem putAll_facts (ys xs : List ByteArray) : (ris xs → ris (putAll xs ys)) ∧ (∀ t, t ∈ putAll xs ys ↔ t ∈ xs ∨ t ∈ ys) ∧ (putAll xs ys).length ≤ xs.length + ys.length := by
  induction ys generalizing xs with
  | nil => exact ⟨id, fun t => by simp [putAll], by simp [putAll]⟩
  | cons y r ih =>
    obtain ⟨h1, h2, h3⟩ := ih (putL xs y)
    have e : putAll xs (y :: r) = putAll (putL xs y) r := rfl
    rw [e]
    refine ⟨fun h => h1 (ris_put xs y h), fun t => ?_, ?_⟩
    · rw [h2, put_mem, List.mem_cons]
      constructor
      · rintro ((h | h) | h)
        · exact .inr (.inl h)
        · exact .inl h
        · exact .inr (.inr h)
      · rintro (h | h | h)
        · exact .inl (.inr h)
        · exact .inl (.inl h)
        · exact .inr h
    · have := putL_len xs y
      rw [List.length_cons]
      omega

theorem own1_facts (e : Ex) : ris (own1 e) ∧ (own1 e).length ≤ 1 ∧ (∀ t ∈ own1 e, t = e.text) := by
  unfold own1
  split
  · exact ⟨by simp [ris], by simp, by simp⟩
  · exact ⟨by simp [ris], by simp, by simp⟩

mutual
theorem ucols_facts : (e : Ex) → ris e.ucols ∧ (∀ t, t ∈ e.ucols ↔ t ∈ e.cols) ∧ e.ucols.length ≤ e.nodes
  | .mk k t n kids => by
    obtain ⟨h1, h2, h3⟩ := ucolsL_facts kids (own1 (.mk k t n kids))
    obtain ⟨o1, o2, o3⟩ := own1_facts (.mk k t n kids)
    rw [Ex.ucols, Ex.cols, Ex.nodes]
    exact ⟨h1 o1, fun t => by rw [h2, List.mem_append], by omega⟩
theorem ucolsL_facts : (l : List Ex) → (out : List ByteArray) → (ris out → ris (ucolsL out l)) ∧ (∀ t, t ∈ ucolsL out l ↔ t ∈ out ∨ t ∈ colsL l) ∧ (ucolsL out l).length ≤ out.length + nodesL l
  | [], out => ⟨id, fun t => by simp [ucolsL, colsL], by simp [ucolsL, nodesL]⟩
  | e :: r, out => by
    obtain ⟨e1, e2, e3⟩ := ucols_facts e
    obtain ⟨p1, p2, p3⟩ := putAll_facts e.ucols out
    obtain ⟨h1, h2, h3⟩ := ucolsL_facts r (putAll out e.ucols)
    rw [ucolsL, colsL, nodesL]
    exact ⟨fun h => h1 (p1 h), fun t => by rw [h2, p2, e2, List.mem_append, or_assoc], by omega⟩
end

theorem less_self (a : ByteArray) : lessB a a = false := less_irrefl _

/-- A rising list is told by what stands in it. -/
theorem ris_ext : ∀ {xs ys : List ByteArray}, ris xs → ris ys → (∀ t, t ∈ xs ↔ t ∈ ys) → xs = ys
  | [], [], _, _, _ => rfl
  | [], y :: r, _, _, h => absurd ((h y).2 (by simp)) (by simp)
  | x :: r, [], _, _, h => absurd ((h x).1 (by simp)) (by simp)
  | x :: r, y :: s, hx, hy, h => by
    obtain ⟨x1, x2⟩ := List.pairwise_cons.1 hx
    obtain ⟨y1, y2⟩ := List.pairwise_cons.1 hy
    have hxy : x = y := by
      rcases List.mem_cons.1 ((h x).1 (by simp)) with e | e
      · exact e
      · rcases List.mem_cons.1 ((h y).2 (by simp)) with e' | e'
        · exact e'.symm
        · have a3 : lessB y y = true := less_trans _ _ _ (y1 x e) (x1 y e')
          rw [less_self] at a3
          cases a3
    subst hxy
    rw [ris_ext x2 y2 ?_]
    intro t
    constructor
    · intro ht
      rcases List.mem_cons.1 ((h t).1 (List.mem_cons_of_mem _ ht)) with rfl | h2
      · have a3 := x1 t ht
        rw [less_self] at a3
        cases a3
      · exact h2
    · intro ht
      rcases List.mem_cons.1 ((h t).2 (List.mem_cons_of_mem _ ht)) with rfl | h2
      · have a3 := y1 t ht
        rw [less_self] at a3
        cases a3
      · exact h2

/-- What slices.Sort and slices.Compact leave. -/
def sortU (zs : List (List UInt8)) : List (List UInt8) := Lib.compact (zs.mergeSort fun x y => decide (x ≤ y))
def ba (l : List UInt8) : ByteArray := ⟨l.toArray⟩
def la (s : ByteArray) : List UInt8 := s.data.toList
theorem ba_la (s : ByteArray) : ba (la s) = s := by unfold ba la; apply ByteArray.ext; simp
theorem la_ba (l : List UInt8) : la (ba l) = l := by simp [ba, la]

theorem le_less (x y : List UInt8) : decide (x ≤ y) = !Op.bytesLess y x := by
  rw [Go.Proofs.bytesLess_eq]
  by_cases h : y < x
  · rw [decide_eq_true h, decide_eq_false (fun hle => absurd h (List.not_lt.2 hle))]; rfl
  · rw [decide_eq_false h, decide_eq_true (List.not_lt.1 h)]; rfl

theorem le_trans_less (a b c : List UInt8) (h1 : Op.bytesLess b a = false) (h2 : Op.bytesLess c b = false) : Op.bytesLess c a = false := by
  cases hca : Op.bytesLess c a with
  | false => rfl
  | true =>
    by_cases hab : (b == a) = true
    · have : b = a := by simpa using hab
      subst this
      rw [hca] at h2
      cases h2
    · have := less_total b a h1 (by simpa using hab)
      rw [less_trans _ _ _ hca this] at h2
      cases h2

theorem sorted_pair (zs : List (List UInt8)) : (zs.mergeSort fun x y => decide (x ≤ y)).Pairwise fun a b => Op.bytesLess b a = false := by
  have := List.pairwise_mergeSort (le := fun x y : List UInt8 => decide (x ≤ y)) (fun a b c h1 h2 => by
    rw [le_less] at h1 h2 ⊢
    rw [le_trans_less a b c (by simpa using h1) (by simpa using h2)]
    rfl) (fun a b => by
    rw [le_less, le_less]
    cases h : Op.bytesLess b a with
    | false => rfl
    | true => rw [(less_asym _ _ h).1]; rfl) zs
  refine this.imp fun h => ?_
  rw [le_less] at h
  simpa using h

theorem compact_mem (zs : List (List UInt8)) (t : List UInt8) : t ∈ Lib.compact zs ↔ t ∈ zs := by
  unfold Lib.compact Lib.compactUpTo
  constructor
  · intro h
    obtain ⟨m, hm, rfl⟩ := List.mem_map.1 h
    have hm' := List.mem_range.1 (List.mem_filter.1 hm).1
    simp [hm']
  · intro h
    obtain ⟨m, hm, rfl⟩ := List.mem_iff_getElem.1 h
    induction m with
    | zero => exact List.mem_map.2 ⟨0, List.mem_filter.2 ⟨List.mem_range.2 hm, by simp [Lib.keeps]⟩, by simp [hm]⟩
    | succ m ih =>
      by_cases he : zs[m + 1] = zs[m]
      · rw [he]
        exact ih (by omega) (List.getElem_mem _)
      · refine List.mem_map.2 ⟨m + 1, List.mem_filter.2 ⟨List.mem_range.2 hm, Lib.keeps_pos ?_⟩, by simp [hm]⟩
        simpa [hm, show m < zs.length by omega] using he

theorem compact_ris (zs : List (List UInt8)) (h : zs.Pairwise fun a b => Op.bytesLess b a = false) : (Lib.compact zs).Pairwise fun a b => Op.bytesLess a b = true := by
  unfold Lib.compact Lib.compactUpTo
  rw [List.pairwise_map, List.pairwise_filter]
  have hr : (List.range zs.length).Pairwise (· < ·) := List.pairwise_lt_range
  refine List.Pairwise.imp_of_mem (R := (· < ·)) ?_ hr
  intro i j hi hj hlt _ hkj
  have hi' := List.mem_range.1 hi
  have hj' := List.mem_range.1 hj
  have hne : zs[j] ≠ zs[j - 1] := by
    intro e
    rw [Lib.keeps_neg (d := zs.toArray) (m := j) (by omega) (by simpa [hj', show j - 1 < zs.length by omega] using e)] at hkj
    cases hkj
  have h1 : Op.bytesLess zs[j] zs[j - 1] = false := List.pairwise_iff_getElem.1 h (j - 1) j (by omega) hj' (by omega)
  have h2 : Op.bytesLess zs[j - 1] zs[j] = true := less_total _ _ h1 (by simpa using hne)
  have h3 : i = j - 1 ∨ Op.bytesLess zs[j - 1] zs[i] = false := by
    rcases Nat.lt_or_ge i (j - 1) with hlt2 | hge
    · exact .inr (List.pairwise_iff_getElem.1 h i (j - 1) hi' (by omega) hlt2)
    · exact .inl (by omega)
  have h4 : Op.bytesLess zs[i] zs[j] = true := by
    rcases h3 with rfl | h3
    · exact h2
    · by_cases he : zs[j - 1] = zs[i]
      · rw [← he]; exact h2
      · exact less_trans _ _ _ (less_total _ _ h3 (by simpa using he)) h2
  simpa [hi', hj'] using h4

/-- The list that impl.Columns makes is the one that spec.Columns makes, in whatever order the nodes were seen. -/
theorem sortU_eq (e : Ex) (xs : List ByteArray) (h : ∀ t, t ∈ xs ↔ t ∈ e.cols) : (sortU (xs.map la)).map ba = e.ucols := by
  obtain ⟨h1, h2, _⟩ := ucols_facts e
  refine ris_ext ?_ h1 fun t => ?_
  · unfold ris
    rw [List.pairwise_map]
    refine (compact_ris _ (sorted_pair _)).imp fun h => ?_
    unfold lessB ba
    rw [Lib.toList_data, Lib.toList_data]
    simpa using h
  · rw [h2, ← h, List.mem_map]
    unfold sortU
    constructor
    · rintro ⟨l, hl, rfl⟩
      rw [compact_mem, List.mem_mergeSort] at hl
      obtain ⟨s, hs, rfl⟩ := List.mem_map.1 hl
      rw [ba_la]; exact hs
    · intro ht
      exact ⟨la t, by rw [compact_mem, List.mem_mergeSort]; exact List.mem_map.2 ⟨t, ht, rfl⟩, ba_la t⟩

mutual
theorem cols_wt : (e : Ex) → ∀ t ∈ e.cols, t.size ≤ e.wt
  | .mk k t n kids => by
    intro s hs
    rw [Ex.cols] at hs
    rw [Ex.wt]
    rcases List.mem_append.1 hs with h | h
    · have := (own1_facts (.mk k t n kids)).2.2 s h
      rw [this]
      show t.size ≤ _
      omega
    · have := colsL_wt kids s h
      omega
theorem colsL_wt : (l : List Ex) → ∀ t ∈ colsL l, t.size ≤ wtL l
  | [] => by simp [colsL]
  | e :: r => by
    intro s hs
    rw [colsL] at hs
    rw [wtL]
    rcases List.mem_append.1 hs with h | h
    · have := cols_wt e s h; omega
    · have := colsL_wt r s h; omega
end

theorem ucols_wt (e : Ex) : ∀ t ∈ e.ucols, t.size ≤ e.wt := fun t ht => cols_wt e t (((ucols_facts e).2.1 t).1 ht)

theorem colsL_take (l : List Ex) (k : Nat) : ∀ t ∈ colsL (l.take k), t ∈ colsL l := by
  induction l generalizing k with
  | nil => simp
  | cons e r ih =>
    cases k with
    | zero => simp [colsL]
    | succ k =>
      intro t ht
      simp only [List.take_succ_cons, colsL] at ht ⊢
      rcases List.mem_append.1 ht with h | h
      · exact List.mem_append_left _ h
      · exact List.mem_append_right _ (ih k t h)

theorem nodesL_takeC (l : List Ex) (k : Nat) : nodesL (l.take k) ≤ nodesL l := by
  induction l generalizing k with
  | nil => simp
  | cons x r ih =>
    cases k with
    | zero => simp [nodesL]
    | succ k => simp only [List.take_succ_cons, nodesL]; have := ih k; omega

/-- The texts on the way are small, and few. -/
theorem ucolsL_on (e : Ex) (k : Nat) : (∀ t ∈ ucolsL (own1 e) (e.kids.take k), t.size ≤ e.wt) ∧ (ucolsL (own1 e) (e.kids.take k)).length ≤ e.nodes := by
  obtain ⟨_, h2, h3⟩ := ucolsL_facts (e.kids.take k) (own1 e)
  refine ⟨fun t ht => cols_wt e t ?_, ?_⟩
  · rw [Ex.cols_eq]
    rcases (h2 t).1 ht with h | h
    · exact List.mem_append_left _ h
    · exact List.mem_append_right _ (colsL_take _ k t h)
  · have h4 := (own1_facts e).2.1
    have h5 := Ex.nodes_eq e
    have h6 := nodesL_takeC e.kids k
    omega

theorem putAll_on (xs ys : List ByteArray) (k N : Nat) (hx : ∀ t ∈ xs, t.size ≤ N) (hy : ∀ t ∈ ys, t.size ≤ N) : (∀ t ∈ putAll xs (ys.take k), t.size ≤ N) ∧ (putAll xs (ys.take k)).length ≤ xs.length + ys.length := by
  obtain ⟨_, h2, h3⟩ := putAll_facts (ys.take k) xs
  refine ⟨fun t ht => ?_, by simp at h3; omega⟩
  rcases (h2 t).1 ht with h | h
  · exact hx t h
  · exact hy t (List.mem_of_mem_take h)

end Go.Proofs.YtpdcmmhhgnackaaDoor

namespace Go.Proofs.YtpdcmmhhgnackaaDoor
open Go.RowKit

theorem strsOne (w : World) (s : ByteArray) (hs : s.size ≤ maxLen) : Strs (w.alloc (.cells #[.string s] 9)) (some ⟨w.heap.size, 0, none⟩) 1 [s] := by
  refine ⟨by simp, by unfold maxLen; omega, by simpa using hs, (fun h => by cases h), fun _ => ⟨w.heap.size, 0, rfl, by simp, fun i hi => ?_⟩⟩
  have : i = 0 := by simpa using hi
  subst this
  simp [go_sem]

theorem Own.alloc {w : World} {B : Nat} {a : Option Addr} {c : Nat} {xs : List ByteArray} (h : Own w B a c xs) (o : Obj) : Own (w.alloc o) B a c xs :=
  h.below ((Below.refl _ _).alloc (Nat.le_refl _) _)

theorem Own.drewN {w : World} {B : Nat} {a : Option Addr} {c : Nat} {xs : List ByteArray} (h : Own w B a c xs) (n : Nat) : Own (w.drewN n) B a c xs :=
  h.below (below_drewN (Below.refl _ _) n)

theorem ownEmpty (w : World) : Own (w.alloc (.cells #[] 9)) w.heap.size (some ⟨w.heap.size, 0, none⟩) 0 [] := by
  have := World.ownsRow_lit (base := w.heap.size) (e := 9) (size := 1) w #[] 0 (Nat.le_refl _) (by unfold maxLen; omega) rfl
  exact this

/-- A row of the call's own, one text appended behind a new block: what is below stays. -/
theorem appended {w wr w2 : World} {B : Nat} {a : Option Addr} {c : Nat} {ys : List ByteArray} (hb : Below B w wr) (hBw : B ≤ w.heap.size) (hown : Own wr B a c ys) {o : Obj} (hg : (wr.alloc o).grownBy w2 (Value.slice a ys.length c).ownBlock) : Below B w w2 := by
  have h1 : Below B w (wr.alloc o) := hb.alloc (Nat.le_trans hBw hb.size) o
  exact h1.grown hg (by have := hb.size; simp; omega) (fun k hk => (hown.lt hk).1)

end Go.Proofs.YtpdcmmhhgnackaaDoor

namespace Go.Proofs.YtpdcmmhhgnackaaDoor
open Go.RowKit

theorem specBeforeIs (a b : ByteArray) (w : World) (ha : a.size ≤ maxLen) (hb : b.size ≤ maxLen) (v : Bool) (h : lessB a b = v) :
    Calls Tryd.prog 128 #[.string a, .string b] w fun e w' => e = .returned (.bool v) ∧ ∃ n, w' = w.drewN n := by
  have := specBefore a b w ha hb
  unfold lessB at h
  rw [h] at this
  exact this

set_option maxHeartbeats 1000000 in
theorem specPut (a : Option Addr) (c : Nat) (xs : List ByteArray) (s : ByteArray) (w : World) (hx : Strs w a c xs) (hs : s.size ≤ maxLen) (hn : xs.length ≤ 4194304) :
    Calls Tryd.prog 83 #[.slice a xs.length c, .string s] w (NewStrs w (putL xs s)) := by
  obtain ⟨i0, hi0, hz0, hz1, hz2⟩ := info_parts Tryd.infoString
  have hl := hx.len
  go_enter Tryd.func83, Tryd.ntmps83
  go_wp2
  go_loopw [5, 6, 7] (fun v d i wr => ∃ (k : Nat) (a1 : Option Addr) (c1 : Nat), k ≤ xs.length ∧ i = .int .i64 k ∧ d = .bool (putSt xs s k).2 ∧ v = .slice a1 (putSt xs s k).1.length c1 ∧ Own wr w.heap.size a1 c1 (putSt xs s k).1 ∧ Below w.heap.size w wr) (fun _ _ i _ => xs.length - (intOf i).toNat)
  case atStart => exact ⟨0, _, _, Nat.zero_le _, rfl, rfl, rfl, ownEmpty w, (Below.refl _ _).alloc (Nat.le_refl _) _⟩
  case round =>
    obtain ⟨k, a1, c1, hk, rfl, rfl, rfl, hown, hb⟩ := hrel
    have hsz := hb.size
    by_cases hlt : k < xs.length
    · obtain ⟨b, off, rfl, hbl, hc⟩ := (hx.below hb).spot hlt
      have hsk := hx.2.2.1 xs[k] (List.getElem_mem hlt)
      have hlen := (putSt_len xs s k hk).1
      cases hd : (putSt xs s k).2 with
      | true =>
        have HS : Hid (putSt xs s (k + 1) = ((putSt xs s k).1 ++ [xs[k]], true)) := by
          unfold Hid; rw [putSt_succ xs s k hlt]; unfold putStep; rw [hd]; rfl
        have Hd := Lib.hid hd
        clear hd
        go_wp2_with (at_builtin; refine wpAppendStrs rfl (.tmp 36) (.tmp 41) rfl i0 hi0 hz0 hz1 hz2 w.heap.size a1 c1 _ (some ⟨_, 0, none⟩) 1 [xs[k]] rfl (hown.alloc _) rfl (strsOne _ _ hsk) (by simp only [List.length_cons, List.length_nil]; omega) (by simp; omega) ?_; intro a2 c2 w2 hown2 hg2)
        have hb2 := appended hb (Nat.le_refl _) hown hg2
        go_roundw
        case rel => exact ⟨k + 1, a2, c2, by omega, by go_num, by rw [HS.out], by rw [HS.out, List.length_append]; rfl, by rw [HS.out]; exact hown2, hb2⟩
        case measure => simp [intOf]; omega
      | false =>
        have hlen' := (putSt_len xs s k hk).2 hd
        cases hle : lessB xs[k] s with
        | true =>
          have HS : Hid (putSt xs s (k + 1) = ((putSt xs s k).1 ++ [xs[k]], false)) := by
            unfold Hid; rw [putSt_succ xs s k hlt]; unfold putStep; rw [hd, hle]; rfl
          have Hd := Lib.hid hd
          have Hle := Lib.hid hle
          clear hd hle
          go_wp2_with (first
            | (go_at_call 128; refine (specBeforeIs _ _ _ hsk hs true Hle.out).mono ?_; rintro e w1 ⟨rfl, n1, rfl⟩)
            | (at_builtin; refine wpAppendStrs rfl (.tmp 36) (.tmp 41) rfl i0 hi0 hz0 hz1 hz2 w.heap.size a1 c1 _ (some ⟨_, 0, none⟩) 1 [xs[k]] rfl ((hown.drewN n1).alloc _) rfl (strsOne _ _ hsk) (by simp only [List.length_cons, List.length_nil]; omega) (by simp; omega) ?_; intro a2 c2 w2 hown2 hg2))
          have hb2 := appended (below_drewN hb n1) (Nat.le_refl _) (hown.drewN n1) hg2
          go_roundw
          case rel => exact ⟨k + 1, a2, c2, by omega, by go_num, by rw [HS.out], by rw [HS.out, List.length_append]; rfl, by rw [HS.out]; exact hown2, hb2⟩
          case measure => simp [intOf]; omega
        | false =>
          cases he : (xs[k].toList == s.toList) with
          | true =>
            have HS : Hid (putSt xs s (k + 1) = ((putSt xs s k).1 ++ [s], true)) := by
              unfold Hid; rw [putSt_succ xs s k hlt]; unfold putStep; rw [hd, hle, he]; rfl
            have Hd := Lib.hid hd
            have Hle := Lib.hid hle
            clear hd hle
            go_wp2_with (first
              | (go_at_call 128; refine (specBeforeIs _ _ _ hsk hs false Hle.out).mono ?_; rintro e w1 ⟨rfl, n1, rfl⟩)
              | ((at_builtin; refine wpAppendStrs rfl (.tmp 26) (.tmp 28) rfl i0 hi0 hz0 hz1 hz2 w.heap.size a1 c1 _ (some ⟨_, 0, none⟩) 1 [s] rfl ((hown.drewN n1).alloc _) rfl (strsOne _ _ hs) (by simp only [List.length_cons, List.length_nil]; omega) (by simp; omega) ?_; intro a2 c2 w2 hown2 hg2); (have hb2 := appended (below_drewN hb n1) (Nat.le_refl _) (hown.drewN n1) hg2); (have hc2 := (hx.below hb2).spot hlt); (have hc2' : w2.cell? ⟨b, off + k, none⟩ = some (.string xs[k]) := by obtain ⟨b', off', he', _, h⟩ := hc2; cases he'; exact h); clear hc2))
            go_roundw
            case rel => exact ⟨k + 1, a2, c2, by omega, by go_num, by rw [HS.out], by rw [HS.out, List.length_append]; rfl, by rw [HS.out]; exact hown2, hb2⟩
            case measure => simp [intOf]; omega
          | false =>
            have HS : Hid (putSt xs s (k + 1) = ((putSt xs s k).1 ++ [s] ++ [xs[k]], true)) := by
              unfold Hid; rw [putSt_succ xs s k hlt]; unfold putStep; rw [hd, hle, he]; rfl
            have Hd := Lib.hid hd
            have Hle := Lib.hid hle
            clear hd hle
            go_wp2_with (first
              | (go_at_call 128; refine (specBeforeIs _ _ _ hsk hs false Hle.out).mono ?_; rintro e w1 ⟨rfl, n1, rfl⟩)
              | ((at_builtin; refine wpAppendStrs rfl (.tmp 26) (.tmp 28) rfl i0 hi0 hz0 hz1 hz2 w.heap.size a1 c1 _ (some ⟨_, 0, none⟩) 1 [s] rfl ((hown.drewN n1).alloc _) rfl (strsOne _ _ hs) (by simp only [List.length_cons, List.length_nil]; omega) (by simp; omega) ?_; intro a2 c2 w2 hown2 hg2); (have hb2 := appended (below_drewN hb n1) (Nat.le_refl _) (hown.drewN n1) hg2); (have hc2 := (hx.below hb2).spot hlt); (have hc2' : w2.cell? ⟨b, off + k, none⟩ = some (.string xs[k]) := by obtain ⟨b', off', he', _, h⟩ := hc2; cases he'; exact h); clear hc2; (have hsz2 := hb2.size))
              | (at_builtin; refine wpAppendStrs rfl (.tmp 36) (.tmp 41) rfl i0 hi0 hz0 hz1 hz2 w.heap.size a2 c2 ((putSt xs s k).1 ++ [s]) (some ⟨_, 0, none⟩) 1 [xs[k]] (by simp [go_sem]) (hown2.alloc _) rfl (strsOne _ _ hsk) (by simp only [List.length_cons, List.length_nil, List.length_append]; omega) (by simp; omega) ?_; intro a3 c3 w3 hown3 hg3))
            have hb3 := appended hb2 (Nat.le_refl _) hown2 hg3
            go_roundw
            case rel => exact ⟨k + 1, a3, c3, by omega, by go_num, by rw [HS.out], by rw [HS.out, List.length_append, List.length_append]; rfl, by rw [HS.out]; exact hown3, hb3⟩
            case measure => simp [intOf]; omega
    · obtain rfl : k = xs.length := by omega
      have hlen := (putSt_len xs s xs.length hk).1
      have hend := putSt_end xs s
      cases hd : (putSt xs s xs.length).2 with
      | true =>
        have HE : Hid (putL xs s = (putSt xs s xs.length).1) := by unfold Hid; rw [← hend, hd]; rfl
        have Hd := Lib.hid hd
        clear hd hend
        go_wp2_with fail
        go_ret
        exact ⟨a1, c1, by rw [HE.out]; rfl, by rw [HE.out]; exact hown, hb⟩
      | false =>
        have HE : Hid (putL xs s = (putSt xs s xs.length).1 ++ [s]) := by unfold Hid; rw [← hend, hd]; rfl
        have Hd := Lib.hid hd
        clear hd hend
        go_wp2_with (at_builtin; refine wpAppendStrs rfl (.tmp 45) (.tmp 47) rfl i0 hi0 hz0 hz1 hz2 w.heap.size a1 c1 _ (some ⟨_, 0, none⟩) 1 [s] rfl (hown.alloc _) rfl (strsOne _ _ hs) (by simp only [List.length_cons, List.length_nil]; omega) (by simp; omega) ?_; intro a2 c2 w2 hown2 hg2)
        have hb2 := appended hb (Nat.le_refl _) hown hg2
        go_ret
        exact ⟨a2, c2, by rw [HE.out, List.length_append]; rfl, by rw [HE.out]; exact hown2, hb2⟩

end Go.Proofs.YtpdcmmhhgnackaaDoor

namespace Go.Proofs.YtpdcmmhhgnackaaDoor
open Go.RowKit

theorem own1_yes {e : Ex} (h : e.kind = 0) : own1 e = [e.text] := by unfold own1; rw [if_pos h]
theorem own1_no {e : Ex} (h : e.kind ≠ 0) : own1 e = [] := by unfold own1; rw [if_neg h]

theorem wt_get {l : List Ex} {k : Nat} (h : k < l.length) : l[k].wt ≤ wtL l := by
  have h1 := wtL_take l k h
  have h2 := wtL_mono l (k + 1)
  omega

def ColsP (d : Nat) : Prop := ∀ (e : Ex) (a : Option Addr) (c : Nat) (w : World), e.fit → e.wt ≤ 1048576 → KidsAt w d a c e.kids →
  Calls Tryd.prog 41 #[.agg #[.int .i64 e.kind, .string e.text, .int .i64 e.num, .slice a e.kids.length c]] w (NewStrs w e.ucols)

set_option maxRecDepth 100000 in
set_option maxHeartbeats 2000000 in
theorem specCols : ∀ d, ColsP d
  | 0 => fun _ _ _ _ _ _ h => h.elim
  | d + 1 => by
    intro e a c w hfit hwt hk
    have ih := specCols d
    have hue := Lib.hid (Ex.ucols_eq e)
    have hl := hk.len
    have hts := hfit.1
    obtain ⟨i0, hi0, hz0, hz1, hz2⟩ := info_parts Tryd.infoString
    have HK := Lib.hid (fun w' hb => hk.below (w' := w') hb)
    have HW := Lib.hid (Ex.wt_eq e)
    have HN := Lib.hid (nodes_wt e)
    have HON := Lib.hid (ucolsL_on e)
    clear hk
    by_cases h0 : e.kind = 0
    · have hk0 : (e.kind == 0) = true := by simp [h0]
      have HO := Lib.hid (own1_yes h0)
      clear h0
      generalize hks : e.kids = xs at *
      go_enter Tryd.func41, Tryd.ntmps41
      have hb0 : Below w.heap.size w ((w.alloc (.cells #[.int .i64 e.kind, .string e.text, .int .i64 e.num, .slice a xs.length c] 26)).alloc (.cells #[] 9)) := ((Below.refl _ _).alloc (Nat.le_refl _) _).alloc (by simp) _
      have hc30 : ((w.alloc (.cells #[.int .i64 e.kind, .string e.text, .int .i64 e.num, .slice a xs.length c] 26)).alloc (.cells #[] 9)).cell? ⟨w.heap.size, 3, none⟩ = some (.slice a xs.length c) := by simp [go_sem]
      have hown0 := (ownEmpty (w.alloc (.cells #[.int .i64 e.kind, .string e.text, .int .i64 e.num, .slice a xs.length c] 26))).lower (B' := w.heap.size) (by simp)
      have HX := Lib.hid (And.intro hb0 (And.intro hc30 hown0))
      clear hb0 hc30 hown0
      go_wp2_with (at_builtin; refine wpAppendStrs rfl (.tmp 11) (.tmp 14) rfl i0 hi0 hz0 hz1 hz2 w.heap.size (some ⟨w.heap.size + 1, 0, none⟩) 0 [] (some ⟨w.heap.size + 1 + 1, 0, none⟩) 1 [e.text] rfl (by have := HX.out.2.2.alloc (.cells #[.string e.text] 9); simpa using this) rfl (by have := strsOne ((w.alloc (.cells #[.int .i64 e.kind, .string e.text, .int .i64 e.num, .slice a xs.length c] 26)).alloc (.cells #[] 9)) e.text hts; simpa using this) (by simp only [List.length_cons, List.length_nil]; omega) (by simp; omega) ?_; intro a2 c2 w2 hown2 hg2)
      have HS : Hid (Own w2 w.heap.size a2 c2 (ucolsL (own1 e) (xs.take 0)) ∧ w2.cell? ⟨w.heap.size, 3, none⟩ = some (.slice a xs.length c) ∧ w.heap.size < w2.heap.size ∧ Below w.heap.size w w2) := by
        have hb1 := HX.out.1.alloc HX.out.1.size (.cells #[.string e.text] 9)
        have hnb : ∀ q, (Value.slice (some ⟨w.heap.size + 1, 0, none⟩) ([] : List ByteArray).length 0).ownBlock = some q → q = w.heap.size + 1 := fun q hq => (Option.some.inj hq).symm
        refine ⟨by rw [HO.out]; simpa [ucolsL] using hown2, ?_, ?_, hb1.grown hg2 hb1.size (fun q hq => by have := hnb q hq; omega)⟩
        · refine (hg2.cell_far ⟨w.heap.size, 3, none⟩ (by simp; omega) (fun e => by have := hnb _ e.symm; simp at this)).trans ?_
          simp [go_sem]
        · have := hg2.size; simp at this; omega
      have HL1 : Hid (([] ++ [e.text] : List ByteArray).length = (ucolsL (own1 e) (xs.take 0)).length) := by unfold Hid; rw [HO.out]; simp [ucolsL]
      clear hown2 hg2 HX
      go_loopw [3, 4] (fun v i wr => ∃ (k : Nat) (a1 : Option Addr) (c1 : Nat), k ≤ xs.length ∧ i = .int .i64 k ∧ v = .slice a1 (ucolsL (own1 e) (xs.take k)).length c1 ∧ Own wr w.heap.size a1 c1 (ucolsL (own1 e) (xs.take k)) ∧ wr.cell? ⟨w.heap.size, 3, none⟩ = some (.slice a xs.length c) ∧ w.heap.size < wr.heap.size ∧ Below w.heap.size w wr) (fun _ i _ => xs.length - (intOf i).toNat)
      case atStart => exact ⟨0, _, _, Nat.zero_le _, rfl, by first | (rw [← HL1.out]; rfl) | (rw [← HL1.out]), HS.out⟩
      case round =>
        obtain ⟨k, a1, c1, hk, rfl, rfl, hown, h3, hlw, hb⟩ := hrel
        by_cases hlt : k < xs.length
        · obtain ⟨b, off, rfl, hbl, hc0, hc1, hc2, hfitk, a', c', hc3, hkid⟩ := (HK.out _ hb).spot hlt
          have HT := Lib.hid (ucolsL_take (own1 e) xs k hlt)
          have HX := Lib.hid hkid
          have HWk : Hid (xs[k].wt ≤ 1048576) := by have h1 := HW.out; have h2 := wt_get hlt; unfold Hid; omega
          have HU := Lib.hid (ucols_wt xs[k])
          have HUL := Lib.hid ((ucols_facts xs[k]).2.2)
          have HUN := Lib.hid (nodes_wt xs[k])
          clear hkid
          have HOWN := Lib.hid hown
          clear hown
          go_wp2_with fail
          refine (ih xs[k] a' c' _ hfitk HWk.out HX.out).mono ?_
          rintro x w2 ⟨am, cm, rfl, hom, hb2⟩
          have HO2 := Lib.hid (HOWN.out.below hb2)
          have h3' := (hb2.cell (p := ⟨w.heap.size, 3, none⟩) hlw).trans h3
          have HB2 := Lib.hid (hb.trans (hb2.mono hb.size))
          have hlw' := Nat.lt_of_lt_of_le hlw hb2.size
          have HST := Lib.hid (hom.strs fun s hs => by have h1 := HU.out s hs; have h2 := HWk.out; unfold maxLen; omega)
          have hml : xs[k].ucols.length ≤ 9223372036854775807 := by have h1 := HUL.out; have h2 := HUN.out; have h3 := HWk.out; omega
          clear h3 hb hb2 hc0 hc1 hc2 hc3 hlw hom
          go_wp2_with fail
          go_loopw [3, 6] (fun v i w3 => ∃ (j : Nat) (a3 : Option Addr) (c3 : Nat), j ≤ xs[k].ucols.length ∧ i = .int .i64 j ∧ v = .slice a3 (putAll (ucolsL (own1 e) (xs.take k)) (xs[k].ucols.take j)).length c3 ∧ Own w3 w.heap.size a3 c3 (putAll (ucolsL (own1 e) (xs.take k)) (xs[k].ucols.take j)) ∧ Below w2.heap.size w2 w3) (fun _ i _ => xs[k].ucols.length - (intOf i).toNat)
          case atStart => exact ⟨0, a1, c1, Nat.zero_le _, rfl, rfl, HO2.out, Below.refl _ _⟩
          case round =>
            obtain ⟨j, a3, c3, hj, rfl, rfl, hown3, hb3⟩ := hrel
            by_cases hjl : j < xs[k].ucols.length
            · obtain ⟨bm, om, rfl, hbm, hcm⟩ := (HST.out.below hb3).spot hjl
              have HPT := Lib.hid (putAll_take (ucolsL (own1 e) (xs.take k)) xs[k].ucols j hjl)
              have HPO := Lib.hid (putAll_on (ucolsL (own1 e) (xs.take k)) xs[k].ucols j 1048576 (fun t ht => Nat.le_trans ((HON.out k).1 t ht) hwt) (fun t ht => Nat.le_trans (HU.out t ht) HWk.out))
              have HST3 := Lib.hid (hown3.strs fun s hs => by have h1 := HPO.out.1 s hs; unfold maxLen; omega)
              have hsz : Hid (xs[k].ucols[j].size ≤ maxLen) := by have h1 := HU.out _ (List.getElem_mem hjl); have h2 := HWk.out; unfold Hid maxLen; omega
              have hlen : Hid ((putAll (ucolsL (own1 e) (xs.take k)) (xs[k].ucols.take j)).length ≤ 4194304) := by have h1 := HPO.out.2; have h2 := (HON.out k).2; have h3 := HN.out; have h4 := HUL.out; have h5 := HUN.out; have h6 := HWk.out; unfold Hid; omega
              have HB3 := Lib.hid hb3
              clear hown3 hb3
              go_wp2_with fail
              refine (specPut _ _ _ _ _ HST3.out hsz.out hlen.out).mono ?_
              rintro x w4 ⟨a4, c4, rfl, hown4, hb4⟩
              go_wp2_with fail
              go_roundw
              case rel => exact ⟨j + 1, a4, c4, by omega, by go_num, by rw [HPT.out], by rw [HPT.out]; exact hown4.lower (by have h1 := HB2.out.size; have h2 := HB3.out.size; omega), HB3.out.trans (hb4.mono HB3.out.size)⟩
              case measure => simp [intOf]; omega
            · obtain rfl : j = xs[k].ucols.length := by omega
              rw [List.take_length] at hown3 ⊢
              have HO3 := Lib.hid hown3
              have HB3 := Lib.hid hb3
              clear hown3 hb3
              go_wp2_with fail
              go_roundw
              case rel => exact ⟨k + 1, a3, c3, by omega, by go_num, by rw [HT.out], by rw [HT.out]; exact HO3.out, (HB3.out.cell (p := ⟨w.heap.size, 3, none⟩) hlw').trans h3', Nat.lt_of_lt_of_le hlw' HB3.out.size, HB2.out.trans (HB3.out.mono HB2.out.size)⟩
              case measure => simp [intOf]; omega
        · obtain rfl : k = xs.length := by omega
          have HUE : Hid (e.ucols = ucolsL (own1 e) (xs.take xs.length)) := by unfold Hid; rw [List.take_length]; exact hue.out
          have HOWN := Lib.hid hown
          clear hown
          go_wp2_with fail
          go_ret
          exact ⟨a1, c1, by rw [HUE.out]; rfl, by rw [HUE.out]; exact HOWN.out, hb⟩
    · have hk0 : (e.kind == 0) = false := by simp [h0]
      have HO := Lib.hid (own1_no h0)
      clear h0
      generalize hks : e.kids = xs at *
      go_enter Tryd.func41, Tryd.ntmps41
      have HS : Hid (Own ((w.alloc (.cells #[.int .i64 e.kind, .string e.text, .int .i64 e.num, .slice a xs.length c] 26)).alloc (.cells #[] 9)) w.heap.size (some ⟨w.heap.size + 1, 0, none⟩) 0 (ucolsL (own1 e) (xs.take 0)) ∧ ((w.alloc (.cells #[.int .i64 e.kind, .string e.text, .int .i64 e.num, .slice a xs.length c] 26)).alloc (.cells #[] 9)).cell? ⟨w.heap.size, 3, none⟩ = some (.slice a xs.length c) ∧ w.heap.size < ((w.alloc (.cells #[.int .i64 e.kind, .string e.text, .int .i64 e.num, .slice a xs.length c] 26)).alloc (.cells #[] 9)).heap.size ∧ Below w.heap.size w ((w.alloc (.cells #[.int .i64 e.kind, .string e.text, .int .i64 e.num, .slice a xs.length c] 26)).alloc (.cells #[] 9))) := by
        have hown0 := (ownEmpty (w.alloc (.cells #[.int .i64 e.kind, .string e.text, .int .i64 e.num, .slice a xs.length c] 26))).lower (B' := w.heap.size) (by simp)
        refine ⟨by rw [HO.out]; simpa [ucolsL] using hown0, by simp [go_sem], by simp; omega, ((Below.refl _ _).alloc (Nat.le_refl _) _).alloc (by simp) _⟩
      have HL1 : Hid ((0 : Nat) = (ucolsL (own1 e) (xs.take 0)).length) := by unfold Hid; rw [HO.out]; simp [ucolsL]
      go_wp2_with fail
      go_loopw [3, 4] (fun v i wr => ∃ (k : Nat) (a1 : Option Addr) (c1 : Nat), k ≤ xs.length ∧ i = .int .i64 k ∧ v = .slice a1 (ucolsL (own1 e) (xs.take k)).length c1 ∧ Own wr w.heap.size a1 c1 (ucolsL (own1 e) (xs.take k)) ∧ wr.cell? ⟨w.heap.size, 3, none⟩ = some (.slice a xs.length c) ∧ w.heap.size < wr.heap.size ∧ Below w.heap.size w wr) (fun _ i _ => xs.length - (intOf i).toNat)
      case atStart => exact ⟨0, _, _, Nat.zero_le _, rfl, by first | (rw [← HL1.out]; rfl) | (rw [← HL1.out]), HS.out⟩
      case round =>
        obtain ⟨k, a1, c1, hk, rfl, rfl, hown, h3, hlw, hb⟩ := hrel
        by_cases hlt : k < xs.length
        · obtain ⟨b, off, rfl, hbl, hc0, hc1, hc2, hfitk, a', c', hc3, hkid⟩ := (HK.out _ hb).spot hlt
          have HT := Lib.hid (ucolsL_take (own1 e) xs k hlt)
          have HX := Lib.hid hkid
          have HWk : Hid (xs[k].wt ≤ 1048576) := by have h1 := HW.out; have h2 := wt_get hlt; unfold Hid; omega
          have HU := Lib.hid (ucols_wt xs[k])
          have HUL := Lib.hid ((ucols_facts xs[k]).2.2)
          have HUN := Lib.hid (nodes_wt xs[k])
          clear hkid
          have HOWN := Lib.hid hown
          clear hown
          go_wp2_with fail
          refine (ih xs[k] a' c' _ hfitk HWk.out HX.out).mono ?_
          rintro x w2 ⟨am, cm, rfl, hom, hb2⟩
          have HO2 := Lib.hid (HOWN.out.below hb2)
          have h3' := (hb2.cell (p := ⟨w.heap.size, 3, none⟩) hlw).trans h3
          have HB2 := Lib.hid (hb.trans (hb2.mono hb.size))
          have hlw' := Nat.lt_of_lt_of_le hlw hb2.size
          have HST := Lib.hid (hom.strs fun s hs => by have h1 := HU.out s hs; have h2 := HWk.out; unfold maxLen; omega)
          have hml : xs[k].ucols.length ≤ 9223372036854775807 := by have h1 := HUL.out; have h2 := HUN.out; have h3 := HWk.out; omega
          clear h3 hb hb2 hc0 hc1 hc2 hc3 hlw hom
          go_wp2_with fail
          go_loopw [3, 6] (fun v i w3 => ∃ (j : Nat) (a3 : Option Addr) (c3 : Nat), j ≤ xs[k].ucols.length ∧ i = .int .i64 j ∧ v = .slice a3 (putAll (ucolsL (own1 e) (xs.take k)) (xs[k].ucols.take j)).length c3 ∧ Own w3 w.heap.size a3 c3 (putAll (ucolsL (own1 e) (xs.take k)) (xs[k].ucols.take j)) ∧ Below w2.heap.size w2 w3) (fun _ i _ => xs[k].ucols.length - (intOf i).toNat)
          case atStart => exact ⟨0, a1, c1, Nat.zero_le _, rfl, rfl, HO2.out, Below.refl _ _⟩
          case round =>
            obtain ⟨j, a3, c3, hj, rfl, rfl, hown3, hb3⟩ := hrel
            by_cases hjl : j < xs[k].ucols.length
            · obtain ⟨bm, om, rfl, hbm, hcm⟩ := (HST.out.below hb3).spot hjl
              have HPT := Lib.hid (putAll_take (ucolsL (own1 e) (xs.take k)) xs[k].ucols j hjl)
              have HPO := Lib.hid (putAll_on (ucolsL (own1 e) (xs.take k)) xs[k].ucols j 1048576 (fun t ht => Nat.le_trans ((HON.out k).1 t ht) hwt) (fun t ht => Nat.le_trans (HU.out t ht) HWk.out))
              have HST3 := Lib.hid (hown3.strs fun s hs => by have h1 := HPO.out.1 s hs; unfold maxLen; omega)
              have hsz : Hid (xs[k].ucols[j].size ≤ maxLen) := by have h1 := HU.out _ (List.getElem_mem hjl); have h2 := HWk.out; unfold Hid maxLen; omega
              have hlen : Hid ((putAll (ucolsL (own1 e) (xs.take k)) (xs[k].ucols.take j)).length ≤ 4194304) := by have h1 := HPO.out.2; have h2 := (HON.out k).2; have h3 := HN.out; have h4 := HUL.out; have h5 := HUN.out; have h6 := HWk.out; unfold Hid; omega
              have HB3 := Lib.hid hb3
              clear hown3 hb3
              go_wp2_with fail
              refine (specPut _ _ _ _ _ HST3.out hsz.out hlen.out).mono ?_
              rintro x w4 ⟨a4, c4, rfl, hown4, hb4⟩
              go_wp2_with fail
              go_roundw
              case rel => exact ⟨j + 1, a4, c4, by omega, by go_num, by rw [HPT.out], by rw [HPT.out]; exact hown4.lower (by have h1 := HB2.out.size; have h2 := HB3.out.size; omega), HB3.out.trans (hb4.mono HB3.out.size)⟩
              case measure => simp [intOf]; omega
            · obtain rfl : j = xs[k].ucols.length := by omega
              rw [List.take_length] at hown3 ⊢
              have HO3 := Lib.hid hown3
              have HB3 := Lib.hid hb3
              clear hown3 hb3
              go_wp2_with fail
              go_roundw
              case rel => exact ⟨k + 1, a3, c3, by omega, by go_num, by rw [HT.out], by rw [HT.out]; exact HO3.out, (HB3.out.cell (p := ⟨w.heap.size, 3, none⟩) hlw').trans h3', Nat.lt_of_lt_of_le hlw' HB3.out.size, HB2.out.trans (HB3.out.mono HB2.out.size)⟩
              case measure => simp [intOf]; omega
        · obtain rfl : k = xs.length := by omega
          have HUE : Hid (e.ucols = ucolsL (own1 e) (xs.take xs.length)) := by unfold Hid; rw [List.take_length]; exact hue.out
          have HOWN := Lib.hid hown
          clear hown
          go_wp2_with fail
          go_ret
          exact ⟨a1, c1, by rw [HUE.out]; rfl, by rw [HUE.out]; exact HOWN.out, hb⟩

end Go.Proofs.YtpdcmmhhgnackaaDoor
