/- spec.Put, impl.Put (with impl.concat): each answers a new list, the text put in at its place. -/
import Derived.Test.YtboanhfmmhjepaaStrs
import Derived.Test.YtboanhfmmhjepaaBefore
import Derived.Deep.RegionHeld3
import Derived.Deep.RegionWith
namespace Go.Proofs.Ytboanhfmmhjepaa
open Go.RowKit

def lessB (x s : ByteArray) : Bool := Op.bytesLess x.toList s.toList

theorem ba_eq {x s : ByteArray} (h : (x.toList == s.toList) = true) : x = s := by
  apply ByteArray.ext
  have := beq_iff_eq.1 h
  rw [Lib.toList_data, Lib.toList_data] at this
  exact Array.toList_inj.1 this

def putL : List ByteArray → ByteArray → List ByteArray
  | [], s => [s]
  | x :: r, s => if lessB x s then x :: putL r s else if x.toList == s.toList then s :: r else s :: x :: r

theorem putL_len (xs : List ByteArray) (s : ByteArray) : (putL xs s).length ≤ xs.length + 1 := by
  induction xs with
  | nil => simp [putL]
  | cons x r ih => rw [putL]; split <;> (try split) <;> simp <;> omega

theorem putL_mem {xs : List ByteArray} {s t : ByteArray} (h : t ∈ putL xs s) : t = s ∨ t ∈ xs := by
  induction xs with
  | nil => simp [putL] at h; exact .inl h
  | cons x r ih =>
    rw [putL] at h
    split at h
    · rcases List.mem_cons.1 h with rfl | h
      · exact .inr (by simp)
      · rcases ih h with h | h
        · exact .inl h
        · exact .inr (by simp [h])
    · split at h <;> simp at h <;> rcases h with h | h <;> simp [h]

theorem putL_sizes {xs : List ByteArray} {s : ByteArray} (hx : ∀ t ∈ xs, t.size ≤ maxLen) (hs : s.size ≤ maxLen) : ∀ t ∈ putL xs s, t.size ≤ maxLen := by
  intro t ht
  rcases putL_mem ht with rfl | h
  · exact hs
  · exact hx t h

/-- What spec.Put holds behind one element more. -/
def putStep (s : ByteArray) (st : List ByteArray × Bool) (x : ByteArray) : List ByteArray × Bool :=
  if st.2 then (st.1 ++ [x], true) else if lessB x s then (st.1 ++ [x], false) else if x.toList == s.toList then (st.1 ++ [s], true) else (st.1 ++ [s] ++ [x], true)

def putSt (xs : List ByteArray) (s : ByteArray) (k : Nat) : List ByteArray × Bool := (xs.take k).foldl (putStep s) ([], false)

theorem putSt_succ (xs : List ByteArray) (s : ByteArray) (k : Nat) (h : k < xs.length) : putSt xs s (k + 1) = putStep s (putSt xs s k) xs[k] := by
  unfold putSt
  rw [List.take_succ_eq_append_getElem h, List.foldl_append]
  rfl

theorem putSt_true (s : ByteArray) : ∀ (xs acc : List ByteArray), xs.foldl (putStep s) (acc, true) = (acc ++ xs, true)
  | [], acc => by simp
  | x :: r, acc => by
    rw [List.foldl_cons, show putStep s (acc, true) x = (acc ++ [x], true) from by simp [putStep], putSt_true s r]
    simp

theorem putSt_false (s : ByteArray) : ∀ (xs acc : List ByteArray), (let st := xs.foldl (putStep s) (acc, false); if st.2 then st.1 else st.1 ++ [s]) = acc ++ putL xs s
  | [], acc => by simp [putL]
  | x :: r, acc => by
    rw [List.foldl_cons]
    by_cases h1 : lessB x s = true
    · have hst : putStep s (acc, false) x = (acc ++ [x], false) := by simp [putStep, h1]
      rw [hst, putL, if_pos h1]
      simpa using putSt_false s r (acc ++ [x])
    · by_cases h2 : (x.toList == s.toList) = true
      · have hst : putStep s (acc, false) x = (acc ++ [s], true) := by unfold putStep; simp only [Bool.false_eq_true, if_false, h1, h2, if_true]
        rw [hst, putSt_true, putL, if_neg h1, if_pos h2]
        simp
      · have hst : putStep s (acc, false) x = (acc ++ [s] ++ [x], true) := by unfold putStep; simp only [Bool.false_eq_true, if_false, h1, h2]
        rw [hst, putSt_true, putL, if_neg h1, if_neg h2]
        simp

theorem putSt_end (xs : List ByteArray) (s : ByteArray) : (if (putSt xs s xs.length).2 then (putSt xs s xs.length).1 else (putSt xs s xs.length).1 ++ [s]) = putL xs s := by
  have := putSt_false s xs []
  simpa [putSt] using this

theorem putSt_len (xs : List ByteArray) (s : ByteArray) : ∀ k, k ≤ xs.length → (putSt xs s k).1.length ≤ k + 1 ∧ ((putSt xs s k).2 = false → (putSt xs s k).1.length ≤ k)
  | 0, _ => by simp [putSt]
  | k + 1, h => by
    have ih := putSt_len xs s k (by omega)
    rw [putSt_succ xs s k (by omega)]
    unfold putStep
    by_cases h0 : (putSt xs s k).2 = true
    · simp [h0]; omega
    · have := ih.2 (by simpa using h0)
      simp only [h0]
      by_cases h1 : lessB xs[k] s = true
      · simp [h1]; omega
      · by_cases h2 : (xs[k].toList == s.toList) = true
        · simp [h1, h2]; omega
        · simp [h1, h2]; omega

/-- impl.Put cuts at the first place whose text is not ahead. -/
theorem putL_cut : ∀ (xs : List ByteArray) (s : ByteArray) (k : Nat), k ≤ xs.length → (∀ (j : Nat) (h : j < xs.length), j < k → lessB xs[j] s = true) → (∀ h : k < xs.length, lessB xs[k] s = false) →
    putL xs s = xs.take k ++ [s] ++ xs.drop (if (∃ h : k < xs.length, (xs[k].toList == s.toList) = true) then k + 1 else k)
  | [], s, k, hk, _, _ => by
    have : k = 0 := by simpa using hk
    subst this
    simp [putL]
  | x :: r, s, 0, _, _, h => by
    have h0 := h (by simp)
    simp at h0
    rw [putL, if_neg (by simp [h0])]
    by_cases h2 : (x.toList == s.toList) = true
    · rw [if_pos h2, if_pos ⟨by simp, by simpa using h2⟩]; simp
    · rw [if_neg h2, if_neg (by rintro ⟨_, h⟩; exact h2 (by simpa using h))]; simp
  | x :: r, s, k + 1, hk, hl, h => by
    have h0 := hl 0 (by simp) (by omega)
    simp at h0
    rw [putL, if_pos h0, putL_cut r s k (by simpa using hk) (fun j hj hjk => hl (j + 1) (by simpa using hj) (by omega)) (fun hk' => h (by simpa using hk'))]
    by_cases h2 : ∃ h : k < r.length, (r[k].toList == s.toList) = true
    · rw [if_pos h2, if_pos (by obtain ⟨p, q⟩ := h2; exact ⟨by simpa using p, by simpa using q⟩)]; simp
    · rw [if_neg h2, if_neg (by rintro ⟨p, q⟩; exact h2 ⟨by simpa using p, by simpa using q⟩)]; simp

/-- The parts of a list, each a slice that reads as texts. -/
structure Part where
  at_ : Option Addr
  cap : Nat
  xs : List ByteArray

def Part.value (p : Part) : Value := .slice p.at_ p.xs.length p.cap
def flat (ps : List Part) : List ByteArray := ps.flatMap Part.xs

theorem flat_succ (ps : List Part) (k : Nat) (h : k < ps.length) : flat (ps.take (k + 1)) = flat (ps.take k) ++ ps[k].xs := by
  unfold flat
  rw [List.take_succ_eq_append_getElem h, List.flatMap_append]
  simp

theorem flat_le (ps : List Part) (k : Nat) : (flat (ps.take k)).length ≤ (flat ps).length := by
  unfold flat
  conv => rhs; rw [← List.take_append_drop k ps, List.flatMap_append, List.length_append]
  omega

set_option maxHeartbeats 400000 in
theorem implConcat (g : Nat) (ps : List Part) (w : World) (hg : g < w.heap.size) (hc : ∀ (i : Nat) (h : i < ps.length), w.cell? ⟨g, i, none⟩ = some ps[i].value) (hp : ∀ p ∈ ps, Strs w p.at_ p.cap p.xs)
    (hn : (flat ps).length ≤ 8388608) (hl : ps.length ≤ 1000) :
    Calls Try.prog 44 #[.slice (some ⟨g, 0, none⟩) ps.length ps.length] w (NewStrs w (flat ps)) := by
  obtain ⟨i0, hi0, hz0, hz1, hz2⟩ := info_parts Try.infoString
  go_enter Try.func44, Try.ntmps44
  go_wp2
  go_loopw [3, 8] (fun v i wr => ∃ (k : Nat) (a : Option Addr) (c : Nat), k ≤ ps.length ∧ i = .int .i64 k ∧ v = .slice a (flat (ps.take k)).length c ∧ Own wr w.heap.size a c (flat (ps.take k)) ∧ Below w.heap.size w wr) (fun _ i _ => ps.length - (intOf i).toNat)
  case atStart => exact ⟨0, none, 0, Nat.zero_le _, rfl, rfl, Own.nil _ _, Below.refl _ _⟩
  case round =>
    obtain ⟨k, a, c, hk, rfl, rfl, hown, hb⟩ := hrel
    by_cases hlt : k < ps.length
    · have hcell : wr.cell? ⟨g, k, none⟩ = some (.slice ps[k].at_ ps[k].xs.length ps[k].cap) := (hb.cell (p := ⟨g, k, none⟩) hg).trans (hc k hlt)
      have hst := (hp _ (List.getElem_mem hlt)).below hb
      have hfs := Lib.hid (flat_succ ps k hlt)
      have hle : (flat (ps.take k)).length + ps[k].xs.length ≤ 8388608 := by
        have h1 := flat_le ps (k + 1)
        rw [hfs.out, List.length_append] at h1
        omega
      have hsz := hb.size
      go_wp2_with (at_builtin; refine wpAppendStrs rfl _ _ rfl i0 hi0 hz0 hz1 hz2 w.heap.size a c _ ps[k].at_ ps[k].cap ps[k].xs rfl hown rfl hst hle hsz ?_; intro a' c' w' hown' hgr)
      have hb' : Below w.heap.size w w' := hb.grown hgr hsz (fun q hq => (hown.lt hq).1)
      rw [← hfs.out] at hown'
      go_roundw
      case rel => exact ⟨k + 1, a', c', by omega, by go_num, by rw [hfs.out, List.length_append], hown', hb'⟩
      case measure => simp [intOf]; omega
    · obtain rfl : k = ps.length := by omega
      rw [List.take_length] at hown ⊢
      go_wp2
      go_ret
      exact ⟨_, _, rfl, hown, hb⟩

theorem implBeforeTrue (a b : ByteArray) (w : World) (h : lessB a b = true) : Calls Try.prog 14 #[.string a, .string b] w fun e w' => e = .returned (.bool true) ∧ w = w' := by
  have := implBefore a b w
  unfold lessB at h
  rw [h] at this
  exact this

theorem implBeforeFalse (a b : ByteArray) (w : World) (h : lessB a b = false) : Calls Try.prog 14 #[.string a, .string b] w fun e w' => e = .returned (.bool false) ∧ w = w' := by
  have := implBefore a b w
  unfold lessB at h
  rw [h] at this
  exact this

theorem Strs.front {w : World} {a : Option Addr} {c : Nat} {xs : List ByteArray} (h : Strs w a c xs) (k : Nat) : Strs w a c (xs.take k) := by
  obtain ⟨h1, h2, h3, h3', h4⟩ := h
  refine ⟨by simp; omega, h2, fun s hs => h3 s (List.mem_of_mem_take hs), h3', fun hp => ?_⟩
  obtain ⟨b, off, ha, hlt, hc⟩ := h4 (by simp at hp; omega)
  exact ⟨b, off, ha, hlt, fun i hi => by rw [List.getElem_take]; exact hc i (by simp at hi; omega)⟩

theorem Strs.back {w : World} {b off c : Nat} {xs : List ByteArray} (h : Strs w (some ⟨b, off, none⟩) c xs) (k : Nat) (hk : k ≤ xs.length) : Strs w (some ⟨b, off + k, none⟩) (c - k) (xs.drop k) := by
  obtain ⟨h1, h2, h3, h3', h4⟩ := h
  refine ⟨by simp; omega, by omega, fun s hs => h3 s (List.mem_of_mem_drop hs), (fun h => by cases h), fun hp => ?_⟩
  obtain ⟨b', off', ha, hlt, hc⟩ := h4 (by simp at hp; omega)
  cases ha
  exact ⟨b, off + k, rfl, hlt, fun i hi => by rw [List.getElem_drop, Nat.add_assoc]; exact hc (k + i) (by simp at hi; omega)⟩

/-- concat of a front, one text in a new block, and a back. -/
theorem concatThree (w : World) (a1 a2 : Option Addr) (n1 n2 c1 c2 : Nat) (ys zs : List ByteArray) (s : ByteArray) (h1 : Strs w a1 c1 ys) (h2 : Strs w a2 c2 zs) (hn1 : n1 = ys.length) (hn2 : n2 = zs.length)
    (hs : s.size ≤ maxLen) (hn : ys.length + zs.length ≤ 8388600) :
    Calls Try.prog 44 #[.slice (some ⟨w.heap.size + 1, 0, none⟩) 3 3]
      ((w.alloc (.cells #[.string s] 9)).alloc (.cells #[.slice a1 n1 c1, .slice (some ⟨w.heap.size, 0, none⟩) 1 1, .slice a2 n2 c2] 27)).drew (NewStrs w (ys ++ [s] ++ zs)) := by
  subst hn1 hn2
  have hb0 : Below w.heap.size w ((w.alloc (.cells #[.string s] 9)).alloc (.cells #[.slice a1 ys.length c1, .slice (some ⟨w.heap.size, 0, none⟩) 1 1, .slice a2 zs.length c2] 27)).drew :=
    (((Below.refl _ _).alloc (Nat.le_refl _) _).alloc (by simp) _).drew
  generalize hW : ((w.alloc (.cells #[.string s] 9)).alloc (.cells #[.slice a1 ys.length c1, .slice (some ⟨w.heap.size, 0, none⟩) 1 1, .slice a2 zs.length c2] 27)).drew = W at *
  have hsz : W.heap.size = w.heap.size + 2 := by rw [← hW]; simp
  have hone : Strs W (some ⟨w.heap.size, 0, none⟩) 1 [s] := by
    refine ⟨by simp, by unfold maxLen; omega, by simpa using hs, (fun h => by cases h), fun _ => ⟨w.heap.size, 0, rfl, by omega, fun i hi => ?_⟩⟩
    have : i = 0 := by simpa using hi
    subst this
    rw [← hW]
    simp [go_sem]
  have h := implConcat (w.heap.size + 1) [⟨a1, c1, ys⟩, ⟨some ⟨w.heap.size, 0, none⟩, 1, [s]⟩, ⟨a2, c2, zs⟩] W (by omega) (by
      intro i hi
      have hi' : i = 0 ∨ i = 1 ∨ i = 2 := by simp at hi; omega
      rcases hi' with rfl | rfl | rfl <;> (rw [← hW]; simp [go_sem, Part.value])) (by
      intro p hp
      simp at hp
      rcases hp with rfl | rfl | rfl
      · exact h1.below hb0
      · exact hone
      · exact h2.below hb0) (by simp [flat]; omega) (by simp)
  refine Calls.mono h ?_
  rintro e w' ⟨a, c, rfl, hown, hb⟩
  have hf : flat [⟨a1, c1, ys⟩, ⟨some ⟨w.heap.size, 0, none⟩, 1, [s]⟩, ⟨a2, c2, zs⟩] = ys ++ [s] ++ zs := by simp [flat]
  rw [hf] at hown ⊢
  exact ⟨a, c, rfl, hown.lower (by omega), hb0.trans (hb.mono (by omega))⟩

theorem sized_string (W : World) : (sizeOf (Try.prog.elem 27)).run Try.prog W = .ok 1 W := by kernel_rfl

theorem sliceFront {w : World} {a : Option Addr} {c : Nat} {xs : List ByteArray} (hx : Strs w a c xs) (k : Nat) (hk : k ≤ xs.length) :
    ∃ A1, (∀ W : World, (Instr.slice 27 (.slice a xs.length c) none (some (.int .i64 (k : Int))) none).run Try.prog W = .ok (.slice A1 k c) W) ∧ Strs w A1 c (xs.take k) := by
  have hr : ∀ W : World, (Instr.slice 27 (.slice a xs.length c) none (some (.int .i64 (k : Int))) none).run Try.prog W = .ok (sliced a 0 k c 1) W := by
    intro W
    rw [run_slice_h (P := Try.prog) W 27 a xs.length c Try.underlying27 .i64 (k : Int) (by omega) (by have := hx.1; omega), sized_string]
    simp [Result.andThen]
  have hf := hx.front k
  have hS : sliced a 0 k c 1 = .slice a k c := by
    unfold sliced
    rcases a with _ | ⟨b, off, sp⟩ <;> simp [Addr.add]
  exact ⟨a, fun W => by rw [hr W, hS], hf⟩

theorem sliceBack {w : World} {a : Option Addr} {c : Nat} {xs : List ByteArray} (hx : Strs w a c xs) (z : Int) (r : Nat) (hz : z = (r : Int)) (hk : r ≤ xs.length) :
    ∃ A2, (∀ W : World, (Instr.slice 27 (.slice a xs.length c) (some (.int .i64 z)) none none).run Try.prog W = .ok (.slice A2 (xs.length - r) (c - r)) W) ∧ Strs w A2 (c - r) (xs.drop r) := by
  subst hz
  have hr : ∀ W : World, (Instr.slice 27 (.slice a xs.length c) (some (.int .i64 (r : Int))) none none).run Try.prog W = .ok (sliced a r xs.length c 1) W := by
    intro W
    rw [run_slice_l (P := Try.prog) W 27 a xs.length c Try.underlying27 .i64 (r : Int) (by omega) (by omega), sized_string]
    simp [Result.andThen]
  obtain ⟨h1, h2, h3, h3', h4⟩ := hx
  have hS : ∃ A2, sliced a r xs.length c 1 = .slice A2 (xs.length - r) (c - r) ∧ (A2 = none → a = none) ∧ (∀ b off, a = some ⟨b, off, none⟩ → c ≠ r → A2 = some ⟨b, off + r, none⟩) := by
    unfold sliced
    by_cases hc : c = r
    · refine ⟨a, by simp [hc], id, fun _ _ _ h => absurd hc h⟩
    · refine ⟨a.map (·.add r), ?_, by simp, ?_⟩
      · have hc' : ¬ c - r = 0 := by omega
        simp [hc, hc']
      · rintro b off rfl _
        by_cases h0 : r = 0 <;> simp [Addr.add, h0]
  obtain ⟨A2, hA, hnone, hsome⟩ := hS
  refine ⟨A2, fun W => by rw [hr W, hA], by simp; omega, by omega, fun s hs => h3 s (List.mem_of_mem_drop hs), fun h => by rw [h3' (hnone h)]; simp, fun hp => ?_⟩
  simp at hp
  obtain ⟨b, off, ha, hlt, hc⟩ := h4 (by omega)
  refine ⟨b, off + r, hsome b off ha (by omega), hlt, fun i hi => ?_⟩
  rw [List.getElem_drop, Nat.add_assoc]
  exact hc (r + i) (by simp at hi; omega)

set_option maxHeartbeats 1000000 in
theorem implPut (a : Option Addr) (c : Nat) (xs : List ByteArray) (s : ByteArray) (w : World) (hx : Strs w a c xs) (hs : s.size ≤ maxLen) (hn : xs.length ≤ 4194304) :
    Calls Try.prog 19 #[.slice a xs.length c, .string s] w (NewStrs w (putL xs s)) := by
  have hl := hx.len
  have hxc := hx.1
  go_enter Try.func19, Try.ntmps19
  go_wp2_with fail
  go_loop [5] (fun i => ∃ k : Nat, k ≤ xs.length ∧ i = .int .i64 k ∧ Hid (∀ (j : Nat) (h : j < xs.length), j < k → lessB xs[j] s = true)) (fun i => xs.length - (intOf i).toNat)
  case atStart => exact ⟨0, Nat.zero_le _, rfl, fun j _ h => absurd h (by omega)⟩
  case round =>
    obtain ⟨k, hk, rfl, hless⟩ := hrel
    by_cases hlt : k < xs.length
    · obtain ⟨b, off, rfl, hb, hc⟩ := hx.spot hlt
      have hc0 : ¬ c = 0 := by omega
      cases hle : lessB xs[k] s with
      | true =>
        have H : Hid (∀ (j : Nat) (h : j < xs.length), j < k + 1 → lessB xs[j] s = true) := by
          intro j h hj
          rcases Nat.lt_or_ge j k with h' | h'
          · exact hless.out j h h'
          · have : j = k := by omega
            subst this
            exact hle
        have Hle := Lib.hid hle
        clear hle
        go_wp2_with (go_at_call 14; refine (implBeforeTrue _ _ _ Hle.out).mono ?_; rintro e w' ⟨rfl, rfl⟩)
        go_round
        case rel => exact ⟨k + 1, by omega, by go_num, H⟩
        case measure => simp [intOf]; omega
      | false =>
        have Hcut := Lib.hid (putL_cut xs s k hk hless.out (fun _ => hle))
        have Hle := Lib.hid hle
        clear hle
        cases he : (xs[k].toList == s.toList) with
        | true =>
          have HX : Hid (putL xs s = xs.take k ++ [s] ++ xs.drop (k + 1)) := by
            unfold Hid; rw [Hcut.out, if_pos ⟨hlt, he⟩]
          clear Hcut
          obtain ⟨A1, hr1, hS1⟩ := sliceFront hx k hk
          obtain ⟨A2, hr2, hS2⟩ := sliceBack hx ((k : Int) + 1) (k + 1) (by omega) (by omega)
          go_wp2_with (go_at_call 14; refine (implBeforeFalse _ _ _ Hle.out).mono ?_; rintro e w' ⟨rfl, rfl⟩)
          go_region_with (go_at_call 44; refine (concatThree w A1 A2 _ _ c (c - (k + 1)) (xs.take k) (xs.drop (k + 1)) s hS1 hS2 (List.length_take_of_le hk).symm List.length_drop.symm hs (by rw [List.length_take_of_le hk, List.length_drop]; omega)).mono ?_; rintro e w1 ⟨a1, c1, rfl, hown, hb1⟩)
          all_goals go_wp2
          all_goals (go_ret; refine ⟨a1, c1, ?_, by rw [HX.out]; exact hown, hb1⟩; refine congrArg (fun n => Ending.returned (Value.slice a1 n c1)) (a₁ := k + (xs.length - (k + 1) + 1)) ?_; rw [HX.out, List.length_append, List.length_append, List.length_take_of_le hk, List.length_drop]; simp only [List.length_cons, List.length_nil]; omega)
        | false =>
          have HX : Hid (putL xs s = xs.take k ++ [s] ++ xs.drop k) := by
            unfold Hid; rw [Hcut.out, if_neg (by rintro ⟨_, h⟩; rw [he] at h; cases h)]
          clear Hcut
          obtain ⟨A1, hr1, hS1⟩ := sliceFront hx k hk
          obtain ⟨A2, hr2, hS2⟩ := sliceBack hx ((k : Int)) (k) (by omega) (by omega)
          go_wp2_with (go_at_call 14; refine (implBeforeFalse _ _ _ Hle.out).mono ?_; rintro e w' ⟨rfl, rfl⟩)
          go_region_with (go_at_call 44; refine (concatThree w A1 A2 _ _ c (c - (k)) (xs.take k) (xs.drop (k)) s hS1 hS2 (List.length_take_of_le hk).symm List.length_drop.symm hs (by rw [List.length_take_of_le hk, List.length_drop]; omega)).mono ?_; rintro e w1 ⟨a1, c1, rfl, hown, hb1⟩)
          all_goals go_wp2
          all_goals (go_ret; refine ⟨a1, c1, ?_, by rw [HX.out]; exact hown, hb1⟩; refine congrArg (fun n => Ending.returned (Value.slice a1 n c1)) (a₁ := k + (xs.length - (k) + 1)) ?_; rw [HX.out, List.length_append, List.length_append, List.length_take_of_le hk, List.length_drop]; simp only [List.length_cons, List.length_nil]; omega)
    · have HX : Hid (putL xs s = xs.take k ++ [s] ++ xs.drop k) := by
        unfold Hid; rw [putL_cut xs s k hk hless.out (fun h => absurd h hlt), if_neg (by rintro ⟨h, _⟩; exact hlt h)]
      obtain ⟨A1, hr1, hS1⟩ := sliceFront hx k hk
      obtain ⟨A2, hr2, hS2⟩ := sliceBack hx ((k : Int)) (k) (by omega) (by omega)
      go_wp2_with fail
      go_region_with (go_at_call 44; refine (concatThree w A1 A2 _ _ c (c - (k)) (xs.take k) (xs.drop (k)) s hS1 hS2 (List.length_take_of_le hk).symm List.length_drop.symm hs (by rw [List.length_take_of_le hk, List.length_drop]; omega)).mono ?_; rintro e w1 ⟨a1, c1, rfl, hown, hb1⟩)
      all_goals go_wp2
      all_goals (go_ret; refine ⟨a1, c1, ?_, by rw [HX.out]; exact hown, hb1⟩; refine congrArg (fun n => Ending.returned (Value.slice a1 n c1)) (a₁ := k + (xs.length - (k) + 1)) ?_; rw [HX.out, List.length_append, List.length_append, List.length_take_of_le hk, List.length_drop]; simp only [List.length_cons, List.length_nil]; omega)

end Go.Proofs.Ytboanhfmmhjepaa
