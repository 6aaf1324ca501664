/- The model's quoted texts and names. -/
import Derived.Test.YtjnanlfahgjcbaaDoorLexSpec3
namespace Go.Proofs.YtjnanlfahgjcbaaDoor
open Go.RowKit

/-- What is between quotes, as the calls answer it. -/
def qText : Option (List UInt8 × Nat) → ByteArray
  | some x => ⟨x.1.toArray⟩
  | none => ⟨#[]⟩
def qLen : Option (List UInt8 × Nat) → Nat
  | some x => 1 + x.2
  | none => 0

def qShift (l : List UInt8) (d : Nat) (o : Option (List UInt8 × Nat)) : Option (List UInt8 × Nat) := o.map fun x => (l ++ x.1, d + x.2)

theorem quoted_ne {q b : UInt8} {r : List UInt8} (h : b ≠ q) : quoted q (b :: r) = qShift [b] 1 (quoted q r) := by
  cases r with
  | nil => simp [quoted, h, qShift]
  | cons c r => rw [quoted, if_neg h]; rfl

theorem quoted_two {q b c : UInt8} {r : List UInt8} (h : b = q) (h' : c = q) : quoted q (b :: c :: r) = qShift [b] 2 (quoted q r) := by
  rw [quoted, if_pos h, if_pos h']; rfl

theorem quoted_end {q b : UInt8} (h : b = q) : quoted q [b] = some ([], 1) := by rw [quoted, if_pos h]
theorem quoted_stop {q b c : UInt8} {r : List UInt8} (h : b = q) (h' : c ≠ q) : quoted q (b :: c :: r) = some ([], 1) := by
  rw [quoted, if_pos h, if_neg h']

theorem qShift_shift (l m : List UInt8) (d e : Nat) (o : Option (List UInt8 × Nat)) : qShift l d (qShift m e o) = qShift (l ++ m) (d + e) o := by
  cases o <;> simp [qShift, Nat.add_assoc]

theorem quoted_ne_at (s : ByteArray) (q : UInt8) (k : Nat) (h : k < s.size) (hb : s[k] ≠ q) : quoted q (s.data.toList.drop k) = qShift [s[k]] 1 (quoted q (s.data.toList.drop (k + 1))) := by
  rw [drop_at s k h]; exact quoted_ne hb
theorem quoted_two_at (s : ByteArray) (q : UInt8) (k : Nat) (h : k < s.size) (hb : s[k] = q) (h1 : k + 1 < s.size) (hc : s[k + 1] = q) : quoted q (s.data.toList.drop k) = qShift [s[k]] 2 (quoted q (s.data.toList.drop (k + 2))) := by
  rw [drop_at s k h, drop_at s (k + 1) h1]; exact quoted_two hb hc
theorem quoted_end_at (s : ByteArray) (q : UInt8) (k : Nat) (h : k < s.size) (hb : s[k] = q) (hs : s.size = k + 1 ∨ ∃ h1 : k + 1 < s.size, s[k + 1] ≠ q) : quoted q (s.data.toList.drop k) = some ([], 1) := by
  rw [drop_at s k h]
  rcases hs with h1 | ⟨h1, hc⟩
  · rw [List.drop_of_length_le (by simp; omega)]; exact quoted_end hb
  · rw [drop_at s (k + 1) h1]; exact quoted_stop hb hc
theorem quoted_none_at (s : ByteArray) (q : UInt8) : quoted q (s.data.toList.drop s.size) = none := by
  rw [List.drop_of_length_le (by simp)]; rfl

theorem byte_bneT {a b : UInt8} (h : a ≠ b) : (((a.toNat : Int)) != (b.toNat : Int)) = true := by
  rw [bne_iff_ne]; intro e; exact h (UInt8.toNat_inj.1 (by omega))
theorem byte_bneF {a b : UInt8} (h : a = b) : (((a.toNat : Int)) != (b.toNat : Int)) = false := by subst h; simp

theorem cellNew (w : World) (v : Value) (t : TypeId) : (w.alloc (.cells #[v] t)).cell? ⟨w.heap.size, 0, none⟩ = some v := by
  rw [cell_of_row _ _ _ _ _ _ (heap_alloc_new w _)]; rfl
theorem size_alloc1 (w : World) (o : Obj) : (w.alloc o).heap.size = w.heap.size + 1 := by simp

theorem qEnd (l : List UInt8) (k i : Nat) (h : i + 1 ≤ k) : Ending.returned (.tuple #[.string ⟨l.toArray⟩, .int .i64 ((k : Int) + 1 - (i : Int))]) = .returned (.tuple #[.string (qText (qShift l (k - (i + 1)) (some ([], 1)))), .int .i64 (qLen (qShift l (k - (i + 1)) (some ([], 1))) : Nat)]) := by
  have e1 : qText (qShift l (k - (i + 1)) (some ([], 1))) = ⟨l.toArray⟩ := by simp [qShift, qText]
  have e2 : ((qLen (qShift l (k - (i + 1)) (some ([], 1))) : Nat) : Int) = (k : Int) + 1 - (i : Int) := by simp [qShift, qLen]; omega
  rw [e1, e2]

theorem OwnB.drewN {w : World} {B : Nat} {a : Option Addr} {c : Nat} {l : List UInt8} (h : OwnB w B a c l) (n : Nat) : OwnB (w.drewN n) B a c l :=
  h.below (below_drewN (Below.refl _ _) n)

set_option maxHeartbeats 2000000 in
theorem specQuoted (s : ByteArray) (i : Nat) (w : World) (hi : i < s.size) (hs : s.size ≤ 1048576) :
    Calls Tryd.prog 52 #[.string s, .int .i64 (i : Int)] w fun e w' => e = .returned (.tuple #[.string (qText (quoted s[i] (s.data.toList.drop (i + 1)))), .int .i64 (qLen (quoted s[i] (s.data.toList.drop (i + 1))) : Nat)]) ∧ Below w.heap.size w w' := by
  obtain ⟨i0, hi0, hz0, hz1, hz2⟩ := info_parts Tryd.infoByte
  have hq := byte_le s[i]
  go_enter Tryd.func52, Tryd.ntmps52
  go_wp2_with fail
  go_loopw [6, 7] (fun v p wr => ∃ (k : Nat) (a1 : Option Addr) (c1 : Nat) (l1 : List UInt8), i + 1 ≤ k ∧ k ≤ s.size ∧ p = .int .i64 k ∧ v = .slice a1 l1.length c1 ∧ l1.length + i + 1 ≤ k ∧ OwnB wr w.heap.size a1 c1 l1 ∧ Hid (quoted s[i] (s.data.toList.drop (i + 1)) = qShift l1 (k - (i + 1)) (quoted s[i] (s.data.toList.drop k))) ∧ Below w.heap.size w wr) (fun _ p _ => s.size - (intOf p).toNat)
  case atStart =>
    refine ⟨i + 1, _, _, [], Nat.le_refl _, by omega, by go_num, rfl, by simp, ownBEmpty w, ?_, (Below.refl _ _).alloc (Nat.le_refl _) _⟩
    unfold Hid
    rw [Nat.sub_self]
    cases quoted s[i] (s.data.toList.drop (i + 1)) <;> simp [qShift]
  case round =>
    obtain ⟨k, a1, c1, l1, hk0, hk, rfl, rfl, hlen, hown, hqd, hb⟩ := hrel
    have hsz := hb.size
    by_cases hlt : k < s.size
    · have hby := byte_le s[k]
      have h0k : (0 : Int) ≤ (k : Int) := by omega
      have h0i : (0 : Int) ≤ (i : Int) := by omega
      have hki : (k : Int) < (s.size : Int) := by omega
      have hii : (i : Int) < (s.size : Int) := by omega
      by_cases he : s[k] = s[i]
      · have T1 := byte_bneF he
        by_cases h1 : k + 1 < s.size
        · have hby1 := byte_le s[k + 1]
          have T3 : (((k : Int) + 1) == (s.size : Int)) = false := by rw [beq_eq_false_iff_ne]; omega
          have h0k1 : (0 : Int) ≤ (k : Int) + 1 := by omega
          have hki1 : (k : Int) + 1 < (s.size : Int) := by omega
          by_cases hc : s[k + 1] = s[i]
          · have T2 := byte_bneF hc
            have HQ := Lib.hid (quoted_two_at s s[i] k hlt he h1 hc)
            have HE := Lib.hid he
            clear he hc
            go_wp2_with fail
            go_quiet (fail)
            go_wp2_with fail
            go_quiet (fail)
            go_wp2_with (at_builtin; refine wpAppendByte rfl (.tmp 51) (.tmp 55) rfl i0 hi0 hz0 hz1 hz2 w.heap.size a1 c1 l1 wr.heap.size s[k] rfl ((hown.drewN _).alloc _) rfl (cellNew _ _ _) (by omega) (by rw [size_alloc1]; exact Nat.le_succ_of_le hsz) ?_; intro a3 c3 w3 l3 hl3 hown3 hg3 _)
            have hb3 : Below w.heap.size w w3 := ((below_drewN hb _).alloc hsz _).grown hg3 (by rw [size_alloc1]; exact Nat.le_succ_of_le hsz) (fun q hq => (hown.lt hq).1)
            go_roundw
            case rel => exact ⟨k + 2, a3, c3, l3, by omega, by omega, by go_num, rfl, by rw [hid_len hl3]; omega, hown3, by unfold Hid; rw [hqd.out, HQ.out, qShift_shift, hl3.out, show k + 2 - (i + 1) = k - (i + 1) + 2 by omega], hb3⟩
            case measure => simp [intOf]; omega
          · have T2 := byte_bneT hc
            have HQ := Lib.hid (quoted_end_at s s[i] k hlt he (.inr ⟨h1, hc⟩))
            clear he hc
            go_wp2_with fail
            go_quiet (fail)
            go_wp2_with fail
            go_quiet (fail)
            have hcv := fun n => convBytes (hown.drewN n)
            go_wp2_with fail
            go_ret2
            exact ⟨by rw [hqd.out, HQ.out]; exact qEnd l1 k i hk0, below_drewN hb _⟩
        · have T3 : (((k : Int) + 1) == (s.size : Int)) = true := by rw [beq_iff_eq]; omega
          have HQ := Lib.hid (quoted_end_at s s[i] k hlt he (.inl (by omega)))
          clear he
          go_wp2_with fail
          go_quiet (fail)
          go_wp2_with fail
          go_quiet (fail)
          have hcv := fun n => convBytes (hown.drewN n)
          go_wp2_with fail
          go_ret2
          exact ⟨by rw [hqd.out, HQ.out]; exact qEnd l1 k i hk0, below_drewN hb _⟩
      · have T1 := byte_bneT he
        have HQ := Lib.hid (quoted_ne_at s s[i] k hlt he)
        have HE := Lib.hid he
        clear he
        go_wp2_with fail
        go_quiet (fail)
        go_wp2_with (at_builtin; refine wpAppendByte rfl (.tmp 24) (.tmp 28) rfl i0 hi0 hz0 hz1 hz2 w.heap.size a1 c1 l1 wr.heap.size s[k] rfl ((hown.drewN _).alloc _) rfl (cellNew _ _ _) (by omega) (by rw [size_alloc1]; exact Nat.le_succ_of_le hsz) ?_; intro a3 c3 w3 l3 hl3 hown3 hg3 _)
        have hb3 : Below w.heap.size w w3 := ((below_drewN hb _).alloc hsz _).grown hg3 (by rw [size_alloc1]; exact Nat.le_succ_of_le hsz) (fun q hq => (hown.lt hq).1)
        go_roundw
        case rel => exact ⟨k + 1, a3, c3, l3, by omega, by omega, by go_num, rfl, by rw [hid_len hl3]; omega, hown3, by unfold Hid; rw [hqd.out, HQ.out, qShift_shift, hl3.out, show k + 1 - (i + 1) = k - (i + 1) + 1 by omega], hb3⟩
        case measure => simp [intOf]; omega
    · obtain rfl : k = s.size := by omega
      have HQ := Lib.hid (quoted_none_at s s[i])
      go_wp2_with fail
      go_ret2
      exact ⟨by rw [hqd.out, HQ.out]; rfl, hb⟩

theorem name_zero (s : ByteArray) (k : Nat) (h : k < s.size) (hb : s[k].toNat = 0) : nameB s.data.toList = false := by
  have hm : s.data.toList.contains 0 = true := by
    rw [List.contains_iff_mem, List.mem_iff_getElem]
    exact ⟨k, by simpa using h, UInt8.toNat_inj.1 hb⟩
  unfold nameB; rw [hm]; simp

theorem name_noZero (s : ByteArray) (h : ∀ (k : Nat) (hk : k < s.size), s[k].toNat ≠ 0) : nameB s.data.toList = inI (s.size : Int) 1 40 := by
  have hm : s.data.toList.contains 0 = false := by
    rw [Bool.eq_false_iff]
    intro hc
    rw [List.contains_iff_mem, List.mem_iff_getElem] at hc
    obtain ⟨k, hk, e⟩ := hc
    have hk' : k < s.size := by simpa using hk
    exact h k hk' (by have : s[k] = 0 := e; rw [this]; rfl)
  have hl : s.data.toList.length = s.size := by simp
  unfold nameB inI
  rw [hm, hl, Bool.eq_iff_iff]
  simp only [Bool.and_eq_true, decide_eq_true_eq, Bool.not_false, and_true]
  omega

set_option maxHeartbeats 1000000 in
theorem specName (s : ByteArray) (w : World) (hs : s.size ≤ 1048576) :
    Calls Tryd.prog 53 #[.string s] w fun e w' => e = .returned (.bool (nameB s.data.toList)) ∧ w = w' := by
  go_enter Tryd.func53, Tryd.ntmps53
  go_wp2_with fail
  go_loop [3] (fun i => ∃ k : Nat, k ≤ s.size ∧ i = .int .i64 k ∧ Hid (∀ (j : Nat) (hj : j < s.size), j < k → s[j].toNat ≠ 0)) (fun i => s.size - (intOf i).toNat)
  case atStart => exact ⟨0, Nat.zero_le _, rfl, fun j _ h => by omega⟩
  case round =>
    obtain ⟨k, hk, rfl, hall⟩ := hrel
    by_cases hlt : k < s.size
    · have hby := byte_le s[k]
      by_cases h0 : s[k].toNat = 0
      · have HN := Lib.hid (name_zero s k hlt h0)
        have T := beqT (b := s[k]) (n := 0) (by omega)
        clear h0
        go_wp2_with fail
        go_ret
        exact ⟨by rw [HN.out]; rfl, rfl⟩
      · have HA : Hid (∀ (j : Nat) (hj : j < s.size), j < k + 1 → s[j].toNat ≠ 0) := fun j hj hjk => by
          by_cases e : j = k
          · subst e; exact h0
          · exact hall.out j hj (by omega)
        have T := beqF (b := s[k]) (n := 0) (by omega)
        clear h0
        go_wp2_with fail
        exact ⟨⟨k + 1, by omega, by go_num, HA⟩, by simp [intOf]; omega⟩
    · have HN : Hid (nameB s.data.toList = inI (s.size : Int) 1 40) := name_noZero s (fun j hj => hall.out j hj (by omega))
      go_wp2_with fail
      refine (specIn _ 1 40 _).mono ?_
      rintro e w' ⟨rfl, rfl⟩
      go_wp2_with fail
      go_ret
      exact ⟨by rw [HN.out]; rfl, rfl⟩

end Go.Proofs.YtjnanlfahgjcbaaDoor
