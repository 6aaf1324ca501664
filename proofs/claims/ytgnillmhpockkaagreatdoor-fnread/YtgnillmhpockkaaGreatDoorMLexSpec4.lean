/- The model's quoted texts and names. -/
/- The model's signs. -/
/- The model's one word at a place. -/
/- The program's lexer: its small methods. -/
/- The program's lexer: take. -/
/- Where words stand; blanks and notes around them; great letters: plain mathematics. -/
/- The program's lexer: notes, gaps. -/
import Derived.Test.YtgnillmhpockkaaGreatDoorMDecImpl
import Derived.Test.YtgnillmhpockkaaGreatDoorMMem
import Derived.Test.YtgnillmhpockkaaGreatDoorMShelf
import Derived.Deep.RegionHeld3
import Derived.Deep.DrawnRows
import Derived.Test.YtgnillmhpockkaaGreatDoorMLexP
namespace Go.Proofs.YtgnillmhpockkaaGreatDoor
open Go.RowKit

/-- What is between quotes, as the calls answer it. -/
def qText : Option (List UInt8 × Nat) → ByteArray
  | some x => ⟨x.1.toArray⟩
  | none => ⟨#[]⟩
def qLen : Option (List UInt8 × Nat) → Nat
  | some x => 1 + x.2
  | none => 0

def qShift (l : List UInt8) (d : Nat) (o : Option (List UInt8 × Nat)) : Option (List UInt8 × Nat) := o.map fun x => (l ++ x.1, d + x.2)

theorem quoted_ne {q b : UInt8} {r : List UInt8} (h : b ≠ q) : quoted q (b :: r) = qShift [b] 1 (quoted q r) := by
  cases r with
  | nil => simp [quoted, h, qShift]
  | cons c r => rw [quoted, if_neg h]; rfl

theorem quoted_two {q b c : UInt8} {r : List UInt8} (h : b = q) (h' : c = q) : quoted q (b :: c :: r) = qShift [b] 2 (quoted q r) := by
  rw [quoted, if_pos h, if_pos h']; rfl

theorem quoted_end {q b : UInt8} (h : b = q) : quoted q [b] = some ([], 1) := by rw [quoted, if_pos h]
theorem quoted_stop {q b c : UInt8} {r : List UInt8} (h : b = q) (h' : c ≠ q) : quoted q (b :: c :: r) = some ([], 1) := by
  rw [quoted, if_pos h, if_neg h']

theorem qShift_shift (l m : List UInt8) (d e : Nat) (o : Option (List UInt8 × Nat)) : qShift l d (qShift m e o) = qShift (l ++ m) (d + e) o := by
  cases o <;> simp [qShift, Nat.add_assoc]

theorem quoted_ne_at (s : ByteArray) (q : UInt8) (k : Nat) (h : k < s.size) (hb : s[k] ≠ q) : quoted q (s.data.toList.drop k) = qShift [s[k]] 1 (quoted q (s.data.toList.drop (k + 1))) := by
  rw [drop_at s k h]; exact quoted_ne hb
theorem quoted_two_at (s : ByteArray) (q : UInt8) (k : Nat) (h : k < s.size) (hb : s[k] = q) (h1 : k + 1 < s.size) (hc : s[k + 1] = q) : quoted q (s.data.toList.drop k) = qShift [s[k]] 2 (quoted q (s.data.toList.drop (k + 2))) := by
  rw [drop_at s k h, drop_at s (k + 1) h1]; exact quoted_two hb hc
theorem quoted_end_at (s : ByteArray) (q : UInt8) (k : Nat) (h : k < s.size) (hb : s[k] = q) (hs : s.size = k + 1 ∨ ∃ h1 : k + 1 < s.size, s[k + 1] ≠ q) : quoted q (s.data.toList.drop k) = some ([], 1) := by
  rw [drop_at s k h]
  rcases hs with h1 | ⟨h1, hc⟩
  · rw [List.drop_of_length_le (by simp; omega)]; exact quoted_end hb
  · rw [drop_at s (k + 1) h1]; exact quoted_stop hb hc
theorem quoted_none_at (s : ByteArray) (q : UInt8) : quoted q (s.data.toList.drop s.size) = none := by
  rw [List.drop_of_length_le (by simp)]; rfl

theorem byte_bneT {a b : UInt8} (h : a ≠ b) : (((a.toNat : Int)) != (b.toNat : Int)) = true := by
  rw [bne_iff_ne]; intro e; exact h (UInt8.toNat_inj.1 (by omega))
theorem byte_bneF {a b : UInt8} (h : a = b) : (((a.toNat : Int)) != (b.toNat : Int)) = false := by subst h; simp

theorem cellNew (w : World) (v : Value) (t : TypeId) : (w.alloc (.cells #[v] t)).cell? ⟨w.heap.size, 0, none⟩ = some v := by
  rw [cell_of_row _ _ _ _ _ _ (heap_alloc_new w _)]; rfl
theorem size_alloc1 (w : World) (o : Obj) : (w.alloc o).heap.size = w.heap.size + 1 := by simp

theorem qEnd (l : List UInt8) (k i : Nat) (h : i + 1 ≤ k) : Ending.returned (.tuple #[.string ⟨l.toArray⟩, .int .i64 ((k : Int) + 1 - (i : Int))]) = .returned (.tuple #[.string (qText (qShift l (k - (i + 1)) (some ([], 1)))), .int .i64 (qLen (qShift l (k - (i + 1)) (some ([], 1))) : Nat)]) := by
  have e1 : qText (qShift l (k - (i + 1)) (some ([], 1))) = ⟨l.toArray⟩ := by simp [qShift, qText]
  have e2 : ((qLen (qShift l (k - (i + 1)) (some ([], 1))) : Nat) : Int) = (k : Int) + 1 - (i : Int) := by simp [qShift, qLen]; omega
  rw [e1, e2]

theorem OwnB.drewN {w : World} {B : Nat} {a : Option Addr} {c : Nat} {l : List UInt8} (h : OwnB w B a c l) (n : Nat) : OwnB (w.drewN n) B a c l :=
  h.below (below_drewN (Below.refl _ _) n)

set_option maxHeartbeats 2000000 in
theorem specQuoted (s : ByteArray) (i : Nat) (w : World) (hi : i < s.size) (hs : s.size ≤ 1048576) :
    Calls Tryz.prog 112 #[.string s, .int .i64 (i : Int)] w fun e w' => e = .returned (.tuple #[.string (qText (quoted s[i] (s.data.toList.drop (i + 1)))), .int .i64 (qLen (quoted s[i] (s.data.toList.drop (i + 1))) : Nat)]) ∧ Below w.heap.size w w' := by
  obtain ⟨i0, hi0, hz0, hz1, hz2⟩ := info_parts Tryz.infoByte
  have hq := byte_le s[i]
  go_enter Tryz.func112, Tryz.ntmps112
  go_wp2_with fail
  go_loopw [6, 7] (fun v p wr => ∃ (k : Nat) (a1 : Option Addr) (c1 : Nat) (l1 : List UInt8), i + 1 ≤ k ∧ k ≤ s.size ∧ p = .int .i64 k ∧ v = .slice a1 l1.length c1 ∧ l1.length + i + 1 ≤ k ∧ OwnB wr w.heap.size a1 c1 l1 ∧ Hid (quoted s[i] (s.data.toList.drop (i + 1)) = qShift l1 (k - (i + 1)) (quoted s[i] (s.data.toList.drop k))) ∧ Below w.heap.size w wr) (fun _ p _ => s.size - (intOf p).toNat)
  case atStart =>
    refine ⟨i + 1, _, _, [], Nat.le_refl _, by omega, by go_num, rfl, by simp, ownBEmpty w, ?_, (Below.refl _ _).alloc (Nat.le_refl _) _⟩
    unfold Hid
    rw [Nat.sub_self]
    cases quoted s[i] (s.data.toList.drop (i + 1)) <;> simp [qShift]
  case round =>
    obtain ⟨k, a1, c1, l1, hk0, hk, rfl, rfl, hlen, hown, hqd, hb⟩ := hrel
    have hsz := hb.size
    by_cases hlt : k < s.size
    · have hby := byte_le s[k]
      have h0k : (0 : Int) ≤ (k : Int) := by omega
      have h0i : (0 : Int) ≤ (i : Int) := by omega
      have hki : (k : Int) < (s.size : Int) := by omega
      have hii : (i : Int) < (s.size : Int) := by omega
      by_cases he : s[k] = s[i]
      · have T1 := byte_bneF he
        by_cases h1 : k + 1 < s.size
        · have hby1 := byte_le s[k + 1]
          have T3 : (((k : Int) + 1) == (s.size : Int)) = false := by rw [beq_eq_false_iff_ne]; omega
          have h0k1 : (0 : Int) ≤ (k : Int) + 1 := by omega
          have hki1 : (k : Int) + 1 < (s.size : Int) := by omega
          by_cases hc : s[k + 1] = s[i]
          · have T2 := byte_bneF hc
            have HQ := Lib.hid (quoted_two_at s s[i] k hlt he h1 hc)
            have HE := Lib.hid he
            clear he hc
            go_wp2_with fail
            go_quiet (fail)
            go_wp2_with fail
            go_quiet (fail)
            go_wp2_with (at_builtin; refine wpAppendByte rfl (.tmp 51) (.tmp 55) rfl i0 hi0 hz0 hz1 hz2 w.heap.size a1 c1 l1 wr.heap.size s[k] rfl ((hown.drewN _).alloc _) rfl (cellNew _ _ _) (by omega) (by rw [size_alloc1]; exact Nat.le_succ_of_le hsz) ?_; intro a3 c3 w3 l3 hl3 hown3 hg3 _)
            have hb3 : Below w.heap.size w w3 := ((below_drewN hb _).alloc hsz _).grown hg3 (by rw [size_alloc1]; exact Nat.le_succ_of_le hsz) (fun q hq => (hown.lt hq).1)
            go_roundw
            case rel => exact ⟨k + 2, a3, c3, l3, by omega, by omega, by go_num, rfl, by rw [hid_len hl3]; omega, hown3, by unfold Hid; rw [hqd.out, HQ.out, qShift_shift, hl3.out, show k + 2 - (i + 1) = k - (i + 1) + 2 by omega], hb3⟩
            case measure => simp [intOf]; omega
          · have T2 := byte_bneT hc
            have HQ := Lib.hid (quoted_end_at s s[i] k hlt he (.inr ⟨h1, hc⟩))
            clear he hc
            go_wp2_with fail
            go_quiet (fail)
            go_wp2_with fail
            go_quiet (fail)
            have hcv := fun n => convBytes (hown.drewN n)
            go_wp2_with fail
            go_ret2
            exact ⟨by rw [hqd.out, HQ.out]; exact qEnd l1 k i hk0, below_drewN hb _⟩
        · have T3 : (((k : Int) + 1) == (s.size : Int)) = true := by rw [beq_iff_eq]; omega
          have HQ := Lib.hid (quoted_end_at s s[i] k hlt he (.inl (by omega)))
          clear he
          go_wp2_with fail
          go_quiet (fail)
          go_wp2_with fail
          go_quiet (fail)
          have hcv := fun n => convBytes (hown.drewN n)
          go_wp2_with fail
          go_ret2
          exact ⟨by rw [hqd.out, HQ.out]; exact qEnd l1 k i hk0, below_drewN hb _⟩
      · have T1 := byte_bneT he
        have HQ := Lib.hid (quoted_ne_at s s[i] k hlt he)
        have HE := Lib.hid he
        clear he
        go_wp2_with fail
        go_quiet (fail)
        go_wp2_with (at_builtin; refine wpAppendByte rfl (.tmp 24) (.tmp 28) rfl i0 hi0 hz0 hz1 hz2 w.heap.size a1 c1 l1 wr.heap.size s[k] rfl ((hown.drewN _).alloc _) rfl (cellNew _ _ _) (by omega) (by rw [size_alloc1]; exact Nat.le_succ_of_le hsz) ?_; intro a3 c3 w3 l3 hl3 hown3 hg3 _)
        have hb3 : Below w.heap.size w w3 := ((below_drewN hb _).alloc hsz _).grown hg3 (by rw [size_alloc1]; exact Nat.le_succ_of_le hsz) (fun q hq => (hown.lt hq).1)
        go_roundw
        case rel => exact ⟨k + 1, a3, c3, l3, by omega, by omega, by go_num, rfl, by rw [hid_len hl3]; omega, hown3, by unfold Hid; rw [hqd.out, HQ.out, qShift_shift, hl3.out, show k + 1 - (i + 1) = k - (i + 1) + 1 by omega], hb3⟩
        case measure => simp [intOf]; omega
    · obtain rfl : k = s.size := by omega
      have HQ := Lib.hid (quoted_none_at s s[i])
      go_wp2_with fail
      go_ret2
      exact ⟨by rw [hqd.out, HQ.out]; rfl, hb⟩

theorem name_zero (s : ByteArray) (k : Nat) (h : k < s.size) (hb : s[k].toNat = 0) : nameB s.data.toList = false := by
  have hm : s.data.toList.contains 0 = true := by
    rw [List.contains_iff_mem, List.mem_iff_getElem]
    exact ⟨k, by simpa using h, UInt8.toNat_inj.1 hb⟩
  unfold nameB; rw [hm]; simp

theorem name_noZero (s : ByteArray) (h : ∀ (k : Nat) (hk : k < s.size), s[k].toNat ≠ 0) : nameB s.data.toList = inI (s.size : Int) 1 40 := by
  have hm : s.data.toList.contains 0 = false := by
    rw [Bool.eq_false_iff]
    intro hc
    rw [List.contains_iff_mem, List.mem_iff_getElem] at hc
    obtain ⟨k, hk, e⟩ := hc
    have hk' : k < s.size := by simpa using hk
    exact h k hk' (by have : s[k] = 0 := e; rw [this]; rfl)
  have hl : s.data.toList.length = s.size := by simp
  unfold nameB inI
  rw [hm, hl, Bool.eq_iff_iff]
  simp only [Bool.and_eq_true, decide_eq_true_eq, Bool.not_false, and_true]
  omega

set_option maxHeartbeats 1000000 in
theorem specName (s : ByteArray) (w : World) (hs : s.size ≤ 1048576) :
    Calls Tryz.prog 41 #[.string s] w fun e w' => e = .returned (.bool (nameB s.data.toList)) ∧ w = w' := by
  go_enter Tryz.func41, Tryz.ntmps41
  go_wp2_with fail
  go_loop [3] (fun i => ∃ k : Nat, k ≤ s.size ∧ i = .int .i64 k ∧ Hid (∀ (j : Nat) (hj : j < s.size), j < k → s[j].toNat ≠ 0)) (fun i => s.size - (intOf i).toNat)
  case atStart => exact ⟨0, Nat.zero_le _, rfl, fun j _ h => by omega⟩
  case round =>
    obtain ⟨k, hk, rfl, hall⟩ := hrel
    by_cases hlt : k < s.size
    · have hby := byte_le s[k]
      by_cases h0 : s[k].toNat = 0
      · have HN := Lib.hid (name_zero s k hlt h0)
        have T := beqT (b := s[k]) (n := 0) (by omega)
        clear h0
        go_wp2_with fail
        go_ret
        exact ⟨by rw [HN.out]; rfl, rfl⟩
      · have HA : Hid (∀ (j : Nat) (hj : j < s.size), j < k + 1 → s[j].toNat ≠ 0) := fun j hj hjk => by
          by_cases e : j = k
          · subst e; exact h0
          · exact hall.out j hj (by omega)
        have T := beqF (b := s[k]) (n := 0) (by omega)
        clear h0
        go_wp2_with fail
        exact ⟨⟨k + 1, by omega, by go_num, HA⟩, by simp [intOf]; omega⟩
    · have HN : Hid (nameB s.data.toList = inI (s.size : Int) 1 40) := name_noZero s (fun j hj => hall.out j hj (by omega))
      go_wp2_with fail
      refine (specIn _ 1 40 _).mono ?_
      rintro e w' ⟨rfl, rfl⟩
      go_wp2_with fail
      go_ret
      exact ⟨by rw [HN.out]; rfl, rfl⟩

end Go.Proofs.YtgnillmhpockkaaGreatDoor

namespace Go.Proofs.YtgnillmhpockkaaGreatDoor
open Go.RowKit

theorem extract_toList (s : ByteArray) (i j : Nat) : (s.extract i j).toList = (s.data.toList.drop i).take (j - i) := by
  rw [Lib.toList_data, ByteArray.data_extract]
  simp [List.drop_take]

theorem extract_two (s : ByteArray) (i : Nat) (h : i + 1 < s.size) : (s.extract i (i + 2)).toList = [s[i], s[i + 1]] := by
  rw [extract_toList, drop_at s i (by omega), drop_at s (i + 1) h, show i + 2 - i = 2 by omega]
  rfl

theorem two_eq (s : ByteArray) (i : Nat) (h : i + 1 < s.size) (a b : UInt8) : ((s.extract i (i + 2)).toList == [a, b]) = (s[i] == a && s[i + 1] == b) := by
  rw [extract_two s i h]
  cases h1 : s[i] == a <;> cases h2 : s[i + 1] == b <;> simp_all

theorem twoCases (a b : UInt8) :
    ((a == 60 && b == 61) = true ∧ twoB a b = true) ∨ ((a == 60 && b == 61) = false ∧ (a == 62 && b == 61) = true ∧ twoB a b = true) ∨
    ((a == 60 && b == 61) = false ∧ (a == 62 && b == 61) = false ∧ (a == 60 && b == 62) = true ∧ twoB a b = true) ∨
    ((a == 60 && b == 61) = false ∧ (a == 62 && b == 61) = false ∧ (a == 60 && b == 62) = false ∧ twoB a b = false) := by
  have e : ∀ (x : UInt8) (n : Nat) (hn : n < 256), (x == UInt8.ofNat n) = (x.toNat == n) := fun x n hn => by
    rw [Bool.eq_iff_iff]
    simp only [beq_iff_eq]
    constructor
    · rintro rfl; rw [UInt8.toNat_ofNat']; omega
    · intro h; apply UInt8.toNat_inj.1; rw [UInt8.toNat_ofNat']; omega
  have a60 : (a == 60) = (a.toNat == 60) := e a 60 (by omega)
  have a62 : (a == 62) = (a.toNat == 62) := e a 62 (by omega)
  have b61 : (b == 61) = (b.toNat == 61) := e b 61 (by omega)
  have b62 : (b == 62) = (b.toNat == 62) := e b 62 (by omega)
  rw [a60, a62, b61, b62]
  unfold twoB
  cases h1 : a.toNat == 60 <;> cases h2 : a.toNat == 62 <;> cases h3 : b.toNat == 61 <;> cases h4 : b.toNat == 62 <;> simp

theorem signN_at (s : ByteArray) (i : Nat) (h : i < s.size) (h2 : s.size = i + 1 ∨ ∃ h1 : i + 1 < s.size, twoB s[i] s[i + 1] = false) : signN (s.data.toList.drop i) = if signB s[i] then 1 else 0 := by
  rw [drop_at s i h]
  rcases h2 with h1 | ⟨h1, h2⟩
  · rw [List.drop_of_length_le (by simp; omega), signN]
  · rw [drop_at s (i + 1) h1, signN, if_neg (by simp [h2])]

theorem signN_two_at (s : ByteArray) (i : Nat) (h : i + 1 < s.size) (h2 : twoB s[i] s[i + 1] = true) : signN (s.data.toList.drop i) = 2 := by
  rw [drop_at s i (by omega), drop_at s (i + 1) h, signN, if_pos h2]

theorem sign_some {b : UInt8} {n : Int} (h : (b.toNat : Int) = n) (hm : n ∈ [(40 : Int), 41, 44, 59, 61, 60, 62, 43, 45, 42, 46]) : signB b = true := by
  unfold signB
  simp only [List.mem_cons, List.not_mem_nil, or_false] at hm
  simp only [List.contains_eq_mem, List.mem_cons, List.not_mem_nil, or_false, decide_eq_true_eq]
  omega

set_option maxHeartbeats 4000000 in
theorem specSign (s : ByteArray) (i : Nat) (w : World) (hi : i < s.size) (hs : s.size ≤ 1048576) :
    Calls Tryz.prog 113 #[.string s, .int .i64 (i : Int)] w fun e w' => e = .returned (.int .i64 (signN (s.data.toList.drop i) : Nat)) ∧ w = w' := by
  have hby := byte_le s[i]
  by_cases h1 : i + 1 < s.size
  · have e1 := two_eq s i h1 60 61
    have e2 := two_eq s i h1 62 61
    have e3 := two_eq s i h1 60 62
    rcases twoCases s[i] s[i + 1] with ⟨t1, h2⟩ | ⟨t1, t2, h2⟩ | ⟨t1, t2, t3, h2⟩ | ⟨t1, t2, t3, h2⟩
    · rw [t1] at e1
      have HS := Lib.hid (signN_two_at s i h1 h2)
      clear e2 e3 t1 h2
      go_enter Tryz.func113, Tryz.ntmps113
      go_wp2_with fail
      go_ret
      exact ⟨by rw [HS.out]; rfl, rfl⟩
    · rw [t1] at e1
      rw [t2] at e2
      have HS := Lib.hid (signN_two_at s i h1 h2)
      clear e3 t1 t2 h2
      go_enter Tryz.func113, Tryz.ntmps113
      go_wp2_with fail
      go_ret
      exact ⟨by rw [HS.out]; rfl, rfl⟩
    · rw [t1] at e1
      rw [t2] at e2
      rw [t3] at e3
      have HS := Lib.hid (signN_two_at s i h1 h2)
      clear t1 t2 t3 h2
      go_enter Tryz.func113, Tryz.ntmps113
      go_wp2_with fail
      go_ret
      exact ⟨by rw [HS.out]; rfl, rfl⟩
    · rw [t1] at e1
      rw [t2] at e2
      rw [t3] at e3
      have HS := Lib.hid (signN_at s i hi (.inr ⟨h1, h2⟩))
      clear t1 t2 t3 h2
      generalize hb : s[i] = b at *
      go_enter Tryz.func113, Tryz.ntmps113
      go_wp2_with fail
      all_goals go_ret
      all_goals first
        | exact ⟨by rw [HS.out, if_pos (sign_some (b := b) (beq_iff_eq.1 (by assumption)) (by simp))]; rfl, rfl⟩
        | (refine ⟨?_, rfl⟩; rw [HS.out, if_neg (by simp only [beq_eq_false_iff_ne, ne_eq] at *; unfold signB; simp only [List.contains_eq_mem, List.mem_cons, List.not_mem_nil, or_false, decide_eq_true_eq]; omega)]; rfl)
  · have HS := Lib.hid (signN_at s i hi (.inl (by omega)))
    have ht : ¬ ((i : Int) + 1 < (s.size : Int)) := by omega
    generalize hb : s[i] = b at *
    go_enter Tryz.func113, Tryz.ntmps113
    go_wp2_with fail
    all_goals go_ret
    all_goals first
        | exact ⟨by rw [HS.out, if_pos (sign_some (b := b) (beq_iff_eq.1 (by assumption)) (by simp))]; rfl, rfl⟩
        | (refine ⟨?_, rfl⟩; rw [HS.out, if_neg (by simp only [beq_eq_false_iff_ne, ne_eq] at *; unfold signB; simp only [List.contains_eq_mem, List.mem_cons, List.not_mem_nil, or_false, decide_eq_true_eq]; omega)]; rfl)

end Go.Proofs.YtgnillmhpockkaaGreatDoor

namespace Go.Proofs.YtgnillmhpockkaaGreatDoor
open Go.RowKit

theorem run_in_at (s : ByteArray) (k : Nat) (h : k < s.size) (hb : moreB s[k] = true) : runN (s.data.toList.drop k) = 1 + runN (s.data.toList.drop (k + 1)) := by
  rw [drop_at s k h]
  unfold runN runL
  rw [List.takeWhile_cons, if_pos hb, List.length_cons]
  omega
theorem run_out_at (s : ByteArray) (k : Nat) (h : k < s.size) (hb : moreB s[k] = false) : runN (s.data.toList.drop k) = 0 := by
  rw [drop_at s k h]
  unfold runN runL
  rw [List.takeWhile_cons, if_neg (by simp [hb])]
  rfl
theorem run_end_at (s : ByteArray) : runN (s.data.toList.drop s.size) = 0 := by
  rw [List.drop_of_length_le (by simp)]; rfl

theorem runL_takeN (l : List UInt8) : runL l = l.take (runN l) := by
  unfold runN runL
  induction l with
  | nil => rfl
  | cons b r ih =>
    rw [List.takeWhile_cons]
    split
    · rw [List.length_cons, List.take_succ_cons, ← ih]
    · rfl

theorem run_extract (s : ByteArray) (i n : Nat) (hn : runN (s.data.toList.drop i) = n) : (s.extract i (i + n)).data.toList = runL (s.data.toList.drop i) := by
  rw [← Lib.toList_data, extract_toList, runL_takeN, hn, show i + n - i = n by omega]

/-- What is answered for the word at a place. -/
def OneAns (s : ByteArray) (i : Nat) (w : World) (e : Ending) (w' : World) : Prop :=
  ∃ (a : Int) (t : ByteArray) (p : Int) (n : Nat), e = .returned (.tuple #[.agg #[.int .i64 a, .string t, .int .i64 p], .int .i64 (n : Int)]) ∧
    (match one (s.data.toList.drop i) with
      | none => n = 0
      | some x => n = x.2.2 ∧ a = (x.1 : Int) ∧ t = ⟨x.2.1.toArray⟩ ∧ p = (i : Int)) ∧ Below w.heap.size w w'

theorem oneAns_some {s : ByteArray} {i : Nat} {w w' : World} {x : Nat × List UInt8 × Nat} (h : one (s.data.toList.drop i) = some x) {t : ByteArray} (ht : t = ⟨x.2.1.toArray⟩) (hb : Below w.heap.size w w') : OneAns s i w (.returned (.tuple #[.agg #[.int .i64 (x.1 : Int), .string t, .int .i64 (i : Int)], .int .i64 (x.2.2 : Int)])) w' :=
  ⟨_, _, _, _, rfl, by rw [h]; exact ⟨rfl, rfl, ht, rfl⟩, hb⟩

theorem oneAns_none {s : ByteArray} {i : Nat} {w w' : World} (h : one (s.data.toList.drop i) = none) (a : Int) (t : ByteArray) (p : Int) (hb : Below w.heap.size w w') : OneAns s i w (.returned (.tuple #[.agg #[.int .i64 a, .string t, .int .i64 p], .int .i64 0])) w' :=
  ⟨a, t, p, 0, rfl, by rw [h], hb⟩

theorem one_word (s : ByteArray) (i : Nat) (h : i < s.size) (hb : letterB s[i] = true) {n : Nat} (hn : runN (s.data.toList.drop i) = n) :
    one (s.data.toList.drop i) = some (0, (runL (s.data.toList.drop i)).map lowB, n) := by
  have e := drop_at s i h
  rw [e] at hn ⊢
  rw [one, if_pos hb, hn]
theorem one_num (s : ByteArray) (i : Nat) (h : i < s.size) (hb : letterB s[i] = false) (hd : digitB s[i] = true) {n : Nat} (hn : runN (s.data.toList.drop i) = n) :
    one (s.data.toList.drop i) = if 0 ≤ readD (runL (s.data.toList.drop i)) then some (2, runL (s.data.toList.drop i), n) else none := by
  have e := drop_at s i h
  rw [e] at hn ⊢
  rw [one, if_neg (by simp [hb]), if_pos hd, hn]
theorem one_name (s : ByteArray) (i : Nat) (h : i < s.size) (hb : s[i].toNat = 34) :
    one (s.data.toList.drop i) = (quoted s[i] (s.data.toList.drop (i + 1))).bind fun x => if nameB x.1 then some (1, x.1, 1 + x.2) else none := by
  have hq : s[i] = 34 := UInt8.toNat_inj.1 hb
  rw [drop_at s i h, one, if_neg (by simp [letterB, hb]), if_neg (by simp [digitB, hb]), if_pos hb, hq]
theorem one_text (s : ByteArray) (i : Nat) (h : i < s.size) (hb : s[i].toNat = 39) :
    one (s.data.toList.drop i) = (quoted s[i] (s.data.toList.drop (i + 1))).bind fun x => if x.1.length ≤ 100 then some (3, x.1, 1 + x.2) else none := by
  have hq : s[i] = 39 := UInt8.toNat_inj.1 hb
  rw [drop_at s i h, one, if_neg (by simp [letterB, hb]), if_neg (by simp [digitB, hb]), if_neg (by omega), if_pos hb, hq]
theorem one_sign_at (s : ByteArray) (i : Nat) (h : i < s.size) (h1 : letterB s[i] = false) (h2 : digitB s[i] = false) (h3 : s[i].toNat ≠ 34) (h4 : s[i].toNat ≠ 39) :
    one (s.data.toList.drop i) = if signN (s.data.toList.drop i) = 0 then none else some (4, (s.data.toList.drop i).take (signN (s.data.toList.drop i)), signN (s.data.toList.drop i)) := by
  have e := drop_at s i h
  rw [e]
  rw [one, if_neg (by simp [h1]), if_neg (by simp [h2]), if_neg h3, if_neg h4]

theorem extract_arr (s : ByteArray) (i n : Nat) : s.extract i (i + n) = ⟨((s.data.toList.drop i).take n).toArray⟩ := by
  have h := extract_toList s i (i + n)
  rw [show i + n - i = n by omega, Lib.toList_data] at h
  apply ByteArray.ext
  rw [← h]

theorem Below.tok {w w' : World} {cs : Array Value} {t : TypeId} (h : Below (w.alloc (.cells cs t)).heap.size (w.alloc (.cells cs t)) w') : Below w.heap.size w w' :=
  ((Below.refl _ _).alloc (Nat.le_refl _) _).trans (h.mono (by simp))

/-- A new word's three cells stand behind a call. -/
theorem tokCells {w w' : World} {a : Int} {t : ByteArray} {p : Int} {T : TypeId} (h : Below (w.alloc (.cells #[.int .i64 a, .string t, .int .i64 p] T)).heap.size (w.alloc (.cells #[.int .i64 a, .string t, .int .i64 p] T)) w') :
    w'.heap[w.heap.size]? = some (.cells #[.int .i64 a, .string t, .int .i64 p] T (0, 0)) := by
  rw [h.block w.heap.size (by simp)]
  exact heap_alloc_new _ _

theorem signN_le2 (l : List UInt8) : signN l ≤ 2 := by
  cases l with
  | nil => simp [signN]
  | cons b r => cases r with
    | nil => rw [signN]; split <;> omega
    | cons c r => rw [signN]; split <;> (try split) <;> omega

theorem signN_len (l : List UInt8) : signN l ≤ l.length := by
  cases l with
  | nil => simp [signN]
  | cons b r => cases r with
    | nil => rw [signN]; split <;> simp
    | cons c r => rw [signN]; simp only [List.length_cons]; split <;> (try split) <;> omega

theorem quoted_len2 {q : UInt8} : ∀ (m : Nat) (l : List UInt8) (x : List UInt8 × Nat), l.length ≤ m → quoted q l = some x → x.2 ≤ l.length ∧ 1 ≤ x.2 ∧ x.1.length + 1 ≤ x.2
  | _, [], x, _, h => by rw [quoted] at h; cases h
  | _, [b], x, _, h => by
    rw [quoted] at h
    split at h
    · cases h; simp
    · cases h
  | 0, b :: c :: r, x, hm, _ => by simp at hm
  | m + 1, b :: c :: r, x, hm, h => by
    have h' : r.length + 1 ≤ m := by simpa using hm
    rw [quoted] at h
    split at h
    · split at h
      · cases hq : quoted q r with
        | none => rw [hq] at h; cases h
        | some y =>
          rw [hq] at h
          cases h
          have := quoted_len2 m r y (by omega) hq
          simp only [List.length_cons]
          omega
      · cases h; simp
    · cases hq : quoted q (c :: r) with
      | none => rw [hq] at h; cases h
      | some y =>
        rw [hq] at h
        cases h
        have := quoted_len2 m (c :: r) y (by simpa using h') hq
        simp only [List.length_cons] at this ⊢
        omega

end Go.Proofs.YtgnillmhpockkaaGreatDoor

namespace Go.Proofs.YtgnillmhpockkaaGreatDoor
open Go.RowKit

theorem quietIs {P : Program} {f : FuncId} {args : Array Value} {w : World} {v v' : Value} (h : Calls P f args w (Quiet w v)) (e : v = v') : Calls P f args w (Quiet w v') := e ▸ h

set_option maxHeartbeats 1000000 in
theorem implMore {w : World} {g : Nat} {s : ByteArray} {k : Nat} (h : LexS w g s k) (hs : s.size ≤ 1048576) (hk : k ≤ 1048577) (v : Bool) (hv : decide (k < s.size) = v) :
    Calls Tryz.prog 44 #[.pointer (some ⟨g, 0, none⟩)] w (Quiet w (.bool v)) := by
  subst hv
  have c0 := h.c0
  have c1 := h.c1
  clear h
  go_enter Tryz.func44, Tryz.ntmps44
  go_wp2_with fail
  go_quiet (fail)
  go_wp2_with fail
  go_ret
  exact ⟨rfl, _, rfl⟩

set_option maxHeartbeats 1000000 in
theorem implHere {w : World} {g : Nat} {s : ByteArray} {k : Nat} (h : LexS w g s k) (hs : s.size ≤ 1048576) (hk : k < s.size) (v : Int) (hv : clB s[k] = v) :
    Calls Tryz.prog 70 #[.pointer (some ⟨g, 0, none⟩)] w (Quiet w (.int .i64 v)) := by
  subst hv
  have c0 := h.c0
  have c1 := h.c1
  have c2 := h.cl s[k]
  have hb := byte_le s[k]
  have h0k : (0 : Int) ≤ (k : Int) := by omega
  have hkk : (k : Int) < (s.size : Int) := by omega
  have h0b : (0 : Int) ≤ (s[k].toNat : Int) := by omega
  have hbb : (s[k].toNat : Int) < 256 := by omega
  clear h
  go_enter Tryz.func70, Tryz.ntmps70
  go_wp2_with fail
  go_quiet (fail)
  go_wp2_with fail
  go_ret
  exact ⟨rfl, _, rfl⟩

theorem byteAll {p : UInt8 → Bool} (h : ((List.range 256).all fun n => p (UInt8.ofNat n)) = true) (b : UInt8) : p b = true := by
  have := List.all_eq_true.1 h b.toNat (List.mem_range.2 (UInt8.toNat_lt b))
  simpa using this
theorem class23 : ((List.range 256).all fun n => moreB (UInt8.ofNat n) == ((clB (UInt8.ofNat n) == 2) || (clB (UInt8.ofNat n) == 3))) = true := by kernel_rfl

set_option maxHeartbeats 1000000 in
theorem implInRun {w : World} {g : Nat} {s : ByteArray} {k : Nat} (h : LexS w g s k) (b : UInt8) (v : Bool) (hv : moreB b = v) :
    Calls Tryz.prog 102 #[.pointer (some ⟨g, 0, none⟩), .int .u8 (b.toNat : Int)] w fun e w' => e = .returned (.bool v) ∧ w = w' := by
  have c2 := h.cl b
  have hb := byte_le b
  have h0b : (0 : Int) ≤ (b.toNat : Int) := by omega
  have hbb : (b.toNat : Int) < 256 := by omega
  have hm : moreB b = ((clB b == 2) || (clB b == 3)) := by simpa using byteAll (p := fun b => moreB b == ((clB b == 2) || (clB b == 3))) class23 b
  generalize clB b = c at c2 hm
  clear h
  rw [hm] at hv
  have HV := Lib.hid hv
  clear hm hv
  cases h1 : (c == 2) with
  | true =>
    have H : Hid (v = true) := by unfold Hid; rw [← HV.out, h1]; rfl
    go_enter Tryz.func102, Tryz.ntmps102
    go_wp2_with fail
    go_ret
    exact ⟨by rw [H.out]; rfl, rfl⟩
  | false =>
    have H : Hid (v = (c == 3)) := by unfold Hid; rw [← HV.out, h1]; rfl
    go_enter Tryz.func102, Tryz.ntmps102
    go_wp2_with fail
    go_ret
    exact ⟨by rw [H.out]; rfl, rfl⟩

theorem cloneText (s : ByteArray) (w : World) (hs : s.size ≤ 1048576) : Calls Tryz.prog 32 #[.string s] w fun e w' => e = .returned (.string s) ∧ Below w.heap.size w w' := by
  go_enter Tryz.func32, Tryz.ntmps32
  go_wp2_with fail
  refine (Tryz.stringslite_Clone s w (by omega)).mono ?_
  rintro e w1 ⟨rfl, hb⟩
  go_wp2_with fail
  go_ret
  exact ⟨rfl, hb⟩

theorem extract_drop (s : ByteArray) (k : Nat) : (s.extract k s.size).data.toList = s.data.toList.drop k := by
  rw [← Lib.toList_data, extract_toList]
  exact List.take_of_length_le (by simp)

set_option maxHeartbeats 1000000 in
theorem implBegins {w : World} {g : Nat} {s : ByteArray} {k : Nat} (h : LexS w g s k) (p : ByteArray) (hs : s.size ≤ 1048576) (hk : k ≤ s.size) (v : Bool) (hv : Lib.hasPrefix (s.data.toList.drop k) p.data.toList = v) :
    Calls Tryz.prog 71 #[.pointer (some ⟨g, 0, none⟩), .string p] w (Quiet w (.bool v)) := by
  have c0 := h.c0
  have c1 := h.c1
  have h0k : (0 : Int) ≤ (k : Int) := by omega
  have hkk : (k : Int) ≤ (s.size : Int) := by omega
  have hcall : ∀ W : World, Calls Tryz.prog 97 #[.string (s.extract k s.size), .string p] W fun e w' => e = .returned (.bool v) ∧ w' = W := fun W => by
    have := Tryz.strings_HasPrefix (s.extract k s.size) p W
    rw [extract_drop, hv] at this
    exact this
  have HC := Lib.hid hcall
  clear hv h hcall
  go_enter Tryz.func71, Tryz.ntmps71
  go_wp2_with fail
  go_quiet ((go_at_call 97; exact Calls.quiet_of_same (HC.out _)))
  go_wp2_with fail
  go_ret
  exact ⟨rfl, _, rfl⟩

end Go.Proofs.YtgnillmhpockkaaGreatDoor

namespace Go.Proofs.YtgnillmhpockkaaGreatDoor
open Go.RowKit

theorem Moved.of_below {w w1 w2 : World} {g : Nat} {s : ByteArray} {m : Nat} (h : Moved w g s m w1) (hb : Below w1.heap.size w1 w2) : Moved w g s m w2 := by
  have hlt := h.1.lt
  refine ⟨h.1.below hb hlt, ?_⟩
  have hg := h.2
  exact ⟨hb.os.trans hg.os, hb.tape.trans hg.tape, hb.output.trans hg.output, Nat.le_trans hg.size hb.size, fun i hi hne => (hb.block i (Nat.lt_of_lt_of_le hi hg.size)).trans (hg.block i hi hne)⟩

theorem Moved.refl {w : World} {g : Nat} {s : ByteArray} {k : Nat} (h : LexS w g s k) : Moved w g s k w := ⟨h, World.grownBy.refl w _⟩
theorem Moved.drewN {w w1 : World} {g : Nat} {s : ByteArray} {k : Nat} (h : Moved w g s k w1) (n : Nat) : Moved w g s k (w1.drewN n) := h.of_below (below_drewN (Below.refl _ _) n)
theorem Moved.drew {w w1 : World} {g : Nat} {s : ByteArray} {k : Nat} (h : Moved w g s k w1) : Moved w g s k w1.drew := h.of_below ⟨rfl, rfl, rfl, Nat.le_refl _, fun _ _ => rfl⟩
theorem Moved.trans {w w1 w2 : World} {g : Nat} {s : ByteArray} {k m : Nat} (h : Moved w g s k w1) (h2 : Moved w1 g s m w2) : Moved w g s m w2 :=
  ⟨h2.1, ⟨h2.2.os.trans h.2.os, h2.2.tape.trans h.2.tape, h2.2.output.trans h.2.output, Nat.le_trans h.2.size h2.2.size, fun i hi hne => (h2.2.block i (Nat.lt_of_lt_of_le hi h.2.size) hne).trans (h.2.block i hi hne)⟩⟩
theorem Moved.set {w w1 : World} {g : Nat} {s : ByteArray} {k : Nat} (h : Moved w g s k w1) (m : Nat) {v : Value} (hv : v = .int .i64 (m : Int)) : Moved w g s m (w1.setCell ⟨g, 1, none⟩ v) := by
  subst hv
  exact h.trans ⟨h.1.set m, setGrown _ _ _⟩
theorem Moved.below {w w1 : World} {g : Nat} {s : ByteArray} {k : Nat} (h : Moved w g s k w1) {w0 : World} {B : Nat} (hb : Below B w0 w) (hB : B ≤ g) (hg : g ≤ w.heap.size) : Below B w0 w1 :=
  hb.grown h.2 (by omega) (fun k hk => by cases hk; exact hB)

set_option maxHeartbeats 2000000 in
theorem implTake {w : World} {g : Nat} {s : ByteArray} {k : Nat} (h : LexS w g s k) (n : Nat) (hs : s.size ≤ 1048576) (hk : k + n ≤ s.size) :
    Calls Tryz.prog 103 #[.pointer (some ⟨g, 0, none⟩), .int .i64 (n : Int)] w fun e w' => e = .returned (.string (s.extract k (k + n))) ∧ Moved w g s (k + n) w' := by
  have c0 := h.c0
  have c1 := h.c1
  have f1 := h.f1
  have hlt := h.lt
  have HM := Lib.hid ((Moved.refl h).set (k + n) (v := .int .i64 ((k : Int) + (n : Int))) (by simp))
  have h0k : (0 : Int) ≤ (k : Int) := by omega
  have hkn : (k : Int) ≤ (k : Int) + (n : Int) := by omega
  have hks : (k : Int) + (n : Int) ≤ (s.size : Int) := by omega
  have htn : ((k : Int) + (n : Int)).toNat = k + n := by omega
  have hex : (s.extract k (k + n)).size ≤ 1048576 := by simp; omega
  clear h
  go_enter Tryz.func103, Tryz.ntmps103
  go_wp2_with fail
  have d0 : (w.setCell ⟨g, 1, none⟩ (.int .i64 ((k : Int) + (n : Int)))).cell? ⟨g, 0, none⟩ = some (.string s) := HM.out.1.c0
  have d1 : (w.setCell ⟨g, 1, none⟩ (.int .i64 ((k : Int) + (n : Int)))).cell? ⟨g, 1, none⟩ = some (.int .i64 ((k : Int) + (n : Int))) := by have := HM.out.1.c1; simpa using this
  have hlt1 : g < (w.setCell ⟨g, 1, none⟩ (.int .i64 ((k : Int) + (n : Int)))).heap.size := HM.out.1.lt
  generalize w.setCell ⟨g, 1, none⟩ (.int .i64 ((k : Int) + (n : Int))) = W at *
  clear c0 c1 f1 hlt
  go_region_held3 (fun w' => w'.cell? ⟨g, 0, none⟩ = some (.string s) ∧ w'.cell? ⟨g, 1, none⟩ = some (.int .i64 ((k : Int) + (n : Int)))) (first | go_keep | exact ⟨(hcw _ _ hlt1).trans d0, (hcw _ _ hlt1).trans d1⟩)
    ((go_at_call 32; refine (cloneText (s.extract k (k + n)) _ hex).mono ?_; rintro e w2 ⟨rfl, hb2⟩; obtain ⟨hcw, _⟩ := bcell hb2))
  go_wp2_with fail
  go_ret
  exact ⟨rfl, HM.out.drew.of_below hb2⟩

end Go.Proofs.YtgnillmhpockkaaGreatDoor

namespace Go.Proofs.YtgnillmhpockkaaGreatDoor

/-! The places of words. -/

def FitsAt (l : List UInt8) (x : Tok) : Prop :=
  ∃ b, l[x.at_]? = some b ∧ (x.kind = 1 ↔ b.toNat = 34) ∧ (x.kind = 3 ↔ b.toNat = 39) ∧ (x.kind = 2 ↔ (48 ≤ b.toNat ∧ b.toNat ≤ 57))

def placed (l : List UInt8) : Nat → List Tok → Prop
  | _, [] => True
  | p, x :: r => p ≤ x.at_ ∧ FitsAt l x ∧ placed l (x.at_ + 1) r

theorem placed_mono {l : List UInt8} : ∀ {ts : List Tok} {p q : Nat}, placed l q ts → p ≤ q → placed l p ts
  | [], _, _, _, _ => trivial
  | x :: r, p, q, h, hp => ⟨Nat.le_trans hp h.1, h.2⟩

theorem one_kind {b : UInt8} {r : List UInt8} {k : Nat} {t : List UInt8} {n : Nat} (h : one (b :: r) = some (k, t, n)) :
    (k = 1 ↔ b.toNat = 34) ∧ (k = 3 ↔ b.toNat = 39) ∧ (k = 2 ↔ (48 ≤ b.toNat ∧ b.toNat ≤ 57)) := by
  rw [one] at h
  split at h
  · rename_i hb
    simp only [Option.some.injEq, Prod.mk.injEq] at h
    simp only [letterB, Bool.or_eq_true, Bool.and_eq_true, decide_eq_true_eq, beq_iff_eq] at hb
    omega
  · split at h
    · rename_i hb
      simp only [digitB, Bool.and_eq_true, decide_eq_true_eq] at hb
      split at h
      · simp only [Option.some.injEq, Prod.mk.injEq] at h
        omega
      · cases h
    · rename_i hd
      simp only [digitB, Bool.and_eq_true, decide_eq_true_eq] at hd
      split at h
      · rename_i hb
        cases hq : quoted 34 r with
        | none => rw [hq] at h; cases h
        | some x =>
          rw [hq, Option.bind_some] at h
          split at h
          · simp only [Option.some.injEq, Prod.mk.injEq] at h; omega
          · cases h
      · split at h
        · cases hq : quoted 39 r with
          | none => rw [hq] at h; cases h
          | some x =>
            rw [hq, Option.bind_some] at h
            split at h
            · simp only [Option.some.injEq, Prod.mk.injEq] at h; omega
            · cases h
        · split at h
          · cases h
          · simp only [Option.some.injEq, Prod.mk.injEq] at h; omega

theorem lexAt_placed (l : List UInt8) : ∀ (m p : Nat) (ts : List Tok), (l.drop p).length ≤ m → lexAt p (l.drop p) = .ok ts → placed l p ts
  | 0, p, ts, hm, h => by
    rw [List.eq_nil_of_length_eq_zero (Nat.le_zero.1 hm), lexAt_nil] at h
    cases h
    trivial
  | m + 1, p, ts, hm, h => by
    by_cases h0 : l.drop p = []
    · rw [h0, lexAt_nil] at h
      cases h
      trivial
    · cases h1 : one (l.drop p) with
      | none => rw [lexAt_bad h0 h1] at h; cases h
      | some y =>
        obtain ⟨k, t, n⟩ := y
        have hpos := one_pos h1
        rw [lexAt_one h1, List.drop_drop, List.drop_drop] at h
        cases h2 : lexAt (p + n + gap false (l.drop (p + n))) (l.drop (p + n + gap false (l.drop (p + n)))) with
        | error e => rw [h2] at h; cases h
        | ok us =>
          rw [h2] at h
          cases h
          have hp : p < l.length := by
            rcases Nat.lt_or_ge p l.length with hlt | hge
            · exact hlt
            · exact absurd (List.drop_eq_nil_iff.2 hge) h0
          have hl : 0 < (l.drop p).length := List.length_pos_iff.2 h0
          have ih := lexAt_placed l m (p + n + gap false (l.drop (p + n))) us (by rw [List.length_drop] at hm hl ⊢; omega) h2
          refine ⟨Nat.le_refl _, ⟨l[p], by simp [hp], ?_⟩, placed_mono ih (by show p + 1 ≤ _; omega)⟩
          rw [List.drop_eq_getElem_cons hp] at h1
          exact one_kind h1

theorem lexB_placed {l : List UInt8} {ts : List Tok} (h : lexB l = .ok ts) : placed l 0 ts := by
  unfold lexB at h
  split at h
  · cases h
  · exact placed_mono (lexAt_placed l _ _ ts (Nat.le_refl _) h) (Nat.zero_le _)

theorem placed_at {l : List UInt8} : ∀ {ts : List Tok} {p : Nat}, placed l p ts → ∀ (i : Nat) (h : i < ts.length), p ≤ ts[i].at_ ∧ FitsAt l ts[i] ∧ (0 < i → ∃ h' : i - 1 < ts.length, ts[i - 1].at_ < ts[i].at_)
  | [], _, _, i, h => by simp at h
  | x :: r, p, hp, 0, _ => ⟨hp.1, hp.2.1, fun h => by omega⟩
  | x :: r, p, hp, i + 1, h => by
    have hi : i < r.length := by simpa using h
    obtain ⟨h1, h2, h3⟩ := placed_at hp.2.2 i hi
    have h0 := hp.1
    refine ⟨by simp only [List.getElem_cons_succ]; omega, by simpa using h2, fun _ => ⟨by simp; omega, ?_⟩⟩
    rcases Nat.eq_zero_or_pos i with rfl | hpos
    · simp only [List.getElem_cons_succ]
      show x.at_ < _
      omega
    · obtain ⟨h', hlt⟩ := h3 hpos
      simp only [List.getElem_cons_succ]
      have e : (x :: r)[i + 1 - 1]'(by simp; omega) = r[i - 1] := by
        have : i + 1 - 1 = (i - 1) + 1 := by omega
        simp only [this, List.getElem_cons_succ]
      rw [e]
      exact hlt

/-! Where a word lies elsewhere. -/

def shift (d : Nat) : Except Nat (List Tok) → Except Nat (List Tok)
  | .ok ts => .ok (ts.map fun x => ⟨x.kind, x.text, x.at_ + d⟩)
  | .error e => .error (e + d)

theorem lexAt_shift (d : Nat) : ∀ (m p : Nat) (l : List UInt8), l.length ≤ m → lexAt (p + d) l = shift d (lexAt p l)
  | 0, p, l, hm => by
    rw [List.eq_nil_of_length_eq_zero (Nat.le_zero.1 hm), lexAt_nil, lexAt_nil]; rfl
  | m + 1, p, l, hm => by
    by_cases h0 : l = []
    · subst h0; rw [lexAt_nil, lexAt_nil]; rfl
    · cases h1 : one l with
      | none => rw [lexAt_bad h0 h1, lexAt_bad h0 h1]; rfl
      | some y =>
        obtain ⟨k, t, n⟩ := y
        have hpos := one_pos h1
        have hl : 0 < l.length := List.length_pos_iff.2 h0
        have ih := lexAt_shift d m (p + n + gap false (l.drop n)) ((l.drop n).drop (gap false (l.drop n))) (by simp only [List.length_drop]; omega)
        rw [lexAt_one h1, lexAt_one h1, show p + d + n + gap false (l.drop n) = p + n + gap false (l.drop n) + d by omega, ih]
        cases lexAt (p + n + gap false (l.drop n)) ((l.drop n).drop (gap false (l.drop n))) <;> rfl

/-! What stands behind all words. -/

def tailB : List UInt8 := [10, 13, 32, 45, 45, 32, 101, 110, 100]

theorem gap_tail : ∀ (l : List UInt8) (c : Bool), (gap c l < l.length ∧ gap c (l ++ tailB) = gap c l) ∨ (gap c l = l.length ∧ gap c (l ++ tailB) = (l ++ tailB).length)
  | [], c => by cases c <;> exact .inr ⟨rfl, by decide⟩
  | b :: r, true => by
    rw [List.cons_append, gap, gap]
    rcases gap_tail r (b.toNat != 10) with ⟨h1, h2⟩ | ⟨h1, h2⟩
    · left; rw [h2]; exact ⟨by simp only [List.length_cons]; omega, rfl⟩
    · right; rw [h1, h2]; exact ⟨by simp only [List.length_cons]; omega, by simp only [List.length_cons]; omega⟩
  | b :: r, false => by
    rw [List.cons_append, gap, gap]
    by_cases hb : blankB b = true
    · rw [if_pos hb, if_pos hb]
      rcases gap_tail r false with ⟨h1, h2⟩ | ⟨h1, h2⟩
      · left; rw [h2]; exact ⟨by simp only [List.length_cons]; omega, rfl⟩
      · right; rw [h1, h2]; exact ⟨by simp only [List.length_cons]; omega, by simp only [List.length_cons]; omega⟩
    · rw [if_neg hb, if_neg hb]
      have e : (((r ++ tailB).head?.map (·.toNat)) == some 45) = ((r.head?.map (·.toNat)) == some 45) := by
        cases r with
        | nil => rfl
        | cons c r => rfl
      rw [e]
      split
      · rcases gap_tail r true with ⟨h1, h2⟩ | ⟨h1, h2⟩
        · left; rw [h2]; exact ⟨by simp only [List.length_cons]; omega, rfl⟩
        · right; rw [h1, h2]; exact ⟨by simp only [List.length_cons]; omega, by simp only [List.length_cons]; omega⟩
      · left; exact ⟨by simp only [List.length_cons]; omega, rfl⟩

theorem runL_tail (l : List UInt8) : runL (l ++ tailB) = runL l := by
  induction l with
  | nil => rfl
  | cons b r ih =>
    unfold runL at ih ⊢
    rw [List.cons_append, List.takeWhile_cons, List.takeWhile_cons, ih]

theorem quoted_tail (q : UInt8) (hq : q = 34 ∨ q = 39) : ∀ (m : Nat) (l : List UInt8), l.length ≤ m → quoted q (l ++ tailB) = quoted q l
  | _, [], _ => by rcases hq with rfl | rfl <;> rfl
  | _, [b], _ => by
    have e : quoted q ([b] ++ tailB) = if b = q then some ([], 1) else (quoted q tailB).map fun x => (b :: x.1, 1 + x.2) := by
      show quoted q (b :: 10 :: _) = _
      rw [quoted]
      have : ¬ (10 : UInt8) = q := by rcases hq with rfl | rfl <;> decide
      rw [if_neg this]
      rfl
    rw [e, quoted]
    have h0 : quoted q tailB = none := by rcases hq with rfl | rfl <;> rfl
    rw [h0]
    rfl
  | 0, b :: c :: r, h => by simp at h
  | m + 1, b :: c :: r, h => by
    have h' : r.length + 1 ≤ m := by simpa using h
    rw [List.cons_append, List.cons_append, quoted, quoted, quoted_tail q hq m r (by omega)]
    have := quoted_tail q hq m (c :: r) (by simpa using h')
    rw [List.cons_append] at this
    rw [this]

theorem signN_tail (b : UInt8) (r : List UInt8) : signN (b :: r ++ tailB) = signN (b :: r) := by
  cases r with
  | nil =>
    show signN (b :: 10 :: _) = _
    rw [signN, signN, if_neg (by simp [two_not (b := b) (c := 10) (.inr (.inl rfl))])]
  | cons c r => rfl

theorem signN_le (b : UInt8) (r : List UInt8) : signN (b :: r) ≤ (b :: r).length := by
  cases r with
  | nil => rw [signN]; split <;> simp
  | cons c r =>
    rw [signN]
    split
    · simp only [List.length_cons]; omega
    · split <;> simp

theorem one_tail {l : List UInt8} (h : l ≠ []) : one (l ++ tailB) = one l := by
  cases l with
  | nil => exact absurd rfl h
  | cons b r =>
    have e := runL_tail (b :: r)
    have s := signN_tail b r
    have sl := signN_le b r
    rw [List.cons_append] at e s ⊢
    rw [one, one, runN, runN, e, quoted_tail 34 (.inl rfl) _ r (Nat.le_refl _), quoted_tail 39 (.inr rfl) _ r (Nat.le_refl _), s]
    rw [← List.cons_append, List.take_append_of_le_length sl]

theorem quoted_len {q : UInt8} : ∀ (m : Nat) (l : List UInt8) (x : List UInt8 × Nat), l.length ≤ m → quoted q l = some x → x.2 ≤ l.length ∧ 1 ≤ x.2 ∧ x.1.length + 1 ≤ x.2
  | _, [], x, _, h => by rw [quoted] at h; cases h
  | _, [b], x, _, h => by
    rw [quoted] at h
    split at h
    · cases h; simp
    · cases h
  | 0, b :: c :: r, x, hm, _ => by simp at hm
  | m + 1, b :: c :: r, x, hm, h => by
    have h' : r.length + 1 ≤ m := by simpa using hm
    rw [quoted] at h
    split at h
    · split at h
      · cases hq : quoted q r with
        | none => rw [hq] at h; cases h
        | some y =>
          rw [hq] at h
          cases h
          have := quoted_len m r y (by omega) hq
          simp only [List.length_cons]
          omega
      · cases h; simp
    · cases hq : quoted q (c :: r) with
      | none => rw [hq] at h; cases h
      | some y =>
        rw [hq] at h
        cases h
        have := quoted_len m (c :: r) y (by simpa using h') hq
        simp only [List.length_cons] at this ⊢
        omega

theorem runN_le (l : List UInt8) : runN l ≤ l.length := by
  unfold runN runL
  exact (List.takeWhile_sublist _).length_le

theorem one_le {l : List UInt8} {k : Nat} {t : List UInt8} {n : Nat} (h : one l = some (k, t, n)) : n ≤ l.length ∧ t.length ≤ n := by
  cases l with
  | nil => simp [one] at h
  | cons b r =>
    rw [one] at h
    split at h
    · simp only [Option.some.injEq, Prod.mk.injEq] at h
      obtain ⟨_, rfl, rfl⟩ := h
      exact ⟨runN_le _, by simp [runN]⟩
    · split at h
      · split at h
        · simp only [Option.some.injEq, Prod.mk.injEq] at h
          obtain ⟨_, rfl, rfl⟩ := h
          exact ⟨runN_le _, by simp [runN]⟩
        · cases h
      · split at h
        · cases hq : quoted 34 r with
          | none => rw [hq] at h; cases h
          | some x =>
            have := quoted_len _ r x (Nat.le_refl _) hq
            rw [hq, Option.bind_some] at h
            split at h
            · simp only [Option.some.injEq, Prod.mk.injEq] at h
              obtain ⟨_, rfl, rfl⟩ := h
              simp only [List.length_cons]; omega
            · cases h
        · split at h
          · cases hq : quoted 39 r with
            | none => rw [hq] at h; cases h
            | some x =>
              have := quoted_len _ r x (Nat.le_refl _) hq
              rw [hq, Option.bind_some] at h
              split at h
              · simp only [Option.some.injEq, Prod.mk.injEq] at h
                obtain ⟨_, rfl, rfl⟩ := h
                simp only [List.length_cons]; omega
              · cases h
          · split at h
            · cases h
            · simp only [Option.some.injEq, Prod.mk.injEq] at h
              obtain ⟨_, rfl, rfl⟩ := h
              have := signN_le b r
              exact ⟨this, by rw [List.length_take]; omega⟩

theorem lexAt_tail : ∀ (m p : Nat) (l : List UInt8), l.length ≤ m → lexAt (p + gap false (l ++ tailB)) ((l ++ tailB).drop (gap false (l ++ tailB))) = lexAt (p + gap false l) (l.drop (gap false l)) := by
  intro m
  induction m with
  | zero =>
    intro p l hm
    rw [List.eq_nil_of_length_eq_zero (Nat.le_zero.1 hm)]
    rw [show gap false ([] ++ tailB) = ([] ++ tailB).length from by decide, List.drop_length, lexAt_nil]
    rw [show gap false [] = 0 from rfl, List.drop_nil, lexAt_nil]
  | succ m ih =>
    intro p l hm
    rcases gap_tail l false with ⟨h1, h2⟩ | ⟨h1, h2⟩
    · rw [h2, List.drop_append_of_le_length (by omega)]
      have h0 : l.drop (gap false l) ≠ [] := by
        intro e
        have := congrArg List.length e
        simp at this
        omega
      cases h3 : one (l.drop (gap false l)) with
      | none => rw [lexAt_bad h0 h3, lexAt_bad (by simp [h0]) (by rw [one_tail h0]; exact h3)]
      | some y =>
        obtain ⟨k, t, n⟩ := y
        have hpos := one_pos h3
        obtain ⟨hle, _⟩ := one_le h3
        rw [lexAt_one h3, lexAt_one (by rw [one_tail h0]; exact h3), List.drop_append_of_le_length hle]
        rw [ih (p + gap false l + n) ((l.drop (gap false l)).drop n) (by simp only [List.length_drop] at hle ⊢; omega)]
    · rw [h1, h2, List.drop_length, List.drop_length, lexAt_nil, lexAt_nil]

def headB : List UInt8 := [45, 45, 32, 115, 97, 105, 100, 32, 39, 120, 10, 32, 9]

theorem gap_head (l : List UInt8) : gap false (headB ++ l) = 13 + gap false l := by
  simp [headB, gap, blankB]
  omega

theorem lexB_gaps {l : List UInt8} (h : l.length ≤ 19960) : lexB (headB ++ l ++ tailB) = shift 13 (lexB l) := by
  unfold lexB
  rw [if_neg (by simp [headB, tailB]; omega), if_neg (by omega), List.append_assoc, gap_head]
  rw [show (13 + gap false (l ++ tailB)) = headB.length + gap false (l ++ tailB) from rfl, List.drop_append, List.drop_of_length_le (by simp), List.nil_append, Nat.add_sub_cancel_left, lexAt_tail _ _ l (Nat.le_refl _)]
  rw [Nat.add_comm, show headB.length = 13 from rfl]
  exact lexAt_shift 13 _ _ _ (Nat.le_refl _)

end Go.Proofs.YtgnillmhpockkaaGreatDoor

namespace Go.Proofs.YtgnillmhpockkaaGreatDoor
open Go.RowKit

/-- What a note leaves. -/
def Noted (w : World) (g : Nat) (s : ByteArray) (k : Nat) (e : Ending) (w' : World) : Prop :=
  e = .returned (.tuple #[]) ∧ ∃ m, k ≤ m ∧ m ≤ s.size ∧ Hid (gap true (s.data.toList.drop k) = (m - k) + gap false (s.data.toList.drop m)) ∧ (s.size = m ∨ ∃ h : m < s.size, s[m].toNat = 10) ∧ Moved w g s m w'

set_option maxHeartbeats 2000000 in
theorem implComment {w : World} {g : Nat} {s : ByteArray} {k : Nat} (h : LexS w g s k) (hs : s.size ≤ 1048576) (hk : k ≤ s.size) :
    Calls Tryz.prog 72 #[.pointer (some ⟨g, 0, none⟩)] w (Noted w g s k) := by
  have HM := Lib.hid (Moved.refl h)
  clear h
  go_enter Tryz.func72, Tryz.ntmps72
  go_wp2_with fail
  go_loopg [] (s.size - k) (fun gk wr => ∃ m : Nat, gk = s.size - m ∧ k ≤ m ∧ m ≤ s.size ∧ Hid (gap true (s.data.toList.drop k) = (m - k) + gap true (s.data.toList.drop m)) ∧ Moved w g s m wr)
  case atStart => exact ⟨k, rfl, Nat.le_refl _, hk, by unfold Hid; omega, HM.out⟩
  case round =>
    obtain ⟨m, rfl, hkm, hm, hgap, hmv⟩ := hrel
    have c0 := hmv.1.c0
    have c1 := hmv.1.c1
    have f1 := hmv.1.f1
    have h0m : (0 : Int) ≤ (m : Int) := by omega
    by_cases hlt : m < s.size
    · have hby := byte_le s[m]
      have hlt' : (m : Int) < (s.size : Int) := by omega
      have hmore : decide (m < s.size) = true := by simpa using hlt
      have HMO := Lib.hid hmore
      have HMV := Lib.hid hmv
      clear hmore hmv
      by_cases h10 : s[m].toNat = 10
      · have T := bneF (b := s[m]) (n := 10) (by omega)
        have HO := Lib.hid (gap_out_at s m hlt h10)
        have H10 := Lib.hid h10
        clear h10
        go_wp2_with fail
        go_quiet ((go_at_call 44; exact Calls.quiet_of (implMore (HMV.out.1.drewN _) hs (by omega) true HMO.out)))
        go_wp2_with fail
        go_end0
        exact ⟨rfl, m, hkm, hm, by unfold Hid; rw [hgap.out, HO.out], .inr ⟨hlt, H10.out⟩, HMV.out.drewN _⟩
      · have T := bneT (b := s[m]) (n := 10) (by omega)
        have HI := Lib.hid (gap_in_at s m hlt h10)
        clear h10
        go_wp2_with fail
        go_quiet ((go_at_call 44; exact Calls.quiet_of (implMore (HMV.out.1.drewN _) hs (by omega) true HMO.out)))
        go_wp2_with fail
        go_roundg (s.size - (m + 1))
        case measure => omega
        case rel => exact ⟨m + 1, rfl, by omega, by omega, by unfold Hid; rw [hgap.out, HI.out]; omega, (HMV.out.drewN _).set (m + 1) (by simp)⟩
    · have hmore : decide (m < s.size) = false := by simpa using hlt
      have HMO := Lib.hid hmore
      have HMV := Lib.hid hmv
      clear hmore hmv
      go_wp2_with fail
      go_quiet ((go_at_call 44; exact Calls.quiet_of (implMore (HMV.out.1.drewN _) hs (by omega) false HMO.out)))
      go_wp2_with fail
      go_end0
      have hme : m = s.size := by omega
      refine ⟨rfl, m, hkm, hm, ?_, .inl (by omega), HMV.out.drewN _⟩
      unfold Hid
      rw [hgap.out, hme, gap_end_at, gap_end_at]

theorem hasTwo (s : ByteArray) (k : Nat) (hk : k < s.size) : Lib.hasPrefix (s.data.toList.drop k) [45, 45] = (decide (s[k].toNat = 45) && (if h : k + 1 < s.size then decide (s[k + 1].toNat = 45) else false)) := by
  have e : ∀ b : UInt8, ((45 : UInt8) == b) = decide (b.toNat = 45) := fun b => by
    rw [Bool.eq_iff_iff]
    simp only [beq_iff_eq, decide_eq_true_eq]
    exact ⟨fun h => by rw [← h]; rfl, fun h => UInt8.toNat_inj.1 h.symm⟩
  unfold Lib.hasPrefix
  rw [drop_at s k hk, List.isPrefixOf_cons_cons, e]
  congr 1
  split
  · rename_i h1
    rw [drop_at s (k + 1) h1, List.isPrefixOf_cons_cons, e]
    simp
  · rename_i h1
    rw [List.drop_of_length_le (by simp; omega)]
    rfl

theorem hereBlank (s : ByteArray) (k : Nat) (hk : k < s.size) (hb : blankB s[k] = true) : clB s[k] = 1 := by unfold clB; rw [if_pos hb]
theorem hereNot (b : UInt8) (hb : blankB b = false) : ((clB b) == 1) = false := by
  have h : ((List.range 256).all fun n => blankB (UInt8.ofNat n) || !(clB (UInt8.ofNat n) == 1)) = true := by kernel_rfl
  have := byteAll (p := fun b => blankB b || !(clB b == 1)) h b
  rw [hb] at this
  simpa using this

set_option maxHeartbeats 2000000 in
theorem implSkip {w : World} {g : Nat} {s : ByteArray} {k : Nat} (h : LexS w g s k) (hs : s.size ≤ 1048576) (hk : k ≤ s.size) :
    Calls Tryz.prog 43 #[.pointer (some ⟨g, 0, none⟩)] w fun e w' => e = .returned (.tuple #[]) ∧ Moved w g s (k + gap false (s.data.toList.drop k)) w' := by
  have HM := Lib.hid (Moved.refl h)
  clear h
  go_enter Tryz.func43, Tryz.ntmps43
  go_wp2_with fail
  go_loopg [] (s.size - k) (fun gk wr => ∃ m : Nat, gk = s.size - m ∧ k ≤ m ∧ m ≤ s.size ∧ Hid (gap false (s.data.toList.drop k) = (m - k) + gap false (s.data.toList.drop m)) ∧ Moved w g s m wr)
  case atStart => exact ⟨k, rfl, Nat.le_refl _, hk, by unfold Hid; omega, HM.out⟩
  case round =>
    obtain ⟨m, rfl, hkm, hm, hgap, hmv⟩ := hrel
    have HMV := Lib.hid hmv
    have hltg := hmv.1.lt
    clear hmv
    by_cases hlt : m < s.size
    · have hby := byte_le s[m]
      have HMO : Hid (decide (m < s.size) = true) := decide_eq_true hlt
      go_wp2_with fail
      refine (implMore HMV.out.1 hs (by omega) true HMO.out).mono ?_
      rintro e w1 ⟨rfl, n1, hw1⟩
      have mv1 : Moved w g s m w1 := hw1 ▸ HMV.out.drewN n1
      clear hw1
      go_wp2_with fail
      refine (implHere mv1.1 hs hlt _ rfl).mono ?_
      rintro e w2 ⟨rfl, n2, hw2⟩
      have mv2 : Moved w g s m w2 := hw2 ▸ mv1.drewN n2
      clear hw2 mv1
      have c1 := mv2.1.c1
      have f1 := mv2.1.f1
      have HMV2 := Lib.hid mv2
      clear mv2
      cases hb : blankB s[m] with
      | true =>
        have HG := Lib.hid (gap_blank_at s m hlt hb)
        have T : (clB s[m] == 1) = true := by rw [hereBlank s m hlt hb]; rfl
        clear hb
        generalize clB s[m] = cl at T
        go_wp2_with fail
        go_roundg (s.size - (m + 1))
        case measure => omega
        case rel => exact ⟨m + 1, rfl, by omega, by omega, by unfold Hid; rw [hgap.out, HG.out]; omega, HMV2.out.set (m + 1) (by simp)⟩
      | false =>
        have T := hereNot s[m] hb
        have HB := Lib.hid hb
        clear hb
        generalize clB s[m] = cl at T
        have hpre := hasTwo s m hlt
        by_cases h2 : s[m].toNat = 45 ∧ ∃ h1 : m + 1 < s.size, s[m + 1].toNat = 45
        · obtain ⟨h45, h1, h46⟩ := h2
          have HN := Lib.hid (gap_note_at s m hlt h45 h1 h46)
          have HP : Hid (Lib.hasPrefix (s.data.toList.drop m) [45, 45] = true) := by
            unfold Hid; rw [hpre, dif_pos h1]; simp [h45, h46]
          have h10 : s[m].toNat ≠ 10 := by omega
          have H10 := Lib.hid h10
          clear hpre h45 h46 h10
          go_wp2_with fail
          refine (implBegins HMV2.out.1 ⟨#[45, 45]⟩ hs (by omega) true HP.out).mono ?_
          rintro e w3 ⟨rfl, n3, hw3⟩
          have mv3 : Moved w g s m w3 := hw3 ▸ HMV2.out.drewN n3
          clear hw3
          go_wp2_with fail
          refine (implComment mv3.1 hs (by omega)).mono ?_
          rintro e w4 ⟨rfl, p, hmp, hps, hgp, hend, hmv4⟩
          have hlt4 : m < p := by
            rcases Nat.lt_or_ge m p with h | h
            · exact h
            · have hpm : p = m := by omega
              subst hpm
              rcases hend with h | ⟨_, h⟩
              · omega
              · exact absurd h H10.out
          have HEND := Lib.hid hend
          clear hend
          go_wp2_with fail
          go_roundg (s.size - p)
          case measure => omega
          case rel => exact ⟨p, rfl, by omega, hps, by unfold Hid; rw [hgap.out, HN.out, hgp.out]; omega, mv3.trans hmv4⟩
        · have HS : Hid (gap false (s.data.toList.drop m) = 0) := by
            refine gap_stop_at s m hlt HB.out ?_
            by_cases h45 : s[m].toNat = 45
            · right
              by_cases h1 : m + 1 < s.size
              · right; exact ⟨h1, fun h => h2 ⟨h45, h1, h⟩⟩
              · left; omega
            · exact .inl h45
          have HP : Hid (Lib.hasPrefix (s.data.toList.drop m) [45, 45] = false) := by
            unfold Hid
            rw [hpre, Bool.and_eq_false_iff]
            by_cases h45 : s[m].toNat = 45
            · right
              split
              · rename_i h1; simp only [decide_eq_false_iff_not]; exact fun h => h2 ⟨h45, h1, h⟩
              · rfl
            · left; simpa using h45
          clear hpre h2
          go_wp2_with fail
          refine (implBegins HMV2.out.1 ⟨#[45, 45]⟩ hs (by omega) false HP.out).mono ?_
          rintro e w3 ⟨rfl, n3, hw3⟩
          have mv3 : Moved w g s m w3 := hw3 ▸ HMV2.out.drewN n3
          clear hw3
          go_wp2_with fail
          refine bodyPost_ret (results_none rfl _ _ _) rfl ⟨rfl, ?_⟩
          rw [hgap.out, HS.out, show k + (m - k + 0) = m by omega]
          exact mv3
    · have HMO : Hid (decide (m < s.size) = false) := decide_eq_false hlt
      go_wp2_with fail
      refine (implMore HMV.out.1 hs (by omega) false HMO.out).mono ?_
      rintro e w1 ⟨rfl, n1, rfl⟩
      go_wp2_with fail
      go_end0
      have hme : m = s.size := by omega
      refine ⟨rfl, ?_⟩
      have hz : gap false (s.data.toList.drop m) = 0 := by rw [hme]; exact gap_end_at s false
      rw [hgap.out, hz, show k + (m - k + 0) = m by omega]
      exact HMV.out.drewN n1

end Go.Proofs.YtgnillmhpockkaaGreatDoor
