/- The program's lexer: one word. -/
/- The program's lexer is laid. -/
/- The program's words of a text. -/
/- Words mean the same in great letters: plain mathematics. -/
/- What the laws over Lex take from the tables that their rows list. -/
/- A text has no more words than bytes. -/
import Derived.Test.YtjjdcdnaonfnmaaGreatDoorMLexImpl7
import Derived.Test.YtjjdcdnaonfnmaaGreatDoorMExprR
import Derived.Test.YtjjdcdnaonfnmaaGreatDoorMLexQ
import Derived.Test.YtjjdcdnaonfnmaaGreatDoorCards
import Derived.Test.YtjjdcdnaonfnmaaGreatDoorTie
import Derived.ProofKit
import Derived.OpenShut
import Derived.ShutString
import Derived.ChangeOld
import Derived.Below
import Derived.LaidMore
import Derived.Lay
import Derived.Lib.LaidTab
import Derived.Stop.LaidErr
import Derived.SevenTiedAt
import Derived.Stop.Joined
namespace Go.Proofs.YtjjdcdnaonfnmaaGreatDoor
open Go.RowKit

def TokAns (w : World) (g : Nat) (s : ByteArray) (k : Nat) (e : Ending) (w' : World) : Prop :=
  (∃ x, one (s.data.toList.drop k) = some x ∧ e = .returned (.tuple #[.int .i64 (x.1 : Int), .string ⟨x.2.1.toArray⟩, .bool true]) ∧ Moved w g s (k + x.2.2) w') ∨
  (one (s.data.toList.drop k) = none ∧ ∃ (a : Int) (t : ByteArray) (m : Nat), e = .returned (.tuple #[.int .i64 a, .string t, .bool false]) ∧ Moved w g s m w')

theorem cl2 : ((List.range 256).all fun n => !letterB (UInt8.ofNat n) || clB (UInt8.ofNat n) == 2) = true := by kernel_rfl
theorem cl3 : ((List.range 256).all fun n => !digitB (UInt8.ofNat n) || clB (UInt8.ofNat n) == 3) = true := by kernel_rfl
theorem cl4 : ((List.range 256).all fun n => !((UInt8.ofNat n).toNat == 34) || clB (UInt8.ofNat n) == 4) = true := by kernel_rfl
theorem cl5 : ((List.range 256).all fun n => !((UInt8.ofNat n).toNat == 39) || clB (UInt8.ofNat n) == 5) = true := by kernel_rfl
theorem cl6 : ((List.range 256).all fun n => !signB (UInt8.ofNat n) || clB (UInt8.ofNat n) == 6) = true := by kernel_rfl
theorem cl0 : ((List.range 256).all fun n => letterB (UInt8.ofNat n) || digitB (UInt8.ofNat n) || (UInt8.ofNat n).toNat == 34 || (UInt8.ofNat n).toNat == 39 || signB (UInt8.ofNat n) || clB (UInt8.ofNat n) == 0 || clB (UInt8.ofNat n) == 1) = true := by kernel_rfl
theorem clLetter {b : UInt8} (h : letterB b = true) : clB b = 2 := by
  have := byteAll (p := fun b => !letterB b || clB b == 2) cl2 b
  rw [h] at this; simpa using this
theorem clDigit {b : UInt8} (h : digitB b = true) : clB b = 3 := by
  have := byteAll (p := fun b => !digitB b || clB b == 3) cl3 b
  rw [h] at this; simpa using this
theorem clName {b : UInt8} (h : b.toNat = 34) : clB b = 4 := by
  have := byteAll (p := fun b => !(b.toNat == 34) || clB b == 4) cl4 b
  rw [h] at this; simpa using this
theorem clText {b : UInt8} (h : b.toNat = 39) : clB b = 5 := by
  have := byteAll (p := fun b => !(b.toNat == 39) || clB b == 5) cl5 b
  rw [h] at this; simpa using this
theorem clSign {b : UInt8} (h : signB b = true) : clB b = 6 := by
  have := byteAll (p := fun b => !signB b || clB b == 6) cl6 b
  rw [h] at this; simpa using this
theorem clOther {b : UInt8} (h1 : letterB b = false) (h2 : digitB b = false) (h3 : b.toNat ≠ 34) (h4 : b.toNat ≠ 39) (h5 : signB b = false) : clB b = 0 ∨ clB b = 1 := by
  have := byteAll (p := fun b => letterB b || digitB b || b.toNat == 34 || b.toNat == 39 || signB b || clB b == 0 || clB b == 1) cl0 b
  rw [h1, h2, h5] at this
  have e3 : (b.toNat == 34) = false := by simpa using h3
  have e4 : (b.toNat == 39) = false := by simpa using h4
  rw [e3, e4] at this
  simpa using this

theorem lower_eq (b : UInt8) : Lib.lowerB b = lowB b := by
  have h : ((List.range 256).all fun n => Lib.lowerB (UInt8.ofNat n) == lowB (UInt8.ofNat n)) = true := by kernel_rfl
  simpa using byteAll (p := fun b => Lib.lowerB b == lowB b) h b
theorem more_ascii (b : UInt8) (h : moreB b = true) : b.toNat < 128 := by
  simp only [moreB, letterB, digitB, Bool.or_eq_true, Bool.and_eq_true, decide_eq_true_eq, beq_iff_eq] at h
  omega

theorem run_size (s : ByteArray) (k : Nat) (hk : k ≤ s.size) : k + runN (s.data.toList.drop k) ≤ s.size := by
  have h := runN_le (s.data.toList.drop k)
  rw [List.length_drop] at h
  have : s.data.toList.length = s.size := by simp
  omega

set_option maxHeartbeats 2000000 in
theorem implTokWord {w : World} {g : Nat} {s : ByteArray} {k : Nat} (h : LexS w g s k) (hs : s.size ≤ 1048576) (hk : k < s.size) (hl : letterB s[k] = true) :
    Calls Tryz.prog 25 #[.pointer (some ⟨g, 0, none⟩)] w (TokAns w g s k) := by
  have HC := Lib.hid (clLetter hl)
  have hrun := run_size s k (by omega)
  have HONE := Lib.hid (one_word s k hk hl rfl)
  have HX := Lib.hid (run_extract s k _ rfl)
  have HM := Lib.hid (Moved.refl h)
  generalize hn : runN (s.data.toList.drop k) = n at *
  have HN := Lib.hid hn
  have hsz : (s.extract k (k + n)).size ≤ 1048576 := by simp; omega
  have HA : Hid (∀ (j : Nat) (b : UInt8), (s.extract k (k + n)).data.toList[j]? = some b → b.toNat < 128) := fun j b hb => by
    rw [HX.out] at hb
    refine more_ascii b (runL_all _ b (List.mem_of_getElem? hb))
  have HLW : Hid (∀ W, Calls Tryz.prog 48 #[.string (s.extract k (k + n))] W fun e w' => e = .returned (.string ⟨((runL (s.data.toList.drop k)).map lowB).toArray⟩) ∧ Below W.heap.size W w') := fun W => by
    have hc := Tryz.strings_ToLower_ascii (s.extract k (k + n)) W (by omega) HA.out
    have e : Lib.toLowerA (s.extract k (k + n)).data.toList = (runL (s.data.toList.drop k)).map lowB := by
      rw [HX.out]
      unfold Lib.toLowerA
      exact List.map_congr_left fun b _ => lower_eq b
    rw [e] at hc
    exact hc
  clear hl h hn
  go_enter Tryz.func25, Tryz.ntmps25
  go_wp2_with fail
  refine (implHere HM.out.1 hs hk 2 HC.out).mono ?_
  rintro e w1 ⟨rfl, n1, hw1⟩
  have mv1 : Moved w g s k w1 := hw1 ▸ HM.out.drewN n1
  clear hw1
  go_wp2_with fail
  refine (implRun mv1.1 hs (by omega)).mono ?_
  rw [HN.out]
  rintro e w2 ⟨rfl, mv2⟩
  go_wp2_with fail
  refine (HLW.out w2).mono ?_
  rintro e w3 ⟨rfl, hb3⟩
  go_wp2_with fail
  go_ret3
  exact .inl ⟨_, HONE.out, rfl, (mv1.trans mv2).of_below hb3⟩

set_option maxHeartbeats 2000000 in
theorem implTokNum {w : World} {g : Nat} {s : ByteArray} {k : Nat} (h : LexS w g s k) (tp : TypeId) (p : Value) (hG : Glob tp p w) (hg : 6 ≤ g) (hs : s.size ≤ 1048576) (hk : k < s.size) (hl : letterB s[k] = false) (hd : digitB s[k] = true) :
    Calls Tryz.prog 25 #[.pointer (some ⟨g, 0, none⟩)] w (TokAns w g s k) := by
  have HC := Lib.hid (clDigit hd)
  have hrun := run_size s k (by omega)
  have hone := one_num s k hk hl hd rfl
  have HX := Lib.hid (run_extract s k _ rfl)
  have HM := Lib.hid (Moved.refl h)
  have HONE := Lib.hid hone
  have HG := Lib.hid hG
  have hlt := h.lt
  generalize hn : runN (s.data.toList.drop k) = n at *
  have HN := Lib.hid hn
  have hsz : (s.extract k (k + n)).size ≤ 1048576 := by simp; omega
  clear hl h hn hone hd hG
  go_enter Tryz.func25, Tryz.ntmps25
  go_wp2_with fail
  refine (implHere HM.out.1 hs hk 3 HC.out).mono ?_
  rintro e w1 ⟨rfl, n1, hw1⟩
  have mv1 : Moved w g s k w1 := hw1 ▸ HM.out.drewN n1
  clear hw1
  go_wp2_with fail
  refine (implRun mv1.1 hs (by omega)).mono ?_
  rw [HN.out]
  rintro e w2 ⟨rfl, mv2⟩
  have mv12 := mv1.trans mv2
  have hG2 : Glob tp p w2 := HG.out.below (mv12.belowG hlt) hg
  have HG2 := Lib.hid hG2
  clear hG2
  go_wp2_with fail
  refine (implReadDec (s.extract k (k + n)) w2 HG2.out.1 tp p HG2.out.2).mono ?_
  rw [HX.out]
  rintro e w3 ⟨rfl, hb3⟩
  have mv3 := mv12.of_below hb3
  by_cases hr : 0 ≤ readD (runL (s.data.toList.drop k))
  · have ht : decide (0 ≤ readD (runL (s.data.toList.drop k))) = true := by simpa using hr
    have HO := Lib.hid (HONE.out.trans (if_pos hr))
    have HE : Hid (s.extract k (k + n) = ⟨(runL (s.data.toList.drop k)).toArray⟩) := by unfold Hid; rw [extract_arr, runL_takeN, HN.out]
    go_wp2_with fail
    go_ret3
    exact .inl ⟨_, HO.out, by rw [← HE.out]; rfl, mv3⟩
  · have ht : decide (0 ≤ readD (runL (s.data.toList.drop k))) = false := by simpa using hr
    have HO := Lib.hid (HONE.out.trans (if_neg hr))
    go_wp2_with fail
    go_ret3
    exact .inr ⟨HO.out, _, _, _, rfl, mv3⟩

set_option maxHeartbeats 2000000 in
theorem implTokName {w : World} {g : Nat} {s : ByteArray} {k : Nat} (h : LexS w g s k) (hs : s.size ≤ 1048576) (hk : k < s.size) (hq : s[k].toNat = 34) :
    Calls Tryz.prog 25 #[.pointer (some ⟨g, 0, none⟩)] w (TokAns w g s k) := by
  have HC := Lib.hid (clName hq)
  have HONE := Lib.hid (one_name s k hk hq)
  have hy : s[k] = 34 := UInt8.toNat_inj.1 hq
  have HY := Lib.hid hy
  have HM := Lib.hid (Moved.refl h)
  clear hq h hy
  go_enter Tryz.func25, Tryz.ntmps25
  go_wp2_with fail
  refine (implHere HM.out.1 hs hk 4 HC.out).mono ?_
  rintro e w1 ⟨rfl, n1, hw1⟩
  have mv1 : Moved w g s k w1 := hw1 ▸ HM.out.drewN n1
  clear hw1
  go_wp2_with fail
  refine (implQuoted mv1.1 34 hs hk).mono ?_
  rintro e w2 (⟨x, hqx, rfl, mv2⟩ | ⟨hqx, rfl, mv2⟩)
  · have hone : one (s.data.toList.drop k) = if nameB x.1 then some (1, x.1, 1 + x.2) else none := by rw [HONE.out, HY.out, hqx, Option.bind_some]
    cases hn : nameB x.1 with
    | true =>
      have HO := Lib.hid (hone.trans (if_pos hn))
      have HN := Lib.hid hn
      clear hn hone hqx
      go_wp2_with fail
      refine (implNameFits ⟨x.1.toArray⟩ _ true HN.out).mono ?_
      rintro e w3 ⟨rfl, rfl⟩
      go_wp2_with fail
      go_ret3
      exact .inl ⟨_, HO.out, rfl, by have := mv1.trans mv2; rwa [Nat.add_assoc] at this⟩
    | false =>
      have HO := Lib.hid (hone.trans (if_neg (by simp [hn])))
      have HN := Lib.hid hn
      clear hn hone hqx
      go_wp2_with fail
      refine (implNameFits ⟨x.1.toArray⟩ _ false HN.out).mono ?_
      rintro e w3 ⟨rfl, rfl⟩
      go_wp2_with fail
      go_ret3
      exact .inr ⟨HO.out, _, _, _, rfl, mv1.trans mv2⟩
  · have HO : Hid (one (s.data.toList.drop k) = none) := by unfold Hid; rw [HONE.out, HY.out, hqx]; rfl
    clear hqx
    go_wp2_with fail
    go_ret3
    exact .inr ⟨HO.out, _, _, _, rfl, mv1.trans mv2⟩

set_option maxHeartbeats 2000000 in
theorem implTokText {w : World} {g : Nat} {s : ByteArray} {k : Nat} (h : LexS w g s k) (hs : s.size ≤ 1048576) (hk : k < s.size) (hq : s[k].toNat = 39) :
    Calls Tryz.prog 25 #[.pointer (some ⟨g, 0, none⟩)] w (TokAns w g s k) := by
  have HC := Lib.hid (clText hq)
  have HONE := Lib.hid (one_text s k hk hq)
  have hy : s[k] = 39 := UInt8.toNat_inj.1 hq
  have HY := Lib.hid hy
  have HM := Lib.hid (Moved.refl h)
  clear hq h hy
  go_enter Tryz.func25, Tryz.ntmps25
  go_wp2_with fail
  refine (implHere HM.out.1 hs hk 5 HC.out).mono ?_
  rintro e w1 ⟨rfl, n1, hw1⟩
  have mv1 : Moved w g s k w1 := hw1 ▸ HM.out.drewN n1
  clear hw1
  go_wp2_with fail
  refine (implQuoted mv1.1 39 hs hk).mono ?_
  rintro e w2 (⟨x, hqx, rfl, mv2⟩ | ⟨hqx, rfl, mv2⟩)
  · have hone : one (s.data.toList.drop k) = if x.1.length ≤ 100 then some (3, x.1, 1 + x.2) else none := by rw [HONE.out, HY.out, hqx, Option.bind_some]
    have hsx : (⟨x.1.toArray⟩ : ByteArray).size = x.1.length := by simp [ByteArray.size]
    generalize hX : (⟨x.1.toArray⟩ : ByteArray) = X at hsx ⊢
    have HX := Lib.hid hX
    clear hX hqx
    by_cases hn : x.1.length ≤ 100
    · have HO := Lib.hid (hone.trans (if_pos hn))
      have ht : decide ((X.size : Int) ≤ 100) = true := by rw [hsx]; simp; omega
      clear hone hn hsx
      go_wp2_with fail
      go_ret3
      exact .inl ⟨_, HO.out, by rw [HX.out]; rfl, by have := mv1.trans mv2; rwa [Nat.add_assoc] at this⟩
    · have HO := Lib.hid (hone.trans (if_neg hn))
      have ht : decide ((X.size : Int) ≤ 100) = false := by rw [hsx]; simp; omega
      clear hone hn hsx
      go_wp2_with fail
      go_ret3
      exact .inr ⟨HO.out, _, _, _, rfl, mv1.trans mv2⟩
  · have HO : Hid (one (s.data.toList.drop k) = none) := by unfold Hid; rw [HONE.out, HY.out, hqx]; rfl
    clear hqx
    go_wp2_with fail
    go_ret3
    exact .inr ⟨HO.out, _, _, _, rfl, mv1.trans mv2⟩

set_option maxHeartbeats 2000000 in
theorem implTokSign {w : World} {g : Nat} {s : ByteArray} {k : Nat} (h : LexS w g s k) (hs : s.size ≤ 1048576) (hk : k < s.size) (h1 : letterB s[k] = false) (h2 : digitB s[k] = false) (h3 : s[k].toNat ≠ 34) (h4 : s[k].toNat ≠ 39) (h5 : signB s[k] = true) :
    Calls Tryz.prog 25 #[.pointer (some ⟨g, 0, none⟩)] w (TokAns w g s k) := by
  have HC := Lib.hid (clSign h5)
  have hone := one_sign_at s k hk h1 h2 h3 h4
  have hnz : signN (s.data.toList.drop k) ≠ 0 := by
    intro e
    rw [drop_at s k hk] at e
    have hd := drop_at s k hk
    cases hr : s.data.toList.drop (k + 1) with
    | nil => rw [hr, signN, if_pos h5] at e; cases e
    | cons c r =>
      rw [hr, signN] at e
      split at e
      · cases e
      · first | (cases e; done) | (rw [if_pos h5] at e; cases e)
  have HO := Lib.hid (hone.trans (if_neg hnz))
  have H5 := Lib.hid h5
  have HM := Lib.hid (Moved.refl h)
  clear hone hnz h1 h2 h3 h4 h5 h
  go_enter Tryz.func25, Tryz.ntmps25
  go_wp2_with fail
  refine (implHere HM.out.1 hs hk 6 HC.out).mono ?_
  rintro e w1 ⟨rfl, n1, hw1⟩
  have mv1 : Moved w g s k w1 := hw1 ▸ HM.out.drewN n1
  clear hw1
  go_wp2_with fail
  refine (implSign mv1.1 hs hk H5.out).mono ?_
  rintro e w2 ⟨rfl, mv2⟩
  go_wp2_with fail
  go_ret3
  exact .inl ⟨_, HO.out, by rw [← extract_arr]; rfl, mv1.trans mv2⟩

set_option maxHeartbeats 2000000 in
theorem implTokOther {w : World} {g : Nat} {s : ByteArray} {k : Nat} (h : LexS w g s k) (hs : s.size ≤ 1048576) (hk : k < s.size) (h1 : letterB s[k] = false) (h2 : digitB s[k] = false) (h3 : s[k].toNat ≠ 34) (h4 : s[k].toNat ≠ 39) (h5 : signB s[k] = false) :
    Calls Tryz.prog 25 #[.pointer (some ⟨g, 0, none⟩)] w (TokAns w g s k) := by
  have hone := one_sign_at s k hk h1 h2 h3 h4
  have hz : signN (s.data.toList.drop k) = 0 := by
    rw [drop_at s k hk]
    have h2f : ∀ c, twoB s[k] c = false := fun c => by
      cases ht : twoB s[k] c with
      | false => rfl
      | true => have := (two_sign ht).1; rw [h5] at this; cases this
    cases s.data.toList.drop (k + 1) with
    | nil => rw [signN, if_neg (by simp [h5])]
    | cons c r => rw [signN, if_neg (by simp [h2f c]), if_neg (by simp [h5])]
  have HO := Lib.hid (hone.trans (if_pos hz))
  have HM := Lib.hid (Moved.refl h)
  rcases clOther h1 h2 h3 h4 h5 with hc | hc
  · have HC := Lib.hid hc
    clear hone hz h1 h2 h3 h4 h5 h hc
    go_enter Tryz.func25, Tryz.ntmps25
    go_wp2_with fail
    refine (implHere HM.out.1 hs hk 0 HC.out).mono ?_
    rintro e w1 ⟨rfl, n1, rfl⟩
    go_wp2_with fail
    go_ret3
    exact .inr ⟨HO.out, _, _, _, rfl, HM.out.drewN n1⟩
  · have HC := Lib.hid hc
    clear hone hz h1 h2 h3 h4 h5 h hc
    go_enter Tryz.func25, Tryz.ntmps25
    go_wp2_with fail
    refine (implHere HM.out.1 hs hk 1 HC.out).mono ?_
    rintro e w1 ⟨rfl, n1, rfl⟩
    go_wp2_with fail
    go_ret3
    exact .inr ⟨HO.out, _, _, _, rfl, HM.out.drewN n1⟩

theorem implToken {w : World} {g : Nat} {s : ByteArray} {k : Nat} (h : LexS w g s k) (tp : TypeId) (p : Value) (hG : Glob tp p w) (hg : 6 ≤ g) (hs : s.size ≤ 1048576) (hk : k < s.size) :
    Calls Tryz.prog 25 #[.pointer (some ⟨g, 0, none⟩)] w (TokAns w g s k) := by
  cases h1 : letterB s[k] with
  | true => exact implTokWord h hs hk h1
  | false =>
    cases h2 : digitB s[k] with
    | true => exact implTokNum h tp p hG hg hs hk h1 h2
    | false =>
      by_cases h3 : s[k].toNat = 34
      · exact implTokName h hs hk h3
      · by_cases h4 : s[k].toNat = 39
        · exact implTokText h hs hk h4
        · cases h5 : signB s[k] with
          | true => exact implTokSign h hs hk h1 h2 h3 h4 h5
          | false => exact implTokOther h hs hk h1 h2 h3 h4 h5

end Go.Proofs.YtjjdcdnaonfnmaaGreatDoor

namespace Go.Proofs.YtjjdcdnaonfnmaaGreatDoor
open Go.RowKit

/-- Cells laid over a row, one after another. -/
def setAll (D : Array Value) (o : Nat) : List Value → Array Value
  | [] => D
  | v :: r => setAll (D.setIfInBounds o v) (o + 1) r

theorem setAll_size : ∀ (vs : List Value) (D : Array Value) (o : Nat), (setAll D o vs).size = D.size
  | [], _, _ => rfl
  | v :: r, D, o => by rw [setAll, setAll_size r]; simp

theorem setAll_out : ∀ (vs : List Value) (D : Array Value) (o i : Nat), i < o ∨ o + vs.length ≤ i → (setAll D o vs)[i]? = D[i]?
  | [], _, _, _, _ => rfl
  | v :: r, D, o, i, h => by
    simp only [List.length_cons] at h
    rw [setAll, setAll_out r _ _ _ (by omega), Array.getElem?_setIfInBounds_ne (by omega)]

theorem setAll_in : ∀ (vs : List Value) (D : Array Value) (o i : Nat) (h : i < vs.length), o + vs.length ≤ D.size → (setAll D o vs)[o + i]? = some vs[i]
  | [], _, _, _, h, _ => by simp at h
  | v :: r, D, o, 0, _, hs => by
    simp only [List.length_cons] at hs
    rw [setAll, setAll_out r _ _ _ (by omega), Nat.add_zero, Array.getElem?_setIfInBounds_self, if_pos (by omega)]
    rfl
  | v :: r, D, o, i + 1, h, hs => by
    simp only [List.length_cons] at hs
    rw [setAll, show o + (i + 1) = o + 1 + i by omega, setAll_in r _ _ i (by simpa using h) (by simp; omega)]
    rfl

theorem heap_setCells : ∀ (vs : List Value) (w : World) (g o : Nat) (D : Array Value) (t : TypeId), w.heap[g]? = some (.cells D t (0, 0)) → (w.setCells g o vs).heap[g]? = some (.cells (setAll D o vs) t (0, 0))
  | [], _, _, _, _, _, h => h
  | v :: r, w, g, o, D, t, h => by
    rw [World.setCells, setAll]
    exact heap_setCells r _ g (o + 1) _ t (heap_setCell_same w g o _ _ v h)

/-- The lexer's cells, as they are put together. -/
noncomputable def lexC (s : ByteArray) (cs : Array Value) : Array Value :=
  Array.foldl (fun cs x => cs.setIfInBounds (2 + x.snd) x.fst) ((Tryz.zeroCells51.setIfInBounds 0 (.string s)).setIfInBounds 1 (.int .i64 0)) cs.zipIdx 0 256

theorem fold_setAll (l : List Value) (D : Array Value) (n : Nat) : (l.zipIdx n).foldl (fun cs x => cs.setIfInBounds (2 + x.snd) x.fst) D = setAll D (2 + n) l := by
  induction l generalizing D n with
  | nil => rfl
  | cons v r ih => rw [List.zipIdx_cons, List.foldl_cons, ih, setAll]; rfl

theorem lexC_eq (s : ByteArray) (cs : Array Value) (h : cs.size = 256) : lexC s cs = setAll ((Tryz.zeroCells51.setIfInBounds 0 (.string s)).setIfInBounds 1 (.int .i64 0)) 2 cs.toList := by
  unfold lexC
  rw [← fold_setAll cs.toList _ 0]
  have hz : cs.zipIdx.size = 256 := by simp [h]
  rw [← hz, ← Array.foldl_toList]
  simp

theorem zeroLexer : Tryz.zeroCells51.size = 258 := by kernel_rfl
theorem zeroLexerOne : (Tryz.zeroCells51.all fun v => v.oneCell') = true := by kernel_rfl

theorem lexC_size (s : ByteArray) (cs : Array Value) (h : cs.size = 256) : (lexC s cs).size = 258 := by
  rw [lexC_eq s cs h, setAll_size]; simp [zeroLexer]

theorem lexC_facts (s : ByteArray) (cs : Array Value) (h : Cls cs classA) : (lexC s cs)[0]? = some (.string s) ∧ (lexC s cs)[1]? = some (.int .i64 ((0 : Nat) : Int)) ∧ ∀ b : UInt8, (lexC s cs)[2 + b.toNat]? = some (.int .i64 (clB b)) := by
  rw [lexC_eq s cs h.1]
  refine ⟨?_, ?_, fun b => ?_⟩
  · rw [setAll_out _ _ _ _ (by omega), Array.getElem?_setIfInBounds_ne (by omega), Array.getElem?_setIfInBounds_self, if_pos (by rw [zeroLexer]; omega)]
  · rw [setAll_out _ _ _ _ (by omega), Array.getElem?_setIfInBounds_self, if_pos (by simp [zeroLexer])]
    rfl
  · have hb := UInt8.toNat_lt b
    have hl : b.toNat < cs.toList.length := by rw [Array.length_toList, h.1]; omega
    rw [setAll_in _ _ _ _ hl (by rw [Array.length_toList, h.1]; simp [zeroLexer])]
    have := h.2 b.toNat (by omega)
    rw [class_eq] at this
    rw [← this]
    simp

theorem lexC_one (s : ByteArray) (cs : Array Value) (h : Cls cs classA) : (lexC s cs).all (·.oneCell') = true := by
  rw [Array.all_eq_true]
  intro i hi
  have hsz := lexC_size s cs h.1
  obtain ⟨h0, h1, h2⟩ := lexC_facts s cs h
  have key : ∀ v, (lexC s cs)[i]? = some v → v.oneCell' = true → (lexC s cs)[i].oneCell' = true := fun v hv ho => by
    rw [Array.getElem?_eq_getElem hi] at hv
    rw [Option.some.inj hv]; exact ho
  rcases Nat.lt_or_ge i 2 with hlt | hge
  · rcases Nat.lt_or_ge i 1 with h' | h'
    · have : i = 0 := by omega
      subst this
      exact key _ h0 rfl
    · have : i = 1 := by omega
      subst this
      exact key _ h1 rfl
  · have hb : i - 2 < 256 := by omega
    have := h2 (UInt8.ofNat (i - 2))
    rw [UInt8.toNat_ofNat', Nat.mod_eq_of_lt (by omega), show 2 + (i - 2) = i by omega] at this
    exact key _ this rfl

theorem lexLaid (w : World) (s : ByteArray) (cs : Array Value) (h : Cls cs classA) : LexS ((w.alloc (.cells Tryz.zeroCells51 51)).setCells w.heap.size 0 (lexC s cs).toList) w.heap.size s 0 := by
  have hg := heap_setCells (lexC s cs).toList (w.alloc (.cells Tryz.zeroCells51 51)) w.heap.size 0 _ _ (heap_alloc_new w _)
  obtain ⟨h0, h1, h2⟩ := lexC_facts s cs h
  have hsz := lexC_size s cs h.1
  have get : ∀ i v, i < 258 → (lexC s cs)[i]? = some v → (setAll Tryz.zeroCells51 0 (lexC s cs).toList)[i]? = some v := fun i v hi hv => by
    have hl : i < (lexC s cs).toList.length := by rw [Array.length_toList]; omega
    have := setAll_in (lexC s cs).toList Tryz.zeroCells51 0 i hl (by rw [Array.length_toList, hsz, zeroLexer]; omega)
    rw [Nat.zero_add] at this
    rw [this]
    rw [← hv]
    simp
  exact ⟨_, hg, by rw [setAll_size, zeroLexer], get 0 _ (by omega) h0, get 1 _ (by omega) h1, fun b => get _ _ (by have := UInt8.toNat_lt b; omega) (h2 b)⟩

end Go.Proofs.YtjjdcdnaonfnmaaGreatDoor

namespace Go.Proofs.YtjjdcdnaonfnmaaGreatDoor
open Go.RowKit

set_option maxRecDepth 100000 in
set_option maxHeartbeats 4000000 in
theorem implLex (s : ByteArray) (w : World) (hs : s.size ≤ 1048576) (tp : TypeId) (p : Value) (hG : Glob tp p w) (hw16 : 6 ≤ w.heap.size) : Calls Tryz.prog 10 #[.string s] w (LexAns s w) := by
  obtain ⟨i0, hi0, hz0, hz1, hz2⟩ := info_parts Tryz.infoToken
  have hll : s.data.toList.length = s.size := by simp
  by_cases hbig : (20000 : Int) < (s.size : Int)
  · have HB : Hid (lexB s.data.toList = .error 20000) := by unfold Hid lexB; rw [if_pos (by rw [hll]; omega)]
    clear hll
    go_enter Tryz.func10, Tryz.ntmps10
    go_wp2_with fail
    go_ret2
    exact lexAns_mk (ys := []) (by unfold toks; rw [HB.out]; rfl) (by rw [HB.out]; rfl) (OwnT.nil _ _) (Below.refl _ _)
  · have HB : Hid (lexB s.data.toList = lexAt (gap false s.data.toList) (s.data.toList.drop (gap false s.data.toList))) := by unfold Hid lexB; rw [if_neg (by rw [hll]; omega)]
    have HLL := Lib.hid hll
    have hg0 : gap false s.data.toList ≤ s.size := by have := gap_len false s.data.toList; omega
    have HG0 : Hid (gap false (s.data.toList.drop 0) = gap false s.data.toList) := by unfold Hid; simp
    have HGL := Lib.hid hG
    have hinfo : (Tryz.prog.info? 51).map (·.size) = some 258 := by kernel_rfl
    have HINFO := Lib.hid hinfo
    clear hll hinfo hG
    go_enter Tryz.func10, Tryz.ntmps10
    go_wp2_with fail
    refine (implClasses w).mono ?_
    rintro e w1 ⟨cs, rfl, hcls, hb1⟩
    have hsz : cs.size = 256 := hcls.1
    have HCLS := Lib.hid hcls
    have hthere : (w1.alloc (.cells Tryz.zeroCells51 51)).there w1.heap.size 0 (lexC s cs).size := fun j hj => by
      rw [cell_of_row _ _ _ _ _ _ (heap_alloc_new w1 _)]
      refine ⟨?_, frozen_of_row _ _ _ _ _ (heap_alloc_new w1 _)⟩
      have hj' : 0 + j < Tryz.zeroCells51.size := by rw [zeroLexer]; rw [lexC_size _ _ hsz] at hj; omega
      rw [Array.getElem?_eq_getElem hj']; rfl
    have HTH := Lib.hid hthere
    clear hcls hthere
    go_wp2_with (refine wpList_store_mid rfl 51 (.tmp 4) (.tmp 16) rfl w1.heap.size 0 (lexC s cs) rfl (by rfl) HTH.out (by rw [lexC_size _ _ hsz]; exact HINFO.out) (lexC_one s cs HCLS.out) ?_)
    have hL2 := lexLaid w1 s cs HCLS.out
    have hB2 : Below w.heap.size w ((w1.alloc (.cells Tryz.zeroCells51 51)).setCells w1.heap.size 0 (lexC s cs).toList) := belowCells (hb1.alloc hb1.size _) hb1.size _ _
    generalize hW2 : (w1.alloc (.cells Tryz.zeroCells51 51)).setCells w1.heap.size 0 (lexC s cs).toList = W2 at hL2 hB2 ⊢
    have hGsz := hb1.size
    generalize hGG : w1.heap.size = G at *
    have HW2 := Lib.hid hW2
    have HGG := Lib.hid hGG
    clear hW2 hGG hb1 HTH
    refine (implSkip hL2 hs (Nat.zero_le _)).mono ?_
    rw [HG0.out, Nat.zero_add]
    rintro e w3 ⟨rfl, mv3⟩
    have hB3 : Below w.heap.size w w3 := mv3.below hB2 hGsz (by have := hL2.lt; omega)
    have HL3 := Lib.hid mv3.1
    clear hL2 hB2 mv3
    go_wp2_with fail
    go_loopg [5] (s.size - gap false s.data.toList) (fun gk v wr => ∃ (k : Nat) (acc : List Tok) (ys : List Tk) (a1 : Option Addr) (c1 : Nat), gk = s.size - k ∧ k ≤ s.size ∧ v = .slice a1 ys.length c1 ∧ ys.length ≤ k ∧ Hid (ys = acc.map tkOf) ∧ Hid (lexB s.data.toList = cat acc (lexAt k (s.data.toList.drop k))) ∧ OwnT wr (G + 1) a1 c1 ys ∧ LexS wr G s k ∧ Below w.heap.size w wr)
    case atStart => exact ⟨_, [], [], none, 0, rfl, hg0, rfl, Nat.zero_le _, rfl, by unfold Hid; rw [HB.out, cat_nil], OwnT.nil _ _, HL3.out, hB3⟩
    case round =>
      obtain ⟨k, acc, ys, a1, c1, rfl, hk, rfl, hyk, hys, hlex, hown, hL, hb⟩ := hrel
      have hsr := hb.size
      by_cases hlt : k < s.size
      · have HMO : Hid (decide (k < s.size) = true) := decide_eq_true hlt
        have HL := Lib.hid hL
        clear hL
        go_wp2_with fail
        refine (implMore HL.out hs (by omega) true HMO.out).mono ?_
        rintro e w4 ⟨rfl, n4, hw4⟩
        have hb4' : Below wr.heap.size wr w4 := hw4 ▸ below_drewN (Below.refl _ _) n4
        have hL4 := HL.out.below hb4' HL.out.lt
        have hown4 := hown.below hb4'
        have hb4 : Below w.heap.size w w4 := hb.trans (hb4'.mono hsr)
        have c1' := hL4.c1
        have hs4 := hb4.size
        have HL4 := Lib.hid hL4
        have HGl := Lib.hid (HGL.out.below hb4 hw16)
        clear hw4 hb4' HL hown hb hL4
        go_wp2_with fail
        refine (implToken HL4.out tp p HGl.out (by omega) hs hlt).mono ?_
        have hd0 : s.data.toList.drop k ≠ [] := by rw [drop_at s k hlt]; simp
        have HD0 := Lib.hid hd0
        clear hd0
        rintro e w5 (⟨x, hx, rfl, mv5⟩ | ⟨hx, ka, t, m, rfl, mv5⟩)
        · have hpos := one_pos (k := x.1) (t := x.2.1) (n := x.2.2) hx
          obtain ⟨hle, _⟩ := one_le (k := x.1) (t := x.2.1) (n := x.2.2) hx
          have hkn : k + x.2.2 ≤ s.size := by rw [List.length_drop, HLL.out] at hle; omega
          have HX := Lib.hid (lexStep hlex.out hx)
          have hown5 : OwnT w5 (G + 1) a1 c1 ys := hown4.kept mv5.2 (fun q hq e => by cases e; have := (hown4.lt hq).1; omega)
          have hb5 : Below w.heap.size w w5 := mv5.below hb4 hGsz (by have := HL4.out.lt; omega)
          have hL5 := mv5.1
          have hG5 : G + 1 ≤ w5.heap.size := hL5.lt
          have hs5 := hb5.size
          have HL5 := Lib.hid hL5
          have HXX := Lib.hid hx
          clear hx hle mv5 hL5 hown4 hb4
          go_wp2_with (at_builtin; refine wpAppendTok rfl (.tmp 32) (.tmp 37) rfl i0 hi0 hz0 hz1 hz2 (G + 1) a1 c1 ys w5.heap.size ⟨(x.1 : Int), ⟨x.2.1.toArray⟩, (k : Int)⟩ rfl (hown5.alloc _) rfl (heap_alloc_new _ _) (by omega) (by rw [size_alloc1]; omega) ?_; intro a6 c6 w6 l6 hl6 hown6 hg6 _)
          have hb6 : Below w.heap.size w w6 := (hb5.alloc hs5 _).grown hg6 (by rw [size_alloc1]; omega) (fun q hq => by have := (hown5.lt hq).1; omega)
          have hL6 : LexS w6 G s (k + x.2.2) := by
            have h1 := HL5.out.below ((Below.refl w5.heap.size w5).alloc (Nat.le_refl _) (.cells #[.int .i64 (x.1 : Int), .string ⟨x.2.1.toArray⟩, .int .i64 (k : Int)] 56)) HL5.out.lt
            obtain ⟨D, hD, r⟩ := h1.ex
            exact ⟨D, (hg6.block G h1.lt (fun e => by have := (hown5.lt e.symm).1; omega)).trans hD, r⟩
          have HL6 := Lib.hid hL6
          have hs6 := hb6.size
          clear hL6 hg6 hown5 hb5
          refine (implSkip HL6.out hs hkn).mono ?_
          rintro e w7 ⟨rfl, mv7⟩
          have hgl : k + x.2.2 + gap false (s.data.toList.drop (k + x.2.2)) ≤ s.size := by
            have := gap_len false (s.data.toList.drop (k + x.2.2))
            rw [List.length_drop, HLL.out] at this
            omega
          have hb7 : Below w.heap.size w w7 := mv7.below hb6 hGsz (by have := HL6.out.lt; omega)
          have hown7 : OwnT w7 (G + 1) a6 c6 l6 := hown6.kept mv7.2 (fun q hq e => by cases e; have := (hown6.lt hq).1; omega)
          have hL7 := mv7.1
          clear mv7
          go_wp2_with fail
          go_roundg (s.size - (k + x.2.2 + gap false (s.data.toList.drop (k + x.2.2))))
          case measure => omega
          case rel => exact ⟨_, acc ++ [⟨x.1, x.2.1, k⟩], l6, a6, c6, rfl, hgl, rfl, by rw [hidT_len hl6]; omega, by unfold Hid; rw [hl6.out, hys.out]; simp [tkOf], HX, hown7, hL7, hb7⟩
        · have HX : Hid (lexB s.data.toList = cat acc (.error k)) := by unfold Hid; rw [hlex.out, lexAt_bad HD0.out hx]
          have hb5 : Below w.heap.size w w5 := mv5.below hb4 hGsz (by have := HL4.out.lt; omega)
          clear hx mv5
          go_wp2_with fail
          go_ret2
          have hbd := bad_of_cat HX.out
          exact lexAns_mk (ys := []) hbd.1 hbd.2 (OwnT.nil _ _) hb5
      · have HMO : Hid (decide (k < s.size) = false) := decide_eq_false hlt
        obtain rfl : k = s.size := by omega
        have HX : Hid (lexB s.data.toList = cat acc (.ok [])) := by unfold Hid; rw [hlex.out, List.drop_of_length_le (by rw [HLL.out]; exact Nat.le_refl _), lexAt_nil]
        go_wp2_with fail
        refine (implMore hL hs (by omega) false HMO.out).mono ?_
        rintro e w4 ⟨rfl, n4, hw4⟩
        have hb4' : Below wr.heap.size wr w4 := hw4 ▸ below_drewN (Below.refl _ _) n4
        have hown4 := hown.below hb4'
        have hb4 : Below w.heap.size w w4 := hb.trans (hb4'.mono hsr)
        clear hw4 hb4'
        go_wp2_with fail
        go_ret2
        have hok := ok_of_cat HX.out
        exact lexAns_mk (ys := ys) (by rw [hys.out]; exact hok.1) hok.2 (hown4.lower (by omega)) hb4

end Go.Proofs.YtjjdcdnaonfnmaaGreatDoor

namespace Go.Proofs.YtjjdcdnaonfnmaaGreatDoor

def upB (b : UInt8) : UInt8 := if decide (97 ≤ b.toNat) && decide (b.toNat ≤ 122) then b - 32 else b

theorem upB_cases (b : UInt8) : (upB b = b ∧ ¬ (97 ≤ b.toNat ∧ b.toNat ≤ 122)) ∨ ((upB b).toNat = b.toNat - 32 ∧ 97 ≤ b.toNat ∧ b.toNat ≤ 122) := by
  unfold upB
  by_cases h : 97 ≤ b.toNat ∧ b.toNat ≤ 122
  · right
    rw [if_pos (by simp [h.1, h.2])]
    refine ⟨?_, h⟩
    have : (32 : UInt8).toNat = 32 := rfl
    rw [UInt8.toNat_sub_of_le _ _ (by rw [UInt8.le_iff_toNat_le]; omega), this]
  · left
    refine ⟨?_, h⟩
    rw [if_neg]
    intro hc
    simp only [Bool.and_eq_true, decide_eq_true_eq] at hc
    exact h hc

theorem up_up (b : UInt8) : upB (upB b) = upB b := by
  rcases upB_cases b with ⟨e, _⟩ | ⟨e, h1, h2⟩
  · rw [e, e]
  · rcases upB_cases (upB b) with ⟨e', _⟩ | ⟨e', h3, h4⟩
    · exact e'
    · omega

theorem more_up (b : UInt8) : moreB (upB b) = moreB b := by
  rcases upB_cases b with ⟨e, _⟩ | ⟨e, h1, h2⟩
  · rw [e]
  · rw [Bool.eq_iff_iff]
    simp only [moreB, letterB, digitB, e, Bool.or_eq_true, Bool.and_eq_true, decide_eq_true_eq, beq_iff_eq]; omega

theorem letter_up (b : UInt8) : letterB (upB b) = letterB b := by
  rcases upB_cases b with ⟨e, _⟩ | ⟨e, h1, h2⟩
  · rw [e]
  · rw [Bool.eq_iff_iff]
    simp only [letterB, e, Bool.or_eq_true, Bool.and_eq_true, decide_eq_true_eq, beq_iff_eq]; omega

theorem low_up (b : UInt8) : lowB (upB b) = lowB b := by
  rcases upB_cases b with ⟨e, _⟩ | ⟨e, h1, h2⟩
  · rw [e]
  · rcases lowB_cases (upB b) with ⟨e1, h3⟩ | ⟨e1, h3, h4⟩
    · omega
    · rcases lowB_cases b with ⟨e2, h5⟩ | ⟨e2, h5, h6⟩
      · rw [e2]; exact UInt8.toNat_inj.1 (by omega)
      · omega

/-- A byte that no letter is stays what it is. -/
theorem up_iff (b : UInt8) (n : Nat) (h : ¬ (97 ≤ n ∧ n ≤ 122)) (h' : ¬ (65 ≤ n ∧ n ≤ 90)) : (upB b).toNat = n ↔ b.toNat = n := by
  rcases upB_cases b with ⟨e, _⟩ | ⟨e, h1, h2⟩
  · rw [e]
  · omega

theorem blank_up (b : UInt8) : blankB (upB b) = blankB b := by
  rw [Bool.eq_iff_iff]
  simp only [blankB, Bool.or_eq_true, beq_iff_eq]
  rw [up_iff b 32 (by omega) (by omega), up_iff b 9 (by omega) (by omega), up_iff b 10 (by omega) (by omega), up_iff b 13 (by omega) (by omega)]

def weak : List UInt8 → List UInt8 → Prop
  | [], [] => True
  | b :: r, c :: s => (c = b ∨ c = upB b) ∧ weak r s
  | _, _ => False

theorem weak_refl : ∀ l, weak l l
  | [] => trivial
  | _ :: r => ⟨.inl rfl, weak_refl r⟩

theorem weak_len : ∀ {l u : List UInt8}, weak l u → u.length = l.length
  | [], [], _ => rfl
  | [], _ :: _, h => h.elim
  | _ :: _, [], h => h.elim
  | b :: r, c :: s, h => by simp [weak_len h.2]

theorem weak_drop : ∀ {l u : List UInt8} (n : Nat), weak l u → weak (l.drop n) (u.drop n)
  | _, _, 0, h => h
  | [], [], _ + 1, _ => trivial
  | [], _ :: _, _ + 1, h => h.elim
  | _ :: _, [], _ + 1, h => h.elim
  | b :: r, c :: s, n + 1, h => weak_drop (l := r) (u := s) n h.2

theorem weak_head {l u : List UInt8} (h : weak l u) : (l.head? = none ∧ u.head? = none) ∨ ∃ b c, l.head? = some b ∧ u.head? = some c ∧ (c = b ∨ c = upB b) := by
  cases l with
  | nil => cases u with
    | nil => exact .inl ⟨rfl, rfl⟩
    | cons c s => exact h.elim
  | cons b r => cases u with
    | nil => exact h.elim
    | cons c s => exact .inr ⟨b, c, rfl, rfl, h.1⟩

theorem weak_set : ∀ {l u : List UInt8} (j : Nat) (h : j < u.length), weak l u → weak l (u.set j (upB u[j]))
  | [], [], j, h, _ => by simp at h
  | [], _ :: _, _, _, h => h.elim
  | _ :: _, [], _, _, h => h.elim
  | b :: r, c :: s, 0, _, h => by
    refine ⟨?_, h.2⟩
    rcases h.1 with e | e
    · right; simp only [List.getElem_cons_zero]; rw [e]
    · right; simp only [List.getElem_cons_zero]; rw [e, up_up]
  | b :: r, c :: s, j + 1, hj, h => ⟨h.1, by simpa using weak_set (l := r) (u := s) j (by simpa using hj) h.2⟩

theorem gap_weak : ∀ {l u : List UInt8} (c : Bool), weak l u → gap c u = gap c l
  | [], [], _, _ => rfl
  | [], _ :: _, _, h => h.elim
  | _ :: _, [], _, h => h.elim
  | b :: r, d :: s, true, h => by
    have e : (d.toNat != 10) = (b.toNat != 10) := by
      rcases h.1 with rfl | rfl
      · rfl
      · rw [Bool.eq_iff_iff]; simp only [bne_iff_ne, ne_eq, up_iff b 10 (by omega) (by omega)]
    rw [gap, gap, e, gap_weak _ h.2]
  | b :: r, d :: s, false, h => by
    have e1 : blankB d = blankB b := by
      rcases h.1 with rfl | rfl
      · rfl
      · exact blank_up b
    have e2 : (d.toNat == 45) = (b.toNat == 45) := by
      rcases h.1 with rfl | rfl
      · rfl
      · rw [Bool.eq_iff_iff]; simp only [beq_iff_eq, up_iff b 45 (by omega) (by omega)]
    have e3 : ((s.head?.map (·.toNat)) == some 45) = ((r.head?.map (·.toNat)) == some 45) := by
      rcases weak_head h.2 with ⟨h1, h2⟩ | ⟨x, y, h1, h2, h3⟩
      · rw [h1, h2]
      · rw [h1, h2]
        rcases h3 with rfl | rfl
        · rfl
        · rw [Bool.eq_iff_iff]; simp only [Option.map_some, beq_iff_eq, Option.some.injEq, up_iff x 45 (by omega) (by omega)]
    rw [gap, gap, e1, e2, e3, gap_weak false h.2, gap_weak true h.2]

theorem run_weak : ∀ {l u : List UInt8}, weak l u → runN u = runN l ∧ (runL u).map lowB = (runL l).map lowB
  | [], [], _ => ⟨rfl, rfl⟩
  | [], _ :: _, h => h.elim
  | _ :: _, [], h => h.elim
  | b :: r, d :: s, h => by
    have e1 : moreB d = moreB b := by
      rcases h.1 with rfl | rfl
      · rfl
      · exact more_up b
    have e2 : lowB d = lowB b := by
      rcases h.1 with rfl | rfl
      · rfl
      · exact low_up b
    obtain ⟨h1, h2⟩ := run_weak h.2
    unfold runN runL at h1 ⊢
    unfold runL at h2
    rw [List.takeWhile_cons, List.takeWhile_cons, e1]
    split
    · simp only [List.length_cons, List.map_cons, h1, h2, e2, and_self]
    · exact ⟨rfl, rfl⟩

theorem runL_take (l : List UInt8) : runL l = l.take (runN l) := by
  unfold runN runL
  induction l with
  | nil => rfl
  | cons b r ih =>
    rw [List.takeWhile_cons]
    split
    · rw [List.length_cons, List.take_succ_cons, ← ih]
    · rfl

theorem quoted_weak {q : UInt8} (hq : q.toNat = 34 ∨ q.toNat = 39) : ∀ (m : Nat) {l u : List UInt8} {t : List UInt8} {n : Nat}, l.length ≤ m → weak l u → quoted q l = some (t, n) → u.take n = l.take n → quoted q u = some (t, n)
  | _, [], [], _, _, _, _, h, _ => h
  | _, [], _ :: _, _, _, _, h, _, _ => h.elim
  | _, _ :: _, [], _, _, _, h, _, _ => h.elim
  | _, [b], d :: s, t, n, _, hw, h, he => by
    rw [quoted] at h
    split at h
    · cases h
      cases s with
      | nil =>
        have : d = b := by simpa using he
        subst this
        rw [quoted, if_pos (by assumption)]
      | cons x y => exact hw.2.elim
    · cases h
  | _, _ :: _ :: _, [_], _, _, _, hw, _, _ => hw.2.elim
  | 0, _ :: _ :: _, _ :: _ :: _, _, _, hm, _, _, _ => by simp at hm
  | m + 1, b :: c :: r, d :: e :: s, t, n, hm, hw, h, he => by
    have h' : r.length + 1 ≤ m := by simpa using hm
    rw [quoted] at h
    split at h
    · rename_i hb
      have n1 : 1 ≤ n := by
        split at h
        · cases hq2 : quoted q r with
          | none => rw [hq2] at h; cases h
          | some y => rw [hq2] at h; cases h; omega
        · cases h; omega
      have hd : d = b := by
        have := congrArg List.head? he
        simpa [List.head?_take, show n ≠ 0 by omega] using this
      rw [quoted, hd, if_pos hb]
      split at h
      · rename_i hc
        cases hq2 : quoted q r with
        | none => rw [hq2] at h; cases h
        | some y =>
          rw [hq2] at h
          cases h
          obtain ⟨yt, yn⟩ := y
          have he2 : e = c := by
            have := congrArg (·[1]?) he
            simpa [List.getElem?_take, show 1 < 2 + yn by omega] using this
          have het : s.take yn = r.take yn := by
            have := congrArg (List.drop 2) he
            simpa [List.drop_take] using this
          rw [he2, if_pos hc, quoted_weak hq m (by omega) hw.2.2 hq2 het]
          rfl
      · rename_i hc
        rw [if_neg]
        · exact h
        · rcases hw.2.1 with e1 | e1
          · rw [e1]; exact hc
          · rw [e1]
            intro e2
            apply hc
            apply UInt8.toNat_inj.1
            have h5 := congrArg UInt8.toNat e2
            rcases hq with hq | hq
            · rw [hq] at h5 ⊢; exact (up_iff c 34 (by omega) (by omega)).1 h5
            · rw [hq] at h5 ⊢; exact (up_iff c 39 (by omega) (by omega)).1 h5
    · rename_i hb
      cases hq2 : quoted q (c :: r) with
      | none => rw [hq2] at h; cases h
      | some y =>
        rw [hq2] at h
        cases h
        obtain ⟨yt, yn⟩ := y
        have hd : d = b := by
          have := congrArg List.head? he
          simpa [List.head?_take] using this
        have het : (e :: s).take yn = (c :: r).take yn := by
          have := congrArg (List.drop 1) he
          simpa [List.drop_take] using this
        rw [quoted, hd, if_neg hb, quoted_weak hq m (by simpa using h') hw.2 hq2 het]
        rfl

theorem digit_up (b : UInt8) : digitB (upB b) = digitB b := by
  rcases upB_cases b with ⟨e, _⟩ | ⟨e, h1, h2⟩
  · rw [e]
  · rw [Bool.eq_iff_iff]
    simp only [digitB, e, Bool.and_eq_true, decide_eq_true_eq]; omega

theorem two_weak {b c d : UInt8} (h : d = c ∨ d = upB c) : twoB b d = twoB b c := by
  rcases h with rfl | rfl
  · rfl
  · rw [Bool.eq_iff_iff]
    simp only [twoB, Bool.or_eq_true, Bool.and_eq_true, beq_iff_eq, up_iff c 61 (by omega) (by omega), up_iff c 62 (by omega) (by omega)]

/-- The word at the head, in great letters where it is one that may. -/
theorem one_weak {l u : List UInt8} {k : Nat} {t : List UInt8} {n : Nat} (hw : weak l u) (h : one l = some (k, t, n)) (he : k ≠ 0 → u.take n = l.take n) : one u = some (k, t, n) := by
  have hp := one_pos h
  cases l with
  | nil => simp [one] at h
  | cons b r => cases u with
    | nil => exact hw.elim
    | cons d s =>
      have hrun := run_weak hw
      rw [one] at h
      split at h
      · rename_i hb
        have hd : letterB d = true := by
          rcases hw.1 with rfl | rfl
          · exact hb
          · rw [letter_up]; exact hb
        rw [one, if_pos hd, hrun.1, hrun.2]
        exact h
      · rename_i hb
        have hk : k ≠ 0 := by
          split at h
          · split at h
            · simp only [Option.some.injEq, Prod.mk.injEq] at h; omega
            · cases h
          · split at h
            · cases hq : quoted 34 r with
              | none => rw [hq] at h; cases h
              | some x =>
                rw [hq, Option.bind_some] at h
                split at h
                · simp only [Option.some.injEq, Prod.mk.injEq] at h; omega
                · cases h
            · split at h
              · cases hq : quoted 39 r with
                | none => rw [hq] at h; cases h
                | some x =>
                  rw [hq, Option.bind_some] at h
                  split at h
                  · simp only [Option.some.injEq, Prod.mk.injEq] at h; omega
                  · cases h
              · split at h
                · cases h
                · simp only [Option.some.injEq, Prod.mk.injEq] at h; omega
        have hen := he hk
        have hd : d = b := by
          have := congrArg List.head? hen
          simpa [List.head?_take, show n ≠ 0 by omega] using this
        subst hd
        rw [one, if_neg hb]
        split at h
        · rename_i hdg
          rw [if_pos hdg]
          split at h
          · rename_i hr
            simp only [Option.some.injEq, Prod.mk.injEq] at h
            obtain ⟨rfl, rfl, rfl⟩ := h
            have e : runL (d :: s) = runL (d :: r) := by rw [runL_take, runL_take, hrun.1, hen]
            rw [e, if_pos hr, hrun.1]
          · cases h
        · rename_i hdg
          rw [if_neg hdg]
          split at h
          · rename_i h34
            rw [if_pos h34]
            cases hq : quoted 34 r with
            | none => rw [hq] at h; cases h
            | some x =>
              obtain ⟨xt, xn⟩ := x
              rw [hq, Option.bind_some] at h
              split at h
              · rename_i hnm
                simp only [Option.some.injEq, Prod.mk.injEq] at h
                obtain ⟨rfl, rfl, rfl⟩ := h
                have het : s.take xn = r.take xn := by
                  have := congrArg (List.drop 1) hen
                  simpa [List.drop_take] using this
                rw [quoted_weak (.inl rfl) _ (Nat.le_refl _) hw.2 hq het, Option.bind_some, if_pos hnm]
              · cases h
          · rename_i h34
            rw [if_neg h34]
            split at h
            · rename_i h39
              rw [if_pos h39]
              cases hq : quoted 39 r with
              | none => rw [hq] at h; cases h
              | some x =>
                obtain ⟨xt, xn⟩ := x
                rw [hq, Option.bind_some] at h
                split at h
                · rename_i hnm
                  simp only [Option.some.injEq, Prod.mk.injEq] at h
                  obtain ⟨rfl, rfl, rfl⟩ := h
                  have het : s.take xn = r.take xn := by
                    have := congrArg (List.drop 1) hen
                    simpa [List.drop_take] using this
                  rw [quoted_weak (.inr rfl) _ (Nat.le_refl _) hw.2 hq het, Option.bind_some, if_pos hnm]
                · cases h
            · rename_i h39
              rw [if_neg h39]
              have es : signN (d :: s) = signN (d :: r) := by
                cases r with
                | nil => cases s with
                  | nil => rfl
                  | cons x y => exact hw.2.elim
                | cons c r => cases s with
                  | nil => exact hw.2.elim
                  | cons x y => rw [signN, signN, two_weak hw.2.1]
              rw [es]
              split at h
              · cases h
              · rename_i hs
                simp only [Option.some.injEq, Prod.mk.injEq] at h
                obtain ⟨rfl, rfl, rfl⟩ := h
                rw [if_neg hs, hen]

theorem lexAt_at : ∀ (m p : Nat) (l : List UInt8) (ts : List Tok), l.length ≤ m → lexAt p l = .ok ts → ∀ x ∈ ts, p ≤ x.at_ ∧ x.at_ + x.text.length ≤ p + l.length
  | 0, p, l, ts, hm, h, x, hx => by
    rw [List.eq_nil_of_length_eq_zero (Nat.le_zero.1 hm), lexAt_nil] at h
    cases h
    cases hx
  | m + 1, p, l, ts, hm, h, x, hx => by
    by_cases h0 : l = []
    · subst h0; rw [lexAt_nil] at h; cases h; cases hx
    · cases h1 : one l with
      | none => rw [lexAt_bad h0 h1] at h; cases h
      | some y =>
        obtain ⟨k, t, n⟩ := y
        have hpos := one_pos h1
        obtain ⟨hle, htl⟩ := one_le h1
        have hl : 0 < l.length := List.length_pos_iff.2 h0
        rw [lexAt_one h1] at h
        cases h2 : lexAt (p + n + gap false (l.drop n)) ((l.drop n).drop (gap false (l.drop n))) with
        | error e => rw [h2] at h; cases h
        | ok us =>
          rw [h2] at h
          cases h
          rcases List.mem_append.1 hx with hx | hx
          · simp only [List.mem_singleton] at hx
            subst hx
            exact ⟨Nat.le_refl _, by show p + t.length ≤ _; omega⟩
          · have h3 := lexAt_at m _ _ us (by simp only [List.length_drop]; omega) h2 x hx
            simp only [List.length_drop] at h3
            have hg : gap false (l.drop n) ≤ (l.drop n).length := by
              rcases gap_tail (l.drop n) false with ⟨h4, _⟩ | ⟨h4, _⟩ <;> omega
            simp only [List.length_drop] at hg
            omega

theorem lexAt_up : ∀ (m p : Nat) (l u : List UInt8) (ts : List Tok), l.length ≤ m → lexAt p l = .ok ts → weak l u →
    (∀ j, (∀ x ∈ ts, x.kind = 0 → p + j < x.at_ ∨ x.at_ + x.text.length ≤ p + j) → u[j]? = l[j]?) → lexAt p u = .ok ts
  | 0, p, l, u, ts, hm, h, hw, _ => by
    have := List.eq_nil_of_length_eq_zero (Nat.le_zero.1 hm)
    subst this
    cases u with
    | nil => exact h
    | cons _ _ => exact hw.elim
  | m + 1, p, l, u, ts, hm, h, hw, hs => by
    by_cases h0 : l = []
    · subst h0
      cases u with
      | nil => exact h
      | cons _ _ => exact hw.elim
    · cases h1 : one l with
      | none => rw [lexAt_bad h0 h1] at h; cases h
      | some y =>
        obtain ⟨k, t, n⟩ := y
        have hpos := one_pos h1
        obtain ⟨hle, htl⟩ := one_le h1
        have hl : 0 < l.length := List.length_pos_iff.2 h0
        rw [lexAt_one h1] at h
        cases h2 : lexAt (p + n + gap false (l.drop n)) ((l.drop n).drop (gap false (l.drop n))) with
        | error e => rw [h2] at h; cases h
        | ok us =>
          rw [h2] at h
          cases h
          have hat := lexAt_at _ _ _ us (Nat.le_refl _) h2
          have hone : one u = some (k, t, n) := by
            refine one_weak hw h1 fun hk => ?_
            apply List.ext_getElem?
            intro j
            rw [List.getElem?_take, List.getElem?_take]
            split
            · refine hs j fun x hx hx0 => ?_
              rcases List.mem_append.1 hx with hx | hx
              · simp only [List.mem_singleton] at hx
                subst hx
                exact absurd hx0 hk
              · have := (hat x hx).1
                left; omega
            · rfl
          rw [lexAt_one hone, gap_weak false (weak_drop n hw)]
          rw [lexAt_up m _ ((l.drop n).drop (gap false (l.drop n))) ((u.drop n).drop (gap false (l.drop n))) us (by simp only [List.length_drop]; omega) h2 (weak_drop _ (weak_drop _ hw)) ?_]
          · rfl
          · intro j hj
            rw [List.getElem?_drop, List.getElem?_drop, List.getElem?_drop, List.getElem?_drop]
            refine hs _ fun x hx hx0 => ?_
            rcases List.mem_append.1 hx with hx | hx
            · simp only [List.mem_singleton] at hx
              subst hx
              right
              show p + t.length ≤ _
              omega
            · have := hj x hx hx0
              omega

/-- U is L but for words in great letters. -/
structure Upped (ts : List Tok) (l u : List UInt8) : Prop where
  weak : weak l u
  same : ∀ j, (∀ x ∈ ts, x.kind = 0 → j < x.at_ ∨ x.at_ + x.text.length ≤ j) → u[j]? = l[j]?

theorem Upped.refl (ts : List Tok) (l : List UInt8) : Upped ts l l := ⟨weak_refl l, fun _ _ => rfl⟩

theorem Upped.set {ts : List Tok} {l u : List UInt8} (h : Upped ts l u) {x : Tok} (hx : x ∈ ts) (h0 : x.kind = 0) {k : Nat} (hk : k < x.text.length) (hlt : x.at_ + k < u.length) : Upped ts l (u.set (x.at_ + k) (upB u[x.at_ + k])) := by
  refine ⟨weak_set _ hlt h.weak, fun j hj => ?_⟩
  have := hj x hx h0
  rw [List.getElem?_set_ne (by omega)]
  exact h.same j hj

theorem lexB_at {l : List UInt8} {ts : List Tok} (h : lexB l = .ok ts) : ∀ x ∈ ts, x.at_ + x.text.length ≤ l.length := by
  unfold lexB at h
  split at h
  · cases h
  · intro x hx
    have := lexAt_at _ _ _ ts (Nat.le_refl _) h x hx
    have hg : gap false l ≤ l.length := by
      rcases gap_tail l false with ⟨h4, _⟩ | ⟨h4, _⟩ <;> omega
    simp only [List.length_drop] at this
    omega

theorem lexB_up {l u : List UInt8} {ts : List Tok} (h : lexB l = .ok ts) (hu : Upped ts l u) : lexB u = .ok ts := by
  unfold lexB at h ⊢
  split at h
  · cases h
  · rename_i hl
    rw [if_neg (by rw [weak_len hu.weak]; exact hl), gap_weak false hu.weak]
    refine lexAt_up _ _ _ _ ts (Nat.le_refl _) h (weak_drop _ hu.weak) fun j hj => ?_
    rw [List.getElem?_drop, List.getElem?_drop]
    exact hu.same _ hj

end Go.Proofs.YtjjdcdnaonfnmaaGreatDoor

namespace Go.Proofs.YtjjdcdnaonfnmaaGreatDoor
open Go.ChangeShapes Go.WideShapes Go.ChangeAt Go.RowKit

theorem gSynL : Tryz.prog.globalNamed "strconv.ErrSyntax" = some 5 := by kernel_rfl
theorem gSynTypeL : (Tryz.prog.globals[5]?).map (·.type) = some 92 := by kernel_rfl
theorem cellsErrL : Tryz.prog.cellsOf 160 = 1 := by kernel_rfl
theorem cellsStrL : Tryz.prog.cellsOf 9 = 1 := by kernel_rfl
theorem starErrL : "*" ++ "errors.errorString" = "*errors.errorString" := by decide
theorem rowErrL (u : TypeId) (h : Tryz.prog.typeName? 3 u = some "*errors.errorString") : u = 158 :=
  typeName_ptr_named (nm := "errors.errorString") (by rw [starErrL]; kernel_rfl) (by kernel_rfl) (by decide) u (by rw [starErrL]; exact h)

theorem synVarL {W : World} {rest : List (String × DataW Unit)} (h : laidMet Tryz.prog (("strconv.ErrSyntax", Rows.laid_strconv_ErrSyntax) :: rest) W) :
    ∃ p, W.var? Tryz.prog "strconv.ErrSyntax" = some #[.iface 158 p] := by
  obtain ⟨a, s, hv, _⟩ := laid_sentinel h gSynL gSynTypeL Tryz.underlying92 rowErrL Tryz.underlying158 Tryz.underlying160 rfl rfl Tryz.underlying9 cellsErrL cellsStrL
  exact ⟨_, hv⟩

theorem var_lt {W : World} {n : String} {g : Nat} {cs : Array Value} (hg : Tryz.prog.globalNamed n = some g) (hv : W.var? Tryz.prog n = some cs) : g < W.heap.size := by
  unfold World.var? at hv
  rw [hg, Option.bind_some] at hv
  rcases Nat.lt_or_ge g W.heap.size with h | h
  · exact h
  · simp [Array.getElem?_eq_none h] at hv

/-- The row's tables give what Lex asks. -/
theorem glob_of {W : World} {d0 d1 d3 d4 : String × DataW Unit} {rest : List (String × DataW Unit)}
    (h : laidMet Tryz.prog (d0 :: d1 :: ("internal/strconv.uint64pow10", Rows.laid_internal_strconv_uint64pow10) :: d3 :: d4 :: ("strconv.ErrSyntax", Rows.laid_strconv_ErrSyntax) :: rest) W) :
    ∃ p, Glob 158 p W ∧ 6 ≤ W.heap.size := by
  have h2 := laidMet.tail (laidMet.tail h)
  have ht := powTab_of h2
  obtain ⟨p, hv⟩ := synVarL (laidMet.tail (laidMet.tail (laidMet.tail h2)))
  have l1 := var_lt gPow7 ht
  have l2 := var_lt gSynL hv
  exact ⟨p, ⟨ht, hv⟩, by omega⟩

theorem placed_count {l : List UInt8} : ∀ {ts : List Tok} {p : Nat}, placed l p ts → ts = [] ∨ p + ts.length ≤ l.length
  | [], _, _ => .inl rfl
  | x :: r, p, h => by
    right
    obtain ⟨b, hb, _⟩ := h.2.1
    have hlt : x.at_ < l.length := by
      rcases Nat.lt_or_ge x.at_ l.length with h' | h'
      · exact h'
      · rw [List.getElem?_eq_none h'] at hb; cases hb
    have h0 := h.1
    simp only [List.length_cons]
    rcases placed_count h.2.2 with rfl | h1
    · simp; omega
    · omega

theorem right_kind {k : Nat} {t : List UInt8} (h : Right k t) : k ≤ 4 := h.2.1

theorem lexB_right {l : List UInt8} {ts : List Tok} (h : lexB l = .ok ts) : ∀ x ∈ ts, Right x.kind x.text := by
  unfold lexB at h
  split at h
  · cases h
  · exact lexAt_right _ _ _ ts (Nat.le_refl _) h

theorem toks_fit (s : ByteArray) (hs : s.size ≤ 1048576) : FitsT (toks s) ∧ (toks s).length ≤ 1048576 := by
  have hl : s.data.toList.length = s.size := by simp
  unfold toks
  cases h : lexB s.data.toList with
  | error e => exact ⟨fun x hx => by simp [wordsOf] at hx, by simp [wordsOf]⟩
  | ok ts =>
    simp only [wordsOf]
    refine ⟨fun x hx => ?_, ?_⟩
    · obtain ⟨y, hy, rfl⟩ := List.mem_map.1 hx
      have h1 := lexB_at h y hy
      have h2 := right_kind (lexB_right h y hy)
      have h3 : (⟨y.text.toArray⟩ : ByteArray).size = y.text.length := by simp [ByteArray.size]
      unfold tkOf isI64 maxLen
      simp only []
      omega
    · rcases placed_count (lexB_placed h) with rfl | h1
      · simp
      · simp; omega

end Go.Proofs.YtjjdcdnaonfnmaaGreatDoor

namespace Go.Proofs.YtjjdcdnaonfnmaaGreatDoor

theorem toks_few {s : List UInt8} {ts : List Tok} (h : lexB s = .ok ts) : ts.length ≤ s.length := by
  rcases placed_count (lexB_placed h) with rfl | h1
  · simp
  · omega

end Go.Proofs.YtjjdcdnaonfnmaaGreatDoor
