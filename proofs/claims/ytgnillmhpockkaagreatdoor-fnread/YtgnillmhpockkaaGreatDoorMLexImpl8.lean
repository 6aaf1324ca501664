/- The program's lexer: one word. -/
/- The model's one word at a place: the walk. -/
/- The model's one word at a place: the walk. -/
/- One word put behind a row of words that the call itself has made. -/
/- The model's words of a text. -/
/- The program's lexer is laid. -/
import Derived.Test.YtgnillmhpockkaaGreatDoorMLexImpl5
import Derived.Test.YtgnillmhpockkaaGreatDoorMLexSpec4
import Derived.Test.YtgnillmhpockkaaGreatDoorMMem
import Derived.Maps.AppendAt
namespace Go.Proofs.YtgnillmhpockkaaGreatDoor
open Go.RowKit

def TokAns (w : World) (g : Nat) (s : ByteArray) (k : Nat) (e : Ending) (w' : World) : Prop :=
  (∃ x, one (s.data.toList.drop k) = some x ∧ e = .returned (.tuple #[.int .i64 (x.1 : Int), .string ⟨x.2.1.toArray⟩, .bool true]) ∧ Moved w g s (k + x.2.2) w') ∨
  (one (s.data.toList.drop k) = none ∧ ∃ (a : Int) (t : ByteArray) (m : Nat), e = .returned (.tuple #[.int .i64 a, .string t, .bool false]) ∧ Moved w g s m w')

theorem cl2 : ((List.range 256).all fun n => !letterB (UInt8.ofNat n) || clB (UInt8.ofNat n) == 2) = true := by kernel_rfl
theorem cl3 : ((List.range 256).all fun n => !digitB (UInt8.ofNat n) || clB (UInt8.ofNat n) == 3) = true := by kernel_rfl
theorem cl4 : ((List.range 256).all fun n => !((UInt8.ofNat n).toNat == 34) || clB (UInt8.ofNat n) == 4) = true := by kernel_rfl
theorem cl5 : ((List.range 256).all fun n => !((UInt8.ofNat n).toNat == 39) || clB (UInt8.ofNat n) == 5) = true := by kernel_rfl
theorem cl6 : ((List.range 256).all fun n => !signB (UInt8.ofNat n) || clB (UInt8.ofNat n) == 6) = true := by kernel_rfl
theorem cl0 : ((List.range 256).all fun n => letterB (UInt8.ofNat n) || digitB (UInt8.ofNat n) || (UInt8.ofNat n).toNat == 34 || (UInt8.ofNat n).toNat == 39 || signB (UInt8.ofNat n) || clB (UInt8.ofNat n) == 0 || clB (UInt8.ofNat n) == 1) = true := by kernel_rfl
theorem clLetter {b : UInt8} (h : letterB b = true) : clB b = 2 := by
  have := byteAll (p := fun b => !letterB b || clB b == 2) cl2 b
  rw [h] at this; simpa using this
theorem clDigit {b : UInt8} (h : digitB b = true) : clB b = 3 := by
  have := byteAll (p := fun b => !digitB b || clB b == 3) cl3 b
  rw [h] at this; simpa using this
theorem clName {b : UInt8} (h : b.toNat = 34) : clB b = 4 := by
  have := byteAll (p := fun b => !(b.toNat == 34) || clB b == 4) cl4 b
  rw [h] at this; simpa using this
theorem clText {b : UInt8} (h : b.toNat = 39) : clB b = 5 := by
  have := byteAll (p := fun b => !(b.toNat == 39) || clB b == 5) cl5 b
  rw [h] at this; simpa using this
theorem clSign {b : UInt8} (h : signB b = true) : clB b = 6 := by
  have := byteAll (p := fun b => !signB b || clB b == 6) cl6 b
  rw [h] at this; simpa using this
theorem clOther {b : UInt8} (h1 : letterB b = false) (h2 : digitB b = false) (h3 : b.toNat ≠ 34) (h4 : b.toNat ≠ 39) (h5 : signB b = false) : clB b = 0 ∨ clB b = 1 := by
  have := byteAll (p := fun b => letterB b || digitB b || b.toNat == 34 || b.toNat == 39 || signB b || clB b == 0 || clB b == 1) cl0 b
  rw [h1, h2, h5] at this
  have e3 : (b.toNat == 34) = false := by simpa using h3
  have e4 : (b.toNat == 39) = false := by simpa using h4
  rw [e3, e4] at this
  simpa using this

theorem lower_eq (b : UInt8) : Lib.lowerB b = lowB b := by
  have h : ((List.range 256).all fun n => Lib.lowerB (UInt8.ofNat n) == lowB (UInt8.ofNat n)) = true := by kernel_rfl
  simpa using byteAll (p := fun b => Lib.lowerB b == lowB b) h b
theorem more_ascii (b : UInt8) (h : moreB b = true) : b.toNat < 128 := by
  simp only [moreB, letterB, digitB, Bool.or_eq_true, Bool.and_eq_true, decide_eq_true_eq, beq_iff_eq] at h
  omega

theorem run_size (s : ByteArray) (k : Nat) (hk : k ≤ s.size) : k + runN (s.data.toList.drop k) ≤ s.size := by
  have h := runN_le (s.data.toList.drop k)
  rw [List.length_drop] at h
  have : s.data.toList.length = s.size := by simp
  omega

set_option maxHeartbeats 2000000 in
theorem implTokWord {w : World} {g : Nat} {s : ByteArray} {k : Nat} (h : LexS w g s k) (hs : s.size ≤ 1048576) (hk : k < s.size) (hl : letterB s[k] = true) :
    Calls Tryz.prog 45 #[.pointer (some ⟨g, 0, none⟩)] w (TokAns w g s k) := by
  have HC := Lib.hid (clLetter hl)
  have hrun := run_size s k (by omega)
  have HONE := Lib.hid (one_word s k hk hl rfl)
  have HX := Lib.hid (run_extract s k _ rfl)
  have HM := Lib.hid (Moved.refl h)
  generalize hn : runN (s.data.toList.drop k) = n at *
  have HN := Lib.hid hn
  have hsz : (s.extract k (k + n)).size ≤ 1048576 := by simp; omega
  have HA : Hid (∀ (j : Nat) (b : UInt8), (s.extract k (k + n)).data.toList[j]? = some b → b.toNat < 128) := fun j b hb => by
    rw [HX.out] at hb
    refine more_ascii b (runL_all _ b (List.mem_of_getElem? hb))
  have HLW : Hid (∀ W, Calls Tryz.prog 73 #[.string (s.extract k (k + n))] W fun e w' => e = .returned (.string ⟨((runL (s.data.toList.drop k)).map lowB).toArray⟩) ∧ Below W.heap.size W w') := fun W => by
    have hc := Tryz.strings_ToLower_ascii (s.extract k (k + n)) W (by omega) HA.out
    have e : Lib.toLowerA (s.extract k (k + n)).data.toList = (runL (s.data.toList.drop k)).map lowB := by
      rw [HX.out]
      unfold Lib.toLowerA
      exact List.map_congr_left fun b _ => lower_eq b
    rw [e] at hc
    exact hc
  clear hl h hn
  go_enter Tryz.func45, Tryz.ntmps45
  go_wp2_with fail
  refine (implHere HM.out.1 hs hk 2 HC.out).mono ?_
  rintro e w1 ⟨rfl, n1, hw1⟩
  have mv1 : Moved w g s k w1 := hw1 ▸ HM.out.drewN n1
  clear hw1
  go_wp2_with fail
  refine (implRun mv1.1 hs (by omega)).mono ?_
  rw [HN.out]
  rintro e w2 ⟨rfl, mv2⟩
  go_wp2_with fail
  refine (HLW.out w2).mono ?_
  rintro e w3 ⟨rfl, hb3⟩
  go_wp2_with fail
  go_ret3
  exact .inl ⟨_, HONE.out, rfl, (mv1.trans mv2).of_below hb3⟩

set_option maxHeartbeats 2000000 in
theorem implTokNum {w : World} {g : Nat} {s : ByteArray} {k : Nat} (h : LexS w g s k) (tp : TypeId) (p : Value) (hG : Glob tp p w) (hg : 8 ≤ g) (hs : s.size ≤ 1048576) (hk : k < s.size) (hl : letterB s[k] = false) (hd : digitB s[k] = true) :
    Calls Tryz.prog 45 #[.pointer (some ⟨g, 0, none⟩)] w (TokAns w g s k) := by
  have HC := Lib.hid (clDigit hd)
  have hrun := run_size s k (by omega)
  have hone := one_num s k hk hl hd rfl
  have HX := Lib.hid (run_extract s k _ rfl)
  have HM := Lib.hid (Moved.refl h)
  have HONE := Lib.hid hone
  have HG := Lib.hid hG
  have hlt := h.lt
  generalize hn : runN (s.data.toList.drop k) = n at *
  have HN := Lib.hid hn
  have hsz : (s.extract k (k + n)).size ≤ 1048576 := by simp; omega
  clear hl h hn hone hd hG
  go_enter Tryz.func45, Tryz.ntmps45
  go_wp2_with fail
  refine (implHere HM.out.1 hs hk 3 HC.out).mono ?_
  rintro e w1 ⟨rfl, n1, hw1⟩
  have mv1 : Moved w g s k w1 := hw1 ▸ HM.out.drewN n1
  clear hw1
  go_wp2_with fail
  refine (implRun mv1.1 hs (by omega)).mono ?_
  rw [HN.out]
  rintro e w2 ⟨rfl, mv2⟩
  have mv12 := mv1.trans mv2
  have hG2 : Glob tp p w2 := HG.out.below (mv12.belowG hlt) hg
  have HG2 := Lib.hid hG2
  clear hG2
  go_wp2_with fail
  refine (implReadDec (s.extract k (k + n)) w2 HG2.out.1 tp p HG2.out.2).mono ?_
  rw [HX.out]
  rintro e w3 ⟨rfl, hb3⟩
  have mv3 := mv12.of_below hb3
  by_cases hr : 0 ≤ readD (runL (s.data.toList.drop k))
  · have ht : decide (0 ≤ readD (runL (s.data.toList.drop k))) = true := by simpa using hr
    have HO := Lib.hid (HONE.out.trans (if_pos hr))
    have HE : Hid (s.extract k (k + n) = ⟨(runL (s.data.toList.drop k)).toArray⟩) := by unfold Hid; rw [extract_arr, runL_takeN, HN.out]
    go_wp2_with fail
    go_ret3
    exact .inl ⟨_, HO.out, by rw [← HE.out]; rfl, mv3⟩
  · have ht : decide (0 ≤ readD (runL (s.data.toList.drop k))) = false := by simpa using hr
    have HO := Lib.hid (HONE.out.trans (if_neg hr))
    go_wp2_with fail
    go_ret3
    exact .inr ⟨HO.out, _, _, _, rfl, mv3⟩

set_option maxHeartbeats 2000000 in
theorem implTokName {w : World} {g : Nat} {s : ByteArray} {k : Nat} (h : LexS w g s k) (hs : s.size ≤ 1048576) (hk : k < s.size) (hq : s[k].toNat = 34) :
    Calls Tryz.prog 45 #[.pointer (some ⟨g, 0, none⟩)] w (TokAns w g s k) := by
  have HC := Lib.hid (clName hq)
  have HONE := Lib.hid (one_name s k hk hq)
  have hy : s[k] = 34 := UInt8.toNat_inj.1 hq
  have HY := Lib.hid hy
  have HM := Lib.hid (Moved.refl h)
  clear hq h hy
  go_enter Tryz.func45, Tryz.ntmps45
  go_wp2_with fail
  refine (implHere HM.out.1 hs hk 4 HC.out).mono ?_
  rintro e w1 ⟨rfl, n1, hw1⟩
  have mv1 : Moved w g s k w1 := hw1 ▸ HM.out.drewN n1
  clear hw1
  go_wp2_with fail
  refine (implQuoted mv1.1 34 hs hk).mono ?_
  rintro e w2 (⟨x, hqx, rfl, mv2⟩ | ⟨hqx, rfl, mv2⟩)
  · have hone : one (s.data.toList.drop k) = if nameB x.1 then some (1, x.1, 1 + x.2) else none := by rw [HONE.out, HY.out, hqx, Option.bind_some]
    cases hn : nameB x.1 with
    | true =>
      have HO := Lib.hid (hone.trans (if_pos hn))
      have HN := Lib.hid hn
      clear hn hone hqx
      go_wp2_with fail
      refine (implNameFits ⟨x.1.toArray⟩ _ true HN.out).mono ?_
      rintro e w3 ⟨rfl, rfl⟩
      go_wp2_with fail
      go_ret3
      exact .inl ⟨_, HO.out, rfl, by have := mv1.trans mv2; rwa [Nat.add_assoc] at this⟩
    | false =>
      have HO := Lib.hid (hone.trans (if_neg (by simp [hn])))
      have HN := Lib.hid hn
      clear hn hone hqx
      go_wp2_with fail
      refine (implNameFits ⟨x.1.toArray⟩ _ false HN.out).mono ?_
      rintro e w3 ⟨rfl, rfl⟩
      go_wp2_with fail
      go_ret3
      exact .inr ⟨HO.out, _, _, _, rfl, mv1.trans mv2⟩
  · have HO : Hid (one (s.data.toList.drop k) = none) := by unfold Hid; rw [HONE.out, HY.out, hqx]; rfl
    clear hqx
    go_wp2_with fail
    go_ret3
    exact .inr ⟨HO.out, _, _, _, rfl, mv1.trans mv2⟩

set_option maxHeartbeats 2000000 in
theorem implTokText {w : World} {g : Nat} {s : ByteArray} {k : Nat} (h : LexS w g s k) (hs : s.size ≤ 1048576) (hk : k < s.size) (hq : s[k].toNat = 39) :
    Calls Tryz.prog 45 #[.pointer (some ⟨g, 0, none⟩)] w (TokAns w g s k) := by
  have HC := Lib.hid (clText hq)
  have HONE := Lib.hid (one_text s k hk hq)
  have hy : s[k] = 39 := UInt8.toNat_inj.1 hq
  have HY := Lib.hid hy
  have HM := Lib.hid (Moved.refl h)
  clear hq h hy
  go_enter Tryz.func45, Tryz.ntmps45
  go_wp2_with fail
  refine (implHere HM.out.1 hs hk 5 HC.out).mono ?_
  rintro e w1 ⟨rfl, n1, hw1⟩
  have mv1 : Moved w g s k w1 := hw1 ▸ HM.out.drewN n1
  clear hw1
  go_wp2_with fail
  refine (implQuoted mv1.1 39 hs hk).mono ?_
  rintro e w2 (⟨x, hqx, rfl, mv2⟩ | ⟨hqx, rfl, mv2⟩)
  · have hone : one (s.data.toList.drop k) = if x.1.length ≤ 100 then some (3, x.1, 1 + x.2) else none := by rw [HONE.out, HY.out, hqx, Option.bind_some]
    have hsx : (⟨x.1.toArray⟩ : ByteArray).size = x.1.length := by simp [ByteArray.size]
    generalize hX : (⟨x.1.toArray⟩ : ByteArray) = X at hsx ⊢
    have HX := Lib.hid hX
    clear hX hqx
    by_cases hn : x.1.length ≤ 100
    · have HO := Lib.hid (hone.trans (if_pos hn))
      have ht : decide ((X.size : Int) ≤ 100) = true := by rw [hsx]; simp; omega
      clear hone hn hsx
      go_wp2_with fail
      go_ret3
      exact .inl ⟨_, HO.out, by rw [HX.out]; rfl, by have := mv1.trans mv2; rwa [Nat.add_assoc] at this⟩
    · have HO := Lib.hid (hone.trans (if_neg hn))
      have ht : decide ((X.size : Int) ≤ 100) = false := by rw [hsx]; simp; omega
      clear hone hn hsx
      go_wp2_with fail
      go_ret3
      exact .inr ⟨HO.out, _, _, _, rfl, mv1.trans mv2⟩
  · have HO : Hid (one (s.data.toList.drop k) = none) := by unfold Hid; rw [HONE.out, HY.out, hqx]; rfl
    clear hqx
    go_wp2_with fail
    go_ret3
    exact .inr ⟨HO.out, _, _, _, rfl, mv1.trans mv2⟩

set_option maxHeartbeats 2000000 in
theorem implTokSign {w : World} {g : Nat} {s : ByteArray} {k : Nat} (h : LexS w g s k) (hs : s.size ≤ 1048576) (hk : k < s.size) (h1 : letterB s[k] = false) (h2 : digitB s[k] = false) (h3 : s[k].toNat ≠ 34) (h4 : s[k].toNat ≠ 39) (h5 : signB s[k] = true) :
    Calls Tryz.prog 45 #[.pointer (some ⟨g, 0, none⟩)] w (TokAns w g s k) := by
  have HC := Lib.hid (clSign h5)
  have hone := one_sign_at s k hk h1 h2 h3 h4
  have hnz : signN (s.data.toList.drop k) ≠ 0 := by
    intro e
    rw [drop_at s k hk] at e
    have hd := drop_at s k hk
    cases hr : s.data.toList.drop (k + 1) with
    | nil => rw [hr, signN, if_pos h5] at e; cases e
    | cons c r =>
      rw [hr, signN] at e
      split at e
      · cases e
      · first | (cases e; done) | (rw [if_pos h5] at e; cases e)
  have HO := Lib.hid (hone.trans (if_neg hnz))
  have H5 := Lib.hid h5
  have HM := Lib.hid (Moved.refl h)
  clear hone hnz h1 h2 h3 h4 h5 h
  go_enter Tryz.func45, Tryz.ntmps45
  go_wp2_with fail
  refine (implHere HM.out.1 hs hk 6 HC.out).mono ?_
  rintro e w1 ⟨rfl, n1, hw1⟩
  have mv1 : Moved w g s k w1 := hw1 ▸ HM.out.drewN n1
  clear hw1
  go_wp2_with fail
  refine (implSign mv1.1 hs hk H5.out).mono ?_
  rintro e w2 ⟨rfl, mv2⟩
  go_wp2_with fail
  go_ret3
  exact .inl ⟨_, HO.out, by rw [← extract_arr]; rfl, mv1.trans mv2⟩

set_option maxHeartbeats 2000000 in
theorem implTokOther {w : World} {g : Nat} {s : ByteArray} {k : Nat} (h : LexS w g s k) (hs : s.size ≤ 1048576) (hk : k < s.size) (h1 : letterB s[k] = false) (h2 : digitB s[k] = false) (h3 : s[k].toNat ≠ 34) (h4 : s[k].toNat ≠ 39) (h5 : signB s[k] = false) :
    Calls Tryz.prog 45 #[.pointer (some ⟨g, 0, none⟩)] w (TokAns w g s k) := by
  have hone := one_sign_at s k hk h1 h2 h3 h4
  have hz : signN (s.data.toList.drop k) = 0 := by
    rw [drop_at s k hk]
    have h2f : ∀ c, twoB s[k] c = false := fun c => by
      cases ht : twoB s[k] c with
      | false => rfl
      | true => have := (two_sign ht).1; rw [h5] at this; cases this
    cases s.data.toList.drop (k + 1) with
    | nil => rw [signN, if_neg (by simp [h5])]
    | cons c r => rw [signN, if_neg (by simp [h2f c]), if_neg (by simp [h5])]
  have HO := Lib.hid (hone.trans (if_pos hz))
  have HM := Lib.hid (Moved.refl h)
  rcases clOther h1 h2 h3 h4 h5 with hc | hc
  · have HC := Lib.hid hc
    clear hone hz h1 h2 h3 h4 h5 h hc
    go_enter Tryz.func45, Tryz.ntmps45
    go_wp2_with fail
    refine (implHere HM.out.1 hs hk 0 HC.out).mono ?_
    rintro e w1 ⟨rfl, n1, rfl⟩
    go_wp2_with fail
    go_ret3
    exact .inr ⟨HO.out, _, _, _, rfl, HM.out.drewN n1⟩
  · have HC := Lib.hid hc
    clear hone hz h1 h2 h3 h4 h5 h hc
    go_enter Tryz.func45, Tryz.ntmps45
    go_wp2_with fail
    refine (implHere HM.out.1 hs hk 1 HC.out).mono ?_
    rintro e w1 ⟨rfl, n1, rfl⟩
    go_wp2_with fail
    go_ret3
    exact .inr ⟨HO.out, _, _, _, rfl, HM.out.drewN n1⟩

theorem implToken {w : World} {g : Nat} {s : ByteArray} {k : Nat} (h : LexS w g s k) (tp : TypeId) (p : Value) (hG : Glob tp p w) (hg : 8 ≤ g) (hs : s.size ≤ 1048576) (hk : k < s.size) :
    Calls Tryz.prog 45 #[.pointer (some ⟨g, 0, none⟩)] w (TokAns w g s k) := by
  cases h1 : letterB s[k] with
  | true => exact implTokWord h hs hk h1
  | false =>
    cases h2 : digitB s[k] with
    | true => exact implTokNum h tp p hG hg hs hk h1 h2
    | false =>
      by_cases h3 : s[k].toNat = 34
      · exact implTokName h hs hk h3
      · by_cases h4 : s[k].toNat = 39
        · exact implTokText h hs hk h4
        · cases h5 : signB s[k] with
          | true => exact implTokSign h hs hk h1 h2 h3 h4 h5
          | false => exact implTokOther h hs hk h1 h2 h3 h4 h5

end Go.Proofs.YtgnillmhpockkaaGreatDoor

namespace Go.Proofs.YtgnillmhpockkaaGreatDoor
open Go.RowKit

theorem setThree {w0 w : World} {B g : Nat} (h : Below B w0 w) (hg : B ≤ g) (u v x : Value) : Below B w0 (((w.setCell ⟨g, 0, none⟩ u).setCell ⟨g, 1, none⟩ v).setCell ⟨g, 2, none⟩ x) :=
  ((h.setCell (p := ⟨g, 0, none⟩) hg u).setCell (p := ⟨g, 1, none⟩) hg v).setCell (p := ⟨g, 2, none⟩) hg x

set_option maxHeartbeats 4000000 in
theorem specOneWord (s : ByteArray) (i : Nat) (w : World) (hi : i < s.size) (hs : s.size ≤ 1048576) (hb : letterB s[i] = true) :
    Calls Tryz.prog 90 #[.string s, .int .i64 (i : Int)] w (OneAns s i w) := by
  have hby := byte_le s[i]
  have HB := Lib.hid hb
  clear hb
  go_enter Tryz.func90, Tryz.ntmps90
  go_wp2_with fail
  refine (specLetterIs s[i] _ true HB.out).mono ?_
  rintro e w1 ⟨rfl, rfl⟩
  go_wp2_with fail
  go_loop [7] (fun v => ∃ m : Nat, v = .int .i64 m ∧ i + m ≤ s.size ∧ Hid (runN (s.data.toList.drop i) = m + runN (s.data.toList.drop (i + m)))) (fun v => s.size - (intOf v).toNat)
  case atStart => exact ⟨0, rfl, by omega, by unfold Hid; simp⟩
  case round =>
    obtain ⟨m, rfl, hm, hg⟩ := hrel
    have fin : ∀ (hn : runN (s.data.toList.drop (i + m)) = 0), Hid (runN (s.data.toList.drop i) = m) := fun hn => by unfold Hid; rw [hg.out, hn]; rfl
    by_cases hlt : i + m < s.size
    · have hbym := byte_le s[i + m]
      cases hmo : moreB s[i + m] with
      | true =>
        have HI := Lib.hid (run_in_at s (i + m) hlt hmo)
        have HM := Lib.hid hmo
        clear hmo fin
        go_wp2_with fail
        refine (specMore s[i + m] _ true HM.out).mono ?_
        rintro e w1 ⟨rfl, rfl⟩
        go_wp2_with fail
        exact ⟨⟨m + 1, by go_num, by omega, step_gap hg.out HI.out⟩, by simp [intOf]; omega⟩
      | false =>
        have HN := fin (run_out_at s (i + m) hlt hmo)
        have HM := Lib.hid hmo
        clear hmo fin
        go_wp2_with fail
        refine (specMore s[i + m] _ false HM.out).mono ?_
        rintro e w1 ⟨rfl, rfl⟩
        go_wp2_with fail
        refine (specLower (s.extract i (i + m)) _ (by simp; omega)).mono ?_
        rintro e w2 ⟨rfl, hb2⟩
        have hcell := tokCells hb2
        have d0 : w2.cell? ⟨w.heap.size, 0, none⟩ = some (.int .i64 0) := by rw [cell_of_row _ _ _ _ _ _ hcell]; rfl
        have d1 : w2.cell? ⟨w.heap.size, 1, none⟩ = some (.string ⟨#[]⟩) := by rw [cell_of_row _ _ _ _ _ _ hcell]; rfl
        have d2 : w2.cell? ⟨w.heap.size, 2, none⟩ = some (.int .i64 0) := by rw [cell_of_row _ _ _ _ _ _ hcell]; rfl
        have f0 : ∀ j, w2.frozen? ⟨w.heap.size, j, none⟩ = false := fun j => frozen_of_row _ _ _ _ _ hcell
        have f00 := f0 0
        have f01 := f0 1
        have f02 := f0 2
        have HB2 := Lib.hid (Below.tok hb2)
        clear hcell hb2 f0
        go_wp2_with fail
        refine bodyPost_ret (v := .tuple #[.agg #[.int .i64 0, .string ⟨((s.extract i (i + m)).data.toList.map lowB).toArray⟩, .int .i64 (i : Int)], .int .i64 (m : Int)]) (by simp [results, Tryz.results90, go_sem, d0, d1, d2]) rfl ?_
        exact oneAns_some (x := (0, _, m)) (one_word s i hi HB.out HN.out) (by rw [run_extract s i m HN.out]) (setThree HB2.out (Nat.le_refl _) _ _ _)
    · have hme : i + m = s.size := by omega
      have HN := fin (by rw [hme]; exact run_end_at s)
      clear hme fin
      go_wp2_with fail
      refine (specLower (s.extract i (i + m)) _ (by simp; omega)).mono ?_
      rintro e w2 ⟨rfl, hb2⟩
      have hcell := tokCells hb2
      have d0 : w2.cell? ⟨w.heap.size, 0, none⟩ = some (.int .i64 0) := by rw [cell_of_row _ _ _ _ _ _ hcell]; rfl
      have d1 : w2.cell? ⟨w.heap.size, 1, none⟩ = some (.string ⟨#[]⟩) := by rw [cell_of_row _ _ _ _ _ _ hcell]; rfl
      have d2 : w2.cell? ⟨w.heap.size, 2, none⟩ = some (.int .i64 0) := by rw [cell_of_row _ _ _ _ _ _ hcell]; rfl
      have f0 : ∀ j, w2.frozen? ⟨w.heap.size, j, none⟩ = false := fun j => frozen_of_row _ _ _ _ _ hcell
      have f00 := f0 0
      have f01 := f0 1
      have f02 := f0 2
      have HB2 := Lib.hid (Below.tok hb2)
      clear hcell hb2 f0
      go_wp2_with fail
      refine bodyPost_ret (v := .tuple #[.agg #[.int .i64 0, .string ⟨((s.extract i (i + m)).data.toList.map lowB).toArray⟩, .int .i64 (i : Int)], .int .i64 (m : Int)]) (by simp [results, Tryz.results90, go_sem, d0, d1, d2]) rfl ?_
      exact oneAns_some (x := (0, _, m)) (one_word s i hi HB.out HN.out) (by rw [run_extract s i m HN.out]) (setThree HB2.out (Nat.le_refl _) _ _ _)

set_option maxHeartbeats 4000000 in
theorem specOneNum (s : ByteArray) (i : Nat) (w : World) (hi : i < s.size) (hs : s.size ≤ 1048576) (hb : letterB s[i] = false) (hd : digitB s[i] = true) :
    Calls Tryz.prog 90 #[.string s, .int .i64 (i : Int)] w (OneAns s i w) := by
  have hby := byte_le s[i]
  have HB := Lib.hid hb
  have HD := Lib.hid hd
  clear hb hd
  go_enter Tryz.func90, Tryz.ntmps90
  go_wp2_with fail
  refine (specLetterIs s[i] _ false HB.out).mono ?_
  rintro e w1 ⟨rfl, rfl⟩
  go_wp2_with fail
  refine (specDigitB s[i] _ true HD.out).mono ?_
  rintro e w1 ⟨rfl, rfl⟩
  go_wp2_with fail
  go_loop [7] (fun v => ∃ m : Nat, v = .int .i64 m ∧ i + m ≤ s.size ∧ Hid (runN (s.data.toList.drop i) = m + runN (s.data.toList.drop (i + m)))) (fun v => s.size - (intOf v).toNat)
  case atStart => exact ⟨0, rfl, by omega, by unfold Hid; simp⟩
  case round =>
    obtain ⟨m, rfl, hm, hg⟩ := hrel
    have fin : ∀ (hn : runN (s.data.toList.drop (i + m)) = 0), Hid (runN (s.data.toList.drop i) = m) := fun hn => by unfold Hid; rw [hg.out, hn]; rfl
    by_cases hlt : i + m < s.size
    · have hbym := byte_le s[i + m]
      cases hmo : moreB s[i + m] with
      | true =>
        have HI := Lib.hid (run_in_at s (i + m) hlt hmo)
        have HM := Lib.hid hmo
        clear hmo fin
        go_wp2_with fail
        refine (specMore s[i + m] _ true HM.out).mono ?_
        rintro e w1 ⟨rfl, rfl⟩
        go_wp2_with fail
        exact ⟨⟨m + 1, by go_num, by omega, step_gap hg.out HI.out⟩, by simp [intOf]; omega⟩
      | false =>
        have HN := fin (run_out_at s (i + m) hlt hmo)
        have HM := Lib.hid hmo
        clear hmo fin
        go_wp2_with fail
        refine (specMore s[i + m] _ false HM.out).mono ?_
        rintro e w1 ⟨rfl, rfl⟩
        go_wp2_with fail
        have hrx := run_extract s i m HN.out
        have hone := one_num s i hi HB.out HD.out HN.out
        by_cases hr : 0 ≤ readD (runL (s.data.toList.drop i))
        · have HO := Lib.hid (hone.trans (if_pos hr))
          have HX := Lib.hid hrx
          have hr' : 0 ≤ readD (s.extract i (i + m)).data.toList := by rw [hrx]; exact hr
          clear hone hrx hr
          refine (specReadDec (s.extract i (i + m)) _ (by simp; omega)).mono ?_
          generalize readD (s.extract i (i + m)).data.toList = rd at hr'
          rintro e w2 ⟨rfl, rfl⟩
          go_wp2_with fail
          refine bodyPost_ret (v := .tuple #[.agg #[.int .i64 2, .string (s.extract i (i + m)), .int .i64 (i : Int)], .int .i64 (m : Int)]) (by simp [results, Tryz.results90, go_sem]) rfl ?_
          exact oneAns_some (x := (2, _, m)) HO.out (by rw [extract_arr, runL_takeN, HN.out]) ((Below.refl _ _).alloc (Nat.le_refl _) _)
        · have HO := Lib.hid (hone.trans (if_neg hr))
          have hr' : readD (s.extract i (i + m)).data.toList < 0 := by rw [hrx]; omega
          clear hone hrx hr
          refine (specReadDec (s.extract i (i + m)) _ (by simp; omega)).mono ?_
          generalize readD (s.extract i (i + m)).data.toList = rd at hr'
          rintro e w2 ⟨rfl, rfl⟩
          go_wp2_with fail
          refine bodyPost_ret (v := .tuple #[.agg #[.int .i64 0, .string ⟨#[]⟩, .int .i64 0], .int .i64 0]) (by simp [results, Tryz.results90, go_sem]) rfl ?_
          exact oneAns_none HO.out _ _ _ ((Below.refl _ _).alloc (Nat.le_refl _) _)
    · have hme : i + m = s.size := by omega
      have HN := fin (by rw [hme]; exact run_end_at s)
      clear hme fin
      go_wp2_with fail
      have hrx := run_extract s i m HN.out
      have hone := one_num s i hi HB.out HD.out HN.out
      by_cases hr : 0 ≤ readD (runL (s.data.toList.drop i))
      · have HO := Lib.hid (hone.trans (if_pos hr))
        have HX := Lib.hid hrx
        have hr' : 0 ≤ readD (s.extract i (i + m)).data.toList := by rw [hrx]; exact hr
        clear hone hrx hr
        refine (specReadDec (s.extract i (i + m)) _ (by simp; omega)).mono ?_
        generalize readD (s.extract i (i + m)).data.toList = rd at hr'
        rintro e w2 ⟨rfl, rfl⟩
        go_wp2_with fail
        refine bodyPost_ret (v := .tuple #[.agg #[.int .i64 2, .string (s.extract i (i + m)), .int .i64 (i : Int)], .int .i64 (m : Int)]) (by simp [results, Tryz.results90, go_sem]) rfl ?_
        exact oneAns_some (x := (2, _, m)) HO.out (by rw [extract_arr, runL_takeN, HN.out]) ((Below.refl _ _).alloc (Nat.le_refl _) _)
      · have HO := Lib.hid (hone.trans (if_neg hr))
        have hr' : readD (s.extract i (i + m)).data.toList < 0 := by rw [hrx]; omega
        clear hone hrx hr
        refine (specReadDec (s.extract i (i + m)) _ (by simp; omega)).mono ?_
        generalize readD (s.extract i (i + m)).data.toList = rd at hr'
        rintro e w2 ⟨rfl, rfl⟩
        go_wp2_with fail
        refine bodyPost_ret (v := .tuple #[.agg #[.int .i64 0, .string ⟨#[]⟩, .int .i64 0], .int .i64 0]) (by simp [results, Tryz.results90, go_sem]) rfl ?_
        exact oneAns_none HO.out _ _ _ ((Below.refl _ _).alloc (Nat.le_refl _) _)

end Go.Proofs.YtgnillmhpockkaaGreatDoor

namespace Go.Proofs.YtgnillmhpockkaaGreatDoor
open Go.RowKit

set_option maxHeartbeats 4000000 in
theorem specOneName (s : ByteArray) (i : Nat) (w : World) (hi : i < s.size) (hs : s.size ≤ 1048576) (hq : s[i].toNat = 34) :
    Calls Tryz.prog 90 #[.string s, .int .i64 (i : Int)] w (OneAns s i w) := by
  have hb : letterB s[i] = false := by simp [letterB, hq]
  have hd : digitB s[i] = false := by simp [digitB, hq]
  have hone := one_name s i hi hq
  have T34 := beqT (b := s[i]) (n := 34) (by omega)
  have HONE := Lib.hid hone
  clear hone hq
  have hby := byte_le s[i]
  have HB := Lib.hid hb
  have HD := Lib.hid hd
  clear hb hd
  go_enter Tryz.func90, Tryz.ntmps90
  go_wp2_with fail
  refine (specLetterIs s[i] _ false HB.out).mono ?_
  rintro e w1 ⟨rfl, rfl⟩
  go_wp2_with fail
  refine (specDigitB s[i] _ false HD.out).mono ?_
  rintro e w1 ⟨rfl, rfl⟩
  go_wp2_with fail
  refine (specQuoted s i _ hi hs).mono ?_
  rintro e w2 ⟨rfl, hb2⟩
  have hcell := tokCells hb2
  have d0 : w2.cell? ⟨w.heap.size, 0, none⟩ = some (.int .i64 0) := by rw [cell_of_row _ _ _ _ _ _ hcell]; rfl
  have d1 : w2.cell? ⟨w.heap.size, 1, none⟩ = some (.string ⟨#[]⟩) := by rw [cell_of_row _ _ _ _ _ _ hcell]; rfl
  have d2 : w2.cell? ⟨w.heap.size, 2, none⟩ = some (.int .i64 0) := by rw [cell_of_row _ _ _ _ _ _ hcell]; rfl
  have f0 : ∀ j, w2.frozen? ⟨w.heap.size, j, none⟩ = false := fun j => frozen_of_row _ _ _ _ _ hcell
  have f00 := f0 0
  have f01 := f0 1
  have f02 := f0 2
  have HB2 := Lib.hid (Below.tok hb2)
  clear hcell hb2 f0
  cases hqd : quoted s[i] (s.data.toList.drop (i + 1)) with
  | none =>
    have HO : Hid (one (s.data.toList.drop i) = none) := by unfold Hid; rw [HONE.out, hqd]; rfl
    clear hqd
    have hn : nameB (qText none).data.toList = false := by decide
    have HNM := Lib.hid hn
    clear hn
    simp only [qLen, qText] at HNM ⊢
    go_wp2_with fail
    refine (specName ⟨#[]⟩ _ (by decide)).mono ?_
    rw [HNM.out]
    rintro e w3 ⟨rfl, rfl⟩
    go_wp2_with fail
    refine bodyPost_ret (v := .tuple #[.agg #[.int .i64 0, .string ⟨#[]⟩, .int .i64 0], .int .i64 0]) (by simp [results, Tryz.results90, go_sem, d0, d1, d2]) rfl ?_
    exact oneAns_none HO.out _ _ _ (setThree HB2.out (Nat.le_refl _) _ _ _)
  | some x =>
    have hxl := quoted_len2 _ _ x (Nat.le_refl _) hqd
    have hsx : (⟨x.1.toArray⟩ : ByteArray).size = x.1.length := by simp [ByteArray.size]
    have hxs : x.1.length ≤ 1048576 := by
      have : (s.data.toList.drop (i + 1)).length ≤ s.size := by simp
      omega
    by_cases hc : nameB x.1 = true
    · have HO : Hid (one (s.data.toList.drop i) = some (1, x.1, 1 + x.2)) := by unfold Hid; rw [HONE.out, hqd, Option.bind_some, if_pos hc]
      have HNM := Lib.hid hc
      have HSX := Lib.hid hsx
      clear hqd hc hsx
      simp only [qLen, qText]
      go_wp2_with fail
      refine (specName ⟨x.1.toArray⟩ _ (by rw [HSX.out]; exact hxs)).mono ?_
      rw [show nameB (⟨x.1.toArray⟩ : ByteArray).data.toList = true from HNM.out]
      rintro e w3 ⟨rfl, rfl⟩
      go_wp2_with fail
      refine bodyPost_ret (v := .tuple #[.agg #[.int .i64 1, .string ⟨x.1.toArray⟩, .int .i64 (i : Int)], .int .i64 ((1 + x.2 : Nat) : Int)]) (by simp [results, Tryz.results90, go_sem, d0, d1, d2]) rfl ?_
      exact oneAns_some (x := (1, x.1, 1 + x.2)) HO.out rfl (setThree HB2.out (Nat.le_refl _) _ _ _)
    · have HO : Hid (one (s.data.toList.drop i) = none) := by unfold Hid; rw [HONE.out, hqd, Option.bind_some, if_neg hc]
      have hc' : nameB x.1 = false := by simpa using hc
      have HNM := Lib.hid hc'
      have HSX := Lib.hid hsx
      clear hqd hc hc' hsx
      simp only [qLen, qText]
      go_wp2_with fail
      refine (specName ⟨x.1.toArray⟩ _ (by rw [HSX.out]; exact hxs)).mono ?_
      rw [show nameB (⟨x.1.toArray⟩ : ByteArray).data.toList = false from HNM.out]
      rintro e w3 ⟨rfl, rfl⟩
      go_wp2_with fail
      refine bodyPost_ret (v := .tuple #[.agg #[.int .i64 0, .string ⟨#[]⟩, .int .i64 0], .int .i64 0]) (by simp [results, Tryz.results90, go_sem, d0, d1, d2]) rfl ?_
      exact oneAns_none HO.out _ _ _ (setThree HB2.out (Nat.le_refl _) _ _ _)

set_option maxHeartbeats 4000000 in
theorem specOneText (s : ByteArray) (i : Nat) (w : World) (hi : i < s.size) (hs : s.size ≤ 1048576) (hq : s[i].toNat = 39) :
    Calls Tryz.prog 90 #[.string s, .int .i64 (i : Int)] w (OneAns s i w) := by
  have hb : letterB s[i] = false := by simp [letterB, hq]
  have hd : digitB s[i] = false := by simp [digitB, hq]
  have hone := one_text s i hi hq
  have T34 := beqF (b := s[i]) (n := 34) (by omega)
  have T39 := beqT (b := s[i]) (n := 39) (by omega)
  have HONE := Lib.hid hone
  clear hone hq
  have hby := byte_le s[i]
  have HB := Lib.hid hb
  have HD := Lib.hid hd
  clear hb hd
  go_enter Tryz.func90, Tryz.ntmps90
  go_wp2_with fail
  refine (specLetterIs s[i] _ false HB.out).mono ?_
  rintro e w1 ⟨rfl, rfl⟩
  go_wp2_with fail
  refine (specDigitB s[i] _ false HD.out).mono ?_
  rintro e w1 ⟨rfl, rfl⟩
  go_wp2_with fail
  refine (specQuoted s i _ hi hs).mono ?_
  rintro e w2 ⟨rfl, hb2⟩
  have hcell := tokCells hb2
  have d0 : w2.cell? ⟨w.heap.size, 0, none⟩ = some (.int .i64 0) := by rw [cell_of_row _ _ _ _ _ _ hcell]; rfl
  have d1 : w2.cell? ⟨w.heap.size, 1, none⟩ = some (.string ⟨#[]⟩) := by rw [cell_of_row _ _ _ _ _ _ hcell]; rfl
  have d2 : w2.cell? ⟨w.heap.size, 2, none⟩ = some (.int .i64 0) := by rw [cell_of_row _ _ _ _ _ _ hcell]; rfl
  have f0 : ∀ j, w2.frozen? ⟨w.heap.size, j, none⟩ = false := fun j => frozen_of_row _ _ _ _ _ hcell
  have f00 := f0 0
  have f01 := f0 1
  have f02 := f0 2
  have HB2 := Lib.hid (Below.tok hb2)
  clear hcell hb2 f0
  cases hqd : quoted s[i] (s.data.toList.drop (i + 1)) with
  | none =>
    have HO : Hid (one (s.data.toList.drop i) = none) := by unfold Hid; rw [HONE.out, hqd]; rfl
    clear hqd
    simp only [qLen, qText]
    go_wp2_with fail
    refine bodyPost_ret (v := .tuple #[.agg #[.int .i64 3, .string ⟨#[]⟩, .int .i64 (i : Int)], .int .i64 0]) (by simp [results, Tryz.results90, go_sem, d0, d1, d2]) rfl ?_
    exact oneAns_none HO.out _ _ _ (setThree HB2.out (Nat.le_refl _) _ _ _)
  | some x =>
    have hxl := quoted_len2 _ _ x (Nat.le_refl _) hqd
    have hsx : (⟨x.1.toArray⟩ : ByteArray).size = x.1.length := by simp [ByteArray.size]
    have hxs : x.1.length ≤ 1048576 := by
      have : (s.data.toList.drop (i + 1)).length ≤ s.size := by simp
      omega
    by_cases hc : x.1.length ≤ 100
    · have HO : Hid (one (s.data.toList.drop i) = some (3, x.1, 1 + x.2)) := by unfold Hid; rw [HONE.out, hqd, Option.bind_some, if_pos hc]
      have hsz : ¬ ((100 : Int) < ((⟨x.1.toArray⟩ : ByteArray).size : Int)) := by rw [hsx]; omega
      clear hqd hc hsx
      simp only [qLen, qText]
      generalize hX : (⟨x.1.toArray⟩ : ByteArray) = X at hsz ⊢
      have HX := Lib.hid hX
      clear hX
      go_wp2_with fail
      refine bodyPost_ret (v := .tuple #[.agg #[.int .i64 3, .string X, .int .i64 (i : Int)], .int .i64 ((1 + x.2 : Nat) : Int)]) (by simp [results, Tryz.results90, go_sem, d0, d1, d2]) rfl ?_
      exact oneAns_some (x := (3, x.1, 1 + x.2)) HO.out HX.out.symm (setThree HB2.out (Nat.le_refl _) _ _ _)
    · have HO : Hid (one (s.data.toList.drop i) = none) := by unfold Hid; rw [HONE.out, hqd, Option.bind_some, if_neg hc]
      have hsz : (100 : Int) < ((⟨x.1.toArray⟩ : ByteArray).size : Int) := by rw [hsx]; omega
      clear hqd hc hsx
      simp only [qLen, qText]
      generalize hX : (⟨x.1.toArray⟩ : ByteArray) = X at hsz ⊢
      have HX := Lib.hid hX
      clear hX
      go_wp2_with fail
      refine bodyPost_ret (v := .tuple #[.agg #[.int .i64 0, .string ⟨#[]⟩, .int .i64 0], .int .i64 0]) (by simp [results, Tryz.results90, go_sem, d0, d1, d2]) rfl ?_
      exact oneAns_none HO.out _ _ _ (setThree HB2.out (Nat.le_refl _) _ _ _)

set_option maxHeartbeats 4000000 in
theorem specOneSign (s : ByteArray) (i : Nat) (w : World) (hi : i < s.size) (hs : s.size ≤ 1048576) (hb : letterB s[i] = false) (hd : digitB s[i] = false) (h34 : s[i].toNat ≠ 34) (h39 : s[i].toNat ≠ 39) :
    Calls Tryz.prog 90 #[.string s, .int .i64 (i : Int)] w (OneAns s i w) := by
  have hone := one_sign_at s i hi hb hd h34 h39
  have T34 := beqF (b := s[i]) (n := 34) (by omega)
  have T39 := beqF (b := s[i]) (n := 39) (by omega)
  have HONE := Lib.hid hone
  have hsn : signN (s.data.toList.drop i) ≤ (s.data.toList.drop i).length := signN_len _
  have hsn' : i + signN (s.data.toList.drop i) ≤ s.size := by
    rw [List.length_drop] at hsn
    have : s.data.toList.length = s.size := by simp
    omega
  clear hone h34 h39 hsn
  have hby := byte_le s[i]
  have HB := Lib.hid hb
  have HD := Lib.hid hd
  clear hb hd
  go_enter Tryz.func90, Tryz.ntmps90
  go_wp2_with fail
  refine (specLetterIs s[i] _ false HB.out).mono ?_
  rintro e w1 ⟨rfl, rfl⟩
  go_wp2_with fail
  refine (specDigitB s[i] _ false HD.out).mono ?_
  rintro e w1 ⟨rfl, rfl⟩
  go_wp2_with fail
  refine (specSign s i _ hi hs).mono ?_
  generalize hsg : signN (s.data.toList.drop i) = n at hsn' HONE
  have HSG := Lib.hid hsg
  clear hsg
  rintro e w2 ⟨rfl, rfl⟩
  go_wp2_with fail
  refine bodyPost_ret (v := .tuple #[.agg #[.int .i64 4, .string (s.extract i (i + n)), .int .i64 (i : Int)], .int .i64 (n : Int)]) (by simp [results, Tryz.results90, go_sem]) rfl ?_
  by_cases h0 : n = 0
  · subst h0
    exact oneAns_none (HONE.out.trans (if_pos rfl)) _ _ _ ((Below.refl _ _).alloc (Nat.le_refl _) _)
  · exact oneAns_some (x := (4, _, n)) (HONE.out.trans (if_neg h0)) (extract_arr s i n) ((Below.refl _ _).alloc (Nat.le_refl _) _)

theorem specOne (s : ByteArray) (i : Nat) (w : World) (hi : i < s.size) (hs : s.size ≤ 1048576) :
    Calls Tryz.prog 90 #[.string s, .int .i64 (i : Int)] w (OneAns s i w) := by
  cases h1 : letterB s[i] with
  | true => exact specOneWord s i w hi hs h1
  | false =>
    cases h2 : digitB s[i] with
    | true => exact specOneNum s i w hi hs h1 h2
    | false =>
      by_cases h3 : s[i].toNat = 34
      · exact specOneName s i w hi hs h3
      · by_cases h4 : s[i].toNat = 39
        · exact specOneText s i w hi hs h4
        · exact specOneSign s i w hi hs h1 h2 h3 h4

end Go.Proofs.YtgnillmhpockkaaGreatDoor

namespace Go.Proofs.YtgnillmhpockkaaGreatDoor
open Go.RowKit

theorem wpAppendTok {w : World} {ops : Array Oper} {rest : List Oper} {o : Oper} {A : Act} {Q : Exit → Act → World → Prop} (hgd : o.guard = none) (s x : Operand)
    (ho : o.op = .call { callee := .builtin .append, args := #[s, x], argTypes := #[27, 27] })
    (i0 : TypeInfo) (hi0 : Tryz.prog.info? 36 = some i0) (hz0 : i0.zero = some (.agg #[.int .i64 0, .string ByteArray.empty, .int .i64 0])) (hz1 : i0.size = 3) (hz2 : i0.bytes = 32)
    (B : Nat) (a : Option Addr) (c : Nat) (l : List Tk) (g : Nat) (y : Tk) (hs : A.eval s = .slice a l.length c) (hown : OwnT w B a c l) (hx : A.eval x = .slice (some ⟨g, 0, none⟩) 1 1) (hc : w.heap[g]? = some (.cells #[.int .i64 y.kind, .string y.text, .int .i64 y.at_] 36 (0, 0)))
    (hn : l.length + 1 ≤ 1073741824) (hB : B ≤ w.heap.size)
    (h : ∀ a' c' w' l', Hid (l' = l ++ [y]) → OwnT w' B a' c' l' → w.grownBy w' (Value.slice a l.length c).ownBlock → ((Value.slice a' l'.length c').ownBlock = (Value.slice a l.length c).ownBlock ∨ (Value.slice a' l'.length c').ownBlock = some w.heap.size) → wpList Tryz.prog ops Q rest (A.put o.dst (.slice a' l'.length c')) w') :
    wpList Tryz.prog ops Q (o :: rest) A w := by
  refine wpList_append_own_at _ hgd s x 27 ho B 36 i0 (.agg #[.int .i64 0, .string ByteArray.empty, .int .i64 0]) 3 32 Tryz.underlying27 hi0 hz0 hz1 hz2 rfl (by decide) (.slice a l.length c) l.length (tcells l) hs hown
    ⟨g, 0, none⟩ 1 1 [.int .i64 y.kind, .string y.text, .int .i64 y.at_] hx rfl ?_ (fun u hu => by simp at hu; rcases hu with rfl | rfl | rfl <;> rfl) (by unfold maxLen; omega) (by omega) hB ?_
  · intro j u hu
    have hadd : (⟨g, 0, none⟩ : Addr).add j = ⟨g, j, none⟩ := by unfold Addr.add; by_cases h0 : j = 0 <;> simp [h0]
    rw [hadd, cell_of_row _ _ _ _ _ _ hc]
    simpa using hu
  · intro v' w' hown' hg _ hat
    have hf : ∃ a' c', v' = .slice a' (l.length + 1) c' := by
      rcases hown'.2 with ⟨_, h0⟩ | ⟨g', cap, cur, rfl, _⟩
      · omega
      · exact ⟨_, _, rfl⟩
    obtain ⟨a', c', rfl⟩ := hf
    have hb : tcells l ++ [.int .i64 y.kind, .string y.text, .int .i64 y.at_] = tcells (l ++ [y]) := by rw [tcells_append]; rfl
    rw [hb] at hown'
    have hll : (l ++ [y]).length = l.length + 1 := by simp
    have := h a' c' w' (l ++ [y]) rfl (by unfold OwnT; rw [hll]; exact hown') hg (by rw [hll]; exact hat)
    rw [hll] at this
    exact this

theorem OwnT.alloc {w : World} {B : Nat} {a : Option Addr} {c : Nat} {l : List Tk} (h : OwnT w B a c l) (o : Obj) : OwnT (w.alloc o) B a c l :=
  h.below ((Below.refl _ _).alloc (Nat.le_refl _) _)

theorem ownTEmpty (w : World) : OwnT (w.alloc (.cells #[] 36)) w.heap.size (some ⟨w.heap.size, 0, none⟩) 0 [] :=
  World.ownsRow_lit (base := w.heap.size) (e := 36) (size := 3) w #[] 0 (Nat.le_refl _) (by unfold maxLen; omega) rfl

theorem hidT_len {l l' : List Tk} {y : Tk} (h : Hid (l' = l ++ [y])) : l'.length = l.length + 1 := by rw [h.out]; simp

end Go.Proofs.YtgnillmhpockkaaGreatDoor

namespace Go.Proofs.YtgnillmhpockkaaGreatDoor
open Go.RowKit

def tkOf (x : Tok) : Tk := ⟨(x.kind : Int), ⟨x.text.toArray⟩, (x.at_ : Int)⟩
def toks (s : ByteArray) : List Tk := (wordsOf (lexB s.data.toList)).map tkOf

/-- How Lex answers. -/
def LexAns (s : ByteArray) (w : World) (e : Ending) (w' : World) : Prop :=
  ∃ a c, e = .returned (.tuple #[.slice a (toks s).length c, .int .i64 (placeOf (lexB s.data.toList))]) ∧ OwnT w' w.heap.size a c (toks s) ∧ Below w.heap.size w w'

theorem lexAns_mk {s : ByteArray} {w w' : World} {ys : List Tk} {p : Int} {a : Option Addr} {c : Nat} (hy : toks s = ys) (hp : placeOf (lexB s.data.toList) = p) (ho : OwnT w' w.heap.size a c ys) (hb : Below w.heap.size w w') : LexAns s w (.returned (.tuple #[.slice a ys.length c, .int .i64 p])) w' := by
  subst hy hp
  exact ⟨a, c, rfl, ho, hb⟩

theorem gap_len (c : Bool) (l : List UInt8) : gap c l ≤ l.length := by
  rcases gap_tail l c with ⟨h, _⟩ | ⟨h, _⟩ <;> omega

theorem ok_of_cat {l : List UInt8} {acc : List Tok} (h : lexB l = cat acc (.ok [])) : (wordsOf (lexB l)).map tkOf = acc.map tkOf ∧ placeOf (lexB l) = -1 := by
  rw [h]; simp [cat, wordsOf, placeOf]
theorem bad_of_cat {l : List UInt8} {acc : List Tok} {k : Nat} (h : lexB l = cat acc (.error k)) : (wordsOf (lexB l)).map tkOf = [] ∧ placeOf (lexB l) = (k : Int) := by
  rw [h]; simp [cat, wordsOf, placeOf]

theorem lexStep {l : List UInt8} {acc : List Tok} {k : Nat} {x : Nat × List UInt8 × Nat} (h : lexB l = cat acc (lexAt k (l.drop k))) (h1 : one (l.drop k) = some x) :
    lexB l = cat (acc ++ [⟨x.1, x.2.1, k⟩]) (lexAt (k + x.2.2 + gap false (l.drop (k + x.2.2))) (l.drop (k + x.2.2 + gap false (l.drop (k + x.2.2))))) := by
  rw [h, lexAt_one (k := x.1) (t := x.2.1) (n := x.2.2) h1, cat_cat, List.drop_drop, List.drop_drop]

set_option maxHeartbeats 4000000 in
theorem specLex (s : ByteArray) (w : World) (hs : s.size ≤ 1048576) : Calls Tryz.prog 59 #[.string s] w (LexAns s w) := by
  obtain ⟨i0, hi0, hz0, hz1, hz2⟩ := info_parts Tryz.infoToken
  have hll : s.data.toList.length = s.size := by simp
  by_cases hbig : (20000 : Int) < (s.size : Int)
  · have HB : Hid (lexB s.data.toList = .error 20000) := by unfold Hid lexB; rw [if_pos (by rw [hll]; omega)]
    clear hll
    go_enter Tryz.func59, Tryz.ntmps59
    go_wp2_with fail
    go_ret2
    exact lexAns_mk (ys := []) (by unfold toks; rw [HB.out]; rfl) (by rw [HB.out]; rfl) (ownTEmpty w) ((Below.refl _ _).alloc (Nat.le_refl _) _)
  · have HB : Hid (lexB s.data.toList = lexAt (gap false s.data.toList) (s.data.toList.drop (gap false s.data.toList))) := by unfold Hid lexB; rw [if_neg (by rw [hll]; omega)]
    have HLL := Lib.hid hll
    have hg0 : gap false s.data.toList ≤ s.size := by have := gap_len false s.data.toList; omega
    have HG0 : Hid (gap false (s.data.toList.drop 0) = gap false s.data.toList) := by unfold Hid; simp
    clear hll
    go_enter Tryz.func59, Tryz.ntmps59
    go_wp2_with fail
    refine (specGap s 0 _ (Nat.zero_le _) hs).mono ?_
    rw [HG0.out]
    rintro e w1 ⟨rfl, rfl⟩
    go_wp2_with fail
    go_loopw [4, 5] (fun v p wr => ∃ (k : Nat) (acc : List Tok) (ys : List Tk) (a1 : Option Addr) (c1 : Nat), k ≤ s.size ∧ p = .int .i64 k ∧ v = .slice a1 ys.length c1 ∧ ys.length ≤ k ∧ Hid (ys = acc.map tkOf) ∧ Hid (lexB s.data.toList = cat acc (lexAt k (s.data.toList.drop k))) ∧ OwnT wr w.heap.size a1 c1 ys ∧ Below w.heap.size w wr) (fun _ p _ => s.size - (intOf p).toNat)
    case atStart => exact ⟨_, [], [], _, _, hg0, rfl, rfl, Nat.zero_le _, rfl, by unfold Hid; rw [HB.out, cat_nil], ownTEmpty w, (Below.refl _ _).alloc (Nat.le_refl _) _⟩
    case round =>
      obtain ⟨k, acc, ys, a1, c1, hk, rfl, rfl, hyk, hys, hlex, hown, hb⟩ := hrel
      have hsz := hb.size
      by_cases hlt : k < s.size
      · go_wp2_with fail
        refine (specOne s k _ hlt hs).mono ?_
        rintro e w2 ⟨ka, t, p, n, rfl, hm, hb2⟩
        have own2 := hown.below hb2
        have B2 : Below w.heap.size w w2 := hb.trans (hb2.mono hsz)
        have hsz2 := B2.size
        have hd0 : s.data.toList.drop k ≠ [] := by rw [drop_at s k hlt]; simp
        cases h1 : one (s.data.toList.drop k) with
        | none =>
          rw [h1] at hm
          have hn0 : n = 0 := hm
          subst hn0
          have HX : Hid (lexB s.data.toList = cat acc (.error k)) := by unfold Hid; rw [hlex.out, lexAt_bad hd0 h1]
          clear hm h1 hd0
          go_wp2_with fail
          go_ret2
          have hbd := bad_of_cat HX.out
          exact lexAns_mk (ys := []) hbd.1 hbd.2 (by have h := ownTEmpty (w2.alloc (.cells #[.int .i64 ka, .string t, .int .i64 p] 36)); rw [size_alloc1] at h; exact h.lower (by omega)) ((B2.alloc hsz2 _).alloc (by rw [size_alloc1]; omega) _)
        | some x =>
          rw [h1] at hm
          obtain ⟨hn, rfl, rfl, rfl⟩ := hm
          have hpos := one_pos (k := x.1) (t := x.2.1) (n := x.2.2) h1
          obtain ⟨hle, _⟩ := one_le (k := x.1) (t := x.2.1) (n := x.2.2) h1
          have hkn : k + n ≤ s.size := by rw [List.length_drop, HLL.out] at hle; omega
          have hnz : ((n : Int) == 0) = false := by rw [beq_eq_false_iff_ne]; omega
          have hnp : 0 < n := by omega
          have HX := Lib.hid (lexStep hlex.out h1)
          rw [← hn] at HX
          have hgl : k + n + gap false (s.data.toList.drop (k + n)) ≤ s.size := by
            have := gap_len false (s.data.toList.drop (k + n))
            rw [List.length_drop, HLL.out] at this
            omega
          have HN := Lib.hid hn
          clear h1 hd0 hle hn hpos
          go_wp2_with (at_builtin; refine wpAppendTok rfl (.tmp 29) (.tmp 31) rfl i0 hi0 hz0 hz1 hz2 w.heap.size a1 c1 ys (w2.heap.size + 1) ⟨(x.1 : Int), ⟨x.2.1.toArray⟩, (k : Int)⟩ rfl ((own2.alloc _).alloc _) rfl (by rw [← size_alloc1 w2 (.cells #[.int .i64 (x.1 : Int), .string ⟨x.2.1.toArray⟩, .int .i64 (k : Int)] 36)]; exact heap_alloc_new _ _) (by omega) (by rw [size_alloc1, size_alloc1]; omega) ?_; intro a3 c3 w3 l3 hl3 hown3 hg3 _)
          have B3 : Below w.heap.size w w3 := ((B2.alloc hsz2 _).alloc (by rw [size_alloc1]; omega) _).grown hg3 (by rw [size_alloc1, size_alloc1]; omega) (fun q hq => (own2.lt hq).1)
          have hgap := specGap s (k + n) w3 hkn hs
          rw [Int.natCast_add] at hgap
          refine hgap.mono ?_
          rintro e w4 ⟨rfl, rfl⟩
          generalize gap false (s.data.toList.drop (k + n)) = gn at HX hgl
          clear hgap
          go_wp2_with fail
          go_roundw
          case rel => exact ⟨k + n + gn, acc ++ [⟨x.1, x.2.1, k⟩], l3, a3, c3, hgl, by go_num, rfl, by rw [hidT_len hl3]; omega, by unfold Hid; rw [hl3.out, hys.out]; simp [tkOf], HX, hown3, B3⟩
          case measure => simp [intOf]; omega
      · obtain rfl : k = s.size := by omega
        have HX : Hid (lexB s.data.toList = cat acc (.ok [])) := by unfold Hid; rw [hlex.out, List.drop_of_length_le (by rw [HLL.out]; exact Nat.le_refl _), lexAt_nil]
        go_wp2_with fail
        go_ret2
        have hok := ok_of_cat HX.out
        exact lexAns_mk (ys := ys) (by rw [hys.out]; exact hok.1) hok.2 hown hb

end Go.Proofs.YtgnillmhpockkaaGreatDoor

namespace Go.Proofs.YtgnillmhpockkaaGreatDoor
open Go.RowKit

/-- Cells laid over a row, one after another. -/
def setAll (D : Array Value) (o : Nat) : List Value → Array Value
  | [] => D
  | v :: r => setAll (D.setIfInBounds o v) (o + 1) r

theorem setAll_size : ∀ (vs : List Value) (D : Array Value) (o : Nat), (setAll D o vs).size = D.size
  | [], _, _ => rfl
  | v :: r, D, o => by rw [setAll, setAll_size r]; simp

theorem setAll_out : ∀ (vs : List Value) (D : Array Value) (o i : Nat), i < o ∨ o + vs.length ≤ i → (setAll D o vs)[i]? = D[i]?
  | [], _, _, _, _ => rfl
  | v :: r, D, o, i, h => by
    simp only [List.length_cons] at h
    rw [setAll, setAll_out r _ _ _ (by omega), Array.getElem?_setIfInBounds_ne (by omega)]

theorem setAll_in : ∀ (vs : List Value) (D : Array Value) (o i : Nat) (h : i < vs.length), o + vs.length ≤ D.size → (setAll D o vs)[o + i]? = some vs[i]
  | [], _, _, _, h, _ => by simp at h
  | v :: r, D, o, 0, _, hs => by
    simp only [List.length_cons] at hs
    rw [setAll, setAll_out r _ _ _ (by omega), Nat.add_zero, Array.getElem?_setIfInBounds_self, if_pos (by omega)]
    rfl
  | v :: r, D, o, i + 1, h, hs => by
    simp only [List.length_cons] at hs
    rw [setAll, show o + (i + 1) = o + 1 + i by omega, setAll_in r _ _ i (by simpa using h) (by simp; omega)]
    rfl

theorem heap_setCells : ∀ (vs : List Value) (w : World) (g o : Nat) (D : Array Value) (t : TypeId), w.heap[g]? = some (.cells D t (0, 0)) → (w.setCells g o vs).heap[g]? = some (.cells (setAll D o vs) t (0, 0))
  | [], _, _, _, _, _, h => h
  | v :: r, w, g, o, D, t, h => by
    rw [World.setCells, setAll]
    exact heap_setCells r _ g (o + 1) _ t (heap_setCell_same w g o _ _ v h)

/-- The lexer's cells, as they are put together. -/
noncomputable def lexC (s : ByteArray) (cs : Array Value) : Array Value :=
  Array.foldl (fun cs x => cs.setIfInBounds (2 + x.snd) x.fst) ((Tryz.zeroCells60.setIfInBounds 0 (.string s)).setIfInBounds 1 (.int .i64 0)) cs.zipIdx 0 256

theorem fold_setAll (l : List Value) (D : Array Value) (n : Nat) : (l.zipIdx n).foldl (fun cs x => cs.setIfInBounds (2 + x.snd) x.fst) D = setAll D (2 + n) l := by
  induction l generalizing D n with
  | nil => rfl
  | cons v r ih => rw [List.zipIdx_cons, List.foldl_cons, ih, setAll]; rfl

theorem lexC_eq (s : ByteArray) (cs : Array Value) (h : cs.size = 256) : lexC s cs = setAll ((Tryz.zeroCells60.setIfInBounds 0 (.string s)).setIfInBounds 1 (.int .i64 0)) 2 cs.toList := by
  unfold lexC
  rw [← fold_setAll cs.toList _ 0]
  have hz : cs.zipIdx.size = 256 := by simp [h]
  rw [← hz, ← Array.foldl_toList]
  simp

theorem zeroLexer : Tryz.zeroCells60.size = 258 := by kernel_rfl
theorem zeroLexerOne : (Tryz.zeroCells60.all fun v => v.oneCell') = true := by kernel_rfl

theorem lexC_size (s : ByteArray) (cs : Array Value) (h : cs.size = 256) : (lexC s cs).size = 258 := by
  rw [lexC_eq s cs h, setAll_size]; simp [zeroLexer]

theorem lexC_facts (s : ByteArray) (cs : Array Value) (h : Cls cs classA) : (lexC s cs)[0]? = some (.string s) ∧ (lexC s cs)[1]? = some (.int .i64 ((0 : Nat) : Int)) ∧ ∀ b : UInt8, (lexC s cs)[2 + b.toNat]? = some (.int .i64 (clB b)) := by
  rw [lexC_eq s cs h.1]
  refine ⟨?_, ?_, fun b => ?_⟩
  · rw [setAll_out _ _ _ _ (by omega), Array.getElem?_setIfInBounds_ne (by omega), Array.getElem?_setIfInBounds_self, if_pos (by rw [zeroLexer]; omega)]
  · rw [setAll_out _ _ _ _ (by omega), Array.getElem?_setIfInBounds_self, if_pos (by simp [zeroLexer])]
    rfl
  · have hb := UInt8.toNat_lt b
    have hl : b.toNat < cs.toList.length := by rw [Array.length_toList, h.1]; omega
    rw [setAll_in _ _ _ _ hl (by rw [Array.length_toList, h.1]; simp [zeroLexer])]
    have := h.2 b.toNat (by omega)
    rw [class_eq] at this
    rw [← this]
    simp

theorem lexC_one (s : ByteArray) (cs : Array Value) (h : Cls cs classA) : (lexC s cs).all (·.oneCell') = true := by
  rw [Array.all_eq_true]
  intro i hi
  have hsz := lexC_size s cs h.1
  obtain ⟨h0, h1, h2⟩ := lexC_facts s cs h
  have key : ∀ v, (lexC s cs)[i]? = some v → v.oneCell' = true → (lexC s cs)[i].oneCell' = true := fun v hv ho => by
    rw [Array.getElem?_eq_getElem hi] at hv
    rw [Option.some.inj hv]; exact ho
  rcases Nat.lt_or_ge i 2 with hlt | hge
  · rcases Nat.lt_or_ge i 1 with h' | h'
    · have : i = 0 := by omega
      subst this
      exact key _ h0 rfl
    · have : i = 1 := by omega
      subst this
      exact key _ h1 rfl
  · have hb : i - 2 < 256 := by omega
    have := h2 (UInt8.ofNat (i - 2))
    rw [UInt8.toNat_ofNat', Nat.mod_eq_of_lt (by omega), show 2 + (i - 2) = i by omega] at this
    exact key _ this rfl

theorem lexLaid (w : World) (s : ByteArray) (cs : Array Value) (h : Cls cs classA) : LexS ((w.alloc (.cells Tryz.zeroCells60 60)).setCells w.heap.size 0 (lexC s cs).toList) w.heap.size s 0 := by
  have hg := heap_setCells (lexC s cs).toList (w.alloc (.cells Tryz.zeroCells60 60)) w.heap.size 0 _ _ (heap_alloc_new w _)
  obtain ⟨h0, h1, h2⟩ := lexC_facts s cs h
  have hsz := lexC_size s cs h.1
  have get : ∀ i v, i < 258 → (lexC s cs)[i]? = some v → (setAll Tryz.zeroCells60 0 (lexC s cs).toList)[i]? = some v := fun i v hi hv => by
    have hl : i < (lexC s cs).toList.length := by rw [Array.length_toList]; omega
    have := setAll_in (lexC s cs).toList Tryz.zeroCells60 0 i hl (by rw [Array.length_toList, hsz, zeroLexer]; omega)
    rw [Nat.zero_add] at this
    rw [this]
    rw [← hv]
    simp
  exact ⟨_, hg, by rw [setAll_size, zeroLexer], get 0 _ (by omega) h0, get 1 _ (by omega) h1, fun b => get _ _ (by have := UInt8.toNat_lt b; omega) (h2 b)⟩

end Go.Proofs.YtgnillmhpockkaaGreatDoor
