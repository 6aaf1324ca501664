/- The program's lexer: one word. -/
import Derived.Test.YtjnanlfahgjcbaaDoorLexImpl7
namespace Go.Proofs.YtjnanlfahgjcbaaDoor
open Go.RowKit

def TokAns (w : World) (g : Nat) (s : ByteArray) (k : Nat) (e : Ending) (w' : World) : Prop :=
  (∃ x, one (s.data.toList.drop k) = some x ∧ e = .returned (.tuple #[.int .i64 (x.1 : Int), .string ⟨x.2.1.toArray⟩, .bool true]) ∧ Moved w g s (k + x.2.2) w') ∨
  (one (s.data.toList.drop k) = none ∧ ∃ (a : Int) (t : ByteArray) (m : Nat), e = .returned (.tuple #[.int .i64 a, .string t, .bool false]) ∧ Moved w g s m w')

theorem cl2 : ((List.range 256).all fun n => !letterB (UInt8.ofNat n) || clB (UInt8.ofNat n) == 2) = true := by kernel_rfl
theorem cl3 : ((List.range 256).all fun n => !digitB (UInt8.ofNat n) || clB (UInt8.ofNat n) == 3) = true := by kernel_rfl
theorem cl4 : ((List.range 256).all fun n => !((UInt8.ofNat n).toNat == 34) || clB (UInt8.ofNat n) == 4) = true := by kernel_rfl
theorem cl5 : ((List.range 256).all fun n => !((UInt8.ofNat n).toNat == 39) || clB (UInt8.ofNat n) == 5) = true := by kernel_rfl
theorem cl6 : ((List.range 256).all fun n => !signB (UInt8.ofNat n) || clB (UInt8.ofNat n) == 6) = true := by kernel_rfl
theorem cl0 : ((List.range 256).all fun n => letterB (UInt8.ofNat n) || digitB (UInt8.ofNat n) || (UInt8.ofNat n).toNat == 34 || (UInt8.ofNat n).toNat == 39 || signB (UInt8.ofNat n) || clB (UInt8.ofNat n) == 0 || clB (UInt8.ofNat n) == 1) = true := by kernel_rfl
theorem clLetter {b : UInt8} (h : letterB b = true) : clB b = 2 := by
  have := byteAll (p := fun b => !letterB b || clB b == 2) cl2 b
  rw [h] at this; simpa using this
theorem clDigit {b : UInt8} (h : digitB b = true) : clB b = 3 := by
  have := byteAll (p := fun b => !digitB b || clB b == 3) cl3 b
  rw [h] at this; simpa using this
theorem clName {b : UInt8} (h : b.toNat = 34) : clB b = 4 := by
  have := byteAll (p := fun b => !(b.toNat == 34) || clB b == 4) cl4 b
  rw [h] at this; simpa using this
theorem clText {b : UInt8} (h : b.toNat = 39) : clB b = 5 := by
  have := byteAll (p := fun b => !(b.toNat == 39) || clB b == 5) cl5 b
  rw [h] at this; simpa using this
theorem clSign {b : UInt8} (h : signB b = true) : clB b = 6 := by
  have := byteAll (p := fun b => !signB b || clB b == 6) cl6 b
  rw [h] at this; simpa using this
theorem clOther {b : UInt8} (h1 : letterB b = false) (h2 : digitB b = false) (h3 : b.toNat ≠ 34) (h4 : b.toNat ≠ 39) (h5 : signB b = false) : clB b = 0 ∨ clB b = 1 := by
  have := byteAll (p := fun b => letterB b || digitB b || b.toNat == 34 || b.toNat == 39 || signB b || clB b == 0 || clB b == 1) cl0 b
  rw [h1, h2, h5] at this
  have e3 : (b.toNat == 34) = false := by simpa using h3
  have e4 : (b.toNat == 39) = false := by simpa using h4
  rw [e3, e4] at this
  simpa using this

theorem lower_eq (b : UInt8) : Lib.lowerB b = lowB b := by
  have h : ((List.range 256).all fun n => Lib.lowerB (UInt8.ofNat n) == lowB (UInt8.ofNat n)) = true := by kernel_rfl
  simpa using byteAll (p := fun b => Lib.lowerB b == lowB b) h b
theorem more_ascii (b : UInt8) (h : moreB b = true) : b.toNat < 128 := by
  simp only [moreB, letterB, digitB, Bool.or_eq_true, Bool.and_eq_true, decide_eq_true_eq, beq_iff_eq] at h
  omega

theorem run_size (s : ByteArray) (k : Nat) (hk : k ≤ s.size) : k + runN (s.data.toList.drop k) ≤ s.size := by
  have h := runN_le (s.data.toList.drop k)
  rw [List.length_drop] at h
  have : s.data.toList.length = s.size := by simp
  omega

set_option maxHeartbeats 2000000 in
theorem implTokWord {w : World} {g : Nat} {s : ByteArray} {k : Nat} (h : LexS w g s k) (hs : s.size ≤ 1048576) (hk : k < s.size) (hl : letterB s[k] = true) :
    Calls Tryd.prog 27 #[.pointer (some ⟨g, 0, none⟩)] w (TokAns w g s k) := by
  have HC := Lib.hid (clLetter hl)
  have hrun := run_size s k (by omega)
  have HONE := Lib.hid (one_word s k hk hl rfl)
  have HX := Lib.hid (run_extract s k _ rfl)
  have HM := Lib.hid (Moved.refl h)
  generalize hn : runN (s.data.toList.drop k) = n at *
  have HN := Lib.hid hn
  have hsz : (s.extract k (k + n)).size ≤ 1048576 := by simp; omega
  have HA : Hid (∀ (j : Nat) (b : UInt8), (s.extract k (k + n)).data.toList[j]? = some b → b.toNat < 128) := fun j b hb => by
    rw [HX.out] at hb
    refine more_ascii b (runL_all _ b (List.mem_of_getElem? hb))
  have HLW : Hid (∀ W, Calls Tryd.prog 41 #[.string (s.extract k (k + n))] W fun e w' => e = .returned (.string ⟨((runL (s.data.toList.drop k)).map lowB).toArray⟩) ∧ Below W.heap.size W w') := fun W => by
    have hc := Tryd.strings_ToLower_ascii (s.extract k (k + n)) W (by omega) HA.out
    have e : Lib.toLowerA (s.extract k (k + n)).data.toList = (runL (s.data.toList.drop k)).map lowB := by
      rw [HX.out]
      unfold Lib.toLowerA
      exact List.map_congr_left fun b _ => lower_eq b
    rw [e] at hc
    exact hc
  clear hl h hn
  go_enter Tryd.func27, Tryd.ntmps27
  go_wp2_with fail
  refine (implHere HM.out.1 hs hk 2 HC.out).mono ?_
  rintro e w1 ⟨rfl, n1, hw1⟩
  have mv1 : Moved w g s k w1 := hw1 ▸ HM.out.drewN n1
  clear hw1
  go_wp2_with fail
  refine (implRun mv1.1 hs (by omega)).mono ?_
  rw [HN.out]
  rintro e w2 ⟨rfl, mv2⟩
  go_wp2_with fail
  refine (HLW.out w2).mono ?_
  rintro e w3 ⟨rfl, hb3⟩
  go_wp2_with fail
  go_ret3
  exact .inl ⟨_, HONE.out, rfl, (mv1.trans mv2).of_below hb3⟩

set_option maxHeartbeats 2000000 in
theorem implTokNum {w : World} {g : Nat} {s : ByteArray} {k : Nat} (h : LexS w g s k) (tp : TypeId) (p : Value) (hG : Glob tp p w) (hg : 7 ≤ g) (hs : s.size ≤ 1048576) (hk : k < s.size) (hl : letterB s[k] = false) (hd : digitB s[k] = true) :
    Calls Tryd.prog 27 #[.pointer (some ⟨g, 0, none⟩)] w (TokAns w g s k) := by
  have HC := Lib.hid (clDigit hd)
  have hrun := run_size s k (by omega)
  have hone := one_num s k hk hl hd rfl
  have HX := Lib.hid (run_extract s k _ rfl)
  have HM := Lib.hid (Moved.refl h)
  have HONE := Lib.hid hone
  have HG := Lib.hid hG
  have hlt := h.lt
  generalize hn : runN (s.data.toList.drop k) = n at *
  have HN := Lib.hid hn
  have hsz : (s.extract k (k + n)).size ≤ 1048576 := by simp; omega
  clear hl h hn hone hd hG
  go_enter Tryd.func27, Tryd.ntmps27
  go_wp2_with fail
  refine (implHere HM.out.1 hs hk 3 HC.out).mono ?_
  rintro e w1 ⟨rfl, n1, hw1⟩
  have mv1 : Moved w g s k w1 := hw1 ▸ HM.out.drewN n1
  clear hw1
  go_wp2_with fail
  refine (implRun mv1.1 hs (by omega)).mono ?_
  rw [HN.out]
  rintro e w2 ⟨rfl, mv2⟩
  have mv12 := mv1.trans mv2
  have hG2 : Glob tp p w2 := HG.out.below (mv12.belowG hlt) hg
  have HG2 := Lib.hid hG2
  clear hG2
  go_wp2_with fail
  refine (implReadDec (s.extract k (k + n)) w2 HG2.out.1 tp p HG2.out.2).mono ?_
  rw [HX.out]
  rintro e w3 ⟨rfl, hb3⟩
  have mv3 := mv12.of_below hb3
  by_cases hr : 0 ≤ readD (runL (s.data.toList.drop k))
  · have ht : decide (0 ≤ readD (runL (s.data.toList.drop k))) = true := by simpa using hr
    have HO := Lib.hid (HONE.out.trans (if_pos hr))
    have HE : Hid (s.extract k (k + n) = ⟨(runL (s.data.toList.drop k)).toArray⟩) := by unfold Hid; rw [extract_arr, runL_takeN, HN.out]
    go_wp2_with fail
    go_ret3
    exact .inl ⟨_, HO.out, by rw [← HE.out]; rfl, mv3⟩
  · have ht : decide (0 ≤ readD (runL (s.data.toList.drop k))) = false := by simpa using hr
    have HO := Lib.hid (HONE.out.trans (if_neg hr))
    go_wp2_with fail
    go_ret3
    exact .inr ⟨HO.out, _, _, _, rfl, mv3⟩

set_option maxHeartbeats 2000000 in
theorem implTokName {w : World} {g : Nat} {s : ByteArray} {k : Nat} (h : LexS w g s k) (hs : s.size ≤ 1048576) (hk : k < s.size) (hq : s[k].toNat = 34) :
    Calls Tryd.prog 27 #[.pointer (some ⟨g, 0, none⟩)] w (TokAns w g s k) := by
  have HC := Lib.hid (clName hq)
  have HONE := Lib.hid (one_name s k hk hq)
  have hy : s[k] = 34 := UInt8.toNat_inj.1 hq
  have HY := Lib.hid hy
  have HM := Lib.hid (Moved.refl h)
  clear hq h hy
  go_enter Tryd.func27, Tryd.ntmps27
  go_wp2_with fail
  refine (implHere HM.out.1 hs hk 4 HC.out).mono ?_
  rintro e w1 ⟨rfl, n1, hw1⟩
  have mv1 : Moved w g s k w1 := hw1 ▸ HM.out.drewN n1
  clear hw1
  go_wp2_with fail
  refine (implQuoted mv1.1 34 hs hk).mono ?_
  rintro e w2 (⟨x, hqx, rfl, mv2⟩ | ⟨hqx, rfl, mv2⟩)
  · have hone : one (s.data.toList.drop k) = if nameB x.1 then some (1, x.1, 1 + x.2) else none := by rw [HONE.out, HY.out, hqx, Option.bind_some]
    cases hn : nameB x.1 with
    | true =>
      have HO := Lib.hid (hone.trans (if_pos hn))
      have HN := Lib.hid hn
      clear hn hone hqx
      go_wp2_with fail
      refine (implNameFits ⟨x.1.toArray⟩ _ true HN.out).mono ?_
      rintro e w3 ⟨rfl, rfl⟩
      go_wp2_with fail
      go_ret3
      exact .inl ⟨_, HO.out, rfl, by have := mv1.trans mv2; rwa [Nat.add_assoc] at this⟩
    | false =>
      have HO := Lib.hid (hone.trans (if_neg (by simp [hn])))
      have HN := Lib.hid hn
      clear hn hone hqx
      go_wp2_with fail
      refine (implNameFits ⟨x.1.toArray⟩ _ false HN.out).mono ?_
      rintro e w3 ⟨rfl, rfl⟩
      go_wp2_with fail
      go_ret3
      exact .inr ⟨HO.out, _, _, _, rfl, mv1.trans mv2⟩
  · have HO : Hid (one (s.data.toList.drop k) = none) := by unfold Hid; rw [HONE.out, HY.out, hqx]; rfl
    clear hqx
    go_wp2_with fail
    go_ret3
    exact .inr ⟨HO.out, _, _, _, rfl, mv1.trans mv2⟩

set_option maxHeartbeats 2000000 in
theorem implTokText {w : World} {g : Nat} {s : ByteArray} {k : Nat} (h : LexS w g s k) (hs : s.size ≤ 1048576) (hk : k < s.size) (hq : s[k].toNat = 39) :
    Calls Tryd.prog 27 #[.pointer (some ⟨g, 0, none⟩)] w (TokAns w g s k) := by
  have HC := Lib.hid (clText hq)
  have HONE := Lib.hid (one_text s k hk hq)
  have hy : s[k] = 39 := UInt8.toNat_inj.1 hq
  have HY := Lib.hid hy
  have HM := Lib.hid (Moved.refl h)
  clear hq h hy
  go_enter Tryd.func27, Tryd.ntmps27
  go_wp2_with fail
  refine (implHere HM.out.1 hs hk 5 HC.out).mono ?_
  rintro e w1 ⟨rfl, n1, hw1⟩
  have mv1 : Moved w g s k w1 := hw1 ▸ HM.out.drewN n1
  clear hw1
  go_wp2_with fail
  refine (implQuoted mv1.1 39 hs hk).mono ?_
  rintro e w2 (⟨x, hqx, rfl, mv2⟩ | ⟨hqx, rfl, mv2⟩)
  · have hone : one (s.data.toList.drop k) = if x.1.length ≤ 100 then some (3, x.1, 1 + x.2) else none := by rw [HONE.out, HY.out, hqx, Option.bind_some]
    have hsx : (⟨x.1.toArray⟩ : ByteArray).size = x.1.length := by simp [ByteArray.size]
    generalize hX : (⟨x.1.toArray⟩ : ByteArray) = X at hsx ⊢
    have HX := Lib.hid hX
    clear hX hqx
    by_cases hn : x.1.length ≤ 100
    · have HO := Lib.hid (hone.trans (if_pos hn))
      have ht : decide ((X.size : Int) ≤ 100) = true := by rw [hsx]; simp; omega
      clear hone hn hsx
      go_wp2_with fail
      go_ret3
      exact .inl ⟨_, HO.out, by rw [HX.out]; rfl, by have := mv1.trans mv2; rwa [Nat.add_assoc] at this⟩
    · have HO := Lib.hid (hone.trans (if_neg hn))
      have ht : decide ((X.size : Int) ≤ 100) = false := by rw [hsx]; simp; omega
      clear hone hn hsx
      go_wp2_with fail
      go_ret3
      exact .inr ⟨HO.out, _, _, _, rfl, mv1.trans mv2⟩
  · have HO : Hid (one (s.data.toList.drop k) = none) := by unfold Hid; rw [HONE.out, HY.out, hqx]; rfl
    clear hqx
    go_wp2_with fail
    go_ret3
    exact .inr ⟨HO.out, _, _, _, rfl, mv1.trans mv2⟩

set_option maxHeartbeats 2000000 in
theorem implTokSign {w : World} {g : Nat} {s : ByteArray} {k : Nat} (h : LexS w g s k) (hs : s.size ≤ 1048576) (hk : k < s.size) (h1 : letterB s[k] = false) (h2 : digitB s[k] = false) (h3 : s[k].toNat ≠ 34) (h4 : s[k].toNat ≠ 39) (h5 : signB s[k] = true) :
    Calls Tryd.prog 27 #[.pointer (some ⟨g, 0, none⟩)] w (TokAns w g s k) := by
  have HC := Lib.hid (clSign h5)
  have hone := one_sign_at s k hk h1 h2 h3 h4
  have hnz : signN (s.data.toList.drop k) ≠ 0 := by
    intro e
    rw [drop_at s k hk] at e
    have hd := drop_at s k hk
    cases hr : s.data.toList.drop (k + 1) with
    | nil => rw [hr, signN, if_pos h5] at e; cases e
    | cons c r =>
      rw [hr, signN] at e
      split at e
      · cases e
      · first | (cases e; done) | (rw [if_pos h5] at e; cases e)
  have HO := Lib.hid (hone.trans (if_neg hnz))
  have H5 := Lib.hid h5
  have HM := Lib.hid (Moved.refl h)
  clear hone hnz h1 h2 h3 h4 h5 h
  go_enter Tryd.func27, Tryd.ntmps27
  go_wp2_with fail
  refine (implHere HM.out.1 hs hk 6 HC.out).mono ?_
  rintro e w1 ⟨rfl, n1, hw1⟩
  have mv1 : Moved w g s k w1 := hw1 ▸ HM.out.drewN n1
  clear hw1
  go_wp2_with fail
  refine (implSign mv1.1 hs hk H5.out).mono ?_
  rintro e w2 ⟨rfl, mv2⟩
  go_wp2_with fail
  go_ret3
  exact .inl ⟨_, HO.out, by rw [← extract_arr]; rfl, mv1.trans mv2⟩

set_option maxHeartbeats 2000000 in
theorem implTokOther {w : World} {g : Nat} {s : ByteArray} {k : Nat} (h : LexS w g s k) (hs : s.size ≤ 1048576) (hk : k < s.size) (h1 : letterB s[k] = false) (h2 : digitB s[k] = false) (h3 : s[k].toNat ≠ 34) (h4 : s[k].toNat ≠ 39) (h5 : signB s[k] = false) :
    Calls Tryd.prog 27 #[.pointer (some ⟨g, 0, none⟩)] w (TokAns w g s k) := by
  have hone := one_sign_at s k hk h1 h2 h3 h4
  have hz : signN (s.data.toList.drop k) = 0 := by
    rw [drop_at s k hk]
    have h2f : ∀ c, twoB s[k] c = false := fun c => by
      cases ht : twoB s[k] c with
      | false => rfl
      | true => have := (two_sign ht).1; rw [h5] at this; cases this
    cases s.data.toList.drop (k + 1) with
    | nil => rw [signN, if_neg (by simp [h5])]
    | cons c r => rw [signN, if_neg (by simp [h2f c]), if_neg (by simp [h5])]
  have HO := Lib.hid (hone.trans (if_pos hz))
  have HM := Lib.hid (Moved.refl h)
  rcases clOther h1 h2 h3 h4 h5 with hc | hc
  · have HC := Lib.hid hc
    clear hone hz h1 h2 h3 h4 h5 h hc
    go_enter Tryd.func27, Tryd.ntmps27
    go_wp2_with fail
    refine (implHere HM.out.1 hs hk 0 HC.out).mono ?_
    rintro e w1 ⟨rfl, n1, rfl⟩
    go_wp2_with fail
    go_ret3
    exact .inr ⟨HO.out, _, _, _, rfl, HM.out.drewN n1⟩
  · have HC := Lib.hid hc
    clear hone hz h1 h2 h3 h4 h5 h hc
    go_enter Tryd.func27, Tryd.ntmps27
    go_wp2_with fail
    refine (implHere HM.out.1 hs hk 1 HC.out).mono ?_
    rintro e w1 ⟨rfl, n1, rfl⟩
    go_wp2_with fail
    go_ret3
    exact .inr ⟨HO.out, _, _, _, rfl, HM.out.drewN n1⟩

theorem implToken {w : World} {g : Nat} {s : ByteArray} {k : Nat} (h : LexS w g s k) (tp : TypeId) (p : Value) (hG : Glob tp p w) (hg : 7 ≤ g) (hs : s.size ≤ 1048576) (hk : k < s.size) :
    Calls Tryd.prog 27 #[.pointer (some ⟨g, 0, none⟩)] w (TokAns w g s k) := by
  cases h1 : letterB s[k] with
  | true => exact implTokWord h hs hk h1
  | false =>
    cases h2 : digitB s[k] with
    | true => exact implTokNum h tp p hG hg hs hk h1 h2
    | false =>
      by_cases h3 : s[k].toNat = 34
      · exact implTokName h hs hk h3
      · by_cases h4 : s[k].toNat = 39
        · exact implTokText h hs hk h4
        · cases h5 : signB s[k] with
          | true => exact implTokSign h hs hk h1 h2 h3 h4 h5
          | false => exact implTokOther h hs hk h1 h2 h3 h4 h5

end Go.Proofs.YtjnanlfahgjcbaaDoor
