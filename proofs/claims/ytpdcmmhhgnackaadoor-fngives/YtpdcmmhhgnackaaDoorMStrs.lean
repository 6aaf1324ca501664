/- The laws' own helpers over slices of texts: the size that is left, the copy, the equality. -/
/- spec.Has and impl.Has both answer whether a text stands in a list. -/
/- Enumerations in memory; spec.l05Label, (impl.sorter).isLabel. -/
/- spec.l05Enums, spec.DrawGives. -/
import Derived.Test.YtpdcmmhhgnackaaDoorMDrawOdd
namespace Go.Proofs.YtpdcmmhhgnackaaDoor
open Go.RowKit

/-- What is left of 'left' behind the texts: -1 where it is not enough. -/
def leftOf (xs : List ByteArray) (left : Int) : Int := if left < xs.length + lets xs then -1 else left - xs.length - lets xs

set_option maxHeartbeats 400000 in
theorem szStrs (a : Option Addr) (c : Nat) (xs : List ByteArray) (left : Int) (w : World) (hx : Strs w a c xs) (h0 : 0 ≤ left) (h1 : left ≤ 1048576) :
    Calls Tryd.prog 46 #[.slice a xs.length c, .int .i64 left] w fun e w' => e = .returned (.int .i64 (leftOf xs left)) ∧ w = w' := by
  have hl := hx.len
  by_cases hs : left < xs.length
  · have H : Hid (leftOf xs left = -1) := by unfold Hid leftOf; rw [if_pos (by omega)]
    go_enter Tryd.func46, Tryd.ntmps46
    go_wp2
    go_ret
    exact ⟨by rw [H.out]; rfl, rfl⟩
  · have hs' : (xs.length : Int) ≤ left := by omega
    go_enter Tryd.func46, Tryd.ntmps46
    go_wp2
    go_loop [1, 5] (fun l i => ∃ k : Nat, k ≤ xs.length ∧ i = .int .i64 k ∧ lets (xs.take k) ≤ left - xs.length ∧ l = .int .i64 (left - xs.length - lets (xs.take k))) (fun _ i => xs.length - (intOf i).toNat)
    case atStart => exact ⟨0, Nat.zero_le _, rfl, by simp [lets]; omega, by simp [lets]⟩
    case round =>
      obtain ⟨k, hk, rfl, hsm, rfl⟩ := hrel
      by_cases hlt : k < xs.length
      · obtain ⟨b, off, rfl, hb, hc⟩ := hx.spot hlt
        have ht := hx.text hlt
        have HT := Lib.hid (lets_take xs k hlt)
        have HL := Lib.hid (lets_le xs (k + 1))
        by_cases hle : left - xs.length - lets (xs.take k) - xs[k].size < 0
        · have H : Hid (leftOf xs left = -1) := by unfold Hid leftOf; rw [if_pos (by have := HT.out; have := HL.out; omega)]
          go_wp2
          go_ret
          exact ⟨by rw [H.out]; rfl, rfl⟩
        · go_wp2
          go_round
          case rel => exact ⟨k + 1, by omega, by go_num, by have := HT.out; omega, by rw [HT.out]; go_num⟩
          case measure => simp [intOf]; omega
      · obtain rfl : k = xs.length := by omega
        have H : Hid (leftOf xs left = left - xs.length - lets xs) := by
          unfold Hid leftOf; rw [List.take_length] at hsm; rw [if_neg (by omega)]
        go_wp2
        go_ret
        exact ⟨by rw [H.out]; rfl, rfl⟩

def filled (xs : List ByteArray) (k : Nat) : List Value := (xs.take k).map Value.string ++ List.replicate (xs.length - k) (Value.string ByteArray.empty)

theorem filled_set (xs : List ByteArray) (k : Nat) (h : k < xs.length) : (filled xs k).set k (.string xs[k]) = filled xs (k + 1) := by
  unfold filled
  have hl : ((xs.take k).map Value.string).length = k := by simp; omega
  rw [List.set_append_right _ _ (by omega), hl, Nat.sub_self, show xs.length - k = (xs.length - (k + 1)) + 1 by omega, List.replicate_succ, List.set_cons_zero, List.take_succ_eq_append_getElem h, List.map_append, List.append_assoc]
  rfl

theorem filled_at (xs : List ByteArray) (k : Nat) (h : k < xs.length) : ∃ s, (filled xs k)[k]? = some (.string s) := by
  unfold filled
  have hl : ((xs.take k).map Value.string).length = k := by simp; omega
  rw [List.getElem?_append_right (by omega), hl, Nat.sub_self, List.getElem?_replicate, if_pos (by omega)]
  exact ⟨_, rfl⟩

theorem filled_all (xs : List ByteArray) : filled xs xs.length = xs.map Value.string := by simp [filled]
theorem filled_none (xs : List ByteArray) : filled xs 0 = List.replicate xs.length (Value.string ByteArray.empty) := by simp [filled]

set_option maxHeartbeats 400000 in
theorem toStrs (a : Option Addr) (c : Nat) (xs : List ByteArray) (w : World) (hx : Strs w a c xs) (hn : xs.length ≤ 1048576) :
    Calls Tryd.prog 55 #[.slice a xs.length c] w (NewStrs w xs) := by
  obtain ⟨i0, hi0, hz0, hz1, hz2⟩ := info_parts Tryd.infoString
  have hb16 : i0.bytes * xs.length ≤ 281474976710656 := by rw [hz2]; omega
  go_enter Tryd.func55, Tryd.ntmps55
  go_wp2_with (at_make; refine wpList_make_full _ rfl _ _ 33 rfl w.heap.size 9 i0 (.string ByteArray.empty) 1 Tryd.underlying33 hi0 hz0 hz1 .i64 .i64 _ _ xs.length rfl rfl rfl rfl hb16 (by unfold maxLen; omega) (Nat.le_refl _) ?_; intro w1 hown hg)
  have hown1 : w1.ownsRow w.heap.size 9 1 (.slice (some ⟨w.heap.size, 0, none⟩) xs.length xs.length) xs.length (filled xs 0) := by
    rw [filled_none]
    have := toList_madeCells_one (.string ByteArray.empty) (xs.length * 1)
    simp only [Nat.mul_one] at this hown
    rw [← this]
    exact hown
  have hbel : Below w.heap.size w w1 := (Below.refl _ _).grown hg (Nat.le_refl _) (fun k hk => by cases hk)
  clear hown hg
  go_loopw [4] (fun i wr => ∃ k : Nat, k ≤ xs.length ∧ i = .int .i64 k ∧ wr.ownsRow w.heap.size 9 1 (.slice (some ⟨w.heap.size, 0, none⟩) xs.length xs.length) xs.length (filled xs k) ∧ Below w.heap.size w wr) (fun i _ => xs.length - (intOf i).toNat)
  case atStart => exact ⟨0, Nat.zero_le _, rfl, hown1, hbel⟩
  case round =>
    obtain ⟨k, hk, rfl, hown, hbw⟩ := hrel
    by_cases hlt : k < xs.length
    · obtain ⟨b, off, rfl, hb, hc⟩ := (hx.below hbw).spot hlt
      obtain ⟨s0, hs0⟩ := filled_at xs k hlt
      have hcell : wr.cell? ⟨w.heap.size, k, none⟩ = some (.string s0) := (hown.cellAt k (by omega)).trans hs0
      have hfz : wr.frozen? ⟨w.heap.size, k, none⟩ = false := hown.frozenAt k
      have R := hown.stored k (.string xs[k])
      rw [filled_set xs k hlt] at R
      have RB := hbw.setCell (p := ⟨w.heap.size, k, none⟩) (Nat.le_refl _) (.string xs[k])
      have R1 := R.1
      clear R hown hbel hown1 hs0 hb
      go_wp2
      go_roundw
      case rel => exact ⟨k + 1, by omega, by go_num, R1, RB⟩
      case measure => simp [intOf]; omega
    · obtain rfl : k = xs.length := by omega
      rw [filled_all] at hown
      go_wp2
      go_ret
      exact ⟨_, _, rfl, hown, hbw⟩

/-- The two lists hold the same texts. -/
def eqB (xs ys : List ByteArray) : Bool := xs.map ByteArray.toList == ys.map ByteArray.toList

set_option maxHeartbeats 400000 in
theorem eqStrs (a a' : Option Addr) (c c' : Nat) (xs ys : List ByteArray) (w : World) (hx : Strs w a c xs) (hy : Strs w a' c' ys) (he : xs = ys) :
    Calls Tryd.prog 62 #[.slice a xs.length c, .slice a' ys.length c'] w (Quiet w (.bool true)) := by
  subst he
  have hl := hx.len
  have hne : (((xs.length : Int)) != (xs.length : Int)) = false := by simp
  go_enter Tryd.func62, Tryd.ntmps62
  go_wp2
  go_loopw [5] (fun i wr => ∃ k n : Nat, k ≤ xs.length ∧ i = .int .i64 k ∧ wr = w.drewN n) (fun i _ => xs.length - (intOf i).toNat)
  case atStart => exact ⟨0, 0, Nat.zero_le _, rfl, rfl⟩
  case round =>
    obtain ⟨k, n, hk, rfl, rfl⟩ := hrel
    by_cases hlt : k < xs.length
    · obtain ⟨b, off, rfl, hb, hc⟩ := hx.spot hlt
      obtain ⟨b', off', rfl, hb', hc'⟩ := hy.spot hlt
      have hs : (!(xs[k].toList == xs[k].toList)) = false := by simp
      go_wp2
      go_quiet (fail)
      go_wp2
      go_roundw
      case rel => exact ⟨k + 1, n + nq, by omega, by go_num, rfl⟩
      case measure => simp [intOf]; omega
    · go_wp2
      go_ret
      exact ⟨rfl, _, rfl⟩

end Go.Proofs.YtpdcmmhhgnackaaDoor

namespace Go.Proofs.YtpdcmmhhgnackaaDoor
open Go.RowKit

def hasB (xs : List ByteArray) (s : ByteArray) : Bool := xs.any fun x => x.toList == s.toList

theorem hasB_take (xs : List ByteArray) (s : ByteArray) (k : Nat) (h : k < xs.length) : hasB (xs.take (k + 1)) s = (hasB (xs.take k) s || xs[k].toList == s.toList) := by
  unfold hasB
  rw [List.take_succ_eq_append_getElem h, List.any_append]
  simp only [List.any_cons, List.any_nil, Bool.or_false]

theorem hasB_hit (xs : List ByteArray) (s : ByteArray) (k : Nat) (h : k < xs.length) (he : (xs[k].toList == s.toList) = true) : hasB xs s = true :=
  List.any_eq_true.2 ⟨xs[k], List.getElem_mem h, he⟩

set_option maxHeartbeats 400000 in
theorem specHas (a : Option Addr) (c : Nat) (xs : List ByteArray) (s : ByteArray) (w : World) (hx : Strs w a c xs) :
    Calls Tryd.prog 74 #[.slice a xs.length c, .string s] w (Quiet w (.bool (hasB xs s))) := by
  have hl := hx.len
  go_enter Tryd.func74, Tryd.ntmps74
  go_wp2
  go_loop [5] (fun i => ∃ k : Nat, k ≤ xs.length ∧ i = .int .i64 k ∧ Hid (hasB (xs.take k) s = false)) (fun i => xs.length - (intOf i).toNat)
  case atStart => exact ⟨0, Nat.zero_le _, rfl, rfl⟩
  case round =>
    obtain ⟨k, hk, rfl, hno⟩ := hrel
    by_cases hlt : k < xs.length
    · obtain ⟨b, off, rfl, hb, hc⟩ := hx.spot hlt
      cases he : (xs[k].toList == s.toList) with
      | true =>
        have H := Lib.hid (hasB_hit xs s k hlt he)
        go_wp2
        go_ret
        exact ⟨by rw [H.out]; rfl, 0, rfl⟩
      | false =>
        have H : Hid (hasB (xs.take (k + 1)) s = false) := by unfold Hid; rw [hasB_take xs s k hlt, hno.out, he]; rfl
        go_wp2
        go_round
        case rel => exact ⟨k + 1, by omega, by go_num, H⟩
        case measure => simp [intOf]; omega
    · have H : Hid (hasB xs s = false) := by have := hno.out; rwa [List.take_of_length_le (by omega)] at this
      go_wp2
      go_ret
      exact ⟨by rw [H.out]; rfl, 0, rfl⟩

theorem beq_flip (a b : List UInt8) : (a == b) = (b == a) := by
  rw [Bool.eq_iff_iff, beq_iff_eq, beq_iff_eq]; exact eq_comm

set_option maxHeartbeats 400000 in
theorem slicesIndex (a : Option Addr) (c : Nat) (xs : List ByteArray) (s : ByteArray) (w : World) (hx : Strs w a c xs) :
    Calls Tryd.prog 164 #[.slice a xs.length c, .string s] w fun e w' => ∃ r : Int, e = .returned (.int .i64 r) ∧ Hid (decide (0 ≤ r) = hasB xs s) ∧ w = w' := by
  have hl := hx.len
  go_enter Tryd.func164, Tryd.ntmps164
  go_wp2
  go_loop [8] (fun i => ∃ k : Nat, k ≤ xs.length ∧ i = .int .i64 k ∧ Hid (hasB (xs.take k) s = false)) (fun i => xs.length - (intOf i).toNat)
  case atStart => exact ⟨0, Nat.zero_le _, rfl, rfl⟩
  case round =>
    obtain ⟨k, hk, rfl, hno⟩ := hrel
    by_cases hlt : k < xs.length
    · obtain ⟨b, off, rfl, hb, hc⟩ := hx.spot hlt
      cases he : (s.toList == xs[k].toList) with
      | true =>
        have H := Lib.hid (hasB_hit xs s k hlt (by rw [beq_flip]; exact he))
        go_wp2
        go_ret
        exact ⟨k, rfl, by unfold Hid; rw [H.out]; simp, rfl⟩
      | false =>
        have H : Hid (hasB (xs.take (k + 1)) s = false) := by unfold Hid; rw [hasB_take xs s k hlt, hno.out, beq_flip, he]; rfl
        go_wp2
        go_round
        case rel => exact ⟨k + 1, by omega, by go_num, H⟩
        case measure => simp [intOf]; omega
    · have H : Hid (hasB xs s = false) := by have := hno.out; rwa [List.take_of_length_le (by omega)] at this
      go_wp2
      go_ret
      exact ⟨-1, rfl, by unfold Hid; rw [H.out]; rfl, rfl⟩

theorem implHas (a : Option Addr) (c : Nat) (xs : List ByteArray) (s : ByteArray) (w : World) (hx : Strs w a c xs) :
    Calls Tryd.prog 141 #[.slice a xs.length c, .string s] w (Quiet w (.bool (hasB xs s))) := by
  go_enter Tryd.func141, Tryd.ntmps141
  go_wp2_with (first
    | (go_at_call 164; refine (slicesIndex a c xs s w hx).mono ?_; rintro e w' ⟨r, rfl, hr, rfl⟩)
    | (go_at_call 158; go_in))
  go_ret
  exact ⟨by rw [← hr.out]; rfl, 0, rfl⟩

end Go.Proofs.YtpdcmmhhgnackaaDoor

namespace Go.Proofs.YtpdcmmhhgnackaaDoor
open Go.RowKit

/-- One enumeration, with where its list lies. -/
structure Lb where
  name : ByteArray
  list : List ByteArray
  a : Option Addr
  c : Nat

def LbAt (w : World) (b o : Nat) (x : Lb) : Prop :=
  w.cell? ⟨b, o, none⟩ = some (.string x.name) ∧ w.cell? ⟨b, o + 1, none⟩ = some (.slice x.a x.list.length x.c) ∧ x.name.size ≤ maxLen ∧ Strs w x.a x.c x.list

/-- The slice (a, length of ls, c) holds the enumerations ls. -/
def Lbs (w : World) (a : Option Addr) (c : Nat) (ls : List Lb) : Prop :=
  ls.length ≤ c ∧ c ≤ maxLen ∧ (a = none → c = 0) ∧ (0 < ls.length → ∃ b off, a = some ⟨b, off, none⟩ ∧ b < w.heap.size ∧ ∀ (i : Nat) (h : i < ls.length), LbAt w b (off + i * 2) ls[i])

theorem Lbs.spot {w : World} {a : Option Addr} {c : Nat} {ls : List Lb} (h : Lbs w a c ls) {k : Nat} (hk : k < ls.length) :
    ∃ b off, a = some ⟨b, off, none⟩ ∧ b < w.heap.size ∧ LbAt w b (off + k * 2) ls[k] := by
  obtain ⟨_, _, _, h4⟩ := h
  obtain ⟨b, off, ha, hb, hc⟩ := h4 (by omega)
  exact ⟨b, off, ha, hb, hc k hk⟩

theorem Lbs.below {w w' : World} {a : Option Addr} {c : Nat} {ls : List Lb} (h : Lbs w a c ls) (hb : Below w.heap.size w w') : Lbs w' a c ls := by
  obtain ⟨h1, h2, h3, h4⟩ := h
  refine ⟨h1, h2, h3, fun hp => ?_⟩
  obtain ⟨b, off, ha, hlt, hc⟩ := h4 hp
  refine ⟨b, off, ha, Nat.lt_of_lt_of_le hlt hb.size, fun i hi => ?_⟩
  obtain ⟨c0, c1, hs, hst⟩ := hc i hi
  exact ⟨(hb.cell (p := ⟨b, _, none⟩) hlt).trans c0, (hb.cell (p := ⟨b, _, none⟩) hlt).trans c1, hs, hst.below hb⟩

theorem Lbs.len {w : World} {a : Option Addr} {c : Nat} {ls : List Lb} (h : Lbs w a c ls) : ls.length ≤ 9223372036854775807 := by
  have h1 := h.1
  have h2 := h.2.1
  unfold maxLen at h2
  omega

/-- Whether the text is a label of the first enumeration of that name. -/
def labB : List Lb → ByteArray → ByteArray → Bool
  | [], _, _ => false
  | x :: r, n, t => if x.name.toList == n.toList then hasB x.list t else labB r n t

theorem labB_hit (ls : List Lb) (n t : ByteArray) (k : Nat) (h : k < ls.length) (hne : ∀ m (hm : m < ls.length), m < k → (ls[m].name.toList == n.toList) = false) (he : (ls[k].name.toList == n.toList) = true) : labB ls n t = hasB ls[k].list t := by
  induction ls generalizing k with
  | nil => simp at h
  | cons x r ih =>
    cases k with
    | zero =>
      have he' : (x.name.toList == n.toList) = true := he
      rw [labB, if_pos he']
      rfl
    | succ k =>
      have h0 : (x.name.toList == n.toList) = false := hne 0 (by simp) (by omega)
      rw [labB, if_neg (by rw [h0]; simp)]
      exact ih k (by simpa using h) (fun m hm hmk => hne (m + 1) (by simpa using hm) (by omega)) he

theorem labB_miss (ls : List Lb) (n t : ByteArray) (hne : ∀ m (hm : m < ls.length), (ls[m].name.toList == n.toList) = false) : labB ls n t = false := by
  induction ls with
  | nil => rfl
  | cons x r ih =>
    have h0 : (x.name.toList == n.toList) = false := hne 0 (by simp)
    rw [labB, if_neg (by rw [h0]; simp)]
    exact ih fun m hm => hne (m + 1) (by simpa using hm)

set_option maxHeartbeats 1000000 in
theorem specLabel (a : Option Addr) (c : Nat) (ls : List Lb) (n t : ByteArray) (w : World) (hx : Lbs w a c ls) :
    Calls Tryd.prog 30 #[.slice a ls.length c, .string n, .string t] w (Quiet w (.bool (labB ls n t))) := by
  have hl := hx.len
  go_enter Tryd.func30, Tryd.ntmps30
  go_wp2
  go_loopw [7] (fun i wr => ∃ k : Nat, k ≤ ls.length ∧ i = .int .i64 k ∧ Hid (∀ m (hm : m < ls.length), m < k → (ls[m].name.toList == n.toList) = false) ∧ Hid (wr = w)) (fun i _ => ls.length - (intOf i).toNat)
  case atStart => exact ⟨0, Nat.zero_le _, rfl, fun m h hm => absurd hm (by omega), rfl⟩
  case round =>
    obtain ⟨k, hk, rfl, hall, hwr⟩ := hrel
    have hxr : Lbs wr a c ls := by rw [hwr.out]; exact hx
    by_cases hlt : k < ls.length
    · obtain ⟨b, off, rfl, hbl, hc0, hc1, hns, hst⟩ := hxr.spot hlt
      cases he : (ls[k].name.toList == n.toList) with
      | true =>
        have HB := Lib.hid (labB_hit ls n t k hlt hall.out he)
        have HST := Lib.hid hst
        clear hst hxr
        go_wp2_with fail
        refine (specHas _ _ _ t _ HST.out).mono ?_
        rintro e w2 ⟨rfl, nn, rfl⟩
        go_wp2_with fail
        go_ret
        exact ⟨by rw [HB.out]; rfl, nn, by rw [hwr.out]⟩
      | false =>
        have HE := Lib.hid he
        clear hst hxr
        go_wp2_with fail
        go_roundw
        case rel => exact ⟨k + 1, by omega, by go_num, fun m hm h1 => by
          rcases Nat.lt_or_ge m k with h2 | h2
          · exact hall.out m hm h2
          · obtain rfl : m = k := by omega
            exact HE.out, hwr.out⟩
        case measure => simp [intOf]; omega
    · have HB := Lib.hid (labB_miss ls n t fun m hm => hall.out m hm (by omega))
      go_wp2_with fail
      go_ret
      exact ⟨by rw [HB.out]; rfl, 0, by rw [hwr.out]; rfl⟩

set_option maxHeartbeats 1000000 in
theorem isLabel1 (x : Lb) (nb : Nat) (n : ByteArray) (w : World) (hnb : w.cell? ⟨nb, 0, none⟩ = some (.string n)) (hlt : nb < w.heap.size) :
    Calls Tryd.prog 140 #[.agg #[.string x.name, .slice x.a x.list.length x.c], .pointer (some ⟨nb, 0, none⟩)] w fun e w' => e = .returned (.bool (x.name.toList == n.toList)) ∧ Below w.heap.size w w' := by
  have hne : nb ≠ w.heap.size := by omega
  have HB := Lib.hid (fun o => (Below.refl w.heap.size w).alloc (Nat.le_refl _) o)
  go_enter Tryd.func140, Tryd.ntmps140
  go_wp2_with fail
  go_ret
  exact ⟨rfl, HB.out _⟩

/-- The place of the first enumeration of that name. -/
def labAt : List Lb → ByteArray → Int
  | [], _ => -1
  | x :: r, n => if x.name.toList == n.toList then 0 else if labAt r n < 0 then -1 else labAt r n + 1

set_option maxRecDepth 100000 in
set_option maxHeartbeats 1000000 in
theorem indexLabels (a : Option Addr) (c : Nat) (ls : List Lb) (n : ByteArray) (nb : Nat) (w : World) (hx : Lbs w a c ls) (hnb : w.cell? ⟨nb, 0, none⟩ = some (.string n)) (hlt0 : nb < w.heap.size) :
    Calls Tryd.prog 139 #[.slice a ls.length c, .func (.func 140) #[] #[.pointer (some ⟨nb, 0, none⟩)]] w fun e w' =>
      ((∃ k : Nat, ∃ h : k < ls.length, e = .returned (.int .i64 k) ∧ (∀ m (hm : m < ls.length), m < k → (ls[m].name.toList == n.toList) = false) ∧ (ls[k].name.toList == n.toList) = true) ∨ (e = .returned (.int .i64 (-1)) ∧ ∀ m (hm : m < ls.length), (ls[m].name.toList == n.toList) = false)) ∧ Below w.heap.size w w' := by
  have hl := hx.len
  have HX := Lib.hid (fun w' hb => hx.below (w' := w') hb)
  have HN := Lib.hid (fun w' (hb : Below w.heap.size w w') => (And.intro ((hb.cell (p := ⟨nb, 0, none⟩) hlt0).trans hnb) (Nat.lt_of_lt_of_le hlt0 hb.size)))
  clear hx
  go_enter Tryd.func139, Tryd.ntmps139
  go_wp2
  go_loopw [8] (fun i wr => ∃ k : Nat, k ≤ ls.length ∧ i = .int .i64 k ∧ Hid (∀ m (hm : m < ls.length), m < k → (ls[m].name.toList == n.toList) = false) ∧ Below w.heap.size w wr) (fun i _ => ls.length - (intOf i).toNat)
  case atStart => exact ⟨0, Nat.zero_le _, rfl, fun m h hm => absurd hm (by omega), Below.refl _ _⟩
  case round =>
    obtain ⟨k, hk, rfl, hall, hb⟩ := hrel
    by_cases hlt : k < ls.length
    · obtain ⟨b, off, rfl, hbl, hc0, hc1, hns, hst⟩ := (HX.out _ hb).spot hlt
      obtain ⟨hn1, hn2⟩ := HN.out _ hb
      clear hst
      go_wp2_with fail
      refine (isLabel1 ls[k] nb n _ hn1 hn2).mono ?_
      rintro e w2 ⟨rfl, hb2⟩
      have HB2 := Lib.hid (hb.trans (hb2.mono hb.size))
      clear hb2
      cases he : (ls[k].name.toList == n.toList) with
      | true =>
        have HE := Lib.hid he
        clear he
        go_wp2_with fail
        go_ret
        exact ⟨.inl ⟨k, hlt, rfl, hall.out, HE.out⟩, HB2.out⟩
      | false =>
        have HE := Lib.hid he
        clear he
        go_wp2_with fail
        go_roundw
        case rel => exact ⟨k + 1, by omega, by go_num, fun m hm h1 => by
          rcases Nat.lt_or_ge m k with h2 | h2
          · exact hall.out m hm h2
          · obtain rfl : m = k := by omega
            exact HE.out, HB2.out⟩
        case measure => simp [intOf]; omega
    · go_wp2_with fail
      go_ret
      exact ⟨.inr ⟨rfl, fun m hm => hall.out m hm (by omega)⟩, hb⟩

end Go.Proofs.YtpdcmmhhgnackaaDoor

namespace Go.Proofs.YtpdcmmhhgnackaaDoor
open Go.RowKit

theorem rowStrs {w : World} {b : Nat} {xs : List ByteArray} {cs : Array Value} (h : w.heap[b]? = some (.cells cs 9 (0, 0))) (hc : cs = (xs.map Value.string).toArray) (hs : ∀ s ∈ xs, s.size ≤ maxLen) (hl : xs.length ≤ 1000) : Strs w (some ⟨b, 0, none⟩) xs.length xs := by
  have hb : b < w.heap.size := by
    rcases Nat.lt_or_ge b w.heap.size with h' | h'
    · exact h'
    · rw [Array.getElem?_eq_none h'] at h; cases h
  refine ⟨Nat.le_refl _, by unfold maxLen; omega, hs, (fun h => by cases h), fun _ => ⟨b, 0, rfl, hb, fun i hi => ?_⟩⟩
  rw [cell_of_row _ _ _ _ _ _ h, hc]
  simp [hi]

set_option maxRecDepth 100000 in
set_option maxHeartbeats 2000000 in
theorem specEnums (w : World) : Calls Tryd.prog 26 #[] w fun x w' => ∃ (la : Option Addr) (ls : List Lb), x = .returned (.slice la 2 2) ∧ ls.length = 2 ∧ (∀ W : World, w'.heap.size ≤ W.heap.size → (∀ b, w.heap.size ≤ b → b < w'.heap.size → W.heap[b]? = w'.heap[b]?) → Lbs W la 2 ls) ∧ Below w.heap.size w w' := by
  have H : Hid (∀ W w', w' = ((w.alloc (.cells #[.string ⟨#[104, 97, 112, 112, 121]⟩, .string ⟨#[115, 97, 100]⟩] 9)).alloc (.cells #[.string ⟨#[97]⟩, .string ⟨#[105, 116, 39, 115]⟩] 9)).alloc (.cells #[.string ⟨#[109, 111, 111, 100]⟩, .slice (some ⟨w.heap.size, 0, none⟩) 2 2, .string ⟨#[115, 105, 122, 101]⟩, .slice (some ⟨w.heap.size + 1, 0, none⟩) 2 2] 117) → w'.heap.size ≤ W.heap.size → (∀ b, w.heap.size ≤ b → b < w'.heap.size → W.heap[b]? = w'.heap[b]?) →
      Lbs W (some ⟨w.heap.size + 1 + 1, 0, none⟩) 2 [⟨⟨#[109, 111, 111, 100]⟩, [⟨#[104, 97, 112, 112, 121]⟩, ⟨#[115, 97, 100]⟩], some ⟨w.heap.size, 0, none⟩, 2⟩, ⟨⟨#[115, 105, 122, 101]⟩, [⟨#[97]⟩, ⟨#[105, 116, 39, 115]⟩], some ⟨w.heap.size + 1, 0, none⟩, 2⟩]) := by
    intro W w' hw hsz hag
    have s1 := size_allocE w (.cells #[.string ⟨#[104, 97, 112, 112, 121]⟩, .string ⟨#[115, 97, 100]⟩] 9)
    have g1 := heap_alloc_new w (.cells #[.string ⟨#[104, 97, 112, 112, 121]⟩, .string ⟨#[115, 97, 100]⟩] 9)
    generalize w.alloc (.cells #[.string ⟨#[104, 97, 112, 112, 121]⟩, .string ⟨#[115, 97, 100]⟩] 9) = w1 at *
    have s2 := size_allocE w1 (.cells #[.string ⟨#[97]⟩, .string ⟨#[105, 116, 39, 115]⟩] 9)
    have g2 := heap_alloc_new w1 (.cells #[.string ⟨#[97]⟩, .string ⟨#[105, 116, 39, 115]⟩] 9)
    have b2 := (Below.refl w1.heap.size w1).alloc (Nat.le_refl _) (.cells #[.string ⟨#[97]⟩, .string ⟨#[105, 116, 39, 115]⟩] 9)
    generalize w1.alloc (.cells #[.string ⟨#[97]⟩, .string ⟨#[105, 116, 39, 115]⟩] 9) = w2 at *
    have s3 := size_allocE w2 (.cells #[.string ⟨#[109, 111, 111, 100]⟩, .slice (some ⟨w.heap.size, 0, none⟩) 2 2, .string ⟨#[115, 105, 122, 101]⟩, .slice (some ⟨w.heap.size + 1, 0, none⟩) 2 2] 117)
    have g3 := heap_alloc_new w2 (.cells #[.string ⟨#[109, 111, 111, 100]⟩, .slice (some ⟨w.heap.size, 0, none⟩) 2 2, .string ⟨#[115, 105, 122, 101]⟩, .slice (some ⟨w.heap.size + 1, 0, none⟩) 2 2] 117)
    have b3 := (Below.refl w2.heap.size w2).alloc (Nat.le_refl _) (.cells #[.string ⟨#[109, 111, 111, 100]⟩, .slice (some ⟨w.heap.size, 0, none⟩) 2 2, .string ⟨#[115, 105, 122, 101]⟩, .slice (some ⟨w.heap.size + 1, 0, none⟩) 2 2] 117)
    rw [← hw] at s3 g3 b3
    have e1 : W.heap[w.heap.size]? = _ := (hag w.heap.size (Nat.le_refl _) (by omega)).trans ((b3.block _ (by omega)).trans ((b2.block _ (by omega)).trans g1))
    rw [s1] at g2
    have e2 : W.heap[w.heap.size + 1]? = _ := (hag (w.heap.size + 1) (by omega) (by omega)).trans ((b3.block _ (by omega)).trans g2)
    rw [s2, s1] at g3
    have e3 : W.heap[w.heap.size + 1 + 1]? = _ := (hag (w.heap.size + 1 + 1) (by omega) (by omega)).trans g3
    have t1 := rowStrs e1 (xs := [⟨#[104, 97, 112, 112, 121]⟩, ⟨#[115, 97, 100]⟩]) rfl (by intro s hs; simp only [List.mem_cons, List.not_mem_nil, or_false] at hs; unfold maxLen; rcases hs with rfl | rfl <;> decide) (by decide)
    have t2 := rowStrs e2 (xs := [⟨#[97]⟩, ⟨#[105, 116, 39, 115]⟩]) rfl (by intro s hs; simp only [List.mem_cons, List.not_mem_nil, or_false] at hs; unfold maxLen; rcases hs with rfl | rfl <;> decide) (by decide)
    refine ⟨Nat.le_refl _, by unfold maxLen; omega, (fun h => by cases h), fun _ => ⟨w.heap.size + 1 + 1, 0, rfl, by omega, fun i hi => ?_⟩⟩
    have hi2 : i = 0 ∨ i = 1 := by have : i < 2 := hi; omega
    rcases hi2 with rfl | rfl
    · exact ⟨by rw [cell_of_row _ _ _ _ _ _ e3]; rfl, by rw [cell_of_row _ _ _ _ _ _ e3]; rfl, by show (4 : Nat) ≤ maxLen; unfold maxLen; omega, t1⟩
    · exact ⟨by rw [cell_of_row _ _ _ _ _ _ e3]; rfl, by rw [cell_of_row _ _ _ _ _ _ e3]; rfl, by show (4 : Nat) ≤ maxLen; unfold maxLen; omega, t2⟩
  go_enter Tryd.func26, Tryd.ntmps26
  go_wp2_with fail
  go_ret
  exact ⟨_, _, rfl, rfl, fun W hsz hag => H.out W _ rfl hsz hag, ((((Below.refl _ _).alloc (Nat.le_refl _) _).alloc (by simp) _).alloc (by simp; omega) _)⟩

/-- What is drawn for FnGives. -/
def DrewG (w : World) (x : Ending) (w' : World) : Prop :=
  ∃ (e : Ex) (ea : Option Addr) (ec d : Nat) (tk tl : Int) (tn : ByteArray) (la : Option Addr) (ls : List Lb), x = .returned (.tuple #[.agg #[.int .i64 e.kind, .string e.text, .int .i64 e.num, .slice ea e.kids.length ec], .agg #[.int .i64 tk, .int .i64 tl, .string tn], .slice la 2 2]) ∧ Sm e 64 ∧ KidsAt w' d ea ec e.kids ∧ ls.length = 2 ∧ Lbs w' la 2 ls ∧ Below w.heap.size w w'

/-- The boxes of DrawGives. -/
structure GV (w : World) (T E : Nat) (tk tl : Int) (tn : ByteArray) (e : Ex) (ea : Option Addr) (ec : Nat) (V : World) : Prop where
  r1 : ExRow V w.heap.size 0 ⟨#[]⟩ 0 (.slice none 0 0)
  r2 : TyRow V (w.heap.size + 1) 0 0 ⟨#[]⟩
  t : TyRow V T tk tl tn
  x : ExRow V E e.kind e.text e.num (.slice ea e.kids.length ec)
  tr : ∃ d, KidsQ (fun b => w.heap.size + 1 < b) V d ea ec e.kids
  sm : Sm e 64
  bel : Below w.heap.size w V

theorem TyRow.below {W W' : World} {R : Nat} {k l : Int} {s : ByteArray} (h : TyRow W R k l s) (hb : Below W.heap.size W W') : TyRow W' R k l s := (hb.block R h.lt).trans h

theorem GV.below {w : World} {T E : Nat} {tk tl : Int} {tn : ByteArray} {e : Ex} {ea : Option Addr} {ec : Nat} {V V' : World} (h : GV w T E tk tl tn e ea ec V) (hb : Below V.heap.size V V') : GV w T E tk tl tn e ea ec V' := by
  obtain ⟨d, hk⟩ := h.tr
  exact ⟨h.r1.below hb, h.r2.below hb, h.t.below hb, h.x.below hb, ⟨d, hk.agree hb.size fun b _ hl o => hb.cell (p := ⟨b, o, none⟩) hl⟩, h.sm, h.bel.trans (hb.mono h.bel.size)⟩

/-- The boxes before the expression is drawn. -/
structure GU (w : World) (a : Option Addr) (c : Nat) (l : List UInt8) (w0 : World) (g T E : Nat) (tk tl : Int) (tn : ByteArray) (V : World) : Prop where
  r1 : ExRow V w.heap.size 0 ⟨#[]⟩ 0 (.slice none 0 0)
  r2 : TyRow V (w.heap.size + 1) 0 0 ⟨#[]⟩
  t : TyRow V T tk tl tn
  x : ExRow V E 0 ⟨#[]⟩ 0 (.slice none 0 0)
  deck : Deck w0 a c l g V
  bel : Below w.heap.size w V
  hg : w.heap.size + 1 < g
  hT : g < T
  hE : T < E

theorem GU.kept {w : World} {a : Option Addr} {c : Nat} {l : List UInt8} {w0 : World} {g T E : Nat} {tk tl : Int} {tn : ByteArray} {V V' : World} (h : GU w a c l w0 g T E tk tl tn V) (hd : Deck w0 a c l g V') (hg : V.grownBy V' (some g)) : GU w a c l w0 g T E tk tl tn V' := by
  have h1 := h.hg
  have h2 := h.hT
  have h3 := h.hE
  exact ⟨h.r1.kept hg (fun e => by have := Option.some.inj e; omega), h.r2.kept hg (by omega), h.t.kept hg (by omega), h.x.kept hg (fun e => by have := Option.some.inj e; omega), hd, h.bel.grown hg h.bel.size (fun q hq => by cases hq; omega), h1, h2, h3⟩

theorem GU.alloc {w : World} {a : Option Addr} {c : Nat} {l : List UInt8} {w0 : World} {g T E : Nat} {tk tl : Int} {tn : ByteArray} {V : World} (h : GU w a c l w0 g T E tk tl tn V) (o : Obj) : GU w a c l w0 g T E tk tl tn (V.alloc o) :=
  ⟨h.r1.alloc o, h.r2.alloc o, h.t.alloc o, h.x.alloc o, h.deck.alloc o, h.bel.alloc h.bel.size o, h.hg, h.hT, h.hE⟩

/-- The expression is stored into its box. -/
theorem GU.put {w : World} {a : Option Addr} {c : Nat} {l : List UInt8} {w0 : World} {g T E : Nat} {tk tl : Int} {tn : ByteArray} {V : World} (h : GU w a c l w0 g T E tk tl tn V) {e : Ex} {ea : Option Addr} {ec : Nat} (ht : ∃ d, KidsQ (fun b => E < b) V d ea ec e.kids) (hs : Sm e 64) {V' : World}
    (hV : V' = (((V.setCell ⟨E, 0, none⟩ (.int .i64 e.kind)).setCell ⟨E, 1, none⟩ (.string e.text)).setCell ⟨E, 2, none⟩ (.int .i64 e.num)).setCell ⟨E, 3, none⟩ (.slice ea e.kids.length ec)) : GV w T E tk tl tn e ea ec V' := by
  have h1 := h.hg
  have h2 := h.hT
  have h3 := h.hE
  have hag : ∀ b, b ≠ E → V'.heap[b]? = V.heap[b]? := by
    intro b hb
    rw [hV, Below.heap_setCell _ _ _ _ hb, Below.heap_setCell _ _ _ _ hb, Below.heap_setCell _ _ _ _ hb, Below.heap_setCell _ _ _ _ hb]
  have hsz : V'.heap.size = V.heap.size := by rw [hV]; simp [World.setCell]
  obtain ⟨d, hk⟩ := ht
  refine ⟨(hag _ (by omega)).trans h.r1, (hag _ (by omega)).trans h.r2, (hag _ (by omega)).trans h.t, by rw [hV]; exact (((h.x.set0 _).set1 _).set2 _).set3 _, ⟨d, (hk.agree (by omega) fun b hb _ o => ?_).imp fun b hb _ => by omega⟩, hs, ?_⟩
  · unfold World.cell?
    simp only [hag b (by omega)]
  · rw [hV]
    exact (((h.bel.setCell (p := ⟨E, 0, none⟩) (by show _ ≤ E; omega) _).setCell (p := ⟨E, 1, none⟩) (by show _ ≤ E; omega) _).setCell (p := ⟨E, 2, none⟩) (by show _ ≤ E; omega) _).setCell (p := ⟨E, 3, none⟩) (by show _ ≤ E; omega) _

/-- The end: the boxes are copied into the answer's. -/
theorem GV.done {w : World} {T E : Nat} {tk tl : Int} {tn : ByteArray} {e : Ex} {ea : Option Addr} {ec : Nat} {V : World} (h : GV w T E tk tl tn e ea ec V) {la : Option Addr} {ls : List Lb} (hl : ls.length = 2) {n0 : Nat} (hn0 : w.heap.size + 1 < n0) (hlb : ∀ W : World, V.heap.size ≤ W.heap.size → (∀ b, n0 ≤ b → b < V.heap.size → W.heap[b]? = V.heap[b]?) → Lbs W la 2 ls) {u0 u1 u2 u3 v0 v1 v2 : Value} {W' : World}
    (hW : W' = ((((((V.setCell ⟨w.heap.size, 0, none⟩ u0).setCell ⟨w.heap.size, 1, none⟩ u1).setCell ⟨w.heap.size, 2, none⟩ u2).setCell ⟨w.heap.size, 3, none⟩ u3).setCell ⟨w.heap.size + 1, 0, none⟩ v0).setCell ⟨w.heap.size + 1, 1, none⟩ v1).setCell ⟨w.heap.size + 1, 2, none⟩ v2) :
    DrewG w (.returned (.tuple #[.agg #[.int .i64 e.kind, .string e.text, .int .i64 e.num, .slice ea e.kids.length ec], .agg #[.int .i64 tk, .int .i64 tl, .string tn], .slice la 2 2])) W' := by
  have hag : ∀ b, w.heap.size + 1 < b → W'.heap[b]? = V.heap[b]? := by
    intro b hb
    rw [hW, Below.heap_setCell _ _ _ _ (by show b ≠ w.heap.size + 1; omega), Below.heap_setCell _ _ _ _ (by show b ≠ w.heap.size + 1; omega), Below.heap_setCell _ _ _ _ (by show b ≠ w.heap.size + 1; omega), Below.heap_setCell _ _ _ _ (by show b ≠ w.heap.size; omega), Below.heap_setCell _ _ _ _ (by show b ≠ w.heap.size; omega), Below.heap_setCell _ _ _ _ (by show b ≠ w.heap.size; omega), Below.heap_setCell _ _ _ _ (by show b ≠ w.heap.size; omega)]
  have hsz : W'.heap.size = V.heap.size := by rw [hW]; simp [World.setCell]
  obtain ⟨d, hk⟩ := h.tr
  refine ⟨e, ea, ec, d, tk, tl, tn, la, ls, rfl, h.sm, (hk.agree (w' := W') (by omega) fun b hb _ o => ?_).at, hl, hlb W' (by omega) fun b hb _ => hag b (by omega), ?_⟩
  · unfold World.cell?
    simp only [hag b hb]
  · rw [hW]
    exact ((((((h.bel.setCell (p := ⟨w.heap.size, 0, none⟩) (Nat.le_refl _) _).setCell (p := ⟨w.heap.size, 1, none⟩) (Nat.le_refl _) _).setCell (p := ⟨w.heap.size, 2, none⟩) (Nat.le_refl _) _).setCell (p := ⟨w.heap.size, 3, none⟩) (Nat.le_refl _) _).setCell (p := ⟨w.heap.size + 1, 0, none⟩) (by show _ ≤ w.heap.size + 1; omega) _).setCell (p := ⟨w.heap.size + 1, 1, none⟩) (by show _ ≤ w.heap.size + 1; omega) _).setCell (p := ⟨w.heap.size + 1, 2, none⟩) (by show _ ≤ w.heap.size + 1; omega) _

/-- The same, stored in the other order. -/
theorem GV.done2 {w : World} {T E : Nat} {tk tl : Int} {tn : ByteArray} {e : Ex} {ea : Option Addr} {ec : Nat} {V : World} (h : GV w T E tk tl tn e ea ec V) {la : Option Addr} {ls : List Lb} (hl : ls.length = 2) {n0 : Nat} (hn0 : w.heap.size + 1 < n0) (hlb : ∀ W : World, V.heap.size ≤ W.heap.size → (∀ b, n0 ≤ b → b < V.heap.size → W.heap[b]? = V.heap[b]?) → Lbs W la 2 ls) {u0 u1 u2 u3 v0 v1 v2 : Value} {W' : World}
    (hW : W' = ((((((V.setCell ⟨w.heap.size + 1, 0, none⟩ v0).setCell ⟨w.heap.size + 1, 1, none⟩ v1).setCell ⟨w.heap.size + 1, 2, none⟩ v2).setCell ⟨w.heap.size, 0, none⟩ u0).setCell ⟨w.heap.size, 1, none⟩ u1).setCell ⟨w.heap.size, 2, none⟩ u2).setCell ⟨w.heap.size, 3, none⟩ u3) :
    DrewG w (.returned (.tuple #[.agg #[.int .i64 e.kind, .string e.text, .int .i64 e.num, .slice ea e.kids.length ec], .agg #[.int .i64 tk, .int .i64 tl, .string tn], .slice la 2 2])) W' := by
  have hag : ∀ b, w.heap.size + 1 < b → W'.heap[b]? = V.heap[b]? := by
    intro b hb
    rw [hW, Below.heap_setCell _ _ _ _ (by show b ≠ w.heap.size; omega), Below.heap_setCell _ _ _ _ (by show b ≠ w.heap.size; omega), Below.heap_setCell _ _ _ _ (by show b ≠ w.heap.size; omega), Below.heap_setCell _ _ _ _ (by show b ≠ w.heap.size; omega), Below.heap_setCell _ _ _ _ (by show b ≠ w.heap.size + 1; omega), Below.heap_setCell _ _ _ _ (by show b ≠ w.heap.size + 1; omega), Below.heap_setCell _ _ _ _ (by show b ≠ w.heap.size + 1; omega)]
  have hsz : W'.heap.size = V.heap.size := by rw [hW]; simp [World.setCell]
  obtain ⟨d, hk⟩ := h.tr
  refine ⟨e, ea, ec, d, tk, tl, tn, la, ls, rfl, h.sm, (hk.agree (w' := W') (by omega) fun b hb _ o => ?_).at, hl, hlb W' (by omega) fun b hb _ => hag b (by omega), ?_⟩
  · unfold World.cell?
    simp only [hag b hb]
  · rw [hW]
    exact ((((((h.bel.setCell (p := ⟨w.heap.size + 1, 0, none⟩) (by show _ ≤ w.heap.size + 1; omega) _).setCell (p := ⟨w.heap.size + 1, 1, none⟩) (by show _ ≤ w.heap.size + 1; omega) _).setCell (p := ⟨w.heap.size + 1, 2, none⟩) (by show _ ≤ w.heap.size + 1; omega) _).setCell (p := ⟨w.heap.size, 0, none⟩) (Nat.le_refl _) _).setCell (p := ⟨w.heap.size, 1, none⟩) (Nat.le_refl _) _).setCell (p := ⟨w.heap.size, 2, none⟩) (Nat.le_refl _) _).setCell (p := ⟨w.heap.size, 3, none⟩) (Nat.le_refl _) _

def texts4g : List ByteArray := [⟨#[104, 97, 112, 112, 121]⟩, ⟨#[97]⟩, ⟨#[]⟩, ⟨#[116, 111, 111, 32, 108, 111, 110, 103, 32, 102, 111, 114, 32, 105, 116]⟩]
theorem texts4g_small : ∀ s ∈ texts4g, s.size ≤ 60 := by unfold texts4g; decide

theorem kids_none (E : Nat) (V : World) : ∃ d, KidsQ (fun b => E < b) V d none 0 [] := ⟨1, Nat.le_refl _, by unfold maxLen; omega, fun _ => rfl, fun h => absurd h (by simp)⟩

theorem sm_one {k n : Int} {t : ByteArray} (hk : i64E k) (hn : i64E n) (ht : t.size ≤ 60) : Sm (.mk k t n []) 64 := sm_leaf hk hn ht (by omega)

set_option maxRecDepth 100000 in
set_option maxHeartbeats 4000000 in
theorem specDrawGives (a : Option Addr) (c : Nat) (l : List UInt8) (w : World) (hb : Bytes w a c l) (hs : l.length ≤ 1048576) :
    Calls Tryd.prog 7 #[.slice a l.length c] w (DrewG w) := by
  have hbb := ((Below.refl w.heap.size w).alloc (Nat.le_refl _) (.cells #[.int .i64 0, .string ⟨#[]⟩, .int .i64 0, .slice none 0 0] 26)).alloc (by simp) (.cells #[.int .i64 0, .int .i64 0, .string ⟨#[]⟩] 28)
  have HBY := Lib.hid (hb.below hbb)
  have HB0 := Lib.hid hbb
  have HR1 := Lib.hid ((exRow_new w 0 ⟨#[]⟩ 0 (.slice none 0 0)).alloc (.cells #[.int .i64 0, .int .i64 0, .string ⟨#[]⟩] 28))
  have HR2 : Hid (TyRow ((w.alloc (.cells #[.int .i64 0, .string ⟨#[]⟩, .int .i64 0, .slice none 0 0] 26)).alloc (.cells #[.int .i64 0, .int .i64 0, .string ⟨#[]⟩] 28)) (w.heap.size + 1) 0 0 ⟨#[]⟩) := by
    have := tyRow_new (w.alloc (.cells #[.int .i64 0, .string ⟨#[]⟩, .int .i64 0, .slice none 0 0] 26)) 0 0 ⟨#[]⟩
    rw [size_allocE] at this
    exact this
  clear hb hbb
  go_enter Tryd.func7, Tryd.ntmps7
  go_wp2_with fail
  generalize (w.alloc (.cells #[.int .i64 0, .string ⟨#[]⟩, .int .i64 0, .slice none 0 0] 26)).alloc (.cells #[.int .i64 0, .int .i64 0, .string ⟨#[]⟩] 28) = W0 at HBY HB0 HR1 HR2 ⊢
  refine (l01New a c l W0 HBY.out hs).mono ?_
  rintro e w1 ⟨rfl, hd1, hb1, hz1⟩
  have HB1 := Lib.hid (HB0.out.trans (hb1.mono HB0.out.size))
  have HR11 := Lib.hid (HR1.out.below hb1)
  have HR21 := Lib.hid (HR2.out.below hb1)
  have hg1 : w.heap.size + 1 < W0.heap.size := HR2.out.lt
  have HD1 := Lib.hid hd1
  clear hb1 hz1 hd1
  go_wp2_with fail
  refine (l03Type HD1.out).mono ?_
  rintro e w2 ⟨v, ⟨tk, tl, tn, rfl⟩, rfl, hd2, hg2⟩
  have HGU : Hid (GU w a c l W0 W0.heap.size w2.heap.size (w2.heap.size + 1) tk tl tn ((w2.alloc (.cells #[.int .i64 tk, .int .i64 tl, .string tn] 28)).alloc (.cells #[.int .i64 0, .string ⟨#[]⟩, .int .i64 0, .slice none 0 0] 26))) := by
    have s1 := size_allocE w2 (.cells #[.int .i64 tk, .int .i64 tl, .string tn] 28)
    have x := exRow_new (w2.alloc (.cells #[.int .i64 tk, .int .i64 tl, .string tn] 28)) 0 ⟨#[]⟩ 0 (.slice none 0 0)
    rw [s1] at x
    have b2 := HB1.out.grown hg2 HB1.out.size (fun q hq => by cases hq; omega)
    have r1 := HR11.out.kept hg2 (fun e => by have := Option.some.inj e; omega)
    have r2 := HR21.out.kept hg2 (by omega)
    exact ⟨(r1.alloc _).alloc _, (r2.alloc _).alloc _, (tyRow_new w2 tk tl tn).alloc _, x, (hd2.alloc _).alloc _, (b2.alloc b2.size _).alloc (by have := b2.size; simp; omega) _, hg1, hd2.lt, by omega⟩
  clear hd2 hg2
  go_wp2_with fail
  generalize (w2.alloc (.cells #[.int .i64 tk, .int .i64 tl, .string tn] 28)).alloc (.cells #[.int .i64 0, .string ⟨#[]⟩, .int .i64 0, .slice none 0 0] 26) = W2 at HGU ⊢
  generalize w2.heap.size = T at HGU ⊢
  refine (l01Below HGU.out.deck 6 (by omega) (by omega)).mono ?_
  rintro e w3 ⟨v, ⟨x, rfl, hx0, hx1⟩, rfl, hd3, hg3⟩
  have HG3 := Lib.hid (HGU.out.kept hd3 hg3)
  clear hd3 hg3 HGU
  have hEl : T + 1 < w3.heap.size := HG3.out.x.lt
  obtain ⟨x0, x1, x2, x3, xf⟩ := HG3.out.x.cells
  have hn1 : ¬ w.heap.size = T := by have h1 := HG3.out.hg; have h2 := HG3.out.hT; omega
  have hn2 : ¬ w.heap.size = T + 1 := by have h1 := HG3.out.hg; have h2 := HG3.out.hT; omega
  have hn3 : ¬ w.heap.size + 1 = T := by have h1 := HG3.out.hg; have h2 := HG3.out.hT; omega
  by_cases q0 : x = 0
  · subst q0
    go_wp2_with fail
    refine (l04OddS HG3.out.deck (by have := HG3.out.deck.below.size; exact this)).mono ?_
    rintro y w4 ⟨k, t, n, es, a', c', rfl, hrow, hsm, hdg⟩
    have HG4 := Lib.hid (HG3.out.kept hdg.1 hdg.2)
    obtain ⟨x0, x1, x2, x3, xf⟩ := HG4.out.x.cells
    have hl : (eOf k t n es).kids.length = es.length := List.length_map ..
    have HV : Hid (GV w T (T + 1) tk tl tn (eOf k t n es) a' c' ((((w4.setCell ⟨T + 1, 0, none⟩ (.int .i64 k)).setCell ⟨T + 1, 1, none⟩ (.string t)).setCell ⟨T + 1, 2, none⟩ (.int .i64 n)).setCell ⟨T + 1, 3, none⟩ (.slice a' es.length c'))) := HG4.out.put (e := eOf k t n es) (by obtain ⟨d, hk⟩ := hrow.kids; exact ⟨d, hk.toQ.imp fun b hb _ => by omega⟩) hsm (by rw [hl]; rfl)
    clear hrow hsm hdg hl
    go_wp2_with fail
    generalize (((w4.setCell ⟨T + 1, 0, none⟩ (.int .i64 k)).setCell ⟨T + 1, 1, none⟩ (.string t)).setCell ⟨T + 1, 2, none⟩ (.int .i64 n)).setCell ⟨T + 1, 3, none⟩ (.slice a' es.length c') = V at HV ⊢
    obtain ⟨e, he⟩ : ∃ e : Ex, e = eOf k t n es := ⟨_, rfl⟩
    rw [← he] at HV
    clear he x0 x1 x2 x3 xf
    have HVD := Lib.hid (HV.out.below (below_drewE (Below.refl _ _)))
    have hls : w.heap.size + 1 < V.drew.heap.size := HVD.out.r2.lt
    obtain ⟨x0, x1, x2, x3, xf⟩ := HVD.out.x.cells
    obtain ⟨t0, t1, t2, tf⟩ := HVD.out.t.cells
    go_region_law (go_simp; go_at_call 26; refine (specEnums _).mono ?_; rintro y wq ⟨la, ls, rfl, hll, hlbs, bq⟩; have HVQ := Lib.hid (HVD.out.below bq); have HLB := Lib.hid hlbs; obtain ⟨a0, a1, a2, a3, af⟩ := HVQ.out.x.cells; obtain ⟨c0, c1, c2, cf⟩ := HVQ.out.t.cells; obtain ⟨d0, d1, d2, d3, df⟩ := HVQ.out.r1.cells; obtain ⟨e0, e1, e2, ef⟩ := HVQ.out.r2.cells; clear bq hlbs)
    all_goals
      go_wp2_with fail
      refine bodyPost_ret (v := .tuple #[.agg #[.int .i64 e.kind, .string e.text, .int .i64 e.num, .slice a' e.kids.length c'], .agg #[.int .i64 tk, .int .i64 tl, .string tn], .slice la 2 2]) (by simp [results, Tryd.results7, go_sem, *]) rfl ?_
      first
      | exact HVQ.out.done hll hls HLB.out rfl
      | exact HVQ.out.done2 hll hls HLB.out rfl
  by_cases q1 : x = 1
  · subst q1
    have HV : Hid (GV w T (T + 1) tk tl tn (.mk 1 ⟨#[]⟩ 5 []) none 0 ((((w3.setCell ⟨T + 1, 0, none⟩ (.int .i64 1)).setCell ⟨T + 1, 1, none⟩ (.string ⟨#[]⟩)).setCell ⟨T + 1, 2, none⟩ (.int .i64 5)).setCell ⟨T + 1, 3, none⟩ (.slice none 0 0))) := HG3.out.put (e := .mk 1 ⟨#[]⟩ 5 []) (kids_none _ _) (sm_one (by unfold i64E; omega) (by unfold i64E; omega) (by decide)) rfl
    go_wp2_with fail
    generalize (((w3.setCell ⟨T + 1, 0, none⟩ (.int .i64 1)).setCell ⟨T + 1, 1, none⟩ (.string ⟨#[]⟩)).setCell ⟨T + 1, 2, none⟩ (.int .i64 5)).setCell ⟨T + 1, 3, none⟩ (.slice none 0 0) = V at HV ⊢
    obtain ⟨e, he⟩ : ∃ e : Ex, e = .mk 1 ⟨#[]⟩ 5 [] := ⟨_, rfl⟩
    rw [← he] at HV
    clear he x0 x1 x2 x3 xf
    have HVD := Lib.hid (HV.out.below (below_drewE (Below.refl _ _)))
    have hls : w.heap.size + 1 < V.drew.heap.size := HVD.out.r2.lt
    obtain ⟨x0, x1, x2, x3, xf⟩ := HVD.out.x.cells
    obtain ⟨t0, t1, t2, tf⟩ := HVD.out.t.cells
    go_region_law (go_simp; go_at_call 26; refine (specEnums _).mono ?_; rintro y wq ⟨la, ls, rfl, hll, hlbs, bq⟩; have HVQ := Lib.hid (HVD.out.below bq); have HLB := Lib.hid hlbs; obtain ⟨a0, a1, a2, a3, af⟩ := HVQ.out.x.cells; obtain ⟨c0, c1, c2, cf⟩ := HVQ.out.t.cells; obtain ⟨d0, d1, d2, d3, df⟩ := HVQ.out.r1.cells; obtain ⟨e0, e1, e2, ef⟩ := HVQ.out.r2.cells; clear bq hlbs)
    all_goals
      go_wp2_with fail
      refine bodyPost_ret (v := .tuple #[.agg #[.int .i64 e.kind, .string e.text, .int .i64 e.num, .slice none e.kids.length 0], .agg #[.int .i64 tk, .int .i64 tl, .string tn], .slice la 2 2]) (by simp [results, Tryd.results7, go_sem, *]) rfl ?_
      first
      | exact HVQ.out.done hll hls HLB.out rfl
      | exact HVQ.out.done2 hll hls HLB.out rfl
  have b0 : (x == 0) = false := by rw [beq_eq_false_iff_ne]; exact q0
  have b1 : (x == 1) = false := by rw [beq_eq_false_iff_ne]; exact q1
  by_cases q2 : x = 2
  · subst q2
    clear b0 b1
    go_wp2_with fail
    refine (l01PickIntP (HG3.out.deck.alloc _) (fun z => z = 3 ∨ z = 5) w3.heap.size 2 _ (heap_alloc_new _ _) (by have := HG3.out.deck.lt; omega) rfl (by omega) (by omega) ?_).mono ?_
    · intro k v hv
      have hm := Array.mem_of_getElem? hv
      simp only [List.mem_toArray, List.mem_cons, List.not_mem_nil, or_false] at hm
      rcases hm with rfl | rfl <;> exact ⟨_, rfl, by omega⟩
    rintro y w4 ⟨v, ⟨z, rfl, hz⟩, rfl, hd4, hg4⟩
    have HG4 := Lib.hid ((HG3.out.alloc _).kept hd4 hg4)
    clear hd4 hg4
    obtain ⟨x0, x1, x2, x3, xf⟩ := HG4.out.x.cells
    have HV : Hid (GV w T (T + 1) tk tl tn (.mk z ⟨#[]⟩ 0 []) none 0 ((((w4.setCell ⟨T + 1, 0, none⟩ (.int .i64 z)).setCell ⟨T + 1, 1, none⟩ (.string ⟨#[]⟩)).setCell ⟨T + 1, 2, none⟩ (.int .i64 0)).setCell ⟨T + 1, 3, none⟩ (.slice none 0 0))) := HG4.out.put (e := .mk z ⟨#[]⟩ 0 []) (kids_none _ _) (sm_one (by unfold i64E; omega) (by unfold i64E; omega) (by decide)) rfl
    go_wp2_with fail
    generalize (((w4.setCell ⟨T + 1, 0, none⟩ (.int .i64 z)).setCell ⟨T + 1, 1, none⟩ (.string ⟨#[]⟩)).setCell ⟨T + 1, 2, none⟩ (.int .i64 0)).setCell ⟨T + 1, 3, none⟩ (.slice none 0 0) = V at HV ⊢
    obtain ⟨e, he⟩ : ∃ e : Ex, e = .mk z ⟨#[]⟩ 0 [] := ⟨_, rfl⟩
    rw [← he] at HV
    clear he x0 x1 x2 x3 xf
    have HVD := Lib.hid (HV.out.below (below_drewE (Below.refl _ _)))
    have hls : w.heap.size + 1 < V.drew.heap.size := HVD.out.r2.lt
    obtain ⟨x0, x1, x2, x3, xf⟩ := HVD.out.x.cells
    obtain ⟨t0, t1, t2, tf⟩ := HVD.out.t.cells
    go_region_law (go_simp; go_at_call 26; refine (specEnums _).mono ?_; rintro y wq ⟨la, ls, rfl, hll, hlbs, bq⟩; have HVQ := Lib.hid (HVD.out.below bq); have HLB := Lib.hid hlbs; obtain ⟨a0, a1, a2, a3, af⟩ := HVQ.out.x.cells; obtain ⟨c0, c1, c2, cf⟩ := HVQ.out.t.cells; obtain ⟨d0, d1, d2, d3, df⟩ := HVQ.out.r1.cells; obtain ⟨e0, e1, e2, ef⟩ := HVQ.out.r2.cells; clear bq hlbs)
    all_goals
      go_wp2_with fail
      refine bodyPost_ret (v := .tuple #[.agg #[.int .i64 e.kind, .string e.text, .int .i64 e.num, .slice none e.kids.length 0], .agg #[.int .i64 tk, .int .i64 tl, .string tn], .slice la 2 2]) (by simp [results, Tryd.results7, go_sem, *]) rfl ?_
      first
      | exact HVQ.out.done hll hls HLB.out rfl
      | exact HVQ.out.done2 hll hls HLB.out rfl
  have b2 : (x == 2) = false := by rw [beq_eq_false_iff_ne]; exact q2
  go_wp2_with fail
  refine (pickLit HG3.out.deck texts4g 4 rfl (fun s hs => by have := texts4g_small s hs; unfold maxLen; omega) (by decide) (by decide) _ rfl).mono ?_
  rintro y w4 ⟨v, ⟨s, rfl, hs'⟩, rfl, hd4, hg4⟩
  have hss := texts4g_small s hs'
  have HG4 := Lib.hid ((HG3.out.alloc _).kept hd4 hg4)
  clear hd4 hg4
  obtain ⟨x0, x1, x2, x3, xf⟩ := HG4.out.x.cells
  have HV : Hid (GV w T (T + 1) tk tl tn (.mk 2 s 0 []) none 0 ((((w4.setCell ⟨T + 1, 0, none⟩ (.int .i64 2)).setCell ⟨T + 1, 1, none⟩ (.string s)).setCell ⟨T + 1, 2, none⟩ (.int .i64 0)).setCell ⟨T + 1, 3, none⟩ (.slice none 0 0))) := HG4.out.put (e := .mk 2 s 0 []) (kids_none _ _) (sm_one (by unfold i64E; omega) (by unfold i64E; omega) hss) rfl
  go_wp2_with fail
  generalize (((w4.setCell ⟨T + 1, 0, none⟩ (.int .i64 2)).setCell ⟨T + 1, 1, none⟩ (.string s)).setCell ⟨T + 1, 2, none⟩ (.int .i64 0)).setCell ⟨T + 1, 3, none⟩ (.slice none 0 0) = V at HV ⊢
  obtain ⟨e, he⟩ : ∃ e : Ex, e = .mk 2 s 0 [] := ⟨_, rfl⟩
  rw [← he] at HV
  clear he x0 x1 x2 x3 xf
  have HVD := Lib.hid (HV.out.below (below_drewE (Below.refl _ _)))
  have hls : w.heap.size + 1 < V.drew.heap.size := HVD.out.r2.lt
  obtain ⟨x0, x1, x2, x3, xf⟩ := HVD.out.x.cells
  obtain ⟨t0, t1, t2, tf⟩ := HVD.out.t.cells
  go_region_law (go_simp; go_at_call 26; refine (specEnums _).mono ?_; rintro y wq ⟨la, ls, rfl, hll, hlbs, bq⟩; have HVQ := Lib.hid (HVD.out.below bq); have HLB := Lib.hid hlbs; obtain ⟨a0, a1, a2, a3, af⟩ := HVQ.out.x.cells; obtain ⟨c0, c1, c2, cf⟩ := HVQ.out.t.cells; obtain ⟨d0, d1, d2, d3, df⟩ := HVQ.out.r1.cells; obtain ⟨e0, e1, e2, ef⟩ := HVQ.out.r2.cells; clear bq hlbs)
  all_goals
    go_wp2_with fail
    refine bodyPost_ret (v := .tuple #[.agg #[.int .i64 e.kind, .string e.text, .int .i64 e.num, .slice none e.kids.length 0], .agg #[.int .i64 tk, .int .i64 tl, .string tn], .slice la 2 2]) (by simp [results, Tryd.results7, go_sem, *]) rfl ?_
    first
    | exact HVQ.out.done hll hls HLB.out rfl
    | exact HVQ.out.done2 hll hls HLB.out rfl

end Go.Proofs.YtpdcmmhhgnackaaDoor
