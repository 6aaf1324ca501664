/- spec.Has and impl.Has both answer whether a text stands in a list. -/
/- Enumerations in memory; spec.l05Label, (impl.sorter).isLabel. -/
import Derived.Test.YtefjjcoaeanagaaDoorMLets
import Derived.Test.YtefjjcoaeanagaaDoorOpd
namespace Go.Proofs.YtefjjcoaeanagaaDoor
open Go.RowKit

def hasB (xs : List ByteArray) (s : ByteArray) : Bool := xs.any fun x => x.toList == s.toList

theorem hasB_take (xs : List ByteArray) (s : ByteArray) (k : Nat) (h : k < xs.length) : hasB (xs.take (k + 1)) s = (hasB (xs.take k) s || xs[k].toList == s.toList) := by
  unfold hasB
  rw [List.take_succ_eq_append_getElem h, List.any_append]
  simp only [List.any_cons, List.any_nil, Bool.or_false]

theorem hasB_hit (xs : List ByteArray) (s : ByteArray) (k : Nat) (h : k < xs.length) (he : (xs[k].toList == s.toList) = true) : hasB xs s = true :=
  List.any_eq_true.2 ⟨xs[k], List.getElem_mem h, he⟩

set_option maxHeartbeats 400000 in
theorem specHas (a : Option Addr) (c : Nat) (xs : List ByteArray) (s : ByteArray) (w : World) (hx : Strs w a c xs) :
    Calls Tryd.prog 75 #[.slice a xs.length c, .string s] w (Quiet w (.bool (hasB xs s))) := by
  have hl := hx.len
  go_enter Tryd.func75, Tryd.ntmps75
  go_wp2
  go_loop [5] (fun i => ∃ k : Nat, k ≤ xs.length ∧ i = .int .i64 k ∧ Hid (hasB (xs.take k) s = false)) (fun i => xs.length - (intOf i).toNat)
  case atStart => exact ⟨0, Nat.zero_le _, rfl, rfl⟩
  case round =>
    obtain ⟨k, hk, rfl, hno⟩ := hrel
    by_cases hlt : k < xs.length
    · obtain ⟨b, off, rfl, hb, hc⟩ := hx.spot hlt
      cases he : (xs[k].toList == s.toList) with
      | true =>
        have H := Lib.hid (hasB_hit xs s k hlt he)
        go_wp2
        go_ret
        exact ⟨by rw [H.out]; rfl, 0, rfl⟩
      | false =>
        have H : Hid (hasB (xs.take (k + 1)) s = false) := by unfold Hid; rw [hasB_take xs s k hlt, hno.out, he]; rfl
        go_wp2
        go_round
        case rel => exact ⟨k + 1, by omega, by go_num, H⟩
        case measure => simp [intOf]; omega
    · have H : Hid (hasB xs s = false) := by have := hno.out; rwa [List.take_of_length_le (by omega)] at this
      go_wp2
      go_ret
      exact ⟨by rw [H.out]; rfl, 0, rfl⟩

theorem beq_flip (a b : List UInt8) : (a == b) = (b == a) := by
  rw [Bool.eq_iff_iff, beq_iff_eq, beq_iff_eq]; exact eq_comm

set_option maxHeartbeats 400000 in
theorem slicesIndex (a : Option Addr) (c : Nat) (xs : List ByteArray) (s : ByteArray) (w : World) (hx : Strs w a c xs) :
    Calls Tryd.prog 115 #[.slice a xs.length c, .string s] w fun e w' => ∃ r : Int, e = .returned (.int .i64 r) ∧ Hid (decide (0 ≤ r) = hasB xs s) ∧ w = w' := by
  have hl := hx.len
  go_enter Tryd.func115, Tryd.ntmps115
  go_wp2
  go_loop [8] (fun i => ∃ k : Nat, k ≤ xs.length ∧ i = .int .i64 k ∧ Hid (hasB (xs.take k) s = false)) (fun i => xs.length - (intOf i).toNat)
  case atStart => exact ⟨0, Nat.zero_le _, rfl, rfl⟩
  case round =>
    obtain ⟨k, hk, rfl, hno⟩ := hrel
    by_cases hlt : k < xs.length
    · obtain ⟨b, off, rfl, hb, hc⟩ := hx.spot hlt
      cases he : (s.toList == xs[k].toList) with
      | true =>
        have H := Lib.hid (hasB_hit xs s k hlt (by rw [beq_flip]; exact he))
        go_wp2
        go_ret
        exact ⟨k, rfl, by unfold Hid; rw [H.out]; simp, rfl⟩
      | false =>
        have H : Hid (hasB (xs.take (k + 1)) s = false) := by unfold Hid; rw [hasB_take xs s k hlt, hno.out, beq_flip, he]; rfl
        go_wp2
        go_round
        case rel => exact ⟨k + 1, by omega, by go_num, H⟩
        case measure => simp [intOf]; omega
    · have H : Hid (hasB xs s = false) := by have := hno.out; rwa [List.take_of_length_le (by omega)] at this
      go_wp2
      go_ret
      exact ⟨-1, rfl, by unfold Hid; rw [H.out]; rfl, rfl⟩

theorem implHas (a : Option Addr) (c : Nat) (xs : List ByteArray) (s : ByteArray) (w : World) (hx : Strs w a c xs) :
    Calls Tryd.prog 109 #[.slice a xs.length c, .string s] w (Quiet w (.bool (hasB xs s))) := by
  go_enter Tryd.func109, Tryd.ntmps109
  go_wp2_with (first
    | (go_at_call 115; refine (slicesIndex a c xs s w hx).mono ?_; rintro e w' ⟨r, rfl, hr, rfl⟩)
    | (go_at_call 113; go_in))
  go_ret
  exact ⟨by rw [← hr.out]; rfl, 0, rfl⟩

end Go.Proofs.YtefjjcoaeanagaaDoor

namespace Go.Proofs.YtefjjcoaeanagaaDoor
open Go.RowKit

/-- One enumeration, with where its list lies. -/
structure Lb where
  name : ByteArray
  list : List ByteArray
  a : Option Addr
  c : Nat

def LbAt (w : World) (b o : Nat) (x : Lb) : Prop :=
  w.cell? ⟨b, o, none⟩ = some (.string x.name) ∧ w.cell? ⟨b, o + 1, none⟩ = some (.slice x.a x.list.length x.c) ∧ x.name.size ≤ maxLen ∧ Strs w x.a x.c x.list

/-- The slice (a, length of ls, c) holds the enumerations ls. -/
def Lbs (w : World) (a : Option Addr) (c : Nat) (ls : List Lb) : Prop :=
  ls.length ≤ c ∧ c ≤ maxLen ∧ (a = none → c = 0) ∧ (0 < ls.length → ∃ b off, a = some ⟨b, off, none⟩ ∧ b < w.heap.size ∧ ∀ (i : Nat) (h : i < ls.length), LbAt w b (off + i * 2) ls[i])

theorem Lbs.spot {w : World} {a : Option Addr} {c : Nat} {ls : List Lb} (h : Lbs w a c ls) {k : Nat} (hk : k < ls.length) :
    ∃ b off, a = some ⟨b, off, none⟩ ∧ b < w.heap.size ∧ LbAt w b (off + k * 2) ls[k] := by
  obtain ⟨_, _, _, h4⟩ := h
  obtain ⟨b, off, ha, hb, hc⟩ := h4 (by omega)
  exact ⟨b, off, ha, hb, hc k hk⟩

theorem Lbs.below {w w' : World} {a : Option Addr} {c : Nat} {ls : List Lb} (h : Lbs w a c ls) (hb : Below w.heap.size w w') : Lbs w' a c ls := by
  obtain ⟨h1, h2, h3, h4⟩ := h
  refine ⟨h1, h2, h3, fun hp => ?_⟩
  obtain ⟨b, off, ha, hlt, hc⟩ := h4 hp
  refine ⟨b, off, ha, Nat.lt_of_lt_of_le hlt hb.size, fun i hi => ?_⟩
  obtain ⟨c0, c1, hs, hst⟩ := hc i hi
  exact ⟨(hb.cell (p := ⟨b, _, none⟩) hlt).trans c0, (hb.cell (p := ⟨b, _, none⟩) hlt).trans c1, hs, hst.below hb⟩

theorem Lbs.len {w : World} {a : Option Addr} {c : Nat} {ls : List Lb} (h : Lbs w a c ls) : ls.length ≤ 9223372036854775807 := by
  have h1 := h.1
  have h2 := h.2.1
  unfold maxLen at h2
  omega

/-- Whether the text is a label of the first enumeration of that name. -/
def labB : List Lb → ByteArray → ByteArray → Bool
  | [], _, _ => false
  | x :: r, n, t => if x.name.toList == n.toList then hasB x.list t else labB r n t

theorem labB_hit (ls : List Lb) (n t : ByteArray) (k : Nat) (h : k < ls.length) (hne : ∀ m (hm : m < ls.length), m < k → (ls[m].name.toList == n.toList) = false) (he : (ls[k].name.toList == n.toList) = true) : labB ls n t = hasB ls[k].list t := by
  induction ls generalizing k with
  | nil => simp at h
  | cons x r ih =>
    cases k with
    | zero =>
      have he' : (x.name.toList == n.toList) = true := he
      rw [labB, if_pos he']
      rfl
    | succ k =>
      have h0 : (x.name.toList == n.toList) = false := hne 0 (by simp) (by omega)
      rw [labB, if_neg (by rw [h0]; simp)]
      exact ih k (by simpa using h) (fun m hm hmk => hne (m + 1) (by simpa using hm) (by omega)) he

theorem labB_miss (ls : List Lb) (n t : ByteArray) (hne : ∀ m (hm : m < ls.length), (ls[m].name.toList == n.toList) = false) : labB ls n t = false := by
  induction ls with
  | nil => rfl
  | cons x r ih =>
    have h0 : (x.name.toList == n.toList) = false := hne 0 (by simp)
    rw [labB, if_neg (by rw [h0]; simp)]
    exact ih fun m hm => hne (m + 1) (by simpa using hm)

set_option maxHeartbeats 1000000 in
theorem specLabel (a : Option Addr) (c : Nat) (ls : List Lb) (n t : ByteArray) (w : World) (hx : Lbs w a c ls) :
    Calls Tryd.prog 48 #[.slice a ls.length c, .string n, .string t] w (Quiet w (.bool (labB ls n t))) := by
  have hl := hx.len
  go_enter Tryd.func48, Tryd.ntmps48
  go_wp2
  go_loopw [7] (fun i wr => ∃ k : Nat, k ≤ ls.length ∧ i = .int .i64 k ∧ Hid (∀ m (hm : m < ls.length), m < k → (ls[m].name.toList == n.toList) = false) ∧ Hid (wr = w)) (fun i _ => ls.length - (intOf i).toNat)
  case atStart => exact ⟨0, Nat.zero_le _, rfl, fun m h hm => absurd hm (by omega), rfl⟩
  case round =>
    obtain ⟨k, hk, rfl, hall, hwr⟩ := hrel
    have hxr : Lbs wr a c ls := by rw [hwr.out]; exact hx
    by_cases hlt : k < ls.length
    · obtain ⟨b, off, rfl, hbl, hc0, hc1, hns, hst⟩ := hxr.spot hlt
      cases he : (ls[k].name.toList == n.toList) with
      | true =>
        have HB := Lib.hid (labB_hit ls n t k hlt hall.out he)
        have HST := Lib.hid hst
        clear hst hxr
        go_wp2_with fail
        refine (specHas _ _ _ t _ HST.out).mono ?_
        rintro e w2 ⟨rfl, nn, rfl⟩
        go_wp2_with fail
        go_ret
        exact ⟨by rw [HB.out]; rfl, nn, by rw [hwr.out]⟩
      | false =>
        have HE := Lib.hid he
        clear hst hxr
        go_wp2_with fail
        go_roundw
        case rel => exact ⟨k + 1, by omega, by go_num, fun m hm h1 => by
          rcases Nat.lt_or_ge m k with h2 | h2
          · exact hall.out m hm h2
          · obtain rfl : m = k := by omega
            exact HE.out, hwr.out⟩
        case measure => simp [intOf]; omega
    · have HB := Lib.hid (labB_miss ls n t fun m hm => hall.out m hm (by omega))
      go_wp2_with fail
      go_ret
      exact ⟨by rw [HB.out]; rfl, 0, by rw [hwr.out]; rfl⟩

set_option maxHeartbeats 1000000 in
theorem isLabel1 (x : Lb) (nb : Nat) (n : ByteArray) (w : World) (hnb : w.cell? ⟨nb, 0, none⟩ = some (.string n)) (hlt : nb < w.heap.size) :
    Calls Tryd.prog 108 #[.agg #[.string x.name, .slice x.a x.list.length x.c], .pointer (some ⟨nb, 0, none⟩)] w fun e w' => e = .returned (.bool (x.name.toList == n.toList)) ∧ Below w.heap.size w w' := by
  have hne : nb ≠ w.heap.size := by omega
  have HB := Lib.hid (fun o => (Below.refl w.heap.size w).alloc (Nat.le_refl _) o)
  go_enter Tryd.func108, Tryd.ntmps108
  go_wp2_with fail
  go_ret
  exact ⟨rfl, HB.out _⟩

/-- The place of the first enumeration of that name. -/
def labAt : List Lb → ByteArray → Int
  | [], _ => -1
  | x :: r, n => if x.name.toList == n.toList then 0 else if labAt r n < 0 then -1 else labAt r n + 1

set_option maxRecDepth 100000 in
set_option maxHeartbeats 1000000 in
theorem indexLabels (a : Option Addr) (c : Nat) (ls : List Lb) (n : ByteArray) (nb : Nat) (w : World) (hx : Lbs w a c ls) (hnb : w.cell? ⟨nb, 0, none⟩ = some (.string n)) (hlt0 : nb < w.heap.size) :
    Calls Tryd.prog 107 #[.slice a ls.length c, .func (.func 108) #[] #[.pointer (some ⟨nb, 0, none⟩)]] w fun e w' =>
      ((∃ k : Nat, ∃ h : k < ls.length, e = .returned (.int .i64 k) ∧ (∀ m (hm : m < ls.length), m < k → (ls[m].name.toList == n.toList) = false) ∧ (ls[k].name.toList == n.toList) = true) ∨ (e = .returned (.int .i64 (-1)) ∧ ∀ m (hm : m < ls.length), (ls[m].name.toList == n.toList) = false)) ∧ Below w.heap.size w w' := by
  have hl := hx.len
  have HX := Lib.hid (fun w' hb => hx.below (w' := w') hb)
  have HN := Lib.hid (fun w' (hb : Below w.heap.size w w') => (And.intro ((hb.cell (p := ⟨nb, 0, none⟩) hlt0).trans hnb) (Nat.lt_of_lt_of_le hlt0 hb.size)))
  clear hx
  go_enter Tryd.func107, Tryd.ntmps107
  go_wp2
  go_loopw [8] (fun i wr => ∃ k : Nat, k ≤ ls.length ∧ i = .int .i64 k ∧ Hid (∀ m (hm : m < ls.length), m < k → (ls[m].name.toList == n.toList) = false) ∧ Below w.heap.size w wr) (fun i _ => ls.length - (intOf i).toNat)
  case atStart => exact ⟨0, Nat.zero_le _, rfl, fun m h hm => absurd hm (by omega), Below.refl _ _⟩
  case round =>
    obtain ⟨k, hk, rfl, hall, hb⟩ := hrel
    by_cases hlt : k < ls.length
    · obtain ⟨b, off, rfl, hbl, hc0, hc1, hns, hst⟩ := (HX.out _ hb).spot hlt
      obtain ⟨hn1, hn2⟩ := HN.out _ hb
      clear hst
      go_wp2_with fail
      refine (isLabel1 ls[k] nb n _ hn1 hn2).mono ?_
      rintro e w2 ⟨rfl, hb2⟩
      have HB2 := Lib.hid (hb.trans (hb2.mono hb.size))
      clear hb2
      cases he : (ls[k].name.toList == n.toList) with
      | true =>
        have HE := Lib.hid he
        clear he
        go_wp2_with fail
        go_ret
        exact ⟨.inl ⟨k, hlt, rfl, hall.out, HE.out⟩, HB2.out⟩
      | false =>
        have HE := Lib.hid he
        clear he
        go_wp2_with fail
        go_roundw
        case rel => exact ⟨k + 1, by omega, by go_num, fun m hm h1 => by
          rcases Nat.lt_or_ge m k with h2 | h2
          · exact hall.out m hm h2
          · obtain rfl : m = k := by omega
            exact HE.out, HB2.out⟩
        case measure => simp [intOf]; omega
    · go_wp2_with fail
      go_ret
      exact ⟨.inr ⟨rfl, fun m hm => hall.out m hm (by omega)⟩, hb⟩

end Go.Proofs.YtefjjcoaeanagaaDoor
