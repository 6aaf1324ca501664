/- The laws' own helpers over expressions: the size that is left. -/
/- The laws' own helpers over expressions: the equality. -/
/- The helpers over texts, expressions and types in the one form that schemas take; blocks that are written step by step. -/
/- Lists of expressions and of names as rows of cells; numbers between two bounds; what a world must hold. -/
/- The model's ExprOk. -/
/- The model's own look at lists of names and of expressions, at columns. -/
/- The model's own look at a rule. Written by tools/gen_rule.py. -/
import Derived.Test.YtpdcmmhhgnackaaGreatDoorMMem
import Derived.Deep.RegionHeld3
import Derived.Deep.DrawnRows
import Derived.Test.YtpdcmmhhgnackaaGreatDoorMNameImpl
import Derived.Test.YtpdcmmhhgnackaaGreatDoorMExTo
namespace Go.Proofs.YtpdcmmhhgnackaaGreatDoor
open Go.RowKit

def leftN (n : Nat) (left : Int) : Int := if left < n then -1 else left - n

theorem leftN_le {n : Nat} (h : ¬ leftN n 1048576 < 0) : n ≤ 1048576 := by
  unfold leftN at h
  split at h
  · omega
  · omega

def SzP (d : Nat) : Prop := ∀ (e : Ex) (a : Option Addr) (c : Nat) (left : Int) (w : World), e.fit → KidsAt w d a c e.kids → 0 ≤ left → left ≤ 1048576 →
  Calls Tryz.prog 58 #[.agg #[.int .i64 e.kind, .string e.text, .int .i64 e.num, .slice a e.kids.length c], .int .i64 left] w fun x w' => x = .returned (.int .i64 (leftN e.wt left)) ∧ Below w.heap.size w w'

set_option maxHeartbeats 1000000 in
theorem szKids (d : Nat) (ih : SzP d) (a : Option Addr) (c : Nat) (xs : List Ex) (left : Int) (w : World) (hx : KidsAt w (d + 1) a c xs) (h0 : 0 ≤ left) (h1 : left ≤ 1048576) :
    Calls Tryz.prog 22 #[.slice a xs.length c, .int .i64 left] w fun e w' => e = .returned (.int .i64 (leftN (xs.length + wtL xs) left)) ∧ Below w.heap.size w w' := by
  have hl := hx.len
  by_cases hs : left < xs.length
  · have H : Hid (leftN (xs.length + wtL xs) left = -1) := by unfold Hid leftN; rw [if_pos (by omega)]
    go_enter Tryz.func22, Tryz.ntmps22
    go_wp2
    go_ret
    exact ⟨by rw [H.out]; rfl, Below.refl _ _⟩
  · have hs' : (xs.length : Int) ≤ left := by omega
    go_enter Tryz.func22, Tryz.ntmps22
    go_wp2
    go_loopw [1, 5] (fun l i wr => ∃ k : Nat, k ≤ xs.length ∧ i = .int .i64 k ∧ wtL (xs.take k) ≤ left - xs.length ∧ l = .int .i64 (left - xs.length - wtL (xs.take k)) ∧ Below w.heap.size w wr) (fun _ i _ => xs.length - (intOf i).toNat)
    case atStart => exact ⟨0, Nat.zero_le _, rfl, by simp [wtL]; omega, by simp [wtL], Below.refl _ _⟩
    case round =>
      obtain ⟨k, hk, rfl, hsm, rfl, hb⟩ := hrel
      by_cases hlt : k < xs.length
      · obtain ⟨b, off, rfl, hbl, hc0, hc1, hc2, hfit, a', c', hc3, hkid⟩ := (hx.below hb).spot hlt
        have HT := Lib.hid (wtL_take xs k hlt)
        have HL := Lib.hid (wtL_mono xs (k + 1))
        have HK := Lib.hid hkid
        clear hkid hx
        go_wp2_with fail
        refine (ih xs[k] a' c' (left - xs.length - wtL (xs.take k)) _ hfit HK.out (by omega) (by omega)).mono ?_
        by_cases hle : left - xs.length - wtL (xs.take k) < xs[k].wt
        · rw [show leftN xs[k].wt (left - xs.length - wtL (xs.take k)) = -1 from if_pos hle]
          rintro e w2 ⟨rfl, hb2⟩
          have H : Hid (leftN (xs.length + wtL xs) left = -1) := by unfold Hid leftN; rw [if_pos (by have := HT.out; have := HL.out; omega)]
          go_wp2_with fail
          go_ret
          exact ⟨by rw [H.out]; rfl, hb.trans (hb2.mono hb.size)⟩
        · rw [show leftN xs[k].wt (left - xs.length - wtL (xs.take k)) = left - xs.length - wtL (xs.take k) - xs[k].wt from if_neg hle]
          rintro e w2 ⟨rfl, hb2⟩
          go_wp2_with fail
          go_roundw
          case rel => exact ⟨k + 1, by omega, by go_num, by have := HT.out; omega, by rw [HT.out]; go_num, hb.trans (hb2.mono hb.size)⟩
          case measure => simp [intOf]; omega
      · obtain rfl : k = xs.length := by omega
        have H : Hid (leftN (xs.length + wtL xs) left = left - xs.length - wtL xs) := by
          unfold Hid leftN; rw [List.take_length] at hsm; rw [if_neg (by omega)]; omega
        go_wp2_with fail
        go_ret
        exact ⟨by rw [H.out, List.take_length]; rfl, hb⟩

set_option maxHeartbeats 1000000 in
theorem szEx : ∀ d, SzP d
  | 0 => fun _ _ _ _ _ _ h => h.elim
  | d + 1 => by
    intro e a c left w hfit hk h0 h1
    have hks := szKids d (szEx d) a c e.kids
    have ht : e.text.size ≤ 9223372036854775807 := by have := hfit.1; unfold maxLen at this; omega
    have hwt := Lib.hid (Ex.wt_eq e)
    have hn := hk.len
    have HK := Lib.hid (fun o => hk.below ((Below.refl w.heap.size w).alloc (Nat.le_refl _) o))
    clear hk
    by_cases hs : left - e.text.size < 0
    · have H : Hid (leftN e.wt left = -1) := by unfold Hid leftN; rw [if_pos (by have := hwt.out; omega)]
      go_enter Tryz.func58, Tryz.ntmps58
      go_wp2_with fail
      go_ret
      exact ⟨by rw [H.out]; rfl, (Below.refl _ _).alloc (Nat.le_refl _) _⟩
    · have hd : decide (left - (e.text.size : Int) < 0) = false := by simpa using hs
      go_enter Tryz.func58, Tryz.ntmps58
      go_wp2_with fail
      refine (hks (left - e.text.size) _ (HK.out _) (by omega) (by omega)).mono ?_
      by_cases hle : left - e.text.size < (e.kids.length + wtL e.kids : Nat)
      · rw [show leftN (e.kids.length + wtL e.kids) (left - e.text.size) = -1 from if_pos hle]
        rintro x w2 ⟨rfl, hb2⟩
        have H : Hid (leftN e.wt left = -1) := by unfold Hid leftN; rw [if_pos (by have := hwt.out; omega)]
        go_wp2_with fail
        go_ret
        exact ⟨by rw [H.out]; rfl, ((Below.refl _ _).alloc (Nat.le_refl _) _).trans (hb2.mono (by simp))⟩
      · rw [show leftN (e.kids.length + wtL e.kids) (left - e.text.size) = left - e.text.size - (e.kids.length + wtL e.kids : Nat) from if_neg hle]
        rintro x w2 ⟨rfl, hb2⟩
        have H : Hid (leftN e.wt left = left - e.text.size - (e.kids.length + wtL e.kids : Nat)) := by unfold Hid leftN; rw [if_neg (by have := hwt.out; omega)]; have := hwt.out; omega
        have hd2 : decide (left - (e.text.size : Int) - ((e.kids.length + wtL e.kids : Nat) : Int) < 0) = false := by simp; omega
        go_wp2_with fail
        go_ret
        exact ⟨by rw [H.out]; rfl, ((Below.refl _ _).alloc (Nat.le_refl _) _).trans (hb2.mono (by simp))⟩

end Go.Proofs.YtpdcmmhhgnackaaGreatDoor

namespace Go.Proofs.YtpdcmmhhgnackaaGreatDoor
open Go.RowKit

theorem below_drewE {B : Nat} {a w : World} (h : Below B a w) : Below B a w.drew := ⟨h.os, h.tape, h.output, h.size, h.block⟩

def EqP (d : Nat) : Prop := ∀ (e : Ex) (a a' : Option Addr) (c c' : Nat) (w : World), KidsAt w d a c e.kids → KidsAt w d a' c' e.kids →
  Calls Tryz.prog 84 #[.agg #[.int .i64 e.kind, .string e.text, .int .i64 e.num, .slice a e.kids.length c], .agg #[.int .i64 e.kind, .string e.text, .int .i64 e.num, .slice a' e.kids.length c']] w fun x w' => x = .returned (.bool true) ∧ Below w.heap.size w w'

set_option maxHeartbeats 1000000 in
theorem eqKids (d : Nat) (ih : EqP d) (a a' : Option Addr) (c c' : Nat) (xs : List Ex) (w : World) (hx : KidsAt w (d + 1) a c xs) (hy : KidsAt w (d + 1) a' c' xs) :
    Calls Tryz.prog 36 #[.slice a xs.length c, .slice a' xs.length c'] w fun e w' => e = .returned (.bool true) ∧ Below w.heap.size w w' := by
  have hl := hx.len
  have hne : (((xs.length : Int)) != (xs.length : Int)) = false := by simp
  go_enter Tryz.func36, Tryz.ntmps36
  go_wp2
  go_loopw [5] (fun i wr => ∃ k : Nat, k ≤ xs.length ∧ i = .int .i64 k ∧ Below w.heap.size w wr) (fun i _ => xs.length - (intOf i).toNat)
  case atStart => exact ⟨0, Nat.zero_le _, rfl, Below.refl _ _⟩
  case round =>
    obtain ⟨k, hk, rfl, hbw⟩ := hrel
    by_cases hlt : k < xs.length
    · obtain ⟨b, off, rfl, hbl, hc0, hc1, hc2, _, p, q, hc3, hkid⟩ := (hx.below hbw).spot hlt
      obtain ⟨b', off', rfl, hbl', hd0, hd1, hd2, _, p', q', hd3, hkid'⟩ := (hy.below hbw).spot hlt
      have h0k : (0 : Int) ≤ (k : Int) := by omega
      have hkl : (k : Int) < (xs.length : Int) := by omega
      have HX := Lib.hid (fun w' hb => hkid.below (w' := w') hb)
      have HY := Lib.hid (fun w' hb => hkid'.below (w' := w') hb)
      clear hkid hkid' hx hy
      go_wp2_with fail
      go_region_held3 (fun w' => w'.cell? ⟨b, off + k * 4, none⟩ = some (.int .i64 xs[k].kind) ∧ w'.cell? ⟨b, off + k * 4 + 1, none⟩ = some (.string xs[k].text) ∧ w'.cell? ⟨b, off + k * 4 + 2, none⟩ = some (.int .i64 xs[k].num) ∧ w'.cell? ⟨b, off + k * 4 + 3, none⟩ = some (.slice p xs[k].kids.length q) ∧ w'.cell? ⟨b', off' + k * 4, none⟩ = some (.int .i64 xs[k].kind) ∧ w'.cell? ⟨b', off' + k * 4 + 1, none⟩ = some (.string xs[k].text) ∧ w'.cell? ⟨b', off' + k * 4 + 2, none⟩ = some (.int .i64 xs[k].num) ∧ w'.cell? ⟨b', off' + k * 4 + 3, none⟩ = some (.slice p' xs[k].kids.length q')) (first | go_keep | exact ⟨(hcw _ _ hbl).trans hc0, (hcw _ _ hbl).trans hc1, (hcw _ _ hbl).trans hc2, (hcw _ _ hbl).trans hc3, (hcw _ _ hbl').trans hd0, (hcw _ _ hbl').trans hd1, (hcw _ _ hbl').trans hd2, (hcw _ _ hbl').trans hd3⟩)
        ((go_at_call 84; refine (ih xs[k] p p' q q' _ (HX.out _ (below_drewE (Below.refl _ _))) (HY.out _ (below_drewE (Below.refl _ _)))).mono ?_; rintro e w2 ⟨rfl, hb2⟩; obtain ⟨hcw, _⟩ := bcellE hb2))
      go_wp2_with fail
      go_roundw
      case rel => exact ⟨k + 1, by omega, by go_num, (below_drewE hbw).trans (hb2.mono hbw.size)⟩
      case measure => simp [intOf]; omega
    · go_wp2
      go_ret
      exact ⟨rfl, hbw⟩

set_option maxHeartbeats 1000000 in
theorem eqEx : ∀ d, EqP d
  | 0 => fun _ _ _ _ _ _ h => h.elim
  | d + 1 => by
    intro e a a' c c' w hx hy
    have hks := eqKids d (eqEx d) a a' c c' e.kids
    have HX := Lib.hid (fun w' hb => hx.below (w' := w') hb)
    have HY := Lib.hid (fun w' hb => hy.below (w' := w') hb)
    have hk : (e.kind != e.kind) = false := by simp
    have hp : (e.num != e.num) = false := by simp
    have hs : (!(e.text.toList == e.text.toList)) = false := by simp
    have hl := hx.len
    clear hx hy
    go_enter Tryz.func84, Tryz.ntmps84
    go_wp2_with fail
    refine (hks _ (HX.out _ (((Below.refl _ _).alloc (Nat.le_refl _) _).alloc (by simp) _)) (HY.out _ (((Below.refl _ _).alloc (Nat.le_refl _) _).alloc (by simp) _))).mono ?_
    rintro x w2 ⟨rfl, hb2⟩
    go_wp2_with fail
    go_ret
    exact ⟨rfl, (((Below.refl _ _).alloc (Nat.le_refl _) _).alloc (by simp) _).trans (hb2.mono (by simp; omega))⟩

end Go.Proofs.YtpdcmmhhgnackaaGreatDoor

namespace Go.Proofs.YtpdcmmhhgnackaaGreatDoor
open Go.RowKit

theorem Below.call {n : Nat} {w W w' : World} (hb : Below W.heap.size W w') (h : Below n w W) (hn : n ≤ w.heap.size := by omega) : Below n w w' := h.trans (hb.mono (Nat.le_trans hn h.size))

theorem Blk.call {W w' : World} {b : Nat} {vs : List Value} (hb : Below W.heap.size W w') (h : Blk W b vs) : Blk w' b vs := h.below hb

theorem Kept.call {lo : Nat} {w W w' : World} (hb : Below W.heap.size W w') (h : Kept lo w W) : Kept lo w w' := h.trans (Kept.below hb)

theorem Blk.alloc {w : World} {b : Nat} {vs : List Value} (h : Blk w b vs) (o : Obj) : Blk (w.alloc o) b vs := h.below ((Below.refl _ _).alloc (Nat.le_refl _) _)

theorem blk_new (w : World) (T : TypeId) (vs : List Value) : Blk (w.alloc (.cells vs.toArray T)) w.heap.size vs := by
  refine ⟨by simp, fun j hj => ⟨?_, ?_⟩⟩
  · rw [cell_of_row _ _ _ _ _ _ (heap_alloc_new w _)]
    simp [hj]
  · simp [go_sem]

theorem blk_new' {w : World} {b : Nat} (hb : b = w.heap.size) (T : TypeId) (vs : List Value) : Blk (w.alloc (.cells vs.toArray T)) b vs := by
  subst hb
  exact blk_new w T vs

theorem Blk.set {w : World} {b : Nat} {vs : List Value} (h : Blk w b vs) (j : Nat) (v : Value) : Blk (w.setCell ⟨b, j, none⟩ v) b (vs.set j v) := by
  refine ⟨by simpa [World.setCell] using h.1, fun i hi => ?_⟩
  have hi' : i < vs.length := by simpa using hi
  refine ⟨?_, (World.frozen?_setCell ..).trans (h.2 i hi').2⟩
  by_cases e : i = j
  · subst e
    rw [World.cell?_setCell_same _ _ _ (h.2 i hi').1, List.getElem_set_self]
  · have ha : (⟨b, j, none⟩ : Addr) ≠ ⟨b, i, none⟩ := fun q => e (by cases q; rfl)
    rw [World.cell?_setCell_other _ _ _ _ ha, List.getElem_set_ne (by omega), (h.2 i hi').1]

theorem Blk.other {w : World} {b b' : Nat} {vs : List Value} (h : Blk w b vs) (hne : b ≠ b') (j : Nat) (v : Value) : Blk (w.setCell ⟨b', j, none⟩ v) b vs :=
  ⟨by simpa [World.setCell] using h.1, fun i hi => ⟨(World.cell?_setCell_other _ _ _ _ (fun q => hne (by cases q; rfl))).trans (h.2 i hi).1, (World.frozen?_setCell ..).trans (h.2 i hi).2⟩⟩

theorem Blk.belowB {B : Nat} {w w' : World} {b : Nat} {vs : List Value} (h : Blk w b vs) (hb : Below B w w') (hlt : b < B) : Blk w' b vs :=
  ⟨Nat.lt_of_lt_of_le h.1 hb.size, fun j hj => ⟨(hb.cell (p := ⟨b, j, none⟩) hlt).trans (h.2 j hj).1, (hb.frozen (p := ⟨b, j, none⟩) hlt).trans (h.2 j hj).2⟩⟩

theorem leftOf_eq (xs : List ByteArray) (left : Int) : leftOf xs left = leftN (xs.length + lets xs) left := by
  unfold leftOf leftN
  split
  · rw [if_pos (by omega)]
  · rw [if_neg (by omega)]; omega

theorem szSs (a : Option Addr) (c : Nat) (xs : List ByteArray) (left : Int) (w : World) (h : Ss 0 w a c xs) (h0 : 0 ≤ left) (h1 : left ≤ 1048576) :
    Calls Tryz.prog 37 #[.slice a xs.length c, .int .i64 left] w fun e w' => e = .returned (.int .i64 (leftN (xs.length + lets xs) left)) ∧ Below w.heap.size w w' := by
  refine (szStrs a c xs left w h.1 h0 h1).mono ?_
  rintro e w' ⟨rfl, rfl⟩
  exact ⟨by rw [leftOf_eq], Below.refl _ _⟩

theorem szKs (a : Option Addr) (c : Nat) (xs : List Ex) (left : Int) (w : World) (h : Ks 0 w a c xs) (h0 : 0 ≤ left) (h1 : left ≤ 1048576) :
    Calls Tryz.prog 22 #[.slice a xs.length c, .int .i64 left] w fun e w' => e = .returned (.int .i64 (leftN (xs.length + wtL xs) left)) ∧ Below w.heap.size w w' := by
  obtain ⟨d, h⟩ := h
  exact szKids d (szEx d) a c xs left w h.at h0 h1

theorem szTy0 (k l : Int) (s : ByteArray) (n : Int) (w : World) (hs : s.size ≤ maxLen) (h0 : 0 ≤ n) (h1 : n ≤ 1048576) :
    Calls Tryz.prog 21 #[.agg #[.int .i64 k, .int .i64 l, .string s], .int .i64 n] w fun e w' => e = .returned (.int .i64 (leftN s.size n)) ∧ Below w.heap.size w w' := by
  refine (szTy k l s n w hs h0 h1).mono ?_
  rintro e w' ⟨rfl, hb⟩
  refine ⟨?_, hb⟩
  unfold leftN
  split
  · rw [if_pos (by omega)]
  · rw [if_neg (by omega)]

theorem toSs (a : Option Addr) (c : Nat) (xs : List ByteArray) (w : World) (h : Ss 0 w a c xs) (hn : xs.length + lets xs ≤ 1048576) :
    Calls Tryz.prog 40 #[.slice a xs.length c] w fun e w' => ∃ a' c', e = .returned (.slice a' xs.length c') ∧ Ss w.heap.size w' a' c' xs ∧ Below w.heap.size w w' := by
  refine (toStrs a c xs w h.1 (by omega)).mono ?_
  rintro e w' ⟨a', c', rfl, ho, hb⟩
  exact ⟨a', c', rfl, ho.ss h.1.2.2.1, hb⟩

theorem toKs (a : Option Addr) (c : Nat) (xs : List Ex) (w : World) (h : Ks 0 w a c xs) (hn : xs.length + wtL xs ≤ 1048576) :
    Calls Tryz.prog 28 #[.slice a xs.length c] w fun e w' => ∃ a' c', e = .returned (.slice a' xs.length c') ∧ Ks w.heap.size w' a' c' xs ∧ Below w.heap.size w w' := by
  obtain ⟨d, h⟩ := h
  refine (toKids d (toEx d) a c xs w h.at hn).mono ?_
  rintro e w' ⟨a', c', rfl, ho, hb⟩
  exact ⟨a', c', rfl, ⟨d, ho⟩, hb⟩

theorem eqSs (a a' : Option Addr) (c c' : Nat) (xs : List ByteArray) (w : World) (h : Ss 0 w a c xs) (h' : Ss 0 w a' c' xs) :
    Calls Tryz.prog 46 #[.slice a xs.length c, .slice a' xs.length c'] w fun e w' => e = .returned (.bool true) ∧ Below w.heap.size w w' := by
  refine (eqStrs a a' c c' xs xs w h.1 h'.1 rfl).mono ?_
  rintro e w' ⟨rfl, n, rfl⟩
  exact ⟨rfl, below_drewN (Below.refl _ _) n⟩

theorem eqKs (a a' : Option Addr) (c c' : Nat) (xs : List Ex) (w : World) (h : Ks 0 w a c xs) (h' : Ks 0 w a' c' xs) :
    Calls Tryz.prog 36 #[.slice a xs.length c, .slice a' xs.length c'] w fun e w' => e = .returned (.bool true) ∧ Below w.heap.size w w' := by
  obtain ⟨d, h⟩ := h
  obtain ⟨d', h'⟩ := h'
  exact eqKids (max d d') (eqEx _) a a' c c' xs w (h.at.mono (by omega)) (h'.at.mono (by omega))

set_option maxHeartbeats 1000000 in
theorem eqTy0 (k l : Int) (s : ByteArray) (w : World) :
    Calls Tryz.prog 35 #[.agg #[.int .i64 k, .int .i64 l, .string s], .agg #[.int .i64 k, .int .i64 l, .string s]] w fun e w' => e = .returned (.bool true) ∧ Below w.heap.size w w' := by
  have e1 : (k != k) = false := by simp
  have e2 : (l != l) = false := by simp
  have e3 : (!(s.toList == s.toList)) = false := by simp
  go_enter Tryz.func35, Tryz.ntmps35
  go_wp2_with fail
  go_ret
  exact ⟨rfl, below2 _ _ _⟩

end Go.Proofs.YtpdcmmhhgnackaaGreatDoor

namespace Go.Proofs.YtpdcmmhhgnackaaGreatDoor
open Go.RowKit

/-- Any world. -/
def AnyW (_ : World) : Prop := True
theorem AnyW.call {w w' : World} (_ : AnyW w) (_ : Below w.heap.size w w') : AnyW w' := trivial

/-- A world that holds the two tables of forms. -/
structure FormR (w : World) : Prop where
  forms : FormsAt w
  rules : RulesAt w
theorem FormR.call {w w' : World} (h : FormR w) (hb : Below w.heap.size w w') : FormR w' := ⟨h.forms.call hb, h.rules.call hb⟩

/-- One name in one cell. -/
def RNm : Rd ByteArray := fun _ _ vs s => vs = [.string s] ∧ s.size ≤ maxLen

theorem goodRNm : Good RNm := by
  constructor
  · rintro lo w w' vs x ⟨h, f⟩ _
    exact ⟨h, f⟩
  · rintro lo lo' w vs x ⟨h, f⟩ _
    exact ⟨h, f⟩

theorem Ss.sl {lo : Nat} {w : World} {a : Option Addr} {c : Nat} {xs : List ByteArray} (h : Ss lo w a c xs) : Sl 1 RNm lo w a c xs := by
  obtain ⟨⟨h1, h2, h3, h4, h5⟩, h6⟩ := h
  refine ⟨h1, h2, h4, fun hp => ?_⟩
  obtain ⟨b, off, ha, hlt, hc⟩ := h5 hp
  obtain ⟨b', off', ha', hl⟩ := h6 hp
  rw [ha] at ha'
  cases ha'
  refine ⟨b, off, ha, hl, hlt, fun i hi => ⟨[.string xs[i]], fun j hj => ?_, rfl, h3 _ (List.getElem_mem hi)⟩⟩
  have : j = 0 := by simpa using hj
  subst this
  simp [hc i hi]

/-- One expression in four cells. -/
def RE (d : Nat) : Rd Ex := fun lo w vs e => ∃ a c, vs = [.int .i64 e.kind, .string e.text, .int .i64 e.num, .slice a e.kids.length c] ∧ e.fit ∧ KidsB lo w d a c e.kids

theorem goodRE (d : Nat) : Good (RE d) := by
  constructor
  · rintro lo w w' vs x ⟨a, c, h, f, k⟩ hk
    exact ⟨a, c, h, f, k.agree hk.1 hk.2⟩
  · rintro lo lo' w vs x ⟨a, c, h, f, k⟩ hl
    exact ⟨a, c, h, f, k.lower hl⟩

theorem KidsB.sl {lo d : Nat} {w : World} {a : Option Addr} {c : Nat} {kids : List Ex} (h : KidsB lo w (d + 1) a c kids) : Sl 4 (RE d) lo w a c kids := by
  obtain ⟨h1, h2, h3, h4⟩ := h
  refine ⟨h1, h2, h3, fun hp => ?_⟩
  obtain ⟨b, off, ha, hl, hlt, hc⟩ := h4 hp
  refine ⟨b, off, ha, hl, hlt, fun i hi => ?_⟩
  obtain ⟨c0, c1, c2, hf, a', c', c3, hk⟩ := hc i hi
  refine ⟨[.int .i64 kids[i].kind, .string kids[i].text, .int .i64 kids[i].num, .slice a' kids[i].kids.length c'], fun j hj => ?_, a', c', rfl, hf, hk⟩
  have hj4 : j < 4 := hj
  match j, hj4 with
  | 0, _ => exact c0
  | 1, _ => exact c1
  | 2, _ => exact c2
  | 3, _ => exact c3

theorem wtL_mem {l : List Ex} {x : Ex} (h : x ∈ l) : x.wt ≤ wtL l := by
  obtain ⟨i, hi, rfl⟩ := List.mem_iff_getElem.1 h
  have h1 := wtL_take l i hi
  have h2 := wtL_mono l (i + 1)
  omega

theorem wtS_mem {X : Type} (f : X → Nat) {xs : List X} {x : X} (h : x ∈ xs) : f x ≤ wtS f xs := by
  obtain ⟨i, hi, rfl⟩ := List.mem_iff_getElem.1 h
  exact wtS_get f hi

set_option maxHeartbeats 1000000 in
theorem spanAllows (lo hi : Int) (n : Nat) (w : World) (v : Bool) (hv : inI n lo hi = v) :
    Calls Tryz.prog 113 #[.agg #[.int .i64 lo, .int .i64 hi], .int .i64 n] w fun e w' => e = .returned (.bool v) ∧ Below w.heap.size w w' := by
  unfold inI at hv
  have hb := fun o => (Below.refl w.heap.size w).alloc (Nat.le_refl _) o
  have HB := Lib.hid hb
  clear hb
  cases h1 : decide (lo ≤ (n : Int)) with
  | false =>
    have HV : Hid (v = false) := by unfold Hid; rw [← hv, h1]; rfl
    clear hv
    go_enter Tryz.func113, Tryz.ntmps113
    go_wp2_with fail
    go_ret
    exact ⟨by rw [HV.out]; rfl, HB.out _⟩
  | true =>
    have HV : Hid (v = decide ((n : Int) ≤ hi)) := by unfold Hid; rw [← hv, h1]; rfl
    clear hv
    go_enter Tryz.func113, Tryz.ntmps113
    go_wp2_with fail
    go_ret
    exact ⟨by rw [HV.out]; rfl, HB.out _⟩

end Go.Proofs.YtpdcmmhhgnackaaGreatDoor

namespace Go.Proofs.YtpdcmmhhgnackaaGreatDoor
open Go.RowKit

set_option maxHeartbeats 1000000 in
theorem specExprOk (e : Ex) (a : Option Addr) (c d : Nat) (w : World) (hk : KidsAt w d a c e.kids) (hwt : e.wt ≤ 1048576) (v : Bool) (hv : (decide (e.nodes ≤ 40) && shapeE e) = v) :
    Calls Tryz.prog 69 #[.agg #[.int .i64 e.kind, .string e.text, .int .i64 e.num, .slice a e.kids.length c]] w fun x w' => x = .returned (.bool v) ∧ Below w.heap.size w w' := by
  have hwe := Ex.wt_eq e
  have hnw := nodes_wt e
  have HE := Lib.hid (Ex.eta e)
  have HK := Lib.hid (fun w' hb => hk.below (w' := w') hb)
  have HBX := Lib.hid (fun T => boxK_new w e.kind e.text e.num a e.kids.length c T)
  clear hk
  by_cases hn : e.nodes ≤ 40
  · rw [decide_eq_true hn, Bool.true_and] at hv
    have hd : decide ((e.nodes : Int) ≤ 40) = true := by simp; omega
    subst hv
    go_enter Tryz.func69, Tryz.ntmps69
    go_wp2_with fail
    refine (specNodes d e a c _ (by omega) (HK.out _ (HBX.out _).bel)).mono ?_
    rintro x w2 ⟨rfl, hb2⟩
    have BX := (HBX.out _).below hb2
    obtain ⟨hW1, c0, c1, c2, c3, bW1⟩ := BX
    clear hb2
    go_wp2_with fail
    refine (specShape d e.kind e.text e.num e.kids a c _ (by omega) (by omega) (HK.out _ bW1)).mono ?_
    rw [← HE.out]
    rintro x w3 ⟨rfl, hb3⟩
    have B3 := Lib.hid (bW1.trans (hb3.mono bW1.size))
    clear hb3
    cases hs : shapeE e with
    | true => go_wp2_with fail; go_ret; exact ⟨by rw [hs]; rfl, B3.out⟩
    | false => go_wp2_with fail; go_ret; exact ⟨by rw [hs]; rfl, B3.out⟩
  · rw [decide_eq_false hn, Bool.false_and] at hv
    have hd : decide ((e.nodes : Int) ≤ 40) = false := by simp; omega
    subst hv
    go_enter Tryz.func69, Tryz.ntmps69
    go_wp2_with fail
    refine (specNodes d e a c _ (by omega) (HK.out _ (HBX.out _).bel)).mono ?_
    rintro x w2 ⟨rfl, hb2⟩
    have B2 := Lib.hid ((HBX.out _).below hb2).bel
    clear hb2
    go_wp2_with fail
    go_ret
    exact ⟨rfl, B2.out⟩

end Go.Proofs.YtpdcmmhhgnackaaGreatDoor

namespace Go.Proofs.YtpdcmmhhgnackaaGreatDoor
open Go.RowKit

theorem all_over {X : Type} (f : X → Bool) (xs : List X) (lo hi : Int) (h : inI xs.length lo hi = false) (b : Bool) : (inI xs.length lo hi && b) = false := by rw [h]; rfl

set_option maxRecDepth 100000 in
set_option maxHeartbeats 2000000 in
theorem specExprs (a : Option Addr) (c : Nat) (xs : List Ex) (lo hi : Int) (w : World) (hx : Ks 0 w a c xs) (hwt : wtL xs ≤ 1048576) (h0 : i64E lo) (h1 : i64E hi) (v : Bool) (hv : exprsB xs lo hi = v) :
    Calls Tryz.prog 61 #[.slice a xs.length c, .int .i64 lo, .int .i64 hi] w fun e w' => e = .returned (.bool v) ∧ Below w.heap.size w w' := by
  obtain ⟨d, hx⟩ := hx
  have hx := hx.sl
  have hl := hx.len
  have HX := Lib.hid (fun w' (hb : Below w.heap.size w w') => hx.kept (goodRE d) (Kept.below hb))
  have HW := Lib.hid (fun (x : Ex) (hm : x ∈ xs) => Nat.le_trans (wtL_mem hm) hwt)
  have HV := Lib.hid hv
  clear hx hv
  unfold i64E at h0 h1
  go_enter Tryz.func61, Tryz.ntmps61
  go_wp2
  go_loopw [7] (fun i wr => ∃ k : Nat, k ≤ xs.length ∧ i = .int .i64 k ∧ Hid (∀ m (hm : m < xs.length), m < k → okX xs[m] = true) ∧ Below w.heap.size w wr) (fun i _ => xs.length - (intOf i).toNat)
  case atStart => exact ⟨0, Nat.zero_le _, rfl, fun m h hm => absurd hm (by omega), Below.refl _ _⟩
  case round =>
    obtain ⟨k, hk, rfl, hall, hb⟩ := hrel
    by_cases hlt : k < xs.length
    · have hltI : (k : Int) < (xs.length : Int) := by omega
      by_cases hle : (k : Int) ≤ hi
      · obtain ⟨b, off, vs, rfl, hbl, hcs, hR⟩ := (HX.out _ hb).spot hlt
        obtain ⟨a0, c0, rfl, hfit, hkid⟩ := hR
        have hc0 : wr.cell? ⟨b, off + k * 4, none⟩ = some (.int .i64 xs[k].kind) := hcs 0 (by simp)
        have hc1 : wr.cell? ⟨b, off + k * 4 + 1, none⟩ = some (.string xs[k].text) := hcs 1 (by simp)
        have hc2 : wr.cell? ⟨b, off + k * 4 + 2, none⟩ = some (.int .i64 xs[k].num) := hcs 2 (by simp)
        have hc3 : wr.cell? ⟨b, off + k * 4 + 3, none⟩ = some (.slice a0 xs[k].kids.length c0) := hcs 3 (by simp)
        have HK := Lib.hid hkid.at
        clear hkid hcs
        go_wp2_with fail
        refine (specExprOk xs[k] a0 c0 d _ HK.out (HW.out _ (List.getElem_mem hlt)) _ rfl).mono ?_
        rintro e w2 ⟨rfl, hb2⟩
        have HB2 := Lib.hid (hb.trans (hb2.mono hb.size))
        clear hb2
        rw [show (decide (xs[k].nodes ≤ 40) && shapeE xs[k]) = okX xs[k] from rfl]
        cases he : okX xs[k] with
        | false =>
          have HE : Hid (v = false) := by unfold Hid; rw [← HV.out]; unfold exprsB; rw [all_hit okX xs k hlt he]; simp
          clear he
          go_wp2_with fail
          go_ret
          exact ⟨by rw [HE.out]; rfl, HB2.out⟩
        | true =>
          have HE := Lib.hid he
          clear he
          go_wp2_with fail
          go_roundw
          case rel => exact ⟨k + 1, by omega, by go_num, fun m hm h1 => by
            rcases Nat.lt_or_ge m k with h2 | h2
            · exact hall.out m hm h2
            · obtain rfl : m = k := by omega
              exact HE.out, HB2.out⟩
          case measure => simp [intOf]; omega
      · have HI : Hid (inI xs.length lo hi = false) := by unfold Hid inI; simp; omega
        have HE : Hid (v = false) := by unfold Hid; rw [← HV.out]; unfold exprsB; rw [HI.out]; rfl
        go_wp2_with fail
        refine (specInIs _ lo hi _ false HI.out).mono ?_
        rintro e w2 ⟨rfl, rfl⟩
        go_wp2_with fail
        go_ret
        exact ⟨by rw [HE.out]; rfl, hb⟩
    · have hge : ¬ (k : Int) < (xs.length : Int) := by omega
      have HE : Hid (v = inI xs.length lo hi) := by unfold Hid; rw [← HV.out]; unfold exprsB; rw [all_miss okX xs fun m hm => hall.out m hm (by omega)]; simp
      go_wp2_with fail
      refine (specInIs _ lo hi _ _ rfl).mono ?_
      rintro e w2 ⟨rfl, rfl⟩
      go_wp2_with fail
      go_ret
      exact ⟨by rw [HE.out] <;> rfl, hb⟩

set_option maxRecDepth 100000 in
set_option maxHeartbeats 2000000 in
theorem specNames (a : Option Addr) (c : Nat) (xs : List ByteArray) (hi : Int) (w : World) (hx : Strs w a c xs) (hwt : lets xs ≤ 1048576) (h1 : i64E hi) (v : Bool) (hv : namesB xs hi = v) :
    Calls Tryz.prog 85 #[.slice a xs.length c, .int .i64 hi] w fun e w' => e = .returned (.bool v) ∧ w = w' := by
  have hl := hx.len
  have HW := Lib.hid (fun (x : ByteArray) (hm : x ∈ xs) => Nat.le_trans (lets_mem hm) hwt)
  have HV := Lib.hid hv
  clear hv
  unfold i64E at h1
  go_enter Tryz.func85, Tryz.ntmps85
  go_wp2
  go_loop [5] (fun i => ∃ k : Nat, k ≤ xs.length ∧ i = .int .i64 k ∧ Hid (∀ m (hm : m < xs.length), m < k → nmB xs[m] = true)) (fun i => xs.length - (intOf i).toNat)
  case atStart => exact ⟨0, Nat.zero_le _, rfl, fun m h hm => absurd hm (by omega)⟩
  case round =>
    obtain ⟨k, hk, rfl, hall⟩ := hrel
    by_cases hlt : k < xs.length
    · have hltI : (k : Int) < (xs.length : Int) := by omega
      by_cases hle : (k : Int) ≤ hi
      · obtain ⟨b, off, rfl, hbl, hc⟩ := hx.spot hlt
        go_wp2_with fail
        refine (specNameOk xs[k] _ (HW.out _ (List.getElem_mem hlt)) _ rfl).mono ?_
        rintro e w2 ⟨rfl, rfl⟩
        rw [show nameB xs[k].data.toList = nmB xs[k] from rfl]
        cases he : nmB xs[k] with
        | false =>
          have HE : Hid (v = false) := by unfold Hid; rw [← HV.out]; unfold namesB; rw [all_hit nmB xs k hlt he]; simp
          clear he
          go_wp2_with fail
          go_ret
          exact ⟨by rw [HE.out]; rfl, rfl⟩
        | true =>
          have HE := Lib.hid he
          clear he
          go_wp2_with fail
          go_round
          case rel => exact ⟨k + 1, by omega, by go_num, fun m hm h1 => by
            rcases Nat.lt_or_ge m k with h2 | h2
            · exact hall.out m hm h2
            · obtain rfl : m = k := by omega
              exact HE.out⟩
          case measure => simp [intOf]; omega
      · have HI : Hid (inI xs.length 1 hi = false) := by unfold Hid inI; simp; omega
        have HE : Hid (v = false) := by unfold Hid; rw [← HV.out]; unfold namesB; rw [HI.out]; rfl
        go_wp2_with fail
        refine (specInIs _ 1 hi _ false HI.out).mono ?_
        rintro e w2 ⟨rfl, rfl⟩
        go_wp2_with fail
        go_ret
        exact ⟨by rw [HE.out]; rfl, rfl⟩
    · have hge : ¬ (k : Int) < (xs.length : Int) := by omega
      have HE : Hid (v = inI xs.length 1 hi) := by unfold Hid; rw [← HV.out]; unfold namesB; rw [all_miss nmB xs fun m hm => hall.out m hm (by omega)]; simp
      go_wp2_with fail
      refine (specInIs _ 1 hi _ _ rfl).mono ?_
      rintro e w2 ⟨rfl, rfl⟩
      go_wp2_with fail
      go_ret
      exact ⟨by rw [HE.out] <;> rfl, rfl⟩

/-- The cells of a column's own box. -/
def BoxCo (w : World) (x : Co) (a : Option Addr) (c : Nat) (w1 : World) : Prop :=
  Blk w1 w.heap.size [.string x.name, .int .i64 x.ty.kind, .int .i64 x.ty.len, .string x.ty.name, .bool x.notNull, .slice a x.dflt.length c] ∧ Below w.heap.size w w1

theorem BoxCo.call {w w1 w2 : World} {x : Co} {a : Option Addr} {c : Nat} (h : BoxCo w x a c w1) (hb : Below w1.heap.size w1 w2) : BoxCo w x a c w2 :=
  ⟨h.1.below hb, Below.call hb h.2⟩

theorem boxCo_new (w : World) (x : Co) (a : Option Addr) (c : Nat) (T : TypeId) : BoxCo w x a c (w.alloc (.cells [.string x.name, .int .i64 x.ty.kind, .int .i64 x.ty.len, .string x.ty.name, .bool x.notNull, .slice a x.dflt.length c].toArray T)) :=
  ⟨blk_new w T _, (Below.refl _ _).alloc (Nat.le_refl _) _⟩

set_option maxRecDepth 100000 in
set_option maxHeartbeats 2000000 in
theorem specColOk (vs : List Value) (x : Co) (w : World) (hR : RCo 0 w vs x) (hwt : x.wt ≤ 1048576) (v : Bool) (hv : colB x = v) :
    Calls Tryz.prog 23 #[.agg vs.toArray] w fun e w' => e = .returned (.bool v) ∧ Below w.heap.size w w' := by
  obtain ⟨a0, c0, rfl, hfit, k0⟩ := hR
  have HK := Lib.hid (fun w' (hb : Below w.heap.size w w') => k0.kept (Kept.below hb))
  have HB := Lib.hid (fun T => boxCo_new w x a0 c0 T)
  have hW : x.wt = x.name.size + x.ty.name.size + (x.dflt.length + wtL x.dflt) := rfl
  have HN := Lib.hid (show x.name.size ≤ 1048576 by omega)
  have HTn := Lib.hid (show x.ty.name.size ≤ 1048576 by omega)
  have HD := Lib.hid (show wtL x.dflt ≤ 1048576 by omega)
  unfold colB at hv
  clear k0 hW
  cases h1 : nmB x.name with
  | false =>
    have H1 : Hid (nameB x.name.data.toList = false) := h1
    have HV : Hid (v = false) := by unfold Hid; rw [← hv, h1]; rfl
    clear hv h1
    go_enter Tryz.func23, Tryz.ntmps23
    go_wp2_with fail
    refine (specNameOk x.name _ HN.out _ H1.out).mono ?_
    rintro e w1 ⟨rfl, rfl⟩
    go_wp2_with fail
    go_ret
    exact ⟨by rw [HV.out]; rfl, (HB.out _).2⟩
  | true =>
    have H1 : Hid (nameB x.name.data.toList = true) := h1
    cases h2 : tyB x.ty with
    | false =>
      have H2 := Lib.hid h2
      have HV : Hid (v = false) := by unfold Hid; rw [← hv, h2]; simp
      clear hv h1 h2
      go_enter Tryz.func23, Tryz.ntmps23
      go_wp2_with fail
      refine (specNameOk x.name _ HN.out _ H1.out).mono ?_
      rintro e w1 ⟨rfl, rfl⟩
      go_wp2_with fail
      refine (specTypeOk x.ty.kind x.ty.len x.ty.name _ HTn.out _ H2.out).mono ?_
      rintro e w2 ⟨rfl, b2⟩
      have B2 := Lib.hid ((HB.out 32).call b2)
      clear b2
      go_wp2_with fail
      go_ret
      exact ⟨by rw [HV.out]; rfl, B2.out.2⟩
    | true =>
      have H2 := Lib.hid h2
      have HV : Hid (exprsB x.dflt 0 1 = v) := by unfold Hid; rw [← hv, h1, h2]; rfl
      clear hv h1 h2
      go_enter Tryz.func23, Tryz.ntmps23
      go_wp2_with fail
      refine (specNameOk x.name _ HN.out _ H1.out).mono ?_
      rintro e w1 ⟨rfl, rfl⟩
      go_wp2_with fail
      refine (specTypeOk x.ty.kind x.ty.len x.ty.name _ HTn.out _ H2.out).mono ?_
      rintro e w2 ⟨rfl, b2⟩
      have B2 := Lib.hid ((HB.out 32).call b2)
      clear b2
      have g5 : w2.cell? ⟨w.heap.size, 5, none⟩ = some (.slice a0 x.dflt.length c0) := (B2.out.1.2 5 (by simp)).1
      go_wp2_with fail
      refine (specExprs a0 c0 x.dflt 0 1 _ (HK.out _ B2.out.2) HD.out (by unfold i64E; omega) (by unfold i64E; omega) v HV.out).mono ?_
      rintro e w3 ⟨rfl, b3⟩
      have B3 := Lib.hid (B2.out.call b3)
      clear b3
      go_wp2_with fail
      go_ret
      exact ⟨rfl, B3.out.2⟩

end Go.Proofs.YtpdcmmhhgnackaaGreatDoor

namespace Go.Proofs.YtpdcmmhhgnackaaGreatDoor
open Go.RowKit

/-- A box with the cells vs. -/
def BoxV (w : World) (vs : List Value) (w1 : World) : Prop := Blk w1 w.heap.size vs ∧ Below w.heap.size w w1

theorem BoxV.call {w w1 w2 : World} {vs : List Value} (h : BoxV w vs w1) (hb : Below w1.heap.size w1 w2) : BoxV w vs w2 := ⟨h.1.below hb, Below.call hb h.2⟩

theorem boxV_new (w : World) (vs : List Value) (T : TypeId) : BoxV w vs (w.alloc (.cells vs.toArray T)) := ⟨blk_new w T vs, (Below.refl _ _).alloc (Nat.le_refl _) _⟩

/-- Nothing in the list. -/
def l0 {X : Type} (l : List X) : Bool := ((l.length : Nat) : Int) == 0

theorem l0_empty {X : Type} (l : List X) : l.isEmpty = l0 l := by
  unfold l0
  cases l with
  | nil => rfl
  | cons x r => simp; omega

theorem ruleB_key (name : ByteArray) (kind : Int) (cols : List ByteArray) (expr : List Ex) (table : ByteArray) (to : List ByteArray) (h : kind = 0 ∨ kind = 1) :
    ruleB ⟨name, kind, cols, expr, table, to⟩ = (nmB name && (namesB cols 4 && (((((expr.length : Nat) : Int) == 0)) && (table.toList.isEmpty && ((((to.length : Nat) : Int) == 0)))))) := by
  unfold ruleB
  simp only
  rw [if_pos h, l0_empty expr, l0_empty to]
  rfl

theorem ruleB_check (name : ByteArray) (cols : List ByteArray) (expr : List Ex) (table : ByteArray) (to : List ByteArray) :
    ruleB ⟨name, 2, cols, expr, table, to⟩ = (nmB name && (((((cols.length : Nat) : Int) == 0)) && (exprsB expr 1 1 && (table.toList.isEmpty && ((((to.length : Nat) : Int) == 0)))))) := by
  unfold ruleB
  simp only
  rw [if_neg (by omega), if_pos trivial, l0_empty cols, l0_empty to]
  rfl

theorem ruleB_ref (name : ByteArray) (cols : List ByteArray) (expr : List Ex) (table : ByteArray) (to : List ByteArray) :
    ruleB ⟨name, 3, cols, expr, table, to⟩ = (nmB name && (namesB cols 4 && (((((expr.length : Nat) : Int) == 0)) && (nmB table && (namesB to 4 && (((to.length : Nat) : Int) == ((cols.length : Nat) : Int))))))) := by
  unfold ruleB
  simp only
  rw [if_neg (by omega), if_neg (by omega), if_pos trivial, l0_empty expr]
  have e : (((to.length : Nat) : Int) == ((cols.length : Nat) : Int)) = (to.length == cols.length) := by
    rw [Bool.eq_iff_iff, beq_iff_eq, beq_iff_eq]
    omega
  rw [e]
  rfl

theorem ruleB_none (name : ByteArray) (kind : Int) (cols : List ByteArray) (expr : List Ex) (table : ByteArray) (to : List ByteArray) (h : ¬(0 ≤ kind ∧ kind ≤ 3)) :
    ruleB ⟨name, kind, cols, expr, table, to⟩ = false := by
  unfold ruleB
  simp only
  rw [if_neg (by omega), if_neg (by omega), if_neg (by omega)]
  simp

set_option maxRecDepth 100000 in
set_option maxHeartbeats 4000000 in
theorem specRuleOk (vs : List Value) (x : Ru) (w : World) (hR : RRu 0 w vs x) (hwt : x.wt ≤ 1048576) (v : Bool) (hv : ruleB x = v) :
    Calls Tryz.prog 38 #[.agg vs.toArray] w fun e w' => e = .returned (.bool v) ∧ Below w.heap.size w w' := by
  obtain ⟨name, kind, cols, expr, table, to⟩ := x
  obtain ⟨a0, c0, a1, c1, a2, c2, rfl, hfit, k0, k1, k2⟩ := hR
  simp only at k0 k1 k2
  have Hcols := Lib.hid (fun w' (hb : Below w.heap.size w w') => (k0.kept (Kept.below hb)).1)
  have Hexpr := Lib.hid (fun w' (hb : Below w.heap.size w w') => k1.kept (Kept.below hb))
  have Hto := Lib.hid (fun w' (hb : Below w.heap.size w w') => (k2.kept (Kept.below hb)).1)
  have lc := k0.1.len
  have le := k1.len
  have lt := k2.1.len
  have HB := Lib.hid (fun T => boxV_new w [.string name, .int .i64 kind, .slice a0 cols.length c0, .slice a1 expr.length c1, .string table, .slice a2 to.length c2] T)
  have hW : (Ru.mk name kind cols expr table to).wt = name.size + (cols.length + lets cols) + (expr.length + wtL expr) + table.size + (to.length + lets to) := rfl
  have Zn := Lib.hid (show name.size ≤ 1048576 by omega)
  have Zt := Lib.hid (show table.size ≤ 1048576 by omega)
  have Zc := Lib.hid (show lets cols ≤ 1048576 by omega)
  have Zo := Lib.hid (show lets to ≤ 1048576 by omega)
  have Zexpr := Lib.hid (show wtL expr ≤ 1048576 by omega)
  simp only
  clear k0 k1 k2 hW
  by_cases hin : 0 ≤ kind ∧ kind ≤ 3
  · have hc : kind = 0 ∨ kind = 1 ∨ kind = 2 ∨ kind = 3 := by omega
    clear hin
    rcases hc with rfl | rfl | rfl | rfl
    · have HVV := Lib.hid ((ruleB_key name 0 cols expr table to (.inl rfl)).symm.trans hv)
      clear hv
      go_enter Tryz.func38, Tryz.ntmps38
      go_wp2_with fail
      refine (specNameOk name _ Zn.out _ rfl).mono ?_
      rintro e w1 ⟨rfl, rfl⟩
      have B1 := Lib.hid (HB.out 42)
      generalize w.alloc (.cells #[.string name, .int .i64 0, .slice a0 cols.length c0, .slice a1 expr.length c1, .string table, .slice a2 to.length c2] 42) = W1 at B1 ⊢
      have g1_0 : W1.cell? ⟨w.heap.size, 0, none⟩ = some (.string name) := (B1.out.1.2 0 (by simp)).1
      have g1_1 : W1.cell? ⟨w.heap.size, 1, none⟩ = some (.int .i64 0) := (B1.out.1.2 1 (by simp)).1
      have g1_2 : W1.cell? ⟨w.heap.size, 2, none⟩ = some (.slice a0 cols.length c0) := (B1.out.1.2 2 (by simp)).1
      have g1_3 : W1.cell? ⟨w.heap.size, 3, none⟩ = some (.slice a1 expr.length c1) := (B1.out.1.2 3 (by simp)).1
      have g1_4 : W1.cell? ⟨w.heap.size, 4, none⟩ = some (.string table) := (B1.out.1.2 4 (by simp)).1
      have g1_5 : W1.cell? ⟨w.heap.size, 5, none⟩ = some (.slice a2 to.length c2) := (B1.out.1.2 5 (by simp)).1
      cases h1 : nameB name.data.toList with
      | false =>
        have HV : Hid (v = false) := by unfold Hid; rw [← HVV.out]; simp only [nmB, h1, Bool.false_and, Bool.true_and, Bool.and_false, Bool.and_true]
        go_wp2_with fail
        go_ret
        exact ⟨by rw [HV.out] <;> rfl, B1.out.2⟩
      | true =>
        go_wp2_with fail
        refine (specNames a0 c0 cols 4 _ (Hcols.out _ (B1.out.2)) Zc.out (by unfold i64E; omega) _ rfl).mono ?_
        rintro e w2 ⟨rfl, rfl⟩
        cases h2 : namesB cols 4 with
        | false =>
          have HV : Hid (v = false) := by unfold Hid; rw [← HVV.out]; simp only [nmB, h1, h2, Bool.false_and, Bool.true_and, Bool.and_false, Bool.and_true]
          go_wp2_with fail
          go_ret
          exact ⟨by rw [HV.out] <;> rfl, B1.out.2⟩
        | true =>
          cases h3 : (((expr.length : Nat) : Int) == 0) with
          | false =>
            have HV : Hid (v = false) := by unfold Hid; rw [← HVV.out]; simp only [nmB, h1, h2, h3, Bool.false_and, Bool.true_and, Bool.and_false, Bool.and_true]
            go_wp2_with fail
            go_ret
            exact ⟨by rw [HV.out] <;> rfl, B1.out.2⟩
          | true =>
            cases h4 : table.toList.isEmpty with
            | false =>
              have HV : Hid (v = false) := by unfold Hid; rw [← HVV.out]; simp only [nmB, h1, h2, h3, h4, Bool.false_and, Bool.true_and, Bool.and_false, Bool.and_true]
              go_wp2_with fail
              go_ret
              exact ⟨by rw [HV.out] <;> rfl, B1.out.2⟩
            | true =>
              cases h5 : (((to.length : Nat) : Int) == 0) with
              | false =>
                have HV : Hid (v = false) := by unfold Hid; rw [← HVV.out]; simp only [nmB, h1, h2, h3, h4, h5, Bool.false_and, Bool.true_and, Bool.and_false, Bool.and_true]
                go_wp2_with fail
                go_ret
                exact ⟨by rw [HV.out] <;> rfl, B1.out.2⟩
              | true =>
                have HV : Hid (v = true) := by unfold Hid; rw [← HVV.out]; simp only [nmB, h1, h2, h3, h4, h5, Bool.false_and, Bool.true_and, Bool.and_false, Bool.and_true]
                go_wp2_with fail
                go_ret
                exact ⟨by rw [HV.out] <;> rfl, B1.out.2⟩
    · have HVV := Lib.hid ((ruleB_key name 1 cols expr table to (.inr rfl)).symm.trans hv)
      clear hv
      go_enter Tryz.func38, Tryz.ntmps38
      go_wp2_with fail
      refine (specNameOk name _ Zn.out _ rfl).mono ?_
      rintro e w1 ⟨rfl, rfl⟩
      have B1 := Lib.hid (HB.out 42)
      generalize w.alloc (.cells #[.string name, .int .i64 1, .slice a0 cols.length c0, .slice a1 expr.length c1, .string table, .slice a2 to.length c2] 42) = W1 at B1 ⊢
      have g1_0 : W1.cell? ⟨w.heap.size, 0, none⟩ = some (.string name) := (B1.out.1.2 0 (by simp)).1
      have g1_1 : W1.cell? ⟨w.heap.size, 1, none⟩ = some (.int .i64 1) := (B1.out.1.2 1 (by simp)).1
      have g1_2 : W1.cell? ⟨w.heap.size, 2, none⟩ = some (.slice a0 cols.length c0) := (B1.out.1.2 2 (by simp)).1
      have g1_3 : W1.cell? ⟨w.heap.size, 3, none⟩ = some (.slice a1 expr.length c1) := (B1.out.1.2 3 (by simp)).1
      have g1_4 : W1.cell? ⟨w.heap.size, 4, none⟩ = some (.string table) := (B1.out.1.2 4 (by simp)).1
      have g1_5 : W1.cell? ⟨w.heap.size, 5, none⟩ = some (.slice a2 to.length c2) := (B1.out.1.2 5 (by simp)).1
      cases h1 : nameB name.data.toList with
      | false =>
        have HV : Hid (v = false) := by unfold Hid; rw [← HVV.out]; simp only [nmB, h1, Bool.false_and, Bool.true_and, Bool.and_false, Bool.and_true]
        go_wp2_with fail
        go_ret
        exact ⟨by rw [HV.out] <;> rfl, B1.out.2⟩
      | true =>
        go_wp2_with fail
        refine (specNames a0 c0 cols 4 _ (Hcols.out _ (B1.out.2)) Zc.out (by unfold i64E; omega) _ rfl).mono ?_
        rintro e w2 ⟨rfl, rfl⟩
        cases h2 : namesB cols 4 with
        | false =>
          have HV : Hid (v = false) := by unfold Hid; rw [← HVV.out]; simp only [nmB, h1, h2, Bool.false_and, Bool.true_and, Bool.and_false, Bool.and_true]
          go_wp2_with fail
          go_ret
          exact ⟨by rw [HV.out] <;> rfl, B1.out.2⟩
        | true =>
          cases h3 : (((expr.length : Nat) : Int) == 0) with
          | false =>
            have HV : Hid (v = false) := by unfold Hid; rw [← HVV.out]; simp only [nmB, h1, h2, h3, Bool.false_and, Bool.true_and, Bool.and_false, Bool.and_true]
            go_wp2_with fail
            go_ret
            exact ⟨by rw [HV.out] <;> rfl, B1.out.2⟩
          | true =>
            cases h4 : table.toList.isEmpty with
            | false =>
              have HV : Hid (v = false) := by unfold Hid; rw [← HVV.out]; simp only [nmB, h1, h2, h3, h4, Bool.false_and, Bool.true_and, Bool.and_false, Bool.and_true]
              go_wp2_with fail
              go_ret
              exact ⟨by rw [HV.out] <;> rfl, B1.out.2⟩
            | true =>
              cases h5 : (((to.length : Nat) : Int) == 0) with
              | false =>
                have HV : Hid (v = false) := by unfold Hid; rw [← HVV.out]; simp only [nmB, h1, h2, h3, h4, h5, Bool.false_and, Bool.true_and, Bool.and_false, Bool.and_true]
                go_wp2_with fail
                go_ret
                exact ⟨by rw [HV.out] <;> rfl, B1.out.2⟩
              | true =>
                have HV : Hid (v = true) := by unfold Hid; rw [← HVV.out]; simp only [nmB, h1, h2, h3, h4, h5, Bool.false_and, Bool.true_and, Bool.and_false, Bool.and_true]
                go_wp2_with fail
                go_ret
                exact ⟨by rw [HV.out] <;> rfl, B1.out.2⟩
    · have HVV := Lib.hid ((ruleB_check name cols expr table to).symm.trans hv)
      clear hv
      go_enter Tryz.func38, Tryz.ntmps38
      go_wp2_with fail
      refine (specNameOk name _ Zn.out _ rfl).mono ?_
      rintro e w1 ⟨rfl, rfl⟩
      have B1 := Lib.hid (HB.out 42)
      generalize w.alloc (.cells #[.string name, .int .i64 2, .slice a0 cols.length c0, .slice a1 expr.length c1, .string table, .slice a2 to.length c2] 42) = W1 at B1 ⊢
      have g1_0 : W1.cell? ⟨w.heap.size, 0, none⟩ = some (.string name) := (B1.out.1.2 0 (by simp)).1
      have g1_1 : W1.cell? ⟨w.heap.size, 1, none⟩ = some (.int .i64 2) := (B1.out.1.2 1 (by simp)).1
      have g1_2 : W1.cell? ⟨w.heap.size, 2, none⟩ = some (.slice a0 cols.length c0) := (B1.out.1.2 2 (by simp)).1
      have g1_3 : W1.cell? ⟨w.heap.size, 3, none⟩ = some (.slice a1 expr.length c1) := (B1.out.1.2 3 (by simp)).1
      have g1_4 : W1.cell? ⟨w.heap.size, 4, none⟩ = some (.string table) := (B1.out.1.2 4 (by simp)).1
      have g1_5 : W1.cell? ⟨w.heap.size, 5, none⟩ = some (.slice a2 to.length c2) := (B1.out.1.2 5 (by simp)).1
      cases h1 : nameB name.data.toList with
      | false =>
        have HV : Hid (v = false) := by unfold Hid; rw [← HVV.out]; simp only [nmB, h1, Bool.false_and, Bool.true_and, Bool.and_false, Bool.and_true]
        go_wp2_with fail
        go_ret
        exact ⟨by rw [HV.out] <;> rfl, B1.out.2⟩
      | true =>
        cases h2 : (((cols.length : Nat) : Int) == 0) with
        | false =>
          have HV : Hid (v = false) := by unfold Hid; rw [← HVV.out]; simp only [nmB, h1, h2, Bool.false_and, Bool.true_and, Bool.and_false, Bool.and_true]
          go_wp2_with fail
          go_ret
          exact ⟨by rw [HV.out] <;> rfl, B1.out.2⟩
        | true =>
          go_wp2_with fail
          refine (specExprs a1 c1 expr 1 1 _ (Hexpr.out _ (B1.out.2)) Zexpr.out (by unfold i64E; omega) (by unfold i64E; omega) _ rfl).mono ?_
          rintro e w3 ⟨rfl, b3⟩
          have B3 := Lib.hid ((B1.out).call b3)
          clear b3 g1_0 g1_1 g1_2 g1_3 g1_4 g1_5
          have g3_0 : w3.cell? ⟨w.heap.size, 0, none⟩ = some (.string name) := (B3.out.1.2 0 (by simp)).1
          have g3_1 : w3.cell? ⟨w.heap.size, 1, none⟩ = some (.int .i64 2) := (B3.out.1.2 1 (by simp)).1
          have g3_2 : w3.cell? ⟨w.heap.size, 2, none⟩ = some (.slice a0 cols.length c0) := (B3.out.1.2 2 (by simp)).1
          have g3_3 : w3.cell? ⟨w.heap.size, 3, none⟩ = some (.slice a1 expr.length c1) := (B3.out.1.2 3 (by simp)).1
          have g3_4 : w3.cell? ⟨w.heap.size, 4, none⟩ = some (.string table) := (B3.out.1.2 4 (by simp)).1
          have g3_5 : w3.cell? ⟨w.heap.size, 5, none⟩ = some (.slice a2 to.length c2) := (B3.out.1.2 5 (by simp)).1
          cases h3 : exprsB expr 1 1 with
          | false =>
            have HV : Hid (v = false) := by unfold Hid; rw [← HVV.out]; simp only [nmB, h1, h2, h3, Bool.false_and, Bool.true_and, Bool.and_false, Bool.and_true]
            go_wp2_with fail
            go_ret
            exact ⟨by rw [HV.out] <;> rfl, B3.out.2⟩
          | true =>
            cases h4 : table.toList.isEmpty with
            | false =>
              have HV : Hid (v = false) := by unfold Hid; rw [← HVV.out]; simp only [nmB, h1, h2, h3, h4, Bool.false_and, Bool.true_and, Bool.and_false, Bool.and_true]
              go_wp2_with fail
              go_ret
              exact ⟨by rw [HV.out] <;> rfl, B3.out.2⟩
            | true =>
              cases h5 : (((to.length : Nat) : Int) == 0) with
              | false =>
                have HV : Hid (v = false) := by unfold Hid; rw [← HVV.out]; simp only [nmB, h1, h2, h3, h4, h5, Bool.false_and, Bool.true_and, Bool.and_false, Bool.and_true]
                go_wp2_with fail
                go_ret
                exact ⟨by rw [HV.out] <;> rfl, B3.out.2⟩
              | true =>
                have HV : Hid (v = true) := by unfold Hid; rw [← HVV.out]; simp only [nmB, h1, h2, h3, h4, h5, Bool.false_and, Bool.true_and, Bool.and_false, Bool.and_true]
                go_wp2_with fail
                go_ret
                exact ⟨by rw [HV.out] <;> rfl, B3.out.2⟩
    · have HVV := Lib.hid ((ruleB_ref name cols expr table to).symm.trans hv)
      clear hv
      go_enter Tryz.func38, Tryz.ntmps38
      go_wp2_with fail
      refine (specNameOk name _ Zn.out _ rfl).mono ?_
      rintro e w1 ⟨rfl, rfl⟩
      have B1 := Lib.hid (HB.out 42)
      generalize w.alloc (.cells #[.string name, .int .i64 3, .slice a0 cols.length c0, .slice a1 expr.length c1, .string table, .slice a2 to.length c2] 42) = W1 at B1 ⊢
      have g1_0 : W1.cell? ⟨w.heap.size, 0, none⟩ = some (.string name) := (B1.out.1.2 0 (by simp)).1
      have g1_1 : W1.cell? ⟨w.heap.size, 1, none⟩ = some (.int .i64 3) := (B1.out.1.2 1 (by simp)).1
      have g1_2 : W1.cell? ⟨w.heap.size, 2, none⟩ = some (.slice a0 cols.length c0) := (B1.out.1.2 2 (by simp)).1
      have g1_3 : W1.cell? ⟨w.heap.size, 3, none⟩ = some (.slice a1 expr.length c1) := (B1.out.1.2 3 (by simp)).1
      have g1_4 : W1.cell? ⟨w.heap.size, 4, none⟩ = some (.string table) := (B1.out.1.2 4 (by simp)).1
      have g1_5 : W1.cell? ⟨w.heap.size, 5, none⟩ = some (.slice a2 to.length c2) := (B1.out.1.2 5 (by simp)).1
      cases h1 : nameB name.data.toList with
      | false =>
        have HV : Hid (v = false) := by unfold Hid; rw [← HVV.out]; simp only [nmB, h1, Bool.false_and, Bool.true_and, Bool.and_false, Bool.and_true]
        go_wp2_with fail
        go_ret
        exact ⟨by rw [HV.out] <;> rfl, B1.out.2⟩
      | true =>
        go_wp2_with fail
        refine (specNames a0 c0 cols 4 _ (Hcols.out _ (B1.out.2)) Zc.out (by unfold i64E; omega) _ rfl).mono ?_
        rintro e w2 ⟨rfl, rfl⟩
        cases h2 : namesB cols 4 with
        | false =>
          have HV : Hid (v = false) := by unfold Hid; rw [← HVV.out]; simp only [nmB, h1, h2, Bool.false_and, Bool.true_and, Bool.and_false, Bool.and_true]
          go_wp2_with fail
          go_ret
          exact ⟨by rw [HV.out] <;> rfl, B1.out.2⟩
        | true =>
          cases h3 : (((expr.length : Nat) : Int) == 0) with
          | false =>
            have HV : Hid (v = false) := by unfold Hid; rw [← HVV.out]; simp only [nmB, h1, h2, h3, Bool.false_and, Bool.true_and, Bool.and_false, Bool.and_true]
            go_wp2_with fail
            go_ret
            exact ⟨by rw [HV.out] <;> rfl, B1.out.2⟩
          | true =>
            go_wp2_with fail
            refine (specNameOk table _ Zt.out _ rfl).mono ?_
            rintro e w4 ⟨rfl, rfl⟩
            cases h4 : nameB table.data.toList with
            | false =>
              have HV : Hid (v = false) := by unfold Hid; rw [← HVV.out]; simp only [nmB, h1, h2, h3, h4, Bool.false_and, Bool.true_and, Bool.and_false, Bool.and_true]
              go_wp2_with fail
              go_ret
              exact ⟨by rw [HV.out] <;> rfl, B1.out.2⟩
            | true =>
              go_wp2_with fail
              refine (specNames a2 c2 to 4 _ (Hto.out _ (B1.out.2)) Zo.out (by unfold i64E; omega) _ rfl).mono ?_
              rintro e w5 ⟨rfl, rfl⟩
              cases h5 : namesB to 4 with
              | false =>
                have HV : Hid (v = false) := by unfold Hid; rw [← HVV.out]; simp only [nmB, h1, h2, h3, h4, h5, Bool.false_and, Bool.true_and, Bool.and_false, Bool.and_true]
                go_wp2_with fail
                go_ret
                exact ⟨by rw [HV.out] <;> rfl, B1.out.2⟩
              | true =>
                cases h6 : (((to.length : Nat) : Int) == ((cols.length : Nat) : Int)) with
                | false =>
                  have HV : Hid (v = false) := by unfold Hid; rw [← HVV.out]; simp only [nmB, h1, h2, h3, h4, h5, h6, Bool.false_and, Bool.true_and, Bool.and_false, Bool.and_true]
                  go_wp2_with fail
                  go_ret
                  exact ⟨by rw [HV.out] <;> rfl, B1.out.2⟩
                | true =>
                  have HV : Hid (v = true) := by unfold Hid; rw [← HVV.out]; simp only [nmB, h1, h2, h3, h4, h5, h6, Bool.false_and, Bool.true_and, Bool.and_false, Bool.and_true]
                  go_wp2_with fail
                  go_ret
                  exact ⟨by rw [HV.out] <;> rfl, B1.out.2⟩
  · have HV : Hid (v = false) := by unfold Hid; rw [← hv, ruleB_none _ _ _ _ _ _ hin]
    have kb0 : (kind == 0) = false := by simp; omega
    have kb1 : (kind == 1) = false := by simp; omega
    have kb2 : (kind == 2) = false := by simp; omega
    have kb3 : (kind == 3) = false := by simp; omega
    clear hv hin
    go_enter Tryz.func38, Tryz.ntmps38
    go_wp2_with fail
    refine (specNameOk name _ Zn.out _ rfl).mono ?_
    rintro e w1 ⟨rfl, rfl⟩
    cases h1 : nameB name.data.toList with
    | false =>
      clear h1
      go_wp2_with fail
      go_ret
      exact ⟨by rw [HV.out] <;> rfl, (HB.out _).2⟩
    | true =>
      clear h1
      go_wp2_with fail
      go_ret
      exact ⟨by rw [HV.out] <;> rfl, (HB.out _).2⟩

end Go.Proofs.YtpdcmmhhgnackaaGreatDoor
