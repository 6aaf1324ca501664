/- The draws of texts for Lex. -/
/- spec.DrawParseExpr. -/
/- The model's reader of expressions: l04Is, l04Next. -/
import Derived.Test.YtgnillmhpockkaaGreatDoorMExWalk
import Derived.Test.YtgnillmhpockkaaGreatDoorMDecImpl
import Derived.Deep.RegionWith
import Derived.Test.YtgnillmhpockkaaGreatDoorMDrawNodes
import Derived.Test.YtgnillmhpockkaaGreatDoorMLexImplA
import Derived.Test.YtgnillmhpockkaaGreatDoorMOkW
import Derived.Test.YtgnillmhpockkaaGreatDoorMPutExS
namespace Go.Proofs.YtgnillmhpockkaaGreatDoor
open Go.RowKit

def texts25 : List ByteArray := [⟨#[99, 114, 101, 97, 116, 101]⟩, ⟨#[32]⟩, ⟨#[84, 97, 98, 108, 101]⟩, ⟨#[34, 97, 32, 34, 34, 98, 34]⟩, ⟨#[39, 105, 116, 39, 39, 115, 39]⟩, ⟨#[49, 50]⟩, ⟨#[40]⟩, ⟨#[41]⟩, ⟨#[44]⟩, ⟨#[60, 61]⟩, ⟨#[60, 62]⟩, ⟨#[45, 45, 32, 110, 111, 116, 101, 10]⟩, ⟨#[45]⟩, ⟨#[61]⟩, ⟨#[59]⟩, ⟨#[120, 95, 49]⟩, ⟨#[10]⟩, ⟨#[39, 39]⟩, ⟨#[48, 48, 55]⟩, ⟨#[49, 97]⟩, ⟨#[34, 34]⟩, ⟨#[39, 111, 112, 101, 110]⟩, ⟨#[49, 50, 51, 52, 53, 54, 55, 56, 57, 48]⟩, ⟨#[33]⟩, ⟨#[46]⟩]
theorem texts25_small : ∀ s ∈ texts25, s.size ≤ 10 := by unfold texts25; decide
def texts10 : List ByteArray := [⟨#[48]⟩, ⟨#[32]⟩, ⟨#[255]⟩, ⟨#[39]⟩, ⟨#[34]⟩, ⟨#[97]⟩, ⟨#[40]⟩, ⟨#[44]⟩, ⟨#[59]⟩, ⟨#[45]⟩]
theorem texts10_small : ∀ s ∈ texts10, s.size ≤ 1 := by unfold texts10; decide
def texts6 : List ByteArray := [⟨#[48]⟩, ⟨#[65]⟩, ⟨#[0]⟩, ⟨#[57]⟩, ⟨#[41]⟩, ⟨#[61]⟩]
theorem texts6_small : ∀ s ∈ texts6, s.size ≤ 1 := by unfold texts6; decide

def SomeText (n : Nat) (v : Value) : Prop := ∃ s : ByteArray, v = .string s ∧ s.size ≤ n

theorem append_size2 (a b : ByteArray) : (a ++ b).size = a.size + b.size := by simp

theorem Deck.drewn {w0 : World} {a : Option Addr} {c : Nat} {l : List UInt8} {g : Nat} {w : World} (hd : Deck w0 a c l g w) : Deck w0 a c l g w.drew := ⟨hd.bytes, hd.short, ⟨hd.below.os, hd.below.tape, hd.below.output, hd.below.size, hd.below.block⟩, hd.new, hd.cur⟩
theorem grown_drewn {a b : World} {r : Option Nat} (h : a.grownBy b r) : a.grownBy b.drew r := ⟨h.os, h.tape, h.output, h.size, h.block⟩

set_option maxRecDepth 100000 in
set_option maxHeartbeats 2000000 in
theorem specBent {w0 : World} {a : Option Addr} {c : Nat} {l : List UInt8} {g : Nat} {w : World} (hd : Deck w0 a c l g w) (s : ByteArray) (hs : s.size ≤ 100000) :
    Calls Tryz.prog 60 #[.pointer (some ⟨g, 0, none⟩), .string s] w (Drawn w0 a c l g w (SomeText 100001)) := by
  go_enter Tryz.func60, Tryz.ntmps60
  go_wp2_with fail
  refine (l01Below hd ((s.size : Int) + 1) (by omega) (by omega)).mono ?_
  rintro e w1 ⟨v, ⟨x, rfl, hx0, hx1⟩, rfl, hd1, hg1⟩
  obtain ⟨i, rfl⟩ := Int.eq_ofNat_of_zero_le hx0
  have hi : i ≤ s.size := by omega
  go_wp2_with fail
  refine (l01Below hd1 10 (by omega) (by omega)).mono ?_
  rintro e w2 ⟨v, ⟨y, rfl, hy0, hy1⟩, rfl, hd2, hg2⟩
  have hg12 := grown_trans hg1 hg2
  clear hg1 hg2
  have hii : (i : Int) ≤ (s.size : Int) := by omega
  have h0i : (0 : Int) ≤ (i : Int) := by omega
  cases t0 : (y == 0) with
  | true =>
    go_wp2_with fail
    go_ret
    exact ⟨_, ⟨_, rfl, by simp; omega⟩, rfl, hd2, hg12⟩
  | false =>
    cases t1 : (y == 1) with
    | true =>
      go_wp2_with fail
      go_region_with (go_at_call 58; refine (pickLit hd2.drewn texts10 10 rfl (fun s hs' => by have := texts10_small s hs'; unfold maxLen; omega) (by decide) (by decide) _ rfl).mono ?_; rintro e w3 ⟨v, ⟨u, rfl, hu⟩, rfl, hd3, hg3⟩; have hus := texts10_small u hu)
      all_goals go_wp2_with fail
      all_goals go_ret
      all_goals exact ⟨_, ⟨_, rfl, by simp; omega⟩, rfl, hd3, grown_trans (grown_alloc (grown_drewn hg12) _) hg3⟩
    | false =>
      cases t2 : (y == 2) with
      | true =>
        by_cases hlt : (i : Int) < (s.size : Int)
        · have hw1 : IntKind.i64.wrap ((i : Int) + 1) = (i : Int) + 1 := by rw [IntWalk.i64_in _ (by omega)]
          have hi1 : (i : Int) + 1 ≤ (s.size : Int) := by omega
          have h0i1 : (0 : Int) ≤ (i : Int) + 1 := by omega
          go_wp2_with fail
          go_region_with (go_at_call 58; refine (pickLit hd2.drewn texts6 6 rfl (fun s hs' => by have := texts6_small s hs'; unfold maxLen; omega) (by decide) (by decide) _ rfl).mono ?_; rintro e w3 ⟨v, ⟨u, rfl, hu⟩, rfl, hd3, hg3⟩; have hus := texts6_small u hu)
          all_goals go_wp2_with fail
          all_goals go_ret
          all_goals exact ⟨_, ⟨_, rfl, by simp; omega⟩, rfl, hd3, grown_trans (grown_alloc (grown_drewn hg12) _) hg3⟩
        · go_wp2_with fail
          go_ret
          exact ⟨_, ⟨_, rfl, by omega⟩, rfl, hd2, hg12⟩
      | false =>
        go_wp2_with fail
        go_ret
        exact ⟨_, ⟨_, rfl, by omega⟩, rfl, hd2, hg12⟩

theorem zeroConv {W : World} {B : Nat} {A : Option Addr} {n : Nat} (h : W.ownsRow B 5 1 (.slice A n n) n (madeCells (Value.int .u8 0).cells (n * 1)).toList) :
    ∃ t : ByteArray, (convert 22 9 (.slice A n n)).run Tryz.prog W = .ok (.string t) W ∧ t.size = n := by
  have hm := toList_madeCells_one (.int .u8 0) (n * 1)
  have hl : (List.replicate n (0 : UInt8)).length = n := List.length_replicate
  have ho : OwnB W B A n (List.replicate n (0 : UInt8)) := by
    unfold OwnB
    rw [hl]
    have e : bcells (List.replicate n (0 : UInt8)) = (madeCells (Value.int .u8 0).cells (n * 1)).toList := by
      refine Eq.trans ?_ hm.symm
      unfold bcells
      rw [List.map_replicate, Nat.mul_one]
      rfl
    rw [e]
    exact h
  have hc := convBytes ho
  rw [hl] at hc
  exact ⟨_, hc, by show (List.replicate n (0 : UInt8)).toArray.size = n; rw [List.size_toArray, hl]⟩

end Go.Proofs.YtgnillmhpockkaaGreatDoor

namespace Go.Proofs.YtgnillmhpockkaaGreatDoor
open Go.RowKit

def texts17 : List ByteArray := [⟨#[97, 32, 43, 32, 98, 32, 42, 32, 50, 32, 45, 32, 49]⟩, ⟨#[110, 111, 116, 32, 110, 111, 116, 32, 97, 32, 97, 110, 100, 32, 98, 32, 111, 114, 32, 99]⟩, ⟨#[97, 32, 61, 32, 98, 32, 61, 32, 99]⟩, ⟨#[40, 97]⟩, ⟨#[97, 32, 105, 115, 32, 110, 117, 108, 108, 32, 105, 115, 32, 110, 117, 108, 108]⟩, ⟨#[97, 32, 105, 115]⟩, ⟨#[49, 32, 60, 32, 50, 32, 43, 32]⟩, ⟨#[40, 40, 97, 41, 41, 32, 111, 114]⟩, ⟨#[97, 32, 110, 111, 116, 32, 98]⟩, ⟨#[]⟩, ⟨#[41]⟩, ⟨#[115, 101, 108, 101, 99, 116]⟩, ⟨#[110, 111, 116, 32, 97, 32, 61, 32, 98]⟩, ⟨#[97, 32, 60, 62, 32, 40, 98, 32, 111, 114, 32, 99, 41, 32, 105, 115, 32, 110, 117, 108, 108]⟩, ⟨#[45, 32, 49]⟩, ⟨#[97, 32, 45, 32, 98, 32, 45, 32, 99]⟩, ⟨#[97, 32, 111, 114, 32, 98, 32, 97, 110, 100, 32, 110, 111, 116, 32, 99]⟩]
theorem texts17_small : ∀ s ∈ texts17, s.size ≤ 60 := by unfold texts17; decide

theorem putT_size (e : Ex) : (putT e).size ≤ 8400 := by
  unfold putT
  split
  · rename_i h
    rw [Bool.and_eq_true, decide_eq_true_eq] at h
    exact tE_size h.2 h.1
  · rw [txt_size]; exact Nat.zero_le _

/-- What is drawn for FnRead. -/
def DrewT (w : World) (x : Ending) (w' : World) : Prop :=
  ∃ (s : ByteArray) (la : Option Addr) (lc : Nat) (pl : Int), x = .returned (.tuple #[.slice la (toks s).length lc, .int .i64 pl]) ∧ s.size ≤ 100001 ∧ (pl = 0 ∨ pl = 1 ∨ pl = -1 ∨ pl = ((toks s).length : Int)) ∧ Toks w' la lc (toks s) ∧ Below w.heap.size w w'

set_option maxRecDepth 100000 in
set_option maxHeartbeats 4000000 in
theorem specDrawParse (a : Option Addr) (c : Nat) (l : List UInt8) (w : World) (hb : Bytes w a c l) (hs : l.length ≤ 1048576) :
    Calls Tryz.prog 22 #[.slice a l.length c] w (DrewT w) := by
  go_enter Tryz.func22, Tryz.ntmps22
  go_wp2_with fail
  refine (l01New a c l w hb hs).mono ?_
  rintro e w1 ⟨rfl, hd1, hb1, hzz⟩
  have hs1 := hb1.size
  clear hzz
  go_wp2_with fail
  refine (make3 hd1 hs1).mono ?_
  rintro x w2 ⟨k, t, n, es, a', c', rfl, hrow, hsm, hdg⟩
  obtain ⟨d, hk⟩ := hrow.kids
  have hP : Calls Tryz.prog 18 #[.agg #[.int .i64 k, .string t, .int .i64 n, .slice a' es.length c']] w2 (fun x w' => x = .returned (.string (putT (eOf k t n es))) ∧ Below w2.heap.size w2 w') := by
    have hw := hsm.1.2.1
    have hN := hsm.1.2.2
    have h15 : deepN 3 = 15 := rfl
    have h := specPutExpr (eOf k t n es) a' c' d w2 hk.at (by omega) _ rfl
    have hl : (eOf k t n es).kids.length = es.length := List.length_map ..
    rw [hl] at h
    exact h
  have HP := Lib.hid hP
  have B2 : Below w.heap.size w w2 := hb1.grown hdg.2 hs1 (fun k hk => by cases hk; exact Nat.le_refl _)
  have HD2 := Lib.hid hdg.1
  have hp8 := putT_size (eOf k t n es)
  generalize putT (eOf k t n es) = ps at HP hp8
  clear hrow hsm hdg hk hP
  go_wp2_with fail
  refine HP.out.mono ?_
  rintro x w3 ⟨rfl, b3⟩
  have B3 : Below w.heap.size w w3 := B2.trans (b3.mono B2.size)
  have HD3 := Lib.hid (HD2.out.belowed b3)
  clear b3 B2 HD2
  go_wp2_with fail
  refine (l01Once HD3.out 3 (by omega) (by omega)).mono ?_
  rintro e w4 ⟨v, ⟨bb, rfl⟩, rfl, hd4, hg4⟩
  have B4 : Below w.heap.size w w4 := B3.grown hg4 B3.size (fun k hk => by cases hk; exact Nat.le_refl _)
  have HD4 := Lib.hid hd4
  clear hd4 hg4 B3 HD3
  cases bb with
  | false =>
    go_wp2_with fail
    refine (specBent HD4.out ps (by omega)).mono ?_
    rintro e w5 ⟨v, ⟨u, rfl, hu⟩, rfl, hd5, hg5⟩
    have B5 : Below w.heap.size w w5 := B4.grown hg5 B4.size (fun k hk => by cases hk; exact Nat.le_refl _)
    have HD5 := Lib.hid hd5
    clear hd5 hg5
    go_wp2_with fail
    refine (specLex u w5 (by omega)).mono ?_
    rintro e w6 ⟨la, lc, rfl, hown, b6⟩
    have B6 : Below w.heap.size w w6 := B5.trans (b6.mono B5.size)
    have HD6 := Lib.hid (HD5.out.belowed b6)
    have HTB : Hid (∀ b off, la = some ⟨b, off, none⟩ → b ≠ w.heap.size) := fun b off hab => by have h1 := HD5.out.lt; subst hab; have h2 := (hown.lt (g := b) rfl).1; omega
    have HT6 := Lib.hid (hown.toks (toks_fit u (by omega)).1)
    have hlen6 := (toks_fit u (by omega)).2
    clear hown b6 B5 HD5
    obtain ⟨N, hN⟩ : ∃ N : Nat, N = (toks u).length := ⟨_, rfl⟩
    have HN := Lib.hid hN
    rw [← hN] at hlen6
    rw [← hN]
    clear hN
    go_wp2_with fail
    refine (l01PickIntP (HD6.out.alloc _) (fun x => x = 0 ∨ x = 1 ∨ x = -1 ∨ x = (N : Int)) w6.heap.size 7 _ (heap_alloc_new _ _) (by have := HD6.out.lt; omega) rfl (by omega) (by omega) ?_).mono ?_
    · intro k v hv
      have hm := Array.mem_of_getElem? hv
      simp only [List.mem_toArray, List.mem_cons, List.not_mem_nil, or_false] at hm
      rcases hm with rfl | rfl | rfl | rfl | rfl | rfl | rfl <;> exact ⟨_, rfl, by omega⟩
    rintro e w7 ⟨v, ⟨pl, rfl, hpl⟩, rfl, hd7, hg7⟩
    have hba := (Below.refl w6.heap.size w6).alloc (Nat.le_refl _) (.cells #[.int .i64 0, .int .i64 0, .int .i64 0, .int .i64 0, .int .i64 1, .int .i64 (-1), .int .i64 (N : Int)] 3)
    have B7 := Lib.hid ((B6.trans (hba.mono B6.size)).grown hg7 (B6.trans (hba.mono B6.size)).size (fun k hk => by cases hk; exact Nat.le_refl _))
    have HT7 := Lib.hid ((HT6.out.below hba).grown hg7 HTB.out)
    clear hd7 hg7 hba
    go_wp2_with fail
    go_ret2
    rw [HN.out]
    rw [HN.out] at hpl
    exact ⟨u, la, lc, pl, rfl, hu, hpl, HT7.out, B7.out⟩
  | true =>
    go_wp2_with fail
    refine (pickLit HD4.out texts17 17 rfl (fun s hs => by have := texts17_small s hs; unfold maxLen; omega) (by decide) (by decide) _ rfl).mono ?_
    rintro e w4b ⟨v, ⟨s, rfl, hs'⟩, rfl, hd4b, hg4b⟩
    have hss := texts17_small s hs'
    have B4a := B4.alloc B4.size (.cells (texts17.map Value.string).toArray 9)
    have B4b : Below w.heap.size w w4b := B4a.grown hg4b B4a.size (fun k hk => by cases hk; exact Nat.le_refl _)
    have HD4b := Lib.hid hd4b
    clear hd4b hg4b B4a
    go_wp2_with fail
    refine (specBent HD4b.out s (by omega)).mono ?_
    rintro e w5 ⟨v, ⟨u, rfl, hu⟩, rfl, hd5, hg5⟩
    have B5 : Below w.heap.size w w5 := B4b.grown hg5 B4b.size (fun k hk => by cases hk; exact Nat.le_refl _)
    have HD5 := Lib.hid hd5
    clear hd5 hg5
    go_wp2_with fail
    refine (specLex u w5 (by omega)).mono ?_
    rintro e w6 ⟨la, lc, rfl, hown, b6⟩
    have B6 : Below w.heap.size w w6 := B5.trans (b6.mono B5.size)
    have HD6 := Lib.hid (HD5.out.belowed b6)
    have HTB : Hid (∀ b off, la = some ⟨b, off, none⟩ → b ≠ w.heap.size) := fun b off hab => by have h1 := HD5.out.lt; subst hab; have h2 := (hown.lt (g := b) rfl).1; omega
    have HT6 := Lib.hid (hown.toks (toks_fit u (by omega)).1)
    have hlen6 := (toks_fit u (by omega)).2
    clear hown b6 B5 HD5
    obtain ⟨N, hN⟩ : ∃ N : Nat, N = (toks u).length := ⟨_, rfl⟩
    have HN := Lib.hid hN
    rw [← hN] at hlen6
    rw [← hN]
    clear hN
    go_wp2_with fail
    refine (l01PickIntP (HD6.out.alloc _) (fun x => x = 0 ∨ x = 1 ∨ x = -1 ∨ x = (N : Int)) w6.heap.size 7 _ (heap_alloc_new _ _) (by have := HD6.out.lt; omega) rfl (by omega) (by omega) ?_).mono ?_
    · intro k v hv
      have hm := Array.mem_of_getElem? hv
      simp only [List.mem_toArray, List.mem_cons, List.not_mem_nil, or_false] at hm
      rcases hm with rfl | rfl | rfl | rfl | rfl | rfl | rfl <;> exact ⟨_, rfl, by omega⟩
    rintro e w7 ⟨v, ⟨pl, rfl, hpl⟩, rfl, hd7, hg7⟩
    have hba := (Below.refl w6.heap.size w6).alloc (Nat.le_refl _) (.cells #[.int .i64 0, .int .i64 0, .int .i64 0, .int .i64 0, .int .i64 1, .int .i64 (-1), .int .i64 (N : Int)] 3)
    have B7 := Lib.hid ((B6.trans (hba.mono B6.size)).grown hg7 (B6.trans (hba.mono B6.size)).size (fun k hk => by cases hk; exact Nat.le_refl _))
    have HT7 := Lib.hid ((HT6.out.below hba).grown hg7 HTB.out)
    clear hd7 hg7 hba
    go_wp2_with fail
    go_ret2
    rw [HN.out]
    rw [HN.out] at hpl
    exact ⟨u, la, lc, pl, rfl, hu, hpl, HT7.out, B7.out⟩

end Go.Proofs.YtgnillmhpockkaaGreatDoor

namespace Go.Proofs.YtgnillmhpockkaaGreatDoor
open Go.RowKit

set_option maxRecDepth 100000 in
set_option maxHeartbeats 2000000 in
theorem specIsH {w : World} {a : Option Addr} {c : Nat} {l : List Tk} (ht : Toks w a c l) (hl : l.length ≤ 1000000) (at_ : Nat) (hat : at_ ≤ 2000000) (t : ByteArray) (v : Bool) (hv : hdW (left l at_) t.data.toList = v) :
    Calls Tryz.prog 92 #[.slice a l.length c, .int .i64 (at_ : Int), .string t] w fun e w' => e = .returned (.bool v) ∧ w = w' := by
  have hw1 : IntKind.i64.wrap ((l.length : Int) - 1) = (l.length : Int) - 1 := IntWalk.i64_in _ (by omega)
  by_cases hlt : at_ < l.length
  · have HIN : Hid (inI (at_ : Int) 0 ((l.length : Int) - 1) = true) := by unfold Hid inI; rw [decide_eq_true (by omega), decide_eq_true (by omega)]; rfl
    obtain ⟨b, off, rfl, hbl, t0, t1, t2⟩ := ht.spot hlt
    rw [left_cons hlt] at hv
    have hv' : ((l[at_].kind == 0 || l[at_].kind == 4) && l[at_].text.data.toList == t.data.toList) = v := hv
    rw [← Lib.toList_data, ← Lib.toList_data] at hv'
    have h0 : (0 : Int) ≤ (at_ : Int) := by omega
    have h1 : (at_ : Int) < (l.length : Int) := by omega
    clear hv ht
    generalize l[at_].kind = kk at *
    generalize l[at_].text = tt at *
    cases k0 : (kk == 0) with
    | true =>
      rw [k0] at hv'
      cases te : (tt.toList == t.toList) with
      | true =>
        rw [te] at hv'
        have : v = true := hv'.symm
        subst this
        clear hv'
        go_enter Tryz.func92, Tryz.ntmps92
        go_wp2_with fail
        refine (specInIs _ _ _ w true HIN.out).mono ?_
        rintro e w' ⟨rfl, rfl⟩
        go_wp2_with fail
        go_ret
        exact ⟨rfl, rfl⟩
      | false =>
        rw [te] at hv'
        have : v = false := hv'.symm
        subst this
        clear hv'
        go_enter Tryz.func92, Tryz.ntmps92
        go_wp2_with fail
        refine (specInIs _ _ _ w true HIN.out).mono ?_
        rintro e w' ⟨rfl, rfl⟩
        go_wp2_with fail
        go_ret
        exact ⟨rfl, rfl⟩
    | false =>
      rw [k0] at hv'
      cases k4 : (kk == 4) with
      | false =>
        rw [k4] at hv'
        have : v = false := hv'.symm
        subst this
        clear hv'
        go_enter Tryz.func92, Tryz.ntmps92
        go_wp2_with fail
        refine (specInIs _ _ _ w true HIN.out).mono ?_
        rintro e w' ⟨rfl, rfl⟩
        go_wp2_with fail
        go_ret
        exact ⟨rfl, rfl⟩
      | true =>
        rw [k4] at hv'
        cases te : (tt.toList == t.toList) with
        | true =>
          rw [te] at hv'
          have : v = true := hv'.symm
          subst this
          clear hv'
          go_enter Tryz.func92, Tryz.ntmps92
          go_wp2_with fail
          refine (specInIs _ _ _ w true HIN.out).mono ?_
          rintro e w' ⟨rfl, rfl⟩
          go_wp2_with fail
          go_ret
          exact ⟨rfl, rfl⟩
        | false =>
          rw [te] at hv'
          have : v = false := hv'.symm
          subst this
          clear hv'
          go_enter Tryz.func92, Tryz.ntmps92
          go_wp2_with fail
          refine (specInIs _ _ _ w true HIN.out).mono ?_
          rintro e w' ⟨rfl, rfl⟩
          go_wp2_with fail
          go_ret
          exact ⟨rfl, rfl⟩
  · have HIN : Hid (inI (at_ : Int) 0 ((l.length : Int) - 1) = false) := by unfold Hid inI; rw [decide_eq_false (show ¬ (at_ : Int) ≤ (l.length : Int) - 1 by omega)]; simp
    rw [left_end hlt] at hv
    have : v = false := hv.symm
    subst this
    clear hv ht
    go_enter Tryz.func92, Tryz.ntmps92
    go_wp2_with fail
    refine (specInIs _ _ _ w false HIN.out).mono ?_
    rintro e w' ⟨rfl, rfl⟩
    go_wp2_with fail
    go_ret
    exact ⟨rfl, rfl⟩

/-- The operator of that strength at a place. -/
def nxK (l : List Tk) (at_ b : Nat) : Option Int := match left l at_ with
  | x :: _ => nextK x b
  | [] => none

theorem nx_none {l : List Tk} {at_ b : Nat} (h : ∀ k : Int, 8 ≤ k → k ≤ 18 → ¬ (bindsK k = b ∧ hdW (left l at_) (signK k) = true)) : nxK l at_ b = none := by
  unfold nxK
  cases hx : left l at_ with
  | nil => rfl
  | cons x r =>
    refine next_none_of fun k hk hb => ?_
    have h1 : 8 ≤ k ∧ k ≤ 18 := by simp at hk; omega
    have h2 := h k h1.1 h1.2
    rw [hx] at h2
    cases hw : isW x (signK k) with
    | false => rfl
    | true => exact absurd ⟨hb, hw⟩ h2

theorem nx_some {l : List Tk} {at_ b : Nat} {k : Int} (h8 : 8 ≤ k) (h18 : k ≤ 18) (hb : bindsK k = b) (hw : hdW (left l at_) (signK k) = true) : nxK l at_ b = some k := by
  unfold nxK
  have hm : k ∈ ([8, 9, 10, 11, 12, 13, 14, 15, 16, 17, 18] : List Int) := by simp; omega
  cases hx : left l at_ with
  | nil => rw [hx] at hw; cases hw
  | cons x r =>
    rw [hx] at hw
    have hw' : isW x (signK k) = true := hw
    show nextK x b = some k
    cases hn : nextK x b with
    | none =>
      unfold nextK at hn
      have := List.find?_eq_none.1 hn k hm
      rw [hw', hb] at this
      simp at this
    | some k' =>
      obtain ⟨h1, h2, h3⟩ := next_some hn
      have e1 := isW_text hw'
      have e2 := isW_text h3
      rw [sign_inj k' h1 k hm (by rw [← e2, e1])]

set_option maxRecDepth 100000 in
set_option maxHeartbeats 2000000 in
theorem specNextH {w : World} {a : Option Addr} {c : Nat} {l : List Tk} (ht : Toks w a c l) (hl : l.length ≤ 1000000) (at_ b : Nat) (hat : at_ ≤ 2000000) (v : Int) (hv : (nxK l at_ b).getD (-1) = v) :
    Calls Tryz.prog 93 #[.slice a l.length c, .int .i64 (at_ : Int), .int .i64 (b : Int)] w fun e w' => e = .returned (.int .i64 v) ∧ w = w' := by
  have HT := Lib.hid ht
  have HV := Lib.hid hv
  clear ht hv
  go_enter Tryz.func93, Tryz.ntmps93
  go_wp2_with fail
  go_loop [7] (fun i => ∃ k : Nat, 8 ≤ k ∧ k ≤ 19 ∧ i = .int .i64 k ∧ Hid (∀ j : Int, 8 ≤ j → j < k → ¬ (bindsK j = b ∧ hdW (left l at_) (signK j) = true))) (fun i => 20 - (intOf i).toNat)
  case atStart => exact ⟨8, Nat.le_refl _, by omega, rfl, fun j h1 h2 => by omega⟩
  case round =>
    obtain ⟨k, h8, h19, rfl, HN⟩ := hrel
    by_cases hk : k ≤ 18
    · have hki : (k : Int) ≤ 18 := by omega
      cases hbb : ((bindsK (k : Int) : Int) == (b : Int)) with
      | false =>
        have hne : bindsK (k : Int) ≠ b := by intro h; rw [h] at hbb; simp at hbb
        go_wp2_with fail
        refine (specBindsB (k : Int) (by omega) hki w _ rfl).mono ?_
        rintro e w' ⟨rfl, rfl⟩
        go_wp2_with fail
        refine ⟨⟨k + 1, by omega, by omega, by go_num, fun j h1 h2 => ?_⟩, by simp [intOf]; omega⟩
        · by_cases hj : j < (k : Int)
          · exact HN.out j h1 hj
          · have : j = (k : Int) := by omega
            subst this
            exact fun h => hne h.1
      | true =>
        have heq : bindsK (k : Int) = b := by have := eq_of_beq hbb; omega
        obtain ⟨u, hu⟩ : ∃ u, hdW (left l at_) (signK (k : Int)) = u := ⟨_, rfl⟩
        have HU := Lib.hid hu
        have HIS : Hid (Calls Tryz.prog 92 #[.slice a l.length c, .int .i64 (at_ : Int), .string (txt (signK (k : Int)))] w fun e w' => e = .returned (.bool u) ∧ w = w') := specIsH HT.out hl at_ hat _ u (by rw [← hu]; simp [txt])
        clear hu
        go_wp2_with fail
        refine (specBindsB (k : Int) (by omega) hki w _ rfl).mono ?_
        rintro e w' ⟨rfl, rfl⟩
        go_wp2_with fail
        refine (specSignE (k : Int) (by omega) hki _).mono ?_
        rintro e w' ⟨rfl, rfl⟩
        go_wp2_with fail
        refine HIS.out.mono ?_
        rintro e w' ⟨rfl, rfl⟩
        cases u with
        | true =>
          have HX : Hid ((k : Int) = v) := by
            have h1 := nx_some (b := b) (k := (k : Int)) (by omega) hki heq HU.out
            have h2 := HV.out
            rw [h1] at h2
            exact h2
          go_wp2_with fail
          go_ret
          exact ⟨by have h := HX.out; subst h; rfl, rfl⟩
        | false =>
          go_wp2_with fail
          refine ⟨⟨k + 1, by omega, by omega, by go_num, fun j h1 h2 => ?_⟩, by simp [intOf]; omega⟩
          · by_cases hj : j < (k : Int)
            · exact HN.out j h1 hj
            · have : j = (k : Int) := by omega
              subst this
              exact fun h => by rw [HU.out] at h; cases h.2
    · have hk19 : k = 19 := by omega
      subst hk19
      have HX : Hid ((-1 : Int) = v) := by
        have h1 := nx_none (l := l) (at_ := at_) (b := b) fun k h1 h2 => HN.out k h1 (by omega)
        have h2 := HV.out
        rw [h1] at h2
        exact h2
      go_wp2_with fail
      go_ret
      exact ⟨by have h := HX.out; subst h; rfl, rfl⟩

end Go.Proofs.YtgnillmhpockkaaGreatDoor
