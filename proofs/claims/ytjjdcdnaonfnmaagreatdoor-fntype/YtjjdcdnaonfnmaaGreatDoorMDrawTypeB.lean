/- What is drawn of types, with bounds; what FnType draws. -/
/- What Lex answers, by cases. -/
import Derived.Test.YtjjdcdnaonfnmaaGreatDoorMTypeTextI
import Derived.Test.YtjjdcdnaonfnmaaGreatDoorMExprR
namespace Go.Proofs.YtjjdcdnaonfnmaaGreatDoor
open Go.RowKit

def TyB (k l : Int) (s : ByteArray) : Prop := (-10 ≤ k ∧ k ≤ 10) ∧ (-1000 ≤ l ∧ l ≤ 1000) ∧ s.size ≤ 60
def IsTyB (v : Value) : Prop := ∃ (k l : Int) (s : ByteArray), v = .agg #[.int .i64 k, .int .i64 l, .string s] ∧ TyB k l s
theorem tyB {k l : Int} {s : ByteArray} (h1 : -10 ≤ k ∧ k ≤ 10) (h2 : -1000 ≤ l ∧ l ≤ 1000) (h3 : s.size ≤ 60) : TyB k l s := ⟨h1, h2, h3⟩

set_option maxRecDepth 100000 in
set_option maxHeartbeats 1000000 in
theorem l03OddB {w0 : World} {a : Option Addr} {c : Nat} {l : List UInt8} {g : Nat} {w : World} (hd : Deck w0 a c l g w) :
    Calls Tryz.prog 31 #[.pointer (some ⟨g, 0, none⟩)] w (Drawn w0 a c l g w (fun v => ∃ s, v = .string s ∧ s.size ≤ 60)) := by
  have D0 := (DG.start hd).alloc (.cells (odds.map Value.string).toArray 9)
  go_enter Tryz.func31, Tryz.ntmps31
  go_wp2_with fail
  refine (pickLit hd odds 12 rfl (fun s hs' => by have := odds_small s hs'; unfold maxLen; omega) (by decide) (by decide) _ rfl).mono ?_
  rintro e w2 ⟨v, ⟨u, rfl, hu⟩, rfl, hd2, hg2⟩
  have HD2 := Lib.hid (D0.next hd2 hg2)
  clear hd2 hg2 D0
  go_wp2_with fail
  go_ret
  exact ⟨_, ⟨_, rfl, by have := odds_small _ hu; omega⟩, rfl, HD2.out.1, HD2.out.2⟩

set_option maxRecDepth 100000 in
set_option maxHeartbeats 4000000 in
theorem l03TypeB {w0 : World} {a : Option Addr} {c : Nat} {l : List UInt8} {g : Nat} {w : World} (hd : Deck w0 a c l g w) :
    Calls Tryz.prog 28 #[.pointer (some ⟨g, 0, none⟩)] w (Drawn w0 a c l g w IsTyB) := by
  have hw0 : w0.heap.size ≤ w.heap.size := hd.below.size
  have hgl := hd.lt
  have hne : w.heap.size ≠ g := by omega
  go_enter Tryz.func28, Tryz.ntmps28
  go_wp2_with fail
  refine (l01Below (hd.alloc _) 6 (by omega) (by omega)).mono ?_
  rintro e w1 ⟨v, ⟨x, rfl, hx0, hx1⟩, rfl, hd1, hg1⟩
  have D1 := (DG.start hd).alloc (.cells #[.int .i64 0, .int .i64 0, .string ⟨#[]⟩] 25) |>.next hd1 hg1
  have R1 : TyRow w1 w.heap.size 0 0 ⟨#[]⟩ := (tyRow_new w 0 0 ⟨#[]⟩).kept hg1 hne
  have HD1 := Lib.hid D1
  have HR1 := Lib.hid R1
  have Hd1 := Lib.hid hd1
  clear hd1 hg1 D1 R1
  by_cases e0 : x = 0
  · subst e0
    go_wp2_with fail
    refine (l01PickIntP (Hd1.out.alloc _) (fun y => -1000 ≤ y ∧ y ≤ 1000) w1.heap.size 3 _ (heap_alloc_new _ _) (by have := Hd1.out.lt; omega) rfl (by omega) (by omega) ?_).mono ?_
    · intro k v hv
      have hm := Array.mem_of_getElem? hv
      simp only [List.mem_toArray, List.mem_cons, List.not_mem_nil, or_false] at hm
      rcases hm with rfl | rfl | rfl <;> exact ⟨_, rfl, by decide⟩
    · rintro e w2 ⟨v, ⟨y, rfl, hyb⟩, rfl, hd2, hg2⟩
      have HD2 := Lib.hid ((HD1.out.alloc _).next hd2 hg2)
      obtain ⟨c0, c1, c2, cf⟩ := ((HR1.out.alloc _).kept hg2 hne).cells
      clear hd2 hg2
      go_wp2_with fail
      have D := ((HD2.out.set hw0 (Nat.le_refl _) hne 0 (.int .i64 3)).set hw0 (Nat.le_refl _) hne 1 (.int .i64 y)).set hw0 (Nat.le_refl _) hne 2 (.string ⟨#[]⟩)
      refine bodyPost_ret (v := .agg #[.int .i64 3, .int .i64 y, .string ⟨#[]⟩]) (by simp [results, Tryz.results28, go_sem, *]) rfl ⟨_, ⟨_, _, _, rfl, tyB (by omega) hyb (by decide)⟩, rfl, D.1, D.2⟩
  · have n0 : (x == 0) = false := by rw [beq_eq_false_iff_ne]; exact e0
    by_cases e1 : x = 1
    · subst e1
      clear n0
      go_wp2_with fail
      refine (pickLit Hd1.out moods 2 rfl (fun s hs' => by have := moods_small s hs'; unfold maxLen; omega) (by decide) (by decide) _ rfl).mono ?_
      rintro e w2 ⟨v, ⟨u, rfl, hub⟩, rfl, hd2, hg2⟩
      have HD2 := Lib.hid ((HD1.out.alloc _).next hd2 hg2)
      obtain ⟨c0, c1, c2, cf⟩ := ((HR1.out.alloc _).kept hg2 hne).cells
      clear hd2 hg2
      go_wp2_with fail
      have D := ((HD2.out.set hw0 (Nat.le_refl _) hne 0 (.int .i64 4)).set hw0 (Nat.le_refl _) hne 1 (.int .i64 0)).set hw0 (Nat.le_refl _) hne 2 (.string u)
      refine bodyPost_ret (v := .agg #[.int .i64 4, .int .i64 0, .string u]) (by simp [results, Tryz.results28, go_sem, *]) rfl ⟨_, ⟨_, _, _, rfl, tyB (by omega) (by omega) (by have := moods_small u hub; omega)⟩, rfl, D.1, D.2⟩
    · have n1 : (x == 1) = false := by rw [beq_eq_false_iff_ne]; exact e1
      by_cases e2 : x = 2
      · subst e2
        clear n0 n1
        obtain ⟨c0, c1, c2, cf⟩ := HR1.out.cells
        go_wp2_with fail
        have D := ((HD1.out.set hw0 (Nat.le_refl _) hne 0 (.int .i64 2)).set hw0 (Nat.le_refl _) hne 1 (.int .i64 0)).set hw0 (Nat.le_refl _) hne 2 (.string ⟨#[]⟩)
        refine bodyPost_ret (v := .agg #[.int .i64 2, .int .i64 0, .string ⟨#[]⟩]) (by simp [results, Tryz.results28, go_sem, *]) rfl ⟨_, ⟨_, _, _, rfl, tyB (by omega) (by omega) (by decide)⟩, rfl, D.1, D.2⟩
      · have n2 : (x == 2) = false := by rw [beq_eq_false_iff_ne]; exact e2
        by_cases e3 : x = 3
        · subst e3
          clear n0 n1 n2
          obtain ⟨c0, c1, c2, cf⟩ := HR1.out.cells
          go_wp2_with fail
          have D := ((HD1.out.set hw0 (Nat.le_refl _) hne 0 (.int .i64 1)).set hw0 (Nat.le_refl _) hne 1 (.int .i64 0)).set hw0 (Nat.le_refl _) hne 2 (.string ⟨#[]⟩)
          refine bodyPost_ret (v := .agg #[.int .i64 1, .int .i64 0, .string ⟨#[]⟩]) (by simp [results, Tryz.results28, go_sem, *]) rfl ⟨_, ⟨_, _, _, rfl, tyB (by omega) (by omega) (by decide)⟩, rfl, D.1, D.2⟩
        · have n3 : (x == 3) = false := by rw [beq_eq_false_iff_ne]; exact e3
          clear e0 e1 e2 e3
          obtain ⟨c0, c1, c2, cf⟩ := HR1.out.cells
          go_wp2_with fail
          have D := ((HD1.out.set hw0 (Nat.le_refl _) hne 0 (.int .i64 0)).set hw0 (Nat.le_refl _) hne 1 (.int .i64 0)).set hw0 (Nat.le_refl _) hne 2 (.string ⟨#[]⟩)
          refine bodyPost_ret (v := .agg #[.int .i64 0, .int .i64 0, .string ⟨#[]⟩]) (by simp [results, Tryz.results28, go_sem, *]) rfl ⟨_, ⟨_, _, _, rfl, tyB (by omega) (by omega) (by decide)⟩, rfl, D.1, D.2⟩

set_option maxRecDepth 100000 in
set_option maxHeartbeats 4000000 in
theorem l03AnyTypeB {w0 : World} {a : Option Addr} {c : Nat} {l : List UInt8} {g : Nat} {w : World} (hd : Deck w0 a c l g w) :
    Calls Tryz.prog 13 #[.pointer (some ⟨g, 0, none⟩)] w (Drawn w0 a c l g w IsTyB) := by
  have hw0 : w0.heap.size ≤ w.heap.size := hd.below.size
  have hgl := hd.lt
  have hne : w.heap.size ≠ g := by omega
  go_enter Tryz.func13, Tryz.ntmps13
  go_wp2_with fail
  refine (l03TypeB (hd.alloc _)).mono ?_
  rintro e w1 ⟨v, ⟨k, n, s, rfl, hkb⟩, rfl, hd1, hg1⟩
  have hsz1 : w.heap.size < w1.heap.size := by have := hg1.size; simp at this; omega
  have D1 := (((DG.start hd).alloc (.cells #[.int .i64 0, .int .i64 0, .string ⟨#[]⟩] 25)).next hd1 hg1).alloc (.cells #[.int .i64 k, .int .i64 n, .string s] 25)
  have R1 := ((tyRow_new w 0 0 ⟨#[]⟩).kept hg1 hne).alloc (.cells #[.int .i64 k, .int .i64 n, .string s] 25)
  have T1 := tyRow_new w1 k n s
  have Hd1 := Lib.hid (hd1.alloc (.cells #[.int .i64 k, .int .i64 n, .string s] 25))
  have hne1 : w1.heap.size ≠ g := by have := hd1.lt; omega
  have hle1 : w.heap.size ≤ w1.heap.size := by omega
  have HD1 := Lib.hid D1
  have HR1 := Lib.hid R1
  have HT1 := Lib.hid T1
  clear hd1 hg1 D1 R1 T1
  go_wp2_with fail
  refine (l01Below Hd1.out 10 (by omega) (by omega)).mono ?_
  rintro e w2 ⟨v, ⟨x, rfl, hx0, hx1⟩, rfl, hd2, hg2⟩
  have HD2 := Lib.hid (HD1.out.next hd2 hg2)
  have HR2 := Lib.hid (HR1.out.kept hg2 hne)
  have HT2 := Lib.hid (HT1.out.kept hg2 hne1)
  have Hd2 := Lib.hid hd2
  clear hd2 hg2 Hd1 HD1 HR1 HT1
  generalize w1.heap.size = T at hne1 hle1 hsz1 HT2 ⊢
  have hTR : ¬ T = w.heap.size := by omega
  have hRT : ¬ w.heap.size = T := by omega
  by_cases e0 : x = 0
  · subst e0
    go_wp2_with fail
    refine (l01Below Hd2.out 7 (by omega) (by omega)).mono ?_
    rintro e w3 ⟨v, ⟨y, rfl, hy0, hy1⟩, rfl, hd3, hg3⟩
    have HD3 := Lib.hid (HD2.out.next hd3 hg3)
    obtain ⟨c0, c1, c2, cf⟩ := (HR2.out.kept hg3 hne).cells
    obtain ⟨t0, t1, t2, tf⟩ := (HT2.out.kept hg3 hne1).cells
    clear hd3 hg3
    go_wp2_with fail
    have D := (((HD3.out.set hw0 hle1 hne1 0 (.int .i64 (y - 1))).set hw0 (Nat.le_refl _) hne 0 (.int .i64 (y - 1))).set hw0 (Nat.le_refl _) hne 1 (.int .i64 n)).set hw0 (Nat.le_refl _) hne 2 (.string s)
    refine bodyPost_ret (v := .agg #[.int .i64 (y - 1), .int .i64 n, .string s]) (by simp [results, Tryz.results13, go_sem, *]) rfl ⟨_, ⟨_, _, _, rfl, tyB (by omega) hkb.2.1 hkb.2.2⟩, rfl, D.1, D.2⟩
  · have n0 : (x == 0) = false := by rw [beq_eq_false_iff_ne]; exact e0
    by_cases e1 : x = 1
    · subst e1
      clear n0
      go_wp2_with fail
      refine (l01PickIntP (Hd2.out.alloc _) (fun y => -1000 ≤ y ∧ y ≤ 1000) w2.heap.size 4 _ (heap_alloc_new _ _) (by have := Hd2.out.lt; omega) rfl (by omega) (by omega) ?_).mono ?_
      · intro k v hv
        have hm := Array.mem_of_getElem? hv
        simp only [List.mem_toArray, List.mem_cons, List.not_mem_nil, or_false] at hm
        rcases hm with rfl | rfl | rfl | rfl <;> exact ⟨_, rfl, by decide⟩
      · rintro e w3 ⟨v, ⟨y, rfl, hyb⟩, rfl, hd3, hg3⟩
        have HD3 := Lib.hid ((HD2.out.alloc _).next hd3 hg3)
        obtain ⟨c0, c1, c2, cf⟩ := ((HR2.out.alloc _).kept hg3 hne).cells
        obtain ⟨t0, t1, t2, tf⟩ := ((HT2.out.alloc _).kept hg3 hne1).cells
        clear hd3 hg3
        go_wp2_with fail
        have D := (((HD3.out.set hw0 hle1 hne1 1 (.int .i64 y)).set hw0 (Nat.le_refl _) hne 0 (.int .i64 k)).set hw0 (Nat.le_refl _) hne 1 (.int .i64 y)).set hw0 (Nat.le_refl _) hne 2 (.string s)
        refine bodyPost_ret (v := .agg #[.int .i64 k, .int .i64 y, .string s]) (by simp [results, Tryz.results13, go_sem, *]) rfl ⟨_, ⟨_, _, _, rfl, tyB hkb.1 hyb hkb.2.2⟩, rfl, D.1, D.2⟩
    · have n1 : (x == 1) = false := by rw [beq_eq_false_iff_ne]; exact e1
      by_cases e2 : x = 2
      · subst e2
        clear n0 n1
        go_wp2_with fail
        refine (l03OddB Hd2.out).mono ?_
        rintro e w3 ⟨v, ⟨u, rfl, hub⟩, rfl, hd3, hg3⟩
        have HD3 := Lib.hid (HD2.out.next hd3 hg3)
        obtain ⟨c0, c1, c2, cf⟩ := (HR2.out.kept hg3 hne).cells
        obtain ⟨t0, t1, t2, tf⟩ := (HT2.out.kept hg3 hne1).cells
        clear hd3 hg3
        go_wp2_with fail
        have D := (((HD3.out.set hw0 hle1 hne1 2 (.string u)).set hw0 (Nat.le_refl _) hne 0 (.int .i64 k)).set hw0 (Nat.le_refl _) hne 1 (.int .i64 n)).set hw0 (Nat.le_refl _) hne 2 (.string u)
        refine bodyPost_ret (v := .agg #[.int .i64 k, .int .i64 n, .string u]) (by simp [results, Tryz.results13, go_sem, *]) rfl ⟨_, ⟨_, _, _, rfl, tyB hkb.1 hkb.2.1 hub⟩, rfl, D.1, D.2⟩
      · have n2 : (x == 2) = false := by rw [beq_eq_false_iff_ne]; exact e2
        clear e0 e1 e2
        obtain ⟨c0, c1, c2, cf⟩ := HR2.out.cells
        obtain ⟨t0, t1, t2, tf⟩ := HT2.out.cells
        go_wp2_with fail
        have D := ((HD2.out.set hw0 (Nat.le_refl _) hne 0 (.int .i64 k)).set hw0 (Nat.le_refl _) hne 1 (.int .i64 n)).set hw0 (Nat.le_refl _) hne 2 (.string s)
        refine bodyPost_ret (v := .agg #[.int .i64 k, .int .i64 n, .string s]) (by simp [results, Tryz.results13, go_sem, *]) rfl ⟨_, ⟨_, _, _, rfl, hkb⟩, rfl, D.1, D.2⟩

set_option maxRecDepth 100000 in
set_option maxHeartbeats 1000000 in
theorem specDrawTypeText (a : Option Addr) (c : Nat) (l : List UInt8) (w : World) (hb : Bytes w a c l) (hs : l.length ≤ 1048576) :
    Calls Tryz.prog 5 #[.slice a l.length c] w fun e w' => ∃ (k n : Int) (s : ByteArray), e = .returned (.agg #[.int .i64 k, .int .i64 n, .string s]) ∧ TyB k n s ∧ Below w.heap.size w w' := by
  have bW : Below w.heap.size w (w.alloc (.cells #[.int .i64 0, .int .i64 0, .string ⟨#[]⟩] 25)) := (Below.refl _ _).alloc (Nat.le_refl _) _
  have HbW := Lib.hid (hb.below bW)
  have HR0 := Lib.hid (tyRow_new w 0 0 ⟨#[]⟩)
  have hz : (w.alloc (.cells #[.int .i64 0, .int .i64 0, .string ⟨#[]⟩] 25)).heap.size = w.heap.size + 1 := by simp
  have HZ := Lib.hid hz
  have HB := Lib.hid bW
  clear bW hz
  go_enter Tryz.func5, Tryz.ntmps5
  go_wp2_with fail
  generalize w.alloc (.cells #[.int .i64 0, .int .i64 0, .string ⟨#[]⟩] 25) = W at HbW HR0 HB HZ ⊢
  refine (l01New a c l _ HbW.out hs).mono ?_
  rintro e w1 ⟨rfl, hd1', hb1, hz1⟩
  have hd1 := hd1'.rebase hb HB.out
  have hg1 : W.heap.size = w.heap.size + 1 := HZ.out
  have HA0 := Lib.hid ((hb1.block _ HR0.out.lt).trans HR0.out)
  rw [hg1] at hd1 ⊢
  clear hz1 hb1 hd1'
  go_wp2_with fail
  refine (l03AnyTypeB hd1).mono ?_
  rintro e w2 ⟨v, ⟨k, n, s, rfl, hkb⟩, rfl, hd2, hg2⟩
  have H2 := Lib.hid (TyRow.kept HA0.out hg2 (by omega))
  have hb2 := Lib.hid hd2.below
  obtain ⟨c0, c1, c2, cf⟩ := H2.out.cells
  clear hd2 hg2 hd1 HA0
  go_wp2_with fail
  refine bodyPost_ret (v := .agg #[.int .i64 k, .int .i64 n, .string s]) (by simp [results, Tryz.results5, go_sem, *]) rfl ⟨k, n, s, rfl, hkb, ?_⟩
  exact below_store3 hb2.out (Nat.le_refl _) hb2.out.size

end Go.Proofs.YtjjdcdnaonfnmaaGreatDoor

namespace Go.Proofs.YtjjdcdnaonfnmaaGreatDoor
open Go.RowKit

theorem lexErr {s : ByteArray} {p : Nat} (h : lexB s.data.toList = .error p) {w w' : World} {e : Ending} (ha : LexAns s w e w') :
    ∃ a c, e = .returned (.tuple #[.slice a 0 c, .int .i64 (p : Int)]) ∧ OwnT w' w.heap.size a c [] ∧ Below w.heap.size w w' := by
  obtain ⟨a, c, rfl, ho, hb⟩ := ha
  have ht : toks s = [] := by unfold toks; rw [h]; rfl
  rw [ht] at ho
  refine ⟨a, c, ?_, ho, hb⟩
  rw [ht, h]
  rfl

theorem lexOk {s : ByteArray} {ts : List Tok} (h : lexB s.data.toList = .ok ts) {xs : List Tk} (hx : xs = ts.map tkOf) {w w' : World} {e : Ending} (ha : LexAns s w e w') :
    ∃ a c, e = .returned (.tuple #[.slice a xs.length c, .int .i64 (-1)]) ∧ OwnT w' w.heap.size a c xs ∧ Below w.heap.size w w' := by
  obtain ⟨a, c, rfl, ho, hb⟩ := ha
  have ht : toks s = xs := by unfold toks; rw [h, hx]; rfl
  rw [ht] at ho
  refine ⟨a, c, ?_, ho, hb⟩
  rw [ht, h]
  rfl

end Go.Proofs.YtjjdcdnaonfnmaaGreatDoor
