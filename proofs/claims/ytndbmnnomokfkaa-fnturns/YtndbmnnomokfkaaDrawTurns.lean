/- What FnTurns draws: any two types. -/
import Derived.Test.YtndbmnnomokfkaaDrawType
namespace Go.Proofs.Ytndbmnnomokfkaa
open Go.RowKit

def odds : List ByteArray := [⟨#[]⟩, ⟨#[97]⟩, ⟨#[65]⟩, ⟨#[49, 97]⟩, ⟨#[97, 34, 98]⟩, ⟨#[99, 97, 102, 195, 169]⟩, ⟨#[115, 101, 108, 101, 99, 116]⟩, ⟨#[97, 97, 97, 97, 97, 97, 97, 97, 97, 97, 97, 97, 97, 97, 97, 97, 97, 97, 97, 97, 97, 97, 97, 97, 97, 97, 97, 97, 97, 97, 97, 97, 97, 97, 97, 97, 97, 97, 97, 97]⟩, ⟨#[97, 97, 97, 97, 97, 97, 97, 97, 97, 97, 97, 97, 97, 97, 97, 97, 97, 97, 97, 97, 97, 97, 97, 97, 97, 97, 97, 97, 97, 97, 97, 97, 97, 97, 97, 97, 97, 97, 97, 97, 97]⟩, ⟨#[97, 0]⟩, ⟨#[95]⟩, ⟨#[32]⟩]
theorem odds_small : ∀ s ∈ odds, s.size ≤ 50 := by unfold odds; decide

set_option maxRecDepth 100000 in
set_option maxHeartbeats 1000000 in
theorem l03Odd {w0 : World} {a : Option Addr} {c : Nat} {l : List UInt8} {g : Nat} {w : World} (hd : Deck w0 a c l g w) :
    Calls Try.prog 39 #[.pointer (some ⟨g, 0, none⟩)] w (Drawn w0 a c l g w (fun v => ∃ s, v = .string s)) := by
  have D0 := (DG.start hd).alloc (.cells (odds.map Value.string).toArray 9)
  go_enter Try.func39, Try.ntmps39
  go_wp2_with fail
  refine (pickLit hd odds 12 rfl (fun s hs' => by have := odds_small s hs'; unfold maxLen; omega) (by decide) (by decide) _ rfl).mono ?_
  rintro e w2 ⟨v, ⟨u, rfl, _⟩, rfl, hd2, hg2⟩
  have HD2 := Lib.hid (D0.next hd2 hg2)
  clear hd2 hg2 D0
  go_wp2_with fail
  go_ret
  exact ⟨_, ⟨_, rfl⟩, rfl, HD2.out.1, HD2.out.2⟩

set_option maxRecDepth 100000 in
set_option maxHeartbeats 4000000 in
theorem l03AnyType {w0 : World} {a : Option Addr} {c : Nat} {l : List UInt8} {g : Nat} {w : World} (hd : Deck w0 a c l g w) :
    Calls Try.prog 21 #[.pointer (some ⟨g, 0, none⟩)] w (Drawn w0 a c l g w IsTy) := by
  have hw0 : w0.heap.size ≤ w.heap.size := hd.below.size
  have hgl := hd.lt
  have hne : w.heap.size ≠ g := by omega
  go_enter Try.func21, Try.ntmps21
  go_wp2_with fail
  refine (l03Type (hd.alloc _)).mono ?_
  rintro e w1 ⟨v, ⟨k, n, s, rfl⟩, rfl, hd1, hg1⟩
  have hsz1 : w.heap.size < w1.heap.size := by have := hg1.size; simp at this; omega
  have D1 := (((DG.start hd).alloc (.cells #[.int .i64 0, .int .i64 0, .string ⟨#[]⟩] 25)).next hd1 hg1).alloc (.cells #[.int .i64 k, .int .i64 n, .string s] 25)
  have R1 := ((tyRow_new w 0 0 ⟨#[]⟩).kept hg1 hne).alloc (.cells #[.int .i64 k, .int .i64 n, .string s] 25)
  have T1 := tyRow_new w1 k n s
  have Hd1 := Lib.hid (hd1.alloc (.cells #[.int .i64 k, .int .i64 n, .string s] 25))
  have hne1 : w1.heap.size ≠ g := by have := hd1.lt; omega
  have hle1 : w.heap.size ≤ w1.heap.size := by omega
  have HD1 := Lib.hid D1
  have HR1 := Lib.hid R1
  have HT1 := Lib.hid T1
  clear hd1 hg1 D1 R1 T1
  go_wp2_with fail
  refine (l01Below Hd1.out 10 (by omega) (by omega)).mono ?_
  rintro e w2 ⟨v, ⟨x, rfl, hx0, hx1⟩, rfl, hd2, hg2⟩
  have HD2 := Lib.hid (HD1.out.next hd2 hg2)
  have HR2 := Lib.hid (HR1.out.kept hg2 hne)
  have HT2 := Lib.hid (HT1.out.kept hg2 hne1)
  have Hd2 := Lib.hid hd2
  clear hd2 hg2 Hd1 HD1 HR1 HT1
  generalize w1.heap.size = T at hne1 hle1 hsz1 HT2 ⊢
  have hTR : ¬ T = w.heap.size := by omega
  have hRT : ¬ w.heap.size = T := by omega
  by_cases e0 : x = 0
  · subst e0
    go_wp2_with fail
    refine (l01Below Hd2.out 7 (by omega) (by omega)).mono ?_
    rintro e w3 ⟨v, ⟨y, rfl, hy0, hy1⟩, rfl, hd3, hg3⟩
    have HD3 := Lib.hid (HD2.out.next hd3 hg3)
    obtain ⟨c0, c1, c2, cf⟩ := (HR2.out.kept hg3 hne).cells
    obtain ⟨t0, t1, t2, tf⟩ := (HT2.out.kept hg3 hne1).cells
    clear hd3 hg3
    go_wp2_with fail
    have D := (((HD3.out.set hw0 hle1 hne1 0 (.int .i64 (y - 1))).set hw0 (Nat.le_refl _) hne 0 (.int .i64 (y - 1))).set hw0 (Nat.le_refl _) hne 1 (.int .i64 n)).set hw0 (Nat.le_refl _) hne 2 (.string s)
    refine bodyPost_ret (v := .agg #[.int .i64 (y - 1), .int .i64 n, .string s]) (by simp [results, Try.results21, go_sem, *]) rfl ⟨_, ⟨_, _, _, rfl⟩, rfl, D.1, D.2⟩
  · have n0 : (x == 0) = false := by rw [beq_eq_false_iff_ne]; exact e0
    by_cases e1 : x = 1
    · subst e1
      clear n0
      go_wp2_with fail
      refine (l01PickIntP (Hd2.out.alloc _) (fun _ => True) w2.heap.size 4 _ (heap_alloc_new _ _) (by have := Hd2.out.lt; omega) rfl (by omega) (by omega) ?_).mono ?_
      · intro k v hv
        have hm := Array.mem_of_getElem? hv
        simp only [List.mem_toArray, List.mem_cons, List.not_mem_nil, or_false] at hm
        rcases hm with rfl | rfl | rfl | rfl <;> exact ⟨_, rfl, trivial⟩
      · rintro e w3 ⟨v, ⟨y, rfl, _⟩, rfl, hd3, hg3⟩
        have HD3 := Lib.hid ((HD2.out.alloc _).next hd3 hg3)
        obtain ⟨c0, c1, c2, cf⟩ := ((HR2.out.alloc _).kept hg3 hne).cells
        obtain ⟨t0, t1, t2, tf⟩ := ((HT2.out.alloc _).kept hg3 hne1).cells
        clear hd3 hg3
        go_wp2_with fail
        have D := (((HD3.out.set hw0 hle1 hne1 1 (.int .i64 y)).set hw0 (Nat.le_refl _) hne 0 (.int .i64 k)).set hw0 (Nat.le_refl _) hne 1 (.int .i64 y)).set hw0 (Nat.le_refl _) hne 2 (.string s)
        refine bodyPost_ret (v := .agg #[.int .i64 k, .int .i64 y, .string s]) (by simp [results, Try.results21, go_sem, *]) rfl ⟨_, ⟨_, _, _, rfl⟩, rfl, D.1, D.2⟩
    · have n1 : (x == 1) = false := by rw [beq_eq_false_iff_ne]; exact e1
      by_cases e2 : x = 2
      · subst e2
        clear n0 n1
        go_wp2_with fail
        refine (l03Odd Hd2.out).mono ?_
        rintro e w3 ⟨v, ⟨u, rfl⟩, rfl, hd3, hg3⟩
        have HD3 := Lib.hid (HD2.out.next hd3 hg3)
        obtain ⟨c0, c1, c2, cf⟩ := (HR2.out.kept hg3 hne).cells
        obtain ⟨t0, t1, t2, tf⟩ := (HT2.out.kept hg3 hne1).cells
        clear hd3 hg3
        go_wp2_with fail
        have D := (((HD3.out.set hw0 hle1 hne1 2 (.string u)).set hw0 (Nat.le_refl _) hne 0 (.int .i64 k)).set hw0 (Nat.le_refl _) hne 1 (.int .i64 n)).set hw0 (Nat.le_refl _) hne 2 (.string u)
        refine bodyPost_ret (v := .agg #[.int .i64 k, .int .i64 n, .string u]) (by simp [results, Try.results21, go_sem, *]) rfl ⟨_, ⟨_, _, _, rfl⟩, rfl, D.1, D.2⟩
      · have n2 : (x == 2) = false := by rw [beq_eq_false_iff_ne]; exact e2
        clear e0 e1 e2
        obtain ⟨c0, c1, c2, cf⟩ := HR2.out.cells
        obtain ⟨t0, t1, t2, tf⟩ := HT2.out.cells
        go_wp2_with fail
        have D := ((HD2.out.set hw0 (Nat.le_refl _) hne 0 (.int .i64 k)).set hw0 (Nat.le_refl _) hne 1 (.int .i64 n)).set hw0 (Nat.le_refl _) hne 2 (.string s)
        refine bodyPost_ret (v := .agg #[.int .i64 k, .int .i64 n, .string s]) (by simp [results, Try.results21, go_sem, *]) rfl ⟨_, ⟨_, _, _, rfl⟩, rfl, D.1, D.2⟩

end Go.Proofs.Ytndbmnnomokfkaa
