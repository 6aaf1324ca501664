/- The laws' own helpers over slices of words: the copy, the equality. -/
import Derived.Test.YtjnanlfahgjcbaaToks
import Derived.Deep.RegionHeld3
import Derived.Deep.DrawnRows
namespace Go.Proofs.Ytjnanlfahgjcbaa
open Go.RowKit

set_option maxHeartbeats 1000000 in
theorem toTok (k : Int) (t : ByteArray) (p : Int) (w : World) :
    Calls Try.prog 30 #[.agg #[.int .i64 k, .string t, .int .i64 p]] w fun e w' => e = .returned (.agg #[.int .i64 k, .string t, .int .i64 p]) ∧ Below w.heap.size w w' := by
  go_enter Try.func30, Try.ntmps30
  go_wp2
  refine bodyPost_ret (v := .agg #[.int .i64 k, .string t, .int .i64 p]) (by simp [results, Try.results30, go_sem]) rfl ⟨rfl, ?_⟩
  exact (((Below.refl _ _).alloc (Nat.le_refl _) _).alloc (by simp) _).alloc (by simp; omega) _

/-- The words copied so far, then empty ones. -/
def tfill (xs : List Tk) (k : Nat) : List Value := tcells (xs.take k ++ List.replicate (xs.length - k) ⟨0, ByteArray.empty, 0⟩)

theorem tcells_set (ys : List Tk) (k : Nat) (x : Tk) (h : k < ys.length) : (((tcells ys).set (k * 3) (.int .i64 x.kind)).set (k * 3 + 1) (.string x.text)).set (k * 3 + 2) (.int .i64 x.at_) = tcells (ys.set k x) := by
  induction ys generalizing k with
  | nil => simp at h
  | cons y r ih =>
    cases k with
    | zero => rfl
    | succ k =>
      have e : ∀ z s, tcells (z :: s) = .int .i64 z.kind :: .string z.text :: .int .i64 z.at_ :: tcells s := fun _ _ => rfl
      rw [List.set_cons_succ, e, e, show (k + 1) * 3 = k * 3 + 1 + 1 + 1 by omega]
      simp only [List.set_cons_succ]
      rw [← ih k (by simpa using h)]

theorem tfill_set (xs : List Tk) (k : Nat) (h : k < xs.length) : ((((tfill xs k).set (k * 3) (.int .i64 xs[k].kind)).set (k * 3 + 1) (.string xs[k].text)).set (k * 3 + 2) (.int .i64 xs[k].at_)) = tfill xs (k + 1) := by
  unfold tfill
  have hl : (xs.take k).length = k := by simp; omega
  rw [tcells_set _ k xs[k] (by simp; omega), List.set_append_right _ _ (by omega), hl, Nat.sub_self, show xs.length - k = (xs.length - (k + 1)) + 1 by omega, List.replicate_succ, List.set_cons_zero, List.take_succ_eq_append_getElem h, List.append_assoc]
  rfl

theorem tfill_at (xs : List Tk) (k : Nat) (h : k < xs.length) : (∃ n, (tfill xs k)[k * 3]? = some (.int .i64 n)) ∧ (∃ s, (tfill xs k)[k * 3 + 1]? = some (.string s)) ∧ ∃ n, (tfill xs k)[k * 3 + 2]? = some (.int .i64 n) := by
  unfold tfill
  obtain ⟨h0, h1, h2⟩ := tcells_at (xs.take k ++ List.replicate (xs.length - k) ⟨0, ByteArray.empty, 0⟩) k (by simp; omega)
  exact ⟨⟨_, h0⟩, ⟨_, h1⟩, ⟨_, h2⟩⟩

theorem tfill_all (xs : List Tk) : tfill xs xs.length = tcells xs := by simp [tfill]

theorem tcells_none (n : Nat) : tcells (List.replicate n ⟨0, ByteArray.empty, 0⟩) = (madeCells #[.int .i64 0, .string ByteArray.empty, .int .i64 0] (n * 3)).toList := by
  apply List.ext_getElem?
  intro j
  by_cases hj : j < n * 3
  · have hq : j / 3 < n := by omega
    have := tcells_at (List.replicate n ⟨0, ByteArray.empty, 0⟩) (j / 3) (by simpa using hq)
    simp only [List.getElem_replicate] at this
    have hm : j % 3 = 0 ∨ j % 3 = 1 ∨ j % 3 = 2 := by omega
    have hm3 : ∀ i, j / 3 * 3 + i < n * 3 → (madeCells #[Value.int .i64 0, .string ByteArray.empty, .int .i64 0] (n * 3)).toList[j / 3 * 3 + i]? = #[Value.int .i64 0, .string ByteArray.empty, .int .i64 0][i % 3]? := by
      intro i hi
      have e : (j / 3 * 3 + i) % 3 = i % 3 := by omega
      have h3 : i % 3 < [Value.int .i64 0, .string ByteArray.empty, .int .i64 0].length := by simp; omega
      simp [madeCells, hi, e]
      rw [List.getElem?_eq_getElem h3]
      rfl
    rcases hm with hm | hm | hm
    · have hj' : j / 3 * 3 + 0 = j := by omega
      rw [← hj', hm3 0 (by omega)]; exact this.1
    · have hj' : j / 3 * 3 + 1 = j := by omega
      rw [← hj', hm3 1 (by omega)]; exact this.2.1
    · have hj' : j / 3 * 3 + 2 = j := by omega
      rw [← hj', hm3 2 (by omega)]; exact this.2.2
  · rw [List.getElem?_eq_none (by rw [tcells_length]; simpa using hj), List.getElem?_eq_none (by simp [madeCells]; omega)]

set_option maxHeartbeats 1000000 in
theorem toToks (a : Option Addr) (c : Nat) (xs : List Tk) (w : World) (hx : Toks w a c xs) (hn : xs.length ≤ 1048576) :
    Calls Try.prog 16 #[.slice a xs.length c] w (NewToks w xs) := by
  obtain ⟨i0, hi0, hz0, hz1, hz2⟩ := info_parts Try.infoToken
  have hb16 : i0.bytes * xs.length ≤ 281474976710656 := by rw [hz2]; omega
  go_enter Try.func16, Try.ntmps16
  go_wp2_with (at_make; refine wpList_make_full _ rfl _ _ 35 rfl w.heap.size 59 i0 (.agg #[.int .i64 0, .string ByteArray.empty, .int .i64 0]) 3 Try.underlying35 hi0 hz0 hz1 .i64 .i64 _ _ xs.length rfl rfl rfl rfl hb16 (by unfold maxLen; omega) (Nat.le_refl _) ?_; intro w1 hown hg)
  have hown1 : w1.ownsRow w.heap.size 59 3 (.slice (some ⟨w.heap.size, 0, none⟩) xs.length xs.length) xs.length (tfill xs 0) := by
    unfold tfill
    rw [List.take_zero, List.nil_append, Nat.sub_zero, tcells_none]
    exact hown
  have hbel : Below w.heap.size w w1 := (Below.refl _ _).grown hg (Nat.le_refl _) (fun k hk => by cases hk)
  have hlt1 : w.heap.size < w1.heap.size := by
    rcases hown.2 with ⟨h, _⟩ | ⟨g, cap, cur, hv, _, hgg, _⟩
    · cases h
    · simp only [Value.slice.injEq, Option.some.injEq, Addr.mk.injEq] at hv
      rcases Nat.lt_or_ge w.heap.size w1.heap.size with h | h
      · exact h
      · rw [← hv.1.1, Array.getElem?_eq_none h] at hgg; cases hgg
  clear hown hg
  go_loopw [4] (fun i wr => ∃ k : Nat, k ≤ xs.length ∧ i = .int .i64 k ∧ wr.ownsRow w.heap.size 59 3 (.slice (some ⟨w.heap.size, 0, none⟩) xs.length xs.length) xs.length (tfill xs k) ∧ w.heap.size < wr.heap.size ∧ Below w.heap.size w wr) (fun i _ => xs.length - (intOf i).toNat)
  case atStart => exact ⟨0, Nat.zero_le _, rfl, hown1, hlt1, hbel⟩
  case round =>
    obtain ⟨k, hk, rfl, hown, hltr, hbw⟩ := hrel
    by_cases hlt : k < xs.length
    · obtain ⟨b, off, rfl, hbl, hc0, hc1, hc2⟩ := (hx.below hbw).spot hlt
      go_wp2_with fail
      refine (toTok xs[k].kind xs[k].text xs[k].at_ _).mono ?_
      rintro e w2 ⟨rfl, hb2⟩
      have hown2 : w2.ownsRow w.heap.size 59 3 (.slice (some ⟨w.heap.size, 0, none⟩) xs.length xs.length) xs.length (tfill xs k) := World.ownsRow.kept (row := none) hown ⟨hb2.os, hb2.tape, hb2.output, hb2.size, fun k hk _ => hb2.block k hk⟩ (.inr (fun e => by cases e))
      obtain ⟨⟨n0, hs0⟩, ⟨s1, hs1⟩, ⟨n2, hs2⟩⟩ := tfill_at xs k hlt
      have hd0 : w2.cell? ⟨w.heap.size, k * 3, none⟩ = some (.int .i64 n0) := (hown2.cellAt _ (by omega)).trans hs0
      have hd1 : w2.cell? ⟨w.heap.size, k * 3 + 1, none⟩ = some (.string s1) := (hown2.cellAt _ (by omega)).trans hs1
      have hd2 : w2.cell? ⟨w.heap.size, k * 3 + 2, none⟩ = some (.int .i64 n2) := (hown2.cellAt _ (by omega)).trans hs2
      have hf0 : w2.frozen? ⟨w.heap.size, k * 3, none⟩ = false := hown2.frozenAt _
      have hf1 : w2.frozen? ⟨w.heap.size, k * 3 + 1, none⟩ = false := hown2.frozenAt _
      have hf2 : w2.frozen? ⟨w.heap.size, k * 3 + 2, none⟩ = false := hown2.frozenAt _
      have R0 := hown2.stored (k * 3) (.int .i64 xs[k].kind)
      have R1 := R0.1.stored (k * 3 + 1) (.string xs[k].text)
      have R2 := R1.1.stored (k * 3 + 2) (.int .i64 xs[k].at_)
      rw [tfill_set xs k hlt] at R2
      have HR := Lib.hid R2.1
      have hbw2 : Below w.heap.size w w2 := hbw.trans (hb2.mono hbw.size)
      have RB := ((hbw2.setCell (p := ⟨w.heap.size, k * 3, none⟩) (Nat.le_refl _) (.int .i64 xs[k].kind)).setCell (p := ⟨w.heap.size, k * 3 + 1, none⟩) (Nat.le_refl _) (.string xs[k].text)).setCell (p := ⟨w.heap.size, k * 3 + 2, none⟩) (Nat.le_refl _) (.int .i64 xs[k].at_)
      have hlt2 : w.heap.size < w2.heap.size := Nat.lt_of_lt_of_le hltr hb2.size
      clear R0 R1 R2 hown hown2 hbel hown1 hs0 hs1 hs2 hc0 hc1 hc2 hbl
      go_wp2_with fail
      go_roundw
      case rel => exact ⟨k + 1, by omega, by go_num, HR.out, by simpa [World.setCell] using hlt2, RB⟩
      case measure => simp [intOf]; omega
    · obtain rfl : k = xs.length := by omega
      rw [tfill_all] at hown
      go_wp2_with fail
      go_ret
      exact ⟨_, _, rfl, hown, hbw⟩

set_option maxHeartbeats 400000 in
theorem eqTok (k : Int) (t : ByteArray) (p : Int) (w : World) :
    Calls Try.prog 32 #[.agg #[.int .i64 k, .string t, .int .i64 p], .agg #[.int .i64 k, .string t, .int .i64 p]] w fun e w' => e = .returned (.bool true) ∧ Below w.heap.size w w' := by
  have hk : (k != k) = false := by simp
  have hp : (p != p) = false := by simp
  have hs : (!(t.toList == t.toList)) = false := by simp
  go_enter Try.func32, Try.ntmps32
  go_wp2
  go_ret
  exact ⟨rfl, ((Below.refl _ _).alloc (Nat.le_refl _) _).alloc (by simp) _⟩

set_option maxHeartbeats 1000000 in
theorem eqToks (a a' : Option Addr) (c c' : Nat) (xs : List Tk) (w : World) (hx : Toks w a c xs) (hy : Toks w a' c' xs) :
    Calls Try.prog 18 #[.slice a xs.length c, .slice a' xs.length c'] w fun e w' => e = .returned (.bool true) ∧ Below w.heap.size w w' := by
  have hl := hx.len
  have hne : (((xs.length : Int)) != (xs.length : Int)) = false := by simp
  go_enter Try.func18, Try.ntmps18
  go_wp2
  go_loopw [5] (fun i wr => ∃ k : Nat, k ≤ xs.length ∧ i = .int .i64 k ∧ Below w.heap.size w wr) (fun i _ => xs.length - (intOf i).toNat)
  case atStart => exact ⟨0, Nat.zero_le _, rfl, Below.refl _ _⟩
  case round =>
    obtain ⟨k, hk, rfl, hbw⟩ := hrel
    by_cases hlt : k < xs.length
    · obtain ⟨b, off, rfl, hbl, hc0, hc1, hc2⟩ := (hx.below hbw).spot hlt
      obtain ⟨b', off', rfl, hbl', hd0, hd1, hd2⟩ := (hy.below hbw).spot hlt
      have h0k : (0 : Int) ≤ (k : Int) := by omega
      have hkl : (k : Int) < (xs.length : Int) := by omega
      go_wp2_with fail
      go_region_held3 (fun w' => w'.cell? ⟨b, off + k * 3, none⟩ = some (.int .i64 xs[k].kind) ∧ w'.cell? ⟨b, off + k * 3 + 1, none⟩ = some (.string xs[k].text) ∧ w'.cell? ⟨b, off + k * 3 + 2, none⟩ = some (.int .i64 xs[k].at_) ∧ w'.cell? ⟨b', off' + k * 3, none⟩ = some (.int .i64 xs[k].kind) ∧ w'.cell? ⟨b', off' + k * 3 + 1, none⟩ = some (.string xs[k].text) ∧ w'.cell? ⟨b', off' + k * 3 + 2, none⟩ = some (.int .i64 xs[k].at_)) (first | go_keep | exact ⟨(hcw _ _ hbl).trans hc0, (hcw _ _ hbl).trans hc1, (hcw _ _ hbl).trans hc2, (hcw _ _ hbl').trans hd0, (hcw _ _ hbl').trans hd1, (hcw _ _ hbl').trans hd2⟩)
        ((go_at_call 32; refine (eqTok xs[k].kind xs[k].text xs[k].at_ _).mono ?_; rintro e w2 ⟨rfl, hb2⟩; obtain ⟨hcw, _⟩ := bcell hb2))
      go_wp2_with fail
      go_roundw
      case rel => exact ⟨k + 1, by omega, by go_num, (below_drew hbw).trans (hb2.mono hbw.size)⟩
      case measure => simp [intOf]; omega
    · go_wp2
      go_ret
      exact ⟨rfl, hbw⟩

end Go.Proofs.Ytjnanlfahgjcbaa
