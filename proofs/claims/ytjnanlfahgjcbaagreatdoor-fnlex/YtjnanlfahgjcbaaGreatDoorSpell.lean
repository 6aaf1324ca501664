/- spec.Spell and impl.Spell both answer the spelt words with blanks between them. -/
import Derived.Test.YtjnanlfahgjcbaaGreatDoorTokSz
import Derived.Test.YtjnanlfahgjcbaaGreatDoorAppend
import Derived.Test.YtjnanlfahgjcbaaGreatDoorJoin
import Derived.Test.YtjnanlfahgjcbaaGreatDoorQuoteImpl
namespace Go.Proofs.YtjnanlfahgjcbaaGreatDoor
open Go.RowKit

def sword (x : Tk) : Option ByteArray :=
  if x.kind = 0 ∨ x.kind = 2 ∨ x.kind = 4 then some x.text else if x.kind = 1 then some (quoteT x.text 34) else if x.kind = 3 then some (quoteT x.text 39) else none
def swords (xs : List Tk) : List ByteArray := xs.filterMap sword
def blankT : ByteArray := ⟨#[32]⟩
def spellT (xs : List Tk) : ByteArray := joinT (swords xs) blankT

theorem swords_some (xs : List Tk) (k : Nat) (h : k < xs.length) {t : ByteArray} (e : sword xs[k] = some t) : swords (xs.take (k + 1)) = swords (xs.take k) ++ [t] := by
  unfold swords
  rw [List.take_succ_eq_append_getElem h, List.filterMap_append]
  simp [e]
theorem swords_none (xs : List Tk) (k : Nat) (h : k < xs.length) (e : sword xs[k] = none) : swords (xs.take (k + 1)) = swords (xs.take k) := by
  unfold swords
  rw [List.take_succ_eq_append_getElem h, List.filterMap_append]
  simp [e]

theorem quoteT_size (s : ByteArray) (q : UInt8) : (quoteT s q).size ≤ 2 * s.size + 2 := by
  have h := dbl_len q s.data.toList
  have e : (quoteT s q).size = (quoteL q s.data.toList).length := by simp [quoteT, ByteArray.size]
  have e2 : (quoteL q s.data.toList).length = (dbl q s.data.toList).length + 2 := by simp [quoteL, dbl]
  have e3 : s.data.toList.length = s.size := by simp
  omega

theorem sword_size {x : Tk} {t : ByteArray} (h : sword x = some t) : t.size ≤ 2 * x.text.size + 2 := by
  unfold sword at h
  have h1 := quoteT_size x.text 34
  have h2 := quoteT_size x.text 39
  split at h
  · cases h; omega
  · split at h
    · cases h; omega
    · split at h
      · cases h; omega
      · cases h

theorem swords_len (xs : List Tk) (k : Nat) : (swords (xs.take k)).length ≤ k := by
  unfold swords
  exact Nat.le_trans (List.length_filterMap_le _ _) (List.length_take_le _ _)

theorem lets_append (xs ys : List ByteArray) : lets (xs ++ ys) = lets xs + lets ys := by simp [lets]

theorem swords_lets (xs : List Tk) : ∀ k, k ≤ xs.length → lets (swords (xs.take k)) ≤ 2 * tlets (xs.take k) + 2 * k
  | 0, _ => by simp [swords, lets]
  | k + 1, h => by
    have ih := swords_lets xs k (by omega)
    rw [tlets_take xs k (by omega)]
    cases e : sword xs[k] with
    | none => rw [swords_none xs k (by omega) e]; omega
    | some t =>
      have := sword_size e
      rw [swords_some xs k (by omega) e, lets_append]
      have e1 : lets [t] = t.size := by simp [lets]
      omega

theorem swords_fit (xs : List Tk) (h : xs.length + tlets xs ≤ 1048576) : ∀ s ∈ swords xs, s.size ≤ maxLen := by
  intro s hs
  have h1 := swords_lets xs xs.length (Nat.le_refl _)
  rw [List.take_length] at h1
  have h2 := lets_mem hs
  unfold maxLen
  omega

theorem fitTake (xs : List Tk) (h : xs.length + tlets xs ≤ 1048576) (k : Nat) : ∀ s ∈ swords (xs.take k), s.size ≤ maxLen := by
  refine swords_fit _ ?_
  have h1 := tlets_le xs k
  have h2 : (xs.take k).length ≤ xs.length := by rw [List.length_take]; omega
  omega

/-- The kinds of a word, as the tests see them. -/
theorem kindCases (n : Int) :
    ((n == 0) = true ∧ n = 0) ∨ ((n == 0) = false ∧ (n == 2) = true ∧ n = 2) ∨ ((n == 0) = false ∧ (n == 2) = false ∧ (n == 4) = true ∧ n = 4) ∨
    ((n == 0) = false ∧ (n == 2) = false ∧ (n == 4) = false ∧ (n == 1) = true ∧ n = 1) ∨ ((n == 0) = false ∧ (n == 2) = false ∧ (n == 4) = false ∧ (n == 1) = false ∧ (n == 3) = true ∧ n = 3) ∨
    ((n == 0) = false ∧ (n == 2) = false ∧ (n == 4) = false ∧ (n == 1) = false ∧ (n == 3) = false) := by
  by_cases h0 : n = 0
  · left; subst h0; simp
  by_cases h2 : n = 2
  · right; left; subst h2; simp
  by_cases h4 : n = 4
  · right; right; left; subst h4; simp
  by_cases h1 : n = 1
  · right; right; right; left; subst h1; simp
  by_cases h3 : n = 3
  · right; right; right; right; left; subst h3; simp
  · right; right; right; right; right; simp [h0, h1, h2, h3, h4]

theorem size_alloc (w : World) (o : Obj) : (w.alloc o).heap.size = w.heap.size + 1 := by simp

theorem joinFits (xs : List Tk) (h : xs.length + tlets xs ≤ 1048576) : lets (swords xs) + (swords xs).length * blankT.size ≤ 70368744177664 := by
  have h1 := swords_lets xs xs.length (Nat.le_refl _)
  have h2 := swords_len xs xs.length
  rw [List.take_length] at h1 h2
  have e : blankT.size = 1 := rfl
  rw [e]
  omega

set_option maxHeartbeats 4000000 in
theorem implSpell (a : Option Addr) (c : Nat) (xs : List Tk) (w : World) (hx : Toks w a c xs) (hbd : xs.length + tlets xs ≤ 1048576) :
    Calls Tryz.prog 9 #[.slice a xs.length c] w fun e w' => e = .returned (.string (spellT xs)) ∧ Below w.heap.size w w' := by
  obtain ⟨i0, hi0, hz0, hz1, hz2⟩ := info_parts Tryz.infoString
  have hl := hx.len
  go_enter Tryz.func9, Tryz.ntmps9
  go_wp2_with fail
  go_loopw [3, 8] (fun v i wr => ∃ (k : Nat) (a1 : Option Addr) (c1 : Nat) (ys : List ByteArray), k ≤ xs.length ∧ i = .int .i64 k ∧ Hid (ys = swords (xs.take k)) ∧ v = .slice a1 ys.length c1 ∧ Own wr w.heap.size a1 c1 ys ∧ Below w.heap.size w wr) (fun _ i _ => xs.length - (intOf i).toNat)
  case atStart => exact ⟨0, _, _, [], Nat.zero_le _, rfl, rfl, rfl, Own.nil _ _, Below.refl _ _⟩
  case round =>
    obtain ⟨k, a1, c1, ys, hk, rfl, hys, rfl, hown, hb⟩ := hrel
    have hsz := hb.size
    have hyl : ys.length ≤ 1048576 := by have := swords_len xs k; rw [hys.out]; omega
    by_cases hlt : k < xs.length
    · obtain ⟨b, off, rfl, hbl, hc0, hc1, hc2⟩ := (hx.below hb).spot hlt
      have hts : xs[k].text.size ≤ 1048576 := by have := tlets_mem (List.getElem_mem hlt); omega
      have hQ3 := quoteT_size xs[k].text 34
      have hQ4 := quoteT_size xs[k].text 39
      have HX := Lib.hid hx
      clear hx
      rcases kindCases xs[k].kind with ⟨t0, hkk⟩ | ⟨t0, t2, hkk⟩ | ⟨t0, t2, t4, hkk⟩ | ⟨t0, t2, t4, t1, hkk⟩ | ⟨t0, t2, t4, t1, t3, hkk⟩ | ⟨t0, t2, t4, t1, t3⟩
      · have HS := Lib.hid (swords_some xs k hlt (t := xs[k].text) (by unfold sword; rw [if_pos (by omega)]))
        clear hkk
        go_wp2_with (at_builtin; refine wpAppendStrs rfl (.tmp 18) (.tmp 21) rfl i0 hi0 hz0 hz1 hz2 w.heap.size a1 c1 ys _ 1 [xs[k].text] rfl ((hown.alloc _).alloc _) rfl (by have h := strsOne (wr.alloc (.cells #[.int .i64 xs[k].kind, .string xs[k].text, .int .i64 xs[k].at_] 46)) xs[k].text (by unfold maxLen; omega); rw [size_alloc] at h; exact h) (by simp; omega) (by simp; omega) ?_; intro a2 c2 w2 hown2 hg2)
        have hb2 : Below w.heap.size w w2 := appended (hb.alloc hsz _) (Nat.le_refl _) (hown.alloc _) hg2
        go_roundw
        case rel => exact ⟨k + 1, a2, c2, ys ++ [xs[k].text], by omega, by go_num, by unfold Hid; rw [hys.out, HS.out], by simp, hown2, hb2⟩
        case measure => simp [intOf]; omega
      · have HS := Lib.hid (swords_some xs k hlt (t := xs[k].text) (by unfold sword; rw [if_pos (by omega)]))
        clear hkk
        go_wp2_with (at_builtin; refine wpAppendStrs rfl (.tmp 18) (.tmp 21) rfl i0 hi0 hz0 hz1 hz2 w.heap.size a1 c1 ys _ 1 [xs[k].text] rfl ((hown.alloc _).alloc _) rfl (by have h := strsOne (wr.alloc (.cells #[.int .i64 xs[k].kind, .string xs[k].text, .int .i64 xs[k].at_] 46)) xs[k].text (by unfold maxLen; omega); rw [size_alloc] at h; exact h) (by simp; omega) (by simp; omega) ?_; intro a2 c2 w2 hown2 hg2)
        have hb2 : Below w.heap.size w w2 := appended (hb.alloc hsz _) (Nat.le_refl _) (hown.alloc _) hg2
        go_roundw
        case rel => exact ⟨k + 1, a2, c2, ys ++ [xs[k].text], by omega, by go_num, by unfold Hid; rw [hys.out, HS.out], by simp, hown2, hb2⟩
        case measure => simp [intOf]; omega
      · have HS := Lib.hid (swords_some xs k hlt (t := xs[k].text) (by unfold sword; rw [if_pos (by omega)]))
        clear hkk
        go_wp2_with (at_builtin; refine wpAppendStrs rfl (.tmp 18) (.tmp 21) rfl i0 hi0 hz0 hz1 hz2 w.heap.size a1 c1 ys _ 1 [xs[k].text] rfl ((hown.alloc _).alloc _) rfl (by have h := strsOne (wr.alloc (.cells #[.int .i64 xs[k].kind, .string xs[k].text, .int .i64 xs[k].at_] 46)) xs[k].text (by unfold maxLen; omega); rw [size_alloc] at h; exact h) (by simp; omega) (by simp; omega) ?_; intro a2 c2 w2 hown2 hg2)
        have hb2 : Below w.heap.size w w2 := appended (hb.alloc hsz _) (Nat.le_refl _) (hown.alloc _) hg2
        go_roundw
        case rel => exact ⟨k + 1, a2, c2, ys ++ [xs[k].text], by omega, by go_num, by unfold Hid; rw [hys.out, HS.out], by simp, hown2, hb2⟩
        case measure => simp [intOf]; omega
      · have HS := Lib.hid (swords_some xs k hlt (t := quoteT xs[k].text 34) (by unfold sword; rw [if_neg (by omega), if_pos hkk]))
        clear hkk
        go_wp2_with fail
        refine (implQuote xs[k].text 34 _ hts).mono ?_
        rintro e w1 ⟨rfl, bel1⟩
        have own1 := (hown.alloc _).below bel1
        have hb1 : Below w.heap.size w w1 := (hb.alloc hsz _).trans (bel1.mono (by simp; omega))
        have hsz1 := hb1.size
        go_wp2_with (at_builtin; refine wpAppendStrs rfl (.tmp 25) (.tmp 29) rfl i0 hi0 hz0 hz1 hz2 w.heap.size a1 c1 ys _ 1 [(quoteT xs[k].text 34)] rfl (own1.alloc _) rfl (strsOne w1 (quoteT xs[k].text 34) (by unfold maxLen; omega)) (by simp; omega) (by simp; omega) ?_; intro a2 c2 w2 hown2 hg2)
        have hb2 : Below w.heap.size w w2 := appended hb1 (Nat.le_refl _) own1 hg2
        go_roundw
        case rel => exact ⟨k + 1, a2, c2, ys ++ [(quoteT xs[k].text 34)], by omega, by go_num, by unfold Hid; rw [hys.out, HS.out], by simp, hown2, hb2⟩
        case measure => simp [intOf]; omega
      · have HS := Lib.hid (swords_some xs k hlt (t := quoteT xs[k].text 39) (by unfold sword; rw [if_neg (by omega), if_neg (by omega), if_pos hkk]))
        clear hkk
        go_wp2_with fail
        refine (implQuote xs[k].text 39 _ hts).mono ?_
        rintro e w1 ⟨rfl, bel1⟩
        have own1 := (hown.alloc _).below bel1
        have hb1 : Below w.heap.size w w1 := (hb.alloc hsz _).trans (bel1.mono (by simp; omega))
        have hsz1 := hb1.size
        go_wp2_with (at_builtin; refine wpAppendStrs rfl (.tmp 33) (.tmp 37) rfl i0 hi0 hz0 hz1 hz2 w.heap.size a1 c1 ys _ 1 [(quoteT xs[k].text 39)] rfl (own1.alloc _) rfl (strsOne w1 (quoteT xs[k].text 39) (by unfold maxLen; omega)) (by simp; omega) (by simp; omega) ?_; intro a2 c2 w2 hown2 hg2)
        have hb2 : Below w.heap.size w w2 := appended hb1 (Nat.le_refl _) own1 hg2
        go_roundw
        case rel => exact ⟨k + 1, a2, c2, ys ++ [(quoteT xs[k].text 39)], by omega, by go_num, by unfold Hid; rw [hys.out, HS.out], by simp, hown2, hb2⟩
        case measure => simp [intOf]; omega
      · have HS := Lib.hid (swords_none xs k hlt (by simp only [beq_eq_false_iff_ne, ne_eq] at t0 t1 t2 t3 t4; unfold sword; rw [if_neg (by omega), if_neg (by omega), if_neg (by omega)]))
        go_wp2_with fail
        go_roundw
        case rel => exact ⟨k + 1, a1, c1, ys, by omega, by go_num, by unfold Hid; rw [hys.out, HS.out], rfl, hown.alloc _, hb.alloc hsz _⟩
        case measure => simp [intOf]; omega
    · obtain rfl : k = xs.length := by omega
      rw [List.take_length] at hys
      have st := hown.strs (by rw [hys.out]; exact swords_fit xs hbd)
      have hJ : lets ys + ys.length * blankT.size ≤ 70368744177664 := by rw [hys.out]; exact joinFits xs hbd
      go_wp2_with fail
      refine (implJoin a1 c1 ys blankT _ st hJ (by omega)).mono ?_
      rintro e w1 ⟨rfl, bel1⟩
      go_wp2_with fail
      go_ret
      exact ⟨by rw [spellT, ← hys.out]; rfl, hb.trans (bel1.mono hsz)⟩

end Go.Proofs.YtjnanlfahgjcbaaGreatDoor
