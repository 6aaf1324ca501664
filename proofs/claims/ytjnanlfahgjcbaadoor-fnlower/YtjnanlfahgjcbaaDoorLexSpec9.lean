/- The model's words of a text. -/
import Derived.Test.YtjnanlfahgjcbaaDoorLexSpec8
import Derived.Test.YtjnanlfahgjcbaaDoorTokApp
import Derived.Test.YtjnanlfahgjcbaaDoorLexQ
namespace Go.Proofs.YtjnanlfahgjcbaaDoor
open Go.RowKit

def tkOf (x : Tok) : Tk := ⟨(x.kind : Int), ⟨x.text.toArray⟩, (x.at_ : Int)⟩
def toks (s : ByteArray) : List Tk := (wordsOf (lexB s.data.toList)).map tkOf

/-- How Lex answers. -/
def LexAns (s : ByteArray) (w : World) (e : Ending) (w' : World) : Prop :=
  ∃ a c, e = .returned (.tuple #[.slice a (toks s).length c, .int .i64 (placeOf (lexB s.data.toList))]) ∧ OwnT w' w.heap.size a c (toks s) ∧ Below w.heap.size w w'

theorem lexAns_mk {s : ByteArray} {w w' : World} {ys : List Tk} {p : Int} {a : Option Addr} {c : Nat} (hy : toks s = ys) (hp : placeOf (lexB s.data.toList) = p) (ho : OwnT w' w.heap.size a c ys) (hb : Below w.heap.size w w') : LexAns s w (.returned (.tuple #[.slice a ys.length c, .int .i64 p])) w' := by
  subst hy hp
  exact ⟨a, c, rfl, ho, hb⟩

theorem gap_len (c : Bool) (l : List UInt8) : gap c l ≤ l.length := by
  rcases gap_tail l c with ⟨h, _⟩ | ⟨h, _⟩ <;> omega

theorem ok_of_cat {l : List UInt8} {acc : List Tok} (h : lexB l = cat acc (.ok [])) : (wordsOf (lexB l)).map tkOf = acc.map tkOf ∧ placeOf (lexB l) = -1 := by
  rw [h]; simp [cat, wordsOf, placeOf]
theorem bad_of_cat {l : List UInt8} {acc : List Tok} {k : Nat} (h : lexB l = cat acc (.error k)) : (wordsOf (lexB l)).map tkOf = [] ∧ placeOf (lexB l) = (k : Int) := by
  rw [h]; simp [cat, wordsOf, placeOf]

theorem lexStep {l : List UInt8} {acc : List Tok} {k : Nat} {x : Nat × List UInt8 × Nat} (h : lexB l = cat acc (lexAt k (l.drop k))) (h1 : one (l.drop k) = some x) :
    lexB l = cat (acc ++ [⟨x.1, x.2.1, k⟩]) (lexAt (k + x.2.2 + gap false (l.drop (k + x.2.2))) (l.drop (k + x.2.2 + gap false (l.drop (k + x.2.2))))) := by
  rw [h, lexAt_one (k := x.1) (t := x.2.1) (n := x.2.2) h1, cat_cat, List.drop_drop, List.drop_drop]

set_option maxHeartbeats 4000000 in
theorem specLex (s : ByteArray) (w : World) (hs : s.size ≤ 1048576) : Calls Tryd.prog 11 #[.string s] w (LexAns s w) := by
  obtain ⟨i0, hi0, hz0, hz1, hz2⟩ := info_parts Tryd.infoToken
  have hll : s.data.toList.length = s.size := by simp
  by_cases hbig : (20000 : Int) < (s.size : Int)
  · have HB : Hid (lexB s.data.toList = .error 20000) := by unfold Hid lexB; rw [if_pos (by rw [hll]; omega)]
    clear hll
    go_enter Tryd.func11, Tryd.ntmps11
    go_wp2_with fail
    go_ret2
    exact lexAns_mk (ys := []) (by unfold toks; rw [HB.out]; rfl) (by rw [HB.out]; rfl) (ownTEmpty w) ((Below.refl _ _).alloc (Nat.le_refl _) _)
  · have HB : Hid (lexB s.data.toList = lexAt (gap false s.data.toList) (s.data.toList.drop (gap false s.data.toList))) := by unfold Hid lexB; rw [if_neg (by rw [hll]; omega)]
    have HLL := Lib.hid hll
    have hg0 : gap false s.data.toList ≤ s.size := by have := gap_len false s.data.toList; omega
    have HG0 : Hid (gap false (s.data.toList.drop 0) = gap false s.data.toList) := by unfold Hid; simp
    clear hll
    go_enter Tryd.func11, Tryd.ntmps11
    go_wp2_with fail
    refine (specGap s 0 _ (Nat.zero_le _) hs).mono ?_
    rw [HG0.out]
    rintro e w1 ⟨rfl, rfl⟩
    go_wp2_with fail
    go_loopw [4, 5] (fun v p wr => ∃ (k : Nat) (acc : List Tok) (ys : List Tk) (a1 : Option Addr) (c1 : Nat), k ≤ s.size ∧ p = .int .i64 k ∧ v = .slice a1 ys.length c1 ∧ ys.length ≤ k ∧ Hid (ys = acc.map tkOf) ∧ Hid (lexB s.data.toList = cat acc (lexAt k (s.data.toList.drop k))) ∧ OwnT wr w.heap.size a1 c1 ys ∧ Below w.heap.size w wr) (fun _ p _ => s.size - (intOf p).toNat)
    case atStart => exact ⟨_, [], [], _, _, hg0, rfl, rfl, Nat.zero_le _, rfl, by unfold Hid; rw [HB.out, cat_nil], ownTEmpty w, (Below.refl _ _).alloc (Nat.le_refl _) _⟩
    case round =>
      obtain ⟨k, acc, ys, a1, c1, hk, rfl, rfl, hyk, hys, hlex, hown, hb⟩ := hrel
      have hsz := hb.size
      by_cases hlt : k < s.size
      · go_wp2_with fail
        refine (specOne s k _ hlt hs).mono ?_
        rintro e w2 ⟨ka, t, p, n, rfl, hm, hb2⟩
        have own2 := hown.below hb2
        have B2 : Below w.heap.size w w2 := hb.trans (hb2.mono hsz)
        have hsz2 := B2.size
        have hd0 : s.data.toList.drop k ≠ [] := by rw [drop_at s k hlt]; simp
        cases h1 : one (s.data.toList.drop k) with
        | none =>
          rw [h1] at hm
          have hn0 : n = 0 := hm
          subst hn0
          have HX : Hid (lexB s.data.toList = cat acc (.error k)) := by unfold Hid; rw [hlex.out, lexAt_bad hd0 h1]
          clear hm h1 hd0
          go_wp2_with fail
          go_ret2
          have hbd := bad_of_cat HX.out
          exact lexAns_mk (ys := []) hbd.1 hbd.2 (by have h := ownTEmpty (w2.alloc (.cells #[.int .i64 ka, .string t, .int .i64 p] 29)); rw [size_alloc1] at h; exact h.lower (by omega)) ((B2.alloc hsz2 _).alloc (by rw [size_alloc1]; omega) _)
        | some x =>
          rw [h1] at hm
          obtain ⟨hn, rfl, rfl, rfl⟩ := hm
          have hpos := one_pos (k := x.1) (t := x.2.1) (n := x.2.2) h1
          obtain ⟨hle, _⟩ := one_le (k := x.1) (t := x.2.1) (n := x.2.2) h1
          have hkn : k + n ≤ s.size := by rw [List.length_drop, HLL.out] at hle; omega
          have hnz : ((n : Int) == 0) = false := by rw [beq_eq_false_iff_ne]; omega
          have hnp : 0 < n := by omega
          have HX := Lib.hid (lexStep hlex.out h1)
          rw [← hn] at HX
          have hgl : k + n + gap false (s.data.toList.drop (k + n)) ≤ s.size := by
            have := gap_len false (s.data.toList.drop (k + n))
            rw [List.length_drop, HLL.out] at this
            omega
          have HN := Lib.hid hn
          clear h1 hd0 hle hn hpos
          go_wp2_with (at_builtin; refine wpAppendTok rfl (.tmp 29) (.tmp 31) rfl i0 hi0 hz0 hz1 hz2 w.heap.size a1 c1 ys (w2.heap.size + 1) ⟨(x.1 : Int), ⟨x.2.1.toArray⟩, (k : Int)⟩ rfl ((own2.alloc _).alloc _) rfl (by rw [← size_alloc1 w2 (.cells #[.int .i64 (x.1 : Int), .string ⟨x.2.1.toArray⟩, .int .i64 (k : Int)] 29)]; exact heap_alloc_new _ _) (by omega) (by rw [size_alloc1, size_alloc1]; omega) ?_; intro a3 c3 w3 l3 hl3 hown3 hg3 _)
          have B3 : Below w.heap.size w w3 := ((B2.alloc hsz2 _).alloc (by rw [size_alloc1]; omega) _).grown hg3 (by rw [size_alloc1, size_alloc1]; omega) (fun q hq => (own2.lt hq).1)
          have hgap := specGap s (k + n) w3 hkn hs
          rw [Int.natCast_add] at hgap
          refine hgap.mono ?_
          rintro e w4 ⟨rfl, rfl⟩
          generalize gap false (s.data.toList.drop (k + n)) = gn at HX hgl
          clear hgap
          go_wp2_with fail
          go_roundw
          case rel => exact ⟨k + n + gn, acc ++ [⟨x.1, x.2.1, k⟩], l3, a3, c3, hgl, by go_num, rfl, by rw [hidT_len hl3]; omega, by unfold Hid; rw [hl3.out, hys.out]; simp [tkOf], HX, hown3, B3⟩
          case measure => simp [intOf]; omega
      · obtain rfl : k = s.size := by omega
        have HX : Hid (lexB s.data.toList = cat acc (.ok [])) := by unfold Hid; rw [hlex.out, List.drop_of_length_le (by rw [HLL.out]; exact Nat.le_refl _), lexAt_nil]
        go_wp2_with fail
        go_ret2
        have hok := ok_of_cat HX.out
        exact lexAns_mk (ys := ys) (by rw [hys.out]; exact hok.1) hok.2 hown hb

end Go.Proofs.YtjnanlfahgjcbaaDoor
