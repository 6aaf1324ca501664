/- The walk of FnQuote. -/
import Derived.Test.YtjnanlfahgjcbaaDoorLexLaid
import Derived.Test.YtjnanlfahgjcbaaDoorQuoteImpl
import Derived.Test.YtjnanlfahgjcbaaDoorDrawQuote
import Derived.Test.YtjnanlfahgjcbaaDoorLawBase
namespace Go.Proofs.YtjnanlfahgjcbaaDoor
open Go.ChangeShapes Go.WideShapes Go.ChangeAt Go.RowKit

theorem append_size2 (a b : ByteArray) : (a ++ b).size = a.size + b.size := by simp

theorem quoteL_len (q : UInt8) (t : List UInt8) : (quoteL q t).length ≤ 2 * t.length + 2 := by
  have := dbl_len q t
  unfold dbl at this
  unfold quoteL
  simp only [List.length_append, List.length_cons, List.length_nil]
  omega

theorem quoteT_size (s : ByteArray) (q : UInt8) : (quoteT s q).size ≤ 2 * s.size + 2 := by
  have h1 := quoteL_len q s.data.toList
  have h2 : (quoteT s q).size = (quoteL q s.data.toList).length := by unfold quoteT; exact List.size_toArray
  have h3 : s.data.toList.length = s.size := by simp
  omega

theorem lex_text {t : List UInt8} (h : t.length ≤ 100) : lexB (quoteL 39 t) = .ok [⟨3, t, 0⟩] := by
  have hl := quoteL_len 39 t
  have hr := (right_text h).2.2 [] ends_nil
  have hs : sp 3 t = quoteL 39 t := by simp [sp]
  rw [hs, List.append_nil] at hr
  unfold lexB
  rw [if_neg (by omega), hr.2, List.drop_zero, lexAt_one hr.1, List.drop_length, gap, List.drop_nil, lexAt_nil]
  rfl

theorem lex_semi (p : Nat) : lexAt p [59] = .ok [⟨4, [59], p⟩] := by
  have h1 : one [59] = some (4, [59], 1) := by decide
  rw [lexAt_one h1, show ([59] : List UInt8).drop 1 = [] from rfl, gap, List.drop_nil, lexAt_nil]
  rfl

theorem lex_name {t : List UInt8} (h : nameB t = true) (hl : t.length ≤ 100) : ∃ p, lexB (quoteL 34 t ++ [59]) = .ok [⟨1, t, 0⟩, ⟨4, [59], p⟩] := by
  have hq := quoteL_len 34 t
  have hr := (right_name h).2.2 [59] (ends_cons (.inr (.inr rfl)))
  have hs : sp 1 t = quoteL 34 t := by simp [sp]
  rw [hs] at hr
  refine ⟨0 + (quoteL 34 t).length + 0, ?_⟩
  unfold lexB
  rw [if_neg (by simp only [List.length_append, List.length_cons, List.length_nil]; omega), hr.2, List.drop_zero, lexAt_one hr.1, List.drop_left]
  have hg : gap false [59] = 0 := by decide
  rw [hg, List.drop_zero, lex_semi]
  rfl

/-- Words of which the first stands. -/
theorem lexFirst {s : ByteArray} {w w' : World} {e : Ending} {x : Tok} {r : List Tok} (hts : lexB s.data.toList = .ok (x :: r)) (h : LexAns s w e w') :
    ∃ g c, e = .returned (.tuple #[.slice (some ⟨g, 0, none⟩) (r.length + 1 : Nat) c, .int .i64 (-1)]) ∧ g < w'.heap.size ∧ w'.cell? ⟨g, 0, none⟩ = some (.int .i64 (x.kind : Int)) ∧ w'.cell? ⟨g, 1, none⟩ = some (.string ⟨x.text.toArray⟩) ∧ Below w.heap.size w w' := by
  obtain ⟨a, c, rfl, ho, hb⟩ := h
  have ht : toks s = tkOf x :: r.map tkOf := by unfold toks; rw [hts]; rfl
  rw [ht] at ho
  rw [hts, ht]
  have ho' := ho
  unfold OwnT at ho'
  rcases ho'.2 with ⟨hv, hn⟩ | ⟨g, cap, cur, hv, hB, hg, hnc, hcm, hcs, htl⟩
  · simp at hn
  · simp only [Value.slice.injEq] at hv
    obtain ⟨rfl, _, rfl⟩ := hv
    obtain ⟨c0, c1, _⟩ := tcells_at (tkOf x :: r.map tkOf) 0 (by simp)
    refine ⟨g, c, ?_, ?_, ?_, ?_, hb⟩
    · simp [placeOf]
    · rcases Nat.lt_or_ge g w'.heap.size with hlt | hge
      · exact hlt
      · rw [Array.getElem?_eq_none hge] at hg; cases hg
    · rw [World.ownsRow.cellAt (w := w') ho 0 (by simp)]; exact c0
    · rw [World.ownsRow.cellAt (w := w') ho 1 (by simp; omega)]; exact c1

set_option maxHeartbeats 2000000 in
theorem walkFnQuote (a : Option Addr) (c : Nat) (l : List UInt8) (w : World) (hb : Bytes w a c l) (hL : laidMetH Tryd.prog Rows.fnQuoteRow.laid w) :
    Calls Tryd.prog 5 #[.slice a l.length c] w fun e w' => e = .returned (.bool true) ∧ Below w.heap.size w w' := by
  by_cases hbig : 1048576 < l.length
  · clear hL
    go_enter Tryd.func5, Tryd.ntmps5
    go_wp2_with (go_at_call 8; refine (lawsBigYes _ _ _ _ hbig).mono ?_; rintro e w' ⟨rfl, rfl⟩)
    go_ret
    exact ⟨rfl, Below.refl _ _⟩
  · rw [MakeChecks.laidMetH_plain _ _ _ (by kernel_rfl)] at hL
    obtain ⟨p, hG, hlow⟩ := glob_of hL
    have HLEX : Hid (∀ W s, s.size ≤ 1048576 → Below w.heap.size w W → Calls Tryd.prog 10 #[.string s] W (LexAns s W)) := fun W s hs hB => implLex s W hs _ p (hG.below hB hlow) (Nat.le_trans hlow hB.size)
    clear hL hG hlow
    go_enter Tryd.func5, Tryd.ntmps5
    go_wp2_with (go_at_call 8; refine (lawsBigNo _ _ _ _ (by omega)).mono ?_; rintro e w' ⟨rfl, rfl⟩)
    refine (specDrawQuote a c l _ hb (by omega)).mono ?_
    rintro e w1 ⟨s, y, rfl, hQ, B1⟩
    have hs10 := hQ.1
    have hlen : s.data.toList.length = s.size := by simp
    have f1 : lexB (quoteT s 39).data.toList = .ok [⟨3, s.data.toList, 0⟩] := lex_text (by omega)
    have hname : nameB (110 :: s.data.toList) = true := by
      have h2 := hQ.2
      simp only [nameB, List.contains_cons, h2, List.length_cons]
      simp
      omega
    obtain ⟨pp, f2⟩ := lex_name hname (by simp; omega)
    have hnl : (ByteArray.mk #[110] ++ s).data.toList = 110 :: s.data.toList := by simp
    have f3 : lexB (quoteT (ByteArray.mk #[110] ++ s) 34 ++ ByteArray.mk #[59]).data.toList = .ok [⟨1, 110 :: s.data.toList, 0⟩, ⟨4, [59], pp⟩] := by
      rw [← f2]
      simp [quoteT]
    have z3 : (ByteArray.mk #[110] ++ s).size = 1 + s.size := append_size2 _ _
    have z1 := quoteT_size s 39
    have z2 := quoteT_size (ByteArray.mk #[110] ++ s) 34
    have z4 : (quoteT (ByteArray.mk #[110] ++ s) 34 ++ ByteArray.mk #[59]).size = (quoteT (ByteArray.mk #[110] ++ s) 34).size + 1 := append_size2 _ _
    have LEX1 : Hid (∀ W, Below w.heap.size w W → Calls Tryd.prog 10 #[.string (quoteT s 39)] W fun e w' => ∃ g c, e = .returned (.tuple #[.slice (some ⟨g, 0, none⟩) 1 c, .int .i64 (-1)]) ∧ g < w'.heap.size ∧ w'.cell? ⟨g, 0, none⟩ = some (.int .i64 3) ∧ w'.cell? ⟨g, 1, none⟩ = some (.string s) ∧ Below W.heap.size W w') := fun W hB => (HLEX.out W _ (by omega) hB).mono fun e w' h => lexFirst f1 h
    have hns : (⟨(110 :: s.data.toList).toArray⟩ : ByteArray) = ByteArray.mk #[110] ++ s := by apply ByteArray.ext; simp
    have LEX2 : Hid (∀ W, Below w.heap.size w W → Calls Tryd.prog 10 #[.string (quoteT (ByteArray.mk #[110] ++ s) 34 ++ ByteArray.mk #[59])] W fun e w' => ∃ g c, e = .returned (.tuple #[.slice (some ⟨g, 0, none⟩) 2 c, .int .i64 (-1)]) ∧ g < w'.heap.size ∧ w'.cell? ⟨g, 0, none⟩ = some (.int .i64 1) ∧ w'.cell? ⟨g, 1, none⟩ = some (.string (ByteArray.mk #[110] ++ s)) ∧ Below W.heap.size W w') := fun W hB => (HLEX.out W _ (by omega) hB).mono fun e w' h => by have h' := lexFirst f3 h; rw [hns] at h'; exact h'
    have hs1 : s.size ≤ 1048576 := by omega
    clear f1 f2 f3 hname hnl hns HLEX hQ hlen pp
    go_wp2_with fail
    refine (implQuote s y w1 hs1).mono ?_
    rintro e w2 ⟨rfl, b2⟩
    have B2 : Below w.heap.size w w2 := B1.trans (b2.mono B1.size)
    go_wp2_with fail
    refine (specQuote s y w2 hs1).mono ?_
    rintro e w3 ⟨rfl, b3⟩
    have B3 : Below w.heap.size w w3 := B2.trans (b3.mono B2.size)
    have hqq : (!((quoteT s y).toList == (quoteT s y).toList)) = false := by simp
    go_wp2_with fail
    refine (implQuote s 39 w3 hs1).mono ?_
    rintro e w4 ⟨rfl, b4⟩
    have B4 : Below w.heap.size w w4 := B3.trans (b4.mono B3.size)
    go_wp2_with fail
    refine (LEX1.out w4 B4).mono ?_
    rintro e w5 ⟨g5, c5, rfl, hg5, k5, t5, b5⟩
    have B5 : Below w.heap.size w w5 := B4.trans (b5.mono B4.size)
    have z5 : ¬ (9223372036854775807 < 1 + s.size) := by omega
    go_wp2_with fail
    refine (implQuote (ByteArray.mk #[110] ++ s) 34 w5 (by omega)).mono ?_
    rintro e w6 ⟨rfl, b6⟩
    have B6 : Below w.heap.size w w6 := B5.trans (b6.mono B5.size)
    have z6 : ¬ (9223372036854775807 < (quoteT (ByteArray.mk #[110] ++ s) 34).size + 1) := by omega
    go_wp2_with fail
    refine (LEX2.out w6 B6).mono ?_
    rintro e w7 ⟨g7, c7, rfl, hg7, k7, t7, b7⟩
    have B7 : Below w.heap.size w w7 := B6.trans (b7.mono B6.size)
    have b57 : Below w5.heap.size w5 w7 := b6.trans (b7.mono b6.size)
    have k57 := ((bcell b57).1 g5 0 hg5).trans k5
    have t57 := ((bcell b57).1 g5 1 hg5).trans t5
    clear k5 t5 LEX1 LEX2
    go_wp2_with fail
    go_ret
    exact ⟨rfl, B7⟩

end Go.Proofs.YtjnanlfahgjcbaaDoor
