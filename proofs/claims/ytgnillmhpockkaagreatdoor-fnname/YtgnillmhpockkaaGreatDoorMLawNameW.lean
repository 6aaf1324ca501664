/- The walk of FnName. -/
import Derived.Test.YtgnillmhpockkaaGreatDoorMTxtJ
import Derived.Test.YtgnillmhpockkaaGreatDoorMLawBase
import Derived.Test.YtgnillmhpockkaaGreatDoorMOkW
import Derived.Test.YtgnillmhpockkaaGreatDoorMExprN
namespace Go.Proofs.YtgnillmhpockkaaGreatDoor
open Go.ChangeShapes Go.WideShapes Go.ChangeAt Go.RowKit

/-- The one word of a name. -/
theorem name_word {s : ByteArray} (h : nameB s.data.toList = true) :
    ∃ (ts : List Tok) (x : Tk), lexB (nameT s).data.toList = .ok ts ∧ ts.map tkOf = [x] ∧ x.text = s ∧ parseI [x] 0 = some (.mk 0 s 0 [], 1) := by
  have hsh : shapeE (.mk 0 s 0 []) = true := by
    rw [shapeE, Bool.and_eq_true]
    refine ⟨?_, by rw [shapeL]⟩
    unfold node1
    rw [if_pos rfl, if_neg (by decide), h]
    decide
  have hn : (Ex.mk 0 s 0 []).nodes ≤ 40 := by rw [Ex.nodes_eq]; show 1 + nodesL [] ≤ 40; rw [nodesL]; omega
  obtain ⟨ts, h1, h2, h3⟩ := parse_text hsh hn
  rw [tE_name] at h1
  have hw : wordsE (.mk 0 s 0 []) 1 = [leafW 0 s 0] := by rw [wordsE, if_neg (by decide)]
  rw [hw] at h2
  match ts, h1, h2, h3 with
  | [], _, h2, _ => exact absurd (congrArg List.length h2) (by simp [kt])
  | y :: z :: q, _, h2, _ => exact absurd (congrArg List.length h2) (by simp [kt])
  | [y], h1, h2, h3 =>
    have h4 : (y.kind, y.text) = wn (leafW 0 s 0) := (List.cons.inj h2).1
    have h5 : y.text = s.data.toList := by
      have := congrArg Prod.snd h4
      simp only at this
      rw [this]
      unfold wn leafW
      rw [if_pos rfl]
      split <;> rfl
    refine ⟨[y], tkOf y, h1, rfl, ?_, ?_⟩
    · unfold tkOf
      simp only
      rw [h5]
    · have := h3
      simpa using this

set_option maxRecDepth 100000 in
set_option maxHeartbeats 4000000 in
theorem walkFnName (a : Option Addr) (c : Nat) (l : List UInt8) (w : World) (hb : Bytes w a c l) (hL : laidMetH Tryz.prog Rows.fnNameRow.laid w) :
    Calls Tryz.prog 3 #[.slice a l.length c] w fun e w' => e = .returned (.bool true) ∧ Below w.heap.size w w' := by
  by_cases hbig : 1048576 < l.length
  · clear hL
    go_enter Tryz.func3, Tryz.ntmps3
    go_wp2_with (go_at_call 8; refine (lawsBigYes _ _ _ _ hbig).mono ?_; rintro e w' ⟨rfl, rfl⟩)
    go_ret
    exact ⟨rfl, Below.refl _ _⟩
  · rw [MakeChecks.laidMetH_plain _ _ _ (by kernel_rfl)] at hL
    obtain ⟨p, hG, hT⟩ := rg_of hL
    have HG := Lib.hid hG
    have HLEX : Hid (∀ W s, s.size ≤ 1048576 → Below w.heap.size w W → Calls Tryz.prog 14 #[.string s] W (LexAns s W)) := fun W s hs hB => implLex s W hs _ p (HG.out.below hB HG.out.big).glob (by have h1 := HG.out.big; have h2 := hB.size; omega)
    clear hL hT hG
    go_enter Tryz.func3, Tryz.ntmps3
    go_wp2_with (go_at_call 8; refine (lawsBigNo _ _ _ _ (by omega)).mono ?_; rintro e w' ⟨rfl, rfl⟩)
    refine (specDrawPutName a c l _ hb (by omega)).mono ?_
    rintro e w1 ⟨s, rfl, hs, B1⟩
    have hss : s.size ≤ 1048576 := by omega
    obtain ⟨r, hr⟩ : ∃ r, nameT s = r := ⟨_, rfl⟩
    obtain ⟨v, hv⟩ : ∃ v, nameB s.data.toList = v := ⟨_, rfl⟩
    have HR := Lib.hid hr
    have HV := Lib.hid hv
    have hrr : (r.toList != r.toList) = false := by simp
    clear hr hv
    go_wp2_with fail
    refine (implPutName s w1 hss r HR.out).mono ?_
    rintro e w2 ⟨rfl, b2⟩
    have B2 : Below w.heap.size w w2 := B1.trans (b2.mono B1.size)
    clear B1 b2
    go_wp2_with fail
    refine (specPutName s w2 hss r HR.out).mono ?_
    rintro e w3 ⟨rfl, b3⟩
    have B3 : Below w.heap.size w w3 := B2.trans (b3.mono B2.size)
    clear B2 b3
    go_wp2_with fail
    refine (implNameOk s w3 v HV.out).mono ?_
    rintro e w4 ⟨rfl, rfl⟩
    go_wp2_with fail
    refine (specNameOk s _ hss v HV.out).mono ?_
    rintro e w4 ⟨rfl, rfl⟩
    cases v with
    | false =>
      go_wp2_with fail
      refine (specNameOk s _ hss false HV.out).mono ?_
      rintro e w4 ⟨rfl, rfl⟩
      go_wp2_with fail
      go_ret
      exact ⟨rfl, B3⟩
    | true =>
      obtain ⟨ts, x, h1, h2, h3, h4⟩ := name_word HV.out
      rw [HR.out] at h1
      have hrs : r.size ≤ 1048576 := by
        have hsh : shapeE (.mk 0 s 0 []) = true := by
          rw [shapeE, Bool.and_eq_true]
          refine ⟨?_, by rw [shapeL]⟩
          unfold node1
          rw [if_pos rfl, if_neg (by decide), HV.out]
          decide
        have hn : (Ex.mk 0 s 0 []).nodes ≤ 40 := by rw [Ex.nodes_eq]; show 1 + nodesL [] ≤ 40; rw [nodesL]; omega
        have := tE_size (L := 1) hsh hn
        rw [tE_name, HR.out] at this
        omega
      have I1 : Hid (∀ W, Below w.heap.size w W → Calls Tryz.prog 14 #[.string r] W fun e w' => ∃ a c, e = .returned (.tuple #[.slice a 1 c, .int .i64 (-1)]) ∧ OwnT w' W.heap.size a c [x] ∧ Below W.heap.size W w') := fun W hB => (HLEX.out W r hrs hB).mono fun _ _ => lexOk h1 h2.symm
      have hfit : FitsT [x] := by have := (toks_fit r hrs).1; unfold toks at this; rw [h1] at this; rw [← h2]; exact this
      have HPI := Lib.hid h4
      have HXT := Lib.hid h3
      have hteq : (s.toList == s.toList) = true := by simp
      clear h1 h2 h3 h4 HLEX hrr
      go_wp2_with fail
      refine (specNameOk s _ hss true HV.out).mono ?_
      rintro e w4 ⟨rfl, rfl⟩
      go_wp2_with fail
      refine (I1.out _ B3).mono ?_
      rintro e w5 ⟨a5, c5, rfl, own5, b5⟩
      have B5 : Below w.heap.size w w5 := B3.trans (b5.mono B3.size)
      have T5 := Lib.hid (own5.toks hfit)
      clear own5 b5 B3
      have I2 := Lib.hid (show Calls Tryz.prog 15 #[.slice a5 1 c5, .int .i64 0] w5 (fun y w' => ∃ a c, y = .returned (.tuple #[.agg #[.int .i64 0, .string s, .int .i64 0, .slice a 0 c], .int .i64 1]) ∧ Below w5.heap.size w5 w') from (implParse _ p a5 c5 [x] 0 w5 (HG.out.below B5 HG.out.big) T5.out (by simp) (by unfold i64E; omega)).mono (by
        rw [HPI.out]
        rintro y w6 ⟨a6, c6, rfl, ht6, b6⟩
        exact ⟨a6, c6, rfl, b6⟩))
      go_wp2_with fail
      refine I2.out.mono ?_
      rintro y w6 ⟨a6, c6, rfl, b6⟩
      have B6 : Below w.heap.size w w6 := B5.trans (b6.mono B5.size)
      have T6 := Lib.hid ((T5.out.below b6).below ((Below.refl _ _).alloc (Nat.le_refl _) (.cells #[.int .i64 0, .string s, .int .i64 0, .slice a6 0 c6] 32)))
      have HB7 := Lib.hid (B6.alloc B6.size (.cells #[.int .i64 0, .string s, .int .i64 0, .slice a6 0 c6] 32))
      have HN7 := Lib.hid (exRow_new w6 0 s 0 (.slice a6 0 c6))
      obtain ⟨b, off, hab, hbl, _, t1, _⟩ := T6.out.spot (k := 0) (by simp)
      subst hab
      have t1' := t1
      simp only [Nat.zero_mul, Nat.add_zero, List.getElem_cons_zero] at t1'
      rw [HXT.out] at t1'
      obtain ⟨n0, n1, n2, n3, nf⟩ := HN7.out.cells
      have HBL := Lib.hid hbl
      clear b6 B5 B6 T5 t1 hbl I2
      go_wp2_with fail
      go_ret
      exact ⟨rfl, HB7.out⟩

end Go.Proofs.YtgnillmhpockkaaGreatDoor
