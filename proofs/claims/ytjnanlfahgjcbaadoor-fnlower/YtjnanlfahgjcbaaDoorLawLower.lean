/- The walk of FnLower. -/
import Derived.Test.YtjnanlfahgjcbaaDoorLexLaid
import Derived.Test.YtjnanlfahgjcbaaDoorTokSame
import Derived.Test.YtjnanlfahgjcbaaDoorDrawLex
import Derived.Test.YtjnanlfahgjcbaaDoorLawBase
namespace Go.Proofs.YtjnanlfahgjcbaaDoor
open Go.ChangeShapes Go.WideShapes Go.ChangeAt Go.RowKit

/-- The bytes u are those of s but for words in great letters. -/
def UpS (s : ByteArray) (u : List UInt8) : Prop := Upped (wordsOf (lexB s.data.toList)) s.data.toList u

theorem UpS.len {s : ByteArray} {u : List UInt8} (h : UpS s u) : u.length = s.size := by
  rw [weak_len h.weak]; simp

theorem UpS.lex {s : ByteArray} {u : List UInt8} (h : UpS s u) : lexB u = lexB s.data.toList := by
  unfold UpS at h
  cases hl : lexB s.data.toList with
  | ok ts =>
    rw [hl] at h
    exact lexB_up hl h
  | error e =>
    rw [hl] at h
    have : u = s.data.toList := by
      apply List.ext_getElem?
      intro j
      exact h.same j (fun x hx => by simp [wordsOf] at hx)
    rw [this, hl]

theorem words_at (s : ByteArray) : ∀ x ∈ wordsOf (lexB s.data.toList), x.at_ + x.text.length ≤ s.size := by
  have hsz : s.data.toList.length = s.size := by simp
  cases hl : lexB s.data.toList with
  | ok ts => intro x hx; have := lexB_at hl x hx; omega
  | error e => intro x hx; simp [wordsOf] at hx

theorem toks_up (s : ByteArray) : ∀ (i : Nat) (h : i < (toks s).length), ∃ m : Nat, (toks s)[i].at_ = (m : Int) ∧ m + (toks s)[i].text.size ≤ s.size ∧
    ((toks s)[i].kind = 0 → ∀ u, UpS s u → ∀ k, k < (toks s)[i].text.size → ∀ hlt : m + k < u.length, UpS s (u.set (m + k) (upB u[m + k]))) := by
  intro i h
  have hi : i < (wordsOf (lexB s.data.toList)).length := by simpa [toks] using h
  have hm := List.getElem_mem hi
  have hat := words_at s _ hm
  have e : (toks s)[i] = tkOf (wordsOf (lexB s.data.toList))[i] := by simp [toks]
  have et : (tkOf (wordsOf (lexB s.data.toList))[i]).text.size = (wordsOf (lexB s.data.toList))[i].text.length := List.size_toArray
  rw [e, et]
  refine ⟨(wordsOf (lexB s.data.toList))[i].at_, rfl, hat, fun hk u hu k hkk hlt => ?_⟩
  have hk0 : (wordsOf (lexB s.data.toList))[i].kind = 0 := by
    have : ((wordsOf (lexB s.data.toList))[i].kind : Int) = 0 := hk
    omega
  exact Upped.set hu hm hk0 hkk hlt

theorem lex_two : lexB [34, 97, 66, 34, 32, 97, 66] = .ok [⟨1, [97, 66], 0⟩, ⟨0, [97, 98], 5⟩] := by
  have g0 : gap false [34, 97, 66, 34, 32, 97, 66] = 0 := by decide
  have o1 : one [34, 97, 66, 34, 32, 97, 66] = some (1, [97, 66], 4) := by decide
  have o2 : one [97, 66] = some (0, [97, 98], 2) := by decide
  have g1 : gap false ([34, 97, 66, 34, 32, 97, 66].drop 4) = 1 := by decide
  unfold lexB
  rw [if_neg (by decide), g0, List.drop_zero, lexAt_one o1, g1]
  rw [show (([34, 97, 66, 34, 32, 97, 66] : List UInt8).drop 4).drop 1 = [97, 66] from rfl, lexAt_one o2]
  rw [show ([97, 66] : List UInt8).drop 2 = [] from rfl, gap, List.drop_nil, lexAt_nil]
  rfl

def twoT : ByteArray := ByteArray.mk #[34, 97, 66, 34, 32, 97, 66]

theorem lexTwo {w w' : World} {e : Ending} (h : LexAns twoT w e w') :
    ∃ g c, e = .returned (.tuple #[.slice (some ⟨g, 0, none⟩) 2 c, .int .i64 (-1)]) ∧ g < w'.heap.size ∧ w'.cell? ⟨g, 1, none⟩ = some (.string ⟨#[97, 66]⟩) ∧ w'.cell? ⟨g, 4, none⟩ = some (.string ⟨#[97, 98]⟩) ∧ Below w.heap.size w w' := by
  obtain ⟨a, c, rfl, ho, hb⟩ := h
  have hl : lexB twoT.data.toList = .ok [⟨1, [97, 66], 0⟩, ⟨0, [97, 98], 5⟩] := lex_two
  have ht : toks twoT = [tkOf ⟨1, [97, 66], 0⟩, tkOf ⟨0, [97, 98], 5⟩] := by unfold toks; rw [hl]; rfl
  rw [ht] at ho
  rw [hl, ht]
  have ho' := ho
  unfold OwnT at ho'
  rcases ho'.2 with ⟨hv, hn⟩ | ⟨g, cap, cur, hv, hB, hg, hnc, hcm, hcs, htl⟩
  · simp at hn
  · simp only [Value.slice.injEq] at hv
    obtain ⟨rfl, _, rfl⟩ := hv
    obtain ⟨_, c1, _⟩ := tcells_at [tkOf ⟨1, [97, 66], 0⟩, tkOf ⟨0, [97, 98], 5⟩] 0 (by simp)
    obtain ⟨_, d1, _⟩ := tcells_at [tkOf ⟨1, [97, 66], 0⟩, tkOf ⟨0, [97, 98], 5⟩] 1 (by simp)
    refine ⟨g, c, rfl, ?_, ?_, ?_, hb⟩
    · rcases Nat.lt_or_ge g w'.heap.size with hlt | hge
      · exact hlt
      · rw [Array.getElem?_eq_none hge] at hg; cases hg
    · rw [World.ownsRow.cellAt (w := w') ho 1 (by simp)]; exact c1
    · rw [World.ownsRow.cellAt (w := w') ho 4 (by simp)]; exact d1

theorem up_in {b : UInt8} (h1 : 97 ≤ b.toNat) (h2 : b.toNat ≤ 122) : ((upB b).toNat : Int) = (b.toNat : Int) - 32 := by
  rcases upB_cases b with ⟨_, h⟩ | ⟨e, _, _⟩
  · omega
  · omega

set_option maxRecDepth 100000 in
set_option maxHeartbeats 4000000 in
theorem walkFnLower (a : Option Addr) (c : Nat) (l : List UInt8) (w : World) (hb : Bytes w a c l) (hL : laidMetH Tryd.prog Rows.fnLowerRow.laid w) :
    Calls Tryd.prog 6 #[.slice a l.length c] w fun e w' => e = .returned (.bool true) ∧ Below w.heap.size w w' := by
  by_cases hbig : 1048576 < l.length
  · clear hL
    go_enter Tryd.func6, Tryd.ntmps6
    go_wp2_with (go_at_call 8; refine (lawsBigYes _ _ _ _ hbig).mono ?_; rintro e w' ⟨rfl, rfl⟩)
    go_ret
    exact ⟨rfl, Below.refl _ _⟩
  · rw [MakeChecks.laidMetH_plain _ _ _ (by kernel_rfl)] at hL
    obtain ⟨p, hG, hlow⟩ := glob_of hL
    have HLEX : Hid (∀ W s, s.size ≤ 1048576 → Below w.heap.size w W → Calls Tryd.prog 10 #[.string s] W (LexAns s W)) := fun W s hs hB => implLex s W hs _ p (hG.below hB hlow) (Nat.le_trans hlow hB.size)
    clear hL hG hlow
    go_enter Tryd.func6, Tryd.ntmps6
    go_wp2_with (go_at_call 8; refine (lawsBigNo _ _ _ _ (by omega)).mono ?_; rintro e w' ⟨rfl, rfl⟩)
    refine (specDrawLex a c l _ hb (by omega)).mono ?_
    rintro e w1 ⟨s, rfl, hs, B1⟩
    have hss : s.size ≤ 1048576 := by omega
    obtain ⟨hfit, hlen⟩ := toks_fit s hss
    have PL := Lib.hid (toks_up s)
    have hpp : (placeOf (lexB s.data.toList) != placeOf (lexB s.data.toList)) = false := by simp
    have hpe : (placeOf (lexB s.data.toList) == placeOf (lexB s.data.toList)) = true := by simp
    have I1 : Hid (∀ W, Below w.heap.size w W → Calls Tryd.prog 10 #[.string s] W fun e w' => ∃ a c, e = .returned (.tuple #[.slice a (toks s).length c, .int .i64 (placeOf (lexB s.data.toList))]) ∧ OwnT w' W.heap.size a c (toks s) ∧ Below W.heap.size W w') := fun W hB => HLEX.out W s hss hB
    have S1 : Hid (∀ W, Calls Tryd.prog 11 #[.string s] W fun e w' => ∃ a c, e = .returned (.tuple #[.slice a (toks s).length c, .int .i64 (placeOf (lexB s.data.toList))]) ∧ OwnT w' W.heap.size a c (toks s) ∧ Below W.heap.size W w') := fun W => specLex s W hss
    have I2 : Hid (∀ u, UpS s u → ∀ W, Below w.heap.size w W → Calls Tryd.prog 10 #[.string ⟨u.toArray⟩] W fun e w' => ∃ a c, e = .returned (.tuple #[.slice a (toks s).length c, .int .i64 (placeOf (lexB s.data.toList))]) ∧ OwnT w' W.heap.size a c (toks s) ∧ Below W.heap.size W w') := by
      intro u hu W hB
      have hz : (ByteArray.mk u.toArray).size = u.length := List.size_toArray
      have h1 := HLEX.out W ⟨u.toArray⟩ (by rw [hz, hu.len]; exact hss) hB
      have h2 : (ByteArray.mk u.toArray).data.toList = u := by simp
      unfold LexAns toks at h1
      rw [h2, hu.lex] at h1
      exact h1
    have I3 : Hid (∀ W, Below w.heap.size w W → Calls Tryd.prog 10 #[.string ⟨#[34, 97, 66, 34, 32, 97, 66]⟩] W fun e w' => ∃ g c, e = .returned (.tuple #[.slice (some ⟨g, 0, none⟩) 2 c, .int .i64 (-1)]) ∧ g < w'.heap.size ∧ w'.cell? ⟨g, 1, none⟩ = some (.string ⟨#[97, 66]⟩) ∧ w'.cell? ⟨g, 4, none⟩ = some (.string ⟨#[97, 98]⟩) ∧ Below W.heap.size W w') := fun W hB => (HLEX.out W twoT (by decide) hB).mono fun _ _ h => lexTwo h
    have U0 : Hid (UpS s s.data.toList) := Upped.refl _ _
    clear HLEX
    generalize placeOf (lexB s.data.toList) = pl at *
    generalize toks s = xs at *
    go_wp2_with fail
    refine (I1.out w1 B1).mono ?_
    rintro e w2 ⟨a2, c2, rfl, own2, b2⟩
    have B2 : Below w.heap.size w w2 := B1.trans (b2.mono B1.size)
    go_wp2_with fail
    refine (S1.out w2).mono ?_
    rintro e w3 ⟨a3, c3, rfl, own3, b3⟩
    have B3 : Below w.heap.size w w3 := B2.trans (b3.mono B2.size)
    have HX := Lib.hid ((own2.below b3).toks hfit)
    have HF := Lib.hid hfit
    have B3s := B3.size
    clear own2 own3 b2 b3 I1 S1 hfit
    obtain ⟨W, cap, hcv, hbW, hrow, hcap⟩ := convTextRow w3 s
    have HB3 := Lib.hid B3
    have HBW := Lib.hid hbW
    have HROW := Lib.hid hrow
    clear hrow hbW
    generalize hR : w3.heap.size = R at *
    have HR := Lib.hid hR
    clear hR
    go_wp2_with fail
    go_loopw [9] (fun v wr => ∃ (i : Nat) (u : List UInt8), i ≤ xs.length ∧ v = .int .i64 i ∧ Hid (UpS s u) ∧ Hid (RowB wr R u) ∧ Below R w3 wr) (fun v _ => xs.length - (intOf v).toNat)
    case atStart => exact ⟨0, _, Nat.zero_le _, rfl, U0, HROW, HBW.out⟩
    case round =>
      obtain ⟨i, u, hi, rfl, hu, hru, hbw⟩ := hrel
      by_cases hlt : i < xs.length
      · have h0i : (0 : Int) ≤ (i : Int) := by omega
        have hil : (i : Int) < (xs.length : Int) := by omega
        obtain ⟨m, hat, hms, hup⟩ := PL.out i hlt
        have HUP := Lib.hid hup
        have HAT := Lib.hid hat
        have htz : xs[i].text.size ≤ s.size := by omega
        clear hup hat
        go_wp2_with fail
        go_loopw [10] (fun v wr => ∃ (k : Nat) (u : List UInt8), v = .int .i64 k ∧ k ≤ xs[i].text.size ∧ Hid (UpS s u) ∧ Hid (RowB wr R u) ∧ Below R w3 wr) (fun v _ => xs[i].text.size - (intOf v).toNat)
        case atStart => exact ⟨0, u, rfl, Nat.zero_le _, hu, hru, hbw⟩
        case round =>
          obtain ⟨k, u, rfl, hk, hu, hru, hbw⟩ := hrel
          have hbw3 : Below w3.heap.size w3 wr := by rw [HR.out]; exact hbw
          obtain ⟨b, off, rfl, hbl, hc0, hc1, hc2⟩ := (HX.out.below hbw3).spot hlt
          rw [HAT.out] at hc2
          by_cases hks : k < xs[i].text.size
          · have hksI : (k : Int) < (xs[i].text.size : Int) := by omega
            cases hkd : (xs[i].kind == 0) with
            | true =>
              have hk0 : xs[i].kind = 0 := by simpa using hkd
              have hul : u.length = s.size := hu.out.len
              obtain ⟨j, hj⟩ : ∃ j, j = m + k := ⟨_, rfl⟩
              have hjl : j < u.length := by omega
              have hwr : IntKind.i64.wrap ((m : Int) + (k : Int)) = (j : Int) := by rw [IntWalk.i64_in _ (by omega)]; omega
              have h0j : (0 : Int) ≤ (j : Int) := by omega
              have hjs : (j : Int) < (s.size : Int) := by omega
              have hcR := hru.out.cell hjl
              have hfR := hru.out.frozen hjl
              have hby := byte_le u[j]
              have HS : Hid (UpS s (u.set j (upB u[j]))) := by
                subst hj
                exact HUP.out hk0 u hu.out k hks hjl
              have HJ := Lib.hid hj
              have HBW2 := Lib.hid hbw
              clear hj hk0 hul hbw3
              rcases Nat.lt_or_ge u[j].toNat 97 with hy | hy
              · have d97 : decide ((97 : Int) ≤ (u[j].toNat : Int)) = false := by simp; omega
                go_wp2_with fail
                go_roundw
                case rel => exact ⟨k + 1, u, by go_num, by omega, hu, hru, HBW2.out⟩
                case measure => simp [intOf]; omega
              · have d97 : decide ((97 : Int) ≤ (u[j].toNat : Int)) = true := by simp; omega
                have i97 : (97 : Int) ≤ (u[j].toNat : Int) := by omega
                rcases Nat.lt_or_ge 122 u[j].toNat with hy2 | hy2
                · have d122 : decide ((u[j].toNat : Int) ≤ 122) = false := by simp; omega
                  go_wp2_with fail
                  go_roundw
                  case rel => exact ⟨k + 1, u, by go_num, by omega, hu, hru, HBW2.out⟩
                  case measure => simp [intOf]; omega
                · have d122 : decide ((u[j].toNat : Int) ≤ 122) = true := by simp; omega
                  have i122 : (u[j].toNat : Int) ≤ 122 := by omega
                  have e1 := up_in hy hy2
                  have R1 := hru.out.set hjl (upB u[j])
                  rw [e1] at R1
                  have HR1 := Lib.hid R1
                  clear R1 e1
                  go_wp2_with fail
                  go_roundw
                  case rel => exact ⟨k + 1, u.set j (upB u[j]), by go_num, by omega, HS, HR1, HBW2.out.setCell (p := ⟨R, j, none⟩) (Nat.le_refl _) _⟩
                  case measure => simp [intOf]; omega
            | false =>
              go_wp2_with fail
              go_roundw
              case rel => exact ⟨i + 1, u, by omega, by go_num, hu, hru, hbw⟩
              case measure => simp [intOf]; omega
          · have hksI : ¬ (k : Int) < (xs[i].text.size : Int) := by omega
            go_wp2_with fail
            go_roundw
            case rel => exact ⟨i + 1, u, by omega, by go_num, hu, hru, hbw⟩
            case measure => simp [intOf]; omega
      · have hul := hu.out.len
        have hcv2 := convRow (c := cap) hru.out
        rw [hul] at hcv2
        have hbw3 : Below w3.heap.size w3 wr := by rw [HR.out]; exact hbw
        have B4 : Below w.heap.size w wr := HB3.out.trans (hbw.mono B3s)
        have tx := HX.out.below hbw3
        clear hul hbw3 hcv
        go_wp2_with fail
        refine (I2.out u hu.out wr B4).mono ?_
        rintro e w5 ⟨a5, c5, rfl, own5, b5⟩
        have B5 : Below w.heap.size w w5 := B4.trans (b5.mono B4.size)
        go_wp2_with fail
        refine (I3.out w5 B5).mono ?_
        rintro e w6 ⟨g6, c6, rfl, hg6, t1, t4, b6⟩
        have B6 : Below w.heap.size w w6 := B5.trans (b6.mono B5.size)
        have tx6 := (tx.below b5).below b6
        have ty6 := (own5.below b6).toks HF.out
        have T1 := Lib.hid t1
        have T4 := Lib.hid t4
        clear tx own5 hcv2 t1 t4
        go_wp2_with fail
        refine (sameToks a5 a2 c5 c2 xs xs true w6 ty6 tx6 rfl (fun k h h' => ⟨rfl, rfl, fun _ => rfl⟩)).mono ?_
        rintro e w7 ⟨rfl, b7⟩
        have t17 := ((bcell b7).1 g6 1 hg6).trans T1.out
        have t47 := ((bcell b7).1 g6 4 hg6).trans T4.out
        have q1 : ((ByteArray.mk #[97, 66]).toList == (ByteArray.mk #[97, 66]).toList) = true := by simp
        have q2 : ((ByteArray.mk #[97, 98]).toList == (ByteArray.mk #[97, 98]).toList) = true := by simp
        go_wp2_with fail
        go_ret
        exact ⟨rfl, B6.trans (b7.mono B6.size)⟩

end Go.Proofs.YtjnanlfahgjcbaaDoor
