/- The walk of FnExactLex. -/
import Derived.Test.YtjnanlfahgjcbaaDoorLexLaid
import Derived.Test.YtjnanlfahgjcbaaDoorTokEq
import Derived.Test.YtjnanlfahgjcbaaDoorTokMark
namespace Go.Proofs.YtjnanlfahgjcbaaDoor
open Go.ChangeShapes Go.WideShapes Go.ChangeAt Go.RowKit
open Go.ChangeMaps (open_string shut_string)

theorem OwnT.other {w w' : World} {B B' : Nat} {a a' : Option Addr} {c c' : Nat} {xs ys : List Tk} (h : OwnT w B a c xs) (h' : OwnT w B' a' c' ys) (hg : w.grownBy w' (Value.slice a xs.length c).ownBlock) (hlt : ∀ g, (Value.slice a' ys.length c').ownBlock = some g → g < B) : OwnT w' B' a' c' ys :=
  h'.kept hg (fun g hgo e => by have h1 := (h.lt e).1; have h2 := hlt g hgo; omega)

set_option maxHeartbeats 2000000 in
theorem walkFnExactLex (s : ByteArray) (w : World) (_hs : s.size ≤ maxLen) (hL : laidMetH Tryd.prog Rows.fnExactLexRow.laid w) :
    Calls Tryd.prog 7 #[.string s] w fun e w' => e = .returned (.bool true) ∧ Below w.heap.size w w' := by
  by_cases h1 : (1048576 : Int) < (s.size : Int)
  · clear hL
    go_enter Tryd.func7, Tryd.ntmps7
    go_wp2_with fail
    go_ret
    exact ⟨rfl, Below.refl _ _⟩
  · rw [MakeChecks.laidMetH_plain _ _ _ (by kernel_rfl)] at hL
    obtain ⟨p, hG, hlow⟩ := glob_of hL
    have HG := Lib.hid hG
    clear hL hG
    have hss : s.size ≤ 1048576 := by omega
    obtain ⟨hfit, hlen⟩ := toks_fit s hss
    have hpp : (placeOf (lexB s.data.toList) != placeOf (lexB s.data.toList)) = false := by simp
    have HLEX : Hid (∀ W, Below w.heap.size w W → Calls Tryd.prog 10 #[.string s] W fun e w' => ∃ a c, e = .returned (.tuple #[.slice a (toks s).length c, .int .i64 (placeOf (lexB s.data.toList))]) ∧ OwnT w' W.heap.size a c (toks s) ∧ Below W.heap.size W w') := fun W hB => implLex s W hss _ p (HG.out.below hB hlow) (Nat.le_trans hlow hB.size)
    go_enter Tryd.func7, Tryd.ntmps7
    go_wp2_with fail
    refine (specLex s w hss).mono ?_
    rintro e w1 ⟨a1, c1, rfl, own1, b1⟩
    have l1 : ∀ g, (Value.slice a1 (toks s).length c1).ownBlock = some g → g < w1.heap.size := fun g hg => (own1.lt hg).2
    go_wp2_with fail
    refine (HLEX.out w1 b1).mono ?_
    rintro e w2 ⟨a2, c2, rfl, own2, b2⟩
    have B2 : Below w.heap.size w w2 := b1.trans (b2.mono b1.size)
    have own12 := own1.below b2
    generalize placeOf (lexB s.data.toList) = pl at hpp HLEX ⊢
    generalize toks s = xs at *
    have L1 := Lib.hid l1
    clear l1
    go_wp2_with fail
    refine (eqToks a2 a1 c2 c1 xs w2 (own2.toks hfit) (own12.toks hfit)).mono ?_
    rintro e w3 ⟨rfl, b3⟩
    have B3 : Below w.heap.size w w3 := B2.trans (b3.mono B2.size)
    have own23 := own2.below b3
    have own13 := own12.below b3
    have hsz13 : w1.heap.size ≤ w3.heap.size := Nat.le_trans b2.size b3.size
    go_wp2_with fail
    refine (markToks a2 c2 xs 1 w1.heap.size w3 own23 (by omega) (by omega) (by omega)).mono ?_
    rintro e w4 ⟨rfl, own4, g4⟩
    have own14 := own23.other own13 g4 L1.out
    have B4 : Below w.heap.size w w4 := B3.grown g4 B3.size (fun k hk => Nat.le_trans b1.size (own23.lt hk).1)
    have mfit := markTks_fit 1 xs.length (by omega)
    have G4 := Lib.hid g4
    clear g4 own2 own12 own23 own13 own1
    have hq0 : ¬ (((1 + 3 * xs.length : Nat) : Int) < 0) := by omega
    have hqq : (((1 + 3 * xs.length : Nat) : Int) != ((1 + 3 * xs.length : Nat) : Int)) = false := by simp
    have hheld : Hid (∀ W, OwnT W w1.heap.size a2 c2 (markTks 1 xs.length) → Calls Tryd.prog 18 #[.slice a2 xs.length c2, .int .i64 1] W fun e w' => e = .returned (.int .i64 ((1 + 3 * xs.length : Nat) : Int)) ∧ Below W.heap.size W w') := fun W ho => heldToks a2 c2 1 xs.length W (ho.toks mfit) (by omega) (by omega) (by omega)
    generalize ((1 + 3 * xs.length : Nat) : Int) = q at *
    have OWN4 := Lib.hid own4
    clear own4
    go_wp2_with fail
    refine (hheld.out _ OWN4.out).mono ?_
    rintro e w5 ⟨rfl, b5⟩
    have B5 : Below w.heap.size w w5 := B4.trans (b5.mono B4.size)
    have OWN5 := Lib.hid (OWN4.out.below b5)
    have own15 := own14.below b5
    go_wp2_with fail
    refine (HLEX.out w5 B5).mono ?_
    rintro e w6 ⟨a6, c6, rfl, own6, b6⟩
    have B6 : Below w.heap.size w w6 := B5.trans (b6.mono B5.size)
    have OWN6 := Lib.hid (OWN5.out.below b6)
    have own16 := own15.below b6
    go_wp2_with fail
    refine (eqToks a6 a1 c6 c1 xs w6 (own6.toks hfit) (own16.toks hfit)).mono ?_
    rintro e w7 ⟨rfl, b7⟩
    have B7 : Below w.heap.size w w7 := B6.trans (b7.mono B6.size)
    have OWN7 := Lib.hid (OWN6.out.below b7)
    go_wp2_with fail
    refine (hheld.out _ OWN7.out).mono ?_
    rintro e w8 ⟨rfl, b8⟩
    go_wp2_with fail
    go_ret
    exact ⟨rfl, B7.trans (b8.mono B7.size)⟩

end Go.Proofs.YtjnanlfahgjcbaaDoor
