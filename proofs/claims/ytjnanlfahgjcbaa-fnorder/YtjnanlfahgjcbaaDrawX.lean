/- The draws, told exactly: which state the generator comes to. -/
import Derived.Test.YtjnanlfahgjcbaaDraw
import Derived.Test.YtjnanlfahgjcbaaPeriod
namespace Go.Proofs.Ytjnanlfahgjcbaa
open Go.RowKit

/-- The cursor's place and the generator's state. -/
def curOf (w : World) (g : Nat) : Int × Int :=
  match w.heap[g]? with
  | some (.cells cs _ _) => ((match cs[1]? with | some (Value.int _ i) => i | _ => 0), (match cs[2]? with | some (Value.int _ h) => h | _ => 0))
  | _ => (0, 0)

theorem curOf_eq {w : World} {g : Nat} {v : Value} {i h : Int} {t : TypeId} {z : Nat × Nat} (hg : w.heap[g]? = some (.cells #[v, .int .i64 i, .int .i64 h] t z)) : curOf w g = (i, h) := by
  unfold curOf
  rw [hg]
  rfl

theorem curOf_same {w w' : World} {g : Nat} (h : w'.heap[g]? = w.heap[g]?) : curOf w' g = curOf w g := by
  unfold curOf
  rw [h]

theorem curOf_drewN (w : World) (n g : Nat) : curOf (w.drewN n) g = curOf w g := rfl

def drawX (h1 : Int) : Int := bits BinOp.and IntKind.i64 (bits BinOp.xor IntKind.i64 (h1 / 8589934592) (h1 / 35184372088832)) 255

/-- One draw: a byte of the code is read, or, where none is left, the generator tells. -/
structure Turn (L g : Nat) (w w' : World) (f : Int → Int) (x : Int) : Prop where
  read : (curOf w g).1 < L → (curOf w' g).1 = (curOf w g).1 + 1
  done : ¬ (curOf w g).1 < L → (curOf w' g).1 = (curOf w g).1 ∧ (curOf w' g).2 = stepH (curOf w g).2 ∧ x = f (drawX (stepH (curOf w g).2))

def DrawnX (w0 : World) (a : Option Addr) (c : Nat) (l : List UInt8) (g : Nat) (w : World) (f : Int → Int) (lo hi : Int) (e : Ending) (w' : World) : Prop :=
  ∃ x : Int, e = .returned (.int .i64 x) ∧ lo ≤ x ∧ x ≤ hi ∧ Deck w0 a c l g w' ∧ w.grownBy w' (some g) ∧ Turn l.length g w w' f x

set_option maxHeartbeats 1000000 in
theorem l01ByteX {w0 : World} {a : Option Addr} {c : Nat} {l : List UInt8} {g : Nat} {w : World} (hd : Deck w0 a c l g w) :
    Calls Try.prog 33 #[.pointer (some ⟨g, 0, none⟩)] w (DrawnX w0 a c l g w (fun x => x) 0 255) := by
  obtain ⟨i, h, hi0, hi1, hg⟩ := hd.cur
  have c0 : w.cell? ⟨g, 0, none⟩ = some (.slice a l.length c) := by rw [cell_of_row _ _ _ _ _ _ hg]; rfl
  have c1 : w.cell? ⟨g, 1, none⟩ = some (.int .i64 i) := by rw [cell_of_row _ _ _ _ _ _ hg]; rfl
  have c2 : w.cell? ⟨g, 2, none⟩ = some (.int .i64 h) := by rw [cell_of_row _ _ _ _ _ _ hg]; rfl
  have f0 : ∀ j, w.frozen? ⟨g, j, none⟩ = false := fun j => frozen_of_row _ _ _ _ _ hg
  have f1 := f0 1
  have f2 := f0 2
  have hs := hd.short
  have hset : ∀ v, (w.setCell ⟨g, 2, none⟩ v).heap[g]? = some (.cells #[.slice a l.length c, .int .i64 i, v] 64 (0, 0)) := fun v => by
    rw [heap_setCell_same w g 2 _ _ _ hg]; rfl
  have HS := Lib.hid hset
  by_cases hlt : i < l.length
  · obtain ⟨k, rfl⟩ := Int.eq_ofNat_of_zero_le hi0
    have hk : k < l.length := by omega
    obtain ⟨b, off, rfl, hbl, hcs⟩ := hd.bytes.2.2.2 (by omega)
    have hbg : ¬ b = g := by have := hd.new; omega
    have hcb : w.cell? ⟨b, off + k, none⟩ = some (.int .u8 (l[k].toNat : Int)) := (hd.below.cell (p := ⟨b, off + k, none⟩) hbl).trans (hcs k hk)
    have HD := Lib.hid hd
    have HG := Lib.hid hg
    clear f0 hd hg hcs hset
    have hby : (l[k].toNat : Int) ≤ 255 := by have := UInt8.toNat_lt l[k]; omega
    go_enter Try.func33, Try.ntmps33
    go_wp2
    generalize hh1 : wrap64 (wrap64 (h * 6364136223846793005) + 1442695040888963407) = h1
    have HH1 := Lib.hid hh1
    clear hh1
    go_quiet (fail)
    go_wp2
    generalize hx0 : bits BinOp.and IntKind.i64 (bits BinOp.xor IntKind.i64 (h1 / 8589934592) (h1 / 35184372088832)) 255 = x0
    have hb0 : 0 ≤ x0 ∧ x0 ≤ 255 := by rw [← hx0, i64_low8]; omega
    obtain ⟨hb1, hb2⟩ := hb0
    have HX0 := Lib.hid hx0
    clear hx0
    go_quiet (fail)
    go_wp2
    go_quiet (fail)
    go_wp2
    go_ret
    have hW : ∀ m, w.grownBy (((w.setCell ⟨g, 2, none⟩ (.int .i64 h1)).drewN m).setCell ⟨g, 1, none⟩ (.int .i64 ((k : Int) + 1))) (some g) := fun m => grown_trans (grown_drewN (grown_set _ _ _ _) m) (grown_set _ _ _ _)
    have hH : ∀ m, (((w.setCell ⟨g, 2, none⟩ (.int .i64 h1)).drewN m).setCell ⟨g, 1, none⟩ (.int .i64 ((k : Int) + 1))).heap[g]? = some (.cells #[.slice (some ⟨b, off, none⟩) l.length c, .int .i64 ((k : Int) + 1), .int .i64 h1] 64 (0, 0)) := by
      intro m; rw [heap_setCell_same _ g 1 _ _ _ (show ((w.setCell ⟨g, 2, none⟩ (.int .i64 h1)).drewN m).heap[g]? = _ from HS.out _)]; rfl
    refine ⟨_, rfl, by rw [i64_low8]; omega, by rw [i64_low8]; omega, ?_, ?_, ⟨fun _ => ?_, fun hn => ?_⟩⟩
    · exact Deck.turned HD.out HG.out (hW _) (by omega) (by omega) (hH _)
    · exact hW _
    · rw [curOf_eq (hH _), curOf_eq HG.out]
    · rw [curOf_eq HG.out] at hn; exact absurd (show (k : Int) < (l.length : Int) by omega) hn
  · have HD := Lib.hid hd
    have HG := Lib.hid hg
    clear f0 hd hg hset
    go_enter Try.func33, Try.ntmps33
    go_wp2
    generalize hh1 : wrap64 (wrap64 (h * 6364136223846793005) + 1442695040888963407) = h1
    have HH1 := Lib.hid hh1
    clear hh1
    go_quiet (fail)
    go_wp2
    generalize hx0 : bits BinOp.and IntKind.i64 (bits BinOp.xor IntKind.i64 (h1 / 8589934592) (h1 / 35184372088832)) 255 = x0
    have hb0 : 0 ≤ x0 ∧ x0 ≤ 255 := by rw [← hx0, i64_low8]; omega
    have HX0 := Lib.hid hx0
    clear hx0
    go_quiet (fail)
    go_wp2
    go_ret
    have hW : w.grownBy (w.setCell ⟨g, 2, none⟩ (.int .i64 h1)) (some g) := grown_set _ _ _ _
    refine ⟨_, rfl, hb0.1, hb0.2, ?_, ?_, ⟨fun hn => ?_, fun _ => ?_⟩⟩
    · exact Deck.turned HD.out HG.out (grown_drewN (grown_drewN hW _) _) hi0 hi1 (HS.out _)
    · exact grown_drewN (grown_drewN hW _) _
    · rw [curOf_eq HG.out] at hn; exact absurd (show i < (l.length : Int) from hn) (by omega)
    · rw [curOf_drewN, curOf_drewN, curOf_eq (HS.out _), curOf_eq HG.out]
      exact ⟨rfl, HH1.out.symm, by rw [← HX0.out, ← HH1.out]; rfl⟩

theorem l01BelowX {w0 : World} {a : Option Addr} {c : Nat} {l : List UInt8} {g : Nat} {w : World} (hd : Deck w0 a c l g w) (n : Int) (hn0 : 1 ≤ n) (hn1 : n ≤ 256) :
    Calls Try.prog 21 #[.pointer (some ⟨g, 0, none⟩), .int .i64 n] w (DrawnX w0 a c l g w (fun x => x % n) 0 (n - 1)) := by
  have hne : ¬ n = 0 := by omega
  go_enter Try.func21, Try.ntmps21
  go_wp2_with (go_at_call 33; refine (l01ByteX hd).mono ?_; rintro e w1 ⟨x, rfl, hx0, hx1, hd1, hg1, ht⟩)
  go_ret
  exact ⟨_, rfl, Int.emod_nonneg _ hne, by have := Int.emod_lt_of_pos x (show 0 < n by omega); omega, hd1, hg1, ⟨ht.read, fun hn => ⟨(ht.done hn).1, (ht.done hn).2.1, by rw [(ht.done hn).2.2]⟩⟩⟩

/-- What is left to draw till a byte is written. -/
noncomputable def muW (L g : Nat) (w : World) : Nat := (L - (curOf w g).1).toNat * 2 ^ 65 + farH (curOf w g).2

theorem muW_same {L g : Nat} {w w' : World} (h : w'.heap[g]? = w.heap[g]?) : muW L g w' = muW L g w := by
  unfold muW
  rw [curOf_same h]

theorem Deck.curOf {w0 : World} {a : Option Addr} {c : Nat} {l : List UInt8} {g : Nat} {w : World} (hd : Deck w0 a c l g w) : 0 ≤ (curOf w g).1 ∧ (curOf w g).1 ≤ l.length := by
  obtain ⟨i, h, h0, h1, hg⟩ := hd.cur
  rw [curOf_eq hg]
  exact ⟨h0, h1⟩

theorem muW_lt {w0 : World} {a : Option Addr} {c : Nat} {l : List UInt8} {g : Nat} {w : World} (hd : Deck w0 a c l g w) : muW l.length g w < 2 ^ 87 := by
  have h1 := hd.curOf
  have h2 := farH_lt (curOf w g).2
  have h3 := hd.short
  unfold muW
  omega

theorem good0 : drawX (stepH goal0) % 5 = 0 := by kernel_rfl
theorem good1 : drawX (stepH goal1) % 5 = 4 := by kernel_rfl
theorem good2 : drawX (stepH goal2) % 5 = 4 := by kernel_rfl

theorem none_of {h x : Int} (hx : x = drawX (stepH h) % 5) (h1 : x = 1 ∨ x = 2) : h ≠ goal0 ∧ h ≠ goal1 ∧ h ≠ goal2 := by
  refine ⟨?_, ?_, ?_⟩ <;> rintro rfl
  · rw [good0] at hx; omega
  · rw [good1] at hx; omega
  · rw [good2] at hx; omega

theorem muW_one {L g : Nat} {w w1 : World} {x : Int} (hL : (curOf w g).1 ≤ L) (t : Turn L g w w1 (fun x => x % 5) x) (hx : x = 1 ∨ x = 2) : muW L g w1 < muW L g w := by
  unfold muW
  by_cases hr : (curOf w g).1 < L
  · have h1 := t.read hr
    have h2 := farH_lt (curOf w1 g).2
    omega
  · obtain ⟨h1, h2, h3⟩ := t.done hr
    obtain ⟨n0, n1, n2⟩ := none_of h3 hx
    have := (nearer n0 n1 n2).1
    rw [h1, h2]
    omega

theorem Turn.mono {L g : Nat} {w w1 : World} {f : Int → Int} {x : Int} (t : Turn L g w w1 f x) : (curOf w g).1 ≤ (curOf w1 g).1 := by
  by_cases hr : (curOf w g).1 < L
  · have h1 := t.read hr; omega
  · have h1 := (t.done hr).1; omega

theorem muW_three {L g : Nat} {w w1 w2 w3 : World} {x y z : Int} {f f' : Int → Int} (hL : (curOf w g).1 ≤ L) (t : Turn L g w w1 (fun x => x % 5) x) (t1 : Turn L g w1 w2 f y) (t2 : Turn L g w2 w3 f' z) (hx : x = 1 ∨ x = 2) : muW L g w3 < muW L g w := by
  unfold muW
  by_cases hr : (curOf w g).1 < L
  · have h1 := t.read hr
    have h2 := farH_lt (curOf w3 g).2
    have h3 := t1.mono
    have h4 := t2.mono
    omega
  · obtain ⟨h1, h2, h3⟩ := t.done hr
    obtain ⟨h4, h5, _⟩ := t1.done (by omega)
    obtain ⟨h6, h7, _⟩ := t2.done (by omega)
    obtain ⟨n0, n1, n2⟩ := none_of h3 hx
    have := (nearer n0 n1 n2).2
    rw [h7, h5, h2, h6, h4, h1]
    omega

end Go.Proofs.Ytjnanlfahgjcbaa
