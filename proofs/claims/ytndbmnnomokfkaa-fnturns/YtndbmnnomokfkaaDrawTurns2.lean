/- spec.DrawTurns draws two types. -/
import Derived.Test.YtndbmnnomokfkaaDrawTurns
namespace Go.Proofs.Ytndbmnnomokfkaa
open Go.RowKit

theorem gcells {W W' : World} {g : Nat} (hg : W.grownBy W' (some g)) : (∀ b o, b < W.heap.size → ¬ b = g → W'.cell? ⟨b, o, none⟩ = W.cell? ⟨b, o, none⟩) ∧ (∀ b o, b < W.heap.size → ¬ b = g → W'.frozen? ⟨b, o, none⟩ = W.frozen? ⟨b, o, none⟩) := by
  have hb : ∀ b, b < W.heap.size → ¬ b = g → W'.heap[b]? = W.heap[b]? := fun b h hne => hg.block b h (fun e => hne (by cases e; rfl))
  refine ⟨fun b o h hne => World.cell?_of_block (w := W) (w' := W') (a := ⟨b, o, none⟩) (hb b h hne), fun b o h hne => ?_⟩
  unfold World.frozen?
  rw [hb b h hne]

theorem below_store {B : Nat} {w0 w : World} (h : Below B w0 w) {q j : Nat} {v : Value} (hq : B ≤ q) (hB : B ≤ w.heap.size) : Below B w0 (w.setCell ⟨q, j, none⟩ v) :=
  h.grown (grown_set w q j v) hB (fun k hk => by cases hk; exact hq)

theorem set_size (W : World) (a : Addr) (v : Value) : (W.setCell a v).heap.size = W.heap.size := by simp [World.setCell]

/-- Three stores into a block of the call's own. -/
theorem below_store3 {B : Nat} {w0 w : World} (h : Below B w0 w) {q : Nat} {v0 v1 v2 : Value} (hq : B ≤ q) (hB : B ≤ w.heap.size) : Below B w0 (((w.setCell ⟨q, 0, none⟩ v0).setCell ⟨q, 1, none⟩ v1).setCell ⟨q, 2, none⟩ v2) :=
  below_store (below_store (below_store h hq hB) hq (by rw [set_size]; exact hB)) hq (by rw [set_size, set_size]; exact hB)

theorem Deck.set3 {w0 : World} {a : Option Addr} {c : Nat} {l : List UInt8} {g : Nat} {w : World} (h : Deck w0 a c l g w) {q : Nat} (hq : w0.heap.size ≤ q) (hne : q ≠ g) (v0 v1 v2 : Value) : Deck w0 a c l g (((w.setCell ⟨q, 0, none⟩ v0).setCell ⟨q, 1, none⟩ v1).setCell ⟨q, 2, none⟩ v2) :=
  ((h.kept (grown_set w q 0 v0) (fun k hk => by cases hk; exact ⟨hq, hne⟩)).kept (grown_set _ q 1 v1) (fun k hk => by cases hk; exact ⟨hq, hne⟩)).kept (grown_set _ q 2 v2) (fun k hk => by cases hk; exact ⟨hq, hne⟩)

theorem Deck.rebase {w W : World} {a : Option Addr} {c : Nat} {l : List UInt8} {g : Nat} {w1 : World} (h : Deck W a c l g w1) (hb : Bytes w a c l) (hB : Below w.heap.size w W) : Deck w a c l g w1 :=
  ⟨hb, h.short, hB.trans (h.below.mono hB.size), Nat.le_trans hB.size h.new, h.cur⟩

theorem drew_size (W : World) : W.drew.heap.size = W.heap.size := rfl

set_option maxRecDepth 100000 in
set_option maxHeartbeats 4000000 in
theorem specDrawTurns (a : Option Addr) (c : Nat) (l : List UInt8) (w : World) (hb : Bytes w a c l) (hs : l.length ≤ 1048576) :
    Calls Try.prog 9 #[.slice a l.length c] w fun e w' => ∃ (k n : Int) (s : ByteArray) (k' n' : Int) (s' : ByteArray), e = .returned (.tuple #[.agg #[.int .i64 k, .int .i64 n, .string s], .agg #[.int .i64 k', .int .i64 n', .string s']]) ∧ Below w.heap.size w w' := by
  have bW : Below w.heap.size w ((w.alloc (.cells #[.int .i64 0, .int .i64 0, .string ⟨#[]⟩] 25)).alloc (.cells #[.int .i64 0, .int .i64 0, .string ⟨#[]⟩] 25)) := below2 _ _ _
  have R0 := (tyRow_new w 0 0 ⟨#[]⟩).alloc (.cells #[.int .i64 0, .int .i64 0, .string ⟨#[]⟩] 25)
  have R1 := tyRow_new (w.alloc (.cells #[.int .i64 0, .int .i64 0, .string ⟨#[]⟩] 25)) 0 0 ⟨#[]⟩
  have hz1 : (w.alloc (.cells #[.int .i64 0, .int .i64 0, .string ⟨#[]⟩] 25)).heap.size = w.heap.size + 1 := by simp
  rw [hz1] at R1
  clear hz1
  have hbW := hb.below bW
  have hzW : ((w.alloc (.cells #[.int .i64 0, .int .i64 0, .string ⟨#[]⟩] 25)).alloc (.cells #[.int .i64 0, .int .i64 0, .string ⟨#[]⟩] 25)).heap.size = w.heap.size + 2 := by simp
  have HbW := Lib.hid hbW
  have Hb := Lib.hid hb
  have HR0 := Lib.hid R0
  have HR1 := Lib.hid R1
  have HB := Lib.hid bW
  have HZ := Lib.hid hzW
  clear hb R0 R1 bW hzW hbW
  go_enter Try.func9, Try.ntmps9
  go_wp2_with fail
  generalize (w.alloc (.cells #[.int .i64 0, .int .i64 0, .string ⟨#[]⟩] 25)).alloc (.cells #[.int .i64 0, .int .i64 0, .string ⟨#[]⟩] 25) = W at HbW HR0 HR1 HB HZ ⊢
  refine (l01New a c l _ HbW.out hs).mono ?_
  rintro e w1 ⟨rfl, hd1', hb1, hz1⟩
  have hd1 := hd1'.rebase Hb.out HB.out
  clear hd1'
  have hg1 : W.heap.size = w.heap.size + 2 := HZ.out
  have HA0 := Lib.hid ((hb1.block _ HR0.out.lt).trans HR0.out)
  have HA1 := Lib.hid ((hb1.block _ HR1.out.lt).trans HR1.out)
  rw [hg1] at hd1 ⊢
  clear hz1 hb1
  go_wp2_with fail
  refine (l03AnyType hd1).mono ?_
  rintro e w2 ⟨v, ⟨k, n, s, rfl⟩, rfl, hd2, hg2⟩
  have r0 := (TyRow.kept HA0.out hg2 (by omega)).alloc (.cells #[.int .i64 k, .int .i64 n, .string s] 25)
  have r1 := (TyRow.kept HA1.out hg2 (by omega)).alloc (.cells #[.int .i64 k, .int .i64 n, .string s] 25)
  have rT := tyRow_new w2 k n s
  have hdT := hd2.alloc (.cells #[.int .i64 k, .int .i64 n, .string s] 25)
  have hT : w.heap.size + 2 < w2.heap.size := hd2.lt
  clear hd2 hg2 hd1
  have H0 := Lib.hid r0
  have H1 := Lib.hid r1
  have HT := Lib.hid rT
  have HD := Lib.hid hdT
  clear r0 r1 rT hdT
  go_wp2_with fail
  generalize w2.alloc (.cells #[.int .i64 k, .int .i64 n, .string s] 25) = W3 at H0 H1 HT HD ⊢
  generalize w2.heap.size = T at HT hT ⊢
  have l0 := H0.out.lt
  have l1 := H1.out.lt
  have lT := HT.out.lt
  obtain ⟨c0, c1, c2, cf⟩ := H0.out.cells
  obtain ⟨d0, d1, d2, df⟩ := H1.out.cells
  obtain ⟨t0, t1, t2, tf⟩ := HT.out.cells
  have x1 : ¬ T = w.heap.size := by omega
  have x2 : ¬ T = w.heap.size + 1 := by omega
  have x3 : ¬ w.heap.size = T := by omega
  have x4 : ¬ w.heap.size + 1 = T := by omega
  have x5 : ¬ T = w.heap.size + 2 := by omega
  have hsz := set_size
  have HdA : Hid (Deck w a c l (w.heap.size + 2) W3.drew) := HD.out.belowed ⟨rfl, rfl, rfl, Nat.le_refl _, fun _ _ => rfl⟩
  have HdB : Hid (∀ v0 v1 v2, Deck w a c l (w.heap.size + 2) (((W3.drew.setCell ⟨w.heap.size, 0, none⟩ v0).setCell ⟨w.heap.size, 1, none⟩ v1).setCell ⟨w.heap.size, 2, none⟩ v2)) := by
    exact fun v0 v1 v2 => HdA.out.set3 (Nat.le_refl _) (by omega) v0 v1 v2
  have hst : Hid (∀ A B : World, T < A.heap.size → (A.cell? ⟨T, 0, none⟩ = some (.int .i64 k) ∧ A.cell? ⟨T, 1, none⟩ = some (.int .i64 n) ∧ A.cell? ⟨T, 2, none⟩ = some (.string s)) → A.grownBy B (some (w.heap.size + 2)) → (B.cell? ⟨T, 0, none⟩ = some (.int .i64 k) ∧ B.cell? ⟨T, 1, none⟩ = some (.int .i64 n) ∧ B.cell? ⟨T, 2, none⟩ = some (.string s))) :=
    fun A B hlt h hg => ⟨((gcells hg).1 T 0 hlt x5).trans h.1, ((gcells hg).1 T 1 hlt x5).trans h.2.1, ((gcells hg).1 T 2 hlt x5).trans h.2.2⟩
  go_region_held3 (fun w' => w'.cell? ⟨T, 0, none⟩ = some (.int .i64 k) ∧ w'.cell? ⟨T, 1, none⟩ = some (.int .i64 n) ∧ w'.cell? ⟨T, 2, none⟩ = some (.string s))
    (go_keep)
    ((go_at_call 21; refine (l03AnyType (by first | exact HdA.out | exact HdB.out _ _ _)).mono ?_; rintro e w5 ⟨v, ⟨k', n', s', rfl⟩, rfl, hd5, hg5⟩; obtain ⟨hcw, hfw⟩ := gcells hg5; obtain ⟨u0, u1, u2⟩ := hst.out _ _ (by simp only [set_size, drew_size]; exact lT) (by assumption) hg5; simp only [set_size, drew_size] at hcw hfw; have HD5 := Lib.hid hd5; clear hd5 hg5))
  all_goals go_wp2_with fail
  all_goals refine bodyPost_ret (v := .tuple #[.agg #[.int .i64 k, .int .i64 n, .string s], .agg #[.int .i64 k', .int .i64 n', .string s']]) (by simp [results, Try.results9, go_sem, *]) rfl ⟨k, n, s, k', n', s', rfl, ?_⟩
  all_goals have b5 := HD5.out.below
  all_goals first
    | exact below_store3 (below_store3 b5 (Nat.le_refl _) b5.size) (Nat.le_succ _) (by simp only [set_size]; exact b5.size)
    | exact below_store3 (below_store3 b5 (Nat.le_succ _) b5.size) (Nat.le_refl _) (by simp only [set_size]; exact b5.size)
    | exact below_store3 b5 (Nat.le_succ _) b5.size

end Go.Proofs.Ytndbmnnomokfkaa
