/- spec.l04Put writes the text of a right expression. -/
/- spec.l04Put: two kids; the whole; spec.PutExpr. -/
/- impl.exprText, operandText: leaves, one kid. -/
import Derived.Test.YtgnillmhpockkaaGreatDoorMLexImplA
import Derived.Test.YtgnillmhpockkaaGreatDoorMOkW
import Derived.Test.YtgnillmhpockkaaGreatDoorMExprN
import Derived.Deep.RegionHeld3
import Derived.Test.YtgnillmhpockkaaGreatDoorMRdr7
import Derived.Test.YtgnillmhpockkaaGreatDoorMDecImpl
namespace Go.Proofs.YtgnillmhpockkaaGreatDoor
open Go.RowKit

def PutP (d : Nat) : Prop := ∀ (e : Ex) (a : Option Addr) (c : Nat) (L : Nat) (w : World), shapeE e = true → e.nodes ≤ 40 → L ≤ 7 → KidsAt w d a c e.kids →
  Calls Tryz.prog 51 #[.agg #[.int .i64 e.kind, .string e.text, .int .i64 e.num, .slice a e.kids.length c], .int .i64 (L : Int)] w fun x w' => x = .returned (.string (tE e L)) ∧ Below w.heap.size w w'

theorem specBindsB (k : Int) (h0 : 0 ≤ k) (h1 : k ≤ 18) (w : World) (b : Int) (hb : (bindsK k : Int) = b) : Calls Tryz.prog 85 #[.int .i64 k] w fun e w' => e = .returned (.int .i64 b) ∧ w' = w := by
  subst hb; exact specBinds k h0 h1 w

/-- The last lines: brackets or none. -/
theorem tE_end {e : Ex} {L : Nat} {s : ByteArray} (hs : s = tE e 1) : (bindsK e.kind < L → tE e L = txt [40] ++ s ++ txt [41]) ∧ (¬ bindsK e.kind < L → tE e L = s) := by
  subst hs
  exact ⟨tE_in, tE_out⟩

theorem shape_parts {k : Int} {t : ByteArray} {n : Int} {kids : List Ex} (h : shapeE (.mk k t n kids) = true) : node1 k t n kids.length = true ∧ shapeL kids = true := by
  rw [shapeE, Bool.and_eq_true] at h; exact h

theorem kind_in {k : Int} {t : ByteArray} {n : Int} {m : Nat} (h : node1 k t n m = true) : 0 ≤ k ∧ k ≤ 18 := by
  have := arity h
  unfold kidsK at this
  split at this
  · omega
  · omega

theorem small_text {k : Int} {t : ByteArray} {n : Int} {m : Nat} (h : node1 k t n m = true) : t.size ≤ 100 := by
  unfold node1 at h
  simp only [Bool.and_eq_true] at h
  obtain ⟨⟨_, ht⟩, _⟩ := h
  split at ht
  · unfold nameB at ht
    simp only [Bool.and_eq_true, decide_eq_true_eq] at ht
    have hl : t.data.toList.length = t.size := by simp
    omega
  · split at ht
    · simpa using ht
    · have : t = txt [] := txt_empty ht
      rw [this]; decide

theorem small_num {k : Int} {t : ByteArray} {n : Int} {m : Nat} (h : node1 k t n m = true) : 0 ≤ n ∧ n ≤ 999999999 := by
  unfold node1 at h
  simp only [Bool.and_eq_true] at h
  have := h.2
  split at this
  · simpa using this
  · have : n = 0 := by simpa using this
    omega

set_option maxRecDepth 100000 in
set_option maxHeartbeats 4000000 in
/-- A leaf. -/
theorem putLeaf (k : Int) (t : ByteArray) (n : Int) (a : Option Addr) (c : Nat) (L : Nat) (w : World) (h : node1 k t n 0 = true) (hL : L ≤ 7) :
    Calls Tryz.prog 51 #[.agg #[.int .i64 k, .string t, .int .i64 n, .slice a 0 c], .int .i64 (L : Int)] w fun x w' => x = .returned (.string (tE (.mk k t n []) L)) ∧ Below w.heap.size w w' := by
  have hk := zero_kids (arity h)
  have hts := small_text h
  have hns := small_num h
  have HR : Hid (tE (.mk k t n []) L = tE (.mk k t n []) 1) := tE_out (by
    have : bindsK k = 7 := by rcases hk with rfl | rfl | rfl | rfl | rfl | rfl <;> rfl
    show ¬ bindsK k < L
    omega)
  have HBX := Lib.hid (fun T => boxK_new w k t n a 0 c T)
  have hd : decide ((7 : Int) < (L : Int)) = false := by simp; omega
  clear h
  rcases hk with rfl | rfl | rfl | rfl | rfl | rfl
  · have hq : ∃ r, nameT t = r := ⟨_, rfl⟩
    obtain ⟨r, hr⟩ := hq
    have HE : Hid (tE (.mk 0 t n []) L = r) := by unfold Hid; rw [HR.out, tE_name, hr]
    go_enter Tryz.func51, Tryz.ntmps51
    go_wp2_with (first | (go_at_call 85; refine (specBindsB 0 (by omega) (by omega) _ 7 rfl).mono ?_; rintro e w1 ⟨rfl, rfl⟩) | (go_at_call 11; refine (specPutName t _ (by omega) r hr).mono ?_; rintro e w2 ⟨rfl, hb2⟩))
    go_ret
    exact ⟨by rw [HE.out]; rfl, ((HBX.out _).below hb2).bel⟩
  · have HE : Hid (tE (.mk 1 t n []) L = dec n) := by unfold Hid; rw [HR.out, tE_num]
    go_enter Tryz.func51, Tryz.ntmps51
    go_wp2_with (first | (go_at_call 85; refine (specBindsB 1 (by omega) (by omega) _ 7 rfl).mono ?_; rintro e w1 ⟨rfl, rfl⟩) | (go_at_call 25; refine (specDecText n _ (by omega) (by omega)).mono ?_; rintro e w2 ⟨rfl, rfl⟩))
    go_ret
    exact ⟨by rw [HE.out]; rfl, (HBX.out _).bel⟩
  · have HE : Hid (tE (.mk 2 t n []) L = quoteT t 39) := by unfold Hid; rw [HR.out, tE_text]
    go_enter Tryz.func51, Tryz.ntmps51
    go_wp2_with (first | (go_at_call 85; refine (specBindsB 2 (by omega) (by omega) _ 7 rfl).mono ?_; rintro e w1 ⟨rfl, rfl⟩) | (go_at_call 39; refine (specQuote t 39 _ (by omega)).mono ?_; rintro e w2 ⟨rfl, hb2⟩))
    go_ret
    exact ⟨by rw [HE.out]; rfl, ((HBX.out _).below hb2).bel⟩
  · have HE : Hid (tE (.mk 3 t n []) L = txt wTrue) := by unfold Hid; rw [HR.out, tE_true]
    go_enter Tryz.func51, Tryz.ntmps51
    go_wp2_with (go_at_call 85; refine (specBindsB 3 (by omega) (by omega) _ 7 rfl).mono ?_; rintro e w1 ⟨rfl, rfl⟩)
    go_ret
    exact ⟨by rw [HE.out]; rfl, (HBX.out _).bel⟩
  · have HE : Hid (tE (.mk 4 t n []) L = txt wFalse) := by unfold Hid; rw [HR.out, tE_false]
    go_enter Tryz.func51, Tryz.ntmps51
    go_wp2_with (go_at_call 85; refine (specBindsB 4 (by omega) (by omega) _ 7 rfl).mono ?_; rintro e w1 ⟨rfl, rfl⟩)
    go_ret
    exact ⟨by rw [HE.out]; rfl, (HBX.out _).bel⟩
  · have HE : Hid (tE (.mk 5 t n []) L = txt wNull) := by unfold Hid; rw [HR.out, tE_nul]
    go_enter Tryz.func51, Tryz.ntmps51
    go_wp2_with (go_at_call 85; refine (specBindsB 5 (by omega) (by omega) _ 7 rfl).mono ?_; rintro e w1 ⟨rfl, rfl⟩)
    go_ret
    exact ⟨by rw [HE.out]; rfl, (HBX.out _).bel⟩

set_option maxRecDepth 100000 in
set_option maxHeartbeats 4000000 in
/-- A not, or an is null. -/
theorem putOne (d : Nat) (ih : PutP d) (k : Int) (hk : k = 6 ∨ k = 7) (t : ByteArray) (n : Int) (x : Ex) (a : Option Addr) (c : Nat) (L : Nat) (w : World) (hs : shapeE x = true) (hn : x.nodes ≤ 39) (hL : L ≤ 7) (hx : KidsAt w (d + 1) a c [x]) :
    Calls Tryz.prog 51 #[.agg #[.int .i64 k, .string t, .int .i64 n, .slice a 1 c], .int .i64 (L : Int)] w fun z w' => z = .returned (.string (tE (.mk k t n [x]) L)) ∧ Below w.heap.size w w' := by
  have HBX := Lib.hid (fun T => boxK_new w k t n a 1 c T)
  have HK := Lib.hid (fun w' hb => hx.below (w' := w') hb)
  clear hx
  have l1 : (ByteArray.mk #[110, 111, 116, 32]).size = 4 := rfl
  have l2 : (ByteArray.mk #[32, 105, 115, 32, 110, 117, 108, 108]).size = 8 := rfl
  have l3 : (ByteArray.mk #[40]).size = 1 := rfl
  have l4 : (ByteArray.mk #[41]).size = 1 := rfl
  rcases hk with rfl | rfl
  · obtain ⟨s, hs1⟩ : ∃ s, s = tE x 3 := ⟨_, rfl⟩
    have hsz : s.size ≤ 8400 := by rw [hs1]; exact tE_size hs (by omega)
    have HE := Lib.hid (tE_end (e := .mk 6 t n [x]) (L := L) (s := (ByteArray.mk #[110, 111, 116, 32]) ++ s) (by rw [tE_not, hs1]; rfl))
    have HS := Lib.hid hs1
    clear hs1
    have ad0 : ∀ w, (Op.stringOp .add (ByteArray.mk #[110, 111, 116, 32]) s).run Tryz.prog w = .ok (.string ((ByteArray.mk #[110, 111, 116, 32]) ++ s)) w := fun w => run_string_add_sum w _ _ (by omega)
    obtain ⟨s1, hs1⟩ : ∃ s1, s1 = (ByteArray.mk #[110, 111, 116, 32]) ++ s := ⟨_, rfl⟩
    rw [← hs1] at ad0 HE
    have hs1z : s1.size ≤ 8404 := by rw [hs1, ByteArray.size_append]; omega
    clear hs1
    have ad1 : ∀ w, (Op.stringOp .add (ByteArray.mk #[40]) s1).run Tryz.prog w = .ok (.string ((ByteArray.mk #[40]) ++ s1)) w := fun w => run_string_add_sum w _ _ (by omega)
    have ad2 : ∀ w, (Op.stringOp .add ((ByteArray.mk #[40]) ++ s1) (ByteArray.mk #[41])).run Tryz.prog w = .ok (.string ((ByteArray.mk #[40]) ++ s1 ++ (ByteArray.mk #[41]))) w := fun w => run_string_add_sum w _ _ (by rw [ByteArray.size_append]; omega)
    go_enter Tryz.func51, Tryz.ntmps51
    go_wp2_with fail
    refine (specBindsB 6 (by omega) (by omega) _ 3 rfl).mono ?_
    rintro e w1 ⟨rfl, rfl⟩
    have BX := HBX.out 32
    generalize w.alloc (.cells #[.int .i64 6, .string t, .int .i64 n, .slice a 1 c] 32) = W1 at BX ⊢
    obtain ⟨hW1, c0, c1, c2, c3, bW1⟩ := BX
    obtain ⟨b, off, rfl, hbl, d0, d1, d2, hfit, a', c', d3, hkid⟩ := (HK.out _ bW1).spot (i := 0) (by simp)
    simp only [List.getElem_cons_zero, Nat.zero_mul, Nat.add_zero] at d0 d1 d2 d3 hkid hfit
    have HX := Lib.hid hkid
    clear hkid
    go_wp2_with fail
    refine (ih x a' c' 3 _ hs (by omega) (by omega) HX.out).mono ?_
    rw [← HS.out]
    rintro z w2 ⟨rfl, hb2⟩
    have B2 := Lib.hid (bW1.trans (hb2.mono bW1.size))
    clear hb2 d0 d1 d2 d3
    by_cases hlt : (3 : Int) < (L : Int)
    · have HR := Lib.hid (HE.out.1 (by show 3 < L; omega))
      go_wp2_with fail
      go_ret
      exact ⟨by rw [HR.out]; rfl, B2.out⟩
    · have HR := Lib.hid (HE.out.2 (by show ¬ 3 < L; omega))
      go_wp2_with fail
      go_ret
      exact ⟨by rw [HR.out]; rfl, B2.out⟩
  · obtain ⟨s, hs1⟩ : ∃ s, s = tE x 5 := ⟨_, rfl⟩
    have hsz : s.size ≤ 8400 := by rw [hs1]; exact tE_size hs (by omega)
    have HE := Lib.hid (tE_end (e := .mk 7 t n [x]) (L := L) (s := s ++ (ByteArray.mk #[32, 105, 115, 32, 110, 117, 108, 108])) (by rw [tE_null, hs1]; rfl))
    have HS := Lib.hid hs1
    clear hs1
    have ad0 : ∀ w, (Op.stringOp .add s (ByteArray.mk #[32, 105, 115, 32, 110, 117, 108, 108])).run Tryz.prog w = .ok (.string (s ++ (ByteArray.mk #[32, 105, 115, 32, 110, 117, 108, 108]))) w := fun w => run_string_add_sum w _ _ (by omega)
    obtain ⟨s1, hs1⟩ : ∃ s1, s1 = s ++ (ByteArray.mk #[32, 105, 115, 32, 110, 117, 108, 108]) := ⟨_, rfl⟩
    rw [← hs1] at ad0 HE
    have hs1z : s1.size ≤ 8408 := by rw [hs1, ByteArray.size_append]; omega
    clear hs1
    have ad1 : ∀ w, (Op.stringOp .add (ByteArray.mk #[40]) s1).run Tryz.prog w = .ok (.string ((ByteArray.mk #[40]) ++ s1)) w := fun w => run_string_add_sum w _ _ (by omega)
    have ad2 : ∀ w, (Op.stringOp .add ((ByteArray.mk #[40]) ++ s1) (ByteArray.mk #[41])).run Tryz.prog w = .ok (.string ((ByteArray.mk #[40]) ++ s1 ++ (ByteArray.mk #[41]))) w := fun w => run_string_add_sum w _ _ (by rw [ByteArray.size_append]; omega)
    go_enter Tryz.func51, Tryz.ntmps51
    go_wp2_with fail
    refine (specBindsB 7 (by omega) (by omega) _ 4 rfl).mono ?_
    rintro e w1 ⟨rfl, rfl⟩
    have BX := HBX.out 32
    generalize w.alloc (.cells #[.int .i64 7, .string t, .int .i64 n, .slice a 1 c] 32) = W1 at BX ⊢
    obtain ⟨hW1, c0, c1, c2, c3, bW1⟩ := BX
    obtain ⟨b, off, rfl, hbl, d0, d1, d2, hfit, a', c', d3, hkid⟩ := (HK.out _ bW1).spot (i := 0) (by simp)
    simp only [List.getElem_cons_zero, Nat.zero_mul, Nat.add_zero] at d0 d1 d2 d3 hkid hfit
    have HX := Lib.hid hkid
    clear hkid
    go_wp2_with fail
    refine (ih x a' c' 5 _ hs (by omega) (by omega) HX.out).mono ?_
    rw [← HS.out]
    rintro z w2 ⟨rfl, hb2⟩
    have B2 := Lib.hid (bW1.trans (hb2.mono bW1.size))
    clear hb2 d0 d1 d2 d3
    by_cases hlt : (4 : Int) < (L : Int)
    · have HR := Lib.hid (HE.out.1 (by show 4 < L; omega))
      go_wp2_with fail
      go_ret
      exact ⟨by rw [HR.out]; rfl, B2.out⟩
    · have HR := Lib.hid (HE.out.2 (by show ¬ 4 < L; omega))
      go_wp2_with fail
      go_ret
      exact ⟨by rw [HR.out]; rfl, B2.out⟩

end Go.Proofs.YtgnillmhpockkaaGreatDoor

namespace Go.Proofs.YtgnillmhpockkaaGreatDoor
open Go.RowKit

/-- The argument's box and the two kids, cell by cell. -/
structure TwoK (n0 : Nat) (w : World) (k : Int) (bb off c : Nat) (x y : Ex) (ax ay : Option Addr) (cx cy d : Nat) (w' : World) : Prop where
  lt : n0 < w'.heap.size
  lb : bb < w'.heap.size
  k0 : w'.cell? ⟨n0, 0, none⟩ = some (.int .i64 k)
  k3 : w'.cell? ⟨n0, 3, none⟩ = some (.slice (some ⟨bb, off, none⟩) 2 c)
  x0 : w'.cell? ⟨bb, off, none⟩ = some (.int .i64 x.kind)
  x1 : w'.cell? ⟨bb, off + 1, none⟩ = some (.string x.text)
  x2 : w'.cell? ⟨bb, off + 2, none⟩ = some (.int .i64 x.num)
  x3 : w'.cell? ⟨bb, off + 3, none⟩ = some (.slice ax x.kids.length cx)
  y0 : w'.cell? ⟨bb, off + 4, none⟩ = some (.int .i64 y.kind)
  y1 : w'.cell? ⟨bb, off + 4 + 1, none⟩ = some (.string y.text)
  y2 : w'.cell? ⟨bb, off + 4 + 2, none⟩ = some (.int .i64 y.num)
  y3 : w'.cell? ⟨bb, off + 4 + 3, none⟩ = some (.slice ay y.kids.length cy)
  kx : KidsAt w' d ax cx x.kids
  ky : KidsAt w' d ay cy y.kids
  bel : Below w.heap.size w w'

theorem TwoK.below {n0 : Nat} {w wa wb : World} {k : Int} {bb off c : Nat} {x y : Ex} {ax ay : Option Addr} {cx cy d : Nat} (h : TwoK n0 w k bb off c x y ax ay cx cy d wa) (hb : Below wa.heap.size wa wb) : TwoK n0 w k bb off c x y ax ay cx cy d wb :=
  ⟨Nat.lt_of_lt_of_le h.lt hb.size, Nat.lt_of_lt_of_le h.lb hb.size, (hb.cell (p := ⟨n0, 0, none⟩) h.lt).trans h.k0, (hb.cell (p := ⟨n0, 3, none⟩) h.lt).trans h.k3,
   (hb.cell (p := ⟨bb, off, none⟩) h.lb).trans h.x0, (hb.cell (p := ⟨bb, off + 1, none⟩) h.lb).trans h.x1, (hb.cell (p := ⟨bb, off + 2, none⟩) h.lb).trans h.x2, (hb.cell (p := ⟨bb, off + 3, none⟩) h.lb).trans h.x3,
   (hb.cell (p := ⟨bb, off + 4, none⟩) h.lb).trans h.y0, (hb.cell (p := ⟨bb, off + 4 + 1, none⟩) h.lb).trans h.y1, (hb.cell (p := ⟨bb, off + 4 + 2, none⟩) h.lb).trans h.y2, (hb.cell (p := ⟨bb, off + 4 + 3, none⟩) h.lb).trans h.y3,
   h.kx.below hb, h.ky.below hb, h.bel.trans (hb.mono h.bel.size)⟩

theorem TwoK.drew {n0 : Nat} {w wa : World} {k : Int} {bb off c : Nat} {x y : Ex} {ax ay : Option Addr} {cx cy d : Nat} (h : TwoK n0 w k bb off c x y ax ay cx cy d wa) : TwoK n0 w k bb off c x y ax ay cx cy d wa.drew := h.below (below_drewE (Below.refl _ _))

def CellsT (n0 : Nat) (k : Int) (bb off c : Nat) (x y : Ex) (ax ay : Option Addr) (cx cy : Nat) (w' : World) : Prop :=
  w'.cell? ⟨n0, 0, none⟩ = some (.int .i64 k) ∧ w'.cell? ⟨n0, 3, none⟩ = some (.slice (some ⟨bb, off, none⟩) 2 c) ∧
  w'.cell? ⟨bb, off, none⟩ = some (.int .i64 x.kind) ∧ w'.cell? ⟨bb, off + 1, none⟩ = some (.string x.text) ∧ w'.cell? ⟨bb, off + 2, none⟩ = some (.int .i64 x.num) ∧ w'.cell? ⟨bb, off + 3, none⟩ = some (.slice ax x.kids.length cx) ∧
  w'.cell? ⟨bb, off + 4, none⟩ = some (.int .i64 y.kind) ∧ w'.cell? ⟨bb, off + 4 + 1, none⟩ = some (.string y.text) ∧ w'.cell? ⟨bb, off + 4 + 2, none⟩ = some (.int .i64 y.num) ∧ w'.cell? ⟨bb, off + 4 + 3, none⟩ = some (.slice ay y.kids.length cy)

theorem TwoK.cells {n0 : Nat} {w wa : World} {k : Int} {bb off c : Nat} {x y : Ex} {ax ay : Option Addr} {cx cy d : Nat} (h : TwoK n0 w k bb off c x y ax ay cx cy d wa) : CellsT n0 k bb off c x y ax ay cx cy wa :=
  ⟨h.k0, h.k3, h.x0, h.x1, h.x2, h.x3, h.y0, h.y1, h.y2, h.y3⟩

theorem specSignEB (k : Int) (h0 : 8 ≤ k) (h1 : k ≤ 18) (w : World) (s : ByteArray) (hs : txt (signK k) = s) : Calls Tryz.prog 86 #[.int .i64 k] w fun e w' => e = .returned (.string s) ∧ w' = w := by
  subst hs; exact specSignE k h0 h1 w

set_option maxRecDepth 100000 in
set_option maxHeartbeats 4000000 in
theorem putTwo (d : Nat) (ih : PutP d) (k : Int) (hk : k ∈ ([8, 9, 10, 11, 12, 13, 14, 15, 16, 17, 18] : List Int)) (t : ByteArray) (n : Int) (x y : Ex) (a : Option Addr) (c : Nat) (L : Nat) (w : World) (hsx : shapeE x = true) (hsy : shapeE y = true) (hn : x.nodes ≤ 39 ∧ y.nodes ≤ 39) (hL : L ≤ 7) (hx : KidsAt w (d + 1) a c [x, y]) :
    Calls Tryz.prog 51 #[.agg #[.int .i64 k, .string t, .int .i64 n, .slice a 2 c], .int .i64 (L : Int)] w fun z w' => z = .returned (.string (tE (.mk k t n [x, y]) L)) ∧ Below w.heap.size w w' := by
  have HBX := Lib.hid (fun T => boxK_new w k t n a 2 c T)
  have HK := Lib.hid (fun w' hb => hx.below (w' := w') hb)
  clear hx
  obtain ⟨hb6, hb3⟩ := two_binds hk
  have hb1 := (binds_range k).1
  have hk18 : 8 ≤ k ∧ k ≤ 18 := by
    have : ∀ k ∈ ([8, 9, 10, 11, 12, 13, 14, 15, 16, 17, 18] : List Int), 8 ≤ k ∧ k ≤ 18 := by decide
    exact this k hk
  have kb : (k == 0) = false ∧ (k == 1) = false ∧ (k == 2) = false ∧ (k == 3) = false ∧ (k == 4) = false ∧ (k == 5) = false ∧ (k == 6) = false ∧ (k == 7) = false := by
    refine ⟨?_, ?_, ?_, ?_, ?_, ?_, ?_, ?_⟩ <;> (simp; omega)
  obtain ⟨kb0, kb1, kb2, kb3, kb4, kb5, kb6, kb7⟩ := kb
  have l3 : (ByteArray.mk #[40]).size = 1 := rfl
  have l4 : (ByteArray.mk #[41]).size = 1 := rfl
  have l5 : (ByteArray.mk #[32]).size = 1 := rfl
  obtain ⟨rs, hrs⟩ : ∃ rs : Ex → Int → ByteArray, rs = fun z m => tE z m.toNat := ⟨_, rfl⟩
  obtain ⟨sg, hsg⟩ : ∃ sg, txt (signK k) = sg := ⟨_, rfl⟩
  obtain ⟨bI, hbI⟩ : ∃ bI : Int, (bindsK k : Int) = bI := ⟨_, rfl⟩
  obtain ⟨fi, hfi⟩ : ∃ fi : Int, (firstK k : Int) = fi := ⟨_, rfl⟩
  obtain ⟨si, hsi⟩ : ∃ si : Int, bI + 1 = si := ⟨_, rfl⟩
  have hw1 : IntKind.i64.wrap (bI + 1) = si := by rw [hsi]; exact IntWalk.i64_in _ (by omega)
  have hzx : (rs x fi).size ≤ 8400 := by rw [hrs]; exact tE_size hsx (by omega)
  have hzy : (rs y si).size ≤ 8400 := by rw [hrs]; exact tE_size hsy (by omega)
  have hzs : sg.size ≤ 3 := by rw [← hsg, txt_size]; exact (sign_no hk).2.2
  obtain ⟨p1, hp1⟩ : ∃ p, p = rs x fi ++ (ByteArray.mk #[32]) := ⟨_, rfl⟩
  obtain ⟨p2, hp2⟩ : ∃ p, p = p1 ++ sg := ⟨_, rfl⟩
  obtain ⟨p3, hp3⟩ : ∃ p, p = p2 ++ (ByteArray.mk #[32]) := ⟨_, rfl⟩
  obtain ⟨p4, hp4⟩ : ∃ p, p = p3 ++ rs y si := ⟨_, rfl⟩
  have z1 : p1.size ≤ 8401 := by rw [hp1, ByteArray.size_append]; omega
  have z2 : p2.size ≤ 8404 := by rw [hp2, ByteArray.size_append]; omega
  have z3 : p3.size ≤ 8405 := by rw [hp3, ByteArray.size_append]; omega
  have z4 : p4.size ≤ 16805 := by rw [hp4, ByteArray.size_append]; omega
  have ad1 : ∀ w, (Op.stringOp .add (rs x fi) (ByteArray.mk #[32])).run Tryz.prog w = .ok (.string p1) w := fun w => by rw [hp1]; exact run_string_add_sum w _ _ (by omega)
  have ad2 : ∀ w, (Op.stringOp .add p1 sg).run Tryz.prog w = .ok (.string p2) w := fun w => by rw [hp2]; exact run_string_add_sum w _ _ (by omega)
  have ad3 : ∀ w, (Op.stringOp .add p2 (ByteArray.mk #[32])).run Tryz.prog w = .ok (.string p3) w := fun w => by rw [hp3]; exact run_string_add_sum w _ _ (by omega)
  have ad4 : ∀ w, (Op.stringOp .add p3 (rs y si)).run Tryz.prog w = .ok (.string p4) w := fun w => by rw [hp4]; exact run_string_add_sum w _ _ (by omega)
  have ad5 : ∀ w, (Op.stringOp .add (ByteArray.mk #[40]) p4).run Tryz.prog w = .ok (.string ((ByteArray.mk #[40]) ++ p4)) w := fun w => run_string_add_sum w _ _ (by omega)
  have ad6 : ∀ w, (Op.stringOp .add ((ByteArray.mk #[40]) ++ p4) (ByteArray.mk #[41])).run Tryz.prog w = .ok (.string ((ByteArray.mk #[40]) ++ p4 ++ (ByteArray.mk #[41]))) w := fun w => run_string_add_sum w _ _ (by rw [ByteArray.size_append]; omega)
  have HE := Lib.hid (tE_end (e := .mk k t n [x, y]) (L := L) (s := p4) (by
    rw [tE_two hk, hp4, hp3, hp2, hp1, hrs, hsg, ← hsi, ← hbI, ← hfi]
    simp only [Int.toNat_natCast]
    rw [show ((bindsK k : Int) + 1).toNat = bindsK k + 1 by omega]
    rfl))
  have cxy : Hid (∀ (z : Ex) (za : Option Addr) (zc : Nat) (m : Int) (W : World), ((z = x ∧ m = fi) ∨ (z = y ∧ m = si)) → KidsAt W d za zc z.kids →
      Calls Tryz.prog 51 #[.agg #[.int .i64 z.kind, .string z.text, .int .i64 z.num, .slice za z.kids.length zc], .int .i64 m] W fun e w' => e = .returned (.string (rs z m)) ∧ Below W.heap.size W w') := by
    intro z za zc m W h hz
    have h7 : firstK k ≤ 7 := by unfold firstK; split <;> omega
    rcases h with ⟨rfl, rfl⟩ | ⟨rfl, rfl⟩
    · have := ih z za zc (firstK k) W hsx (by omega) h7 hz
      rw [hfi] at this
      rw [hrs]
      simp only
      rw [← hfi, Int.toNat_natCast, hfi]
      exact this
    · have := ih z za zc (bindsK k + 1) W hsy (by omega) (by omega) hz
      have e : ((bindsK k + 1 : Nat) : Int) = m := by rw [← hsi, ← hbI]; omega
      rw [e] at this
      rw [hrs]
      simp only
      rw [← e, Int.toNat_natCast, e]
      exact this
  have hfib : fi = if bI = 4 then 5 else bI := by
    rw [← hfi, ← hbI]
    unfold firstK
    split
    · rw [if_pos (by omega)]; rfl
    · rw [if_neg (by omega)]
  have HbI := Lib.hid hbI
  have HSG := Lib.hid hsg
  have hbr : 1 ≤ bI ∧ bI ≤ 6 := by omega
  clear hrs hsg hp1 hp2 hp3 hp4 hsi hfi hbI ih
  by_cases h4 : bI = 4
  · rw [if_pos h4] at hfib
    have hb4 : (bI == 4) = true := by simp; exact h4
    clear h4
    subst hfib
    go_enter Tryz.func51, Tryz.ntmps51
    go_wp2_with fail
    refine (specBindsB k (by omega) (by omega) _ bI HbI.out).mono ?_
    rintro e w1 ⟨rfl, rfl⟩
    have BX := HBX.out 32
    generalize w.alloc (.cells #[.int .i64 k, .string t, .int .i64 n, .slice a 2 c] 32) = W1 at BX ⊢
    obtain ⟨hW1, c0, c1, c2, c3, bW1⟩ := BX
    obtain ⟨b, off, rfl, hbl, d0, d1, d2, _, ax, cx, d3, hkx⟩ := (HK.out _ bW1).spot (i := 0) (by simp)
    obtain ⟨b', off', he, hbl', e0, e1, e2, _, ay, cy, e3, hky⟩ := (HK.out _ bW1).spot (i := 1) (by simp)
    cases he
    simp only [List.getElem_cons_zero, List.getElem_cons_succ, Nat.zero_mul, Nat.one_mul, Nat.add_zero] at d0 d1 d2 d3 hkx e0 e1 e2 e3 hky
    have T1 : Hid (TwoK w.heap.size w k b off c x y ax ay cx cy d W1) := ⟨hW1, hbl, c0, c3, d0, d1, d2, d3, e0, e1, e2, e3, hkx, hky, bW1⟩
    clear c0 c1 c2 c3 d0 d1 d2 d3 e0 e1 e2 e3 hkx hky
    obtain ⟨c0, c3, d0, d1, d2, d3, e0, e1, e2, e3⟩ := T1.out.cells
    have hst : Hid (∀ p q : World, (CellsT w.heap.size k b off c x y ax ay cx cy p ∧ Hid (TwoK w.heap.size w k b off c x y ax ay cx cy d p)) → Below p.heap.size p q → (CellsT w.heap.size k b off c x y ax ay cx cy q ∧ Hid (TwoK w.heap.size w k b off c x y ax ay cx cy d q))) := fun p q h hb => ⟨(h.2.out.below hb).cells, h.2.out.below hb⟩
    unfold CellsT at hst
    go_wp2_with fail
    clear c0 c3 d0 d1 d2 d3 e0 e1 e2 e3
    go_region_held3 (fun w' => (w'.cell? ⟨w.heap.size, 0, none⟩ = some (.int .i64 k) ∧ w'.cell? ⟨w.heap.size, 3, none⟩ = some (.slice (some ⟨b, off, none⟩) 2 c) ∧ w'.cell? ⟨b, off, none⟩ = some (.int .i64 x.kind) ∧ w'.cell? ⟨b, off + 1, none⟩ = some (.string x.text) ∧ w'.cell? ⟨b, off + 2, none⟩ = some (.int .i64 x.num) ∧ w'.cell? ⟨b, off + 3, none⟩ = some (.slice ax x.kids.length cx) ∧
        w'.cell? ⟨b, off + 4, none⟩ = some (.int .i64 y.kind) ∧ w'.cell? ⟨b, off + 4 + 1, none⟩ = some (.string y.text) ∧ w'.cell? ⟨b, off + 4 + 2, none⟩ = some (.int .i64 y.num) ∧ w'.cell? ⟨b, off + 4 + 3, none⟩ = some (.slice ay y.kids.length cy)) ∧ Hid (TwoK w.heap.size w k b off c x y ax ay cx cy d w')) (first | assumption | exact ⟨T1.out.drew.cells, T1.out.drew⟩)
      (first
        | (go_at_call 51; refine (cxy.out _ _ _ _ _ (by first | exact .inl ⟨rfl, rfl⟩ | exact .inr ⟨rfl, rfl⟩) (by first | exact (And.right (by assumption : _ ∧ Hid (TwoK w.heap.size w k b off c x y ax ay cx cy d _))).out.kx | exact (And.right (by assumption : _ ∧ Hid (TwoK w.heap.size w k b off c x y ax ay cx cy d _))).out.ky)).mono ?_; rintro e wq ⟨rfl, bq⟩; have hq := hst.out _ _ (by assumption) bq)
        | (go_at_call 86; refine (specSignEB k (by omega) (by omega) _ sg HSG.out).mono ?_; rintro e wz ⟨rfl, rfl⟩))
    have B9 := Lib.hid hq.2.out.bel
    clear hq
    by_cases hlt : bI < (L : Int)
    · have HR := Lib.hid (HE.out.1 (by show bindsK k < L; have := HbI.out; omega))
      go_wp2_with fail
      go_ret
      exact ⟨by rw [HR.out]; rfl, B9.out⟩
    · have HR := Lib.hid (HE.out.2 (by show ¬ bindsK k < L; have := HbI.out; omega))
      go_wp2_with fail
      go_ret
      exact ⟨by rw [HR.out]; rfl, B9.out⟩
  · rw [if_neg h4] at hfib
    have hb4 : (bI == 4) = false := by simp; exact h4
    clear h4
    have hfib' := hfib.symm
    subst hfib'
    go_enter Tryz.func51, Tryz.ntmps51
    go_wp2_with fail
    refine (specBindsB k (by omega) (by omega) _ bI HbI.out).mono ?_
    rintro e w1 ⟨rfl, rfl⟩
    have BX := HBX.out 32
    generalize w.alloc (.cells #[.int .i64 k, .string t, .int .i64 n, .slice a 2 c] 32) = W1 at BX ⊢
    obtain ⟨hW1, c0, c1, c2, c3, bW1⟩ := BX
    obtain ⟨b, off, rfl, hbl, d0, d1, d2, _, ax, cx, d3, hkx⟩ := (HK.out _ bW1).spot (i := 0) (by simp)
    obtain ⟨b', off', he, hbl', e0, e1, e2, _, ay, cy, e3, hky⟩ := (HK.out _ bW1).spot (i := 1) (by simp)
    cases he
    simp only [List.getElem_cons_zero, List.getElem_cons_succ, Nat.zero_mul, Nat.one_mul, Nat.add_zero] at d0 d1 d2 d3 hkx e0 e1 e2 e3 hky
    have T1 : Hid (TwoK w.heap.size w k b off c x y ax ay cx cy d W1) := ⟨hW1, hbl, c0, c3, d0, d1, d2, d3, e0, e1, e2, e3, hkx, hky, bW1⟩
    clear c0 c1 c2 c3 d0 d1 d2 d3 e0 e1 e2 e3 hkx hky
    obtain ⟨c0, c3, d0, d1, d2, d3, e0, e1, e2, e3⟩ := T1.out.cells
    have hst : Hid (∀ p q : World, (CellsT w.heap.size k b off c x y ax ay cx cy p ∧ Hid (TwoK w.heap.size w k b off c x y ax ay cx cy d p)) → Below p.heap.size p q → (CellsT w.heap.size k b off c x y ax ay cx cy q ∧ Hid (TwoK w.heap.size w k b off c x y ax ay cx cy d q))) := fun p q h hb => ⟨(h.2.out.below hb).cells, h.2.out.below hb⟩
    unfold CellsT at hst
    go_wp2_with fail
    clear c0 c3 d0 d1 d2 d3 e0 e1 e2 e3
    go_region_held3 (fun w' => (w'.cell? ⟨w.heap.size, 0, none⟩ = some (.int .i64 k) ∧ w'.cell? ⟨w.heap.size, 3, none⟩ = some (.slice (some ⟨b, off, none⟩) 2 c) ∧ w'.cell? ⟨b, off, none⟩ = some (.int .i64 x.kind) ∧ w'.cell? ⟨b, off + 1, none⟩ = some (.string x.text) ∧ w'.cell? ⟨b, off + 2, none⟩ = some (.int .i64 x.num) ∧ w'.cell? ⟨b, off + 3, none⟩ = some (.slice ax x.kids.length cx) ∧
        w'.cell? ⟨b, off + 4, none⟩ = some (.int .i64 y.kind) ∧ w'.cell? ⟨b, off + 4 + 1, none⟩ = some (.string y.text) ∧ w'.cell? ⟨b, off + 4 + 2, none⟩ = some (.int .i64 y.num) ∧ w'.cell? ⟨b, off + 4 + 3, none⟩ = some (.slice ay y.kids.length cy)) ∧ Hid (TwoK w.heap.size w k b off c x y ax ay cx cy d w')) (first | assumption | exact ⟨T1.out.drew.cells, T1.out.drew⟩)
      (first
        | (go_at_call 51; refine (cxy.out _ _ _ _ _ (by first | exact .inl ⟨rfl, rfl⟩ | exact .inr ⟨rfl, rfl⟩) (by first | exact (And.right (by assumption : _ ∧ Hid (TwoK w.heap.size w k b off c x y ax ay cx cy d _))).out.kx | exact (And.right (by assumption : _ ∧ Hid (TwoK w.heap.size w k b off c x y ax ay cx cy d _))).out.ky)).mono ?_; rintro e wq ⟨rfl, bq⟩; have hq := hst.out _ _ (by assumption) bq)
        | (go_at_call 86; refine (specSignEB k (by omega) (by omega) _ sg HSG.out).mono ?_; rintro e wz ⟨rfl, rfl⟩))
    have B9 := Lib.hid hq.2.out.bel
    clear hq
    by_cases hlt : bI < (L : Int)
    · have HR := Lib.hid (HE.out.1 (by show bindsK k < L; have := HbI.out; omega))
      go_wp2_with fail
      go_ret
      exact ⟨by rw [HR.out]; rfl, B9.out⟩
    · have HR := Lib.hid (HE.out.2 (by show ¬ bindsK k < L; have := HbI.out; omega))
      go_wp2_with fail
      go_ret
      exact ⟨by rw [HR.out]; rfl, B9.out⟩

theorem specPut : ∀ d, PutP d
  | 0 => fun _ _ _ _ _ _ _ _ h => h.elim
  | d + 1 => by
    intro e a c L w hs hn hL hk
    obtain ⟨k, t, n, kids⟩ := e
    obtain ⟨h1, hl⟩ := shape_parts hs
    have hne := Ex.nodes_eq (.mk k t n kids)
    match kids, h1, hl, hk, hne with
    | [], h1, _, _, _ => exact putLeaf k t n a c L w h1 hL
    | [x], h1, hl, hk, hne =>
      rw [shapeL, Bool.and_eq_true] at hl
      change _ = 1 + nodesL [x] at hne
      rw [nodesL, nodesL] at hne
      exact putOne d (specPut d) k (one_kid (arity h1)) t n x a c L w hl.1 (by omega) hL hk
    | [x, y], h1, hl, hk, hne =>
      rw [shapeL, shapeL, Bool.and_eq_true, Bool.and_eq_true] at hl
      change _ = 1 + nodesL [x, y] at hne
      rw [nodesL, nodesL, nodesL] at hne
      exact putTwo d (specPut d) k (two_mem (arity h1)) t n x y a c L w hl.1 hl.2.1 (by omega) hL hk
    | x :: y :: z :: r, h1, _, _, _ =>
      have := arity h1
      unfold kidsK at this
      simp only [List.length_cons] at this
      split at this
      · omega
      · split at this
        · omega
        · split at this <;> omega

/-- What PutExpr answers. -/
def putT (e : Ex) : ByteArray := if (decide (e.nodes ≤ 40) && shapeE e) = true then tE e 1 else txt []

end Go.Proofs.YtgnillmhpockkaaGreatDoor

namespace Go.Proofs.YtgnillmhpockkaaGreatDoor
open Go.RowKit

/-- The tables that the program reads. -/
structure Tabs (w : World) : Prop where
  forms : FormsAt w
  pow : Lib.TabIs Tryz.prog w "internal/strconv.uint64pow10" .u64 Lib.pow10Tab
  lt : 7 < w.heap.size

theorem Tabs.below {w w' : World} {B : Nat} (h : Tabs w) (hb : Below B w w') (hB : 8 ≤ B) : Tabs w' :=
  ⟨h.forms.below hb (by omega), var?_below hb gPow (by omega) h.pow, Nat.lt_of_lt_of_le h.lt hb.size⟩

theorem Tabs.big {w : World} (h : Tabs w) : 8 ≤ w.heap.size := by
  have h1 := h.lt
  have h2 := h.forms.1
  omega

def TxtP (d : Nat) : Prop := ∀ (e : Ex) (a : Option Addr) (c : Nat) (w : World), Tabs w → shapeE e = true → e.nodes ≤ 40 → KidsAt w d a c e.kids →
  Calls Tryz.prog 50 #[.agg #[.int .i64 e.kind, .string e.text, .int .i64 e.num, .slice a e.kids.length c]] w fun x w' => x = .returned (.string (tE e 1)) ∧ Below w.heap.size w w'

theorem nat_kind {e : Ex} (hs : shapeE e = true) : ∃ i : Nat, i < 19 ∧ e.kind = i := by
  obtain ⟨k, t, n, kids⟩ := e
  have := kind_in (shape_parts hs).1
  exact ⟨k.toNat, by omega, by show k = _; omega⟩

set_option maxRecDepth 100000 in
set_option maxHeartbeats 2000000 in
theorem opText0 (d : Nat) (ih : TxtP d) (i : Nat) (hi : i < 19) (t : ByteArray) (n : Int) (kids : List Ex) (a : Option Addr) (c : Nat) (m : Int) (w : World) (hT : Tabs w) (hs : shapeE (.mk i t n kids) = true) (hn : (Ex.mk i t n kids).nodes ≤ 40) (hm : 0 ≤ m) (hk : KidsAt w d a c kids) (r : ByteArray) (hr : tE (.mk i t n kids) m.toNat = r) :
    Calls Tryz.prog 82 #[.agg #[.int .i64 (i : Int), .string t, .int .i64 n, .slice a kids.length c], .int .i64 m] w fun x w' => x = .returned (.string r) ∧ Below w.heap.size w w' := by
  have HBX := Lib.hid (fun T => boxK_new w (i : Int) t n a kids.length c T)
  have HK := Lib.hid (fun w' hb => hk.below (w' := w') hb)
  have HT := Lib.hid (fun w' hb => hT.below (w' := w') (B := w.heap.size) hb hT.big)
  have hz := tE_size (L := 1) hs hn
  have HE := Lib.hid (tE_end (e := .mk i t n kids) (L := m.toNat) (s := tE (.mk i t n kids) 1) rfl)
  have hih : ∀ w, Tabs w → KidsAt w d a c kids → Calls Tryz.prog 50 #[.agg #[.int .i64 (i : Int), .string t, .int .i64 n, .slice a kids.length c]] w fun x w' => x = .returned (.string (tE (.mk i t n kids) 1)) ∧ Below w.heap.size w w' := fun w h1 h2 => ih (.mk i t n kids) a c w h1 hs hn h2
  obtain ⟨s, hs1⟩ : ∃ s, s = tE (.mk i t n kids) 1 := ⟨_, rfl⟩
  rw [← hs1] at hz HE hih
  have HRR := Lib.hid hr
  have l3 : (ByteArray.mk #[40]).size = 1 := rfl
  have l4 : (ByteArray.mk #[41]).size = 1 := rfl
  have ad1 : ∀ w, (Op.stringOp .add (ByteArray.mk #[40]) s).run Tryz.prog w = .ok (.string ((ByteArray.mk #[40]) ++ s)) w := fun w => run_string_add_sum w _ _ (by omega)
  have ad2 : ∀ w, (Op.stringOp .add ((ByteArray.mk #[40]) ++ s) (ByteArray.mk #[41])).run Tryz.prog w = .ok (.string ((ByteArray.mk #[40]) ++ s ++ (ByteArray.mk #[41]))) w := fun w => run_string_add_sum w _ _ (by rw [ByteArray.size_append]; omega)
  have hb0 : (0 : Int) ≤ (i : Int) := by omega
  have hb1 : (i : Int) < 19 := by omega
  have hst : ∃ st : Int, (bindsK (i : Int) : Int) = st := ⟨_, rfl⟩
  obtain ⟨st, hst⟩ := hst
  have HG : Hid (∀ o, (w.alloc o).cell? ⟨0, i * 4 + 1, none⟩ = some (.int .i64 st)) := fun o => by
    rw [← hst, ← fm_strength i hi]
    exact ((hT.forms.below ((Below.refl w.heap.size w).alloc (Nat.le_refl _) o) hT.forms.1).2 i hi).2.1
  have hg1 := HG.out (.cells #[.int .i64 (i : Int), .string t, .int .i64 n, .slice a kids.length c] 32)
  clear hk hT ih hr hs1
  by_cases hlt : st < m
  · have HR := Lib.hid (HE.out.1 (by show bindsK (i : Int) < m.toNat; omega))
    go_enter Tryz.func82, Tryz.ntmps82
    go_wp2_with fail
    refine (hih _ (HT.out _ (HBX.out _).bel) (HK.out _ (HBX.out _).bel)).mono ?_
    rintro x w2 ⟨rfl, hb2⟩
    have B2 := Lib.hid ((HBX.out _).below hb2).bel
    clear hb2 hg1
    go_wp2_with fail
    go_ret
    exact ⟨by rw [← HRR.out, HR.out]; rfl, B2.out⟩
  · have HR := Lib.hid (HE.out.2 (by show ¬ bindsK (i : Int) < m.toNat; omega))
    go_enter Tryz.func82, Tryz.ntmps82
    go_wp2_with fail
    refine (hih _ (HT.out _ (HBX.out _).bel) (HK.out _ (HBX.out _).bel)).mono ?_
    rintro x w2 ⟨rfl, hb2⟩
    have B2 := Lib.hid ((HBX.out _).below hb2).bel
    clear hb2 hg1
    go_wp2_with fail
    go_ret
    exact ⟨by rw [← HRR.out, HR.out]; rfl, B2.out⟩

theorem opText (d : Nat) (ih : TxtP d) (e : Ex) (a : Option Addr) (c : Nat) (m : Int) (w : World) (hT : Tabs w) (hs : shapeE e = true) (hn : e.nodes ≤ 40) (hm : 0 ≤ m) (hk : KidsAt w d a c e.kids) (r : ByteArray) (hr : tE e m.toNat = r) :
    Calls Tryz.prog 82 #[.agg #[.int .i64 e.kind, .string e.text, .int .i64 e.num, .slice a e.kids.length c], .int .i64 m] w fun x w' => x = .returned (.string r) ∧ Below w.heap.size w w' := by
  obtain ⟨i, hi, hik⟩ := nat_kind hs
  obtain ⟨k, t, n, kids⟩ := e
  have hik' : k = i := hik
  subst hik'
  exact opText0 d ih i hi t n kids a c m w hT hs hn hm hk r hr

/-- The box of the argument, and that of its form. -/
structure BoxF (w : World) (k : Int) (t : ByteArray) (n : Int) (a : Option Addr) (l c : Nat) (f0 f1 f2 : Int) (f3 : ByteArray) (w1 : World) : Prop where
  lt : w.heap.size + 1 < w1.heap.size
  c0 : w1.cell? ⟨w.heap.size, 0, none⟩ = some (.int .i64 k)
  c1 : w1.cell? ⟨w.heap.size, 1, none⟩ = some (.string t)
  c2 : w1.cell? ⟨w.heap.size, 2, none⟩ = some (.int .i64 n)
  c3 : w1.cell? ⟨w.heap.size, 3, none⟩ = some (.slice a l c)
  g0 : w1.cell? ⟨w.heap.size + 1, 0, none⟩ = some (.int .i64 f0)
  g1 : w1.cell? ⟨w.heap.size + 1, 1, none⟩ = some (.int .i64 f1)
  g2 : w1.cell? ⟨w.heap.size + 1, 2, none⟩ = some (.int .i64 f2)
  g3 : w1.cell? ⟨w.heap.size + 1, 3, none⟩ = some (.string f3)
  bel : Below w.heap.size w w1

theorem boxF_new (w : World) (k : Int) (t : ByteArray) (n : Int) (a : Option Addr) (l c : Nat) (f0 f1 f2 : Int) (f3 : ByteArray) (T T2 : TypeId) :
    BoxF w k t n a l c f0 f1 f2 f3 ((w.alloc (.cells #[.int .i64 k, .string t, .int .i64 n, .slice a l c] T)).alloc (.cells #[.int .i64 f0, .int .i64 f1, .int .i64 f2, .string f3] T2)) :=
  ⟨by simp, by simp [go_sem], by simp [go_sem], by simp [go_sem], by simp [go_sem], by simp [go_sem], by simp [go_sem], by simp [go_sem], by simp [go_sem], ((Below.refl _ _).alloc (Nat.le_refl _) _).alloc (by simp) _⟩

theorem BoxF.below {w w1 w2 : World} {k : Int} {t : ByteArray} {n : Int} {a : Option Addr} {l c : Nat} {f0 f1 f2 : Int} {f3 : ByteArray} (h : BoxF w k t n a l c f0 f1 f2 f3 w1) (hb : Below w1.heap.size w1 w2) : BoxF w k t n a l c f0 f1 f2 f3 w2 := by
  have e := fun o => hb.cell (p := ⟨w.heap.size, o, none⟩) (by have := h.lt; simp only; omega)
  have e' := fun o => hb.cell (p := ⟨w.heap.size + 1, o, none⟩) h.lt
  exact ⟨Nat.lt_of_lt_of_le h.lt hb.size, (e _).trans h.c0, (e _).trans h.c1, (e _).trans h.c2, (e _).trans h.c3, (e' _).trans h.g0, (e' _).trans h.g1, (e' _).trans h.g2, (e' _).trans h.g3, h.bel.trans (hb.mono h.bel.size)⟩

/-- What the table holds of a kind, in a world with one new block. -/
theorem forms_alloc {w : World} (hT : Tabs w) (i : Nat) (hi : i < 19) (o : Obj) :
    (w.alloc o).cell? ⟨0, i * 4, none⟩ = some (.int .i64 (fm i).kids) ∧ (w.alloc o).cell? ⟨0, i * 4 + 1, none⟩ = some (.int .i64 (fm i).strength) ∧
    (w.alloc o).cell? ⟨0, i * 4 + 2, none⟩ = some (.int .i64 (fm i).token) ∧ (w.alloc o).cell? ⟨0, i * 4 + 3, none⟩ = some (.string (txt (fm i).text)) :=
  (hT.forms.below ((Below.refl w.heap.size w).alloc (Nat.le_refl _) o) hT.forms.1).2 i hi

set_option maxRecDepth 100000 in
set_option maxHeartbeats 4000000 in
theorem txtLeaf (k : Int) (t : ByteArray) (n : Int) (a : Option Addr) (c : Nat) (w : World) (hT : Tabs w) (h : node1 k t n 0 = true) :
    Calls Tryz.prog 50 #[.agg #[.int .i64 k, .string t, .int .i64 n, .slice a 0 c]] w fun x w' => x = .returned (.string (tE (.mk k t n []) 1)) ∧ Below w.heap.size w w' := by
  have hk := zero_kids (arity h)
  have hts := small_text h
  have hns := small_num h
  have HT := Lib.hid (fun w' hb => hT.below (w' := w') (B := w.heap.size) hb hT.big)
  have HG := Lib.hid (forms_alloc hT)
  clear h hT
  rcases hk with rfl | rfl | rfl | rfl | rfl | rfl
  · have HBX := Lib.hid (fun T T2 => boxF_new w 0 t n a 0 c 0 7 0 (txt []) T T2)
    obtain ⟨g0, g1, g2, g3⟩ := HG.out 0 (by omega) (.cells #[.int .i64 0, .string t, .int .i64 n, .slice a 0 c] 32)
    change _ = some (Value.int .i64 0) at g0; change _ = some (Value.int .i64 7) at g1; change _ = some (Value.int .i64 0) at g2; change _ = some (Value.string (txt [])) at g3
    obtain ⟨r, hr⟩ : ∃ r, nameT t = r := ⟨_, rfl⟩
    have HE : Hid (tE (.mk 0 t n []) 1 = r) := by unfold Hid; rw [tE_name, hr]
    go_enter Tryz.func50, Tryz.ntmps50
    go_wp2_with (go_at_call 10; refine (implPutName t _ (by omega) r hr).mono ?_; rintro e w2 ⟨rfl, hb2⟩)
    go_ret
    exact ⟨by rw [HE.out]; rfl, ((HBX.out _ _).below hb2).bel⟩
  · have HBX := Lib.hid (fun T T2 => boxF_new w 1 t n a 0 c 0 7 0 (txt []) T T2)
    obtain ⟨g0, g1, g2, g3⟩ := HG.out 1 (by omega) (.cells #[.int .i64 1, .string t, .int .i64 n, .slice a 0 c] 32)
    change _ = some (Value.int .i64 0) at g0; change _ = some (Value.int .i64 7) at g1; change _ = some (Value.int .i64 0) at g2; change _ = some (Value.string (txt [])) at g3
    have HE : Hid (tE (.mk 1 t n []) 1 = dec n) := by unfold Hid; rw [tE_num]
    go_enter Tryz.func50, Tryz.ntmps50
    go_wp2_with (go_at_call 81; refine (implDecText n _ (by omega) (by omega) (HT.out _ (HBX.out _ _).bel).pow).mono ?_; rintro e w2 ⟨rfl, hb2⟩)
    go_ret
    exact ⟨by rw [HE.out]; rfl, ((HBX.out _ _).below hb2).bel⟩
  · have HBX := Lib.hid (fun T T2 => boxF_new w 2 t n a 0 c 0 7 0 (txt []) T T2)
    obtain ⟨g0, g1, g2, g3⟩ := HG.out 2 (by omega) (.cells #[.int .i64 2, .string t, .int .i64 n, .slice a 0 c] 32)
    change _ = some (Value.int .i64 0) at g0; change _ = some (Value.int .i64 7) at g1; change _ = some (Value.int .i64 0) at g2; change _ = some (Value.string (txt [])) at g3
    have HE : Hid (tE (.mk 2 t n []) 1 = quoteT t 39) := by unfold Hid; rw [tE_text]
    go_enter Tryz.func50, Tryz.ntmps50
    go_wp2_with (go_at_call 33; refine (implQuote t 39 _ (by omega)).mono ?_; rintro e w2 ⟨rfl, hb2⟩)
    go_ret
    exact ⟨by rw [HE.out]; rfl, ((HBX.out _ _).below hb2).bel⟩
  · have HBX := Lib.hid (fun T T2 => boxF_new w 3 t n a 0 c 0 7 0 (txt wTrue) T T2)
    obtain ⟨g0, g1, g2, g3⟩ := HG.out 3 (by omega) (.cells #[.int .i64 3, .string t, .int .i64 n, .slice a 0 c] 32)
    change _ = some (Value.int .i64 0) at g0; change _ = some (Value.int .i64 7) at g1; change _ = some (Value.int .i64 0) at g2; change _ = some (Value.string (txt wTrue)) at g3
    have HE : Hid (tE (.mk 3 t n []) 1 = txt wTrue) := by unfold Hid; rw [tE_true]
    go_enter Tryz.func50, Tryz.ntmps50
    go_wp2_with fail
    go_ret
    exact ⟨by rw [HE.out]; rfl, (HBX.out _ _).bel⟩
  · have HBX := Lib.hid (fun T T2 => boxF_new w 4 t n a 0 c 0 7 0 (txt wFalse) T T2)
    obtain ⟨g0, g1, g2, g3⟩ := HG.out 4 (by omega) (.cells #[.int .i64 4, .string t, .int .i64 n, .slice a 0 c] 32)
    change _ = some (Value.int .i64 0) at g0; change _ = some (Value.int .i64 7) at g1; change _ = some (Value.int .i64 0) at g2; change _ = some (Value.string (txt wFalse)) at g3
    have HE : Hid (tE (.mk 4 t n []) 1 = txt wFalse) := by unfold Hid; rw [tE_false]
    go_enter Tryz.func50, Tryz.ntmps50
    go_wp2_with fail
    go_ret
    exact ⟨by rw [HE.out]; rfl, (HBX.out _ _).bel⟩
  · have HBX := Lib.hid (fun T T2 => boxF_new w 5 t n a 0 c 0 7 0 (txt wNull) T T2)
    obtain ⟨g0, g1, g2, g3⟩ := HG.out 5 (by omega) (.cells #[.int .i64 5, .string t, .int .i64 n, .slice a 0 c] 32)
    change _ = some (Value.int .i64 0) at g0; change _ = some (Value.int .i64 7) at g1; change _ = some (Value.int .i64 0) at g2; change _ = some (Value.string (txt wNull)) at g3
    have HE : Hid (tE (.mk 5 t n []) 1 = txt wNull) := by unfold Hid; rw [tE_nul]
    go_enter Tryz.func50, Tryz.ntmps50
    go_wp2_with fail
    go_ret
    exact ⟨by rw [HE.out]; rfl, (HBX.out _ _).bel⟩

end Go.Proofs.YtgnillmhpockkaaGreatDoor
