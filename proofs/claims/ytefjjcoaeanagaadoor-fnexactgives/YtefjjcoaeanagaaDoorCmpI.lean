/- (impl.sorter).isLabel, compatibleEnum, compatible. -/
import Derived.Test.YtefjjcoaeanagaaDoorMHas
namespace Go.Proofs.YtefjjcoaeanagaaDoor
open Go.RowKit

theorem bcellC {W w1 : World} (hb : Below W.heap.size W w1) : (∀ b o, b < W.heap.size → w1.cell? ⟨b, o, none⟩ = W.cell? ⟨b, o, none⟩) := fun b o h => hb.cell (p := ⟨b, o, none⟩) h

theorem as_pp (v : Value) (w : World) : (Instr.typeAssert (.iface 110 v) 71 110 true).run Tryd.prog w = .ok (.tuple #[v, .bool true]) w := by kernel_rfl

theorem as_pt (v : Value) (w : World) : (Instr.typeAssert (.iface 110 v) 71 111 true).run Tryd.prog w = .ok (.tuple #[.string ByteArray.empty, .bool false]) w := by kernel_rfl

theorem as_pe (v : Value) (w : World) : (Instr.typeAssert (.iface 110 v) 71 112 true).run Tryd.prog w = .ok (.tuple #[.string ByteArray.empty, .bool false]) w := by kernel_rfl

theorem as_tp (v : Value) (w : World) : (Instr.typeAssert (.iface 111 v) 71 110 true).run Tryd.prog w = .ok (.tuple #[.int .i64 0, .bool false]) w := by kernel_rfl

theorem as_tt (v : Value) (w : World) : (Instr.typeAssert (.iface 111 v) 71 111 true).run Tryd.prog w = .ok (.tuple #[v, .bool true]) w := by kernel_rfl

theorem as_te (v : Value) (w : World) : (Instr.typeAssert (.iface 111 v) 71 112 true).run Tryd.prog w = .ok (.tuple #[.string ByteArray.empty, .bool false]) w := by kernel_rfl

theorem as_ep (v : Value) (w : World) : (Instr.typeAssert (.iface 112 v) 71 110 true).run Tryd.prog w = .ok (.tuple #[.int .i64 0, .bool false]) w := by kernel_rfl

theorem as_et (v : Value) (w : World) : (Instr.typeAssert (.iface 112 v) 71 111 true).run Tryd.prog w = .ok (.tuple #[.string ByteArray.empty, .bool false]) w := by kernel_rfl

theorem as_ee (v : Value) (w : World) : (Instr.typeAssert (.iface 112 v) 71 112 true).run Tryd.prog w = .ok (.tuple #[v, .bool true]) w := by kernel_rfl

set_option maxRecDepth 100000 in
set_option maxHeartbeats 1000000 in
theorem implIsLabel (ca : Option Addr) (cl cc : Nat) (a : Option Addr) (c : Nat) (ls : List Lb) (t n : ByteArray) (w : World) (hx : Lbs w a c ls) :
    Calls Tryd.prog 97 #[.agg #[.slice ca cl cc, .slice a ls.length c], .string t, .string n] w fun e w' => e = .returned (.bool (labB ls n t)) ∧ Below w.heap.size w w' := by
  have hmf : ∀ (fn : Fn) (first cap : Array Value) (w : World), (Instr.makeFunc fn first cap).run Tryd.prog w = .ok (.func fn first cap) w := fun _ _ _ _ => rfl
  have hl := hx.len
  have hb0 : ∀ o1 o2, Below w.heap.size w ((w.alloc o1).alloc o2) := fun o1 o2 => ((Below.refl _ _).alloc (Nat.le_refl _) _).alloc (by simp) _
  have HB0 := Lib.hid hb0
  have HX := Lib.hid (fun w' hb => hx.below (w' := w') hb)
  clear hx hb0
  go_enter Tryd.func97, Tryd.ntmps97
  go_wp2_with fail
  refine (indexLabels a c ls n (w.heap.size + 1) _ (HX.out _ (HB0.out _ _)) (by simp [go_sem]) (by simp)).mono ?_
  rintro e w2 ⟨hcase, hb2⟩
  have hcw := bcellC hb2
  have g1 : w2.cell? ⟨w.heap.size, 1, none⟩ = some (.slice a ls.length c) := (hcw _ _ (by simp; omega)).trans (by simp [go_sem])
  have HB2 := Lib.hid ((HB0.out _ _).trans (hb2.mono (by simp; omega)))
  clear hb2 hcw
  rcases hcase with ⟨k, hk, rfl, hne, he⟩ | ⟨rfl, hne⟩
  · have HL := Lib.hid (labB_hit ls n t k hk hne he)
    obtain ⟨b, off, rfl, hbl, hc0, hc1, _, hst⟩ := (HX.out _ HB2.out).spot hk
    have HST := Lib.hid hst
    have h0k : (0 : Int) ≤ (k : Int) := by omega
    have hge : decide ((0 : Int) ≤ (k : Int)) = true := by simp
    have hkl : (k : Int) < (ls.length : Int) := by omega
    clear hst hne he
    go_wp2_with fail
    refine (implHas _ _ _ t _ HST.out).mono ?_
    rintro e w3 ⟨rfl, nn, rfl⟩
    go_wp2_with fail
    go_ret
    exact ⟨by rw [HL.out]; rfl, below_drewN HB2.out nn⟩
  · have HL := Lib.hid (labB_miss ls n t hne)
    clear hne
    go_wp2_with fail
    go_ret
    exact ⟨by rw [HL.out]; rfl, HB2.out⟩

/-- Whether an operand fits an enumeration. -/
def cmpE (ls : List Lb) (n : ByteArray) : Opd → Bool
  | .enum m => m.toList == n.toList
  | .text s => labB ls n s
  | .plain _ => false

set_option maxRecDepth 100000 in
set_option maxHeartbeats 1000000 in
theorem implCmpE (ca : Option Addr) (cl cc : Nat) (a : Option Addr) (c : Nat) (ls : List Lb) (n : ByteArray) (x : Opd) (w : World) (hx : Lbs w a c ls) :
    Calls Tryd.prog 111 #[.agg #[.slice ca cl cc, .slice a ls.length c], .string n, x.v] w fun e w' => e = .returned (.bool (cmpE ls n x)) ∧ Below w.heap.size w w' := by
  have hl := hx.len
  have hb0 : ∀ o1, Below w.heap.size w (w.alloc o1) := fun o1 => (Below.refl _ _).alloc (Nat.le_refl _) _
  have HB0 := Lib.hid hb0
  have HX := Lib.hid (fun w' hb => hx.below (w' := w') hb)
  clear hx hb0
  cases x with
  | enum m =>
    simp only [Opd.v, cmpE]
    have q1 := as_ep
    have q2 := as_et
    have q3 := as_ee
    go_enter Tryd.func111, Tryd.ntmps111
    go_wp2_with fail
    go_ret
    exact ⟨rfl, HB0.out _⟩
  | text s =>
    simp only [Opd.v, cmpE]
    have q1 := as_tp
    have q2 := as_tt
    have q3 := as_te
    go_enter Tryd.func111, Tryd.ntmps111
    go_wp2_with fail
    refine (implIsLabel ca cl cc a c ls s n _ (HX.out _ (HB0.out _))).mono ?_
    rintro e w2 ⟨rfl, hb2⟩
    go_wp2_with fail
    go_ret
    exact ⟨rfl, (HB0.out _).trans (hb2.mono (by simp))⟩
  | plain k =>
    simp only [Opd.v, cmpE]
    have q1 := as_pp
    have q2 := as_pt
    have q3 := as_pe
    go_enter Tryd.func111, Tryd.ntmps111
    go_wp2_with fail
    go_ret
    exact ⟨rfl, HB0.out _⟩

/-- Whether two operands are compatible. -/
def cmpB (ls : List Lb) (x y : Opd) : Bool :=
  if (x.kind == 4) = true then true else if (y.kind == 4) = true then true else
  match x with
  | .enum n => cmpE ls n y
  | _ => match y with
    | .enum n => cmpE ls n x
    | _ => x.kind == y.kind

set_option maxRecDepth 100000 in
set_option maxHeartbeats 1000000 in
theorem implCmp_pp (ca : Option Addr) (cl cc : Nat) (a : Option Addr) (c : Nat) (ls : List Lb) (k1 : Int) (k2 : Int) (w : World) (hx : Lbs w a c ls) :
    Calls Tryd.prog 100 #[.agg #[.slice ca cl cc, .slice a ls.length c], (Opd.plain k1).v, (Opd.plain k2).v] w fun e w' => e = .returned (.bool (cmpB ls (.plain k1) (.plain k2))) ∧ Below w.heap.size w w' := by
  have hl := hx.len
  have hb0 : ∀ o1, Below w.heap.size w (w.alloc o1) := fun o1 => (Below.refl _ _).alloc (Nat.le_refl _) _
  have HB0 := Lib.hid hb0
  have HX := Lib.hid (fun w' hb => hx.below (w' := w') hb)
  clear hx hb0
  have qpp := as_pp
  have qpt := as_pt
  have qpe := as_pe
  simp only [Opd.v]
  by_cases h1 : (k1 == 4) = true
  · have HC : Hid (cmpB ls (.plain k1) (.plain k2) = true) := by unfold Hid cmpB; rw [if_pos (show ((Opd.plain k1).kind == 4) = true from h1)]
    go_enter Tryd.func100, Tryd.ntmps100
    go_wp2_with (first
          | (go_at_call 135; refine (kindPlain _ _).mono ?_; rintro e w' ⟨rfl, rfl⟩)
          | (go_at_call 136; refine (kindText _ _).mono ?_; rintro e w' ⟨rfl, rfl⟩)
          | (go_at_call 137; refine (kindEnum _ _).mono ?_; rintro e w' ⟨rfl, rfl⟩))
    go_ret
    exact ⟨by rw [HC.out]; rfl, HB0.out _⟩
  have h1 : (k1 == 4) = false := by simpa using h1
  by_cases h2 : (k2 == 4) = true
  · have HC : Hid (cmpB ls (.plain k1) (.plain k2) = true) := by unfold Hid cmpB; rw [if_neg (show ¬ ((Opd.plain k1).kind == 4) = true from by rw [show (Opd.plain k1).kind = k1 from rfl, h1]; simp), if_pos (show ((Opd.plain k2).kind == 4) = true from h2)]
    go_enter Tryd.func100, Tryd.ntmps100
    go_wp2_with (first
          | (go_at_call 135; refine (kindPlain _ _).mono ?_; rintro e w' ⟨rfl, rfl⟩)
          | (go_at_call 136; refine (kindText _ _).mono ?_; rintro e w' ⟨rfl, rfl⟩)
          | (go_at_call 137; refine (kindEnum _ _).mono ?_; rintro e w' ⟨rfl, rfl⟩))
    go_ret
    exact ⟨by rw [HC.out]; rfl, HB0.out _⟩
  have h2 : (k2 == 4) = false := by simpa using h2
  have HC : Hid (cmpB ls (.plain k1) (.plain k2) = ((k1 : Int) == k2)) := by unfold Hid cmpB; rw [if_neg (show ¬ ((Opd.plain k1).kind == 4) = true from by rw [show (Opd.plain k1).kind = k1 from rfl, h1]; simp), if_neg (show ¬ ((Opd.plain k2).kind == 4) = true from by rw [show (Opd.plain k2).kind = k2 from rfl, h2]; simp)]; try rfl
  go_enter Tryd.func100, Tryd.ntmps100
  go_wp2_with (first
        | (go_at_call 135; refine (kindPlain _ _).mono ?_; rintro e w' ⟨rfl, rfl⟩)
        | (go_at_call 136; refine (kindText _ _).mono ?_; rintro e w' ⟨rfl, rfl⟩)
        | (go_at_call 137; refine (kindEnum _ _).mono ?_; rintro e w' ⟨rfl, rfl⟩))
  go_ret
  exact ⟨by rw [HC.out]; rfl, HB0.out _⟩

set_option maxRecDepth 100000 in
set_option maxHeartbeats 1000000 in
theorem implCmp_pt (ca : Option Addr) (cl cc : Nat) (a : Option Addr) (c : Nat) (ls : List Lb) (k1 : Int) (s2 : ByteArray) (w : World) (hx : Lbs w a c ls) :
    Calls Tryd.prog 100 #[.agg #[.slice ca cl cc, .slice a ls.length c], (Opd.plain k1).v, (Opd.text s2).v] w fun e w' => e = .returned (.bool (cmpB ls (.plain k1) (.text s2))) ∧ Below w.heap.size w w' := by
  have hl := hx.len
  have hb0 : ∀ o1, Below w.heap.size w (w.alloc o1) := fun o1 => (Below.refl _ _).alloc (Nat.le_refl _) _
  have HB0 := Lib.hid hb0
  have HX := Lib.hid (fun w' hb => hx.below (w' := w') hb)
  clear hx hb0
  have qpp := as_pp
  have qpt := as_pt
  have qpe := as_pe
  have qtp := as_tp
  have qtt := as_tt
  have qte := as_te
  simp only [Opd.v]
  by_cases h1 : (k1 == 4) = true
  · have HC : Hid (cmpB ls (.plain k1) (.text s2) = true) := by unfold Hid cmpB; rw [if_pos (show ((Opd.plain k1).kind == 4) = true from h1)]
    go_enter Tryd.func100, Tryd.ntmps100
    go_wp2_with (first
          | (go_at_call 135; refine (kindPlain _ _).mono ?_; rintro e w' ⟨rfl, rfl⟩)
          | (go_at_call 136; refine (kindText _ _).mono ?_; rintro e w' ⟨rfl, rfl⟩)
          | (go_at_call 137; refine (kindEnum _ _).mono ?_; rintro e w' ⟨rfl, rfl⟩))
    go_ret
    exact ⟨by rw [HC.out]; rfl, HB0.out _⟩
  have h1 : (k1 == 4) = false := by simpa using h1
  have HC : Hid (cmpB ls (.plain k1) (.text s2) = ((k1 : Int) == 1)) := by unfold Hid cmpB; rw [if_neg (show ¬ ((Opd.plain k1).kind == 4) = true from by rw [show (Opd.plain k1).kind = k1 from rfl, h1]; simp), if_neg (show ¬ ((Opd.text s2).kind == 4) = true from by simp [Opd.kind])]; try rfl
  go_enter Tryd.func100, Tryd.ntmps100
  go_wp2_with (first
        | (go_at_call 135; refine (kindPlain _ _).mono ?_; rintro e w' ⟨rfl, rfl⟩)
        | (go_at_call 136; refine (kindText _ _).mono ?_; rintro e w' ⟨rfl, rfl⟩)
        | (go_at_call 137; refine (kindEnum _ _).mono ?_; rintro e w' ⟨rfl, rfl⟩))
  go_ret
  exact ⟨by rw [HC.out]; rfl, HB0.out _⟩

set_option maxRecDepth 100000 in
set_option maxHeartbeats 1000000 in
theorem implCmp_pe (ca : Option Addr) (cl cc : Nat) (a : Option Addr) (c : Nat) (ls : List Lb) (k1 : Int) (m2 : ByteArray) (w : World) (hx : Lbs w a c ls) :
    Calls Tryd.prog 100 #[.agg #[.slice ca cl cc, .slice a ls.length c], (Opd.plain k1).v, (Opd.enum m2).v] w fun e w' => e = .returned (.bool (cmpB ls (.plain k1) (.enum m2))) ∧ Below w.heap.size w w' := by
  have hl := hx.len
  have hb0 : ∀ o1, Below w.heap.size w (w.alloc o1) := fun o1 => (Below.refl _ _).alloc (Nat.le_refl _) _
  have HB0 := Lib.hid hb0
  have HX := Lib.hid (fun w' hb => hx.below (w' := w') hb)
  clear hx hb0
  have qep := as_ep
  have qet := as_et
  have qee := as_ee
  have qpp := as_pp
  have qpt := as_pt
  have qpe := as_pe
  simp only [Opd.v]
  by_cases h1 : (k1 == 4) = true
  · have HC : Hid (cmpB ls (.plain k1) (.enum m2) = true) := by unfold Hid cmpB; rw [if_pos (show ((Opd.plain k1).kind == 4) = true from h1)]
    go_enter Tryd.func100, Tryd.ntmps100
    go_wp2_with (first
          | (go_at_call 135; refine (kindPlain _ _).mono ?_; rintro e w' ⟨rfl, rfl⟩)
          | (go_at_call 136; refine (kindText _ _).mono ?_; rintro e w' ⟨rfl, rfl⟩)
          | (go_at_call 137; refine (kindEnum _ _).mono ?_; rintro e w' ⟨rfl, rfl⟩))
    go_ret
    exact ⟨by rw [HC.out]; rfl, HB0.out _⟩
  have h1 : (k1 == 4) = false := by simpa using h1
  have HC : Hid (cmpB ls (.plain k1) (.enum m2) = cmpE ls m2 (.plain k1)) := by unfold Hid cmpB; rw [if_neg (show ¬ ((Opd.plain k1).kind == 4) = true from by rw [show (Opd.plain k1).kind = k1 from rfl, h1]; simp), if_neg (show ¬ ((Opd.enum m2).kind == 4) = true from by simp [Opd.kind])]; try rfl
  go_enter Tryd.func100, Tryd.ntmps100
  go_wp2_with (first
        | (go_at_call 135; refine (kindPlain _ _).mono ?_; rintro e w' ⟨rfl, rfl⟩)
        | (go_at_call 136; refine (kindText _ _).mono ?_; rintro e w' ⟨rfl, rfl⟩)
        | (go_at_call 137; refine (kindEnum _ _).mono ?_; rintro e w' ⟨rfl, rfl⟩))
  refine (implCmpE ca cl cc a c ls m2 (Opd.plain k1) _ (HX.out _ (HB0.out _))).mono ?_
  rintro e w2 ⟨rfl, hb2⟩
  go_wp2_with fail
  go_ret
  exact ⟨by rw [HC.out]; rfl, (HB0.out _).trans (hb2.mono (by simp))⟩

set_option maxRecDepth 100000 in
set_option maxHeartbeats 1000000 in
theorem implCmp_tp (ca : Option Addr) (cl cc : Nat) (a : Option Addr) (c : Nat) (ls : List Lb) (s1 : ByteArray) (k2 : Int) (w : World) (hx : Lbs w a c ls) :
    Calls Tryd.prog 100 #[.agg #[.slice ca cl cc, .slice a ls.length c], (Opd.text s1).v, (Opd.plain k2).v] w fun e w' => e = .returned (.bool (cmpB ls (.text s1) (.plain k2))) ∧ Below w.heap.size w w' := by
  have hl := hx.len
  have hb0 : ∀ o1, Below w.heap.size w (w.alloc o1) := fun o1 => (Below.refl _ _).alloc (Nat.le_refl _) _
  have HB0 := Lib.hid hb0
  have HX := Lib.hid (fun w' hb => hx.below (w' := w') hb)
  clear hx hb0
  have qpp := as_pp
  have qpt := as_pt
  have qpe := as_pe
  have qtp := as_tp
  have qtt := as_tt
  have qte := as_te
  simp only [Opd.v]
  by_cases h2 : (k2 == 4) = true
  · have HC : Hid (cmpB ls (.text s1) (.plain k2) = true) := by unfold Hid cmpB; rw [if_neg (show ¬ ((Opd.text s1).kind == 4) = true from by simp [Opd.kind]), if_pos (show ((Opd.plain k2).kind == 4) = true from h2)]
    go_enter Tryd.func100, Tryd.ntmps100
    go_wp2_with (first
          | (go_at_call 135; refine (kindPlain _ _).mono ?_; rintro e w' ⟨rfl, rfl⟩)
          | (go_at_call 136; refine (kindText _ _).mono ?_; rintro e w' ⟨rfl, rfl⟩)
          | (go_at_call 137; refine (kindEnum _ _).mono ?_; rintro e w' ⟨rfl, rfl⟩))
    go_ret
    exact ⟨by rw [HC.out]; rfl, HB0.out _⟩
  have h2 : (k2 == 4) = false := by simpa using h2
  have HC : Hid (cmpB ls (.text s1) (.plain k2) = ((1 : Int) == k2)) := by unfold Hid cmpB; rw [if_neg (show ¬ ((Opd.text s1).kind == 4) = true from by simp [Opd.kind]), if_neg (show ¬ ((Opd.plain k2).kind == 4) = true from by rw [show (Opd.plain k2).kind = k2 from rfl, h2]; simp)]; try rfl
  go_enter Tryd.func100, Tryd.ntmps100
  go_wp2_with (first
        | (go_at_call 135; refine (kindPlain _ _).mono ?_; rintro e w' ⟨rfl, rfl⟩)
        | (go_at_call 136; refine (kindText _ _).mono ?_; rintro e w' ⟨rfl, rfl⟩)
        | (go_at_call 137; refine (kindEnum _ _).mono ?_; rintro e w' ⟨rfl, rfl⟩))
  go_ret
  exact ⟨by rw [HC.out]; rfl, HB0.out _⟩

set_option maxRecDepth 100000 in
set_option maxHeartbeats 1000000 in
theorem implCmp_tt (ca : Option Addr) (cl cc : Nat) (a : Option Addr) (c : Nat) (ls : List Lb) (s1 : ByteArray) (s2 : ByteArray) (w : World) (hx : Lbs w a c ls) :
    Calls Tryd.prog 100 #[.agg #[.slice ca cl cc, .slice a ls.length c], (Opd.text s1).v, (Opd.text s2).v] w fun e w' => e = .returned (.bool (cmpB ls (.text s1) (.text s2))) ∧ Below w.heap.size w w' := by
  have hl := hx.len
  have hb0 : ∀ o1, Below w.heap.size w (w.alloc o1) := fun o1 => (Below.refl _ _).alloc (Nat.le_refl _) _
  have HB0 := Lib.hid hb0
  have HX := Lib.hid (fun w' hb => hx.below (w' := w') hb)
  clear hx hb0
  have qtp := as_tp
  have qtt := as_tt
  have qte := as_te
  simp only [Opd.v]
  have HC : Hid (cmpB ls (.text s1) (.text s2) = ((1 : Int) == 1)) := by unfold Hid cmpB; rw [if_neg (show ¬ ((Opd.text s1).kind == 4) = true from by simp [Opd.kind]), if_neg (show ¬ ((Opd.text s2).kind == 4) = true from by simp [Opd.kind])]; try rfl
  go_enter Tryd.func100, Tryd.ntmps100
  go_wp2_with (first
        | (go_at_call 135; refine (kindPlain _ _).mono ?_; rintro e w' ⟨rfl, rfl⟩)
        | (go_at_call 136; refine (kindText _ _).mono ?_; rintro e w' ⟨rfl, rfl⟩)
        | (go_at_call 137; refine (kindEnum _ _).mono ?_; rintro e w' ⟨rfl, rfl⟩))
  go_ret
  exact ⟨by rw [HC.out]; rfl, HB0.out _⟩

set_option maxRecDepth 100000 in
set_option maxHeartbeats 1000000 in
theorem implCmp_te (ca : Option Addr) (cl cc : Nat) (a : Option Addr) (c : Nat) (ls : List Lb) (s1 : ByteArray) (m2 : ByteArray) (w : World) (hx : Lbs w a c ls) :
    Calls Tryd.prog 100 #[.agg #[.slice ca cl cc, .slice a ls.length c], (Opd.text s1).v, (Opd.enum m2).v] w fun e w' => e = .returned (.bool (cmpB ls (.text s1) (.enum m2))) ∧ Below w.heap.size w w' := by
  have hl := hx.len
  have hb0 : ∀ o1, Below w.heap.size w (w.alloc o1) := fun o1 => (Below.refl _ _).alloc (Nat.le_refl _) _
  have HB0 := Lib.hid hb0
  have HX := Lib.hid (fun w' hb => hx.below (w' := w') hb)
  clear hx hb0
  have qep := as_ep
  have qet := as_et
  have qee := as_ee
  have qtp := as_tp
  have qtt := as_tt
  have qte := as_te
  simp only [Opd.v]
  have HC : Hid (cmpB ls (.text s1) (.enum m2) = cmpE ls m2 (.text s1)) := by unfold Hid cmpB; rw [if_neg (show ¬ ((Opd.text s1).kind == 4) = true from by simp [Opd.kind]), if_neg (show ¬ ((Opd.enum m2).kind == 4) = true from by simp [Opd.kind])]; try rfl
  go_enter Tryd.func100, Tryd.ntmps100
  go_wp2_with (first
        | (go_at_call 135; refine (kindPlain _ _).mono ?_; rintro e w' ⟨rfl, rfl⟩)
        | (go_at_call 136; refine (kindText _ _).mono ?_; rintro e w' ⟨rfl, rfl⟩)
        | (go_at_call 137; refine (kindEnum _ _).mono ?_; rintro e w' ⟨rfl, rfl⟩))
  refine (implCmpE ca cl cc a c ls m2 (Opd.text s1) _ (HX.out _ (HB0.out _))).mono ?_
  rintro e w2 ⟨rfl, hb2⟩
  go_wp2_with fail
  go_ret
  exact ⟨by rw [HC.out]; rfl, (HB0.out _).trans (hb2.mono (by simp))⟩

set_option maxRecDepth 100000 in
set_option maxHeartbeats 1000000 in
theorem implCmp_ep (ca : Option Addr) (cl cc : Nat) (a : Option Addr) (c : Nat) (ls : List Lb) (m1 : ByteArray) (k2 : Int) (w : World) (hx : Lbs w a c ls) :
    Calls Tryd.prog 100 #[.agg #[.slice ca cl cc, .slice a ls.length c], (Opd.enum m1).v, (Opd.plain k2).v] w fun e w' => e = .returned (.bool (cmpB ls (.enum m1) (.plain k2))) ∧ Below w.heap.size w w' := by
  have hl := hx.len
  have hb0 : ∀ o1, Below w.heap.size w (w.alloc o1) := fun o1 => (Below.refl _ _).alloc (Nat.le_refl _) _
  have HB0 := Lib.hid hb0
  have HX := Lib.hid (fun w' hb => hx.below (w' := w') hb)
  clear hx hb0
  have qep := as_ep
  have qet := as_et
  have qee := as_ee
  have qpp := as_pp
  have qpt := as_pt
  have qpe := as_pe
  simp only [Opd.v]
  by_cases h2 : (k2 == 4) = true
  · have HC : Hid (cmpB ls (.enum m1) (.plain k2) = true) := by unfold Hid cmpB; rw [if_neg (show ¬ ((Opd.enum m1).kind == 4) = true from by simp [Opd.kind]), if_pos (show ((Opd.plain k2).kind == 4) = true from h2)]
    go_enter Tryd.func100, Tryd.ntmps100
    go_wp2_with (first
          | (go_at_call 135; refine (kindPlain _ _).mono ?_; rintro e w' ⟨rfl, rfl⟩)
          | (go_at_call 136; refine (kindText _ _).mono ?_; rintro e w' ⟨rfl, rfl⟩)
          | (go_at_call 137; refine (kindEnum _ _).mono ?_; rintro e w' ⟨rfl, rfl⟩))
    go_ret
    exact ⟨by rw [HC.out]; rfl, HB0.out _⟩
  have h2 : (k2 == 4) = false := by simpa using h2
  have HC : Hid (cmpB ls (.enum m1) (.plain k2) = cmpE ls m1 (.plain k2)) := by unfold Hid cmpB; rw [if_neg (show ¬ ((Opd.enum m1).kind == 4) = true from by simp [Opd.kind]), if_neg (show ¬ ((Opd.plain k2).kind == 4) = true from by rw [show (Opd.plain k2).kind = k2 from rfl, h2]; simp)]; try rfl
  go_enter Tryd.func100, Tryd.ntmps100
  go_wp2_with (first
        | (go_at_call 135; refine (kindPlain _ _).mono ?_; rintro e w' ⟨rfl, rfl⟩)
        | (go_at_call 136; refine (kindText _ _).mono ?_; rintro e w' ⟨rfl, rfl⟩)
        | (go_at_call 137; refine (kindEnum _ _).mono ?_; rintro e w' ⟨rfl, rfl⟩))
  refine (implCmpE ca cl cc a c ls m1 (Opd.plain k2) _ (HX.out _ (HB0.out _))).mono ?_
  rintro e w2 ⟨rfl, hb2⟩
  go_wp2_with fail
  go_ret
  exact ⟨by rw [HC.out]; rfl, (HB0.out _).trans (hb2.mono (by simp))⟩

set_option maxRecDepth 100000 in
set_option maxHeartbeats 1000000 in
theorem implCmp_et (ca : Option Addr) (cl cc : Nat) (a : Option Addr) (c : Nat) (ls : List Lb) (m1 : ByteArray) (s2 : ByteArray) (w : World) (hx : Lbs w a c ls) :
    Calls Tryd.prog 100 #[.agg #[.slice ca cl cc, .slice a ls.length c], (Opd.enum m1).v, (Opd.text s2).v] w fun e w' => e = .returned (.bool (cmpB ls (.enum m1) (.text s2))) ∧ Below w.heap.size w w' := by
  have hl := hx.len
  have hb0 : ∀ o1, Below w.heap.size w (w.alloc o1) := fun o1 => (Below.refl _ _).alloc (Nat.le_refl _) _
  have HB0 := Lib.hid hb0
  have HX := Lib.hid (fun w' hb => hx.below (w' := w') hb)
  clear hx hb0
  have qep := as_ep
  have qet := as_et
  have qee := as_ee
  have qtp := as_tp
  have qtt := as_tt
  have qte := as_te
  simp only [Opd.v]
  have HC : Hid (cmpB ls (.enum m1) (.text s2) = cmpE ls m1 (.text s2)) := by unfold Hid cmpB; rw [if_neg (show ¬ ((Opd.enum m1).kind == 4) = true from by simp [Opd.kind]), if_neg (show ¬ ((Opd.text s2).kind == 4) = true from by simp [Opd.kind])]; try rfl
  go_enter Tryd.func100, Tryd.ntmps100
  go_wp2_with (first
        | (go_at_call 135; refine (kindPlain _ _).mono ?_; rintro e w' ⟨rfl, rfl⟩)
        | (go_at_call 136; refine (kindText _ _).mono ?_; rintro e w' ⟨rfl, rfl⟩)
        | (go_at_call 137; refine (kindEnum _ _).mono ?_; rintro e w' ⟨rfl, rfl⟩))
  refine (implCmpE ca cl cc a c ls m1 (Opd.text s2) _ (HX.out _ (HB0.out _))).mono ?_
  rintro e w2 ⟨rfl, hb2⟩
  go_wp2_with fail
  go_ret
  exact ⟨by rw [HC.out]; rfl, (HB0.out _).trans (hb2.mono (by simp))⟩

set_option maxRecDepth 100000 in
set_option maxHeartbeats 1000000 in
theorem implCmp_ee (ca : Option Addr) (cl cc : Nat) (a : Option Addr) (c : Nat) (ls : List Lb) (m1 : ByteArray) (m2 : ByteArray) (w : World) (hx : Lbs w a c ls) :
    Calls Tryd.prog 100 #[.agg #[.slice ca cl cc, .slice a ls.length c], (Opd.enum m1).v, (Opd.enum m2).v] w fun e w' => e = .returned (.bool (cmpB ls (.enum m1) (.enum m2))) ∧ Below w.heap.size w w' := by
  have hl := hx.len
  have hb0 : ∀ o1, Below w.heap.size w (w.alloc o1) := fun o1 => (Below.refl _ _).alloc (Nat.le_refl _) _
  have HB0 := Lib.hid hb0
  have HX := Lib.hid (fun w' hb => hx.below (w' := w') hb)
  clear hx hb0
  have qep := as_ep
  have qet := as_et
  have qee := as_ee
  simp only [Opd.v]
  have HC : Hid (cmpB ls (.enum m1) (.enum m2) = cmpE ls m1 (.enum m2)) := by unfold Hid cmpB; rw [if_neg (show ¬ ((Opd.enum m1).kind == 4) = true from by simp [Opd.kind]), if_neg (show ¬ ((Opd.enum m2).kind == 4) = true from by simp [Opd.kind])]; try rfl
  go_enter Tryd.func100, Tryd.ntmps100
  go_wp2_with (first
        | (go_at_call 135; refine (kindPlain _ _).mono ?_; rintro e w' ⟨rfl, rfl⟩)
        | (go_at_call 136; refine (kindText _ _).mono ?_; rintro e w' ⟨rfl, rfl⟩)
        | (go_at_call 137; refine (kindEnum _ _).mono ?_; rintro e w' ⟨rfl, rfl⟩))
  refine (implCmpE ca cl cc a c ls m1 (Opd.enum m2) _ (HX.out _ (HB0.out _))).mono ?_
  rintro e w2 ⟨rfl, hb2⟩
  go_wp2_with fail
  go_ret
  exact ⟨by rw [HC.out]; rfl, (HB0.out _).trans (hb2.mono (by simp))⟩

theorem implCmp (ca : Option Addr) (cl cc : Nat) (a : Option Addr) (c : Nat) (ls : List Lb) (x y : Opd) (w : World) (hx : Lbs w a c ls) :
    Calls Tryd.prog 100 #[.agg #[.slice ca cl cc, .slice a ls.length c], x.v, y.v] w fun e w' => e = .returned (.bool (cmpB ls x y)) ∧ Below w.heap.size w w' := by
  cases x with
  | plain u => cases y with
    | plain v => exact implCmp_pp ca cl cc a c ls u v w hx
    | text v => exact implCmp_pt ca cl cc a c ls u v w hx
    | enum v => exact implCmp_pe ca cl cc a c ls u v w hx
  | text u => cases y with
    | plain v => exact implCmp_tp ca cl cc a c ls u v w hx
    | text v => exact implCmp_tt ca cl cc a c ls u v w hx
    | enum v => exact implCmp_te ca cl cc a c ls u v w hx
  | enum u => cases y with
    | plain v => exact implCmp_ep ca cl cc a c ls u v w hx
    | text v => exact implCmp_et ca cl cc a c ls u v w hx
    | enum v => exact implCmp_ee ca cl cc a c ls u v w hx

end Go.Proofs.YtefjjcoaeanagaaDoor
