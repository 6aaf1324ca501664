/- The program's reader of statements: a type. -/
/- The program's reader of statements: dataType. -/
/- impl.ParseType. -/
import Derived.Test.YtjjdcdnaonfnmaaGreatDoorMDrawType
import Derived.Test.YtjjdcdnaonfnmaaGreatDoorMExprR
import Derived.Deep.RegionLaw
namespace Go.Proofs.YtjjdcdnaonfnmaaGreatDoor
open Go.RowKit Go.Maps

set_option maxRecDepth 100000 in
set_option maxHeartbeats 4000000 in
theorem stTypeName {w : World} {rb : Nat} {a : Option Addr} {c : Nat} {l : List Tk} {i : Nat} {m : Bool} (h : SR w rb a c l i m) (hi : i ≤ 1000000) (k : Int) (hk : (Lit.int .i64 k).wf = true) (f : ByteArray) (mn mx : Int) (hmx : mx ≤ 0) :
    Calls Tryz.prog 55 #[.pointer (some ⟨rb, 0, none⟩), .int .i64 k, .agg #[.string f, .int .i64 mn, .int .i64 mx, .bool true]] w (TyR w rb a c l m ((nameI l i).map fun s => (k, 0, s, i + 1))) := by
  have hd : decide (0 < mx) = false := decide_eq_false (by omega)
  have HT := Lib.hid (T3.new h f mn mx true k)
  have HH := Lib.hid h
  have hrl := h.lt
  clear h
  go_enter Tryz.func55, Tryz.ntmps55
  go_wp2_with fail
  generalize ((w.alloc (.cells #[.string f, .int .i64 mn, .int .i64 mx, .bool true] 38)).alloc (.cells #[.int .i64 0, .int .i64 0, .string ⟨#[]⟩] 25)).alloc (.cells #[.int .i64 k, .int .i64 0, .string ⟨#[]⟩] 25) = W0 at HT ⊢
  refine (stName HT.out.st.rd hi).mono ?_
  intro x w1 hx
  obtain ⟨s, j, m1, rfl, hs, s1, hans⟩ : ∃ (s : ByteArray) (j : Nat) (m1 : Bool), x = .returned (.string s) ∧ s.size ≤ 1048576 ∧ SSt W0 rb a c l j m1 w1 ∧ ((m1 = false ∧ m = false ∧ j = i + 1 ∧ nameI l i = some s ∧ i < l.length) ∨ (m1 = true ∧ (m = true ∨ nameI l i = none))) := by
    rcases hx with ⟨h1, t, ht, hlt, hz, rfl, s⟩ | ⟨h1, t, j, _, hz, rfl, s⟩
    · exact ⟨_, _, _, rfl, hz, s, .inl ⟨rfl, h1, rfl, ht, hlt⟩⟩
    · exact ⟨_, _, _, rfl, hz, s, .inr ⟨rfl, h1⟩⟩
  have H1 := Lib.hid (HT.out.next hrl s1)
  have HN := Lib.hid ((HT.out.next hrl s1).name HH.out s)
  have HA := Lib.hid hans
  clear s1 hans hx
  obtain ⟨c3, ⟨t0, t1, t2⟩, tf, ⟨r0, r1, r2⟩, rf⟩ := H1.out.cells
  go_wp2_with fail
  refine bodyPost_ret (v := .agg #[.int .i64 k, .int .i64 0, .string s]) (by simp [results, Tryz.results55, go_sem, *]) rfl ?_
  have hO := HN.out.out HH.out (.int .i64 k) (.int .i64 0) (.string s)
  refine ⟨k, 0, s, rfl, hs, hk, ?_⟩
  rcases HA.out with ⟨rfl, rfl, rfl, hn, hlt⟩ | ⟨rfl, hm⟩
  · exact .inl ⟨rfl, i + 1, by rw [hn]; rfl, by omega, hO⟩
  · refine .inr ⟨?_, j, hO⟩
    rcases hm with hm | hm
    · exact .inl hm
    · exact .inr (by rw [hm]; rfl)

/-- What 'typeForms()[n]' gives. -/
theorem lookForm0 {w : World} {b : Nat} (h : w.ownsMap Tryz.prog 3 formR b 5 formsD) (n : Int) (hr : 0 ≤ n ∧ n ≤ 4) :
    (Instr.lookup 40 (.map (some b)) (.int .i64 n) false).run Tryz.prog w = .ok (formOf n) w := by
  have hn : (Lit.int .i64 n).wf = true := by rcases (show n = 0 ∨ n = 1 ∨ n = 2 ∨ n = 3 ∨ n = 4 by omega) with rfl | rfl | rfl | rfl | rfl <;> decide
  obtain ⟨v, ps, hrun, hv⟩ := h.lookup lawKey Tryz.underlying40 (zeroForm w) (formR_mk ⟨#[]⟩ 0 0 false) (keyIs n hn)
  rw [hrun]
  have hc : n = 0 ∨ n = 1 ∨ n = 2 ∨ n = 3 ∨ n = 4 := by omega
  rcases hc with rfl | rfl | rfl | rfl | rfl
  · have h1 : formsD.atKey (key 0) (formD [] 0 0 false) = formD [105, 110, 116] 0 0 false := rfl
    rw [formR_inv (hv.trans (by rw [h1]))]; rfl
  · have h1 : formsD.atKey (key 1) (formD [] 0 0 false) = formD [116, 101, 120, 116] 0 0 false := rfl
    rw [formR_inv (hv.trans (by rw [h1]))]; rfl
  · have h1 : formsD.atKey (key 2) (formD [] 0 0 false) = formD [98, 111, 111, 108] 0 0 false := rfl
    rw [formR_inv (hv.trans (by rw [h1]))]; rfl
  · have h1 : formsD.atKey (key 3) (formD [] 0 0 false) = formD [99, 104, 97, 114] 1 100 false := rfl
    rw [formR_inv (hv.trans (by rw [h1]))]; rfl
  · have h1 : formsD.atKey (key 4) (formD [] 0 0 false) = formD [101, 110, 117, 109] 0 0 true := rfl
    rw [formR_inv (hv.trans (by rw [h1]))]; rfl

/-- The word, bounds and naming of the j-th form. -/
def fW (j : Nat) : ByteArray := if j = 0 then ⟨#[105, 110, 116]⟩ else if j = 1 then ⟨#[116, 101, 120, 116]⟩ else if j = 2 then ⟨#[98, 111, 111, 108]⟩ else if j = 3 then ⟨#[99, 104, 97, 114]⟩ else ⟨#[101, 110, 117, 109]⟩
def fMn (j : Nat) : Int := if j = 3 then 1 else 0
def fMx (j : Nat) : Int := if j = 3 then 100 else 0
theorem form_at : ∀ j : Nat, j < 5 → formOf (j : Int) = .agg #[.string (fW j), .int .i64 (fMn j), .int .i64 (fMx j), .bool (decide (j = 4))] := by
  intro j hj
  have hc : j = 0 ∨ j = 1 ∨ j = 2 ∨ j = 3 ∨ j = 4 := by omega
  rcases hc with rfl | rfl | rfl | rfl | rfl <;> rfl

/-- What follows the word of the j-th form. -/
def tyI (l : List Tk) (i j : Nat) : TyA := if j < 3 then some ((j : Int), 0, ⟨#[]⟩, i) else if j = 3 then lenI l i 3 else (nameI l i).map fun s => (4, 0, s, i + 1)

/-- The first form from j on with this word. -/
def formI (t : ByteArray) : Nat → Nat → Option Nat
  | 0, _ => none
  | n + 1, j => if (fW j).toList == t.toList then some j else formI t n (j + 1)

/-- The type that stands there, and the place behind it. -/
def typeI (l : List Tk) (i : Nat) : TyA := match valT l i 0 with
  | some t => match formI t 5 0 with
    | some j => tyI l (i + 1) j
    | none => none
  | none => none

theorem stTypeOf {w : World} {rb : Nat} {a : Option Addr} {c : Nat} {l : List Tk} {i : Nat} {m : Bool} (h : SR w rb a c l i m) (hi : i ≤ 1000000) (hil : i ≤ l.length) (j : Nat) (hj : j < 5)
    (tp : TypeId) (p : Value) (hG : Glob tp p w) (hw16 : 6 ≤ w.heap.size) (hrb : 6 ≤ rb) :
    Calls Tryz.prog 55 #[.pointer (some ⟨rb, 0, none⟩), .int .i64 (j : Int), .agg #[.string (fW j), .int .i64 (fMn j), .int .i64 (fMx j), .bool (decide (j = 4))]] w (TyR w rb a c l m (tyI l i j)) := by
  have hc : j = 0 ∨ j = 1 ∨ j = 2 ∨ j = 3 ∨ j = 4 := by omega
  rcases hc with rfl | rfl | rfl | rfl | rfl
  · exact stTypePlain h 0 (by decide) _ _ 0 (by omega) hil
  · exact stTypePlain h 1 (by decide) _ _ 0 (by omega) hil
  · exact stTypePlain h 2 (by decide) _ _ 0 (by omega) hil
  · exact stTypeLen h hi 3 (by decide) _ _ 100 (by omega) tp p hG hw16 hrb
  · exact stTypeName h hi 4 (by decide) _ _ 0 (by omega)

end Go.Proofs.YtjjdcdnaonfnmaaGreatDoor

namespace Go.Proofs.YtjjdcdnaonfnmaaGreatDoor
open Go.RowKit Go.Maps

/-- What lies while the forms are tried. -/
structure DT (w : World) (rb : Nat) (a : Option Addr) (c : Nat) (l : List Tk) (i : Nat) (m : Bool) (b : Nat) (W : World) : Prop where
  st : SSt w rb a c l i m W
  rr : TyRow W w.heap.size 0 0 ⟨#[]⟩
  mp : W.ownsMap Tryz.prog 3 formR b 5 formsD

theorem DT.out {w : World} {rb : Nat} {a : Option Addr} {c : Nat} {l : List Tk} {i i0 : Nat} {m m0 : Bool} {W : World} (h : SSt w rb a c l i m W) (h0 : SR w rb a c l i0 m0) (v0 v1 v2 : Value) :
    SSt w rb a c l i m (((W.setCell ⟨w.heap.size, 0, none⟩ v0).setCell ⟨w.heap.size, 1, none⟩ v1).setCell ⟨w.heap.size, 2, none⟩ v2) :=
  ((h.store h0 (Nat.le_refl _) _ _).store h0 (Nat.le_refl _) _ _).store h0 (Nat.le_refl _) _ _

theorem formI_step (t : ByteArray) (n j : Nat) : formI t (n + 1) j = if (fW j).toList == t.toList then some j else formI t n (j + 1) := rfl

set_option maxRecDepth 100000 in
set_option maxHeartbeats 8000000 in
theorem stDataType {w : World} {rb : Nat} {a : Option Addr} {c : Nat} {l : List Tk} {i : Nat} {m : Bool} (h : SR w rb a c l i m) (hi : i ≤ 999999)
    (tp : TypeId) (p : Value) (hG : Glob tp p w) (hw16 : 6 ≤ w.heap.size) (hrb : 6 ≤ rb) :
    Calls Tryz.prog 27 #[.pointer (some ⟨rb, 0, none⟩)] w (TyR w rb a c l m (typeI l i)) := by
  have HH := Lib.hid h
  have hrl := h.lt
  have hB0 : Below w.heap.size w (w.alloc (.cells #[.int .i64 0, .int .i64 0, .string ⟨#[]⟩] 25)) := (Below.refl _ _).alloc (Nat.le_refl _) _
  have HS0 := Lib.hid ((SSt.refl h).below hB0)
  have HR0 := Lib.hid (tyRow_new w 0 0 ⟨#[]⟩)
  have HG : Hid (∀ W, w.grownBy W (some rb) → Glob tp p W) := fun W hg => hG.below ((Below.refl _ _).grown hg hw16 (fun k hk => by cases hk; exact hrb)) (Nat.le_refl _)
  clear h hG hB0
  go_enter Tryz.func27, Tryz.ntmps27
  go_wp2_with fail
  generalize w.alloc (.cells #[.int .i64 0, .int .i64 0, .string ⟨#[]⟩] 25) = W0 at HS0 HR0 ⊢
  refine (stValue HS0.out.rd (by omega) 0).mono ?_
  intro x w1 hx
  obtain ⟨t, i1, m1, rfl, s1, hi1, hans⟩ : ∃ (t : ByteArray) (i1 : Nat) (m1 : Bool), x = .returned (.string t) ∧ SSt W0 rb a c l i1 m1 w1 ∧ (i1 ≤ i + 1 ∧ (m1 = false → i1 ≤ l.length)) ∧ ((m = false ∧ m1 = false ∧ i1 = i + 1 ∧ valT l i 0 = some t) ∨ (m1 = true ∧ t = ⟨#[]⟩ ∧ (m = true ∨ valT l i 0 = none))) := by
    rcases hx with ⟨h1, t, ht, hlt, rfl, s⟩ | ⟨h1, rfl, s⟩
    · exact ⟨t, _, _, rfl, s, ⟨Nat.le_refl _, fun _ => by omega⟩, .inl ⟨h1, rfl, rfl, ht⟩⟩
    · exact ⟨_, _, _, rfl, s, ⟨by omega, fun h => by cases h⟩, .inr ⟨rfl, rfl, h1⟩⟩
  have HA := Lib.hid hans
  have HI1 := Lib.hid hi1
  have HS1 := Lib.hid (HS0.out.trans s1)
  have HR1 := Lib.hid (TyRow.kept HR0.out s1.gr (by omega))
  clear s1 hans hx hi1
  go_wp2_with fail
  refine (implForms w1).mono ?_
  rintro x w2 ⟨rfl, o2, b2⟩
  have HD := Lib.hid (show DT w rb a c l i1 m1 w1.heap.size w2 from ⟨HS1.out.below b2, (b2.block _ HR1.out.lt).trans HR1.out, o2⟩)
  clear o2 b2
  go_wp2_with fail
  go_loopw [5] (fun k wr => ∃ j : Nat, j ≤ 5 ∧ k = .int .i64 j ∧ wr = w2 ∧ Hid (formI t 5 0 = formI t (5 - j) j)) (fun k _ => 5 - (intOf k).toNat)
  case atStart => exact ⟨0, by omega, rfl, rfl, rfl⟩
  case round =>
    obtain ⟨j, hj, rfl, rfl, HF⟩ := hrel
    by_cases hlt : j < 5
    · have hle : decide ((j : Int) ≤ 4) = true := decide_eq_true (by omega)
      have hf0 := lookForm0 HD.out.mp (j : Int) (by omega)
      rw [form_at j hlt] at hf0
      have hstep : formI t (5 - j) j = if (fW j).toList == t.toList then some j else formI t (5 - (j + 1)) (j + 1) := by rw [show 5 - j = (5 - (j + 1)) + 1 by omega]; exact formI_step t _ j
      have HST := Lib.hid hstep
      clear hstep
      cases he : ((fW j).toList == t.toList) with
      | true =>
        have HE := Lib.hid he
        have HTO : Hid (∀ {W : World}, SR W rb a c l i1 m1 → w.grownBy W (some rb) → m1 = false → Calls Tryz.prog 55 #[.pointer (some ⟨rb, 0, none⟩), .int .i64 (j : Int), .agg #[.string (fW j), .int .i64 (fMn j), .int .i64 (fMx j), .bool (decide (j = 4))]] W (TyR W rb a c l m1 (tyI l i1 j))) :=
          fun hW hg hm => stTypeOf hW (by have := HI1.out.1; omega) (HI1.out.2 hm) j hlt tp p (HG.out _ hg) (Nat.le_trans hw16 hg.size) hrb
        -- a word is there
        rcases HA.out with ⟨rfl, rfl, rfl, hv⟩ | ⟨_, rfl, _⟩
        · have HV := Lib.hid hv
          generalize fW j = fw at *
          generalize fMn j = fmn at *
          generalize fMx j = fmx at *
          generalize decide (j = 4) = fnm at *
          have hfd : ∀ W, (Instr.field 38 (.agg #[.string fw, .int .i64 fmn, .int .i64 fmx, .bool fnm]) 0).run Tryz.prog W = .ok (.string fw) W := fun W => by kernel_rfl
          clear hv
          go_wp2_with fail
          refine (HTO.out HD.out.st.rd HD.out.st.gr (by first | rfl | trivial)).mono ?_
          rintro x w3 ⟨k, n, s, rfl, hs, hk, hr⟩
          have hg3 : ∃ j' m', SSt wr rb a c l j' m' w3 := by
            rcases hr with ⟨_, j', _, _, s3⟩ | ⟨_, j', s3⟩
            · exact ⟨_, _, s3⟩
            · exact ⟨_, _, s3⟩
          have HR3 : Hid (TyRow w3 w.heap.size 0 0 ⟨#[]⟩) := by
            obtain ⟨_, _, s3⟩ := hg3
            exact TyRow.kept HD.out.rr s3.gr (by omega)
          have HRR := Lib.hid hr
          obtain ⟨r0, r1, r2, rf⟩ := HR3.out.cells
          clear hr hg3
          go_wp2_with fail
          refine bodyPost_ret (v := .agg #[.int .i64 k, .int .i64 n, .string s]) (by simp [results, Tryz.results27, go_sem, *]) rfl ?_
          refine ⟨k, n, s, rfl, hs, hk, ?_⟩
          have hty : typeI l i = tyI l (i + 1) j := by
            unfold typeI
            rw [HV.out]
            simp only
            rw [HF.out, HST.out, if_pos HE.out]
          rcases HRR.out with ⟨_, j', hj', hl', s3⟩ | ⟨hm, j', s3⟩
          · exact .inl ⟨rfl, j', by rw [hty]; exact hj', hl', DT.out (HD.out.st.trans s3) HH.out _ _ _⟩
          · refine .inr ⟨.inr ?_, j', DT.out (HD.out.st.trans s3) HH.out _ _ _⟩
            rcases hm with h | h
            · cases h
            · rw [hty]; exact h
        · exfalso
          have : j = 0 ∨ j = 1 ∨ j = 2 ∨ j = 3 ∨ j = 4 := by omega
          have h0 := HE.out
          rw [Lib.toList_data, Lib.toList_data] at h0
          rcases this with rfl | rfl | rfl | rfl | rfl <;> exact absurd h0 (by decide)
      | false =>
        have HN : Hid (formI t 5 0 = formI t (5 - (j + 1)) (j + 1)) := by unfold Hid; rw [HF.out, HST.out, if_neg (by rw [he]; decide)]
        generalize fW j = fw at *
        generalize fMn j = fmn at *
        generalize fMx j = fmx at *
        generalize decide (j = 4) = fnm at *
        have hfd : ∀ W, (Instr.field 38 (.agg #[.string fw, .int .i64 fmn, .int .i64 fmx, .bool fnm]) 0).run Tryz.prog W = .ok (.string fw) W := fun W => by kernel_rfl
        go_wp2_with fail
        go_roundw
        case rel => exact ⟨j + 1, by omega, by go_num, by first | rfl | trivial, HN⟩
        case measure => simp [intOf]; omega
    · obtain rfl : j = 5 := by omega
      obtain ⟨c0, c1, c2, f1, f2⟩ := HD.out.st.rd.cells
      obtain ⟨r0, r1, r2, rf⟩ := HD.out.rr.cells
      have hne : ¬ rb = w.heap.size := by omega
      have hne' : ¬ w.heap.size = rb := by omega
      have HSM := Lib.hid (HD.out.st.setM true)
      go_wp2_with fail
      refine bodyPost_ret (v := .agg #[.int .i64 0, .int .i64 0, .string ⟨#[]⟩]) (by simp [results, Tryz.results27, go_sem, *]) rfl ?_
      refine ⟨0, 0, ⟨#[]⟩, rfl, by decide, by decide, .inr ⟨?_, i1, DT.out HSM.out HH.out _ _ _⟩⟩
      rcases HA.out with ⟨_, _, _, hv⟩ | ⟨_, _, hm⟩
      · refine .inr ?_
        unfold typeI
        rw [hv]
        simp only
        rw [HF.out]
        rfl
      · rcases hm with h | h
        · exact .inl h
        · refine .inr ?_
          unfold typeI
          rw [h]

end Go.Proofs.YtjjdcdnaonfnmaaGreatDoor

namespace Go.Proofs.YtjjdcdnaonfnmaaGreatDoor
open Go.RowKit Go.Maps

/-- The right type that stands there, and the place behind it. -/
def typeP (l : List Tk) (at_ : Int) : TyA := if at_ < 0 then none else match typeI l at_.toNat with
  | some (k, n, s, j) => if typeOkB k n s = true then some (k, n, s, j) else none
  | none => none

/-- How ParseType answers. -/
def ParseTy (w : World) (ans : TyA) (x : Ending) (w' : World) : Prop := match ans with
  | some (k, n, s, j) => x = .returned (.tuple #[.agg #[.int .i64 k, .int .i64 n, .string s], .int .i64 (j : Int)]) ∧ Below w.heap.size w w'
  | none => x = .returned (.tuple #[.agg #[.int .i64 0, .int .i64 0, .string ⟨#[]⟩], .int .i64 (-1)]) ∧ Below w.heap.size w w'

theorem below_st3 {w W : World} (h : Below w.heap.size w W) (v0 v1 v2 : Value) {b : Nat} (hb : w.heap.size ≤ b) : Below w.heap.size w (((W.setCell ⟨b, 0, none⟩ v0).setCell ⟨b, 1, none⟩ v1).setCell ⟨b, 2, none⟩ v2) :=
  ((h.setCell (p := ⟨b, 0, none⟩) hb v0).setCell (p := ⟨b, 1, none⟩) hb v1).setCell (p := ⟨b, 2, none⟩) hb v2

set_option maxRecDepth 100000 in
set_option maxHeartbeats 8000000 in
theorem readAtType (a : Option Addr) (c : Nat) (l : List Tk) (at_ : Int) (w : World) (ht : Toks w a c l) (hl : l.length ≤ 1000000) (hf : ∀ x ∈ l, x.text.size ≤ 1048576) (ha : at_ ≤ 999999)
    (tp : TypeId) (p : Value) (hG : Glob tp p w) (hw16 : 6 ≤ w.heap.size) :
    Calls Tryz.prog 26 #[.slice a l.length c, .int .i64 at_, .func (.func 27) #[] #[], .func (.func 8) #[] #[]] w (ParseTy w (typeP l at_)) := by
  by_cases h0 : at_ < 0
  · have HP : Hid (typeP l at_ = none) := by unfold Hid typeP; rw [if_pos h0]
    rw [HP.out]
    have hd : decide (at_ < 0) = true := decide_eq_true h0
    have HB := Lib.hid (show Below w.heap.size w ((w.alloc (.cells #[.int .i64 0, .int .i64 0, .string ⟨#[]⟩] 25)).alloc (.cells #[.int .i64 0, .int .i64 0, .string ⟨#[]⟩] 25)) from below2 _ _ _)
    clear ht hG h0
    go_enter Tryz.func26, Tryz.ntmps26
    go_wp2_with fail
    refine bodyPost_ret (v := .tuple #[.agg #[.int .i64 0, .int .i64 0, .string ⟨#[]⟩], .int .i64 (-1)]) (by simp [results, Tryz.results26, go_sem]) rfl ?_
    exact ⟨rfl, by first | exact HB.out | exact below_st3 HB.out _ _ _ (Nat.le_refl _)⟩
  · obtain ⟨i, rfl⟩ : ∃ i : Nat, at_ = (i : Int) := ⟨at_.toNat, by omega⟩
    have hd : decide ((i : Int) < 0) = false := decide_eq_false (by omega)
    have HP : Hid (typeP l (i : Int) = match typeI l i with | some (k, n, s, j) => if typeOkB k n s = true then some (k, n, s, j) else none | none => none) := by
      unfold Hid typeP; rw [if_neg h0]; rfl
    have hB3 := typeAlloc w (.cells #[.int .i64 0, .int .i64 0, .string ⟨#[]⟩] 25) (.cells #[.int .i64 0, .int .i64 0, .string ⟨#[]⟩] 25) (.cells #[.slice a l.length c, .int .i64 (i : Int), .bool false] 84)
    have r0 := tyRow_new w 0 0 ⟨#[]⟩
    have r1 := tyRow_new (w.alloc (.cells #[.int .i64 0, .int .i64 0, .string ⟨#[]⟩] 25)) 0 0 ⟨#[]⟩
    have r2 := heap_alloc_new ((w.alloc (.cells #[.int .i64 0, .int .i64 0, .string ⟨#[]⟩] 25)).alloc (.cells #[.int .i64 0, .int .i64 0, .string ⟨#[]⟩] 25)) (.cells #[.slice a l.length c, .int .i64 (i : Int), .bool false] 84)
    have z1 : (w.alloc (.cells #[.int .i64 0, .int .i64 0, .string ⟨#[]⟩] 25)).heap.size = w.heap.size + 1 := by simp
    have z2 : ((w.alloc (.cells #[.int .i64 0, .int .i64 0, .string ⟨#[]⟩] 25)).alloc (.cells #[.int .i64 0, .int .i64 0, .string ⟨#[]⟩] 25)).heap.size = w.heap.size + 2 := by simp
    have z3 : (((w.alloc (.cells #[.int .i64 0, .int .i64 0, .string ⟨#[]⟩] 25)).alloc (.cells #[.int .i64 0, .int .i64 0, .string ⟨#[]⟩] 25)).alloc (.cells #[.slice a l.length c, .int .i64 (i : Int), .bool false] 84)).heap.size = w.heap.size + 3 := by simp
    rw [z1] at r1
    rw [z2] at r2
    have hB := hB3
    have HR0 := Lib.hid ((r0.alloc (.cells #[.int .i64 0, .int .i64 0, .string ⟨#[]⟩] 25)).alloc (.cells #[.slice a l.length c, .int .i64 (i : Int), .bool false] 84))
    have HR1 := Lib.hid (r1.alloc (.cells #[.slice a l.length c, .int .i64 (i : Int), .bool false] 84))
    have HSR : Hid (SR (((w.alloc (.cells #[.int .i64 0, .int .i64 0, .string ⟨#[]⟩] 25)).alloc (.cells #[.int .i64 0, .int .i64 0, .string ⟨#[]⟩] 25)).alloc (.cells #[.slice a l.length c, .int .i64 (i : Int), .bool false] 84)) (w.heap.size + 2) a c l i false) := by
      refine ⟨r2, ht.below hB3, fun b off hz e => ?_, hl, hf⟩
      obtain ⟨b1, off1, ha1, hlt, _⟩ := ht.2.2.2.2 hz
      rw [e] at ha1
      cases ha1
      omega
    have HB := Lib.hid hB3
    have HG := Lib.hid (hG.below hB3 hw16)
    have HZ3 := Lib.hid z3
    clear r0 r1 r2 z1 z2 z3 hB hB3 ht hG h0
    go_enter Tryz.func26, Tryz.ntmps26
    go_wp2_with fail
    generalize ((w.alloc (.cells #[.int .i64 0, .int .i64 0, .string ⟨#[]⟩] 25)).alloc (.cells #[.int .i64 0, .int .i64 0, .string ⟨#[]⟩] 25)).alloc (.cells #[.slice a l.length c, .int .i64 (i : Int), .bool false] 84) = W0 at HR0 HR1 HSR HB HG HZ3 ⊢
    refine (stDataType HSR.out (by omega) tp p HG.out (by have := HZ3.out; omega) (by omega)).mono ?_
    rintro x w3 ⟨k, n, s, rfl, hs, hk, hr⟩
    obtain ⟨j, m3, s3⟩ : ∃ j m', SSt W0 (w.heap.size + 2) a c l j m' w3 := by
      rcases hr with ⟨_, j, _, _, s3⟩ | ⟨_, j, s3⟩
      · exact ⟨_, _, s3⟩
      · exact ⟨_, _, s3⟩
    have HR03 := Lib.hid ((TyRow.kept HR0.out s3.gr (by omega)).alloc (.cells #[.int .i64 k, .int .i64 n, .string s] 25))
    have HR13 := Lib.hid ((TyRow.kept HR1.out s3.gr (by omega)).alloc (.cells #[.int .i64 k, .int .i64 n, .string s] 25))
    have HX3 := Lib.hid (tyRow_new w3 k n s)
    have hz3 : w.heap.size + 2 < w3.heap.size := by have h1 := s3.gr.size; have h2 := HZ3.out; omega
    have HB3 := Lib.hid ((HB.out.grown s3.gr HB.out.size (fun q hq => by cases hq; omega)).alloc (show w.heap.size ≤ w3.heap.size by omega) (.cells #[.int .i64 k, .int .i64 n, .string s] 25))
    have hba : Below w3.heap.size w3 (w3.alloc (.cells #[.int .i64 k, .int .i64 n, .string s] 25)) := (Below.refl _ _).alloc (Nat.le_refl _) _
    clear s3
    rcases hr with ⟨_, j, hj, hjl, s3⟩ | ⟨hm, j, s3⟩
    · have HS3 := Lib.hid (s3.rd.below hba)
      have HJ := Lib.hid hj
      clear s3 hj hba
      obtain ⟨v, hv⟩ : ∃ v, typeOkB k n s = v := ⟨_, rfl⟩
      have HV := Lib.hid hv
      have hjb : (j : Int) ≤ 1000000 := by omega
      clear hv
      obtain ⟨x0, x1, x2, xf⟩ := HX3.out.cells
      obtain ⟨c0, c1, c2, f1, f2⟩ := HS3.out.cells
      go_wp2_with fail
      generalize w3.alloc (.cells #[.int .i64 k, .int .i64 n, .string s] 25) = W3 at *
      refine (implTypeOk k n s _ hk v HV.out).mono ?_
      rintro x w4 ⟨rfl, b4⟩
      have HB4 := Lib.hid (HB3.out.trans (b4.mono HB3.out.size))
      have HS4 := Lib.hid (HS3.out.below b4)
      have HX4 := Lib.hid ((b4.block _ HX3.out.lt).trans HX3.out)
      have HR04 := Lib.hid ((b4.block _ HR03.out.lt).trans HR03.out)
      have HR14 := Lib.hid ((b4.block _ HR13.out.lt).trans HR13.out)
      clear x0 x1 x2 xf c0 c1 c2 f1 f2 b4 HX3 HS3 HR03 HR13
      obtain ⟨x0, x1, x2, xf⟩ := TyRow.cells HX4.out
      obtain ⟨r0, r1, r2, rf⟩ := TyRow.cells HR04.out
      obtain ⟨q0, q1, q2, qf⟩ := TyRow.cells HR14.out
      obtain ⟨c0, c1, c2, f1, f2⟩ := HS4.out.cells
      generalize w3.heap.size = X at *
      have hX : ¬ X = w.heap.size := by omega
      have hX' : ¬ w.heap.size = X := by omega
      cases v with
      | false =>
        have HQ : Hid (typeP l (i : Int) = none) := by unfold Hid; rw [HP.out, HJ.out]; simp only; rw [if_neg (by rw [HV.out]; decide)]
        go_wp2_with fail
        refine bodyPost_ret (v := .tuple #[.agg #[.int .i64 0, .int .i64 0, .string ⟨#[]⟩], .int .i64 (-1)]) (by simp [results, Tryz.results26, go_sem, *]) rfl ?_
        rw [HQ.out]
        exact ⟨rfl, below_st3 HB4.out _ _ _ (Nat.le_refl _)⟩
      | true =>
        have HQ : Hid (typeP l (i : Int) = some (k, n, s, j)) := by unfold Hid; rw [HP.out, HJ.out]; simp only; rw [if_pos HV.out]
        go_wp2_with fail
        go_region
        all_goals
          go_wp2_with fail
          refine bodyPost_ret (v := .tuple #[.agg #[.int .i64 k, .int .i64 n, .string s], .int .i64 (j : Int)]) (by simp [results, Tryz.results26, go_sem, *]) rfl ?_
          rw [HQ.out]
          exact ⟨rfl, below_st3 HB4.out.drew _ _ _ (Nat.le_refl _)⟩
    · have HQ : Hid (typeP l (i : Int) = none) := by
        unfold Hid
        rw [HP.out]
        rcases hm with h | h
        · cases h
        · rw [h]
      have HS3 := Lib.hid (s3.rd.below hba)
      clear s3 hba
      obtain ⟨x0, x1, x2, xf⟩ := HX3.out.cells
      obtain ⟨r0, r1, r2, rf⟩ := HR03.out.cells
      obtain ⟨q0, q1, q2, qf⟩ := HR13.out.cells
      obtain ⟨c0, c1, c2, f1, f2⟩ := HS3.out.cells
      go_wp2_with fail
      generalize w3.alloc (.cells #[.int .i64 k, .int .i64 n, .string s] 25) = W3 at *
      refine bodyPost_ret (v := .tuple #[.agg #[.int .i64 0, .int .i64 0, .string ⟨#[]⟩], .int .i64 (-1)]) (by simp [results, Tryz.results26, go_sem, *]) rfl ?_
      rw [HQ.out]
      exact ⟨rfl, below_st3 HB3.out _ _ _ (Nat.le_refl _)⟩

set_option maxRecDepth 100000 in
set_option maxHeartbeats 2000000 in
theorem implParseType (a : Option Addr) (c : Nat) (l : List Tk) (at_ : Int) (w : World) (ht : Toks w a c l) (hl : l.length ≤ 1000000) (hf : ∀ x ∈ l, x.text.size ≤ 1048576) (ha : at_ ≤ 999999)
    (tp : TypeId) (p : Value) (hG : Glob tp p w) (hw16 : 6 ≤ w.heap.size) :
    Calls Tryz.prog 11 #[.slice a l.length c, .int .i64 at_] w (ParseTy w (typeP l at_)) := by
  have hb0 : Below w.heap.size w (w.alloc (.cells #[.int .i64 0, .int .i64 0, .string ⟨#[]⟩] 25)) := (Below.refl _ _).alloc (Nat.le_refl _) _
  have HC := Lib.hid (readAtType a c l at_ _ (ht.below hb0) hl hf ha tp p (hG.below hb0 hw16) (by simp; omega))
  have HR := Lib.hid (tyRow_new w 0 0 ⟨#[]⟩)
  have HB := Lib.hid hb0
  obtain ⟨ans, hans⟩ : ∃ ans, typeP l at_ = ans := ⟨_, rfl⟩
  rw [hans] at HC ⊢
  clear ht hG hb0 hans
  go_enter Tryz.func11, Tryz.ntmps11
  go_wp2_with fail
  generalize w.alloc (.cells #[.int .i64 0, .int .i64 0, .string ⟨#[]⟩] 25) = W0 at HC HR HB ⊢
  refine HC.out.mono ?_
  intro x w1 hx
  cases ans with
  | none =>
    obtain ⟨rfl, b1⟩ := hx
    have HB1 := Lib.hid (HB.out.trans (b1.mono HB.out.size))
    obtain ⟨r0, r1, r2, rf⟩ := TyRow.cells ((b1.block _ HR.out.lt).trans HR.out)
    clear b1
    go_wp2_with fail
    refine bodyPost_ret (v := .tuple #[.agg #[.int .i64 0, .int .i64 0, .string ⟨#[]⟩], .int .i64 (-1)]) (by simp [results, Tryz.results11, go_sem, *]) rfl ?_
    exact ⟨rfl, below_st3 HB1.out _ _ _ (Nat.le_refl _)⟩
  | some z =>
    obtain ⟨k, n, s, j⟩ := z
    obtain ⟨rfl, b1⟩ := hx
    have HB1 := Lib.hid (HB.out.trans (b1.mono HB.out.size))
    obtain ⟨r0, r1, r2, rf⟩ := TyRow.cells ((b1.block _ HR.out.lt).trans HR.out)
    clear b1
    go_wp2_with fail
    refine bodyPost_ret (v := .tuple #[.agg #[.int .i64 k, .int .i64 n, .string s], .int .i64 (j : Int)]) (by simp [results, Tryz.results11, go_sem, *]) rfl ?_
    exact ⟨rfl, below_st3 HB1.out _ _ _ (Nat.le_refl _)⟩

end Go.Proofs.YtjjdcdnaonfnmaaGreatDoor
