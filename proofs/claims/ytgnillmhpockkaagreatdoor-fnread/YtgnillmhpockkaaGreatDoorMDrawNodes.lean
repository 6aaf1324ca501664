/- spec.DrawNodes. -/
/- spec.DrawPutExpr. -/
/- The model's ExprOk. -/
/- spec.PutExpr. -/
/- laws.sameExpr. -/
/- The laws' own helpers over expressions: the size that is left. -/
/- How the arguments of a law are opened: slices of texts, of bytes. -/
/- How an expression among a law's arguments is opened. -/
/- Expressions in boxes of their own: what the exact laws over expressions read. -/
import Derived.Test.YtgnillmhpockkaaGreatDoorMDrawOdd
import Derived.Test.YtgnillmhpockkaaGreatDoorMExprN
import Derived.Test.YtgnillmhpockkaaGreatDoorMPutExS
import Derived.Test.YtgnillmhpockkaaGreatDoorMRdr7
import Derived.Test.YtgnillmhpockkaaGreatDoorMMem
import Derived.ProofKit
import Derived.OpenShut
import Derived.ShutString
import Derived.ChangeOld
import Derived.Below
import Derived.SliceStrings
import Derived.Lib.SmallJoins
import Derived.Deep.Strs
import Derived.ChangeArms
import Derived.Test.YtgnillmhpockkaaGreatDoorMDrawQuote
namespace Go.Proofs.YtgnillmhpockkaaGreatDoor
open Go.RowKit

/-- What the law draws: a small tree. -/
def DrewE (w : World) (x : Ending) (w' : World) : Prop :=
  ∃ (e : Ex) (a' : Option Addr) (c' d : Nat), x = .returned (.agg #[.int .i64 e.kind, .string e.text, .int .i64 e.num, .slice a' e.kids.length c']) ∧ Sm e 64 ∧ KidsAt w' d a' c' e.kids ∧ (∀ b o s, a' = some ⟨b, o, s⟩ → b < w'.heap.size) ∧ Below w.heap.size w w'

theorem drewE_row {w w1 w2 W : World} {k n : Int} {t : ByteArray} {es : List Es} {a' : Option Addr} {c' : Nat} (hR : w.heap.size < w1.heap.size) (hrow : Row w1.heap.size w2 a' c' es) (hsm : Sm (eOf k t n es) 64) (hb : Below w.heap.size w w2) {v0 v1 v2 v3 : Value}
    (hW : W = (((w2.setCell ⟨w.heap.size, 0, none⟩ v0).setCell ⟨w.heap.size, 1, none⟩ v1).setCell ⟨w.heap.size, 2, none⟩ v2).setCell ⟨w.heap.size, 3, none⟩ v3) : DrewE w (.returned (.agg #[.int .i64 k, .string t, .int .i64 n, .slice a' es.length c'])) W := by
  subst hW
  have hl : (es.map Es.e).length = es.length := List.length_map ..
  have hr := (((hrow.set hR 0 v0).set hR 1 v1).set hR 2 v2).set hR 3 v3
  obtain ⟨d, hk⟩ := hr.kids
  refine ⟨eOf k t n es, a', c', d, ?_, hsm, hk.at, fun b o s h => ?_, ?_⟩
  · show _ = Ending.returned (.agg #[.int .i64 k, .string t, .int .i64 n, .slice a' (es.map Es.e).length c'])
    rw [hl]
  · subst h
    exact (hr.own.lt b rfl).2
  · exact (((hb.setCell (p := ⟨w.heap.size, 0, none⟩) (Nat.le_refl _) v0).setCell (p := ⟨w.heap.size, 1, none⟩) (Nat.le_refl _) v1).setCell (p := ⟨w.heap.size, 2, none⟩) (Nat.le_refl _) v2).setCell (p := ⟨w.heap.size, 3, none⟩) (Nat.le_refl _) v3

end Go.Proofs.YtgnillmhpockkaaGreatDoor

namespace Go.Proofs.YtgnillmhpockkaaGreatDoor
open Go.RowKit

theorem sm_mono {e : Ex} {N M : Nat} (h : Sm e N) (hm : N ≤ M) : Sm e M := ⟨h.1, h.2.1, Nat.le_trans h.2.2 hm⟩

set_option maxRecDepth 100000 in
set_option maxHeartbeats 2000000 in
theorem specDrawPutExpr (a : Option Addr) (c : Nat) (l : List UInt8) (w : World) (hb : Bytes w a c l) (hs : l.length ≤ 1048576) :
    Calls Tryz.prog 16 #[.slice a l.length c] w (DrewE w) := by
  have hb0 := fun o => (Below.refl w.heap.size w).alloc (Nat.le_refl _) o
  have HB0 := Lib.hid hb0
  have HBY := Lib.hid (fun w' hb' => hb.below (w' := w') hb')
  have HRB := Lib.hid (exRow_new w 0 ⟨#[]⟩ 0 (.slice none 0 0))
  have hsz0 := size_allocE w (.cells #[.int .i64 0, .string ⟨#[]⟩, .int .i64 0, .slice none 0 0] 32)
  have HSZ := Lib.hid hsz0
  clear hb hb0 hsz0
  go_enter Tryz.func16, Tryz.ntmps16
  go_wp2_with fail
  have HBW := Lib.hid (HB0.out (.cells #[.int .i64 0, .string ⟨#[]⟩, .int .i64 0, .slice none 0 0] 32))
  generalize w.alloc (.cells #[.int .i64 0, .string ⟨#[]⟩, .int .i64 0, .slice none 0 0] 32) = W0 at HRB HBW HSZ ⊢
  refine (l01New a c l W0 (HBY.out _ HBW.out) hs).mono ?_
  rintro e w1 ⟨rfl, hd1, hb1, hz1⟩
  have HRB1 := Lib.hid (HRB.out.below hb1)
  have Hd1 := Lib.hid hd1
  have Hb1 := Lib.hid hb1
  have hgs : Hid (w.heap.size < W0.heap.size) := by unfold Hid; have := HSZ.out; omega
  clear hd1 hb1 hz1
  go_wp2_with fail
  refine (l01Once Hd1.out 3 (by omega) (by omega)).mono ?_
  rintro e w2 ⟨v, ⟨b, rfl⟩, rfl, hd2, hg2⟩
  have HRB2 := Lib.hid (HRB1.out.kept hg2 (fun e => by have := Option.some.inj e; have := hgs.out; omega))
  have Hd2 := Lib.hid hd2
  have Hw2 : Hid (W0.heap.size ≤ w2.heap.size) := Nat.le_trans Hb1.out.size hg2.size
  have HB2 : Hid (Below w.heap.size w w2) := by
    have h1 := HBW.out.trans (Hb1.out.mono HBW.out.size)
    exact h1.grown hg2 h1.size (fun q hq => by cases hq; have := hgs.out; omega)
  clear hd2 hg2 HRB1 Hd1 Hb1
  cases b with
  | true =>
    go_wp2_with fail
    refine (l04OddS Hd2.out Hw2.out).mono ?_
    rintro x w3 ⟨k, t, n, es, a', c', rfl, hrow, hsm, hdg⟩
    have hRg : w.heap.size < w2.heap.size := HRB2.out.lt
    obtain ⟨b0, b1, b2, b3, bf⟩ := (HRB2.out.kept hdg.2 (fun e => by have := Option.some.inj e; have := hgs.out; omega)).cells
    have HB3 : Hid (Below w.heap.size w w3) := HB2.out.grown hdg.2 HB2.out.size (fun q hq => by cases hq; have := hgs.out; omega)
    have HROW := Lib.hid hrow
    have HSM := Lib.hid hsm
    clear hrow hsm hdg
    go_wp2_with fail
    refine bodyPost_ret (v := .agg #[.int .i64 k, .string t, .int .i64 n, .slice a' es.length c']) (by simp [results, Tryz.results16, go_sem, b0, b1, b2, b3]) rfl ?_
    exact drewE_row hRg HROW.out HSM.out HB3.out rfl
  | false =>
    go_wp2_with fail
    refine (make3 Hd2.out Hw2.out).mono ?_
    rintro x w3 ⟨k, t, n, es, a', c', rfl, hrow, hsm, hdg⟩
    have hRg : w.heap.size < w2.heap.size := HRB2.out.lt
    obtain ⟨b0, b1, b2, b3, bf⟩ := (HRB2.out.kept hdg.2 (fun e => by have := Option.some.inj e; have := hgs.out; omega)).cells
    have HB3 : Hid (Below w.heap.size w w3) := HB2.out.grown hdg.2 HB2.out.size (fun q hq => by cases hq; have := hgs.out; omega)
    have HROW := Lib.hid hrow
    have HSM := Lib.hid (sm_mono hsm.1 (by decide : deepN 3 ≤ 64))
    clear hrow hsm hdg
    go_wp2_with fail
    refine bodyPost_ret (v := .agg #[.int .i64 k, .string t, .int .i64 n, .slice a' es.length c']) (by simp [results, Tryz.results16, go_sem, b0, b1, b2, b3]) rfl ?_
    exact drewE_row hRg HROW.out HSM.out HB3.out rfl

end Go.Proofs.YtgnillmhpockkaaGreatDoor

namespace Go.Proofs.YtgnillmhpockkaaGreatDoor
open Go.RowKit

set_option maxHeartbeats 1000000 in
theorem specExprOk (e : Ex) (a : Option Addr) (c d : Nat) (w : World) (hk : KidsAt w d a c e.kids) (hwt : e.wt ≤ 1048576) (v : Bool) (hv : (decide (e.nodes ≤ 40) && shapeE e) = v) :
    Calls Tryz.prog 20 #[.agg #[.int .i64 e.kind, .string e.text, .int .i64 e.num, .slice a e.kids.length c]] w fun x w' => x = .returned (.bool v) ∧ Below w.heap.size w w' := by
  have hwe := Ex.wt_eq e
  have hnw := nodes_wt e
  have HE := Lib.hid (Ex.eta e)
  have HK := Lib.hid (fun w' hb => hk.below (w' := w') hb)
  have HBX := Lib.hid (fun T => boxK_new w e.kind e.text e.num a e.kids.length c T)
  clear hk
  by_cases hn : e.nodes ≤ 40
  · rw [decide_eq_true hn, Bool.true_and] at hv
    have hd : decide ((e.nodes : Int) ≤ 40) = true := by simp; omega
    subst hv
    go_enter Tryz.func20, Tryz.ntmps20
    go_wp2_with fail
    refine (specNodes d e a c _ (by omega) (HK.out _ (HBX.out _).bel)).mono ?_
    rintro x w2 ⟨rfl, hb2⟩
    have BX := (HBX.out _).below hb2
    obtain ⟨hW1, c0, c1, c2, c3, bW1⟩ := BX
    clear hb2
    go_wp2_with fail
    refine (specShape d e.kind e.text e.num e.kids a c _ (by omega) (by omega) (HK.out _ bW1)).mono ?_
    rw [← HE.out]
    rintro x w3 ⟨rfl, hb3⟩
    have B3 := Lib.hid (bW1.trans (hb3.mono bW1.size))
    clear hb3
    cases hs : shapeE e with
    | true => go_wp2_with fail; go_ret; exact ⟨by rw [hs]; rfl, B3.out⟩
    | false => go_wp2_with fail; go_ret; exact ⟨by rw [hs]; rfl, B3.out⟩
  · rw [decide_eq_false hn, Bool.false_and] at hv
    have hd : decide ((e.nodes : Int) ≤ 40) = false := by simp; omega
    subst hv
    go_enter Tryz.func20, Tryz.ntmps20
    go_wp2_with fail
    refine (specNodes d e a c _ (by omega) (HK.out _ (HBX.out _).bel)).mono ?_
    rintro x w2 ⟨rfl, hb2⟩
    have B2 := Lib.hid ((HBX.out _).below hb2).bel
    clear hb2
    go_wp2_with fail
    go_ret
    exact ⟨rfl, B2.out⟩

end Go.Proofs.YtgnillmhpockkaaGreatDoor

namespace Go.Proofs.YtgnillmhpockkaaGreatDoor
open Go.RowKit

theorem tE_zero (e : Ex) : tE e 0 = tE e 1 := tE_out (by omega)

set_option maxHeartbeats 1000000 in
theorem specPutExpr (e : Ex) (a : Option Addr) (c d : Nat) (w : World) (hk : KidsAt w d a c e.kids) (hwt : e.wt ≤ 1048576) (r : ByteArray) (hr : putT e = r) :
    Calls Tryz.prog 18 #[.agg #[.int .i64 e.kind, .string e.text, .int .i64 e.num, .slice a e.kids.length c]] w fun x w' => x = .returned (.string r) ∧ Below w.heap.size w w' := by
  have HK := Lib.hid (fun w' hb => hk.below (w' := w') hb)
  have HBX := Lib.hid (fun T => boxK_new w e.kind e.text e.num a e.kids.length c T)
  clear hk
  cases hok : (decide (e.nodes ≤ 40) && shapeE e) with
  | true =>
    have hr2 : tE e 0 = r := by rw [tE_zero, ← hr, putT, if_pos hok]
    have HOK := Lib.hid hok
    have hb := hok
    rw [Bool.and_eq_true, decide_eq_true_eq] at hb
    have HR := Lib.hid hr2
    clear hok hr hr2
    go_enter Tryz.func18, Tryz.ntmps18
    go_wp2_with fail
    refine (specExprOk e a c d _ (HK.out _ (HBX.out _).bel) hwt true HOK.out).mono ?_
    rintro x w2 ⟨rfl, hb2⟩
    have BX := (HBX.out _).below hb2
    obtain ⟨hW1, c0, c1, c2, c3, bW1⟩ := BX
    clear hb2
    go_wp2_with fail
    have hput := specPut d e a c 0 w2 hb.2 hb.1 (by omega) (HK.out _ bW1)
    rw [HR.out] at hput
    refine hput.mono ?_
    rintro x w3 ⟨rfl, hb3⟩
    have B3 := Lib.hid (bW1.trans (hb3.mono bW1.size))
    clear hb3 hput
    go_wp2_with fail
    go_ret
    exact ⟨rfl, B3.out⟩
  | false =>
    have HOK := Lib.hid hok
    have HR : Hid (r = txt []) := by unfold Hid; rw [← hr, putT, if_neg (by rw [hok]; decide)]
    clear hok hr
    go_enter Tryz.func18, Tryz.ntmps18
    go_wp2_with fail
    refine (specExprOk e a c d _ (HK.out _ (HBX.out _).bel) hwt false HOK.out).mono ?_
    rintro x w2 ⟨rfl, hb2⟩
    have B2 := Lib.hid ((HBX.out _).below hb2).bel
    clear hb2
    go_wp2_with fail
    go_ret
    exact ⟨by rw [HR.out]; rfl, B2.out⟩

end Go.Proofs.YtgnillmhpockkaaGreatDoor

namespace Go.Proofs.YtgnillmhpockkaaGreatDoor
open Go.RowKit

def SameP (d : Nat) : Prop := ∀ (e : Ex) (a a' : Option Addr) (c c' : Nat) (w : World), KidsAt w d a c e.kids → KidsAt w d a' c' e.kids →
  Calls Tryz.prog 21 #[.agg #[.int .i64 e.kind, .string e.text, .int .i64 e.num, .slice a e.kids.length c], .agg #[.int .i64 e.kind, .string e.text, .int .i64 e.num, .slice a' e.kids.length c']] w fun x w' => x = .returned (.bool true) ∧ Below w.heap.size w w'

set_option maxHeartbeats 1000000 in
theorem sameKids (d : Nat) (ih : SameP d) (a a' : Option Addr) (c c' : Nat) (xs : List Ex) (w : World) (hx : KidsAt w (d + 1) a c xs) (hy : KidsAt w (d + 1) a' c' xs) :
    Calls Tryz.prog 57 #[.slice a xs.length c, .slice a' xs.length c'] w fun e w' => e = .returned (.bool true) ∧ Below w.heap.size w w' := by
  have hl := hx.len
  have hne : (((xs.length : Int)) != (xs.length : Int)) = false := by simp
  go_enter Tryz.func57, Tryz.ntmps57
  go_wp2
  go_loopw [5] (fun i wr => ∃ k : Nat, k ≤ xs.length ∧ i = .int .i64 k ∧ Below w.heap.size w wr) (fun i _ => xs.length - (intOf i).toNat)
  case atStart => exact ⟨0, Nat.zero_le _, rfl, Below.refl _ _⟩
  case round =>
    obtain ⟨k, hk, rfl, hbw⟩ := hrel
    by_cases hlt : k < xs.length
    · obtain ⟨b, off, rfl, hbl, hc0, hc1, hc2, _, p, q, hc3, hkid⟩ := (hx.below hbw).spot hlt
      obtain ⟨b', off', rfl, hbl', hd0, hd1, hd2, _, p', q', hd3, hkid'⟩ := (hy.below hbw).spot hlt
      have h0k : (0 : Int) ≤ (k : Int) := by omega
      have hkl : (k : Int) < (xs.length : Int) := by omega
      have HX := Lib.hid (fun w' hb => hkid.below (w' := w') hb)
      have HY := Lib.hid (fun w' hb => hkid'.below (w' := w') hb)
      clear hkid hkid' hx hy
      go_wp2_with fail
      go_region_held3 (fun w' => w'.cell? ⟨b, off + k * 4, none⟩ = some (.int .i64 xs[k].kind) ∧ w'.cell? ⟨b, off + k * 4 + 1, none⟩ = some (.string xs[k].text) ∧ w'.cell? ⟨b, off + k * 4 + 2, none⟩ = some (.int .i64 xs[k].num) ∧ w'.cell? ⟨b, off + k * 4 + 3, none⟩ = some (.slice p xs[k].kids.length q) ∧ w'.cell? ⟨b', off' + k * 4, none⟩ = some (.int .i64 xs[k].kind) ∧ w'.cell? ⟨b', off' + k * 4 + 1, none⟩ = some (.string xs[k].text) ∧ w'.cell? ⟨b', off' + k * 4 + 2, none⟩ = some (.int .i64 xs[k].num) ∧ w'.cell? ⟨b', off' + k * 4 + 3, none⟩ = some (.slice p' xs[k].kids.length q')) (first | go_keep | exact ⟨(hcw _ _ hbl).trans hc0, (hcw _ _ hbl).trans hc1, (hcw _ _ hbl).trans hc2, (hcw _ _ hbl).trans hc3, (hcw _ _ hbl').trans hd0, (hcw _ _ hbl').trans hd1, (hcw _ _ hbl').trans hd2, (hcw _ _ hbl').trans hd3⟩)
        ((go_at_call 21; refine (ih xs[k] p p' q q' _ (HX.out _ (below_drewE (Below.refl _ _))) (HY.out _ (below_drewE (Below.refl _ _)))).mono ?_; rintro e w2 ⟨rfl, hb2⟩; obtain ⟨hcw, _⟩ := bcellE hb2))
      go_wp2_with fail
      go_roundw
      case rel => exact ⟨k + 1, by omega, by go_num, (below_drewE hbw).trans (hb2.mono hbw.size)⟩
      case measure => simp [intOf]; omega
    · go_wp2
      go_ret
      exact ⟨rfl, hbw⟩

set_option maxHeartbeats 1000000 in
theorem sameEx : ∀ d, SameP d
  | 0 => fun _ _ _ _ _ _ h => h.elim
  | d + 1 => by
    intro e a a' c c' w hx hy
    have hks := sameKids d (sameEx d) a a' c c' e.kids
    have HX := Lib.hid (fun w' hb => hx.below (w' := w') hb)
    have HY := Lib.hid (fun w' hb => hy.below (w' := w') hb)
    have hk : (e.kind == e.kind) = true := by simp
    have hp : (e.num == e.num) = true := by simp
    have hs : (e.text.toList == e.text.toList) = true := by simp
    have hl := hx.len
    clear hx hy
    go_enter Tryz.func21, Tryz.ntmps21
    go_wp2_with fail
    refine (hks _ (HX.out _ (((Below.refl _ _).alloc (Nat.le_refl _) _).alloc (by simp) _)) (HY.out _ (((Below.refl _ _).alloc (Nat.le_refl _) _).alloc (by simp) _))).mono ?_
    rintro x w2 ⟨rfl, hb2⟩
    go_wp2_with fail
    go_ret
    exact ⟨rfl, (((Below.refl _ _).alloc (Nat.le_refl _) _).alloc (by simp) _).trans (hb2.mono (by simp; omega))⟩

end Go.Proofs.YtgnillmhpockkaaGreatDoor

namespace Go.Proofs.YtgnillmhpockkaaGreatDoor
open Go.RowKit

def leftN (n : Nat) (left : Int) : Int := if left < n then -1 else left - n

theorem leftN_le {n : Nat} (h : ¬ leftN n 1048576 < 0) : n ≤ 1048576 := by
  unfold leftN at h
  split at h
  · omega
  · omega

end Go.Proofs.YtgnillmhpockkaaGreatDoor

namespace Go.Proofs.YtgnillmhpockkaaGreatDoor
open Go.ChangeShapes Go.WideShapes Go.ChangeAt Go.RowKit

theorem ownKnobs : ownKnob Tryz.prog.godebug = none := by kernel_rfl
theorem laidOutB0 : laidOutB Tryz.prog = true := by kernel_rfl

theorem Strs_of_trod {H : Type} {enc : TypeId × Value → H} {W : World} {base : Nat} {a : Option Addr} {l c : Nat} {d : DataW H} {p : List MemPlace}
    (h : DataW.Trod enc Tryz.prog W base (fun _ => true) true 43 (.slice a l c) d p) : ∃ xs : List ByteArray, l = xs.length ∧ Strs W a c xs := by
  obtain ⟨fuel, hf⟩ := h
  have hlt := DataW.trod_lt fuel _ _ _ hf
  rcases open_strings Tryz.underlying43 Tryz.underlying9 (by kernel_rfl) hf with ⟨hcs, _⟩ | ⟨x, l', c', ss, hcs, _, hl, hm, hz, hx, hcell, hw⟩
  · simp [Value.cells] at hcs
    obtain ⟨rfl, rfl, rfl⟩ := hcs
    exact ⟨[], rfl, by simp, by unfold maxLen; omega, by simp, fun _ => rfl, fun h => by simp at h⟩
  · simp [Value.cells] at hcs
    obtain ⟨rfl, rfl, rfl⟩ := hcs
    rw [if_pos rfl] at hz
    refine ⟨ss.take l, by simp; omega, by simp; omega, hm, fun s hs => hw s (List.mem_of_mem_take hs), (fun h => by cases h), fun hp => ?_⟩
    obtain ⟨b, off, spot⟩ := x
    have hp' : 0 < l := by simp at hp; omega
    have h0 := hcell 0 (by omega)
    have hspot : spot = none := by simpa [Addr.add] using World.cell?_spot h0
    subst hspot
    refine ⟨b, off, rfl, ?_, fun i hi => ?_⟩
    · have hb : W.cell? ⟨b, off, none⟩ = some (.string (ss.getD 0 ByteArray.empty)) := by simpa [Addr.add] using h0
      rcases Nat.lt_or_ge b W.heap.size with hlt | hge
      · exact hlt
      · simp [World.cell?, Array.getElem?_eq_none hge] at hb
    · have hi' : i < l := by simp at hi; omega
      have := hcell i (by omega)
      rw [List.getElem_take]
      rw [List.getD_eq_getElem?_getD, List.getElem?_eq_getElem (by omega), Option.getD_some] at this
      rw [← this]
      congr 1
      unfold Addr.add
      by_cases h0 : i = 0 <;> simp [h0]

end Go.Proofs.YtgnillmhpockkaaGreatDoor

namespace Go.Proofs.YtgnillmhpockkaaGreatDoor
open Go.ChangeShapes Go.WideShapes Go.ChangeAt Go.RowKit

theorem i64E_of {n : Int} (h : (Lit.int .i64 n).wf = true) : i64E n := by
  have hmin : IntKind.i64.min = -9223372036854775808 := by decide
  have hmax : IntKind.i64.max = 9223372036854775807 := by decide
  simp [Lit.wf, hmin, hmax] at h
  exact h

end Go.Proofs.YtgnillmhpockkaaGreatDoor

namespace Go.Proofs.YtgnillmhpockkaaGreatDoor
open Go.ChangeShapes Go.WideShapes Go.ChangeAt Go.RowKit

/-- The cells of the argument's own box. -/
def Box4 (w : World) (b : Nat) (e : Ex) (a : Option Addr) (c : Nat) : Prop :=
  b < w.heap.size ∧ w.cell? ⟨b, 0, none⟩ = some (.int .i64 e.kind) ∧ w.cell? ⟨b, 1, none⟩ = some (.string e.text) ∧ w.cell? ⟨b, 2, none⟩ = some (.int .i64 e.num) ∧ w.cell? ⟨b, 3, none⟩ = some (.slice a e.kids.length c)

theorem box4_new (w : World) (T : TypeId) (e : Ex) (a : Option Addr) (c : Nat) : Box4 (w.alloc (.cells #[.int .i64 e.kind, .string e.text, .int .i64 e.num, .slice a e.kids.length c] T)) w.heap.size e a c :=
  ⟨by simp, by simp [go_sem], by simp [go_sem], by simp [go_sem], by simp [go_sem]⟩

theorem Box4.below {w w' : World} {b : Nat} {e : Ex} {a : Option Addr} {c : Nat} (h : Box4 w b e a c) (hb : Below w.heap.size w w') : Box4 w' b e a c := by
  obtain ⟨h0, h1, h2, h3, h4⟩ := h
  have ce := fun o => hb.cell (p := ⟨b, o, none⟩) h0
  exact ⟨Nat.lt_of_lt_of_le h0 hb.size, (ce 0).trans h1, (ce 1).trans h2, (ce 2).trans h3, (ce 3).trans h4⟩

/-- Two boxes: the argument's own, and that of its copy. -/
def Two (w : World) (X : Nat) (e : Ex) (a a4 : Option Addr) (c c4 d : Nat) (w' : World) : Prop :=
  Box4 w' w.heap.size e a c ∧ Box4 w' X e a4 c4 ∧ KidsAt w' d a4 c4 e.kids ∧ Below w.heap.size w w'

theorem Two.below {w wa wb : World} {X : Nat} {e : Ex} {a a4 : Option Addr} {c c4 d : Nat} (h : Two w X e a a4 c c4 d wa) (hb : Below wa.heap.size wa wb) : Two w X e a a4 c c4 d wb :=
  ⟨h.1.below hb, h.2.1.below hb, h.2.2.1.below hb, h.2.2.2.trans (hb.mono h.2.2.2.size)⟩

theorem Two.drew {w wa : World} {X : Nat} {e : Ex} {a a4 : Option Addr} {c c4 d : Nat} (h : Two w X e a a4 c c4 d wa) : Two w X e a a4 c c4 d wa.drew := h.below (below_drewE (Below.refl _ _))

theorem Two.new {w w4 : World} {e : Ex} {a a4 : Option Addr} {c c4 d : Nat} (hX : Box4 w4 w.heap.size e a c) (hK : KidsAt w4 d a4 c4 e.kids) (hB : Below w.heap.size w w4) (T : TypeId) :
    Two w w4.heap.size e a a4 c c4 d (w4.alloc (.cells #[.int .i64 e.kind, .string e.text, .int .i64 e.num, .slice a4 e.kids.length c4] T)) :=
  ⟨hX.below ((Below.refl _ _).alloc (Nat.le_refl _) _), box4_new w4 T e a4 c4, hK.below ((Below.refl _ _).alloc (Nat.le_refl _) _), hB.trans (((Below.refl _ _).alloc (Nat.le_refl _) _).mono hB.size)⟩

/-- Their cells, one by one. -/
def Cells8 (n X : Nat) (e : Ex) (a a4 : Option Addr) (c c4 : Nat) (w' : World) : Prop :=
  (w'.cell? ⟨n, 0, none⟩ = some (.int .i64 e.kind) ∧ w'.cell? ⟨n, 1, none⟩ = some (.string e.text) ∧ w'.cell? ⟨n, 2, none⟩ = some (.int .i64 e.num) ∧ w'.cell? ⟨n, 3, none⟩ = some (.slice a e.kids.length c)) ∧
  (w'.cell? ⟨X, 0, none⟩ = some (.int .i64 e.kind) ∧ w'.cell? ⟨X, 1, none⟩ = some (.string e.text) ∧ w'.cell? ⟨X, 2, none⟩ = some (.int .i64 e.num) ∧ w'.cell? ⟨X, 3, none⟩ = some (.slice a4 e.kids.length c4))

theorem Two.cells {w wa : World} {X : Nat} {e : Ex} {a a4 : Option Addr} {c c4 d : Nat} (h : Two w X e a a4 c c4 d wa) : Cells8 w.heap.size X e a a4 c c4 wa := ⟨h.1.2, h.2.1.2⟩

end Go.Proofs.YtgnillmhpockkaaGreatDoor
