/- (impl.sorter).operand, over any contract of column. -/
/- (impl.sorter).column where there are no columns. -/
/- The program's table of the kinds of expressions: what the row lists of it, cell by cell. -/
import Derived.Test.YthebkfanpnbanaaDoorMAccJ
import Derived.Test.YthebkfanpnbanaaDoorMPutSpec
import Derived.Test.YthebkfanpnbanaaDoorCards
import Derived.OpenShut
import Derived.LaidMore
import Derived.Lib.LaidTab
import Derived.Below
namespace Go.Proofs.YthebkfanpnbanaaDoor
open Go.RowKit

theorem opdE_eq (col : ByteArray → Option Opd) (ls : List Lb) (e : Ex) : opdE col ls e =
    if (e.kind == 0) = true then col e.text else if (e.kind == 1) = true then some (.plain 0) else if (e.kind == 2) = true then some (.text e.text)
    else if (e.kind == 3) = true ∨ (e.kind == 4) = true then some (.plain 2) else if (e.kind == 5) = true then some (.plain 4)
    else opnE col ls e := by
  cases e with
  | mk k s n kids =>
    simp only [opdE, opnE, Ex.kind, Ex.text, Ex.kids]
    cases opdL col ls kids <;> rfl

set_option maxRecDepth 100000 in
set_option maxHeartbeats 1000000 in
theorem implOpdS (ca : Option Addr) (cl cc : Nat) (a : Option Addr) (c : Nat) (ls : List Lb) (col : ByteArray → Option Opd) (w0 : World) (hL : Lbs w0 a c ls) (hC : ColC ca cl cc a c ls col w0) (d : Nat) (ih : OpP ca cl cc a c ls col w0 d) : OpP ca cl cc a c ls col w0 (d + 1) := by
  intro e ak ck w hw hk har hn
  have hl := hk.len
  have HB0 : Hid (∀ o1 o2, Below w.heap.size w ((w.alloc o1).alloc o2)) := fun o1 o2 => ((Below.refl _ _).alloc (Nat.le_refl _) _).alloc (by simp) _
  have HOP := Lib.hid (fun W (hb : Below w.heap.size w W) => implOpn ca cl cc a c ls col w0 hL d ih e ak ck W (hw.trans (hb.mono hw.size)) (hk.below hb) har hn)
  have HCC := Lib.hid (fun W (hb : Below w.heap.size w W) => hC e.text W (hw.trans (hb.mono hw.size)))
  have HE := Lib.hid (opdE_eq col ls e)
  clear hk har ih hC
  by_cases h0 : (e.kind == 0) = true
  · have HR : Hid (opdE col ls e = col e.text) := by unfold Hid; rw [HE.out, if_pos h0]
    clear HOP HE
    go_enter Tryd.func17, Tryd.ntmps17
    go_wp2_with fail
    refine (HCC.out _ (HB0.out _ _)).mono ?_
    cases hcol : col e.text with
    | none =>
      simp only [resV]
      rintro x w2 ⟨rfl, hb2⟩
      have HB := Lib.hid ((HB0.out _ _).trans (hb2.mono (HB0.out _ _).size))
      go_wp2_with fail
      go_ret2
      exact ⟨by rw [HR.out, hcol]; rfl, HB.out⟩
    | some o =>
      simp only [resV]
      rintro x w2 ⟨rfl, hb2⟩
      have HB := Lib.hid ((HB0.out _ _).trans (hb2.mono (HB0.out _ _).size))
      go_wp2_with fail
      go_ret2
      exact ⟨by rw [HR.out, hcol]; rfl, HB.out⟩
  have g0 : (e.kind == 0) = false := by simpa using h0
  by_cases h1 : (e.kind == 1) = true
  · have HR : Hid (opdE col ls e = some (.plain 0)) := by unfold Hid; rw [HE.out, if_neg h0, if_pos h1]
    clear HOP HE HCC h0
    go_enter Tryd.func17, Tryd.ntmps17
    go_wp2_with fail
    go_ret2
    exact ⟨by rw [HR.out]; rfl, HB0.out _ _⟩
  have g1 : (e.kind == 1) = false := by simpa using h1
  by_cases h2 : (e.kind == 2) = true
  · have HR : Hid (opdE col ls e = some (.text e.text)) := by unfold Hid; rw [HE.out, if_neg h0, if_neg h1, if_pos h2]
    clear HOP HE HCC h0 h1
    go_enter Tryd.func17, Tryd.ntmps17
    go_wp2_with fail
    go_ret2
    exact ⟨by rw [HR.out]; rfl, HB0.out _ _⟩
  have g2 : (e.kind == 2) = false := by simpa using h2
  by_cases h3 : (e.kind == 3) = true
  · have HR : Hid (opdE col ls e = some (.plain 2)) := by unfold Hid; rw [HE.out, if_neg h0, if_neg h1, if_neg h2, if_pos (.inl h3)]
    clear HOP HE HCC h0 h1 h2
    go_enter Tryd.func17, Tryd.ntmps17
    go_wp2_with fail
    go_ret2
    exact ⟨by rw [HR.out]; rfl, HB0.out _ _⟩
  have g3 : (e.kind == 3) = false := by simpa using h3
  by_cases h4 : (e.kind == 4) = true
  · have HR : Hid (opdE col ls e = some (.plain 2)) := by unfold Hid; rw [HE.out, if_neg h0, if_neg h1, if_neg h2, if_pos (.inr h4)]
    clear HOP HE HCC h0 h1 h2 h3
    go_enter Tryd.func17, Tryd.ntmps17
    go_wp2_with fail
    go_ret2
    exact ⟨by rw [HR.out]; rfl, HB0.out _ _⟩
  have g4 : (e.kind == 4) = false := by simpa using h4
  have h34 : ¬((e.kind == 3) = true ∨ (e.kind == 4) = true) := by rintro (h | h); exact h3 h; exact h4 h
  by_cases h5 : (e.kind == 5) = true
  · have HR : Hid (opdE col ls e = some (.plain 4)) := by unfold Hid; rw [HE.out, if_neg h0, if_neg h1, if_neg h2, if_neg h34, if_pos h5]
    clear HOP HE HCC h0 h1 h2 h3 h4 h34
    go_enter Tryd.func17, Tryd.ntmps17
    go_wp2_with fail
    go_ret2
    exact ⟨by rw [HR.out]; rfl, HB0.out _ _⟩
  have g5 : (e.kind == 5) = false := by simpa using h5
  have HR : Hid (opdE col ls e = opnE col ls e) := by unfold Hid; rw [HE.out, if_neg h0, if_neg h1, if_neg h2, if_neg h34, if_neg h5]
  clear HE HCC h0 h1 h2 h3 h4 h34 h5
  go_enter Tryd.func17, Tryd.ntmps17
  go_wp2_with fail
  refine (HOP.out _ (HB0.out _ _)).mono ?_
  cases hop : opnE col ls e with
  | none =>
    simp only [resV]
    rintro x w2 ⟨rfl, hb2⟩
    have HB := Lib.hid ((HB0.out _ _).trans (hb2.mono (HB0.out _ _).size))
    go_wp2_with fail
    go_ret2
    exact ⟨by rw [HR.out, hop]; rfl, HB.out⟩
  | some o =>
    simp only [resV]
    rintro x w2 ⟨rfl, hb2⟩
    have HB := Lib.hid ((HB0.out _ _).trans (hb2.mono (HB0.out _ _).size))
    go_wp2_with fail
    go_ret2
    exact ⟨by rw [HR.out, hop]; rfl, HB.out⟩

/-- operand, over any contract of column. -/
theorem implOpd (ca : Option Addr) (cl cc : Nat) (a : Option Addr) (c : Nat) (ls : List Lb) (col : ByteArray → Option Opd) (w0 : World) (hL : Lbs w0 a c ls) (hC : ColC ca cl cc a c ls col w0) : (d : Nat) → OpP ca cl cc a c ls col w0 d
  | 0 => fun _ _ _ _ _ hk => hk.elim
  | d + 1 => implOpdS ca cl cc a c ls col w0 hL hC d (implOpd ca cl cc a c ls col w0 hL hC d)

end Go.Proofs.YthebkfanpnbanaaDoor

namespace Go.Proofs.YthebkfanpnbanaaDoor
open Go.RowKit

set_option maxRecDepth 100000 in
set_option maxHeartbeats 1000000 in
theorem indexNone (f : Value) (w : World) :
    Calls Tryd.prog 68 #[.slice none 0 0, f] w fun e w' => e = .returned (.int .i64 (-1)) ∧ Below w.heap.size w w' := by
  go_enter Tryd.func68, Tryd.ntmps68
  go_wp2
  go_loopw [8] (fun i wr => i = .int .i64 0 ∧ Below w.heap.size w wr) (fun _ _ => 0)
  case atStart => exact ⟨rfl, Below.refl _ _⟩
  case round =>
    obtain ⟨rfl, hb⟩ := hrel
    go_wp2_with fail
    go_ret
    exact ⟨rfl, hb⟩

set_option maxRecDepth 100000 in
set_option maxHeartbeats 1000000 in
theorem colAtNone (a : Option Addr) (c n : Nat) (s : ByteArray) (w : World) :
    Calls Tryd.prog 46 #[.agg #[.slice none 0 0, .slice a n c], .string s] w fun e w' => e = .returned (.int .i64 (-1)) ∧ Below w.heap.size w w' := by
  have HB0 : Hid (∀ o1 o2, Below w.heap.size w ((w.alloc o1).alloc o2)) := fun o1 o2 => ((Below.refl _ _).alloc (Nat.le_refl _) _).alloc (by simp) _
  go_enter Tryd.func46, Tryd.ntmps46
  go_wp2_with fail
  refine (indexNone _ _).mono ?_
  rintro x w2 ⟨rfl, hb2⟩
  have HB := Lib.hid ((HB0.out _ _).trans (hb2.mono (HB0.out _ _).size))
  clear hb2
  go_wp2_with fail
  go_ret
  exact ⟨rfl, HB.out⟩

set_option maxRecDepth 100000 in
set_option maxHeartbeats 1000000 in
theorem implColNone (a : Option Addr) (c : Nat) (ls : List Lb) (w0 : World) : ColC none 0 0 a c ls (fun _ => none) w0 := by
  intro s w _
  have HB0 : Hid (∀ o1, Below w.heap.size w (w.alloc o1)) := fun o1 => (Below.refl _ _).alloc (Nat.le_refl _) _
  go_enter Tryd.func31, Tryd.ntmps31
  go_wp2_with fail
  refine (colAtNone a c ls.length s _).mono ?_
  rintro x w2 ⟨rfl, hb2⟩
  have HB := Lib.hid ((HB0.out _).trans (hb2.mono (HB0.out _).size))
  clear hb2
  go_wp2_with fail
  go_ret2
  exact ⟨rfl, HB.out⟩

end Go.Proofs.YthebkfanpnbanaaDoor

namespace Go.Proofs.YthebkfanpnbanaaDoor
open Go.ChangeShapes Go.WideShapes Go.RowKit

structure Fm where
  kids : Int
  strength : Int
  token : Int
  text : List UInt8

def formsL : List Fm := [⟨0, 7, 0, []⟩, ⟨0, 7, 0, []⟩, ⟨0, 7, 0, []⟩, ⟨0, 7, 0, wTrue⟩, ⟨0, 7, 0, wFalse⟩, ⟨0, 7, 0, wNull⟩, ⟨1, 3, 0, wNot⟩, ⟨1, 4, 0, wIs⟩, ⟨2, 2, 0, wAnd⟩, ⟨2, 1, 0, wOr⟩,
  ⟨2, 4, 4, [61]⟩, ⟨2, 4, 4, [60, 62]⟩, ⟨2, 4, 4, [60]⟩, ⟨2, 4, 4, [60, 61]⟩, ⟨2, 4, 4, [62]⟩, ⟨2, 4, 4, [62, 61]⟩, ⟨2, 5, 4, [43]⟩, ⟨2, 5, 4, [45]⟩, ⟨2, 6, 4, [42]⟩]

def Fm.d {H : Type} (f : Fm) : DataW H := .agg [.lit (.int .i64 f.kids), .lit (.int .i64 f.strength), .lit (.int .i64 f.token), .lit (.string f.text)]

theorem forms_laid : (Rows.laid_loop_example_g00751_impl_exprForms : DataW Unit) = .agg (formsL.map Fm.d) := rfl

theorem gForms : Tryd.prog.globalNamed "loop.example/g00751/impl.exprForms" = some 0 := by kernel_rfl
theorem gFormsType : (Tryd.prog.globals[0]?).map (·.type) = some 115 := by kernel_rfl
theorem cellsForms : Tryd.prog.cellsOf 115 = 76 := by kernel_rfl
theorem cellsForm : Tryd.prog.cellsOf 114 = 4 := by kernel_rfl
theorem cellsIntF : Tryd.prog.cellsOf 3 = 1 := by kernel_rfl
theorem cellsStrF : Tryd.prog.cellsOf 9 = 1 := by kernel_rfl

def fm (i : Nat) : Fm := formsL.getD i ⟨0, 0, 0, []⟩

/-- The table lies as the text lays it. -/
def FormsAt (w : World) : Prop := 0 < w.heap.size ∧ ∀ i, i < 19 →
  w.cell? ⟨0, i * 4, none⟩ = some (.int .i64 (fm i).kids) ∧ w.cell? ⟨0, i * 4 + 1, none⟩ = some (.int .i64 (fm i).strength) ∧
  w.cell? ⟨0, i * 4 + 2, none⟩ = some (.int .i64 (fm i).token) ∧ w.cell? ⟨0, i * 4 + 3, none⟩ = some (.string (txt (fm i).text))

theorem FormsAt.below {w w' : World} {B : Nat} (h : FormsAt w) (hb : Below B w w') (hB : 0 < B) : FormsAt w' := by
  refine ⟨Nat.lt_of_lt_of_le h.1 hb.size, fun i hi => ?_⟩
  obtain ⟨h0, h1, h2, h3⟩ := h.2 i hi
  have e := fun o => hb.cell (p := ⟨0, o, none⟩) hB
  exact ⟨(e _).trans h0, (e _).trans h1, (e _).trans h2, (e _).trans h3⟩

set_option maxRecDepth 100000 in
theorem form_cells {H : Type} {enc : TypeId × Value → H} {W : World} {base : Nat} {sp : Nat → Bool} {held : Bool} {fuel : Nat} {cs : List Value} {x : DataW H × List MemPlace} (h : DataW.trod enc Tryd.prog W base sp held fuel 114 cs = some x) {f : Fm} (hx : x.1 = f.d) :
    cs = [.int .i64 f.kids, .int .i64 f.strength, .int .i64 f.token, .string (txt f.text)] := by
  obtain ⟨ys, n, hn, hxe, hl, hyl, hf⟩ := DataW.trod_struct Tryd.underlying114 h
  subst hn
  rw [cellsForm] at hl
  match cs, hl with
  | [c0, c1, c2, c3], _ =>
    have hs : ys.length = 4 := hyl
    match ys, hs with
    | [y0, y1, y2, y3], _ =>
      have f0 : DataW.trod enc Tryd.prog W base sp held n 3 (([c0, c1, c2, c3].drop 0).take (Tryd.prog.cellsOf 3)) = some y0 := hf 0 _ rfl
      have f1 : DataW.trod enc Tryd.prog W base sp held n 3 (([c0, c1, c2, c3].drop 1).take (Tryd.prog.cellsOf 3)) = some y1 := hf 1 _ rfl
      have f2 : DataW.trod enc Tryd.prog W base sp held n 3 (([c0, c1, c2, c3].drop 2).take (Tryd.prog.cellsOf 3)) = some y2 := hf 2 _ rfl
      have f3 : DataW.trod enc Tryd.prog W base sp held n 9 (([c0, c1, c2, c3].drop 3).take (Tryd.prog.cellsOf 9)) = some y3 := hf 3 _ rfl
      rw [cellsIntF] at f0 f1 f2
      rw [cellsStrF] at f3
      obtain ⟨k0, e0, d0, _⟩ := DataW.trod_int Tryd.underlying3 f0
      obtain ⟨k1, e1, d1, _⟩ := DataW.trod_int Tryd.underlying3 f1
      obtain ⟨k2, e2, d2, _⟩ := DataW.trod_int Tryd.underlying3 f2
      obtain ⟨s, e3, d3, _⟩ := DataW.trod_string Tryd.underlying9 f3
      simp at e0 e1 e2 e3
      subst e0 e1 e2 e3 d0 d1 d2 d3
      rw [hxe] at hx
      simp only [List.map_cons, List.map_nil, Fm.d, DataW.agg.injEq, List.cons.injEq, DataW.lit.injEq, Lit.int.injEq, Lit.string.injEq, true_and, and_true] at hx
      obtain ⟨rfl, rfl, rfl, h3⟩ := hx
      have : s = txt f.text := by rw [← h3]; obtain ⟨⟨l⟩⟩ := s; rfl
      rw [this]

set_option maxRecDepth 100000 in
theorem formsAt_of {W : World} {rest : List (String × DataW Unit)} (h : laidMet Tryd.prog (("loop.example/g00751/impl.exprForms", Rows.laid_loop_example_g00751_impl_exprForms) :: rest) W) : FormsAt W := by
  obtain ⟨ps, hL, _, _⟩ := h
  obtain ⟨g, t, cs, fuel, p, q, h1, h2, h3, h4, _, _⟩ := hL
  obtain rfl := Option.some.inj (gForms.symm.trans h1)
  obtain rfl := Option.some.inj (gFormsType.symm.trans h2)
  obtain ⟨xs, m, hm, hx, hl, hxl, hel⟩ := DataW.trod_array Tryd.underlying115 h4
  have hd : xs.map (·.1) = formsL.map Fm.d := by
    have := congrArg Prod.fst hx
    rw [forms_laid] at this
    exact (DataW.agg.inj this).symm
  rw [cellsForms] at hl
  have hvar : ∀ o (ho : o < 76), W.cell? ⟨0, o, none⟩ = cs.toList[o]? := by
    intro o ho
    unfold World.var? at h3
    rw [gForms, Option.bind_some] at h3
    unfold World.cell?
    split at h3
    · rename_i c tt fr hb
      cases h3
      simp [hb]
    · cases h3
  have hlt : 0 < W.heap.size := by
    have h0 := hvar 0 (by omega)
    rw [List.getElem?_eq_getElem (by omega)] at h0
    exact World.block_lt_of_cell? W ⟨0, 0, none⟩ h0
  refine ⟨hlt, fun i hi => ?_⟩
  have hxi : i < xs.length := by omega
  have hfi : i < formsL.length := by have : formsL.length = 19 := rfl
                                     omega
  have he := hel i hi
  rw [cellsForm, List.getElem?_eq_getElem hxi] at he
  have hfm : fm i = formsL[i] := by unfold fm; rw [List.getD_eq_getElem?_getD, List.getElem?_eq_getElem hfi]; rfl
  have hdi : xs[i].1 = (fm i).d := by
    have : (xs.map (·.1))[i]? = (formsL.map Fm.d)[i]? := by rw [hd]
    rw [List.getElem?_map, List.getElem?_map, List.getElem?_eq_getElem hxi, List.getElem?_eq_getElem hfi] at this
    rw [hfm]
    simpa using this
  have hc := form_cells he hdi
  have at' : ∀ j, j < 4 → cs.toList[i * 4 + j]? = [Value.int .i64 (fm i).kids, .int .i64 (fm i).strength, .int .i64 (fm i).token, .string (txt (fm i).text)][j]? := by
    intro j hj
    rw [← hc, List.getElem?_take, if_pos hj, List.getElem?_drop]
  exact ⟨(hvar _ (by omega)).trans (at' 0 (by omega)), (hvar _ (by omega)).trans (at' 1 (by omega)), (hvar _ (by omega)).trans (at' 2 (by omega)), (hvar _ (by omega)).trans (at' 3 (by omega))⟩

end Go.Proofs.YthebkfanpnbanaaDoor
