/- The model's ExprOk. -/
/- spec.SortOf. -/
/- spec.Gives. -/
/- (impl.sorter).isLabel, compatibleEnum, compatible. -/
/- (impl.sorter).accepts, storesText, stores. -/
import Derived.Test.YtpdcmmhhgnackaaDoorMLexM
import Derived.Test.YtpdcmmhhgnackaaDoorMSrtW
import Derived.Test.YtpdcmmhhgnackaaDoorMPlain
import Derived.Test.YtpdcmmhhgnackaaDoorMStrs
import Derived.Deep.RegionHeld3
namespace Go.Proofs.YtpdcmmhhgnackaaDoor
open Go.RowKit

set_option maxHeartbeats 1000000 in
theorem specExprOk (e : Ex) (a : Option Addr) (c d : Nat) (w : World) (hk : KidsAt w d a c e.kids) (hwt : e.wt ≤ 1048576) (v : Bool) (hv : (decide (e.nodes ≤ 40) && shapeE e) = v) :
    Calls Tryd.prog 14 #[.agg #[.int .i64 e.kind, .string e.text, .int .i64 e.num, .slice a e.kids.length c]] w fun x w' => x = .returned (.bool v) ∧ Below w.heap.size w w' := by
  have hwe := Ex.wt_eq e
  have hnw := nodes_wt e
  have HE := Lib.hid (Ex.eta e)
  have HK := Lib.hid (fun w' hb => hk.below (w' := w') hb)
  have HBX := Lib.hid (fun T => boxK_new w e.kind e.text e.num a e.kids.length c T)
  clear hk
  by_cases hn : e.nodes ≤ 40
  · rw [decide_eq_true hn, Bool.true_and] at hv
    have hd : decide ((e.nodes : Int) ≤ 40) = true := by simp; omega
    subst hv
    go_enter Tryd.func14, Tryd.ntmps14
    go_wp2_with fail
    refine (specNodes d e a c _ (by omega) (HK.out _ (HBX.out _).bel)).mono ?_
    rintro x w2 ⟨rfl, hb2⟩
    have BX := (HBX.out _).below hb2
    obtain ⟨hW1, c0, c1, c2, c3, bW1⟩ := BX
    clear hb2
    go_wp2_with fail
    refine (specShape d e.kind e.text e.num e.kids a c _ (by omega) (by omega) (HK.out _ bW1)).mono ?_
    rw [← HE.out]
    rintro x w3 ⟨rfl, hb3⟩
    have B3 := Lib.hid (bW1.trans (hb3.mono bW1.size))
    clear hb3
    cases hs : shapeE e with
    | true => go_wp2_with fail; go_ret; exact ⟨by rw [hs]; rfl, B3.out⟩
    | false => go_wp2_with fail; go_ret; exact ⟨by rw [hs]; rfl, B3.out⟩
  · rw [decide_eq_false hn, Bool.false_and] at hv
    have hd : decide ((e.nodes : Int) ≤ 40) = false := by simp; omega
    subst hv
    go_enter Tryd.func14, Tryd.ntmps14
    go_wp2_with fail
    refine (specNodes d e a c _ (by omega) (HK.out _ (HBX.out _).bel)).mono ?_
    rintro x w2 ⟨rfl, hb2⟩
    have B2 := Lib.hid ((HBX.out _).below hb2).bel
    clear hb2
    go_wp2_with fail
    go_ret
    exact ⟨rfl, B2.out⟩

end Go.Proofs.YtpdcmmhhgnackaaDoor

namespace Go.Proofs.YtpdcmmhhgnackaaDoor
open Go.RowKit

/-- What SortOf answers. -/
def sofS (cols : List Co) (ls : List Lb) (e : Ex) : So × Int :=
  if (decide (e.nodes ≤ 40) && shapeE e) = true then (if (e.ucols.all fun s => decide (0 ≤ findAt Co.name cols s)) = true then (match srtE (colF cols) ls e with | some s => (s, 0) | none => (soK 0, 2)) else (soK 0, 1)) else (soK 0, 1)

theorem colF_some {cols : List Co} {s : ByteArray} (h : 0 ≤ findAt Co.name cols s) : (colF cols s).isSome = true := by
  unfold colF
  have hl := (findAt_small Co.name cols s).2
  rw [if_pos h, List.getElem?_eq_getElem (by omega)]
  rfl

mutual
theorem all_ok {cf : ByteArray → Option So} : (e : Ex) → shapeE e = true → (∀ t, t ∈ e.cols → (cf t).isSome = true) → e.all (okS cf) = true
  | .mk k t n kids => by
    intro hs hc
    rw [shapeE, Bool.and_eq_true] at hs
    rw [Ex.all, Bool.and_eq_true]
    refine ⟨?_, allL_ok kids hs.2 fun t ht => hc t (by rw [Ex.cols]; exact List.mem_append.2 (.inr ht))⟩
    have h1 := hs.1
    unfold node1 at h1
    simp only [Bool.and_eq_true, decide_eq_true_eq] at h1
    unfold okS
    simp only [Ex.kind, Ex.text, Ex.kids, Bool.and_eq_true, Bool.or_eq_true]
    refine ⟨?_, ?_⟩
    · by_cases h0 : k = 0
      · right
        refine hc t ?_
        rw [Ex.cols]
        refine List.mem_append.2 (.inl ?_)
        simp [own1, h0, Ex.kind, Ex.text]
      · left
        simp [h0]
    · by_cases h10 : k = 10 ∨ k = 11
      · right
        have : kidsK k = 2 := by rcases h10 with h | h <;> subst h <;> rfl
        have h2 := h1.1.1
        rw [this] at h2
        simp
        omega
      · left
        simp only [not_or] at h10
        simp [h10.1, h10.2]
theorem allL_ok {cf : ByteArray → Option So} : (l : List Ex) → shapeL l = true → (∀ t, t ∈ colsL l → (cf t).isSome = true) → allL (okS cf) l = true
  | [] => fun _ _ => by rw [allL]
  | e :: r => by
    intro hs hc
    rw [shapeL, Bool.and_eq_true] at hs
    rw [allL, Bool.and_eq_true]
    exact ⟨all_ok e hs.1 fun t ht => hc t (by rw [colsL]; exact List.mem_append.2 (.inl ht)), allL_ok r hs.2 fun t ht => hc t (by rw [colsL]; exact List.mem_append.2 (.inr ht))⟩
end

set_option maxRecDepth 100000 in
set_option maxHeartbeats 8000000 in
theorem specSortOf (e : Ex) (ak : Option Addr) (ck d : Nat) (ca : Option Addr) (cc : Nat) (cols : List Co) (la : Option Addr) (lc : Nat) (ls : List Lb) (w : World) (hfit : e.fit) (hk : KidsAt w d ak ck e.kids) (hwt : e.wt ≤ 1048576) (hC : Sl 6 RCo 0 w ca cc cols) (hL : Lbs w la lc ls) :
    Calls Tryd.prog 13 #[.agg #[.int .i64 e.kind, .string e.text, .int .i64 e.num, .slice ak e.kids.length ck], .slice ca cols.length cc, .slice la ls.length lc] w fun x w' => x = .returned (.tuple #[(sofS cols ls e).1.v, .int .i64 (sofS cols ls e).2]) ∧ Below w.heap.size w w' := by
  have HK := Lib.hid (fun w' hb => hk.below (w' := w') hb)
  have HN := Lib.hid (nodes_wt e)
  have HSRT := Lib.hid (specSrt ca cc cols la lc ls w hC hL d)
  have HCS := Lib.hid (fun w' (hb : Below w.heap.size w w') => hC.kept goodCo (Kept.below hb))
  have hok : ∃ v, (decide (e.nodes ≤ 40) && shapeE e) = v := ⟨_, rfl⟩
  obtain ⟨v, hv⟩ := hok
  have HV := Lib.hid hv
  have HUL := Lib.hid (ucols_facts e)
  have HUW := Lib.hid (ucols_wt e)
  clear hk hC hL
  go_enter Tryd.func13, Tryd.ntmps13
  go_wp2_with fail
  refine (specExprOk e ak ck d _ (HK.out _ (((Below.refl _ _).alloc (Nat.le_refl _) _).alloc (by simp) _)) hwt v hv).mono ?_
  rintro x w1 ⟨rfl, b1⟩
  have HB1 : Hid (BS w e ak ck w1) := BS.below ⟨(blk_new w _ [.int .i64 e.kind, .string e.text, .int .i64 e.num, .slice ak e.kids.length ck]).alloc _, blk_new' (w := w.alloc _) (b := w.heap.size + 1) (by simp) _ [.int .i64 0, .string ByteArray.empty], by simp, ((Below.refl _ _).alloc (Nat.le_refl _) _).alloc (by simp) _⟩ b1
  have y0w1 : w1.cell? ⟨w.heap.size + 1, 0, none⟩ = some (.int .i64 0) := (HB1.out.2.1.2 0 (by simp)).1
  have y1w1 : w1.cell? ⟨w.heap.size + 1, 1, none⟩ = some (.string ByteArray.empty) := (HB1.out.2.1.2 1 (by simp)).1
  have f0w1 : w1.frozen? ⟨w.heap.size + 1, 0, none⟩ = false := (HB1.out.2.1.2 0 (by simp)).2
  have f1w1 : w1.frozen? ⟨w.heap.size + 1, 1, none⟩ = false := (HB1.out.2.1.2 1 (by simp)).2
  have e0w1 : w1.cell? ⟨w.heap.size, 0, none⟩ = some (.int .i64 e.kind) := (HB1.out.1.2 0 (by simp)).1
  have e1w1 : w1.cell? ⟨w.heap.size, 1, none⟩ = some (.string e.text) := (HB1.out.1.2 1 (by simp)).1
  have e2w1 : w1.cell? ⟨w.heap.size, 2, none⟩ = some (.int .i64 e.num) := (HB1.out.1.2 2 (by simp)).1
  have e3w1 : w1.cell? ⟨w.heap.size, 3, none⟩ = some (.slice ak e.kids.length ck) := (HB1.out.1.2 3 (by simp)).1
  clear b1 hv
  cases v with
  | false =>
    have HC : Hid (sofS cols ls e = (soK 0, 1)) := by unfold Hid sofS; rw [if_neg (by rw [HV.out]; simp)]
    go_wp2_with fail
    refine bodyPost_ret (v := .tuple #[.agg #[.int .i64 0, .string ByteArray.empty], .int .i64 1]) (by simp [results, Tryd.results13, go_sem, *]; rfl) rfl ⟨by rw [HC.out]; rfl, ?_⟩
    refine Below.setCell ?_ (by first | omega | (simp; done) | (simp; omega) | (simp [World.setCell]; omega)) _
    refine Below.setCell ?_ (by first | omega | (simp; done) | (simp; omega) | (simp [World.setCell]; omega)) _
    exact HB1.out.2.2.2
  | true =>
    have HSH : Hid (shapeE e = true) := by have := HV.out; rw [Bool.and_eq_true] at this; exact this.2
    have hnl : e.ucols.length ≤ 9223372036854775807 := by have h1 := HUL.out.2.2; have h2 := HN.out; omega
    go_wp2_with fail
    refine (specCols d e ak ck _ hfit hwt (HK.out _ HB1.out.2.2.2)).mono ?_
    rintro x w2 ⟨a2, c2, rfl, ho, b2⟩
    have HB2 := Lib.hid (HB1.out.below b2)
    have HST := Lib.hid (ho.strs fun s hs => by have h1 := HUW.out s hs; unfold maxLen; omega)
    clear b2 ho y0w1 y1w1 f0w1 f1w1 e0w1 e1w1 e2w1 e3w1
    go_wp2_with fail
    go_loopw [9] (fun i wr => ∃ k : Nat, k ≤ e.ucols.length ∧ i = .int .i64 k ∧ Hid (∀ m (hm : m < e.ucols.length), m < k → 0 ≤ findAt Co.name cols e.ucols[m]) ∧ Below w2.heap.size w2 wr) (fun i _ => e.ucols.length - (intOf i).toNat)
    case atStart => exact ⟨0, Nat.zero_le _, rfl, fun m h hm => absurd hm (by omega), Below.refl _ _⟩
    case round =>
      obtain ⟨k, hk, rfl, hall, hb⟩ := hrel
      have HBr := Lib.hid (HB2.out.below hb)
      by_cases hlt : k < e.ucols.length
      · obtain ⟨b, off, rfl, hbl, hc⟩ := (HST.out.below hb).spot hlt
        go_wp2_with fail
        refine (specCol ca cc cols e.ucols[k] _ (HCS.out _ HBr.out.2.2.2)).mono ?_
        rintro x w3 ⟨rfl, b3⟩
        have HB3 := Lib.hid (HBr.out.below b3)
        have HB23 := Lib.hid (hb.trans (b3.mono hb.size))
        clear b3
        by_cases hf : findAt Co.name cols e.ucols[k] < 0
        · have hd : decide (findAt Co.name cols e.ucols[k] < 0) = true := by simpa using hf
          have HC : Hid (sofS cols ls e = (soK 0, 1)) := by
            unfold Hid sofS
            rw [if_pos HV.out, if_neg]
            intro hh
            have := List.all_eq_true.1 hh _ (List.getElem_mem hlt)
            simp only [decide_eq_true_eq] at this
            omega
          have y0w3 : w3.cell? ⟨w.heap.size + 1, 0, none⟩ = some (.int .i64 0) := (HB3.out.2.1.2 0 (by simp)).1
          have y1w3 : w3.cell? ⟨w.heap.size + 1, 1, none⟩ = some (.string ByteArray.empty) := (HB3.out.2.1.2 1 (by simp)).1
          have f0w3 : w3.frozen? ⟨w.heap.size + 1, 0, none⟩ = false := (HB3.out.2.1.2 0 (by simp)).2
          have f1w3 : w3.frozen? ⟨w.heap.size + 1, 1, none⟩ = false := (HB3.out.2.1.2 1 (by simp)).2
          clear hf
          go_wp2_with fail
          refine bodyPost_ret (v := .tuple #[.agg #[.int .i64 0, .string ByteArray.empty], .int .i64 1]) (by simp [results, Tryd.results13, go_sem, *]; rfl) rfl ⟨by rw [HC.out]; rfl, ?_⟩
          refine Below.setCell ?_ (by first | omega | (simp; done) | (simp; omega) | (simp [World.setCell]; omega)) _
          refine Below.setCell ?_ (by first | omega | (simp; done) | (simp; omega) | (simp [World.setCell]; omega)) _
          exact HB3.out.2.2.2
        · have hd : decide (findAt Co.name cols e.ucols[k] < 0) = false := by simpa using hf
          have HF : Hid (0 ≤ findAt Co.name cols e.ucols[k]) := by unfold Hid; omega
          clear hf
          go_wp2_with fail
          go_roundw
          case rel => exact ⟨k + 1, by omega, by go_num, fun m hm h1 => by
            rcases Nat.lt_or_ge m k with h2 | h2
            · exact hall.out m hm h2
            · obtain rfl : m = k := by omega
              exact HF.out, HB23.out⟩
          case measure => simp [intOf]; omega
      · have HALL : Hid ((e.ucols.all fun s => decide (0 ≤ findAt Co.name cols s)) = true) := by
          unfold Hid
          rw [List.all_eq_true]
          intro s hs
          obtain ⟨m, hm, rfl⟩ := List.mem_iff_getElem.1 hs
          simpa using hall.out m hm (by omega)
        have HOK : Hid (e.all (okS (colF cols)) = true) := all_ok e HSH.out fun t ht => by
          have h1 := List.all_eq_true.1 HALL.out t ((HUL.out.2.1 t).2 ht)
          exact colF_some (by simpa using h1)
        have hne : e.nodes ≤ 1048577 := by have := HN.out; omega
        have e0wr : wr.cell? ⟨w.heap.size, 0, none⟩ = some (.int .i64 e.kind) := (HBr.out.1.2 0 (by simp)).1
        have e1wr : wr.cell? ⟨w.heap.size, 1, none⟩ = some (.string e.text) := (HBr.out.1.2 1 (by simp)).1
        have e2wr : wr.cell? ⟨w.heap.size, 2, none⟩ = some (.int .i64 e.num) := (HBr.out.1.2 2 (by simp)).1
        have e3wr : wr.cell? ⟨w.heap.size, 3, none⟩ = some (.slice ak e.kids.length ck) := (HBr.out.1.2 3 (by simp)).1
        go_wp2_with fail
        refine (HSRT.out e ak ck _ HBr.out.2.2.2 (HK.out _ HBr.out.2.2.2) HOK.out hne).mono ?_
        cases hs : srtE (colF cols) ls e with
        | none =>
          simp only [Option.isSome_none]
          rintro x w3 ⟨⟨sk, sn⟩, rfl, _, b3⟩
          have HC : Hid (sofS cols ls e = (soK 0, 2)) := by unfold Hid sofS; rw [if_pos HV.out, if_pos HALL.out, hs]
          have HB3 := Lib.hid (HBr.out.below b3)
          have y0w3 : w3.cell? ⟨w.heap.size + 1, 0, none⟩ = some (.int .i64 0) := (HB3.out.2.1.2 0 (by simp)).1
          have y1w3 : w3.cell? ⟨w.heap.size + 1, 1, none⟩ = some (.string ByteArray.empty) := (HB3.out.2.1.2 1 (by simp)).1
          have f0w3 : w3.frozen? ⟨w.heap.size + 1, 0, none⟩ = false := (HB3.out.2.1.2 0 (by simp)).2
          have f1w3 : w3.frozen? ⟨w.heap.size + 1, 1, none⟩ = false := (HB3.out.2.1.2 1 (by simp)).2
          have hs3 := HB3.out.2.2.1
          have hn1 : w.heap.size + 1 < w3.heap.size := by omega
          clear b3 hs
          unfold So.v
          go_wp2_with fail
          refine bodyPost_ret (v := .tuple #[.agg #[.int .i64 0, .string ByteArray.empty], .int .i64 2]) (by simp [results, Tryd.results13, go_sem, *]; rfl) rfl ⟨by rw [HC.out]; rfl, ?_⟩
          refine Below.alloc ?_ (by first | omega | (simp; done) | (simp; omega) | (simp [World.setCell]; omega)) _
          refine Below.setCell ?_ (by first | omega | (simp; done) | (simp; omega) | (simp [World.setCell]; omega)) _
          refine Below.setCell ?_ (by first | omega | (simp; done) | (simp; omega) | (simp [World.setCell]; omega)) _
          exact HB3.out.2.2.2
        | some o =>
          simp only [Option.isSome_some]
          rintro x w3 ⟨s, rfl, hso, b3⟩
          obtain rfl := hso o rfl
          have HC : Hid (sofS cols ls e = (s, 0)) := by unfold Hid sofS; rw [if_pos HV.out, if_pos HALL.out, hs]
          obtain ⟨sk, sn⟩ := s
          have HB3 := Lib.hid (HBr.out.below b3)
          have y0w3 : w3.cell? ⟨w.heap.size + 1, 0, none⟩ = some (.int .i64 0) := (HB3.out.2.1.2 0 (by simp)).1
          have y1w3 : w3.cell? ⟨w.heap.size + 1, 1, none⟩ = some (.string ByteArray.empty) := (HB3.out.2.1.2 1 (by simp)).1
          have f0w3 : w3.frozen? ⟨w.heap.size + 1, 0, none⟩ = false := (HB3.out.2.1.2 0 (by simp)).2
          have f1w3 : w3.frozen? ⟨w.heap.size + 1, 1, none⟩ = false := (HB3.out.2.1.2 1 (by simp)).2
          have hs3 := HB3.out.2.2.1
          have hn1 : w.heap.size + 1 < w3.heap.size := by omega
          clear b3 hs hso
          unfold So.v
          go_wp2_with fail
          refine bodyPost_ret (v := .tuple #[.agg #[.int .i64 sk, .string sn], .int .i64 0]) (by simp [results, Tryd.results13, go_sem, *]) rfl ⟨by rw [HC.out]; rfl, ?_⟩
          refine Below.alloc ?_ (by first | omega | (simp; done) | (simp; omega) | (simp [World.setCell]; omega)) _
          refine Below.setCell ?_ (by first | omega | (simp; done) | (simp; omega) | (simp [World.setCell]; omega)) _
          refine Below.setCell ?_ (by first | omega | (simp; done) | (simp; omega) | (simp [World.setCell]; omega)) _
          exact HB3.out.2.2.2

end Go.Proofs.YtpdcmmhhgnackaaDoor

namespace Go.Proofs.YtpdcmmhhgnackaaDoor
open Go.RowKit

/-- What may stand where a type does, of what the values of an expression are. -/
def gvK (ls : List Lb) (t : Ty) (e : Ex) (k : Int) : Bool :=
  if (k == 4) = true then true else if (k == 0) = true then t.kind == 0 else if (k == 2) = true then t.kind == 2
  else if (t.kind == 1) = true then true else if (t.kind == 3) = true ∧ (e.kind == 2) = true ∧ (e.text.size : Int) ≤ t.len then true
  else if (t.kind == 4) = true ∧ (e.kind == 2) = true then labB ls t.name e.text else false

def gvS (ls : List Lb) (t : Ty) (e : Ex) : Bool := if (sofS [] ls e).2 = 0 then gvK ls t e (sofS [] ls e).1.kind else false

set_option maxRecDepth 100000 in
set_option maxHeartbeats 8000000 in
theorem specGives (e : Ex) (ak : Option Addr) (ck d : Nat) (t : Ty) (la : Option Addr) (lc : Nat) (ls : List Lb) (w : World) (hfit : e.fit) (hk : KidsAt w d ak ck e.kids) (hwt : e.wt ≤ 1048576) (hL : Lbs w la lc ls) :
    Calls Tryd.prog 9 #[.agg #[.int .i64 e.kind, .string e.text, .int .i64 e.num, .slice ak e.kids.length ck], .agg #[.int .i64 t.kind, .int .i64 t.len, .string t.name], .slice la ls.length lc] w fun x w' => x = .returned (.bool (gvS ls t e)) ∧ Below w.heap.size w w' := by
  have HK := Lib.hid (fun w' hb => hk.below (w' := w') hb)
  have HL := Lib.hid (fun w' hb => hL.below (w' := w') hb)
  have HG : Hid (gvS ls t e = if (sofS [] ls e).2 = 0 then gvK ls t e (sofS [] ls e).1.kind else false) := rfl
  have HSO := Lib.hid (fun w' (hb : Below w.heap.size w w') ca => specSortOf e ak ck d ca 0 [] la lc ls w' hfit (HK.out w' hb) hwt)
  clear hk hL
  go_enter Tryd.func9, Tryd.ntmps9
  go_wp2_with fail
  refine (HSO.out _ ((((Below.refl _ _).alloc (Nat.le_refl _) _).alloc (by simp) _).alloc (by simp; omega) _) (some ⟨w.heap.size + 1 + 1, 0, none⟩) ⟨Nat.le_refl _, by unfold maxLen; omega, (fun h => by cases h), fun h => absurd h (by simp)⟩ (HL.out _ ((((Below.refl _ _).alloc (Nat.le_refl _) _).alloc (by simp) _).alloc (by simp; omega) _))).mono ?_
  rintro x w2 ⟨rfl, b2⟩
  have BE := Lib.hid (Blk.call b2 (((blk_new w _ [.int .i64 e.kind, .string e.text, .int .i64 e.num, .slice ak e.kids.length ck]).alloc _).alloc _))
  have BT := Lib.hid (Blk.call b2 ((blk_new' (w := w.alloc _) (b := w.heap.size + 1) (by simp) _ [.int .i64 t.kind, .int .i64 t.len, .string t.name]).alloc _))
  have HB := Lib.hid (show Below w.heap.size w w2 from Below.call b2 ((((Below.refl _ _).alloc (Nat.le_refl _) _).alloc (by simp) _).alloc (by simp; omega) _))
  have e0 : w2.cell? ⟨w.heap.size, 0, none⟩ = some (.int .i64 e.kind) := (BE.out.2 0 (by simp)).1
  have e1 : w2.cell? ⟨w.heap.size, 1, none⟩ = some (.string e.text) := (BE.out.2 1 (by simp)).1
  have t0 : w2.cell? ⟨w.heap.size + 1, 0, none⟩ = some (.int .i64 t.kind) := (BT.out.2 0 (by simp)).1
  have t1 : w2.cell? ⟨w.heap.size + 1, 1, none⟩ = some (.int .i64 t.len) := (BT.out.2 1 (by simp)).1
  have t2 : w2.cell? ⟨w.heap.size + 1, 2, none⟩ = some (.string t.name) := (BT.out.2 2 (by simp)).1
  have he0 : w.heap.size < w2.heap.size := BE.out.1
  have ht0 : w.heap.size + 1 < w2.heap.size := BT.out.1
  have hts : e.text.size ≤ 9223372036854775807 := by have := hfit.1; unfold maxLen at this; omega
  have HB4 : Hid (∀ o, Below w.heap.size w (w2.alloc o)) := fun o => HB.out.alloc (by omega) o
  have HB5 : Hid (∀ o n, Below w.heap.size w ((w2.alloc o).drewN n)) := fun o n => below_drewN (HB4.out o) n
  have HLL : Hid (∀ o, Lbs (w2.alloc o) la lc ls) := fun o => HL.out _ (HB4.out o)
  generalize hsf : sofS [] ls e = sf
  rw [hsf] at HG
  obtain ⟨⟨sk, sn⟩, code⟩ := sf
  clear b2 HSO
  unfold So.v
  simp only at HG ⊢
  by_cases hcd : code = 0
  · subst hcd
    have HG2 : Hid (gvS ls t e = gvK ls t e sk) := by unfold Hid; rw [HG.out]; rfl
    cases h4 : (sk == 4) with
    | true =>
      have HE : Hid (gvS ls t e = true) := by unfold Hid; rw [HG2.out]; simp [gvK, h4]
      go_wp2_with fail
      go_ret
      exact ⟨by rw [HE.out]; rfl, HB4.out _⟩
    | false =>
    cases h0 : (sk == 0) with
    | true =>
      have HE : Hid (gvS ls t e = (t.kind == 0)) := by unfold Hid; rw [HG2.out]; simp [gvK, h4, h0]
      go_wp2_with fail
      go_ret
      exact ⟨by rw [HE.out]; rfl, HB4.out _⟩
    | false =>
    cases h2 : (sk == 2) with
    | true =>
      have HE : Hid (gvS ls t e = (t.kind == 2)) := by unfold Hid; rw [HG2.out]; simp [gvK, h4, h0, h2]
      go_wp2_with fail
      go_ret
      exact ⟨by rw [HE.out]; rfl, HB4.out _⟩
    | false =>
    cases k1 : (t.kind == 1) with
    | true =>
      have HE : Hid (gvS ls t e = true) := by unfold Hid; rw [HG2.out]; simp [gvK, h4, h0, h2, k1]
      go_wp2_with fail
      go_ret
      exact ⟨by rw [HE.out]; rfl, HB4.out _⟩
    | false =>
    cases k3 : (t.kind == 3) with
    | true =>
      have k4 : (t.kind == 4) = false := by simp at k3 ⊢; omega
      cases ek : (e.kind == 2) with
      | true =>
        cases hl : decide ((e.text.size : Int) ≤ t.len) with
        | true =>
          have hl' : (e.text.size : Int) ≤ t.len := by simpa using hl
          have HE : Hid (gvS ls t e = true) := by unfold Hid; rw [HG2.out]; simp [gvK, h4, h0, h2, k1, k3, ek, hl']
          go_wp2_with fail
          go_ret
          exact ⟨by rw [HE.out]; rfl, HB4.out _⟩
        | false =>
          have hl' : ¬ (e.text.size : Int) ≤ t.len := by simpa using hl
          have HE : Hid (gvS ls t e = false) := by unfold Hid; rw [HG2.out]; simp [gvK, h4, h0, h2, k1, k3, ek, hl', k4]
          go_wp2_with fail
          go_ret
          exact ⟨by rw [HE.out]; rfl, HB4.out _⟩
      | false =>
        have HE : Hid (gvS ls t e = false) := by unfold Hid; rw [HG2.out]; simp [gvK, h4, h0, h2, k1, k3, ek, k4]
        go_wp2_with fail
        go_ret
        exact ⟨by rw [HE.out]; rfl, HB4.out _⟩
    | false =>
    cases k4 : (t.kind == 4) with
    | true =>
      cases ek : (e.kind == 2) with
      | true =>
        have HE : Hid (gvS ls t e = labB ls t.name e.text) := by unfold Hid; rw [HG2.out]; simp [gvK, h4, h0, h2, k1, k3, k4, ek]
        go_wp2_with fail
        refine (specLabel la lc ls t.name e.text _ (HLL.out _)).mono ?_
        rintro x w3 ⟨rfl, nn, rfl⟩
        go_wp2_with fail
        go_ret
        exact ⟨by rw [HE.out]; rfl, HB5.out _ _⟩
      | false =>
        have HE : Hid (gvS ls t e = false) := by unfold Hid; rw [HG2.out]; simp [gvK, h4, h0, h2, k1, k3, k4, ek]
        go_wp2_with fail
        go_ret
        exact ⟨by rw [HE.out]; rfl, HB4.out _⟩
    | false =>
      have HE : Hid (gvS ls t e = false) := by unfold Hid; rw [HG2.out]; simp [gvK, h4, h0, h2, k1, k3, k4]
      go_wp2_with fail
      go_ret
      exact ⟨by rw [HE.out]; rfl, HB4.out _⟩
  · have hcn : (code != 0) = true := by simpa using hcd
    have HE : Hid (gvS ls t e = false) := by unfold Hid; rw [HG.out, if_neg hcd]
    clear hcd
    go_wp2_with fail
    go_ret
    exact ⟨by rw [HE.out]; rfl, HB4.out _⟩

end Go.Proofs.YtpdcmmhhgnackaaDoor

namespace Go.Proofs.YtpdcmmhhgnackaaDoor
open Go.RowKit

theorem bcellC {W w1 : World} (hb : Below W.heap.size W w1) : (∀ b o, b < W.heap.size → w1.cell? ⟨b, o, none⟩ = W.cell? ⟨b, o, none⟩) := fun b o h => hb.cell (p := ⟨b, o, none⟩) h

theorem as_pp (v : Value) (w : World) : (Instr.typeAssert (.iface 121 v) 71 121 true).run Tryd.prog w = .ok (.tuple #[v, .bool true]) w := by kernel_rfl

theorem as_pt (v : Value) (w : World) : (Instr.typeAssert (.iface 121 v) 71 122 true).run Tryd.prog w = .ok (.tuple #[.string ByteArray.empty, .bool false]) w := by kernel_rfl

theorem as_pe (v : Value) (w : World) : (Instr.typeAssert (.iface 121 v) 71 133 true).run Tryd.prog w = .ok (.tuple #[.string ByteArray.empty, .bool false]) w := by kernel_rfl

theorem as_tp (v : Value) (w : World) : (Instr.typeAssert (.iface 122 v) 71 121 true).run Tryd.prog w = .ok (.tuple #[.int .i64 0, .bool false]) w := by kernel_rfl

theorem as_tt (v : Value) (w : World) : (Instr.typeAssert (.iface 122 v) 71 122 true).run Tryd.prog w = .ok (.tuple #[v, .bool true]) w := by kernel_rfl

theorem as_te (v : Value) (w : World) : (Instr.typeAssert (.iface 122 v) 71 133 true).run Tryd.prog w = .ok (.tuple #[.string ByteArray.empty, .bool false]) w := by kernel_rfl

theorem as_ep (v : Value) (w : World) : (Instr.typeAssert (.iface 133 v) 71 121 true).run Tryd.prog w = .ok (.tuple #[.int .i64 0, .bool false]) w := by kernel_rfl

theorem as_et (v : Value) (w : World) : (Instr.typeAssert (.iface 133 v) 71 122 true).run Tryd.prog w = .ok (.tuple #[.string ByteArray.empty, .bool false]) w := by kernel_rfl

theorem as_ee (v : Value) (w : World) : (Instr.typeAssert (.iface 133 v) 71 133 true).run Tryd.prog w = .ok (.tuple #[v, .bool true]) w := by kernel_rfl

set_option maxRecDepth 100000 in
set_option maxHeartbeats 1000000 in
theorem implIsLabel (ca : Option Addr) (cl cc : Nat) (a : Option Addr) (c : Nat) (ls : List Lb) (t n : ByteArray) (w : World) (hx : Lbs w a c ls) :
    Calls Tryd.prog 114 #[.agg #[.slice ca cl cc, .slice a ls.length c], .string t, .string n] w fun e w' => e = .returned (.bool (labB ls n t)) ∧ Below w.heap.size w w' := by
  have hmf : ∀ (fn : Fn) (first cap : Array Value) (w : World), (Instr.makeFunc fn first cap).run Tryd.prog w = .ok (.func fn first cap) w := fun _ _ _ _ => rfl
  have hl := hx.len
  have hb0 : ∀ o1 o2, Below w.heap.size w ((w.alloc o1).alloc o2) := fun o1 o2 => ((Below.refl _ _).alloc (Nat.le_refl _) _).alloc (by simp) _
  have HB0 := Lib.hid hb0
  have HX := Lib.hid (fun w' hb => hx.below (w' := w') hb)
  clear hx hb0
  go_enter Tryd.func114, Tryd.ntmps114
  go_wp2_with fail
  refine (indexLabels a c ls n (w.heap.size + 1) _ (HX.out _ (HB0.out _ _)) (by simp [go_sem]) (by simp)).mono ?_
  rintro e w2 ⟨hcase, hb2⟩
  have hcw := bcellC hb2
  have g1 : w2.cell? ⟨w.heap.size, 1, none⟩ = some (.slice a ls.length c) := (hcw _ _ (by simp; omega)).trans (by simp [go_sem])
  have HB2 := Lib.hid ((HB0.out _ _).trans (hb2.mono (by simp; omega)))
  clear hb2 hcw
  rcases hcase with ⟨k, hk, rfl, hne, he⟩ | ⟨rfl, hne⟩
  · have HL := Lib.hid (labB_hit ls n t k hk hne he)
    obtain ⟨b, off, rfl, hbl, hc0, hc1, _, hst⟩ := (HX.out _ HB2.out).spot hk
    have HST := Lib.hid hst
    have h0k : (0 : Int) ≤ (k : Int) := by omega
    have hge : decide ((0 : Int) ≤ (k : Int)) = true := by simp
    have hkl : (k : Int) < (ls.length : Int) := by omega
    clear hst hne he
    go_wp2_with fail
    refine (implHas _ _ _ t _ HST.out).mono ?_
    rintro e w3 ⟨rfl, nn, rfl⟩
    go_wp2_with fail
    go_ret
    exact ⟨by rw [HL.out]; rfl, below_drewN HB2.out nn⟩
  · have HL := Lib.hid (labB_miss ls n t hne)
    clear hne
    go_wp2_with fail
    go_ret
    exact ⟨by rw [HL.out]; rfl, HB2.out⟩

/-- Whether an operand fits an enumeration. -/
def cmpE (ls : List Lb) (n : ByteArray) : Opd → Bool
  | .enum m => m.toList == n.toList
  | .text s => labB ls n s
  | .plain _ => false

set_option maxRecDepth 100000 in
set_option maxHeartbeats 1000000 in
theorem implCmpE (ca : Option Addr) (cl cc : Nat) (a : Option Addr) (c : Nat) (ls : List Lb) (n : ByteArray) (x : Opd) (w : World) (hx : Lbs w a c ls) :
    Calls Tryd.prog 157 #[.agg #[.slice ca cl cc, .slice a ls.length c], .string n, x.v] w fun e w' => e = .returned (.bool (cmpE ls n x)) ∧ Below w.heap.size w w' := by
  have hl := hx.len
  have hb0 : ∀ o1, Below w.heap.size w (w.alloc o1) := fun o1 => (Below.refl _ _).alloc (Nat.le_refl _) _
  have HB0 := Lib.hid hb0
  have HX := Lib.hid (fun w' hb => hx.below (w' := w') hb)
  clear hx hb0
  cases x with
  | enum m =>
    simp only [Opd.v, cmpE]
    have q1 := as_ep
    have q2 := as_et
    have q3 := as_ee
    go_enter Tryd.func157, Tryd.ntmps157
    go_wp2_with fail
    go_ret
    exact ⟨rfl, HB0.out _⟩
  | text s =>
    simp only [Opd.v, cmpE]
    have q1 := as_tp
    have q2 := as_tt
    have q3 := as_te
    go_enter Tryd.func157, Tryd.ntmps157
    go_wp2_with fail
    refine (implIsLabel ca cl cc a c ls s n _ (HX.out _ (HB0.out _))).mono ?_
    rintro e w2 ⟨rfl, hb2⟩
    go_wp2_with fail
    go_ret
    exact ⟨rfl, (HB0.out _).trans (hb2.mono (by simp))⟩
  | plain k =>
    simp only [Opd.v, cmpE]
    have q1 := as_pp
    have q2 := as_pt
    have q3 := as_pe
    go_enter Tryd.func157, Tryd.ntmps157
    go_wp2_with fail
    go_ret
    exact ⟨rfl, HB0.out _⟩

/-- Whether two operands are compatible. -/
def cmpB (ls : List Lb) (x y : Opd) : Bool :=
  if (x.kind == 4) = true then true else if (y.kind == 4) = true then true else
  match x with
  | .enum n => cmpE ls n y
  | _ => match y with
    | .enum n => cmpE ls n x
    | _ => x.kind == y.kind

set_option maxRecDepth 100000 in
set_option maxHeartbeats 1000000 in
theorem implCmp_pp (ca : Option Addr) (cl cc : Nat) (a : Option Addr) (c : Nat) (ls : List Lb) (k1 : Int) (k2 : Int) (w : World) (hx : Lbs w a c ls) :
    Calls Tryd.prog 138 #[.agg #[.slice ca cl cc, .slice a ls.length c], (Opd.plain k1).v, (Opd.plain k2).v] w fun e w' => e = .returned (.bool (cmpB ls (.plain k1) (.plain k2))) ∧ Below w.heap.size w w' := by
  have hl := hx.len
  have hb0 : ∀ o1, Below w.heap.size w (w.alloc o1) := fun o1 => (Below.refl _ _).alloc (Nat.le_refl _) _
  have HB0 := Lib.hid hb0
  have HX := Lib.hid (fun w' hb => hx.below (w' := w') hb)
  clear hx hb0
  have qpp := as_pp
  have qpt := as_pt
  have qpe := as_pe
  simp only [Opd.v]
  by_cases h1 : (k1 == 4) = true
  · have HC : Hid (cmpB ls (.plain k1) (.plain k2) = true) := by unfold Hid cmpB; rw [if_pos (show ((Opd.plain k1).kind == 4) = true from h1)]
    go_enter Tryd.func138, Tryd.ntmps138
    go_wp2_with (first
          | (go_at_call 184; refine (kindPlain _ _).mono ?_; rintro e w' ⟨rfl, rfl⟩)
          | (go_at_call 185; refine (kindText _ _).mono ?_; rintro e w' ⟨rfl, rfl⟩)
          | (go_at_call 186; refine (kindEnum _ _).mono ?_; rintro e w' ⟨rfl, rfl⟩))
    go_ret
    exact ⟨by rw [HC.out]; rfl, HB0.out _⟩
  have h1 : (k1 == 4) = false := by simpa using h1
  by_cases h2 : (k2 == 4) = true
  · have HC : Hid (cmpB ls (.plain k1) (.plain k2) = true) := by unfold Hid cmpB; rw [if_neg (show ¬ ((Opd.plain k1).kind == 4) = true from by rw [show (Opd.plain k1).kind = k1 from rfl, h1]; simp), if_pos (show ((Opd.plain k2).kind == 4) = true from h2)]
    go_enter Tryd.func138, Tryd.ntmps138
    go_wp2_with (first
          | (go_at_call 184; refine (kindPlain _ _).mono ?_; rintro e w' ⟨rfl, rfl⟩)
          | (go_at_call 185; refine (kindText _ _).mono ?_; rintro e w' ⟨rfl, rfl⟩)
          | (go_at_call 186; refine (kindEnum _ _).mono ?_; rintro e w' ⟨rfl, rfl⟩))
    go_ret
    exact ⟨by rw [HC.out]; rfl, HB0.out _⟩
  have h2 : (k2 == 4) = false := by simpa using h2
  have HC : Hid (cmpB ls (.plain k1) (.plain k2) = ((k1 : Int) == k2)) := by unfold Hid cmpB; rw [if_neg (show ¬ ((Opd.plain k1).kind == 4) = true from by rw [show (Opd.plain k1).kind = k1 from rfl, h1]; simp), if_neg (show ¬ ((Opd.plain k2).kind == 4) = true from by rw [show (Opd.plain k2).kind = k2 from rfl, h2]; simp)]; try rfl
  go_enter Tryd.func138, Tryd.ntmps138
  go_wp2_with (first
        | (go_at_call 184; refine (kindPlain _ _).mono ?_; rintro e w' ⟨rfl, rfl⟩)
        | (go_at_call 185; refine (kindText _ _).mono ?_; rintro e w' ⟨rfl, rfl⟩)
        | (go_at_call 186; refine (kindEnum _ _).mono ?_; rintro e w' ⟨rfl, rfl⟩))
  go_ret
  exact ⟨by rw [HC.out]; rfl, HB0.out _⟩

set_option maxRecDepth 100000 in
set_option maxHeartbeats 1000000 in
theorem implCmp_pt (ca : Option Addr) (cl cc : Nat) (a : Option Addr) (c : Nat) (ls : List Lb) (k1 : Int) (s2 : ByteArray) (w : World) (hx : Lbs w a c ls) :
    Calls Tryd.prog 138 #[.agg #[.slice ca cl cc, .slice a ls.length c], (Opd.plain k1).v, (Opd.text s2).v] w fun e w' => e = .returned (.bool (cmpB ls (.plain k1) (.text s2))) ∧ Below w.heap.size w w' := by
  have hl := hx.len
  have hb0 : ∀ o1, Below w.heap.size w (w.alloc o1) := fun o1 => (Below.refl _ _).alloc (Nat.le_refl _) _
  have HB0 := Lib.hid hb0
  have HX := Lib.hid (fun w' hb => hx.below (w' := w') hb)
  clear hx hb0
  have qpp := as_pp
  have qpt := as_pt
  have qpe := as_pe
  have qtp := as_tp
  have qtt := as_tt
  have qte := as_te
  simp only [Opd.v]
  by_cases h1 : (k1 == 4) = true
  · have HC : Hid (cmpB ls (.plain k1) (.text s2) = true) := by unfold Hid cmpB; rw [if_pos (show ((Opd.plain k1).kind == 4) = true from h1)]
    go_enter Tryd.func138, Tryd.ntmps138
    go_wp2_with (first
          | (go_at_call 184; refine (kindPlain _ _).mono ?_; rintro e w' ⟨rfl, rfl⟩)
          | (go_at_call 185; refine (kindText _ _).mono ?_; rintro e w' ⟨rfl, rfl⟩)
          | (go_at_call 186; refine (kindEnum _ _).mono ?_; rintro e w' ⟨rfl, rfl⟩))
    go_ret
    exact ⟨by rw [HC.out]; rfl, HB0.out _⟩
  have h1 : (k1 == 4) = false := by simpa using h1
  have HC : Hid (cmpB ls (.plain k1) (.text s2) = ((k1 : Int) == 1)) := by unfold Hid cmpB; rw [if_neg (show ¬ ((Opd.plain k1).kind == 4) = true from by rw [show (Opd.plain k1).kind = k1 from rfl, h1]; simp), if_neg (show ¬ ((Opd.text s2).kind == 4) = true from by simp [Opd.kind])]; try rfl
  go_enter Tryd.func138, Tryd.ntmps138
  go_wp2_with (first
        | (go_at_call 184; refine (kindPlain _ _).mono ?_; rintro e w' ⟨rfl, rfl⟩)
        | (go_at_call 185; refine (kindText _ _).mono ?_; rintro e w' ⟨rfl, rfl⟩)
        | (go_at_call 186; refine (kindEnum _ _).mono ?_; rintro e w' ⟨rfl, rfl⟩))
  go_ret
  exact ⟨by rw [HC.out]; rfl, HB0.out _⟩

set_option maxRecDepth 100000 in
set_option maxHeartbeats 1000000 in
theorem implCmp_pe (ca : Option Addr) (cl cc : Nat) (a : Option Addr) (c : Nat) (ls : List Lb) (k1 : Int) (m2 : ByteArray) (w : World) (hx : Lbs w a c ls) :
    Calls Tryd.prog 138 #[.agg #[.slice ca cl cc, .slice a ls.length c], (Opd.plain k1).v, (Opd.enum m2).v] w fun e w' => e = .returned (.bool (cmpB ls (.plain k1) (.enum m2))) ∧ Below w.heap.size w w' := by
  have hl := hx.len
  have hb0 : ∀ o1, Below w.heap.size w (w.alloc o1) := fun o1 => (Below.refl _ _).alloc (Nat.le_refl _) _
  have HB0 := Lib.hid hb0
  have HX := Lib.hid (fun w' hb => hx.below (w' := w') hb)
  clear hx hb0
  have qep := as_ep
  have qet := as_et
  have qee := as_ee
  have qpp := as_pp
  have qpt := as_pt
  have qpe := as_pe
  simp only [Opd.v]
  by_cases h1 : (k1 == 4) = true
  · have HC : Hid (cmpB ls (.plain k1) (.enum m2) = true) := by unfold Hid cmpB; rw [if_pos (show ((Opd.plain k1).kind == 4) = true from h1)]
    go_enter Tryd.func138, Tryd.ntmps138
    go_wp2_with (first
          | (go_at_call 184; refine (kindPlain _ _).mono ?_; rintro e w' ⟨rfl, rfl⟩)
          | (go_at_call 185; refine (kindText _ _).mono ?_; rintro e w' ⟨rfl, rfl⟩)
          | (go_at_call 186; refine (kindEnum _ _).mono ?_; rintro e w' ⟨rfl, rfl⟩))
    go_ret
    exact ⟨by rw [HC.out]; rfl, HB0.out _⟩
  have h1 : (k1 == 4) = false := by simpa using h1
  have HC : Hid (cmpB ls (.plain k1) (.enum m2) = cmpE ls m2 (.plain k1)) := by unfold Hid cmpB; rw [if_neg (show ¬ ((Opd.plain k1).kind == 4) = true from by rw [show (Opd.plain k1).kind = k1 from rfl, h1]; simp), if_neg (show ¬ ((Opd.enum m2).kind == 4) = true from by simp [Opd.kind])]; try rfl
  go_enter Tryd.func138, Tryd.ntmps138
  go_wp2_with (first
        | (go_at_call 184; refine (kindPlain _ _).mono ?_; rintro e w' ⟨rfl, rfl⟩)
        | (go_at_call 185; refine (kindText _ _).mono ?_; rintro e w' ⟨rfl, rfl⟩)
        | (go_at_call 186; refine (kindEnum _ _).mono ?_; rintro e w' ⟨rfl, rfl⟩))
  refine (implCmpE ca cl cc a c ls m2 (Opd.plain k1) _ (HX.out _ (HB0.out _))).mono ?_
  rintro e w2 ⟨rfl, hb2⟩
  go_wp2_with fail
  go_ret
  exact ⟨by rw [HC.out]; rfl, (HB0.out _).trans (hb2.mono (by simp))⟩

set_option maxRecDepth 100000 in
set_option maxHeartbeats 1000000 in
theorem implCmp_tp (ca : Option Addr) (cl cc : Nat) (a : Option Addr) (c : Nat) (ls : List Lb) (s1 : ByteArray) (k2 : Int) (w : World) (hx : Lbs w a c ls) :
    Calls Tryd.prog 138 #[.agg #[.slice ca cl cc, .slice a ls.length c], (Opd.text s1).v, (Opd.plain k2).v] w fun e w' => e = .returned (.bool (cmpB ls (.text s1) (.plain k2))) ∧ Below w.heap.size w w' := by
  have hl := hx.len
  have hb0 : ∀ o1, Below w.heap.size w (w.alloc o1) := fun o1 => (Below.refl _ _).alloc (Nat.le_refl _) _
  have HB0 := Lib.hid hb0
  have HX := Lib.hid (fun w' hb => hx.below (w' := w') hb)
  clear hx hb0
  have qpp := as_pp
  have qpt := as_pt
  have qpe := as_pe
  have qtp := as_tp
  have qtt := as_tt
  have qte := as_te
  simp only [Opd.v]
  by_cases h2 : (k2 == 4) = true
  · have HC : Hid (cmpB ls (.text s1) (.plain k2) = true) := by unfold Hid cmpB; rw [if_neg (show ¬ ((Opd.text s1).kind == 4) = true from by simp [Opd.kind]), if_pos (show ((Opd.plain k2).kind == 4) = true from h2)]
    go_enter Tryd.func138, Tryd.ntmps138
    go_wp2_with (first
          | (go_at_call 184; refine (kindPlain _ _).mono ?_; rintro e w' ⟨rfl, rfl⟩)
          | (go_at_call 185; refine (kindText _ _).mono ?_; rintro e w' ⟨rfl, rfl⟩)
          | (go_at_call 186; refine (kindEnum _ _).mono ?_; rintro e w' ⟨rfl, rfl⟩))
    go_ret
    exact ⟨by rw [HC.out]; rfl, HB0.out _⟩
  have h2 : (k2 == 4) = false := by simpa using h2
  have HC : Hid (cmpB ls (.text s1) (.plain k2) = ((1 : Int) == k2)) := by unfold Hid cmpB; rw [if_neg (show ¬ ((Opd.text s1).kind == 4) = true from by simp [Opd.kind]), if_neg (show ¬ ((Opd.plain k2).kind == 4) = true from by rw [show (Opd.plain k2).kind = k2 from rfl, h2]; simp)]; try rfl
  go_enter Tryd.func138, Tryd.ntmps138
  go_wp2_with (first
        | (go_at_call 184; refine (kindPlain _ _).mono ?_; rintro e w' ⟨rfl, rfl⟩)
        | (go_at_call 185; refine (kindText _ _).mono ?_; rintro e w' ⟨rfl, rfl⟩)
        | (go_at_call 186; refine (kindEnum _ _).mono ?_; rintro e w' ⟨rfl, rfl⟩))
  go_ret
  exact ⟨by rw [HC.out]; rfl, HB0.out _⟩

set_option maxRecDepth 100000 in
set_option maxHeartbeats 1000000 in
theorem implCmp_tt (ca : Option Addr) (cl cc : Nat) (a : Option Addr) (c : Nat) (ls : List Lb) (s1 : ByteArray) (s2 : ByteArray) (w : World) (hx : Lbs w a c ls) :
    Calls Tryd.prog 138 #[.agg #[.slice ca cl cc, .slice a ls.length c], (Opd.text s1).v, (Opd.text s2).v] w fun e w' => e = .returned (.bool (cmpB ls (.text s1) (.text s2))) ∧ Below w.heap.size w w' := by
  have hl := hx.len
  have hb0 : ∀ o1, Below w.heap.size w (w.alloc o1) := fun o1 => (Below.refl _ _).alloc (Nat.le_refl _) _
  have HB0 := Lib.hid hb0
  have HX := Lib.hid (fun w' hb => hx.below (w' := w') hb)
  clear hx hb0
  have qtp := as_tp
  have qtt := as_tt
  have qte := as_te
  simp only [Opd.v]
  have HC : Hid (cmpB ls (.text s1) (.text s2) = ((1 : Int) == 1)) := by unfold Hid cmpB; rw [if_neg (show ¬ ((Opd.text s1).kind == 4) = true from by simp [Opd.kind]), if_neg (show ¬ ((Opd.text s2).kind == 4) = true from by simp [Opd.kind])]; try rfl
  go_enter Tryd.func138, Tryd.ntmps138
  go_wp2_with (first
        | (go_at_call 184; refine (kindPlain _ _).mono ?_; rintro e w' ⟨rfl, rfl⟩)
        | (go_at_call 185; refine (kindText _ _).mono ?_; rintro e w' ⟨rfl, rfl⟩)
        | (go_at_call 186; refine (kindEnum _ _).mono ?_; rintro e w' ⟨rfl, rfl⟩))
  go_ret
  exact ⟨by rw [HC.out]; rfl, HB0.out _⟩

set_option maxRecDepth 100000 in
set_option maxHeartbeats 1000000 in
theorem implCmp_te (ca : Option Addr) (cl cc : Nat) (a : Option Addr) (c : Nat) (ls : List Lb) (s1 : ByteArray) (m2 : ByteArray) (w : World) (hx : Lbs w a c ls) :
    Calls Tryd.prog 138 #[.agg #[.slice ca cl cc, .slice a ls.length c], (Opd.text s1).v, (Opd.enum m2).v] w fun e w' => e = .returned (.bool (cmpB ls (.text s1) (.enum m2))) ∧ Below w.heap.size w w' := by
  have hl := hx.len
  have hb0 : ∀ o1, Below w.heap.size w (w.alloc o1) := fun o1 => (Below.refl _ _).alloc (Nat.le_refl _) _
  have HB0 := Lib.hid hb0
  have HX := Lib.hid (fun w' hb => hx.below (w' := w') hb)
  clear hx hb0
  have qep := as_ep
  have qet := as_et
  have qee := as_ee
  have qtp := as_tp
  have qtt := as_tt
  have qte := as_te
  simp only [Opd.v]
  have HC : Hid (cmpB ls (.text s1) (.enum m2) = cmpE ls m2 (.text s1)) := by unfold Hid cmpB; rw [if_neg (show ¬ ((Opd.text s1).kind == 4) = true from by simp [Opd.kind]), if_neg (show ¬ ((Opd.enum m2).kind == 4) = true from by simp [Opd.kind])]; try rfl
  go_enter Tryd.func138, Tryd.ntmps138
  go_wp2_with (first
        | (go_at_call 184; refine (kindPlain _ _).mono ?_; rintro e w' ⟨rfl, rfl⟩)
        | (go_at_call 185; refine (kindText _ _).mono ?_; rintro e w' ⟨rfl, rfl⟩)
        | (go_at_call 186; refine (kindEnum _ _).mono ?_; rintro e w' ⟨rfl, rfl⟩))
  refine (implCmpE ca cl cc a c ls m2 (Opd.text s1) _ (HX.out _ (HB0.out _))).mono ?_
  rintro e w2 ⟨rfl, hb2⟩
  go_wp2_with fail
  go_ret
  exact ⟨by rw [HC.out]; rfl, (HB0.out _).trans (hb2.mono (by simp))⟩

set_option maxRecDepth 100000 in
set_option maxHeartbeats 1000000 in
theorem implCmp_ep (ca : Option Addr) (cl cc : Nat) (a : Option Addr) (c : Nat) (ls : List Lb) (m1 : ByteArray) (k2 : Int) (w : World) (hx : Lbs w a c ls) :
    Calls Tryd.prog 138 #[.agg #[.slice ca cl cc, .slice a ls.length c], (Opd.enum m1).v, (Opd.plain k2).v] w fun e w' => e = .returned (.bool (cmpB ls (.enum m1) (.plain k2))) ∧ Below w.heap.size w w' := by
  have hl := hx.len
  have hb0 : ∀ o1, Below w.heap.size w (w.alloc o1) := fun o1 => (Below.refl _ _).alloc (Nat.le_refl _) _
  have HB0 := Lib.hid hb0
  have HX := Lib.hid (fun w' hb => hx.below (w' := w') hb)
  clear hx hb0
  have qep := as_ep
  have qet := as_et
  have qee := as_ee
  have qpp := as_pp
  have qpt := as_pt
  have qpe := as_pe
  simp only [Opd.v]
  by_cases h2 : (k2 == 4) = true
  · have HC : Hid (cmpB ls (.enum m1) (.plain k2) = true) := by unfold Hid cmpB; rw [if_neg (show ¬ ((Opd.enum m1).kind == 4) = true from by simp [Opd.kind]), if_pos (show ((Opd.plain k2).kind == 4) = true from h2)]
    go_enter Tryd.func138, Tryd.ntmps138
    go_wp2_with (first
          | (go_at_call 184; refine (kindPlain _ _).mono ?_; rintro e w' ⟨rfl, rfl⟩)
          | (go_at_call 185; refine (kindText _ _).mono ?_; rintro e w' ⟨rfl, rfl⟩)
          | (go_at_call 186; refine (kindEnum _ _).mono ?_; rintro e w' ⟨rfl, rfl⟩))
    go_ret
    exact ⟨by rw [HC.out]; rfl, HB0.out _⟩
  have h2 : (k2 == 4) = false := by simpa using h2
  have HC : Hid (cmpB ls (.enum m1) (.plain k2) = cmpE ls m1 (.plain k2)) := by unfold Hid cmpB; rw [if_neg (show ¬ ((Opd.enum m1).kind == 4) = true from by simp [Opd.kind]), if_neg (show ¬ ((Opd.plain k2).kind == 4) = true from by rw [show (Opd.plain k2).kind = k2 from rfl, h2]; simp)]; try rfl
  go_enter Tryd.func138, Tryd.ntmps138
  go_wp2_with (first
        | (go_at_call 184; refine (kindPlain _ _).mono ?_; rintro e w' ⟨rfl, rfl⟩)
        | (go_at_call 185; refine (kindText _ _).mono ?_; rintro e w' ⟨rfl, rfl⟩)
        | (go_at_call 186; refine (kindEnum _ _).mono ?_; rintro e w' ⟨rfl, rfl⟩))
  refine (implCmpE ca cl cc a c ls m1 (Opd.plain k2) _ (HX.out _ (HB0.out _))).mono ?_
  rintro e w2 ⟨rfl, hb2⟩
  go_wp2_with fail
  go_ret
  exact ⟨by rw [HC.out]; rfl, (HB0.out _).trans (hb2.mono (by simp))⟩

set_option maxRecDepth 100000 in
set_option maxHeartbeats 1000000 in
theorem implCmp_et (ca : Option Addr) (cl cc : Nat) (a : Option Addr) (c : Nat) (ls : List Lb) (m1 : ByteArray) (s2 : ByteArray) (w : World) (hx : Lbs w a c ls) :
    Calls Tryd.prog 138 #[.agg #[.slice ca cl cc, .slice a ls.length c], (Opd.enum m1).v, (Opd.text s2).v] w fun e w' => e = .returned (.bool (cmpB ls (.enum m1) (.text s2))) ∧ Below w.heap.size w w' := by
  have hl := hx.len
  have hb0 : ∀ o1, Below w.heap.size w (w.alloc o1) := fun o1 => (Below.refl _ _).alloc (Nat.le_refl _) _
  have HB0 := Lib.hid hb0
  have HX := Lib.hid (fun w' hb => hx.below (w' := w') hb)
  clear hx hb0
  have qep := as_ep
  have qet := as_et
  have qee := as_ee
  have qtp := as_tp
  have qtt := as_tt
  have qte := as_te
  simp only [Opd.v]
  have HC : Hid (cmpB ls (.enum m1) (.text s2) = cmpE ls m1 (.text s2)) := by unfold Hid cmpB; rw [if_neg (show ¬ ((Opd.enum m1).kind == 4) = true from by simp [Opd.kind]), if_neg (show ¬ ((Opd.text s2).kind == 4) = true from by simp [Opd.kind])]; try rfl
  go_enter Tryd.func138, Tryd.ntmps138
  go_wp2_with (first
        | (go_at_call 184; refine (kindPlain _ _).mono ?_; rintro e w' ⟨rfl, rfl⟩)
        | (go_at_call 185; refine (kindText _ _).mono ?_; rintro e w' ⟨rfl, rfl⟩)
        | (go_at_call 186; refine (kindEnum _ _).mono ?_; rintro e w' ⟨rfl, rfl⟩))
  refine (implCmpE ca cl cc a c ls m1 (Opd.text s2) _ (HX.out _ (HB0.out _))).mono ?_
  rintro e w2 ⟨rfl, hb2⟩
  go_wp2_with fail
  go_ret
  exact ⟨by rw [HC.out]; rfl, (HB0.out _).trans (hb2.mono (by simp))⟩

set_option maxRecDepth 100000 in
set_option maxHeartbeats 1000000 in
theorem implCmp_ee (ca : Option Addr) (cl cc : Nat) (a : Option Addr) (c : Nat) (ls : List Lb) (m1 : ByteArray) (m2 : ByteArray) (w : World) (hx : Lbs w a c ls) :
    Calls Tryd.prog 138 #[.agg #[.slice ca cl cc, .slice a ls.length c], (Opd.enum m1).v, (Opd.enum m2).v] w fun e w' => e = .returned (.bool (cmpB ls (.enum m1) (.enum m2))) ∧ Below w.heap.size w w' := by
  have hl := hx.len
  have hb0 : ∀ o1, Below w.heap.size w (w.alloc o1) := fun o1 => (Below.refl _ _).alloc (Nat.le_refl _) _
  have HB0 := Lib.hid hb0
  have HX := Lib.hid (fun w' hb => hx.below (w' := w') hb)
  clear hx hb0
  have qep := as_ep
  have qet := as_et
  have qee := as_ee
  simp only [Opd.v]
  have HC : Hid (cmpB ls (.enum m1) (.enum m2) = cmpE ls m1 (.enum m2)) := by unfold Hid cmpB; rw [if_neg (show ¬ ((Opd.enum m1).kind == 4) = true from by simp [Opd.kind]), if_neg (show ¬ ((Opd.enum m2).kind == 4) = true from by simp [Opd.kind])]; try rfl
  go_enter Tryd.func138, Tryd.ntmps138
  go_wp2_with (first
        | (go_at_call 184; refine (kindPlain _ _).mono ?_; rintro e w' ⟨rfl, rfl⟩)
        | (go_at_call 185; refine (kindText _ _).mono ?_; rintro e w' ⟨rfl, rfl⟩)
        | (go_at_call 186; refine (kindEnum _ _).mono ?_; rintro e w' ⟨rfl, rfl⟩))
  refine (implCmpE ca cl cc a c ls m1 (Opd.enum m2) _ (HX.out _ (HB0.out _))).mono ?_
  rintro e w2 ⟨rfl, hb2⟩
  go_wp2_with fail
  go_ret
  exact ⟨by rw [HC.out]; rfl, (HB0.out _).trans (hb2.mono (by simp))⟩

theorem implCmp (ca : Option Addr) (cl cc : Nat) (a : Option Addr) (c : Nat) (ls : List Lb) (x y : Opd) (w : World) (hx : Lbs w a c ls) :
    Calls Tryd.prog 138 #[.agg #[.slice ca cl cc, .slice a ls.length c], x.v, y.v] w fun e w' => e = .returned (.bool (cmpB ls x y)) ∧ Below w.heap.size w w' := by
  cases x with
  | plain u => cases y with
    | plain v => exact implCmp_pp ca cl cc a c ls u v w hx
    | text v => exact implCmp_pt ca cl cc a c ls u v w hx
    | enum v => exact implCmp_pe ca cl cc a c ls u v w hx
  | text u => cases y with
    | plain v => exact implCmp_tp ca cl cc a c ls u v w hx
    | text v => exact implCmp_tt ca cl cc a c ls u v w hx
    | enum v => exact implCmp_te ca cl cc a c ls u v w hx
  | enum u => cases y with
    | plain v => exact implCmp_ep ca cl cc a c ls u v w hx
    | text v => exact implCmp_et ca cl cc a c ls u v w hx
    | enum v => exact implCmp_ee ca cl cc a c ls u v w hx

end Go.Proofs.YtpdcmmhhgnackaaDoor

namespace Go.Proofs.YtpdcmmhhgnackaaDoor
open Go.RowKit

/-- Whether an operator takes these operands. -/
def accB (ls : List Lb) (kind : Int) (xs : List Opd) : Bool :=
  if (kind == 7) = true then true
  else if (kind == 6) = true ∨ (kind == 8) = true ∨ (kind == 9) = true then allK xs 2
  else if (kind == 10) = true ∨ (kind == 11) = true then (match xs with | [x, y] => cmpB ls x y | _ => false)
  else if (kind == 12) = true ∨ (kind == 13) = true ∨ (kind == 14) = true ∨ (kind == 15) = true then allK xs 0 || allK xs 1
  else allK xs 0

/-- Whether a column of a type may store a text. -/
def stoT (ls : List Lb) (k len : Int) (n : ByteArray) (s : ByteArray) : Bool :=
  if (k == 1) = true then true else if (k == 3) = true then decide ((s.size : Int) ≤ len) else if (k == 4) = true then labB ls n s else false

set_option maxRecDepth 100000 in
set_option maxHeartbeats 1000000 in
theorem implStoT (ca : Option Addr) (cl cc : Nat) (a : Option Addr) (c : Nat) (ls : List Lb) (k len : Int) (n s : ByteArray) (w : World) (hx : Lbs w a c ls) (_hs : s.size ≤ 1048576) :
    Calls Tryd.prog 73 #[.agg #[.slice ca cl cc, .slice a ls.length c], .agg #[.int .i64 k, .int .i64 len, .string n], .string s] w fun e w' => e = .returned (.bool (stoT ls k len n s)) ∧ Below w.heap.size w w' := by
  have hl := hx.len
  have hb0 : ∀ o1 o2, Below w.heap.size w ((w.alloc o1).alloc o2) := fun o1 o2 => ((Below.refl _ _).alloc (Nat.le_refl _) _).alloc (by simp) _
  have HB0 := Lib.hid hb0
  have HX := Lib.hid (fun w' hb => hx.below (w' := w') hb)
  clear hx hb0
  by_cases h1 : (k == 1) = true
  · have HC : Hid (stoT ls k len n s = true) := by unfold Hid stoT; rw [if_pos h1]
    go_enter Tryd.func73, Tryd.ntmps73
    go_wp2_with fail
    go_ret
    exact ⟨by rw [HC.out]; rfl, HB0.out _ _⟩
  have h1' : (k == 1) = false := by simpa using h1
  by_cases h3 : (k == 3) = true
  · have HC : Hid (stoT ls k len n s = decide ((s.size : Int) ≤ len)) := by unfold Hid stoT; rw [if_neg h1, if_pos h3]
    clear h1
    go_enter Tryd.func73, Tryd.ntmps73
    go_wp2_with fail
    go_ret
    exact ⟨by rw [HC.out]; rfl, HB0.out _ _⟩
  have h3' : (k == 3) = false := by simpa using h3
  by_cases h4 : (k == 4) = true
  · have HC : Hid (stoT ls k len n s = labB ls n s) := by unfold Hid stoT; rw [if_neg h1, if_neg h3, if_pos h4]
    clear h1 h3
    go_enter Tryd.func73, Tryd.ntmps73
    go_wp2_with fail
    refine (implIsLabel ca cl cc a c ls s n _ (HX.out _ (HB0.out _ _))).mono ?_
    rintro e w2 ⟨rfl, hb2⟩
    go_wp2_with fail
    go_ret
    exact ⟨by rw [HC.out]; rfl, (HB0.out _ _).trans (hb2.mono (by simp; omega))⟩
  have h4' : (k == 4) = false := by simpa using h4
  have HC : Hid (stoT ls k len n s = false) := by unfold Hid stoT; rw [if_neg h1, if_neg h3, if_neg h4]
  clear h1 h3 h4
  go_enter Tryd.func73, Tryd.ntmps73
  go_wp2_with fail
  go_ret
  exact ⟨by rw [HC.out]; rfl, HB0.out _ _⟩

/-- Whether a column of a type may store an operand. -/
def stoB (ls : List Lb) (k len : Int) (n : ByteArray) : Opd → Bool
  | .text s => stoT ls k len n s
  | .plain x => (x == 4) || ((x == 0) && (k == 0)) || ((x == 2) && (k == 2))
  | .enum _ => false

set_option maxRecDepth 100000 in
set_option maxHeartbeats 2000000 in
theorem implStoB (ca : Option Addr) (cl cc : Nat) (a : Option Addr) (c : Nat) (ls : List Lb) (k len : Int) (n : ByteArray) (x : Opd) (w : World) (hx : Lbs w a c ls) (hs : ∀ s, x = .text s → s.size ≤ 1048576) :
    Calls Tryd.prog 29 #[.agg #[.slice ca cl cc, .slice a ls.length c], .agg #[.int .i64 k, .int .i64 len, .string n], x.v] w fun e w' => e = .returned (.bool (stoB ls k len n x)) ∧ Below w.heap.size w w' := by
  have hl := hx.len
  have hb0 : ∀ o1 o2, Below w.heap.size w ((w.alloc o1).alloc o2) := fun o1 o2 => ((Below.refl _ _).alloc (Nat.le_refl _) _).alloc (by simp) _
  have HB0 := Lib.hid hb0
  have HX := Lib.hid (fun w' hb => hx.below (w' := w') hb)
  clear hx hb0
  cases x with
  | text s =>
    have hss := hs s rfl
    have q1 := as_tp
    have q2 := as_tt
    have q3 := as_te
    simp only [Opd.v, stoB]
    clear hs
    go_enter Tryd.func29, Tryd.ntmps29
    go_wp2_with fail
    refine (implStoT ca cl cc a c ls k len n s _ (HX.out _ (HB0.out _ _)) hss).mono ?_
    rintro e w2 ⟨rfl, hb2⟩
    go_wp2_with fail
    go_ret
    exact ⟨rfl, (HB0.out _ _).trans (hb2.mono (by simp; omega))⟩
  | enum m =>
    have q1 := as_ep
    have q2 := as_et
    have q3 := as_ee
    simp only [Opd.v, stoB]
    clear hs
    go_enter Tryd.func29, Tryd.ntmps29
    go_wp2_with fail
    go_ret
    exact ⟨rfl, HB0.out _ _⟩
  | plain x =>
    have q1 := as_pp
    have q2 := as_pt
    have q3 := as_pe
    simp only [Opd.v, stoB]
    clear hs
    cases h4 : (x == 4) with
    | true =>
      go_enter Tryd.func29, Tryd.ntmps29
      go_wp2_with fail
      go_ret
      exact ⟨rfl, HB0.out _ _⟩
    | false =>
      cases h0 : (x == 0) with
      | true =>
        have h2 : (x == 2) = false := by have : x = 0 := by simpa using h0
                                         subst this; rfl
        cases hk : (k == 0) with
        | true =>
          go_enter Tryd.func29, Tryd.ntmps29
          go_wp2_with fail
          go_ret
          exact ⟨rfl, HB0.out _ _⟩
        | false =>
          rw [h2]
          go_enter Tryd.func29, Tryd.ntmps29
          go_wp2_with fail
          go_ret
          exact ⟨rfl, HB0.out _ _⟩
      | false =>
        cases h2 : (x == 2) with
        | true =>
          cases hk : (k == 2) with
          | true =>
            go_enter Tryd.func29, Tryd.ntmps29
            go_wp2_with fail
            go_ret
            exact ⟨rfl, HB0.out _ _⟩
          | false =>
            go_enter Tryd.func29, Tryd.ntmps29
            go_wp2_with fail
            go_ret
            exact ⟨rfl, HB0.out _ _⟩
        | false =>
          go_enter Tryd.func29, Tryd.ntmps29
          go_wp2_with fail
          go_ret
          exact ⟨rfl, HB0.out _ _⟩

end Go.Proofs.YtpdcmmhhgnackaaDoor
