/- spec.SortOf. -/
import Derived.Test.YtefjjcoaeanagaaDoorSrtW
import Derived.Test.YtefjjcoaeanagaaDoorColsS
import Derived.Test.YtefjjcoaeanagaaDoorShapeE
namespace Go.Proofs.YtefjjcoaeanagaaDoor
open Go.RowKit

/-- What SortOf answers. -/
def sofS (cols : List Co) (ls : List Lb) (e : Ex) : So × Int :=
  if (decide (e.nodes ≤ 40) && shapeE e) = true then (if (e.ucols.all fun s => decide (0 ≤ findAt Co.name cols s)) = true then (match srtE (colF cols) ls e with | some s => (s, 0) | none => (soK 0, 2)) else (soK 0, 1)) else (soK 0, 1)

theorem colF_some {cols : List Co} {s : ByteArray} (h : 0 ≤ findAt Co.name cols s) : (colF cols s).isSome = true := by
  unfold colF
  have hl := (findAt_small Co.name cols s).2
  rw [if_pos h, List.getElem?_eq_getElem (by omega)]
  rfl

mutual
theorem all_ok {cf : ByteArray → Option So} : (e : Ex) → shapeE e = true → (∀ t, t ∈ e.cols → (cf t).isSome = true) → e.all (okS cf) = true
  | .mk k t n kids => by
    intro hs hc
    rw [shapeE, Bool.and_eq_true] at hs
    rw [Ex.all, Bool.and_eq_true]
    refine ⟨?_, allL_ok kids hs.2 fun t ht => hc t (by rw [Ex.cols]; exact List.mem_append.2 (.inr ht))⟩
    have h1 := hs.1
    unfold node1 at h1
    simp only [Bool.and_eq_true, decide_eq_true_eq] at h1
    unfold okS
    simp only [Ex.kind, Ex.text, Ex.kids, Bool.and_eq_true, Bool.or_eq_true]
    refine ⟨?_, ?_⟩
    · by_cases h0 : k = 0
      · right
        refine hc t ?_
        rw [Ex.cols]
        refine List.mem_append.2 (.inl ?_)
        simp [own1, h0, Ex.kind, Ex.text]
      · left
        simp [h0]
    · by_cases h10 : k = 10 ∨ k = 11
      · right
        have : kidsK k = 2 := by rcases h10 with h | h <;> subst h <;> rfl
        have h2 := h1.1.1
        rw [this] at h2
        simp
        omega
      · left
        simp only [not_or] at h10
        simp [h10.1, h10.2]
theorem allL_ok {cf : ByteArray → Option So} : (l : List Ex) → shapeL l = true → (∀ t, t ∈ colsL l → (cf t).isSome = true) → allL (okS cf) l = true
  | [] => fun _ _ => by rw [allL]
  | e :: r => by
    intro hs hc
    rw [shapeL, Bool.and_eq_true] at hs
    rw [allL, Bool.and_eq_true]
    exact ⟨all_ok e hs.1 fun t ht => hc t (by rw [colsL]; exact List.mem_append.2 (.inl ht)), allL_ok r hs.2 fun t ht => hc t (by rw [colsL]; exact List.mem_append.2 (.inr ht))⟩
end

set_option maxRecDepth 100000 in
set_option maxHeartbeats 8000000 in
theorem specSortOf (e : Ex) (ak : Option Addr) (ck d : Nat) (ca : Option Addr) (cc : Nat) (cols : List Co) (la : Option Addr) (lc : Nat) (ls : List Lb) (w : World) (hfit : e.fit) (hk : KidsAt w d ak ck e.kids) (hwt : e.wt ≤ 1048576) (hC : Sl 6 RCo 0 w ca cc cols) (hL : Lbs w la lc ls) :
    Calls Tryd.prog 9 #[.agg #[.int .i64 e.kind, .string e.text, .int .i64 e.num, .slice ak e.kids.length ck], .slice ca cols.length cc, .slice la ls.length lc] w fun x w' => x = .returned (.tuple #[(sofS cols ls e).1.v, .int .i64 (sofS cols ls e).2]) ∧ Below w.heap.size w w' := by
  have HK := Lib.hid (fun w' hb => hk.below (w' := w') hb)
  have HN := Lib.hid (nodes_wt e)
  have HSRT := Lib.hid (specSrt ca cc cols la lc ls w hC hL d)
  have HCS := Lib.hid (fun w' (hb : Below w.heap.size w w') => hC.kept goodCo (Kept.below hb))
  have hok : ∃ v, (decide (e.nodes ≤ 40) && shapeE e) = v := ⟨_, rfl⟩
  obtain ⟨v, hv⟩ := hok
  have HV := Lib.hid hv
  have HUL := Lib.hid (ucols_facts e)
  have HUW := Lib.hid (ucols_wt e)
  clear hk hC hL
  go_enter Tryd.func9, Tryd.ntmps9
  go_wp2_with fail
  refine (specExprOk e ak ck d _ (HK.out _ (((Below.refl _ _).alloc (Nat.le_refl _) _).alloc (by simp) _)) hwt v hv).mono ?_
  rintro x w1 ⟨rfl, b1⟩
  have HB1 : Hid (BS w e ak ck w1) := BS.below ⟨(blk_new w _ [.int .i64 e.kind, .string e.text, .int .i64 e.num, .slice ak e.kids.length ck]).alloc _, blk_new' (w := w.alloc _) (b := w.heap.size + 1) (by simp) _ [.int .i64 0, .string ByteArray.empty], by simp, ((Below.refl _ _).alloc (Nat.le_refl _) _).alloc (by simp) _⟩ b1
  have y0w1 : w1.cell? ⟨w.heap.size + 1, 0, none⟩ = some (.int .i64 0) := (HB1.out.2.1.2 0 (by simp)).1
  have y1w1 : w1.cell? ⟨w.heap.size + 1, 1, none⟩ = some (.string ByteArray.empty) := (HB1.out.2.1.2 1 (by simp)).1
  have f0w1 : w1.frozen? ⟨w.heap.size + 1, 0, none⟩ = false := (HB1.out.2.1.2 0 (by simp)).2
  have f1w1 : w1.frozen? ⟨w.heap.size + 1, 1, none⟩ = false := (HB1.out.2.1.2 1 (by simp)).2
  have e0w1 : w1.cell? ⟨w.heap.size, 0, none⟩ = some (.int .i64 e.kind) := (HB1.out.1.2 0 (by simp)).1
  have e1w1 : w1.cell? ⟨w.heap.size, 1, none⟩ = some (.string e.text) := (HB1.out.1.2 1 (by simp)).1
  have e2w1 : w1.cell? ⟨w.heap.size, 2, none⟩ = some (.int .i64 e.num) := (HB1.out.1.2 2 (by simp)).1
  have e3w1 : w1.cell? ⟨w.heap.size, 3, none⟩ = some (.slice ak e.kids.length ck) := (HB1.out.1.2 3 (by simp)).1
  clear b1 hv
  cases v with
  | false =>
    have HC : Hid (sofS cols ls e = (soK 0, 1)) := by unfold Hid sofS; rw [if_neg (by rw [HV.out]; simp)]
    go_wp2_with fail
    refine bodyPost_ret (v := .tuple #[.agg #[.int .i64 0, .string ByteArray.empty], .int .i64 1]) (by simp [results, Tryd.results9, go_sem, *]; rfl) rfl ⟨by rw [HC.out]; rfl, ?_⟩
    refine Below.setCell ?_ (by first | omega | (simp; done) | (simp; omega) | (simp [World.setCell]; omega)) _
    refine Below.setCell ?_ (by first | omega | (simp; done) | (simp; omega) | (simp [World.setCell]; omega)) _
    exact HB1.out.2.2.2
  | true =>
    have HSH : Hid (shapeE e = true) := by have := HV.out; rw [Bool.and_eq_true] at this; exact this.2
    have hnl : e.ucols.length ≤ 9223372036854775807 := by have h1 := HUL.out.2.2; have h2 := HN.out; omega
    go_wp2_with fail
    refine (specCols d e ak ck _ hfit hwt (HK.out _ HB1.out.2.2.2)).mono ?_
    rintro x w2 ⟨a2, c2, rfl, ho, b2⟩
    have HB2 := Lib.hid (HB1.out.below b2)
    have HST := Lib.hid (ho.strs fun s hs => by have h1 := HUW.out s hs; unfold maxLen; omega)
    clear b2 ho y0w1 y1w1 f0w1 f1w1 e0w1 e1w1 e2w1 e3w1
    go_wp2_with fail
    go_loopw [9] (fun i wr => ∃ k : Nat, k ≤ e.ucols.length ∧ i = .int .i64 k ∧ Hid (∀ m (hm : m < e.ucols.length), m < k → 0 ≤ findAt Co.name cols e.ucols[m]) ∧ Below w2.heap.size w2 wr) (fun i _ => e.ucols.length - (intOf i).toNat)
    case atStart => exact ⟨0, Nat.zero_le _, rfl, fun m h hm => absurd hm (by omega), Below.refl _ _⟩
    case round =>
      obtain ⟨k, hk, rfl, hall, hb⟩ := hrel
      have HBr := Lib.hid (HB2.out.below hb)
      by_cases hlt : k < e.ucols.length
      · obtain ⟨b, off, rfl, hbl, hc⟩ := (HST.out.below hb).spot hlt
        go_wp2_with fail
        refine (specCol ca cc cols e.ucols[k] _ (HCS.out _ HBr.out.2.2.2)).mono ?_
        rintro x w3 ⟨rfl, b3⟩
        have HB3 := Lib.hid (HBr.out.below b3)
        have HB23 := Lib.hid (hb.trans (b3.mono hb.size))
        clear b3
        by_cases hf : findAt Co.name cols e.ucols[k] < 0
        · have hd : decide (findAt Co.name cols e.ucols[k] < 0) = true := by simpa using hf
          have HC : Hid (sofS cols ls e = (soK 0, 1)) := by
            unfold Hid sofS
            rw [if_pos HV.out, if_neg]
            intro hh
            have := List.all_eq_true.1 hh _ (List.getElem_mem hlt)
            simp only [decide_eq_true_eq] at this
            omega
          have y0w3 : w3.cell? ⟨w.heap.size + 1, 0, none⟩ = some (.int .i64 0) := (HB3.out.2.1.2 0 (by simp)).1
          have y1w3 : w3.cell? ⟨w.heap.size + 1, 1, none⟩ = some (.string ByteArray.empty) := (HB3.out.2.1.2 1 (by simp)).1
          have f0w3 : w3.frozen? ⟨w.heap.size + 1, 0, none⟩ = false := (HB3.out.2.1.2 0 (by simp)).2
          have f1w3 : w3.frozen? ⟨w.heap.size + 1, 1, none⟩ = false := (HB3.out.2.1.2 1 (by simp)).2
          clear hf
          go_wp2_with fail
          refine bodyPost_ret (v := .tuple #[.agg #[.int .i64 0, .string ByteArray.empty], .int .i64 1]) (by simp [results, Tryd.results9, go_sem, *]; rfl) rfl ⟨by rw [HC.out]; rfl, ?_⟩
          refine Below.setCell ?_ (by first | omega | (simp; done) | (simp; omega) | (simp [World.setCell]; omega)) _
          refine Below.setCell ?_ (by first | omega | (simp; done) | (simp; omega) | (simp [World.setCell]; omega)) _
          exact HB3.out.2.2.2
        · have hd : decide (findAt Co.name cols e.ucols[k] < 0) = false := by simpa using hf
          have HF : Hid (0 ≤ findAt Co.name cols e.ucols[k]) := by unfold Hid; omega
          clear hf
          go_wp2_with fail
          go_roundw
          case rel => exact ⟨k + 1, by omega, by go_num, fun m hm h1 => by
            rcases Nat.lt_or_ge m k with h2 | h2
            · exact hall.out m hm h2
            · obtain rfl : m = k := by omega
              exact HF.out, HB23.out⟩
          case measure => simp [intOf]; omega
      · have HALL : Hid ((e.ucols.all fun s => decide (0 ≤ findAt Co.name cols s)) = true) := by
          unfold Hid
          rw [List.all_eq_true]
          intro s hs
          obtain ⟨m, hm, rfl⟩ := List.mem_iff_getElem.1 hs
          simpa using hall.out m hm (by omega)
        have HOK : Hid (e.all (okS (colF cols)) = true) := all_ok e HSH.out fun t ht => by
          have h1 := List.all_eq_true.1 HALL.out t ((HUL.out.2.1 t).2 ht)
          exact colF_some (by simpa using h1)
        have hne : e.nodes ≤ 1048577 := by have := HN.out; omega
        have e0wr : wr.cell? ⟨w.heap.size, 0, none⟩ = some (.int .i64 e.kind) := (HBr.out.1.2 0 (by simp)).1
        have e1wr : wr.cell? ⟨w.heap.size, 1, none⟩ = some (.string e.text) := (HBr.out.1.2 1 (by simp)).1
        have e2wr : wr.cell? ⟨w.heap.size, 2, none⟩ = some (.int .i64 e.num) := (HBr.out.1.2 2 (by simp)).1
        have e3wr : wr.cell? ⟨w.heap.size, 3, none⟩ = some (.slice ak e.kids.length ck) := (HBr.out.1.2 3 (by simp)).1
        go_wp2_with fail
        refine (HSRT.out e ak ck _ HBr.out.2.2.2 (HK.out _ HBr.out.2.2.2) HOK.out hne).mono ?_
        cases hs : srtE (colF cols) ls e with
        | none =>
          simp only [Option.isSome_none]
          rintro x w3 ⟨⟨sk, sn⟩, rfl, _, b3⟩
          have HC : Hid (sofS cols ls e = (soK 0, 2)) := by unfold Hid sofS; rw [if_pos HV.out, if_pos HALL.out, hs]
          have HB3 := Lib.hid (HBr.out.below b3)
          have y0w3 : w3.cell? ⟨w.heap.size + 1, 0, none⟩ = some (.int .i64 0) := (HB3.out.2.1.2 0 (by simp)).1
          have y1w3 : w3.cell? ⟨w.heap.size + 1, 1, none⟩ = some (.string ByteArray.empty) := (HB3.out.2.1.2 1 (by simp)).1
          have f0w3 : w3.frozen? ⟨w.heap.size + 1, 0, none⟩ = false := (HB3.out.2.1.2 0 (by simp)).2
          have f1w3 : w3.frozen? ⟨w.heap.size + 1, 1, none⟩ = false := (HB3.out.2.1.2 1 (by simp)).2
          have hs3 := HB3.out.2.2.1
          have hn1 : w.heap.size + 1 < w3.heap.size := by omega
          clear b3 hs
          unfold So.v
          go_wp2_with fail
          refine bodyPost_ret (v := .tuple #[.agg #[.int .i64 0, .string ByteArray.empty], .int .i64 2]) (by simp [results, Tryd.results9, go_sem, *]; rfl) rfl ⟨by rw [HC.out]; rfl, ?_⟩
          refine Below.alloc ?_ (by first | omega | (simp; done) | (simp; omega) | (simp [World.setCell]; omega)) _
          refine Below.setCell ?_ (by first | omega | (simp; done) | (simp; omega) | (simp [World.setCell]; omega)) _
          refine Below.setCell ?_ (by first | omega | (simp; done) | (simp; omega) | (simp [World.setCell]; omega)) _
          exact HB3.out.2.2.2
        | some o =>
          simp only [Option.isSome_some]
          rintro x w3 ⟨s, rfl, hso, b3⟩
          obtain rfl := hso o rfl
          have HC : Hid (sofS cols ls e = (s, 0)) := by unfold Hid sofS; rw [if_pos HV.out, if_pos HALL.out, hs]
          obtain ⟨sk, sn⟩ := s
          have HB3 := Lib.hid (HBr.out.below b3)
          have y0w3 : w3.cell? ⟨w.heap.size + 1, 0, none⟩ = some (.int .i64 0) := (HB3.out.2.1.2 0 (by simp)).1
          have y1w3 : w3.cell? ⟨w.heap.size + 1, 1, none⟩ = some (.string ByteArray.empty) := (HB3.out.2.1.2 1 (by simp)).1
          have f0w3 : w3.frozen? ⟨w.heap.size + 1, 0, none⟩ = false := (HB3.out.2.1.2 0 (by simp)).2
          have f1w3 : w3.frozen? ⟨w.heap.size + 1, 1, none⟩ = false := (HB3.out.2.1.2 1 (by simp)).2
          have hs3 := HB3.out.2.2.1
          have hn1 : w.heap.size + 1 < w3.heap.size := by omega
          clear b3 hs hso
          unfold So.v
          go_wp2_with fail
          refine bodyPost_ret (v := .tuple #[.agg #[.int .i64 sk, .string sn], .int .i64 0]) (by simp [results, Tryd.results9, go_sem, *]) rfl ⟨by rw [HC.out]; rfl, ?_⟩
          refine Below.alloc ?_ (by first | omega | (simp; done) | (simp; omega) | (simp [World.setCell]; omega)) _
          refine Below.setCell ?_ (by first | omega | (simp; done) | (simp; omega) | (simp [World.setCell]; omega)) _
          refine Below.setCell ?_ (by first | omega | (simp; done) | (simp; omega) | (simp [World.setCell]; omega)) _
          exact HB3.out.2.2.2

end Go.Proofs.YtefjjcoaeanagaaDoor
