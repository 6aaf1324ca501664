/- The model's look at the columns and rules of a statement. Written by tools/gen_st.py. -/
import Derived.Test.YtpdcmmhhgnackaaGreatDoorMRuleI
namespace Go.Proofs.YtpdcmmhhgnackaaGreatDoor
open Go.RowKit

theorem parts_col {C R L : Int} {cols : List Co} {rules : List Ru} (k : Nat) (h : k < cols.length) (hf : colB cols[k] = false) : partsB C R L cols rules = false := by
  unfold partsB
  rw [all_hit colB cols k h hf]
  simp

theorem parts_rule {C R L : Int} {cols : List Co} {rules : List Ru} (k : Nat) (h : k < rules.length) (hf : ruleB rules[k] = false) : partsB C R L cols rules = false := by
  unfold partsB
  rw [all_hit ruleB rules k h hf]
  simp

theorem parts_overC {C R L : Int} {cols : List Co} {rules : List Ru} (h : ¬ (cols.length : Int) ≤ C) : partsB C R L cols rules = false := by
  unfold partsB
  rw [decide_eq_false h]
  rfl

theorem parts_overR {C R L : Int} {cols : List Co} {rules : List Ru} (h : ¬ (rules.length : Int) ≤ R) : partsB C R L cols rules = false := by
  unfold partsB
  rw [decide_eq_false h]
  simp

theorem parts_end {C R L : Int} {cols : List Co} {rules : List Ru} (h : (cols.length : Int) ≤ C) (h' : (rules.length : Int) ≤ R) (hc : cols.all colB = true) (hr : rules.all ruleB = true) : partsB C R L cols rules = decide (L ≤ (cols.length : Int) + rules.length) := by
  unfold partsB
  rw [decide_eq_true h, decide_eq_true h', hc, hr]
  rfl

set_option maxRecDepth 100000 in
set_option maxHeartbeats 8000000 in
theorem specParts_4 (name on : ByteArray) (list : List ByteArray) (num : Int) (flag : Bool) (ty : Ty) (cols : List Co) (rules : List Ru) (exprs : List Ex) (a0 a1 a2 a3 : Option Addr) (c0 c1 c2 c3 : Nat) (w : World) (h1 : Sl 6 RCo 0 w a1 c1 cols) (h2 : Sl 6 RRu 0 w a2 c2 rules) (zc : ∀ x ∈ cols, x.wt ≤ 1048576) (zr : ∀ x ∈ rules, x.wt ≤ 1048576) (v : Bool) (hv : partsB 12 8 0 cols rules = v) :
    Calls Tryz.prog 89 #[.agg #[.int .i64 4, .string name, .string on, .slice a0 list.length c0, .int .i64 num, .bool flag, .int .i64 ty.kind, .int .i64 ty.len, .string ty.name, .slice a1 cols.length c1, .slice a2 rules.length c2, .slice a3 exprs.length c3]] w fun e w' => e = .returned (.bool v) ∧ Below w.heap.size w w' := by
  have lc := h1.len
  have lr := h2.len
  have HC := Lib.hid (fun w' (hb : Below w.heap.size w w') => h1.kept goodCo (Kept.below hb))
  have HR := Lib.hid (fun w' (hb : Below w.heap.size w w') => h2.kept goodRu (Kept.below hb))
  have ZC := Lib.hid zc
  have ZR := Lib.hid zr
  have HVV := Lib.hid hv
  have HB := Lib.hid (boxV_new w [.int .i64 4, .string name, .string on, .slice a0 list.length c0, .int .i64 num, .bool flag, .int .i64 ty.kind, .int .i64 ty.len, .string ty.name, .slice a1 cols.length c1, .slice a2 rules.length c2, .slice a3 exprs.length c3] 55)
  clear h1 h2 zc zr hv
  go_enter Tryz.func89, Tryz.ntmps89
  go_wp2_with fail
  go_loopw [6] (fun i wr => ∃ k : Nat, k ≤ cols.length ∧ i = .int .i64 k ∧ Hid (∀ m (hm : m < cols.length), m < k → colB cols[m] = true) ∧ Hid (BoxV w [.int .i64 4, .string name, .string on, .slice a0 list.length c0, .int .i64 num, .bool flag, .int .i64 ty.kind, .int .i64 ty.len, .string ty.name, .slice a1 cols.length c1, .slice a2 rules.length c2, .slice a3 exprs.length c3] wr)) (fun i _ => cols.length - (intOf i).toNat)
  case atStart => exact ⟨0, Nat.zero_le _, rfl, fun m h hm => absurd hm (by omega), HB⟩
  case round =>
    obtain ⟨k, hk, rfl, hall, HBX⟩ := hrel
    have gwr_9 : wr.cell? ⟨w.heap.size, 9, none⟩ = some (.slice a1 cols.length c1) := (HBX.out.1.2 9 (by simp)).1
    have gwr_10 : wr.cell? ⟨w.heap.size, 10, none⟩ = some (.slice a2 rules.length c2) := (HBX.out.1.2 10 (by simp)).1
    by_cases hlt : k < cols.length
    · have hltI : (k : Int) < (cols.length : Int) := by omega
      by_cases hle : (k : Int) ≤ 12
      · obtain ⟨b, off, vsk, ha1, hbl, hcs, hRk⟩ := (HC.out _ HBX.out.2).spot hlt
        subst ha1
        have HRk := hRk
        obtain ⟨a0k, c0k, rfl, _⟩ := hRk
        have hc0 : wr.cell? ⟨b, off + k * 6, none⟩ = some (.string cols[k].name) := hcs 0 (by simp)
        have hc1 : wr.cell? ⟨b, off + k * 6 + 1, none⟩ = some (.int .i64 cols[k].ty.kind) := hcs 1 (by simp)
        have hc2 : wr.cell? ⟨b, off + k * 6 + 2, none⟩ = some (.int .i64 cols[k].ty.len) := hcs 2 (by simp)
        have hc3 : wr.cell? ⟨b, off + k * 6 + 3, none⟩ = some (.string cols[k].ty.name) := hcs 3 (by simp)
        have hc4 : wr.cell? ⟨b, off + k * 6 + 4, none⟩ = some (.bool cols[k].notNull) := hcs 4 (by simp)
        have hc5 : wr.cell? ⟨b, off + k * 6 + 5, none⟩ = some (.slice a0k cols[k].dflt.length c0k) := hcs 5 (by simp)
        have HK := Lib.hid HRk
        clear HRk hcs
        go_wp2_with fail
        refine (specColOk _ cols[k] _ HK.out (ZC.out _ (List.getElem_mem hlt)) _ rfl).mono ?_
        rintro e w2 ⟨rfl, hb2⟩
        have HB2 := Lib.hid (HBX.out.call hb2)
        clear hb2 gwr_9 gwr_10
        cases he : colB cols[k] with
        | false =>
          have HV : Hid (v = false) := by unfold Hid; rw [← HVV.out]; exact parts_col k hlt he
          clear he
          go_wp2_with fail
          go_ret
          exact ⟨by rw [HV.out] <;> rfl, HB2.out.2⟩
        | true =>
          have HE := Lib.hid he
          clear he
          go_wp2_with fail
          go_roundw
          case rel => exact ⟨k + 1, by omega, by go_num, fun m hm h1 => by
            rcases Nat.lt_or_ge m k with h2 | h2
            · exact hall.out m hm h2
            · obtain rfl : m = k := by omega
              exact HE.out, HB2⟩
          case measure => simp [intOf]; omega
      · have hCk := Lib.hid (show ¬ ((cols.length : Nat) : Int) ≤ 12 by omega)
        clear hall
        go_wp2_with fail
        clear gwr_9 gwr_10
        go_loopw [7] (fun i wq => ∃ k : Nat, k ≤ rules.length ∧ i = .int .i64 k ∧ Hid (∀ m (hm : m < rules.length), m < k → ruleB rules[m] = true) ∧ Hid (BoxV w [.int .i64 4, .string name, .string on, .slice a0 list.length c0, .int .i64 num, .bool flag, .int .i64 ty.kind, .int .i64 ty.len, .string ty.name, .slice a1 cols.length c1, .slice a2 rules.length c2, .slice a3 exprs.length c3] wq)) (fun i _ => rules.length - (intOf i).toNat)
        case atStart => exact ⟨0, Nat.zero_le _, rfl, fun m h hm => absurd hm (by omega), HBX⟩
        case round =>
          obtain ⟨k, hk, rfl, hall, HBQ⟩ := hrel
          have gwr_9 : wr.cell? ⟨w.heap.size, 9, none⟩ = some (.slice a1 cols.length c1) := (HBQ.out.1.2 9 (by simp)).1
          have gwr_10 : wr.cell? ⟨w.heap.size, 10, none⟩ = some (.slice a2 rules.length c2) := (HBQ.out.1.2 10 (by simp)).1
          by_cases hlt : k < rules.length
          · have hltI : (k : Int) < (rules.length : Int) := by omega
            by_cases hle : (k : Int) ≤ 8
            · obtain ⟨b, off, vsk, ha2, hbl, hcs, hRk⟩ := (HR.out _ HBQ.out.2).spot hlt
              subst ha2
              have HRk := hRk
              obtain ⟨a0k, c0k, a1k, c1k, a2k, c2k, rfl, _⟩ := hRk
              have hc0 : wr.cell? ⟨b, off + k * 6, none⟩ = some (.string rules[k].name) := hcs 0 (by simp)
              have hc1 : wr.cell? ⟨b, off + k * 6 + 1, none⟩ = some (.int .i64 rules[k].kind) := hcs 1 (by simp)
              have hc2 : wr.cell? ⟨b, off + k * 6 + 2, none⟩ = some (.slice a0k rules[k].cols.length c0k) := hcs 2 (by simp)
              have hc3 : wr.cell? ⟨b, off + k * 6 + 3, none⟩ = some (.slice a1k rules[k].expr.length c1k) := hcs 3 (by simp)
              have hc4 : wr.cell? ⟨b, off + k * 6 + 4, none⟩ = some (.string rules[k].table) := hcs 4 (by simp)
              have hc5 : wr.cell? ⟨b, off + k * 6 + 5, none⟩ = some (.slice a2k rules[k].to.length c2k) := hcs 5 (by simp)
              have HK := Lib.hid HRk
              clear HRk hcs
              go_wp2_with fail
              refine (specRuleOk _ rules[k] _ HK.out (ZR.out _ (List.getElem_mem hlt)) _ rfl).mono ?_
              rintro e w2 ⟨rfl, hb2⟩
              have HB2 := Lib.hid (HBQ.out.call hb2)
              clear hb2 gwr_9 gwr_10
              cases he : ruleB rules[k] with
              | false =>
                have HV : Hid (v = false) := by unfold Hid; rw [← HVV.out]; exact parts_rule k hlt he
                clear he
                go_wp2_with fail
                go_ret
                exact ⟨by rw [HV.out] <;> rfl, HB2.out.2⟩
              | true =>
                have HE := Lib.hid he
                clear he
                go_wp2_with fail
                go_roundw
                case rel => exact ⟨k + 1, by omega, by go_num, fun m hm h1 => by
                  rcases Nat.lt_or_ge m k with h2 | h2
                  · exact hall.out m hm h2
                  · obtain rfl : m = k := by omega
                    exact HE.out, HB2⟩
                case measure => simp [intOf]; omega
            · have HV : Hid (v = false) := by unfold Hid; rw [← HVV.out]; exact parts_overC (by have := hCk.out; omega)
              have nC : ¬ ((cols.length : Nat) : Int) ≤ 12 := by have := hCk.out; omega
              go_wp2_with fail
              go_ret
              exact ⟨by rw [HV.out] <;> rfl, HBQ.out.2⟩
          · have hge : ¬ (k : Int) < (rules.length : Int) := by omega
            have HV : Hid (v = false) := by unfold Hid; rw [← HVV.out]; exact parts_overC (by have := hCk.out; omega)
            have nC : ¬ ((cols.length : Nat) : Int) ≤ 12 := by have := hCk.out; omega
            go_wp2_with fail
            go_ret
            exact ⟨by rw [HV.out] <;> rfl, HBQ.out.2⟩
    · have hge : ¬ (k : Int) < (cols.length : Int) := by omega
      have HCA : Hid (cols.all colB = true) := all_miss colB cols fun m hm => hall.out m hm (by omega)
      by_cases hC : ((cols.length : Nat) : Int) ≤ 12
      · clear hall
        go_wp2_with fail
        clear gwr_9 gwr_10
        go_loopw [7] (fun i wq => ∃ k : Nat, k ≤ rules.length ∧ i = .int .i64 k ∧ Hid (∀ m (hm : m < rules.length), m < k → ruleB rules[m] = true) ∧ Hid (BoxV w [.int .i64 4, .string name, .string on, .slice a0 list.length c0, .int .i64 num, .bool flag, .int .i64 ty.kind, .int .i64 ty.len, .string ty.name, .slice a1 cols.length c1, .slice a2 rules.length c2, .slice a3 exprs.length c3] wq)) (fun i _ => rules.length - (intOf i).toNat)
        case atStart => exact ⟨0, Nat.zero_le _, rfl, fun m h hm => absurd hm (by omega), HBX⟩
        case round =>
          obtain ⟨k, hk, rfl, hall, HBQ⟩ := hrel
          have gwr_9 : wr.cell? ⟨w.heap.size, 9, none⟩ = some (.slice a1 cols.length c1) := (HBQ.out.1.2 9 (by simp)).1
          have gwr_10 : wr.cell? ⟨w.heap.size, 10, none⟩ = some (.slice a2 rules.length c2) := (HBQ.out.1.2 10 (by simp)).1
          by_cases hlt : k < rules.length
          · have hltI : (k : Int) < (rules.length : Int) := by omega
            by_cases hle : (k : Int) ≤ 8
            · obtain ⟨b, off, vsk, ha2, hbl, hcs, hRk⟩ := (HR.out _ HBQ.out.2).spot hlt
              subst ha2
              have HRk := hRk
              obtain ⟨a0k, c0k, a1k, c1k, a2k, c2k, rfl, _⟩ := hRk
              have hc0 : wr.cell? ⟨b, off + k * 6, none⟩ = some (.string rules[k].name) := hcs 0 (by simp)
              have hc1 : wr.cell? ⟨b, off + k * 6 + 1, none⟩ = some (.int .i64 rules[k].kind) := hcs 1 (by simp)
              have hc2 : wr.cell? ⟨b, off + k * 6 + 2, none⟩ = some (.slice a0k rules[k].cols.length c0k) := hcs 2 (by simp)
              have hc3 : wr.cell? ⟨b, off + k * 6 + 3, none⟩ = some (.slice a1k rules[k].expr.length c1k) := hcs 3 (by simp)
              have hc4 : wr.cell? ⟨b, off + k * 6 + 4, none⟩ = some (.string rules[k].table) := hcs 4 (by simp)
              have hc5 : wr.cell? ⟨b, off + k * 6 + 5, none⟩ = some (.slice a2k rules[k].to.length c2k) := hcs 5 (by simp)
              have HK := Lib.hid HRk
              clear HRk hcs
              go_wp2_with fail
              refine (specRuleOk _ rules[k] _ HK.out (ZR.out _ (List.getElem_mem hlt)) _ rfl).mono ?_
              rintro e w2 ⟨rfl, hb2⟩
              have HB2 := Lib.hid (HBQ.out.call hb2)
              clear hb2 gwr_9 gwr_10
              cases he : ruleB rules[k] with
              | false =>
                have HV : Hid (v = false) := by unfold Hid; rw [← HVV.out]; exact parts_rule k hlt he
                clear he
                go_wp2_with fail
                go_ret
                exact ⟨by rw [HV.out] <;> rfl, HB2.out.2⟩
              | true =>
                have HE := Lib.hid he
                clear he
                go_wp2_with fail
                go_roundw
                case rel => exact ⟨k + 1, by omega, by go_num, fun m hm h1 => by
                  rcases Nat.lt_or_ge m k with h2 | h2
                  · exact hall.out m hm h2
                  · obtain rfl : m = k := by omega
                    exact HE.out, HB2⟩
                case measure => simp [intOf]; omega
            · have HV : Hid (v = false) := by unfold Hid; rw [← HVV.out]; exact parts_overR (by omega)
              have nR : ¬ ((rules.length : Nat) : Int) ≤ 8 := by omega
              go_wp2_with fail
              go_ret
              exact ⟨by rw [HV.out] <;> rfl, HBQ.out.2⟩
          · have hge : ¬ (k : Int) < (rules.length : Int) := by omega
            have hra : Hid (rules.all ruleB = true) := all_miss ruleB rules fun m hm => hall.out m hm (by omega)
            by_cases hR : ((rules.length : Nat) : Int) ≤ 8
            · have HV : Hid (v = decide (0 ≤ ((cols.length : Nat) : Int) + ((rules.length : Nat) : Int))) := by unfold Hid; rw [← HVV.out]; exact parts_end hC hR HCA.out hra.out
              have hsum : (cols.length : Int) + rules.length ≤ 1000 := by omega
              have hL : (0 : Int) ≤ ((cols.length : Nat) : Int) + ((rules.length : Nat) : Int) := by omega
              · have HV2 : Hid (v = true) := by unfold Hid; rw [HV.out]; exact decide_eq_true hL
                clear hra hall HCA
                go_wp2_with fail
                all_goals first | (exfalso; omega) | (exfalso; exact absurd (List.eq_nil_of_length_eq_zero (show rules.length = 0 by omega)) (by assumption)) | (exfalso; exact absurd (List.eq_nil_of_length_eq_zero (show cols.length = 0 by omega)) (by assumption)) | skip
                go_ret
                exact ⟨by rw [HV2.out] <;> first | rfl | (show Ending.returned (.bool (decide ((1 : Int) ≤ ((rules.length : Nat) : Int)))) = Ending.returned (.bool true); rw [hL2]), HBQ.out.2⟩
            · have HV : Hid (v = false) := by unfold Hid; rw [← HVV.out]; exact parts_overR (by omega)
              have nR : ¬ ((rules.length : Nat) : Int) ≤ 8 := by omega
              go_wp2_with fail
              go_ret
              exact ⟨by rw [HV.out] <;> rfl, HBQ.out.2⟩
      · have hCk := Lib.hid hC
        clear hall HCA hC
        go_wp2_with fail
        clear gwr_9 gwr_10
        go_loopw [7] (fun i wq => ∃ k : Nat, k ≤ rules.length ∧ i = .int .i64 k ∧ Hid (∀ m (hm : m < rules.length), m < k → ruleB rules[m] = true) ∧ Hid (BoxV w [.int .i64 4, .string name, .string on, .slice a0 list.length c0, .int .i64 num, .bool flag, .int .i64 ty.kind, .int .i64 ty.len, .string ty.name, .slice a1 cols.length c1, .slice a2 rules.length c2, .slice a3 exprs.length c3] wq)) (fun i _ => rules.length - (intOf i).toNat)
        case atStart => exact ⟨0, Nat.zero_le _, rfl, fun m h hm => absurd hm (by omega), HBX⟩
        case round =>
          obtain ⟨k, hk, rfl, hall, HBQ⟩ := hrel
          have gwr_9 : wr.cell? ⟨w.heap.size, 9, none⟩ = some (.slice a1 cols.length c1) := (HBQ.out.1.2 9 (by simp)).1
          have gwr_10 : wr.cell? ⟨w.heap.size, 10, none⟩ = some (.slice a2 rules.length c2) := (HBQ.out.1.2 10 (by simp)).1
          by_cases hlt : k < rules.length
          · have hltI : (k : Int) < (rules.length : Int) := by omega
            by_cases hle : (k : Int) ≤ 8
            · obtain ⟨b, off, vsk, ha2, hbl, hcs, hRk⟩ := (HR.out _ HBQ.out.2).spot hlt
              subst ha2
              have HRk := hRk
              obtain ⟨a0k, c0k, a1k, c1k, a2k, c2k, rfl, _⟩ := hRk
              have hc0 : wr.cell? ⟨b, off + k * 6, none⟩ = some (.string rules[k].name) := hcs 0 (by simp)
              have hc1 : wr.cell? ⟨b, off + k * 6 + 1, none⟩ = some (.int .i64 rules[k].kind) := hcs 1 (by simp)
              have hc2 : wr.cell? ⟨b, off + k * 6 + 2, none⟩ = some (.slice a0k rules[k].cols.length c0k) := hcs 2 (by simp)
              have hc3 : wr.cell? ⟨b, off + k * 6 + 3, none⟩ = some (.slice a1k rules[k].expr.length c1k) := hcs 3 (by simp)
              have hc4 : wr.cell? ⟨b, off + k * 6 + 4, none⟩ = some (.string rules[k].table) := hcs 4 (by simp)
              have hc5 : wr.cell? ⟨b, off + k * 6 + 5, none⟩ = some (.slice a2k rules[k].to.length c2k) := hcs 5 (by simp)
              have HK := Lib.hid HRk
              clear HRk hcs
              go_wp2_with fail
              refine (specRuleOk _ rules[k] _ HK.out (ZR.out _ (List.getElem_mem hlt)) _ rfl).mono ?_
              rintro e w2 ⟨rfl, hb2⟩
              have HB2 := Lib.hid (HBQ.out.call hb2)
              clear hb2 gwr_9 gwr_10
              cases he : ruleB rules[k] with
              | false =>
                have HV : Hid (v = false) := by unfold Hid; rw [← HVV.out]; exact parts_rule k hlt he
                clear he
                go_wp2_with fail
                go_ret
                exact ⟨by rw [HV.out] <;> rfl, HB2.out.2⟩
              | true =>
                have HE := Lib.hid he
                clear he
                go_wp2_with fail
                go_roundw
                case rel => exact ⟨k + 1, by omega, by go_num, fun m hm h1 => by
                  rcases Nat.lt_or_ge m k with h2 | h2
                  · exact hall.out m hm h2
                  · obtain rfl : m = k := by omega
                    exact HE.out, HB2⟩
                case measure => simp [intOf]; omega
            · have HV : Hid (v = false) := by unfold Hid; rw [← HVV.out]; exact parts_overC (by have := hCk.out; omega)
              have nC : ¬ ((cols.length : Nat) : Int) ≤ 12 := by have := hCk.out; omega
              go_wp2_with fail
              go_ret
              exact ⟨by rw [HV.out] <;> rfl, HBQ.out.2⟩
          · have hge : ¬ (k : Int) < (rules.length : Int) := by omega
            have HV : Hid (v = false) := by unfold Hid; rw [← HVV.out]; exact parts_overC (by have := hCk.out; omega)
            have nC : ¬ ((cols.length : Nat) : Int) ≤ 12 := by have := hCk.out; omega
            go_wp2_with fail
            go_ret
            exact ⟨by rw [HV.out] <;> rfl, HBQ.out.2⟩

set_option maxRecDepth 100000 in
set_option maxHeartbeats 8000000 in
theorem specParts_6 (name on : ByteArray) (list : List ByteArray) (num : Int) (flag : Bool) (ty : Ty) (cols : List Co) (rules : List Ru) (exprs : List Ex) (a0 a1 a2 a3 : Option Addr) (c0 c1 c2 c3 : Nat) (w : World) (h1 : Sl 6 RCo 0 w a1 c1 cols) (h2 : Sl 6 RRu 0 w a2 c2 rules) (zc : ∀ x ∈ cols, x.wt ≤ 1048576) (zr : ∀ x ∈ rules, x.wt ≤ 1048576) (v : Bool) (hv : partsB 1 0 1 cols rules = v) :
    Calls Tryz.prog 89 #[.agg #[.int .i64 6, .string name, .string on, .slice a0 list.length c0, .int .i64 num, .bool flag, .int .i64 ty.kind, .int .i64 ty.len, .string ty.name, .slice a1 cols.length c1, .slice a2 rules.length c2, .slice a3 exprs.length c3]] w fun e w' => e = .returned (.bool v) ∧ Below w.heap.size w w' := by
  have lc := h1.len
  have lr := h2.len
  have HC := Lib.hid (fun w' (hb : Below w.heap.size w w') => h1.kept goodCo (Kept.below hb))
  have HR := Lib.hid (fun w' (hb : Below w.heap.size w w') => h2.kept goodRu (Kept.below hb))
  have ZC := Lib.hid zc
  have ZR := Lib.hid zr
  have HVV := Lib.hid hv
  have HB := Lib.hid (boxV_new w [.int .i64 6, .string name, .string on, .slice a0 list.length c0, .int .i64 num, .bool flag, .int .i64 ty.kind, .int .i64 ty.len, .string ty.name, .slice a1 cols.length c1, .slice a2 rules.length c2, .slice a3 exprs.length c3] 55)
  clear h1 h2 zc zr hv
  go_enter Tryz.func89, Tryz.ntmps89
  go_wp2_with fail
  go_loopw [6] (fun i wr => ∃ k : Nat, k ≤ cols.length ∧ i = .int .i64 k ∧ Hid (∀ m (hm : m < cols.length), m < k → colB cols[m] = true) ∧ Hid (BoxV w [.int .i64 6, .string name, .string on, .slice a0 list.length c0, .int .i64 num, .bool flag, .int .i64 ty.kind, .int .i64 ty.len, .string ty.name, .slice a1 cols.length c1, .slice a2 rules.length c2, .slice a3 exprs.length c3] wr)) (fun i _ => cols.length - (intOf i).toNat)
  case atStart => exact ⟨0, Nat.zero_le _, rfl, fun m h hm => absurd hm (by omega), HB⟩
  case round =>
    obtain ⟨k, hk, rfl, hall, HBX⟩ := hrel
    have gwr_9 : wr.cell? ⟨w.heap.size, 9, none⟩ = some (.slice a1 cols.length c1) := (HBX.out.1.2 9 (by simp)).1
    have gwr_10 : wr.cell? ⟨w.heap.size, 10, none⟩ = some (.slice a2 rules.length c2) := (HBX.out.1.2 10 (by simp)).1
    by_cases hlt : k < cols.length
    · have hltI : (k : Int) < (cols.length : Int) := by omega
      by_cases hle : (k : Int) ≤ 1
      · obtain ⟨b, off, vsk, ha1, hbl, hcs, hRk⟩ := (HC.out _ HBX.out.2).spot hlt
        subst ha1
        have HRk := hRk
        obtain ⟨a0k, c0k, rfl, _⟩ := hRk
        have hc0 : wr.cell? ⟨b, off + k * 6, none⟩ = some (.string cols[k].name) := hcs 0 (by simp)
        have hc1 : wr.cell? ⟨b, off + k * 6 + 1, none⟩ = some (.int .i64 cols[k].ty.kind) := hcs 1 (by simp)
        have hc2 : wr.cell? ⟨b, off + k * 6 + 2, none⟩ = some (.int .i64 cols[k].ty.len) := hcs 2 (by simp)
        have hc3 : wr.cell? ⟨b, off + k * 6 + 3, none⟩ = some (.string cols[k].ty.name) := hcs 3 (by simp)
        have hc4 : wr.cell? ⟨b, off + k * 6 + 4, none⟩ = some (.bool cols[k].notNull) := hcs 4 (by simp)
        have hc5 : wr.cell? ⟨b, off + k * 6 + 5, none⟩ = some (.slice a0k cols[k].dflt.length c0k) := hcs 5 (by simp)
        have HK := Lib.hid HRk
        clear HRk hcs
        go_wp2_with fail
        refine (specColOk _ cols[k] _ HK.out (ZC.out _ (List.getElem_mem hlt)) _ rfl).mono ?_
        rintro e w2 ⟨rfl, hb2⟩
        have HB2 := Lib.hid (HBX.out.call hb2)
        clear hb2 gwr_9 gwr_10
        cases he : colB cols[k] with
        | false =>
          have HV : Hid (v = false) := by unfold Hid; rw [← HVV.out]; exact parts_col k hlt he
          clear he
          go_wp2_with fail
          go_ret
          exact ⟨by rw [HV.out] <;> rfl, HB2.out.2⟩
        | true =>
          have HE := Lib.hid he
          clear he
          go_wp2_with fail
          go_roundw
          case rel => exact ⟨k + 1, by omega, by go_num, fun m hm h1 => by
            rcases Nat.lt_or_ge m k with h2 | h2
            · exact hall.out m hm h2
            · obtain rfl : m = k := by omega
              exact HE.out, HB2⟩
          case measure => simp [intOf]; omega
      · have hCk := Lib.hid (show ¬ ((cols.length : Nat) : Int) ≤ 1 by omega)
        clear hall
        go_wp2_with fail
        clear gwr_9 gwr_10
        go_loopw [7] (fun i wq => ∃ k : Nat, k ≤ rules.length ∧ i = .int .i64 k ∧ Hid (∀ m (hm : m < rules.length), m < k → ruleB rules[m] = true) ∧ Hid (BoxV w [.int .i64 6, .string name, .string on, .slice a0 list.length c0, .int .i64 num, .bool flag, .int .i64 ty.kind, .int .i64 ty.len, .string ty.name, .slice a1 cols.length c1, .slice a2 rules.length c2, .slice a3 exprs.length c3] wq)) (fun i _ => rules.length - (intOf i).toNat)
        case atStart => exact ⟨0, Nat.zero_le _, rfl, fun m h hm => absurd hm (by omega), HBX⟩
        case round =>
          obtain ⟨k, hk, rfl, hall, HBQ⟩ := hrel
          have gwr_9 : wr.cell? ⟨w.heap.size, 9, none⟩ = some (.slice a1 cols.length c1) := (HBQ.out.1.2 9 (by simp)).1
          have gwr_10 : wr.cell? ⟨w.heap.size, 10, none⟩ = some (.slice a2 rules.length c2) := (HBQ.out.1.2 10 (by simp)).1
          by_cases hlt : k < rules.length
          · have hltI : (k : Int) < (rules.length : Int) := by omega
            by_cases hle : k = 0
            · subst hle
              obtain ⟨b, off, vsk, ha2, hbl, hcs, hRk⟩ := (HR.out _ HBQ.out.2).spot hlt
              subst ha2
              have HRk := hRk
              obtain ⟨a0k, c0k, a1k, c1k, a2k, c2k, rfl, _⟩ := hRk
              have hc0 : wr.cell? ⟨b, off, none⟩ = some (.string rules[0].name) := by have := hcs 0 (by simp); simpa using this
              have hc1 : wr.cell? ⟨b, off + 1, none⟩ = some (.int .i64 rules[0].kind) := by have := hcs 1 (by simp); simpa using this
              have hc2 : wr.cell? ⟨b, off + 2, none⟩ = some (.slice a0k rules[0].cols.length c0k) := by have := hcs 2 (by simp); simpa using this
              have hc3 : wr.cell? ⟨b, off + 3, none⟩ = some (.slice a1k rules[0].expr.length c1k) := by have := hcs 3 (by simp); simpa using this
              have hc4 : wr.cell? ⟨b, off + 4, none⟩ = some (.string rules[0].table) := by have := hcs 4 (by simp); simpa using this
              have hc5 : wr.cell? ⟨b, off + 5, none⟩ = some (.slice a2k rules[0].to.length c2k) := by have := hcs 5 (by simp); simpa using this
              have HK := Lib.hid HRk
              clear HRk hcs
              go_wp2_with fail
              refine (specRuleOk _ rules[0] _ HK.out (ZR.out _ (List.getElem_mem hlt)) _ rfl).mono ?_
              rintro e w2 ⟨rfl, hb2⟩
              have HB2 := Lib.hid (HBQ.out.call hb2)
              clear hb2 gwr_9 gwr_10
              cases he : ruleB rules[0] with
              | false =>
                have HV : Hid (v = false) := by unfold Hid; rw [← HVV.out]; exact parts_rule 0 hlt he
                clear he
                go_wp2_with fail
                go_ret
                exact ⟨by rw [HV.out] <;> rfl, HB2.out.2⟩
              | true =>
                have HE := Lib.hid he
                clear he
                go_wp2_with fail
                go_roundw
                case rel => exact ⟨0 + 1, by omega, by go_num, fun m hm h1 => by
                  rcases Nat.lt_or_ge m 0 with h2 | h2
                  · exact hall.out m hm h2
                  · obtain rfl : m = 0 := by omega
                    exact HE.out, HB2⟩
                case measure => simp [intOf]; omega
            · have HV : Hid (v = false) := by unfold Hid; rw [← HVV.out]; exact parts_overC (by have := hCk.out; omega)
              have nC : ¬ ((cols.length : Nat) : Int) ≤ 1 := by have := hCk.out; omega
              go_wp2_with fail
              all_goals first | (exfalso; omega) | (exfalso; exact absurd (List.eq_nil_of_length_eq_zero (show rules.length = 0 by omega)) (by assumption)) | (exfalso; exact absurd (List.eq_nil_of_length_eq_zero (show cols.length = 0 by omega)) (by assumption)) | skip
              go_ret
              exact ⟨by rw [HV.out] <;> rfl, HBQ.out.2⟩
          · have hge : ¬ (k : Int) < (rules.length : Int) := by omega
            have HV : Hid (v = false) := by unfold Hid; rw [← HVV.out]; exact parts_overC (by have := hCk.out; omega)
            have nC : ¬ ((cols.length : Nat) : Int) ≤ 1 := by have := hCk.out; omega
            go_wp2_with fail
            all_goals first | (exfalso; omega) | (exfalso; exact absurd (List.eq_nil_of_length_eq_zero (show rules.length = 0 by omega)) (by assumption)) | (exfalso; exact absurd (List.eq_nil_of_length_eq_zero (show cols.length = 0 by omega)) (by assumption)) | skip
            go_ret
            exact ⟨by rw [HV.out] <;> rfl, HBQ.out.2⟩
    · have hge : ¬ (k : Int) < (cols.length : Int) := by omega
      have HCA : Hid (cols.all colB = true) := all_miss colB cols fun m hm => hall.out m hm (by omega)
      by_cases hC : ((cols.length : Nat) : Int) ≤ 1
      · clear hall
        go_wp2_with fail
        clear gwr_9 gwr_10
        go_loopw [7] (fun i wq => ∃ k : Nat, k ≤ rules.length ∧ i = .int .i64 k ∧ Hid (∀ m (hm : m < rules.length), m < k → ruleB rules[m] = true) ∧ Hid (BoxV w [.int .i64 6, .string name, .string on, .slice a0 list.length c0, .int .i64 num, .bool flag, .int .i64 ty.kind, .int .i64 ty.len, .string ty.name, .slice a1 cols.length c1, .slice a2 rules.length c2, .slice a3 exprs.length c3] wq)) (fun i _ => rules.length - (intOf i).toNat)
        case atStart => exact ⟨0, Nat.zero_le _, rfl, fun m h hm => absurd hm (by omega), HBX⟩
        case round =>
          obtain ⟨k, hk, rfl, hall, HBQ⟩ := hrel
          have gwr_9 : wr.cell? ⟨w.heap.size, 9, none⟩ = some (.slice a1 cols.length c1) := (HBQ.out.1.2 9 (by simp)).1
          have gwr_10 : wr.cell? ⟨w.heap.size, 10, none⟩ = some (.slice a2 rules.length c2) := (HBQ.out.1.2 10 (by simp)).1
          by_cases hlt : k < rules.length
          · have hltI : (k : Int) < (rules.length : Int) := by omega
            by_cases hle : k = 0
            · subst hle
              obtain ⟨b, off, vsk, ha2, hbl, hcs, hRk⟩ := (HR.out _ HBQ.out.2).spot hlt
              subst ha2
              have HRk := hRk
              obtain ⟨a0k, c0k, a1k, c1k, a2k, c2k, rfl, _⟩ := hRk
              have hc0 : wr.cell? ⟨b, off, none⟩ = some (.string rules[0].name) := by have := hcs 0 (by simp); simpa using this
              have hc1 : wr.cell? ⟨b, off + 1, none⟩ = some (.int .i64 rules[0].kind) := by have := hcs 1 (by simp); simpa using this
              have hc2 : wr.cell? ⟨b, off + 2, none⟩ = some (.slice a0k rules[0].cols.length c0k) := by have := hcs 2 (by simp); simpa using this
              have hc3 : wr.cell? ⟨b, off + 3, none⟩ = some (.slice a1k rules[0].expr.length c1k) := by have := hcs 3 (by simp); simpa using this
              have hc4 : wr.cell? ⟨b, off + 4, none⟩ = some (.string rules[0].table) := by have := hcs 4 (by simp); simpa using this
              have hc5 : wr.cell? ⟨b, off + 5, none⟩ = some (.slice a2k rules[0].to.length c2k) := by have := hcs 5 (by simp); simpa using this
              have HK := Lib.hid HRk
              clear HRk hcs
              go_wp2_with fail
              refine (specRuleOk _ rules[0] _ HK.out (ZR.out _ (List.getElem_mem hlt)) _ rfl).mono ?_
              rintro e w2 ⟨rfl, hb2⟩
              have HB2 := Lib.hid (HBQ.out.call hb2)
              clear hb2 gwr_9 gwr_10
              cases he : ruleB rules[0] with
              | false =>
                have HV : Hid (v = false) := by unfold Hid; rw [← HVV.out]; exact parts_rule 0 hlt he
                clear he
                go_wp2_with fail
                go_ret
                exact ⟨by rw [HV.out] <;> rfl, HB2.out.2⟩
              | true =>
                have HE := Lib.hid he
                clear he
                go_wp2_with fail
                go_roundw
                case rel => exact ⟨0 + 1, by omega, by go_num, fun m hm h1 => by
                  rcases Nat.lt_or_ge m 0 with h2 | h2
                  · exact hall.out m hm h2
                  · obtain rfl : m = 0 := by omega
                    exact HE.out, HB2⟩
                case measure => simp [intOf]; omega
            · have HV : Hid (v = false) := by unfold Hid; rw [← HVV.out]; exact parts_overR (by omega)
              have nR : ¬ ((rules.length : Nat) : Int) ≤ 0 := by omega
              have nR0 : ¬ rules.length = 0 := by omega
              have nR1 : decide (rules.length = 0) = false := decide_eq_false nR0
              have nR2 : ¬ rules = [] := fun e => nR0 (by rw [e]; rfl)
              go_wp2_with fail
              go_ret
              exact ⟨by rw [HV.out] <;> rfl, HBQ.out.2⟩
          · have hge : ¬ (k : Int) < (rules.length : Int) := by omega
            have hra : Hid (rules.all ruleB = true) := all_miss ruleB rules fun m hm => hall.out m hm (by omega)
            by_cases hR : ((rules.length : Nat) : Int) ≤ 0
            · have HV : Hid (v = decide (1 ≤ ((cols.length : Nat) : Int) + ((rules.length : Nat) : Int))) := by unfold Hid; rw [← HVV.out]; exact parts_end hC hR HCA.out hra.out
              have hsum : (cols.length : Int) + rules.length ≤ 1000 := by omega
              by_cases hL : (1 : Int) ≤ ((cols.length : Nat) : Int) + ((rules.length : Nat) : Int)
              · have HV2 : Hid (v = true) := by unfold Hid; rw [HV.out]; exact decide_eq_true hL
                have hL2 : decide ((1 : Int) ≤ ((cols.length : Nat) : Int)) = true := by simp; omega
                clear hra hall HCA
                go_wp2_with fail
                all_goals first | (exfalso; omega) | (exfalso; exact absurd (List.eq_nil_of_length_eq_zero (show rules.length = 0 by omega)) (by assumption)) | (exfalso; exact absurd (List.eq_nil_of_length_eq_zero (show cols.length = 0 by omega)) (by assumption)) | skip
                go_ret
                exact ⟨by rw [HV2.out] <;> first | rfl | (show Ending.returned (.bool (decide ((1 : Int) ≤ ((cols.length : Nat) : Int)))) = Ending.returned (.bool true); rw [hL2]), HBQ.out.2⟩
              · have HV2 : Hid (v = false) := by unfold Hid; rw [HV.out]; exact decide_eq_false hL
                have hL2 : decide ((1 : Int) ≤ ((cols.length : Nat) : Int)) = false := by simp; omega
                clear hra hall HCA
                go_wp2_with fail
                all_goals first | (exfalso; omega) | (exfalso; exact absurd (List.eq_nil_of_length_eq_zero (show rules.length = 0 by omega)) (by assumption)) | (exfalso; exact absurd (List.eq_nil_of_length_eq_zero (show cols.length = 0 by omega)) (by assumption)) | skip
                go_ret
                exact ⟨by rw [HV2.out] <;> first | rfl | (show Ending.returned (.bool (decide ((1 : Int) ≤ ((cols.length : Nat) : Int)))) = Ending.returned (.bool false); rw [hL2]), HBQ.out.2⟩
            · have HV : Hid (v = false) := by unfold Hid; rw [← HVV.out]; exact parts_overR (by omega)
              have nR : ¬ ((rules.length : Nat) : Int) ≤ 0 := by omega
              have nR0 : ¬ rules.length = 0 := by omega
              have nR1 : decide (rules.length = 0) = false := decide_eq_false nR0
              have nR2 : ¬ rules = [] := fun e => nR0 (by rw [e]; rfl)
              go_wp2_with fail
              go_ret
              exact ⟨by rw [HV.out] <;> rfl, HBQ.out.2⟩
      · have hCk := Lib.hid hC
        clear hall HCA hC
        go_wp2_with fail
        clear gwr_9 gwr_10
        go_loopw [7] (fun i wq => ∃ k : Nat, k ≤ rules.length ∧ i = .int .i64 k ∧ Hid (∀ m (hm : m < rules.length), m < k → ruleB rules[m] = true) ∧ Hid (BoxV w [.int .i64 6, .string name, .string on, .slice a0 list.length c0, .int .i64 num, .bool flag, .int .i64 ty.kind, .int .i64 ty.len, .string ty.name, .slice a1 cols.length c1, .slice a2 rules.length c2, .slice a3 exprs.length c3] wq)) (fun i _ => rules.length - (intOf i).toNat)
        case atStart => exact ⟨0, Nat.zero_le _, rfl, fun m h hm => absurd hm (by omega), HBX⟩
        case round =>
          obtain ⟨k, hk, rfl, hall, HBQ⟩ := hrel
          have gwr_9 : wr.cell? ⟨w.heap.size, 9, none⟩ = some (.slice a1 cols.length c1) := (HBQ.out.1.2 9 (by simp)).1
          have gwr_10 : wr.cell? ⟨w.heap.size, 10, none⟩ = some (.slice a2 rules.length c2) := (HBQ.out.1.2 10 (by simp)).1
          by_cases hlt : k < rules.length
          · have hltI : (k : Int) < (rules.length : Int) := by omega
            by_cases hle : k = 0
            · subst hle
              obtain ⟨b, off, vsk, ha2, hbl, hcs, hRk⟩ := (HR.out _ HBQ.out.2).spot hlt
              subst ha2
              have HRk := hRk
              obtain ⟨a0k, c0k, a1k, c1k, a2k, c2k, rfl, _⟩ := hRk
              have hc0 : wr.cell? ⟨b, off, none⟩ = some (.string rules[0].name) := by have := hcs 0 (by simp); simpa using this
              have hc1 : wr.cell? ⟨b, off + 1, none⟩ = some (.int .i64 rules[0].kind) := by have := hcs 1 (by simp); simpa using this
              have hc2 : wr.cell? ⟨b, off + 2, none⟩ = some (.slice a0k rules[0].cols.length c0k) := by have := hcs 2 (by simp); simpa using this
              have hc3 : wr.cell? ⟨b, off + 3, none⟩ = some (.slice a1k rules[0].expr.length c1k) := by have := hcs 3 (by simp); simpa using this
              have hc4 : wr.cell? ⟨b, off + 4, none⟩ = some (.string rules[0].table) := by have := hcs 4 (by simp); simpa using this
              have hc5 : wr.cell? ⟨b, off + 5, none⟩ = some (.slice a2k rules[0].to.length c2k) := by have := hcs 5 (by simp); simpa using this
              have HK := Lib.hid HRk
              clear HRk hcs
              go_wp2_with fail
              refine (specRuleOk _ rules[0] _ HK.out (ZR.out _ (List.getElem_mem hlt)) _ rfl).mono ?_
              rintro e w2 ⟨rfl, hb2⟩
              have HB2 := Lib.hid (HBQ.out.call hb2)
              clear hb2 gwr_9 gwr_10
              cases he : ruleB rules[0] with
              | false =>
                have HV : Hid (v = false) := by unfold Hid; rw [← HVV.out]; exact parts_rule 0 hlt he
                clear he
                go_wp2_with fail
                go_ret
                exact ⟨by rw [HV.out] <;> rfl, HB2.out.2⟩
              | true =>
                have HE := Lib.hid he
                clear he
                go_wp2_with fail
                go_roundw
                case rel => exact ⟨0 + 1, by omega, by go_num, fun m hm h1 => by
                  rcases Nat.lt_or_ge m 0 with h2 | h2
                  · exact hall.out m hm h2
                  · obtain rfl : m = 0 := by omega
                    exact HE.out, HB2⟩
                case measure => simp [intOf]; omega
            · have HV : Hid (v = false) := by unfold Hid; rw [← HVV.out]; exact parts_overC (by have := hCk.out; omega)
              have nC : ¬ ((cols.length : Nat) : Int) ≤ 1 := by have := hCk.out; omega
              go_wp2_with fail
              all_goals first | (exfalso; omega) | (exfalso; exact absurd (List.eq_nil_of_length_eq_zero (show rules.length = 0 by omega)) (by assumption)) | (exfalso; exact absurd (List.eq_nil_of_length_eq_zero (show cols.length = 0 by omega)) (by assumption)) | skip
              go_ret
              exact ⟨by rw [HV.out] <;> rfl, HBQ.out.2⟩
          · have hge : ¬ (k : Int) < (rules.length : Int) := by omega
            have HV : Hid (v = false) := by unfold Hid; rw [← HVV.out]; exact parts_overC (by have := hCk.out; omega)
            have nC : ¬ ((cols.length : Nat) : Int) ≤ 1 := by have := hCk.out; omega
            go_wp2_with fail
            all_goals first | (exfalso; omega) | (exfalso; exact absurd (List.eq_nil_of_length_eq_zero (show rules.length = 0 by omega)) (by assumption)) | (exfalso; exact absurd (List.eq_nil_of_length_eq_zero (show cols.length = 0 by omega)) (by assumption)) | skip
            go_ret
            exact ⟨by rw [HV.out] <;> rfl, HBQ.out.2⟩

set_option maxRecDepth 100000 in
set_option maxHeartbeats 8000000 in
theorem specParts_11 (name on : ByteArray) (list : List ByteArray) (num : Int) (flag : Bool) (ty : Ty) (cols : List Co) (rules : List Ru) (exprs : List Ex) (a0 a1 a2 a3 : Option Addr) (c0 c1 c2 c3 : Nat) (w : World) (h1 : Sl 6 RCo 0 w a1 c1 cols) (h2 : Sl 6 RRu 0 w a2 c2 rules) (zc : ∀ x ∈ cols, x.wt ≤ 1048576) (zr : ∀ x ∈ rules, x.wt ≤ 1048576) (v : Bool) (hv : partsB 0 1 1 cols rules = v) :
    Calls Tryz.prog 89 #[.agg #[.int .i64 11, .string name, .string on, .slice a0 list.length c0, .int .i64 num, .bool flag, .int .i64 ty.kind, .int .i64 ty.len, .string ty.name, .slice a1 cols.length c1, .slice a2 rules.length c2, .slice a3 exprs.length c3]] w fun e w' => e = .returned (.bool v) ∧ Below w.heap.size w w' := by
  have lc := h1.len
  have lr := h2.len
  have HC := Lib.hid (fun w' (hb : Below w.heap.size w w') => h1.kept goodCo (Kept.below hb))
  have HR := Lib.hid (fun w' (hb : Below w.heap.size w w') => h2.kept goodRu (Kept.below hb))
  have ZC := Lib.hid zc
  have ZR := Lib.hid zr
  have HVV := Lib.hid hv
  have HB := Lib.hid (boxV_new w [.int .i64 11, .string name, .string on, .slice a0 list.length c0, .int .i64 num, .bool flag, .int .i64 ty.kind, .int .i64 ty.len, .string ty.name, .slice a1 cols.length c1, .slice a2 rules.length c2, .slice a3 exprs.length c3] 55)
  clear h1 h2 zc zr hv
  go_enter Tryz.func89, Tryz.ntmps89
  go_wp2_with fail
  go_loopw [6] (fun i wr => ∃ k : Nat, k ≤ cols.length ∧ i = .int .i64 k ∧ Hid (∀ m (hm : m < cols.length), m < k → colB cols[m] = true) ∧ Hid (BoxV w [.int .i64 11, .string name, .string on, .slice a0 list.length c0, .int .i64 num, .bool flag, .int .i64 ty.kind, .int .i64 ty.len, .string ty.name, .slice a1 cols.length c1, .slice a2 rules.length c2, .slice a3 exprs.length c3] wr)) (fun i _ => cols.length - (intOf i).toNat)
  case atStart => exact ⟨0, Nat.zero_le _, rfl, fun m h hm => absurd hm (by omega), HB⟩
  case round =>
    obtain ⟨k, hk, rfl, hall, HBX⟩ := hrel
    have gwr_9 : wr.cell? ⟨w.heap.size, 9, none⟩ = some (.slice a1 cols.length c1) := (HBX.out.1.2 9 (by simp)).1
    have gwr_10 : wr.cell? ⟨w.heap.size, 10, none⟩ = some (.slice a2 rules.length c2) := (HBX.out.1.2 10 (by simp)).1
    by_cases hlt : k < cols.length
    · have hltI : (k : Int) < (cols.length : Int) := by omega
      by_cases hle : k = 0
      · subst hle
        obtain ⟨b, off, vsk, ha1, hbl, hcs, hRk⟩ := (HC.out _ HBX.out.2).spot hlt
        subst ha1
        have HRk := hRk
        obtain ⟨a0k, c0k, rfl, _⟩ := hRk
        have hc0 : wr.cell? ⟨b, off, none⟩ = some (.string cols[0].name) := by have := hcs 0 (by simp); simpa using this
        have hc1 : wr.cell? ⟨b, off + 1, none⟩ = some (.int .i64 cols[0].ty.kind) := by have := hcs 1 (by simp); simpa using this
        have hc2 : wr.cell? ⟨b, off + 2, none⟩ = some (.int .i64 cols[0].ty.len) := by have := hcs 2 (by simp); simpa using this
        have hc3 : wr.cell? ⟨b, off + 3, none⟩ = some (.string cols[0].ty.name) := by have := hcs 3 (by simp); simpa using this
        have hc4 : wr.cell? ⟨b, off + 4, none⟩ = some (.bool cols[0].notNull) := by have := hcs 4 (by simp); simpa using this
        have hc5 : wr.cell? ⟨b, off + 5, none⟩ = some (.slice a0k cols[0].dflt.length c0k) := by have := hcs 5 (by simp); simpa using this
        have HK := Lib.hid HRk
        clear HRk hcs
        go_wp2_with fail
        refine (specColOk _ cols[0] _ HK.out (ZC.out _ (List.getElem_mem hlt)) _ rfl).mono ?_
        rintro e w2 ⟨rfl, hb2⟩
        have HB2 := Lib.hid (HBX.out.call hb2)
        clear hb2 gwr_9 gwr_10
        cases he : colB cols[0] with
        | false =>
          have HV : Hid (v = false) := by unfold Hid; rw [← HVV.out]; exact parts_col 0 hlt he
          clear he
          go_wp2_with fail
          go_ret
          exact ⟨by rw [HV.out] <;> rfl, HB2.out.2⟩
        | true =>
          have HE := Lib.hid he
          clear he
          go_wp2_with fail
          go_roundw
          case rel => exact ⟨0 + 1, by omega, by go_num, fun m hm h1 => by
            rcases Nat.lt_or_ge m 0 with h2 | h2
            · exact hall.out m hm h2
            · obtain rfl : m = 0 := by omega
              exact HE.out, HB2⟩
          case measure => simp [intOf]; omega
      · have hCk := Lib.hid (show ¬ ((cols.length : Nat) : Int) ≤ 0 by omega)
        clear hall
        go_wp2_with fail
        clear gwr_9 gwr_10
        go_loopw [7] (fun i wq => ∃ k : Nat, k ≤ rules.length ∧ i = .int .i64 k ∧ Hid (∀ m (hm : m < rules.length), m < k → ruleB rules[m] = true) ∧ Hid (BoxV w [.int .i64 11, .string name, .string on, .slice a0 list.length c0, .int .i64 num, .bool flag, .int .i64 ty.kind, .int .i64 ty.len, .string ty.name, .slice a1 cols.length c1, .slice a2 rules.length c2, .slice a3 exprs.length c3] wq)) (fun i _ => rules.length - (intOf i).toNat)
        case atStart => exact ⟨0, Nat.zero_le _, rfl, fun m h hm => absurd hm (by omega), HBX⟩
        case round =>
          obtain ⟨k, hk, rfl, hall, HBQ⟩ := hrel
          have gwr_9 : wr.cell? ⟨w.heap.size, 9, none⟩ = some (.slice a1 cols.length c1) := (HBQ.out.1.2 9 (by simp)).1
          have gwr_10 : wr.cell? ⟨w.heap.size, 10, none⟩ = some (.slice a2 rules.length c2) := (HBQ.out.1.2 10 (by simp)).1
          by_cases hlt : k < rules.length
          · have hltI : (k : Int) < (rules.length : Int) := by omega
            by_cases hle : (k : Int) ≤ 1
            · obtain ⟨b, off, vsk, ha2, hbl, hcs, hRk⟩ := (HR.out _ HBQ.out.2).spot hlt
              subst ha2
              have HRk := hRk
              obtain ⟨a0k, c0k, a1k, c1k, a2k, c2k, rfl, _⟩ := hRk
              have hc0 : wr.cell? ⟨b, off + k * 6, none⟩ = some (.string rules[k].name) := hcs 0 (by simp)
              have hc1 : wr.cell? ⟨b, off + k * 6 + 1, none⟩ = some (.int .i64 rules[k].kind) := hcs 1 (by simp)
              have hc2 : wr.cell? ⟨b, off + k * 6 + 2, none⟩ = some (.slice a0k rules[k].cols.length c0k) := hcs 2 (by simp)
              have hc3 : wr.cell? ⟨b, off + k * 6 + 3, none⟩ = some (.slice a1k rules[k].expr.length c1k) := hcs 3 (by simp)
              have hc4 : wr.cell? ⟨b, off + k * 6 + 4, none⟩ = some (.string rules[k].table) := hcs 4 (by simp)
              have hc5 : wr.cell? ⟨b, off + k * 6 + 5, none⟩ = some (.slice a2k rules[k].to.length c2k) := hcs 5 (by simp)
              have HK := Lib.hid HRk
              clear HRk hcs
              go_wp2_with fail
              refine (specRuleOk _ rules[k] _ HK.out (ZR.out _ (List.getElem_mem hlt)) _ rfl).mono ?_
              rintro e w2 ⟨rfl, hb2⟩
              have HB2 := Lib.hid (HBQ.out.call hb2)
              clear hb2 gwr_9 gwr_10
              cases he : ruleB rules[k] with
              | false =>
                have HV : Hid (v = false) := by unfold Hid; rw [← HVV.out]; exact parts_rule k hlt he
                clear he
                go_wp2_with fail
                go_ret
                exact ⟨by rw [HV.out] <;> rfl, HB2.out.2⟩
              | true =>
                have HE := Lib.hid he
                clear he
                go_wp2_with fail
                go_roundw
                case rel => exact ⟨k + 1, by omega, by go_num, fun m hm h1 => by
                  rcases Nat.lt_or_ge m k with h2 | h2
                  · exact hall.out m hm h2
                  · obtain rfl : m = k := by omega
                    exact HE.out, HB2⟩
                case measure => simp [intOf]; omega
            · have HV : Hid (v = false) := by unfold Hid; rw [← HVV.out]; exact parts_overC (by have := hCk.out; omega)
              have nC : ¬ ((cols.length : Nat) : Int) ≤ 0 := by have := hCk.out; omega
              have nC0 : ¬ cols.length = 0 := by omega
              have nC1 : decide (cols.length = 0) = false := decide_eq_false nC0
              have nC2 : ¬ cols = [] := fun e => nC0 (by rw [e]; rfl)
              go_wp2_with fail
              go_ret
              exact ⟨by rw [HV.out] <;> rfl, HBQ.out.2⟩
          · have hge : ¬ (k : Int) < (rules.length : Int) := by omega
            have HV : Hid (v = false) := by unfold Hid; rw [← HVV.out]; exact parts_overC (by have := hCk.out; omega)
            have nC : ¬ ((cols.length : Nat) : Int) ≤ 0 := by have := hCk.out; omega
            have nC0 : ¬ cols.length = 0 := by omega
            have nC1 : decide (cols.length = 0) = false := decide_eq_false nC0
            have nC2 : ¬ cols = [] := fun e => nC0 (by rw [e]; rfl)
            go_wp2_with fail
            go_ret
            exact ⟨by rw [HV.out] <;> rfl, HBQ.out.2⟩
    · have hge : ¬ (k : Int) < (cols.length : Int) := by omega
      have HCA : Hid (cols.all colB = true) := all_miss colB cols fun m hm => hall.out m hm (by omega)
      by_cases hC : ((cols.length : Nat) : Int) ≤ 0
      · clear hall
        go_wp2_with fail
        clear gwr_9 gwr_10
        go_loopw [7] (fun i wq => ∃ k : Nat, k ≤ rules.length ∧ i = .int .i64 k ∧ Hid (∀ m (hm : m < rules.length), m < k → ruleB rules[m] = true) ∧ Hid (BoxV w [.int .i64 11, .string name, .string on, .slice a0 list.length c0, .int .i64 num, .bool flag, .int .i64 ty.kind, .int .i64 ty.len, .string ty.name, .slice a1 cols.length c1, .slice a2 rules.length c2, .slice a3 exprs.length c3] wq)) (fun i _ => rules.length - (intOf i).toNat)
        case atStart => exact ⟨0, Nat.zero_le _, rfl, fun m h hm => absurd hm (by omega), HBX⟩
        case round =>
          obtain ⟨k, hk, rfl, hall, HBQ⟩ := hrel
          have gwr_9 : wr.cell? ⟨w.heap.size, 9, none⟩ = some (.slice a1 cols.length c1) := (HBQ.out.1.2 9 (by simp)).1
          have gwr_10 : wr.cell? ⟨w.heap.size, 10, none⟩ = some (.slice a2 rules.length c2) := (HBQ.out.1.2 10 (by simp)).1
          by_cases hlt : k < rules.length
          · have hltI : (k : Int) < (rules.length : Int) := by omega
            by_cases hle : (k : Int) ≤ 1
            · obtain ⟨b, off, vsk, ha2, hbl, hcs, hRk⟩ := (HR.out _ HBQ.out.2).spot hlt
              subst ha2
              have HRk := hRk
              obtain ⟨a0k, c0k, a1k, c1k, a2k, c2k, rfl, _⟩ := hRk
              have hc0 : wr.cell? ⟨b, off + k * 6, none⟩ = some (.string rules[k].name) := hcs 0 (by simp)
              have hc1 : wr.cell? ⟨b, off + k * 6 + 1, none⟩ = some (.int .i64 rules[k].kind) := hcs 1 (by simp)
              have hc2 : wr.cell? ⟨b, off + k * 6 + 2, none⟩ = some (.slice a0k rules[k].cols.length c0k) := hcs 2 (by simp)
              have hc3 : wr.cell? ⟨b, off + k * 6 + 3, none⟩ = some (.slice a1k rules[k].expr.length c1k) := hcs 3 (by simp)
              have hc4 : wr.cell? ⟨b, off + k * 6 + 4, none⟩ = some (.string rules[k].table) := hcs 4 (by simp)
              have hc5 : wr.cell? ⟨b, off + k * 6 + 5, none⟩ = some (.slice a2k rules[k].to.length c2k) := hcs 5 (by simp)
              have HK := Lib.hid HRk
              clear HRk hcs
              go_wp2_with fail
              refine (specRuleOk _ rules[k] _ HK.out (ZR.out _ (List.getElem_mem hlt)) _ rfl).mono ?_
              rintro e w2 ⟨rfl, hb2⟩
              have HB2 := Lib.hid (HBQ.out.call hb2)
              clear hb2 gwr_9 gwr_10
              cases he : ruleB rules[k] with
              | false =>
                have HV : Hid (v = false) := by unfold Hid; rw [← HVV.out]; exact parts_rule k hlt he
                clear he
                go_wp2_with fail
                go_ret
                exact ⟨by rw [HV.out] <;> rfl, HB2.out.2⟩
              | true =>
                have HE := Lib.hid he
                clear he
                go_wp2_with fail
                go_roundw
                case rel => exact ⟨k + 1, by omega, by go_num, fun m hm h1 => by
                  rcases Nat.lt_or_ge m k with h2 | h2
                  · exact hall.out m hm h2
                  · obtain rfl : m = k := by omega
                    exact HE.out, HB2⟩
                case measure => simp [intOf]; omega
            · have HV : Hid (v = false) := by unfold Hid; rw [← HVV.out]; exact parts_overR (by omega)
              have nR : ¬ ((rules.length : Nat) : Int) ≤ 1 := by omega
              go_wp2_with fail
              all_goals first | (exfalso; omega) | (exfalso; exact absurd (List.eq_nil_of_length_eq_zero (show rules.length = 0 by omega)) (by assumption)) | (exfalso; exact absurd (List.eq_nil_of_length_eq_zero (show cols.length = 0 by omega)) (by assumption)) | skip
              go_ret
              exact ⟨by rw [HV.out] <;> rfl, HBQ.out.2⟩
          · have hge : ¬ (k : Int) < (rules.length : Int) := by omega
            have hra : Hid (rules.all ruleB = true) := all_miss ruleB rules fun m hm => hall.out m hm (by omega)
            by_cases hR : ((rules.length : Nat) : Int) ≤ 1
            · have HV : Hid (v = decide (1 ≤ ((cols.length : Nat) : Int) + ((rules.length : Nat) : Int))) := by unfold Hid; rw [← HVV.out]; exact parts_end hC hR HCA.out hra.out
              have hsum : (cols.length : Int) + rules.length ≤ 1000 := by omega
              by_cases hL : (1 : Int) ≤ ((cols.length : Nat) : Int) + ((rules.length : Nat) : Int)
              · have HV2 : Hid (v = true) := by unfold Hid; rw [HV.out]; exact decide_eq_true hL
                have hL2 : decide ((1 : Int) ≤ ((rules.length : Nat) : Int)) = true := by simp; omega
                clear hra hall HCA
                go_wp2_with fail
                all_goals first | (exfalso; omega) | (exfalso; exact absurd (List.eq_nil_of_length_eq_zero (show rules.length = 0 by omega)) (by assumption)) | (exfalso; exact absurd (List.eq_nil_of_length_eq_zero (show cols.length = 0 by omega)) (by assumption)) | skip
                go_ret
                exact ⟨by rw [HV2.out] <;> first | rfl | (show Ending.returned (.bool (decide ((1 : Int) ≤ ((rules.length : Nat) : Int)))) = Ending.returned (.bool true); rw [hL2]), HBQ.out.2⟩
              · have HV2 : Hid (v = false) := by unfold Hid; rw [HV.out]; exact decide_eq_false hL
                have hL2 : decide ((1 : Int) ≤ ((rules.length : Nat) : Int)) = false := by simp; omega
                clear hra hall HCA
                go_wp2_with fail
                all_goals first | (exfalso; omega) | (exfalso; exact absurd (List.eq_nil_of_length_eq_zero (show rules.length = 0 by omega)) (by assumption)) | (exfalso; exact absurd (List.eq_nil_of_length_eq_zero (show cols.length = 0 by omega)) (by assumption)) | skip
                go_ret
                exact ⟨by rw [HV2.out] <;> first | rfl | (show Ending.returned (.bool (decide ((1 : Int) ≤ ((rules.length : Nat) : Int)))) = Ending.returned (.bool false); rw [hL2]), HBQ.out.2⟩
            · have HV : Hid (v = false) := by unfold Hid; rw [← HVV.out]; exact parts_overR (by omega)
              have nR : ¬ ((rules.length : Nat) : Int) ≤ 1 := by omega
              go_wp2_with fail
              all_goals first | (exfalso; omega) | (exfalso; exact absurd (List.eq_nil_of_length_eq_zero (show rules.length = 0 by omega)) (by assumption)) | (exfalso; exact absurd (List.eq_nil_of_length_eq_zero (show cols.length = 0 by omega)) (by assumption)) | skip
              go_ret
              exact ⟨by rw [HV.out] <;> rfl, HBQ.out.2⟩
      · have hCk := Lib.hid hC
        clear hall HCA hC
        go_wp2_with fail
        clear gwr_9 gwr_10
        go_loopw [7] (fun i wq => ∃ k : Nat, k ≤ rules.length ∧ i = .int .i64 k ∧ Hid (∀ m (hm : m < rules.length), m < k → ruleB rules[m] = true) ∧ Hid (BoxV w [.int .i64 11, .string name, .string on, .slice a0 list.length c0, .int .i64 num, .bool flag, .int .i64 ty.kind, .int .i64 ty.len, .string ty.name, .slice a1 cols.length c1, .slice a2 rules.length c2, .slice a3 exprs.length c3] wq)) (fun i _ => rules.length - (intOf i).toNat)
        case atStart => exact ⟨0, Nat.zero_le _, rfl, fun m h hm => absurd hm (by omega), HBX⟩
        case round =>
          obtain ⟨k, hk, rfl, hall, HBQ⟩ := hrel
          have gwr_9 : wr.cell? ⟨w.heap.size, 9, none⟩ = some (.slice a1 cols.length c1) := (HBQ.out.1.2 9 (by simp)).1
          have gwr_10 : wr.cell? ⟨w.heap.size, 10, none⟩ = some (.slice a2 rules.length c2) := (HBQ.out.1.2 10 (by simp)).1
          by_cases hlt : k < rules.length
          · have hltI : (k : Int) < (rules.length : Int) := by omega
            by_cases hle : (k : Int) ≤ 1
            · obtain ⟨b, off, vsk, ha2, hbl, hcs, hRk⟩ := (HR.out _ HBQ.out.2).spot hlt
              subst ha2
              have HRk := hRk
              obtain ⟨a0k, c0k, a1k, c1k, a2k, c2k, rfl, _⟩ := hRk
              have hc0 : wr.cell? ⟨b, off + k * 6, none⟩ = some (.string rules[k].name) := hcs 0 (by simp)
              have hc1 : wr.cell? ⟨b, off + k * 6 + 1, none⟩ = some (.int .i64 rules[k].kind) := hcs 1 (by simp)
              have hc2 : wr.cell? ⟨b, off + k * 6 + 2, none⟩ = some (.slice a0k rules[k].cols.length c0k) := hcs 2 (by simp)
              have hc3 : wr.cell? ⟨b, off + k * 6 + 3, none⟩ = some (.slice a1k rules[k].expr.length c1k) := hcs 3 (by simp)
              have hc4 : wr.cell? ⟨b, off + k * 6 + 4, none⟩ = some (.string rules[k].table) := hcs 4 (by simp)
              have hc5 : wr.cell? ⟨b, off + k * 6 + 5, none⟩ = some (.slice a2k rules[k].to.length c2k) := hcs 5 (by simp)
              have HK := Lib.hid HRk
              clear HRk hcs
              go_wp2_with fail
              refine (specRuleOk _ rules[k] _ HK.out (ZR.out _ (List.getElem_mem hlt)) _ rfl).mono ?_
              rintro e w2 ⟨rfl, hb2⟩
              have HB2 := Lib.hid (HBQ.out.call hb2)
              clear hb2 gwr_9 gwr_10
              cases he : ruleB rules[k] with
              | false =>
                have HV : Hid (v = false) := by unfold Hid; rw [← HVV.out]; exact parts_rule k hlt he
                clear he
                go_wp2_with fail
                go_ret
                exact ⟨by rw [HV.out] <;> rfl, HB2.out.2⟩
              | true =>
                have HE := Lib.hid he
                clear he
                go_wp2_with fail
                go_roundw
                case rel => exact ⟨k + 1, by omega, by go_num, fun m hm h1 => by
                  rcases Nat.lt_or_ge m k with h2 | h2
                  · exact hall.out m hm h2
                  · obtain rfl : m = k := by omega
                    exact HE.out, HB2⟩
                case measure => simp [intOf]; omega
            · have HV : Hid (v = false) := by unfold Hid; rw [← HVV.out]; exact parts_overC (by have := hCk.out; omega)
              have nC : ¬ ((cols.length : Nat) : Int) ≤ 0 := by have := hCk.out; omega
              have nC0 : ¬ cols.length = 0 := by omega
              have nC1 : decide (cols.length = 0) = false := decide_eq_false nC0
              have nC2 : ¬ cols = [] := fun e => nC0 (by rw [e]; rfl)
              go_wp2_with fail
              go_ret
              exact ⟨by rw [HV.out] <;> rfl, HBQ.out.2⟩
          · have hge : ¬ (k : Int) < (rules.length : Int) := by omega
            have HV : Hid (v = false) := by unfold Hid; rw [← HVV.out]; exact parts_overC (by have := hCk.out; omega)
            have nC : ¬ ((cols.length : Nat) : Int) ≤ 0 := by have := hCk.out; omega
            have nC0 : ¬ cols.length = 0 := by omega
            have nC1 : decide (cols.length = 0) = false := decide_eq_false nC0
            have nC2 : ¬ cols = [] := fun e => nC0 (by rw [e]; rfl)
            go_wp2_with fail
            go_ret
            exact ⟨by rw [HV.out] <;> rfl, HBQ.out.2⟩

set_option maxRecDepth 100000 in
set_option maxHeartbeats 8000000 in
theorem specParts_o (kind : Int) (name on : ByteArray) (list : List ByteArray) (num : Int) (flag : Bool) (ty : Ty) (cols : List Co) (rules : List Ru) (exprs : List Ex) (a0 a1 a2 a3 : Option Addr) (c0 c1 c2 c3 : Nat) (w : World) (k4 : (kind == 4) = false) (k6 : (kind == 6) = false) (k11 : (kind == 11) = false) (h1 : Sl 6 RCo 0 w a1 c1 cols) (h2 : Sl 6 RRu 0 w a2 c2 rules) (zc : ∀ x ∈ cols, x.wt ≤ 1048576) (zr : ∀ x ∈ rules, x.wt ≤ 1048576) (v : Bool) (hv : partsB 0 0 0 cols rules = v) :
    Calls Tryz.prog 89 #[.agg #[.int .i64 kind, .string name, .string on, .slice a0 list.length c0, .int .i64 num, .bool flag, .int .i64 ty.kind, .int .i64 ty.len, .string ty.name, .slice a1 cols.length c1, .slice a2 rules.length c2, .slice a3 exprs.length c3]] w fun e w' => e = .returned (.bool v) ∧ Below w.heap.size w w' := by
  have lc := h1.len
  have lr := h2.len
  have HC := Lib.hid (fun w' (hb : Below w.heap.size w w') => h1.kept goodCo (Kept.below hb))
  have HR := Lib.hid (fun w' (hb : Below w.heap.size w w') => h2.kept goodRu (Kept.below hb))
  have ZC := Lib.hid zc
  have ZR := Lib.hid zr
  have HVV := Lib.hid hv
  have HB := Lib.hid (boxV_new w [.int .i64 kind, .string name, .string on, .slice a0 list.length c0, .int .i64 num, .bool flag, .int .i64 ty.kind, .int .i64 ty.len, .string ty.name, .slice a1 cols.length c1, .slice a2 rules.length c2, .slice a3 exprs.length c3] 55)
  clear h1 h2 zc zr hv
  go_enter Tryz.func89, Tryz.ntmps89
  go_wp2_with fail
  go_loopw [6] (fun i wr => ∃ k : Nat, k ≤ cols.length ∧ i = .int .i64 k ∧ Hid (∀ m (hm : m < cols.length), m < k → colB cols[m] = true) ∧ Hid (BoxV w [.int .i64 kind, .string name, .string on, .slice a0 list.length c0, .int .i64 num, .bool flag, .int .i64 ty.kind, .int .i64 ty.len, .string ty.name, .slice a1 cols.length c1, .slice a2 rules.length c2, .slice a3 exprs.length c3] wr)) (fun i _ => cols.length - (intOf i).toNat)
  case atStart => exact ⟨0, Nat.zero_le _, rfl, fun m h hm => absurd hm (by omega), HB⟩
  case round =>
    obtain ⟨k, hk, rfl, hall, HBX⟩ := hrel
    have gwr_9 : wr.cell? ⟨w.heap.size, 9, none⟩ = some (.slice a1 cols.length c1) := (HBX.out.1.2 9 (by simp)).1
    have gwr_10 : wr.cell? ⟨w.heap.size, 10, none⟩ = some (.slice a2 rules.length c2) := (HBX.out.1.2 10 (by simp)).1
    by_cases hlt : k < cols.length
    · have hltI : (k : Int) < (cols.length : Int) := by omega
      by_cases hle : k = 0
      · subst hle
        obtain ⟨b, off, vsk, ha1, hbl, hcs, hRk⟩ := (HC.out _ HBX.out.2).spot hlt
        subst ha1
        have HRk := hRk
        obtain ⟨a0k, c0k, rfl, _⟩ := hRk
        have hc0 : wr.cell? ⟨b, off, none⟩ = some (.string cols[0].name) := by have := hcs 0 (by simp); simpa using this
        have hc1 : wr.cell? ⟨b, off + 1, none⟩ = some (.int .i64 cols[0].ty.kind) := by have := hcs 1 (by simp); simpa using this
        have hc2 : wr.cell? ⟨b, off + 2, none⟩ = some (.int .i64 cols[0].ty.len) := by have := hcs 2 (by simp); simpa using this
        have hc3 : wr.cell? ⟨b, off + 3, none⟩ = some (.string cols[0].ty.name) := by have := hcs 3 (by simp); simpa using this
        have hc4 : wr.cell? ⟨b, off + 4, none⟩ = some (.bool cols[0].notNull) := by have := hcs 4 (by simp); simpa using this
        have hc5 : wr.cell? ⟨b, off + 5, none⟩ = some (.slice a0k cols[0].dflt.length c0k) := by have := hcs 5 (by simp); simpa using this
        have HK := Lib.hid HRk
        clear HRk hcs
        go_wp2_with fail
        refine (specColOk _ cols[0] _ HK.out (ZC.out _ (List.getElem_mem hlt)) _ rfl).mono ?_
        rintro e w2 ⟨rfl, hb2⟩
        have HB2 := Lib.hid (HBX.out.call hb2)
        clear hb2 gwr_9 gwr_10
        cases he : colB cols[0] with
        | false =>
          have HV : Hid (v = false) := by unfold Hid; rw [← HVV.out]; exact parts_col 0 hlt he
          clear he
          go_wp2_with fail
          go_ret
          exact ⟨by rw [HV.out] <;> rfl, HB2.out.2⟩
        | true =>
          have HE := Lib.hid he
          clear he
          go_wp2_with fail
          go_roundw
          case rel => exact ⟨0 + 1, by omega, by go_num, fun m hm h1 => by
            rcases Nat.lt_or_ge m 0 with h2 | h2
            · exact hall.out m hm h2
            · obtain rfl : m = 0 := by omega
              exact HE.out, HB2⟩
          case measure => simp [intOf]; omega
      · have hCk := Lib.hid (show ¬ ((cols.length : Nat) : Int) ≤ 0 by omega)
        clear hall
        go_wp2_with fail
        clear gwr_9 gwr_10
        go_loopw [7] (fun i wq => ∃ k : Nat, k ≤ rules.length ∧ i = .int .i64 k ∧ Hid (∀ m (hm : m < rules.length), m < k → ruleB rules[m] = true) ∧ Hid (BoxV w [.int .i64 kind, .string name, .string on, .slice a0 list.length c0, .int .i64 num, .bool flag, .int .i64 ty.kind, .int .i64 ty.len, .string ty.name, .slice a1 cols.length c1, .slice a2 rules.length c2, .slice a3 exprs.length c3] wq)) (fun i _ => rules.length - (intOf i).toNat)
        case atStart => exact ⟨0, Nat.zero_le _, rfl, fun m h hm => absurd hm (by omega), HBX⟩
        case round =>
          obtain ⟨k, hk, rfl, hall, HBQ⟩ := hrel
          have gwr_9 : wr.cell? ⟨w.heap.size, 9, none⟩ = some (.slice a1 cols.length c1) := (HBQ.out.1.2 9 (by simp)).1
          have gwr_10 : wr.cell? ⟨w.heap.size, 10, none⟩ = some (.slice a2 rules.length c2) := (HBQ.out.1.2 10 (by simp)).1
          by_cases hlt : k < rules.length
          · have hltI : (k : Int) < (rules.length : Int) := by omega
            by_cases hle : k = 0
            · subst hle
              obtain ⟨b, off, vsk, ha2, hbl, hcs, hRk⟩ := (HR.out _ HBQ.out.2).spot hlt
              subst ha2
              have HRk := hRk
              obtain ⟨a0k, c0k, a1k, c1k, a2k, c2k, rfl, _⟩ := hRk
              have hc0 : wr.cell? ⟨b, off, none⟩ = some (.string rules[0].name) := by have := hcs 0 (by simp); simpa using this
              have hc1 : wr.cell? ⟨b, off + 1, none⟩ = some (.int .i64 rules[0].kind) := by have := hcs 1 (by simp); simpa using this
              have hc2 : wr.cell? ⟨b, off + 2, none⟩ = some (.slice a0k rules[0].cols.length c0k) := by have := hcs 2 (by simp); simpa using this
              have hc3 : wr.cell? ⟨b, off + 3, none⟩ = some (.slice a1k rules[0].expr.length c1k) := by have := hcs 3 (by simp); simpa using this
              have hc4 : wr.cell? ⟨b, off + 4, none⟩ = some (.string rules[0].table) := by have := hcs 4 (by simp); simpa using this
              have hc5 : wr.cell? ⟨b, off + 5, none⟩ = some (.slice a2k rules[0].to.length c2k) := by have := hcs 5 (by simp); simpa using this
              have HK := Lib.hid HRk
              clear HRk hcs
              go_wp2_with fail
              refine (specRuleOk _ rules[0] _ HK.out (ZR.out _ (List.getElem_mem hlt)) _ rfl).mono ?_
              rintro e w2 ⟨rfl, hb2⟩
              have HB2 := Lib.hid (HBQ.out.call hb2)
              clear hb2 gwr_9 gwr_10
              cases he : ruleB rules[0] with
              | false =>
                have HV : Hid (v = false) := by unfold Hid; rw [← HVV.out]; exact parts_rule 0 hlt he
                clear he
                go_wp2_with fail
                go_ret
                exact ⟨by rw [HV.out] <;> rfl, HB2.out.2⟩
              | true =>
                have HE := Lib.hid he
                clear he
                go_wp2_with fail
                go_roundw
                case rel => exact ⟨0 + 1, by omega, by go_num, fun m hm h1 => by
                  rcases Nat.lt_or_ge m 0 with h2 | h2
                  · exact hall.out m hm h2
                  · obtain rfl : m = 0 := by omega
                    exact HE.out, HB2⟩
                case measure => simp [intOf]; omega
            · have HV : Hid (v = false) := by unfold Hid; rw [← HVV.out]; exact parts_overC (by have := hCk.out; omega)
              have nC : ¬ ((cols.length : Nat) : Int) ≤ 0 := by have := hCk.out; omega
              have nC0 : ¬ cols.length = 0 := by omega
              have nC1 : decide (cols.length = 0) = false := decide_eq_false nC0
              have nC2 : ¬ cols = [] := fun e => nC0 (by rw [e]; rfl)
              go_wp2_with fail
              all_goals first | (exfalso; omega) | (exfalso; exact absurd (List.eq_nil_of_length_eq_zero (show rules.length = 0 by omega)) (by assumption)) | (exfalso; exact absurd (List.eq_nil_of_length_eq_zero (show cols.length = 0 by omega)) (by assumption)) | skip
              go_ret
              exact ⟨by rw [HV.out] <;> rfl, HBQ.out.2⟩
          · have hge : ¬ (k : Int) < (rules.length : Int) := by omega
            have HV : Hid (v = false) := by unfold Hid; rw [← HVV.out]; exact parts_overC (by have := hCk.out; omega)
            have nC : ¬ ((cols.length : Nat) : Int) ≤ 0 := by have := hCk.out; omega
            have nC0 : ¬ cols.length = 0 := by omega
            have nC1 : decide (cols.length = 0) = false := decide_eq_false nC0
            have nC2 : ¬ cols = [] := fun e => nC0 (by rw [e]; rfl)
            go_wp2_with fail
            all_goals first | (exfalso; omega) | (exfalso; exact absurd (List.eq_nil_of_length_eq_zero (show rules.length = 0 by omega)) (by assumption)) | (exfalso; exact absurd (List.eq_nil_of_length_eq_zero (show cols.length = 0 by omega)) (by assumption)) | skip
            go_ret
            exact ⟨by rw [HV.out] <;> rfl, HBQ.out.2⟩
    · have hge : ¬ (k : Int) < (cols.length : Int) := by omega
      have HCA : Hid (cols.all colB = true) := all_miss colB cols fun m hm => hall.out m hm (by omega)
      by_cases hC : ((cols.length : Nat) : Int) ≤ 0
      · clear hall
        go_wp2_with fail
        clear gwr_9 gwr_10
        go_loopw [7] (fun i wq => ∃ k : Nat, k ≤ rules.length ∧ i = .int .i64 k ∧ Hid (∀ m (hm : m < rules.length), m < k → ruleB rules[m] = true) ∧ Hid (BoxV w [.int .i64 kind, .string name, .string on, .slice a0 list.length c0, .int .i64 num, .bool flag, .int .i64 ty.kind, .int .i64 ty.len, .string ty.name, .slice a1 cols.length c1, .slice a2 rules.length c2, .slice a3 exprs.length c3] wq)) (fun i _ => rules.length - (intOf i).toNat)
        case atStart => exact ⟨0, Nat.zero_le _, rfl, fun m h hm => absurd hm (by omega), HBX⟩
        case round =>
          obtain ⟨k, hk, rfl, hall, HBQ⟩ := hrel
          have gwr_9 : wr.cell? ⟨w.heap.size, 9, none⟩ = some (.slice a1 cols.length c1) := (HBQ.out.1.2 9 (by simp)).1
          have gwr_10 : wr.cell? ⟨w.heap.size, 10, none⟩ = some (.slice a2 rules.length c2) := (HBQ.out.1.2 10 (by simp)).1
          by_cases hlt : k < rules.length
          · have hltI : (k : Int) < (rules.length : Int) := by omega
            by_cases hle : k = 0
            · subst hle
              obtain ⟨b, off, vsk, ha2, hbl, hcs, hRk⟩ := (HR.out _ HBQ.out.2).spot hlt
              subst ha2
              have HRk := hRk
              obtain ⟨a0k, c0k, a1k, c1k, a2k, c2k, rfl, _⟩ := hRk
              have hc0 : wr.cell? ⟨b, off, none⟩ = some (.string rules[0].name) := by have := hcs 0 (by simp); simpa using this
              have hc1 : wr.cell? ⟨b, off + 1, none⟩ = some (.int .i64 rules[0].kind) := by have := hcs 1 (by simp); simpa using this
              have hc2 : wr.cell? ⟨b, off + 2, none⟩ = some (.slice a0k rules[0].cols.length c0k) := by have := hcs 2 (by simp); simpa using this
              have hc3 : wr.cell? ⟨b, off + 3, none⟩ = some (.slice a1k rules[0].expr.length c1k) := by have := hcs 3 (by simp); simpa using this
              have hc4 : wr.cell? ⟨b, off + 4, none⟩ = some (.string rules[0].table) := by have := hcs 4 (by simp); simpa using this
              have hc5 : wr.cell? ⟨b, off + 5, none⟩ = some (.slice a2k rules[0].to.length c2k) := by have := hcs 5 (by simp); simpa using this
              have HK := Lib.hid HRk
              clear HRk hcs
              go_wp2_with fail
              refine (specRuleOk _ rules[0] _ HK.out (ZR.out _ (List.getElem_mem hlt)) _ rfl).mono ?_
              rintro e w2 ⟨rfl, hb2⟩
              have HB2 := Lib.hid (HBQ.out.call hb2)
              clear hb2 gwr_9 gwr_10
              cases he : ruleB rules[0] with
              | false =>
                have HV : Hid (v = false) := by unfold Hid; rw [← HVV.out]; exact parts_rule 0 hlt he
                clear he
                go_wp2_with fail
                go_ret
                exact ⟨by rw [HV.out] <;> rfl, HB2.out.2⟩
              | true =>
                have HE := Lib.hid he
                clear he
                go_wp2_with fail
                go_roundw
                case rel => exact ⟨0 + 1, by omega, by go_num, fun m hm h1 => by
                  rcases Nat.lt_or_ge m 0 with h2 | h2
                  · exact hall.out m hm h2
                  · obtain rfl : m = 0 := by omega
                    exact HE.out, HB2⟩
                case measure => simp [intOf]; omega
            · have HV : Hid (v = false) := by unfold Hid; rw [← HVV.out]; exact parts_overR (by omega)
              have nR : ¬ ((rules.length : Nat) : Int) ≤ 0 := by omega
              have nR0 : ¬ rules.length = 0 := by omega
              have nR1 : decide (rules.length = 0) = false := decide_eq_false nR0
              have nR2 : ¬ rules = [] := fun e => nR0 (by rw [e]; rfl)
              go_wp2_with fail
              all_goals first | (exfalso; omega) | (exfalso; exact absurd (List.eq_nil_of_length_eq_zero (show rules.length = 0 by omega)) (by assumption)) | (exfalso; exact absurd (List.eq_nil_of_length_eq_zero (show cols.length = 0 by omega)) (by assumption)) | skip
              go_ret
              exact ⟨by rw [HV.out] <;> rfl, HBQ.out.2⟩
          · have hge : ¬ (k : Int) < (rules.length : Int) := by omega
            have hra : Hid (rules.all ruleB = true) := all_miss ruleB rules fun m hm => hall.out m hm (by omega)
            by_cases hR : ((rules.length : Nat) : Int) ≤ 0
            · have HV : Hid (v = decide (0 ≤ ((cols.length : Nat) : Int) + ((rules.length : Nat) : Int))) := by unfold Hid; rw [← HVV.out]; exact parts_end hC hR HCA.out hra.out
              have hsum : (cols.length : Int) + rules.length ≤ 1000 := by omega
              have hL : (0 : Int) ≤ ((cols.length : Nat) : Int) + ((rules.length : Nat) : Int) := by omega
              · have HV2 : Hid (v = true) := by unfold Hid; rw [HV.out]; exact decide_eq_true hL
                clear hra hall HCA
                go_wp2_with fail
                all_goals first | (exfalso; omega) | (exfalso; exact absurd (List.eq_nil_of_length_eq_zero (show rules.length = 0 by omega)) (by assumption)) | (exfalso; exact absurd (List.eq_nil_of_length_eq_zero (show cols.length = 0 by omega)) (by assumption)) | skip
                go_ret
                exact ⟨by rw [HV2.out] <;> first | rfl | (show Ending.returned (.bool (decide ((1 : Int) ≤ ((cols.length : Nat) : Int)))) = Ending.returned (.bool true); rw [hL2]), HBQ.out.2⟩
            · have HV : Hid (v = false) := by unfold Hid; rw [← HVV.out]; exact parts_overR (by omega)
              have nR : ¬ ((rules.length : Nat) : Int) ≤ 0 := by omega
              have nR0 : ¬ rules.length = 0 := by omega
              have nR1 : decide (rules.length = 0) = false := decide_eq_false nR0
              have nR2 : ¬ rules = [] := fun e => nR0 (by rw [e]; rfl)
              go_wp2_with fail
              all_goals first | (exfalso; omega) | (exfalso; exact absurd (List.eq_nil_of_length_eq_zero (show rules.length = 0 by omega)) (by assumption)) | (exfalso; exact absurd (List.eq_nil_of_length_eq_zero (show cols.length = 0 by omega)) (by assumption)) | skip
              go_ret
              exact ⟨by rw [HV.out] <;> rfl, HBQ.out.2⟩
      · have hCk := Lib.hid hC
        clear hall HCA hC
        go_wp2_with fail
        clear gwr_9 gwr_10
        go_loopw [7] (fun i wq => ∃ k : Nat, k ≤ rules.length ∧ i = .int .i64 k ∧ Hid (∀ m (hm : m < rules.length), m < k → ruleB rules[m] = true) ∧ Hid (BoxV w [.int .i64 kind, .string name, .string on, .slice a0 list.length c0, .int .i64 num, .bool flag, .int .i64 ty.kind, .int .i64 ty.len, .string ty.name, .slice a1 cols.length c1, .slice a2 rules.length c2, .slice a3 exprs.length c3] wq)) (fun i _ => rules.length - (intOf i).toNat)
        case atStart => exact ⟨0, Nat.zero_le _, rfl, fun m h hm => absurd hm (by omega), HBX⟩
        case round =>
          obtain ⟨k, hk, rfl, hall, HBQ⟩ := hrel
          have gwr_9 : wr.cell? ⟨w.heap.size, 9, none⟩ = some (.slice a1 cols.length c1) := (HBQ.out.1.2 9 (by simp)).1
          have gwr_10 : wr.cell? ⟨w.heap.size, 10, none⟩ = some (.slice a2 rules.length c2) := (HBQ.out.1.2 10 (by simp)).1
          by_cases hlt : k < rules.length
          · have hltI : (k : Int) < (rules.length : Int) := by omega
            by_cases hle : k = 0
            · subst hle
              obtain ⟨b, off, vsk, ha2, hbl, hcs, hRk⟩ := (HR.out _ HBQ.out.2).spot hlt
              subst ha2
              have HRk := hRk
              obtain ⟨a0k, c0k, a1k, c1k, a2k, c2k, rfl, _⟩ := hRk
              have hc0 : wr.cell? ⟨b, off, none⟩ = some (.string rules[0].name) := by have := hcs 0 (by simp); simpa using this
              have hc1 : wr.cell? ⟨b, off + 1, none⟩ = some (.int .i64 rules[0].kind) := by have := hcs 1 (by simp); simpa using this
              have hc2 : wr.cell? ⟨b, off + 2, none⟩ = some (.slice a0k rules[0].cols.length c0k) := by have := hcs 2 (by simp); simpa using this
              have hc3 : wr.cell? ⟨b, off + 3, none⟩ = some (.slice a1k rules[0].expr.length c1k) := by have := hcs 3 (by simp); simpa using this
              have hc4 : wr.cell? ⟨b, off + 4, none⟩ = some (.string rules[0].table) := by have := hcs 4 (by simp); simpa using this
              have hc5 : wr.cell? ⟨b, off + 5, none⟩ = some (.slice a2k rules[0].to.length c2k) := by have := hcs 5 (by simp); simpa using this
              have HK := Lib.hid HRk
              clear HRk hcs
              go_wp2_with fail
              refine (specRuleOk _ rules[0] _ HK.out (ZR.out _ (List.getElem_mem hlt)) _ rfl).mono ?_
              rintro e w2 ⟨rfl, hb2⟩
              have HB2 := Lib.hid (HBQ.out.call hb2)
              clear hb2 gwr_9 gwr_10
              cases he : ruleB rules[0] with
              | false =>
                have HV : Hid (v = false) := by unfold Hid; rw [← HVV.out]; exact parts_rule 0 hlt he
                clear he
                go_wp2_with fail
                go_ret
                exact ⟨by rw [HV.out] <;> rfl, HB2.out.2⟩
              | true =>
                have HE := Lib.hid he
                clear he
                go_wp2_with fail
                go_roundw
                case rel => exact ⟨0 + 1, by omega, by go_num, fun m hm h1 => by
                  rcases Nat.lt_or_ge m 0 with h2 | h2
                  · exact hall.out m hm h2
                  · obtain rfl : m = 0 := by omega
                    exact HE.out, HB2⟩
                case measure => simp [intOf]; omega
            · have HV : Hid (v = false) := by unfold Hid; rw [← HVV.out]; exact parts_overC (by have := hCk.out; omega)
              have nC : ¬ ((cols.length : Nat) : Int) ≤ 0 := by have := hCk.out; omega
              have nC0 : ¬ cols.length = 0 := by omega
              have nC1 : decide (cols.length = 0) = false := decide_eq_false nC0
              have nC2 : ¬ cols = [] := fun e => nC0 (by rw [e]; rfl)
              go_wp2_with fail
              all_goals first | (exfalso; omega) | (exfalso; exact absurd (List.eq_nil_of_length_eq_zero (show rules.length = 0 by omega)) (by assumption)) | (exfalso; exact absurd (List.eq_nil_of_length_eq_zero (show cols.length = 0 by omega)) (by assumption)) | skip
              go_ret
              exact ⟨by rw [HV.out] <;> rfl, HBQ.out.2⟩
          · have hge : ¬ (k : Int) < (rules.length : Int) := by omega
            have HV : Hid (v = false) := by unfold Hid; rw [← HVV.out]; exact parts_overC (by have := hCk.out; omega)
            have nC : ¬ ((cols.length : Nat) : Int) ≤ 0 := by have := hCk.out; omega
            have nC0 : ¬ cols.length = 0 := by omega
            have nC1 : decide (cols.length = 0) = false := decide_eq_false nC0
            have nC2 : ¬ cols = [] := fun e => nC0 (by rw [e]; rfl)
            go_wp2_with fail
            all_goals first | (exfalso; omega) | (exfalso; exact absurd (List.eq_nil_of_length_eq_zero (show rules.length = 0 by omega)) (by assumption)) | (exfalso; exact absurd (List.eq_nil_of_length_eq_zero (show cols.length = 0 by omega)) (by assumption)) | skip
            go_ret
            exact ⟨by rw [HV.out] <;> rfl, HBQ.out.2⟩

end Go.Proofs.YtpdcmmhhgnackaaGreatDoor
