/- impl.namesWhere over tables, indexes, views. Written by tools/gen_use.py. -/
/- impl.TableUse. Written by tools/gen_useTI.py. -/
/- spec.Put answers a new list, the text put in at its place. -/
/- spec.EnumUse. Written by tools/gen_useS.py. -/
import Derived.Test.YtjjdcdnaonfnmaaGreatMUseT
import Derived.Test.YtjjdcdnaonfnmaaGreatMUseK3
import Derived.Test.YtjjdcdnaonfnmaaGreatMPut
import Derived.Test.YtjjdcdnaonfnmaaGreatMPlFind
import Derived.Test.YtjjdcdnaonfnmaaGreatMTyp2
import Derived.Deep.RegionHeld
import Derived.Test.YtjjdcdnaonfnmaaGreatMClone
namespace Go.Proofs.YtjjdcdnaonfnmaaGreat
open Go.RowKit

set_option maxRecDepth 100000 in
set_option maxHeartbeats 4000000 in
theorem nwTb (a : Option Addr) (c : Nat) (xs : List Tb) (w : World) (fr0 : Value) (fr1 : Value) (pred : Tb → Bool) (hx : Sl 4 RTb 0 w a c xs) (hn : xs.length ≤ 1048576)
    (HW : Hid (∀ (W : World) (vs : List Value) (x : Tb), Below w.heap.size w W → RTb 0 W vs x → Calls Tryz.prog 50 #[.agg vs.toArray, fr0, fr1] W fun e w' => e = .returned (.bool (pred x)) ∧ Below W.heap.size W w')) :
    Calls Tryz.prog 49 #[.slice a xs.length c, .func (.func 50) #[] #[fr0, fr1]] w (NewStrs w ((xs.filter pred).map Tb.name)) := by
  obtain ⟨i0, hi0, hz0, hz1, hz2⟩ := info_parts Tryz.infoString
  have hl := hx.len
  have HX := Lib.hid (fun w' (hb : Below w.heap.size w w') => hx.kept goodTb (Kept.below hb))
  have hm : ∀ (v : Value) (w : World), (method 323 55 v "loop.example/g00751/impl.ownName").run Tryz.prog w = .ok (158, v) w := fun _ _ => by kernel_rfl
  clear hx
  go_enter Tryz.func49, Tryz.ntmps49
  go_wp2_with fail
  go_loopw [5, 10] (fun o i wr => ∃ (k : Nat) (ys : List ByteArray) (a' : Option Addr) (c' : Nat), k ≤ xs.length ∧ i = .int .i64 k ∧ o = .slice a' ys.length c' ∧ ys.length ≤ k ∧ Hid (ys = ((xs.take k).filter pred).map Tb.name ∧ Own wr w.heap.size a' c' ys ∧ Below w.heap.size w wr)) (fun _ i _ => xs.length - (intOf i).toNat)
  case atStart => exact ⟨0, [], none, 0, Nat.zero_le _, rfl, rfl, Nat.le_refl _, rfl, Own.nil _ _, Below.refl _ _⟩
  case round =>
    obtain ⟨k, ys, a1, c1, hk, rfl, rfl, hyl, hS⟩ := hrel
    by_cases hlt : k < xs.length
    · obtain ⟨b, off, vs, rfl, hbl, hcs, hR⟩ := (HX.out _ hS.out.2.2).spot hlt
      have HR := hR
      obtain ⟨p0, q0, p1, q1, rfl, hfit, _⟩ := hR
      have hsm : xs[k].name.size ≤ maxLen := hfit.1
      have HK := Lib.hid HR
      obtain ⟨v, hv⟩ : ∃ v, pred xs[k] = v := ⟨_, rfl⟩
      have HWk := Lib.hid (fun (W : World) (vs : List Value) (hB : Below w.heap.size w W) (hRW : RTb 0 W vs (xs[k]'hlt)) => HW.out W vs (xs[k]'hlt) hB hRW)
      rw [hv] at HWk
      have HV := Lib.hid hv
      have hc0 : wr.cell? ⟨b, off + k * 4, none⟩ = some (.string xs[k].name) := hcs 0 (by simp)
      have hc1 : wr.cell? ⟨b, off + k * 4 + 1, none⟩ = some (.slice p0 xs[k].cols.length q0) := hcs 1 (by simp)
      have hc2 : wr.cell? ⟨b, off + k * 4 + 2, none⟩ = some (.slice p1 xs[k].rules.length q1) := hcs 2 (by simp)
      have hc3 : wr.cell? ⟨b, off + k * 4 + 3, none⟩ = some (.int .i64 xs[k].token) := hcs 3 (by simp)
      clear HR hcs hv
      go_wp2_with fail
      have hba : Below wr.heap.size wr (wr.alloc (.cells #[.string xs[k].name, .slice p0 xs[k].cols.length q0, .slice p1 xs[k].rules.length q1, .int .i64 xs[k].token] 55)) := (Below.refl _ _).alloc (Nat.le_refl _) _
      refine (HWk.out _ _ (hS.out.2.2.trans (hba.mono hS.out.2.2.size)) (goodTb.kept HK.out (Kept.below hba))).mono ?_
      rintro e w2 ⟨rfl, b2⟩
      have A2 := Lib.hid (show Blk w2 wr.heap.size [.string xs[k].name, .slice p0 xs[k].cols.length q0, .slice p1 xs[k].rules.length q1, .int .i64 xs[k].token] from Blk.call b2 (blk_new wr _ [.string xs[k].name, .slice p0 xs[k].cols.length q0, .slice p1 xs[k].rules.length q1, .int .i64 xs[k].token]))
      have HB2 := Lib.hid (hba.trans (b2.mono hba.size))
      clear b2 hba
      have g0 : w2.cell? ⟨wr.heap.size, 0, none⟩ = some (.string xs[k].name) := (A2.out.2 0 (by simp)).1
      have g1 : w2.cell? ⟨wr.heap.size, 1, none⟩ = some (.slice p0 xs[k].cols.length q0) := (A2.out.2 1 (by simp)).1
      have g2 : w2.cell? ⟨wr.heap.size, 2, none⟩ = some (.slice p1 xs[k].rules.length q1) := (A2.out.2 2 (by simp)).1
      have g3 : w2.cell? ⟨wr.heap.size, 3, none⟩ = some (.int .i64 xs[k].token) := (A2.out.2 3 (by simp)).1
      have HTK := Lib.hid (take_filter pred xs k hlt)
      cases v with
      | false =>
        have HE : Hid (((xs.take (k + 1)).filter pred).map Tb.name = ((xs.take k).filter pred).map Tb.name) := by unfold Hid; rw [HTK.out, if_neg (by rw [HV.out]; decide), List.append_nil]
        go_wp2_with fail
        go_roundw
        case rel => exact ⟨k + 1, ys, a1, c1, by omega, by go_num, rfl, by omega, by rw [HE.out]; exact hS.out.1, hS.out.2.1.below HB2.out, hS.out.2.2.trans (HB2.out.mono hS.out.2.2.size)⟩
        case measure => simp [intOf]; omega
      | true =>
        have HE : Hid (((xs.take (k + 1)).filter pred).map Tb.name = ((xs.take k).filter pred).map Tb.name ++ [xs[k].name]) := by unfold Hid; rw [HTK.out, if_pos HV.out, List.map_append]; rfl
        have HO := Lib.hid (fun W => ownTb _ xs[k] W ⟨0, _, HK.out⟩)
        go_wp2_with fail
        refine (HO.out w2).mono ?_
        rintro e w3 ⟨rfl, b3⟩
        have HB3 := Lib.hid (HB2.out.trans (b3.mono HB2.out.size))
        have HOW := Lib.hid (hS.out.2.1.below HB3.out)
        clear b3 g0 g1 g2 g3
        have hw3 : w.heap.size ≤ w3.heap.size := Nat.le_trans hS.out.2.2.size HB3.out.size
        go_wp2_with (at_builtin; refine wpAppendStrs rfl _ _ rfl i0 hi0 hz0 hz1 hz2 w.heap.size a1 c1 ys (some ⟨_, 0, none⟩) 1 [xs[k].name] rfl (HOW.out.alloc _) rfl (strsOne _ _ hsm) (by simp only [List.length_cons, List.length_nil]; omega) (by simp; omega) ?_; intro a9 c9 w9 hown9 hg9)
        have HN9 := Lib.hid (And.intro hown9 (appended (hS.out.2.2.trans (HB3.out.mono hS.out.2.2.size)) (Nat.le_refl _) HOW.out hg9))
        clear hown9 hg9
        go_wp2_with fail
        go_roundw
        case rel => exact ⟨k + 1, ys ++ [xs[k].name], a9, c9, by omega, by go_num, by simp, by simp; omega, by rw [HE.out, hS.out.1], HN9.out.1, HN9.out.2⟩
        case measure => simp [intOf]; omega
    · obtain rfl : k = xs.length := by omega
      go_wp2_with fail
      go_ret
      have h1 := hS.out.1
      rw [List.take_length] at h1
      subst h1
      exact ⟨a1, c1, rfl, hS.out.2.1, hS.out.2.2⟩

set_option maxRecDepth 100000 in
set_option maxHeartbeats 4000000 in
theorem nwIx (a : Option Addr) (c : Nat) (xs : List Ix) (w : World) (fr0 : Value) (pred : Ix → Bool) (hx : Sl 4 RIx 0 w a c xs) (hn : xs.length ≤ 1048576)
    (HW : Hid (∀ (W : World) (vs : List Value) (x : Ix), Below w.heap.size w W → RIx 0 W vs x → Calls Tryz.prog 53 #[.agg vs.toArray, fr0] W fun e w' => e = .returned (.bool (pred x)) ∧ Below W.heap.size W w')) :
    Calls Tryz.prog 52 #[.slice a xs.length c, .func (.func 53) #[] #[fr0]] w (NewStrs w ((xs.filter pred).map Ix.name)) := by
  obtain ⟨i0, hi0, hz0, hz1, hz2⟩ := info_parts Tryz.infoString
  have hl := hx.len
  have HX := Lib.hid (fun w' (hb : Below w.heap.size w w') => hx.kept goodIx (Kept.below hb))
  have hm : ∀ (v : Value) (w : World), (method 323 87 v "loop.example/g00751/impl.ownName").run Tryz.prog w = .ok (161, v) w := fun _ _ => by kernel_rfl
  clear hx
  go_enter Tryz.func52, Tryz.ntmps52
  go_wp2_with fail
  go_loopw [5, 10] (fun o i wr => ∃ (k : Nat) (ys : List ByteArray) (a' : Option Addr) (c' : Nat), k ≤ xs.length ∧ i = .int .i64 k ∧ o = .slice a' ys.length c' ∧ ys.length ≤ k ∧ Hid (ys = ((xs.take k).filter pred).map Ix.name ∧ Own wr w.heap.size a' c' ys ∧ Below w.heap.size w wr)) (fun _ i _ => xs.length - (intOf i).toNat)
  case atStart => exact ⟨0, [], none, 0, Nat.zero_le _, rfl, rfl, Nat.le_refl _, rfl, Own.nil _ _, Below.refl _ _⟩
  case round =>
    obtain ⟨k, ys, a1, c1, hk, rfl, rfl, hyl, hS⟩ := hrel
    by_cases hlt : k < xs.length
    · obtain ⟨b, off, vs, rfl, hbl, hcs, hR⟩ := (HX.out _ hS.out.2.2).spot hlt
      have HR := hR
      obtain ⟨p0, q0, rfl, hfit, _⟩ := hR
      have hsm : xs[k].name.size ≤ maxLen := hfit.1
      have HK := Lib.hid HR
      obtain ⟨v, hv⟩ : ∃ v, pred xs[k] = v := ⟨_, rfl⟩
      have HWk := Lib.hid (fun (W : World) (vs : List Value) (hB : Below w.heap.size w W) (hRW : RIx 0 W vs (xs[k]'hlt)) => HW.out W vs (xs[k]'hlt) hB hRW)
      rw [hv] at HWk
      have HV := Lib.hid hv
      have hc0 : wr.cell? ⟨b, off + k * 4, none⟩ = some (.string xs[k].name) := hcs 0 (by simp)
      have hc1 : wr.cell? ⟨b, off + k * 4 + 1, none⟩ = some (.string xs[k].table) := hcs 1 (by simp)
      have hc2 : wr.cell? ⟨b, off + k * 4 + 2, none⟩ = some (.slice p0 xs[k].cols.length q0) := hcs 2 (by simp)
      have hc3 : wr.cell? ⟨b, off + k * 4 + 3, none⟩ = some (.bool xs[k].uniq) := hcs 3 (by simp)
      clear HR hcs hv
      go_wp2_with fail
      have hba : Below wr.heap.size wr (wr.alloc (.cells #[.string xs[k].name, .string xs[k].table, .slice p0 xs[k].cols.length q0, .bool xs[k].uniq] 87)) := (Below.refl _ _).alloc (Nat.le_refl _) _
      refine (HWk.out _ _ (hS.out.2.2.trans (hba.mono hS.out.2.2.size)) (goodIx.kept HK.out (Kept.below hba))).mono ?_
      rintro e w2 ⟨rfl, b2⟩
      have A2 := Lib.hid (show Blk w2 wr.heap.size [.string xs[k].name, .string xs[k].table, .slice p0 xs[k].cols.length q0, .bool xs[k].uniq] from Blk.call b2 (blk_new wr _ [.string xs[k].name, .string xs[k].table, .slice p0 xs[k].cols.length q0, .bool xs[k].uniq]))
      have HB2 := Lib.hid (hba.trans (b2.mono hba.size))
      clear b2 hba
      have g0 : w2.cell? ⟨wr.heap.size, 0, none⟩ = some (.string xs[k].name) := (A2.out.2 0 (by simp)).1
      have g1 : w2.cell? ⟨wr.heap.size, 1, none⟩ = some (.string xs[k].table) := (A2.out.2 1 (by simp)).1
      have g2 : w2.cell? ⟨wr.heap.size, 2, none⟩ = some (.slice p0 xs[k].cols.length q0) := (A2.out.2 2 (by simp)).1
      have g3 : w2.cell? ⟨wr.heap.size, 3, none⟩ = some (.bool xs[k].uniq) := (A2.out.2 3 (by simp)).1
      have HTK := Lib.hid (take_filter pred xs k hlt)
      cases v with
      | false =>
        have HE : Hid (((xs.take (k + 1)).filter pred).map Ix.name = ((xs.take k).filter pred).map Ix.name) := by unfold Hid; rw [HTK.out, if_neg (by rw [HV.out]; decide), List.append_nil]
        go_wp2_with fail
        go_roundw
        case rel => exact ⟨k + 1, ys, a1, c1, by omega, by go_num, rfl, by omega, by rw [HE.out]; exact hS.out.1, hS.out.2.1.below HB2.out, hS.out.2.2.trans (HB2.out.mono hS.out.2.2.size)⟩
        case measure => simp [intOf]; omega
      | true =>
        have HE : Hid (((xs.take (k + 1)).filter pred).map Ix.name = ((xs.take k).filter pred).map Ix.name ++ [xs[k].name]) := by unfold Hid; rw [HTK.out, if_pos HV.out, List.map_append]; rfl
        have HO := Lib.hid (fun W => ownIx _ xs[k] W ⟨0, _, HK.out⟩)
        go_wp2_with fail
        refine (HO.out w2).mono ?_
        rintro e w3 ⟨rfl, b3⟩
        have HB3 := Lib.hid (HB2.out.trans (b3.mono HB2.out.size))
        have HOW := Lib.hid (hS.out.2.1.below HB3.out)
        clear b3 g0 g1 g2 g3
        have hw3 : w.heap.size ≤ w3.heap.size := Nat.le_trans hS.out.2.2.size HB3.out.size
        go_wp2_with (at_builtin; refine wpAppendStrs rfl _ _ rfl i0 hi0 hz0 hz1 hz2 w.heap.size a1 c1 ys (some ⟨_, 0, none⟩) 1 [xs[k].name] rfl (HOW.out.alloc _) rfl (strsOne _ _ hsm) (by simp only [List.length_cons, List.length_nil]; omega) (by simp; omega) ?_; intro a9 c9 w9 hown9 hg9)
        have HN9 := Lib.hid (And.intro hown9 (appended (hS.out.2.2.trans (HB3.out.mono hS.out.2.2.size)) (Nat.le_refl _) HOW.out hg9))
        clear hown9 hg9
        go_wp2_with fail
        go_roundw
        case rel => exact ⟨k + 1, ys ++ [xs[k].name], a9, c9, by omega, by go_num, by simp, by simp; omega, by rw [HE.out, hS.out.1], HN9.out.1, HN9.out.2⟩
        case measure => simp [intOf]; omega
    · obtain rfl : k = xs.length := by omega
      go_wp2_with fail
      go_ret
      have h1 := hS.out.1
      rw [List.take_length] at h1
      subst h1
      exact ⟨a1, c1, rfl, hS.out.2.1, hS.out.2.2⟩

set_option maxRecDepth 100000 in
set_option maxHeartbeats 4000000 in
theorem nwVw (a : Option Addr) (c : Nat) (xs : List Vw) (w : World) (fr0 : Value) (pred : Vw → Bool) (hx : Sl 4 RVw 0 w a c xs) (hn : xs.length ≤ 1048576)
    (HW : Hid (∀ (W : World) (vs : List Value) (x : Vw), Below w.heap.size w W → RVw 0 W vs x → Calls Tryz.prog 55 #[.agg vs.toArray, fr0] W fun e w' => e = .returned (.bool (pred x)) ∧ Below W.heap.size W w')) :
    Calls Tryz.prog 54 #[.slice a xs.length c, .func (.func 55) #[] #[fr0]] w (NewStrs w ((xs.filter pred).map Vw.name)) := by
  obtain ⟨i0, hi0, hz0, hz1, hz2⟩ := info_parts Tryz.infoString
  have hl := hx.len
  have HX := Lib.hid (fun w' (hb : Below w.heap.size w w') => hx.kept goodVw (Kept.below hb))
  have hm : ∀ (v : Value) (w : World), (method 323 89 v "loop.example/g00751/impl.ownName").run Tryz.prog w = .ok (162, v) w := fun _ _ => by kernel_rfl
  clear hx
  go_enter Tryz.func54, Tryz.ntmps54
  go_wp2_with fail
  go_loopw [5, 10] (fun o i wr => ∃ (k : Nat) (ys : List ByteArray) (a' : Option Addr) (c' : Nat), k ≤ xs.length ∧ i = .int .i64 k ∧ o = .slice a' ys.length c' ∧ ys.length ≤ k ∧ Hid (ys = ((xs.take k).filter pred).map Vw.name ∧ Own wr w.heap.size a' c' ys ∧ Below w.heap.size w wr)) (fun _ i _ => xs.length - (intOf i).toNat)
  case atStart => exact ⟨0, [], none, 0, Nat.zero_le _, rfl, rfl, Nat.le_refl _, rfl, Own.nil _ _, Below.refl _ _⟩
  case round =>
    obtain ⟨k, ys, a1, c1, hk, rfl, rfl, hyl, hS⟩ := hrel
    by_cases hlt : k < xs.length
    · obtain ⟨b, off, vs, rfl, hbl, hcs, hR⟩ := (HX.out _ hS.out.2.2).spot hlt
      have HR := hR
      obtain ⟨p0, q0, p1, q1, rfl, hfit, _⟩ := hR
      have hsm : xs[k].name.size ≤ maxLen := hfit.1
      have HK := Lib.hid HR
      obtain ⟨v, hv⟩ : ∃ v, pred xs[k] = v := ⟨_, rfl⟩
      have HWk := Lib.hid (fun (W : World) (vs : List Value) (hB : Below w.heap.size w W) (hRW : RVw 0 W vs (xs[k]'hlt)) => HW.out W vs (xs[k]'hlt) hB hRW)
      rw [hv] at HWk
      have HV := Lib.hid hv
      have hc0 : wr.cell? ⟨b, off + k * 4, none⟩ = some (.string xs[k].name) := hcs 0 (by simp)
      have hc1 : wr.cell? ⟨b, off + k * 4 + 1, none⟩ = some (.string xs[k].table) := hcs 1 (by simp)
      have hc2 : wr.cell? ⟨b, off + k * 4 + 2, none⟩ = some (.slice p0 xs[k].cols.length q0) := hcs 2 (by simp)
      have hc3 : wr.cell? ⟨b, off + k * 4 + 3, none⟩ = some (.slice p1 xs[k].whr.length q1) := hcs 3 (by simp)
      clear HR hcs hv
      go_wp2_with fail
      have hba : Below wr.heap.size wr (wr.alloc (.cells #[.string xs[k].name, .string xs[k].table, .slice p0 xs[k].cols.length q0, .slice p1 xs[k].whr.length q1] 89)) := (Below.refl _ _).alloc (Nat.le_refl _) _
      refine (HWk.out _ _ (hS.out.2.2.trans (hba.mono hS.out.2.2.size)) (goodVw.kept HK.out (Kept.below hba))).mono ?_
      rintro e w2 ⟨rfl, b2⟩
      have A2 := Lib.hid (show Blk w2 wr.heap.size [.string xs[k].name, .string xs[k].table, .slice p0 xs[k].cols.length q0, .slice p1 xs[k].whr.length q1] from Blk.call b2 (blk_new wr _ [.string xs[k].name, .string xs[k].table, .slice p0 xs[k].cols.length q0, .slice p1 xs[k].whr.length q1]))
      have HB2 := Lib.hid (hba.trans (b2.mono hba.size))
      clear b2 hba
      have g0 : w2.cell? ⟨wr.heap.size, 0, none⟩ = some (.string xs[k].name) := (A2.out.2 0 (by simp)).1
      have g1 : w2.cell? ⟨wr.heap.size, 1, none⟩ = some (.string xs[k].table) := (A2.out.2 1 (by simp)).1
      have g2 : w2.cell? ⟨wr.heap.size, 2, none⟩ = some (.slice p0 xs[k].cols.length q0) := (A2.out.2 2 (by simp)).1
      have g3 : w2.cell? ⟨wr.heap.size, 3, none⟩ = some (.slice p1 xs[k].whr.length q1) := (A2.out.2 3 (by simp)).1
      have HTK := Lib.hid (take_filter pred xs k hlt)
      cases v with
      | false =>
        have HE : Hid (((xs.take (k + 1)).filter pred).map Vw.name = ((xs.take k).filter pred).map Vw.name) := by unfold Hid; rw [HTK.out, if_neg (by rw [HV.out]; decide), List.append_nil]
        go_wp2_with fail
        go_roundw
        case rel => exact ⟨k + 1, ys, a1, c1, by omega, by go_num, rfl, by omega, by rw [HE.out]; exact hS.out.1, hS.out.2.1.below HB2.out, hS.out.2.2.trans (HB2.out.mono hS.out.2.2.size)⟩
        case measure => simp [intOf]; omega
      | true =>
        have HE : Hid (((xs.take (k + 1)).filter pred).map Vw.name = ((xs.take k).filter pred).map Vw.name ++ [xs[k].name]) := by unfold Hid; rw [HTK.out, if_pos HV.out, List.map_append]; rfl
        have HO := Lib.hid (fun W => ownVw _ xs[k] W ⟨0, _, HK.out⟩)
        go_wp2_with fail
        refine (HO.out w2).mono ?_
        rintro e w3 ⟨rfl, b3⟩
        have HB3 := Lib.hid (HB2.out.trans (b3.mono HB2.out.size))
        have HOW := Lib.hid (hS.out.2.1.below HB3.out)
        clear b3 g0 g1 g2 g3
        have hw3 : w.heap.size ≤ w3.heap.size := Nat.le_trans hS.out.2.2.size HB3.out.size
        go_wp2_with (at_builtin; refine wpAppendStrs rfl _ _ rfl i0 hi0 hz0 hz1 hz2 w.heap.size a1 c1 ys (some ⟨_, 0, none⟩) 1 [xs[k].name] rfl (HOW.out.alloc _) rfl (strsOne _ _ hsm) (by simp only [List.length_cons, List.length_nil]; omega) (by simp; omega) ?_; intro a9 c9 w9 hown9 hg9)
        have HN9 := Lib.hid (And.intro hown9 (appended (hS.out.2.2.trans (HB3.out.mono hS.out.2.2.size)) (Nat.le_refl _) HOW.out hg9))
        clear hown9 hg9
        go_wp2_with fail
        go_roundw
        case rel => exact ⟨k + 1, ys ++ [xs[k].name], a9, c9, by omega, by go_num, by simp, by simp; omega, by rw [HE.out, hS.out.1], HN9.out.1, HN9.out.2⟩
        case measure => simp [intOf]; omega
    · obtain rfl : k = xs.length := by omega
      go_wp2_with fail
      go_ret
      have h1 := hS.out.1
      rw [List.take_length] at h1
      subst h1
      exact ⟨a1, c1, rfl, hS.out.2.1, hS.out.2.2⟩

end Go.Proofs.YtjjdcdnaonfnmaaGreat

namespace Go.Proofs.YtjjdcdnaonfnmaaGreat
open Go.RowKit

/-- The parts of a plan that need a table. -/
def tabL1 (x : Pl) (n : ByteArray) : List ByteArray := (x.tables.filter (tabB n)).map Tb.name
def tabL2 (x : Pl) (n : ByteArray) : List ByteArray := (x.indexes.filter (onIx n)).map Ix.name
def tabL3 (x : Pl) (n : ByteArray) : List ByteArray := (x.views.filter (onVw n)).map Vw.name
def tabL (x : Pl) (n : ByteArray) : List ByteArray := tabL1 x n ++ (tabL2 x n ++ tabL3 x n)

theorem filter_map_ok {X : Type} (p : X → Bool) (f : X → ByteArray) (wt : X → Nat) (hf : ∀ x, (f x).size ≤ wt x) (xs : List X) : ((xs.filter p).map f).length ≤ xs.length ∧ ∀ s ∈ (xs.filter p).map f, s.size ≤ wtS wt xs := by
  refine ⟨by rw [List.length_map]; exact List.length_filter_le _ _, fun s hs => ?_⟩
  obtain ⟨x, hx, rfl⟩ := List.mem_map.1 hs
  obtain ⟨i, hi, rfl⟩ := List.mem_iff_getElem.1 (List.mem_filter.1 hx).1
  have h1 := wtS_get wt hi
  have h2 := hf xs[i]
  omega

theorem tab_few (x : Pl) (n : ByteArray) (hn : x.wt ≤ 1048576) : (tabL x n).length ≤ 1048576 ∧ ∀ s ∈ tabL x n, s.size ≤ 1048576 := by
  obtain ⟨p1, q1⟩ := filter_map_ok (tabB n) Tb.name Tb.wt (fun t => by have h : t.wt = t.name.size + (t.cols.length + wtS Co.wt t.cols) + (t.rules.length + wtS Ru.wt t.rules) := rfl; omega) x.tables
  obtain ⟨p2, q2⟩ := filter_map_ok (onIx n) Ix.name Ix.wt (fun t => by have h : t.wt = t.name.size + t.table.size + (t.cols.length + lets t.cols) := rfl; omega) x.indexes
  obtain ⟨p3, q3⟩ := filter_map_ok (onVw n) Vw.name Vw.wt (fun t => by have h : t.wt = t.name.size + t.table.size + (t.cols.length + lets t.cols) + (t.whr.length + wtL t.whr) := rfl; omega) x.views
  have h3 : x.wt = (x.enums.length + wtS Lab.wt x.enums) + (x.seqs.length + wtS Sq.wt x.seqs) + (x.tables.length + wtS Tb.wt x.tables) + (x.indexes.length + wtS Ix.wt x.indexes) + (x.views.length + wtS Vw.wt x.views) := rfl
  unfold tabL tabL1 tabL2 tabL3
  refine ⟨by rw [List.length_append, List.length_append]; omega, fun s hs => ?_⟩
  rcases List.mem_append.1 hs with hs | hs
  · have := q1 s hs; omega
  · rcases List.mem_append.1 hs with hs | hs
    · have := q2 s hs; omega
    · have := q3 s hs; omega

theorem tab_ok (x : Pl) (n : ByteArray) (hn : x.wt ≤ 1048576) : (risingU (tabL x n)).length ≤ 1048576 ∧ ∀ s ∈ risingU (tabL x n), s.size ≤ 1048576 := by
  obtain ⟨h1, h2⟩ := tab_few x n hn
  have h3 := risingU_len (tabL x n)
  exact ⟨by omega, fun s hs => h2 s (((risingU_facts _).2 s).1 hs)⟩

/-- Three lists of texts, as risingNames takes them. -/
theorem three_list {w : World} {a b d : Option Addr} {c e g : Nat} {xs ys zs : List ByteArray} (h1 : Strs w a c xs) (h2 : Strs w b e ys) (h3 : Strs w d g zs) (T : TypeId) :
    Sl 1 RSS 0 (w.alloc (.cells #[.slice a xs.length c, .slice b ys.length e, .slice d zs.length g] T)) (some ⟨w.heap.size, 0, none⟩) 3 [xs, ys, zs] := by
  have hb : Below w.heap.size w (w.alloc (.cells #[.slice a xs.length c, .slice b ys.length e, .slice d zs.length g] T)) := (Below.refl _ _).alloc (Nat.le_refl _) _
  have hB := blk_new w T [.slice a xs.length c, .slice b ys.length e, .slice d zs.length g]
  refine ⟨Nat.le_refl _, by unfold maxLen; omega, (fun h => by cases h), fun _ => ⟨w.heap.size, 0, rfl, Nat.zero_le _, by simp, fun i hi => ?_⟩⟩
  have hi3 : i < 3 := hi
  have hc : i = 0 ∨ i = 1 ∨ i = 2 := by omega
  rcases hc with rfl | rfl | rfl
  · refine ⟨[.slice a xs.length c], fun j hj => ?_, a, c, rfl, (h1.below hb).ss0⟩
    have hj0 : j = 0 := by simpa using hj
    subst hj0
    exact (hB.2 0 (by simp)).1
  · refine ⟨[.slice b ys.length e], fun j hj => ?_, b, e, rfl, (h2.below hb).ss0⟩
    have hj0 : j = 0 := by simpa using hj
    subst hj0
    exact (hB.2 1 (by simp)).1
  · refine ⟨[.slice d zs.length g], fun j hj => ?_, d, g, rfl, (h3.below hb).ss0⟩
    have hj0 : j = 0 := by simpa using hj
    subst hj0
    exact (hB.2 2 (by simp)).1

theorem blk_far {w : World} {b b' : Nat} {vs : List Value} (h : Blk w b vs) (hne : b' ≠ b) (o : Nat) (v : Value) : Blk (w.setCell ⟨b', o, none⟩ v) b vs := by
  refine ⟨by simpa [World.setCell] using h.1, fun i hi => ⟨?_, (World.frozen?_setCell ..).trans (h.2 i hi).2⟩⟩
  exact (World.cell?_setCell_far w ⟨b', o, none⟩ ⟨b, i, none⟩ v hne).trans (h.2 i hi).1

/-- What lies during impl.TableUse. -/
structure TU (w : World) (PV : List Value) (a2 a3 a4 : Option Addr) (c2 c3 c4 : Nat) (x : Pl) (n : ByteArray) (nb rf : Nat) (W : World) : Prop where
  box : Blk W w.heap.size PV
  nbc : W.cell? ⟨nb, 0, none⟩ = some (.string n)
  nbl : nb < W.heap.size
  rfc : W.cell? ⟨rf, 0, none⟩ = some (.func (.func 47) #[] #[.pointer (some ⟨nb, 0, none⟩)])
  rfl_ : rf < W.heap.size
  k2 : Sl 4 RTb 0 W a2 c2 x.tables
  k3 : Sl 4 RIx 0 W a3 c3 x.indexes
  k4 : Sl 4 RVw 0 W a4 c4 x.views
  bel : Below w.heap.size w W

theorem TU.below {w : World} {PV : List Value} {a2 a3 a4 : Option Addr} {c2 c3 c4 : Nat} {x : Pl} {n : ByteArray} {nb rf : Nat} {W W' : World} (h : TU w PV a2 a3 a4 c2 c3 c4 x n nb rf W) (hb : Below W.heap.size W W') : TU w PV a2 a3 a4 c2 c3 c4 x n nb rf W' :=
  ⟨h.box.below hb, (hb.cell (p := ⟨nb, 0, none⟩) h.nbl).trans h.nbc, Nat.lt_of_lt_of_le h.nbl hb.size, (hb.cell (p := ⟨rf, 0, none⟩) h.rfl_).trans h.rfc, Nat.lt_of_lt_of_le h.rfl_ hb.size, h.k2.kept goodTb (Kept.below hb), h.k3.kept goodIx (Kept.below hb), h.k4.kept goodVw (Kept.below hb), Below.call hb h.bel⟩

theorem TU.callT {w : World} {PV : List Value} {a2 a3 a4 : Option Addr} {c2 c3 c4 : Nat} {x : Pl} {n : ByteArray} {nb rf : Nat} {W : World} (h : TU w PV a2 a3 a4 c2 c3 c4 x n nb rf W) (hn : x.tables.length ≤ 1048576) :
    Calls Tryz.prog 49 #[.slice a2 x.tables.length c2, .func (.func 50) #[] #[.pointer (some ⟨nb, 0, none⟩), .pointer (some ⟨rf, 0, none⟩)]] W (NewStrs W (tabL1 x n)) :=
  nwTb a2 c2 x.tables W _ _ (tabB n) h.k2 hn (fun W' vs t hb ht => tabC vs t nb rf n W' ht (h.below hb).nbc (h.below hb).nbl (h.below hb).rfc (h.below hb).rfl_)
theorem TU.callI {w : World} {PV : List Value} {a2 a3 a4 : Option Addr} {c2 c3 c4 : Nat} {x : Pl} {n : ByteArray} {nb rf : Nat} {W : World} (h : TU w PV a2 a3 a4 c2 c3 c4 x n nb rf W) (hn : x.indexes.length ≤ 1048576) :
    Calls Tryz.prog 52 #[.slice a3 x.indexes.length c3, .func (.func 53) #[] #[.pointer (some ⟨nb, 0, none⟩)]] W (NewStrs W (tabL2 x n)) :=
  nwIx a3 c3 x.indexes W _ (onIx n) h.k3 hn (fun W' vs t hb ht => onIxC vs t nb n W' ht (h.below hb).nbc (h.below hb).nbl)
theorem TU.callV {w : World} {PV : List Value} {a2 a3 a4 : Option Addr} {c2 c3 c4 : Nat} {x : Pl} {n : ByteArray} {nb rf : Nat} {W : World} (h : TU w PV a2 a3 a4 c2 c3 c4 x n nb rf W) (hn : x.views.length ≤ 1048576) :
    Calls Tryz.prog 54 #[.slice a4 x.views.length c4, .func (.func 55) #[] #[.pointer (some ⟨nb, 0, none⟩)]] W (NewStrs W (tabL3 x n)) :=
  nwVw a4 c4 x.views W _ (onVw n) h.k4 hn (fun W' vs t hb ht => onVwC vs t nb n W' ht (h.below hb).nbc (h.below hb).nbl)

set_option maxRecDepth 100000 in
set_option maxHeartbeats 8000000 in
theorem implTableUse (vs : List Value) (x : Pl) (n : ByteArray) (w : World) (hR : RPl 0 w vs x) (hn : x.wt ≤ 1048576) :
    Calls Tryz.prog 16 #[.agg vs.toArray, .string n] w (NewStrs w (risingU (tabL x n))) := by
  obtain ⟨hlen, hsz⟩ := tab_few x n hn
  have h3 : x.wt = (x.enums.length + wtS Lab.wt x.enums) + (x.seqs.length + wtS Sq.wt x.seqs) + (x.tables.length + wtS Tb.wt x.tables) + (x.indexes.length + wtS Ix.wt x.indexes) + (x.views.length + wtS Vw.wt x.views) := rfl
  have ht2 : x.tables.length ≤ 1048576 := by omega
  have ht3 : x.indexes.length ≤ 1048576 := by omega
  have ht4 : x.views.length ≤ 1048576 := by omega
  obtain ⟨a0, c0, a1, c1, a2, c2, a3, c3, a4, c4, rfl, _, _, _, k2, k3, k4⟩ := hR
  have b1 : Below w.heap.size w (w.alloc (.cells #[.slice a0 x.enums.length c0, .slice a1 x.seqs.length c1, .slice a2 x.tables.length c2, .slice a3 x.indexes.length c3, .slice a4 x.views.length c4, .int .i64 x.next] 38)) := (Below.refl _ _).alloc (Nat.le_refl _) _
  have z1 : (w.alloc (.cells #[.slice a0 x.enums.length c0, .slice a1 x.seqs.length c1, .slice a2 x.tables.length c2, .slice a3 x.indexes.length c3, .slice a4 x.views.length c4, .int .i64 x.next] 38)).heap.size = w.heap.size + 1 := by simp
  have z2 : ((w.alloc (.cells #[.slice a0 x.enums.length c0, .slice a1 x.seqs.length c1, .slice a2 x.tables.length c2, .slice a3 x.indexes.length c3, .slice a4 x.views.length c4, .int .i64 x.next] 38)).alloc (.cells #[.string n] 9)).heap.size = w.heap.size + 1 + 1 := by simp
  have bn := blk_new (w.alloc (.cells #[.slice a0 x.enums.length c0, .slice a1 x.seqs.length c1, .slice a2 x.tables.length c2, .slice a3 x.indexes.length c3, .slice a4 x.views.length c4, .int .i64 x.next] 38)) 9 [.string n]
  have bf := blk_new ((w.alloc (.cells #[.slice a0 x.enums.length c0, .slice a1 x.seqs.length c1, .slice a2 x.tables.length c2, .slice a3 x.indexes.length c3, .slice a4 x.views.length c4, .int .i64 x.next] 38)).alloc (.cells #[.string n] 9)) 91 [.func (.func 47) #[] #[.pointer (some ⟨w.heap.size + 1, 0, none⟩)]]
  rw [z1] at bn
  rw [z2] at bf
  have b3 : Below w.heap.size w (((w.alloc (.cells #[.slice a0 x.enums.length c0, .slice a1 x.seqs.length c1, .slice a2 x.tables.length c2, .slice a3 x.indexes.length c3, .slice a4 x.views.length c4, .int .i64 x.next] 38)).alloc (.cells #[.string n] 9)).alloc (.cells #[.func (.func 47) #[] #[.pointer (some ⟨w.heap.size + 1, 0, none⟩)]] 91)) :=
    ((b1.alloc (by simp) _).alloc (by simp; omega) _)
  have HTU : Hid (TU w [.slice a0 x.enums.length c0, .slice a1 x.seqs.length c1, .slice a2 x.tables.length c2, .slice a3 x.indexes.length c3, .slice a4 x.views.length c4, .int .i64 x.next] a2 a3 a4 c2 c3 c4 x n (w.heap.size + 1) (w.heap.size + 1 + 1) (((w.alloc (.cells #[.slice a0 x.enums.length c0, .slice a1 x.seqs.length c1, .slice a2 x.tables.length c2, .slice a3 x.indexes.length c3, .slice a4 x.views.length c4, .int .i64 x.next] 38)).alloc (.cells #[.string n] 9)).alloc (.cells #[.func (.func 47) #[] #[.pointer (some ⟨w.heap.size + 1, 0, none⟩)]] 91))) := by
    have bn' := bn.alloc (.cells #[.func (.func 47) #[] #[.pointer (some ⟨w.heap.size + 1, 0, none⟩)]] 91)
    exact ⟨((blk_new w 38 [.slice a0 x.enums.length c0, .slice a1 x.seqs.length c1, .slice a2 x.tables.length c2, .slice a3 x.indexes.length c3, .slice a4 x.views.length c4, .int .i64 x.next]).alloc _).alloc _, (bn'.2 0 (by simp)).1, bn'.1, (bf.2 0 (by simp)).1, bf.1, k2.kept goodTb (Kept.below b3), k3.kept goodIx (Kept.below b3), k4.kept goodVw (Kept.below b3), b3⟩
  clear b1 z1 z2 bn bf b3 k2 k3 k4 h3
  have hsf := fun (w' : World) => run_store Tryz.prog w' ⟨w.heap.size + 1 + 1, 0, none⟩ (.func (.func 47) #[] #[.pointer (some ⟨w.heap.size + 1, 0, none⟩)]) .plain rfl
  go_enter Tryz.func16, Tryz.ntmps16
  go_wp2_with fail
  clear hsf
  generalize ((w.alloc (.cells #[.slice a0 x.enums.length c0, .slice a1 x.seqs.length c1, .slice a2 x.tables.length c2, .slice a3 x.indexes.length c3, .slice a4 x.views.length c4, .int .i64 x.next] 38)).alloc (.cells #[.string n] 9)).alloc (.cells #[.func (.func 47) #[] #[.pointer (some ⟨w.heap.size + 1, 0, none⟩)]] 91) = W0 at HTU ⊢
  have HTD := Lib.hid (HTU.out.below (below_drewN (Below.refl _ _) 1))
  have hst : Hid (∀ p q : World, ((p.cell? ⟨w.heap.size, 2, none⟩ = some (.slice a2 x.tables.length c2) ∧ p.cell? ⟨w.heap.size, 3, none⟩ = some (.slice a3 x.indexes.length c3) ∧ p.cell? ⟨w.heap.size, 4, none⟩ = some (.slice a4 x.views.length c4)) ∧ Hid (TU w [.slice a0 x.enums.length c0, .slice a1 x.seqs.length c1, .slice a2 x.tables.length c2, .slice a3 x.indexes.length c3, .slice a4 x.views.length c4, .int .i64 x.next] a2 a3 a4 c2 c3 c4 x n (w.heap.size + 1) (w.heap.size + 1 + 1) p)) → Below p.heap.size p q → ((q.cell? ⟨w.heap.size, 2, none⟩ = some (.slice a2 x.tables.length c2) ∧ q.cell? ⟨w.heap.size, 3, none⟩ = some (.slice a3 x.indexes.length c3) ∧ q.cell? ⟨w.heap.size, 4, none⟩ = some (.slice a4 x.views.length c4)) ∧ Hid (TU w [.slice a0 x.enums.length c0, .slice a1 x.seqs.length c1, .slice a2 x.tables.length c2, .slice a3 x.indexes.length c3, .slice a4 x.views.length c4, .int .i64 x.next] a2 a3 a4 c2 c3 c4 x n (w.heap.size + 1) (w.heap.size + 1 + 1) q))) := fun p q h hb => by
    have T := h.2.out.below hb
    exact ⟨⟨(T.box.2 2 (by simp)).1, (T.box.2 3 (by simp)).1, (T.box.2 4 (by simp)).1⟩, T⟩
  have hml : Hid (∀ s, s ∈ tabL1 x n ∨ s ∈ tabL2 x n ∨ s ∈ tabL3 x n → s.size ≤ maxLen) := fun s hs => by
    have : s ∈ tabL x n := by
      unfold tabL
      rcases hs with h | h | h
      · exact List.mem_append_left _ h
      · exact List.mem_append_right _ (List.mem_append_left _ h)
      · exact List.mem_append_right _ (List.mem_append_right _ h)
    have := hsz s this
    unfold maxLen; omega
  have hfl : [tabL1 x n, tabL2 x n, tabL3 x n].flatten = tabL x n := by simp [tabL]
  have hRI : Hid (∀ (W : World) (b : Option Addr), Sl 1 RSS 0 W b 3 [tabL1 x n, tabL2 x n, tabL3 x n] → Calls Tryz.prog 30 #[.slice b 3 3] W (NewStrs W (risingU (tabL x n)))) := fun W b h => by
    have := implRising b 3 [tabL1 x n, tabL2 x n, tabL3 x n] W h (by rw [hfl]; omega) (by simp) (by rw [hfl]; exact hsz)
    rw [hfl] at this
    exact this
  go_region_held3 (fun w' => (w'.cell? ⟨w.heap.size, 2, none⟩ = some (.slice a2 x.tables.length c2) ∧ w'.cell? ⟨w.heap.size, 3, none⟩ = some (.slice a3 x.indexes.length c3) ∧ w'.cell? ⟨w.heap.size, 4, none⟩ = some (.slice a4 x.views.length c4)) ∧ Hid (TU w [.slice a0 x.enums.length c0, .slice a1 x.seqs.length c1, .slice a2 x.tables.length c2, .slice a3 x.indexes.length c3, .slice a4 x.views.length c4, .int .i64 x.next] a2 a3 a4 c2 c3 c4 x n (w.heap.size + 1) (w.heap.size + 1 + 1) w')) (first | assumption | exact hst.out _ _ hqV ((Below.refl _ _).alloc (Nat.le_refl _) _) | exact hst.out _ _ (hst.out _ _ hqV ((Below.refl _ _).alloc (Nat.le_refl _) _)) HR.out.2 | exact ⟨⟨(HTD.out.box.2 2 (by simp)).1, (HTD.out.box.2 3 (by simp)).1, (HTD.out.box.2 4 (by simp)).1⟩, HTD.out⟩)
    (first
      | (go_at_call 49; refine (TU.callT (And.right (by assumption : _ ∧ Hid (TU w [.slice a0 x.enums.length c0, .slice a1 x.seqs.length c1, .slice a2 x.tables.length c2, .slice a3 x.indexes.length c3, .slice a4 x.views.length c4, .int .i64 x.next] a2 a3 a4 c2 c3 c4 x n (w.heap.size + 1) (w.heap.size + 1 + 1) _))).out ht2).mono ?_; rintro e wT ⟨aT, cT, rfl, oT, bT⟩; have hqT := hst.out _ _ (by assumption) bT; have ST := Lib.hid (oT.strs (fun s hs => hml.out s (.inl hs))); clear oT bT)
      | (go_at_call 52; refine (TU.callI (And.right (by assumption : _ ∧ Hid (TU w [.slice a0 x.enums.length c0, .slice a1 x.seqs.length c1, .slice a2 x.tables.length c2, .slice a3 x.indexes.length c3, .slice a4 x.views.length c4, .int .i64 x.next] a2 a3 a4 c2 c3 c4 x n (w.heap.size + 1) (w.heap.size + 1 + 1) _))).out ht3).mono ?_; rintro e wI ⟨aI, cI, rfl, oI, bI⟩; have hqI := hst.out _ _ (by assumption) bI; have ST2 := Lib.hid (Strs.below (by exact ST.out) bI); have SI := Lib.hid (oI.strs (fun s hs => hml.out s (.inr (.inl hs)))); clear oI bI)
      | (go_at_call 54; refine (TU.callV (And.right (by assumption : _ ∧ Hid (TU w [.slice a0 x.enums.length c0, .slice a1 x.seqs.length c1, .slice a2 x.tables.length c2, .slice a3 x.indexes.length c3, .slice a4 x.views.length c4, .int .i64 x.next] a2 a3 a4 c2 c3 c4 x n (w.heap.size + 1) (w.heap.size + 1 + 1) _))).out ht4).mono ?_; rintro e wV ⟨aV, cV, rfl, oV, bV⟩; have hqV := hst.out _ _ (by assumption) bV; have ST3 := Lib.hid (Strs.below (by exact ST2.out) bV); have SI3 := Lib.hid (Strs.below (by exact SI.out) bV); have SV := Lib.hid (oV.strs (fun s hs => hml.out s (.inr (.inr hs)))); clear oV bV)
      | (go_at_call 30; refine (hRI.out _ _ (three_list (by exact ST3.out) (by exact SI3.out) (by exact SV.out) _)).mono ?_; rintro e wR ⟨aR, cR, rfl, oR, bR⟩; have HR := Lib.hid (And.intro oR bR); clear oR bR))
  all_goals go_wp2_with fail
  all_goals go_ret
  all_goals
    have hbT := (And.right hqV).out.bel
    have hbA := hbT.alloc hbT.size (.cells #[.slice aT (tabL1 x n).length cT, .slice aI (tabL2 x n).length cI, .slice aV (tabL3 x n).length cV] 30)
    exact ⟨aR, cR, rfl, HR.out.1.lower hbA.size, hbA.trans (HR.out.2.mono hbA.size)⟩

end Go.Proofs.YtjjdcdnaonfnmaaGreat

namespace Go.Proofs.YtjjdcdnaonfnmaaGreat
open Go.RowKit

theorem specBeforeIs (a b : ByteArray) (w : World) (ha : a.size ≤ maxLen) (hb : b.size ≤ maxLen) (v : Bool) (h : lessB a b = v) :
    Calls Tryz.prog 70 #[.string a, .string b] w fun e w' => e = .returned (.bool v) ∧ ∃ n, w' = w.drewN n := by
  have := specBefore a b w ha hb
  unfold lessB at h
  rw [h] at this
  exact this

set_option maxHeartbeats 1000000 in
theorem specPut (a : Option Addr) (c : Nat) (xs : List ByteArray) (s : ByteArray) (w : World) (hx : Strs w a c xs) (hs : s.size ≤ maxLen) (hn : xs.length ≤ 4194304) :
    Calls Tryz.prog 24 #[.slice a xs.length c, .string s] w (NewStrs w (putL xs s)) := by
  obtain ⟨i0, hi0, hz0, hz1, hz2⟩ := info_parts Tryz.infoString
  have hl := hx.len
  go_enter Tryz.func24, Tryz.ntmps24
  go_wp2
  go_loopw [5, 6, 7] (fun v d i wr => ∃ (k : Nat) (a1 : Option Addr) (c1 : Nat), k ≤ xs.length ∧ i = .int .i64 k ∧ d = .bool (putSt xs s k).2 ∧ v = .slice a1 (putSt xs s k).1.length c1 ∧ Own wr w.heap.size a1 c1 (putSt xs s k).1 ∧ Below w.heap.size w wr) (fun _ _ i _ => xs.length - (intOf i).toNat)
  case atStart => exact ⟨0, _, _, Nat.zero_le _, rfl, rfl, rfl, ownEmpty w, (Below.refl _ _).alloc (Nat.le_refl _) _⟩
  case round =>
    obtain ⟨k, a1, c1, hk, rfl, rfl, rfl, hown, hb⟩ := hrel
    have hsz := hb.size
    by_cases hlt : k < xs.length
    · obtain ⟨b, off, rfl, hbl, hc⟩ := (hx.below hb).spot hlt
      have hsk := hx.2.2.1 xs[k] (List.getElem_mem hlt)
      have hlen := (putSt_len xs s k hk).1
      cases hd : (putSt xs s k).2 with
      | true =>
        have HS : Hid (putSt xs s (k + 1) = ((putSt xs s k).1 ++ [xs[k]], true)) := by
          unfold Hid; rw [putSt_succ xs s k hlt]; unfold putStep; rw [hd]; rfl
        have Hd := Lib.hid hd
        clear hd
        go_wp2_with (at_builtin; refine wpAppendStrs rfl (.tmp 36) (.tmp 41) rfl i0 hi0 hz0 hz1 hz2 w.heap.size a1 c1 _ (some ⟨_, 0, none⟩) 1 [xs[k]] rfl (hown.alloc _) rfl (strsOne _ _ hsk) (by simp only [List.length_cons, List.length_nil]; omega) (by simp; omega) ?_; intro a2 c2 w2 hown2 hg2)
        have hb2 := appended hb (Nat.le_refl _) hown hg2
        go_roundw
        case rel => exact ⟨k + 1, a2, c2, by omega, by go_num, by rw [HS.out], by rw [HS.out, List.length_append]; rfl, by rw [HS.out]; exact hown2, hb2⟩
        case measure => simp [intOf]; omega
      | false =>
        have hlen' := (putSt_len xs s k hk).2 hd
        cases hle : lessB xs[k] s with
        | true =>
          have HS : Hid (putSt xs s (k + 1) = ((putSt xs s k).1 ++ [xs[k]], false)) := by
            unfold Hid; rw [putSt_succ xs s k hlt]; unfold putStep; rw [hd, hle]; rfl
          have Hd := Lib.hid hd
          have Hle := Lib.hid hle
          clear hd hle
          go_wp2_with (first
            | (go_at_call 70; refine (specBeforeIs _ _ _ hsk hs true Hle.out).mono ?_; rintro e w1 ⟨rfl, n1, rfl⟩)
            | (at_builtin; refine wpAppendStrs rfl (.tmp 36) (.tmp 41) rfl i0 hi0 hz0 hz1 hz2 w.heap.size a1 c1 _ (some ⟨_, 0, none⟩) 1 [xs[k]] rfl ((hown.drewN n1).alloc _) rfl (strsOne _ _ hsk) (by simp only [List.length_cons, List.length_nil]; omega) (by simp; omega) ?_; intro a2 c2 w2 hown2 hg2))
          have hb2 := appended (below_drewN hb n1) (Nat.le_refl _) (hown.drewN n1) hg2
          go_roundw
          case rel => exact ⟨k + 1, a2, c2, by omega, by go_num, by rw [HS.out], by rw [HS.out, List.length_append]; rfl, by rw [HS.out]; exact hown2, hb2⟩
          case measure => simp [intOf]; omega
        | false =>
          cases he : (xs[k].toList == s.toList) with
          | true =>
            have HS : Hid (putSt xs s (k + 1) = ((putSt xs s k).1 ++ [s], true)) := by
              unfold Hid; rw [putSt_succ xs s k hlt]; unfold putStep; rw [hd, hle, he]; rfl
            have Hd := Lib.hid hd
            have Hle := Lib.hid hle
            clear hd hle
            go_wp2_with (first
              | (go_at_call 70; refine (specBeforeIs _ _ _ hsk hs false Hle.out).mono ?_; rintro e w1 ⟨rfl, n1, rfl⟩)
              | ((at_builtin; refine wpAppendStrs rfl (.tmp 26) (.tmp 28) rfl i0 hi0 hz0 hz1 hz2 w.heap.size a1 c1 _ (some ⟨_, 0, none⟩) 1 [s] rfl ((hown.drewN n1).alloc _) rfl (strsOne _ _ hs) (by simp only [List.length_cons, List.length_nil]; omega) (by simp; omega) ?_; intro a2 c2 w2 hown2 hg2); (have hb2 := appended (below_drewN hb n1) (Nat.le_refl _) (hown.drewN n1) hg2); (have hc2 := (hx.below hb2).spot hlt); (have hc2' : w2.cell? ⟨b, off + k, none⟩ = some (.string xs[k]) := by obtain ⟨b', off', he', _, h⟩ := hc2; cases he'; exact h); clear hc2))
            go_roundw
            case rel => exact ⟨k + 1, a2, c2, by omega, by go_num, by rw [HS.out], by rw [HS.out, List.length_append]; rfl, by rw [HS.out]; exact hown2, hb2⟩
            case measure => simp [intOf]; omega
          | false =>
            have HS : Hid (putSt xs s (k + 1) = ((putSt xs s k).1 ++ [s] ++ [xs[k]], true)) := by
              unfold Hid; rw [putSt_succ xs s k hlt]; unfold putStep; rw [hd, hle, he]; rfl
            have Hd := Lib.hid hd
            have Hle := Lib.hid hle
            clear hd hle
            go_wp2_with (first
              | (go_at_call 70; refine (specBeforeIs _ _ _ hsk hs false Hle.out).mono ?_; rintro e w1 ⟨rfl, n1, rfl⟩)
              | ((at_builtin; refine wpAppendStrs rfl (.tmp 26) (.tmp 28) rfl i0 hi0 hz0 hz1 hz2 w.heap.size a1 c1 _ (some ⟨_, 0, none⟩) 1 [s] rfl ((hown.drewN n1).alloc _) rfl (strsOne _ _ hs) (by simp only [List.length_cons, List.length_nil]; omega) (by simp; omega) ?_; intro a2 c2 w2 hown2 hg2); (have hb2 := appended (below_drewN hb n1) (Nat.le_refl _) (hown.drewN n1) hg2); (have hc2 := (hx.below hb2).spot hlt); (have hc2' : w2.cell? ⟨b, off + k, none⟩ = some (.string xs[k]) := by obtain ⟨b', off', he', _, h⟩ := hc2; cases he'; exact h); clear hc2; (have hsz2 := hb2.size))
              | (at_builtin; refine wpAppendStrs rfl (.tmp 36) (.tmp 41) rfl i0 hi0 hz0 hz1 hz2 w.heap.size a2 c2 ((putSt xs s k).1 ++ [s]) (some ⟨_, 0, none⟩) 1 [xs[k]] (by simp [go_sem]) (hown2.alloc _) rfl (strsOne _ _ hsk) (by simp only [List.length_cons, List.length_nil, List.length_append]; omega) (by simp; omega) ?_; intro a3 c3 w3 hown3 hg3))
            have hb3 := appended hb2 (Nat.le_refl _) hown2 hg3
            go_roundw
            case rel => exact ⟨k + 1, a3, c3, by omega, by go_num, by rw [HS.out], by rw [HS.out, List.length_append, List.length_append]; rfl, by rw [HS.out]; exact hown3, hb3⟩
            case measure => simp [intOf]; omega
    · obtain rfl : k = xs.length := by omega
      have hlen := (putSt_len xs s xs.length hk).1
      have hend := putSt_end xs s
      cases hd : (putSt xs s xs.length).2 with
      | true =>
        have HE : Hid (putL xs s = (putSt xs s xs.length).1) := by unfold Hid; rw [← hend, hd]; rfl
        have Hd := Lib.hid hd
        clear hd hend
        go_wp2_with fail
        go_ret
        exact ⟨a1, c1, by rw [HE.out]; rfl, by rw [HE.out]; exact hown, hb⟩
      | false =>
        have HE : Hid (putL xs s = (putSt xs s xs.length).1 ++ [s]) := by unfold Hid; rw [← hend, hd]; rfl
        have Hd := Lib.hid hd
        clear hd hend
        go_wp2_with (at_builtin; refine wpAppendStrs rfl (.tmp 45) (.tmp 47) rfl i0 hi0 hz0 hz1 hz2 w.heap.size a1 c1 _ (some ⟨_, 0, none⟩) 1 [s] rfl (hown.alloc _) rfl (strsOne _ _ hs) (by simp only [List.length_cons, List.length_nil]; omega) (by simp; omega) ?_; intro a2 c2 w2 hown2 hg2)
        have hb2 := appended hb (Nat.le_refl _) hown hg2
        go_ret
        exact ⟨a2, c2, by rw [HE.out, List.length_append]; rfl, by rw [HE.out]; exact hown2, hb2⟩

end Go.Proofs.YtjjdcdnaonfnmaaGreat

namespace Go.Proofs.YtjjdcdnaonfnmaaGreat
open Go.RowKit

theorem parts_step (n : ByteArray) (t : Tb) (j : Nat) (h : j < t.cols.length) : (((t.cols.take (j + 1)).filter (isEnB n)).map Co.name).map (dotT t.name) = (((t.cols.take j).filter (isEnB n)).map Co.name).map (dotT t.name) ++ (if isEnB n t.cols[j] = true then [dotT t.name t.cols[j].name] else []) := by
  rw [take_filter _ _ _ h, List.map_append, List.map_append]
  split <;> simp

theorem putAll_len (xs ys : List ByteArray) : (putAll xs ys).length ≤ xs.length + ys.length := (putAll_facts ys xs).2.2
theorem putAll_mem (xs ys : List ByteArray) (t : ByteArray) : t ∈ putAll xs ys ↔ t ∈ xs ∨ t ∈ ys := (putAll_facts ys xs).2.1 t

/-- While the columns of a table are looked at. -/
structure SQ (w wo : World) (PV TV : List Value) (Y Z : List ByteArray) (ys : List ByteArray) (a' : Option Addr) (c' : Nat) (wr : World) : Prop where
  eq : ys = putAll Y Z
  own : Own wr w.heap.size a' c' ys
  bel : Below w.heap.size w wr
  pbox : Blk wr w.heap.size PV
  tbox : Blk wr wo.heap.size TV

theorem SQ.next {w wo : World} {PV TV : List Value} {Y Z : List ByteArray} {ys : List ByteArray} {a' : Option Addr} {c' : Nat} {wr : World} (h : SQ w wo PV TV Y Z ys a' c' wr) {w2 : World} {s : ByteArray} {a2 : Option Addr} {c2 : Nat} (own : Own w2 wr.heap.size a2 c2 (putL ys s)) (hb : Below wr.heap.size wr w2) :
    SQ w wo PV TV Y (Z ++ [s]) (putL ys s) a2 c2 w2 :=
  ⟨by rw [putAll_append, ← h.eq]; rfl, own.lower h.bel.size, h.bel.trans (hb.mono h.bel.size), h.pbox.below hb, h.tbox.below hb⟩

set_option maxRecDepth 100000 in
set_option maxHeartbeats 8000000 in
theorem specEnumUse (vs : List Value) (x : Pl) (n : ByteArray) (w : World) (hR : RPl 0 w vs x) (hn : x.wt ≤ 1048576) :
    Calls Tryz.prog 7 #[.agg vs.toArray, .string n] w (NewStrs w (risingU (enumL x n))) := by
  obtain ⟨hok, hol, hoz⟩ := partsOk_of (enum_light n) hn
  obtain ⟨a0, c0, a1, c1, a2, c2, a3, c3, a4, c4, rfl, _, _, _, k2, _, _⟩ := hR
  have hl := k2.len
  have K2 := Lib.hid (fun w' (hb : Below w.heap.size w w') => k2.kept goodTb (Kept.below hb))
  have HPL := Lib.hid (fun k => partsL_le (enumF n) x.tables k)
  have hba : Below w.heap.size w ((w.alloc (.cells #[.slice a0 x.enums.length c0, .slice a1 x.seqs.length c1, .slice a2 x.tables.length c2, .slice a3 x.indexes.length c3, .slice a4 x.views.length c4, .int .i64 x.next] 38)).alloc (.cells #[] 9)) := below2 _ _ _
  have A0 := Lib.hid ((blk_new w 38 [.slice a0 x.enums.length c0, .slice a1 x.seqs.length c1, .slice a2 x.tables.length c2, .slice a3 x.indexes.length c3, .slice a4 x.views.length c4, .int .i64 x.next]).alloc (.cells #[] 9))
  have hown0 := ownEmpty (w.alloc (.cells #[.slice a0 x.enums.length c0, .slice a1 x.seqs.length c1, .slice a2 x.tables.length c2, .slice a3 x.indexes.length c3, .slice a4 x.views.length c4, .int .i64 x.next] 38))
  have hz1 : (w.alloc (.cells #[.slice a0 x.enums.length c0, .slice a1 x.seqs.length c1, .slice a2 x.tables.length c2, .slice a3 x.indexes.length c3, .slice a4 x.views.length c4, .int .i64 x.next] 38)).heap.size = w.heap.size + 1 := by simp
  rw [hz1] at hown0
  have HO0 := Lib.hid (hown0.lower (B' := w.heap.size) (by omega))
  have HB0 := Lib.hid hba
  have HMEM := Lib.hid (fun s hs => hoz s hs)
  clear k2 hba hown0 hz1
  go_enter Tryz.func7, Tryz.ntmps7
  go_wp2_with fail
  go_loopw [5, 6] (fun o i wr => ∃ (k : Nat) (ys : List ByteArray) (a' : Option Addr) (c' : Nat), k ≤ x.tables.length ∧ i = .int .i64 k ∧ o = .slice a' ys.length c' ∧ Hid (ys = putAll [] (partsL (enumF n) 0 (x.tables.take k)) ∧ Own wr w.heap.size a' c' ys ∧ Below w.heap.size w wr ∧ Blk wr w.heap.size [.slice a0 x.enums.length c0, .slice a1 x.seqs.length c1, .slice a2 x.tables.length c2, .slice a3 x.indexes.length c3, .slice a4 x.views.length c4, .int .i64 x.next])) (fun _ i _ => x.tables.length - (intOf i).toNat)
  case atStart => exact ⟨0, [], _, 0, Nat.zero_le _, rfl, rfl, rfl, HO0.out, HB0.out, A0.out⟩
  case round =>
    rename World => wo
    obtain ⟨k, ys, a9, c9, hk, rfl, rfl, hS⟩ := hrel
    have g2 : wo.cell? ⟨w.heap.size, 2, none⟩ = some (.slice a2 x.tables.length c2) := (hS.out.2.2.2.2 2 (by simp)).1
    by_cases hlt : k < x.tables.length
    · obtain ⟨b, off, us, ha2, hbl, hcs, hT⟩ := (K2.out _ hS.out.2.2.1).spot hlt
      have g2' : wo.cell? ⟨w.heap.size, 2, none⟩ = some (.slice (some ⟨b, off, none⟩) x.tables.length c2) := by rw [← ha2]; exact g2
      clear g2 ha2
      obtain ⟨p0, q0, p1, q1, rfl, hfit, kc, _⟩ := hT
      have hsn : x.tables[k].name.size ≤ 1048576 := by
        have h1 := wtS_get Tb.wt hlt
        have h2 : x.tables[k].wt = x.tables[k].name.size + (x.tables[k].cols.length + wtS Co.wt x.tables[k].cols) + (x.tables[k].rules.length + wtS Ru.wt x.tables[k].rules) := rfl
        have h3 : x.wt = (x.enums.length + wtS Lab.wt x.enums) + (x.seqs.length + wtS Sq.wt x.seqs) + (x.tables.length + wtS Tb.wt x.tables) + (x.indexes.length + wtS Ix.wt x.indexes) + (x.views.length + wtS Vw.wt x.views) := rfl
        omega
      have hc0 : wo.cell? ⟨b, off + k * 4, none⟩ = some (.string x.tables[k].name) := hcs 0 (by simp)
      have hc1 : wo.cell? ⟨b, off + k * 4 + 1, none⟩ = some (.slice p0 x.tables[k].cols.length q0) := hcs 1 (by simp)
      have hc2 : wo.cell? ⟨b, off + k * 4 + 2, none⟩ = some (.slice p1 x.tables[k].rules.length q1) := hcs 2 (by simp)
      have hc3 : wo.cell? ⟨b, off + k * 4 + 3, none⟩ = some (.int .i64 x.tables[k].token) := hcs 3 (by simp)
      have HTK := Lib.hid (partsL_take (enumF n) x.tables k hlt)
      have hcl := kc.len
      have KC := Lib.hid (fun w' (hb : Below wo.heap.size wo w') => kc.kept goodCo (Kept.below hb))
      have hw : w.heap.size ≤ wo.heap.size := hS.out.2.2.1.size
      have HSQ0 : Hid (SQ w wo [.slice a0 x.enums.length c0, .slice a1 x.seqs.length c1, .slice a2 x.tables.length c2, .slice a3 x.indexes.length c3, .slice a4 x.views.length c4, .int .i64 x.next] [.string x.tables[k].name, .slice p0 x.tables[k].cols.length q0, .slice p1 x.tables[k].rules.length q1, .int .i64 x.tables[k].token] ys [] ys a9 c9 (wo.alloc (.cells #[.string x.tables[k].name, .slice p0 x.tables[k].cols.length q0, .slice p1 x.tables[k].rules.length q1, .int .i64 x.tables[k].token] 55))) :=
        ⟨rfl, hS.out.2.1.alloc _, hS.out.2.2.1.alloc hw _, hS.out.2.2.2.alloc _, blk_new wo 55 [.string x.tables[k].name, .slice p0 x.tables[k].cols.length q0, .slice p1 x.tables[k].rules.length q1, .int .i64 x.tables[k].token]⟩
      have HBA : Hid (Below wo.heap.size wo (wo.alloc (.cells #[.string x.tables[k].name, .slice p0 x.tables[k].cols.length q0, .slice p1 x.tables[k].rules.length q1, .int .i64 x.tables[k].token] 55))) := (Below.refl _ _).alloc (Nat.le_refl _) _
      have hyl : ys.length + (enumF n k x.tables[k]).length ≤ 1048576 + 1048576 := by
        have h1 := hS.out.1
        have h2 := putAll_len [] (partsL (enumF n) 0 (x.tables.take k))
        have h3 := HPL.out (k + 1)
        rw [HTK.out, List.length_append, List.length_map] at h3
        rw [← h1] at h2
        simp at h2
        omega
      have hzl : ∀ s ∈ ys, s.size ≤ 1048576 := by
        intro s hs
        rw [hS.out.1, putAll_mem] at hs
        rcases hs with hs | hs
        · simp at hs
        · refine HMEM.out s ?_
          have this := partsL_split (enumF n) (x.tables.take k) (x.tables.drop k) 0
          rw [List.take_append_drop] at this
          rw [this]
          exact List.mem_append_left _ hs
      have HZL := Lib.hid hzl
      clear kc hcs hzl
      go_wp2_with fail
      go_loopw [5, 8] (fun o i wr => ∃ (j : Nat) (us' : List ByteArray) (a' : Option Addr) (c' : Nat), j ≤ x.tables[k].cols.length ∧ i = .int .i64 j ∧ o = .slice a' us'.length c' ∧ Hid (SQ w wo [.slice a0 x.enums.length c0, .slice a1 x.seqs.length c1, .slice a2 x.tables.length c2, .slice a3 x.indexes.length c3, .slice a4 x.views.length c4, .int .i64 x.next] [.string x.tables[k].name, .slice p0 x.tables[k].cols.length q0, .slice p1 x.tables[k].rules.length q1, .int .i64 x.tables[k].token] ys ((((x.tables[k].cols.take j).filter (isEnB n)).map Co.name).map (dotT x.tables[k].name)) us' a' c' wr ∧ Below wo.heap.size wo wr)) (fun _ i _ => x.tables[k].cols.length - (intOf i).toNat)
      case atStart => exact ⟨0, ys, a9, c9, Nat.zero_le _, rfl, rfl, HSQ0.out, HBA.out⟩
      case round =>
        obtain ⟨j, us', a8, c8, hj, rfl, rfl, hQ⟩ := hrel
        have q0' : wr.cell? ⟨wo.heap.size, 0, none⟩ = some (.string x.tables[k].name) := (hQ.out.1.tbox.2 0 (by simp)).1
        have q1' : wr.cell? ⟨wo.heap.size, 1, none⟩ = some (.slice p0 x.tables[k].cols.length q0) := (hQ.out.1.tbox.2 1 (by simp)).1
        by_cases hlj : j < x.tables[k].cols.length
        · obtain ⟨b1, off1, ws, hp0, hbl1, hcs1, hC⟩ := (KC.out _ hQ.out.2).spot hlj
          rw [hp0] at q1'
          clear hp0
          obtain ⟨u0, v0, rfl, hfc, _⟩ := hC
          have d0 : wr.cell? ⟨b1, off1 + j * 6, none⟩ = some (.string x.tables[k].cols[j].name) := hcs1 0 (by simp)
          have d1 : wr.cell? ⟨b1, off1 + j * 6 + 1, none⟩ = some (.int .i64 x.tables[k].cols[j].ty.kind) := hcs1 1 (by simp)
          have d3 : wr.cell? ⟨b1, off1 + j * 6 + 3, none⟩ = some (.string x.tables[k].cols[j].ty.name) := hcs1 3 (by simp)
          have HP := Lib.hid (parts_step n x.tables[k] j hlj)
          have hj0 : (0 : Int) ≤ (j : Int) := by omega
          have hj1 : (j : Int) < (x.tables[k].cols.length : Int) := by omega
          have HQ := Lib.hid hQ.out
          clear hcs1 hQ
          cases hv : isEnB n x.tables[k].cols[j] with
          | false =>
            have HE : Hid ((((x.tables[k].cols.take (j + 1)).filter (isEnB n)).map Co.name).map (dotT x.tables[k].name) = (((x.tables[k].cols.take j).filter (isEnB n)).map Co.name).map (dotT x.tables[k].name)) := by unfold Hid; rw [HP.out, hv, if_neg (by decide), List.append_nil]
            have hv' : (x.tables[k].cols[j].ty.kind == 4 && x.tables[k].cols[j].ty.name.toList == n.toList) = false := hv
            clear hv
            cases h4 : (x.tables[k].cols[j].ty.kind == 4) with
            | false =>
              go_wp2_with fail
              go_roundw
              case rel => exact ⟨j + 1, us', a8, c8, by omega, by go_num, rfl, by rw [HE.out]; exact HQ.out⟩
              case measure => simp [intOf]; omega
            | true =>
              rw [h4, Bool.true_and] at hv'
              go_wp2_with fail
              go_roundw
              case rel => exact ⟨j + 1, us', a8, c8, by omega, by go_num, rfl, by rw [HE.out]; exact HQ.out⟩
              case measure => simp [intOf]; omega
          | true =>
            have HE : Hid ((((x.tables[k].cols.take (j + 1)).filter (isEnB n)).map Co.name).map (dotT x.tables[k].name) = (((x.tables[k].cols.take j).filter (isEnB n)).map Co.name).map (dotT x.tables[k].name) ++ [dotT x.tables[k].name x.tables[k].cols[j].name]) := by unfold Hid; rw [HP.out, hv, if_pos rfl]
            have hv' : (x.tables[k].cols[j].ty.kind == 4 && x.tables[k].cols[j].ty.name.toList == n.toList) = true := hv
            rw [Bool.and_eq_true] at hv'
            obtain ⟨h4, h5⟩ := hv'
            have hcn : x.tables[k].cols[j].name ∈ enumF n k x.tables[k] := List.mem_map.2 ⟨_, List.mem_filter.2 ⟨List.getElem_mem hlj, hv⟩, rfl⟩
            have hcs : x.tables[k].cols[j].name.size ≤ 1048576 := hok.2 k hlt _ hcn
            have o1 : (ByteArray.mk #[46]).size = 1 := rfl
            have ad1 : ∀ W, (binOp .add 9 (.string x.tables[k].name) (.string ⟨#[46]⟩)).run Tryz.prog W = .ok (.string (x.tables[k].name ++ ⟨#[46]⟩)) W := fun W => by simp [binOp, run_string_add_sum W x.tables[k].name ⟨#[46]⟩ (by rw [o1]; omega)]
            have ad2 : ∀ W, (binOp .add 9 (.string (x.tables[k].name ++ ⟨#[46]⟩)) (.string x.tables[k].cols[j].name)).run Tryz.prog W = .ok (.string (dotT x.tables[k].name x.tables[k].cols[j].name)) W := fun W => by simp [binOp, dotT, run_string_add_sum W (x.tables[k].name ++ ⟨#[46]⟩) x.tables[k].cols[j].name (by rw [ByteArray.size_append, o1]; omega)]
            have as1 : ∀ W, (Op.stringOp .add x.tables[k].name ⟨#[46]⟩).run Tryz.prog W = .ok (.string (x.tables[k].name ++ ⟨#[46]⟩)) W := fun W => run_string_add_sum W _ _ (by rw [o1]; omega)
            have as2 : ∀ W, (Op.stringOp .add (x.tables[k].name ++ ⟨#[46]⟩) x.tables[k].cols[j].name).run Tryz.prog W = .ok (.string (dotT x.tables[k].name x.tables[k].cols[j].name)) W := fun W => run_string_add_sum W _ _ (by rw [ByteArray.size_append, o1]; omega)
            have hdz : (dotT x.tables[k].name x.tables[k].cols[j].name).size ≤ maxLen := by rw [dotT_size]; unfold maxLen; omega
            have hul : us'.length ≤ 4194304 := by
              have h1 := HQ.out.1.eq
              have h2 := putAll_len ys ((((x.tables[k].cols.take j).filter (isEnB n)).map Co.name).map (dotT x.tables[k].name))
              have h3 : (((x.tables[k].cols.take j).filter (isEnB n)).map Co.name).length ≤ (enumF n k x.tables[k]).length := by
                unfold enumF
                rw [List.length_map, List.length_map]
                exact (List.Sublist.filter _ (List.take_sublist j x.tables[k].cols)).length_le
              rw [← h1, List.length_map] at h2
              omega
            have hus : ∀ s ∈ us', s.size ≤ maxLen := by
              intro s hs
              rw [HQ.out.1.eq, putAll_mem] at hs
              rcases hs with hs | hs
              · have := HZL.out s hs; unfold maxLen; omega
              · obtain ⟨q, hq, rfl⟩ := List.mem_map.1 hs
                have hq2 : q ∈ enumF n k x.tables[k] := by
                  unfold enumF
                  obtain ⟨y, hy, rfl⟩ := List.mem_map.1 hq
                  refine List.mem_map.2 ⟨y, List.mem_filter.2 ⟨List.mem_of_mem_take (List.mem_filter.1 hy).1, (List.mem_filter.1 hy).2⟩, rfl⟩
                have := hok.2 k hlt _ hq2
                rw [dotT_size]; unfold maxLen; omega
            have HST := Lib.hid (HQ.out.1.own.strs hus)
            have hst : Hid (∀ W, Below wr.heap.size wr W → W.cell? ⟨wo.heap.size, 0, none⟩ = some (.string x.tables[k].name) ∧ W.cell? ⟨wo.heap.size, 1, none⟩ = some (.slice (some ⟨b1, off1, none⟩) x.tables[k].cols.length q0) ∧ W.cell? ⟨b1, off1 + j * 6, none⟩ = some (.string x.tables[k].cols[j].name)) :=
              fun W hb => ⟨(hb.cell (p := ⟨wo.heap.size, 0, none⟩) HQ.out.1.tbox.1).trans q0', (hb.cell (p := ⟨wo.heap.size, 1, none⟩) HQ.out.1.tbox.1).trans q1', (hb.cell (p := ⟨b1, off1 + j * 6, none⟩) hbl1).trans d0⟩
            clear hv hcn hus o1
            go_wp2_with fail
            go_region_held3 (fun w' => w'.cell? ⟨wo.heap.size, 0, none⟩ = some (.string x.tables[k].name) ∧ w'.cell? ⟨wo.heap.size, 1, none⟩ = some (.slice (some ⟨b1, off1, none⟩) x.tables[k].cols.length q0) ∧ w'.cell? ⟨b1, off1 + j * 6, none⟩ = some (.string x.tables[k].cols[j].name)) (first | assumption | exact ⟨q0', q1', d0⟩)
              ((go_at_call 24; refine (specPut a8 c8 us' (dotT x.tables[k].name x.tables[k].cols[j].name) _ (HST.out.below (below_drewN (Below.refl _ _) 1)) hdz hul).mono ?_; rintro e w2 ⟨a7, c7, rfl, own7, b7⟩; have hb7 : Below wr.heap.size wr w2 := (below_drewN (Below.refl _ _) 1).trans b7; have hq2 := hst.out w2 hb7; have HN := Lib.hid (And.intro (HQ.out.1.next own7 hb7) (HQ.out.2.trans (hb7.mono HQ.out.2.size))); clear own7 b7 hb7))
            go_wp2_with fail
            go_roundw
            case rel => exact ⟨j + 1, putL us' (dotT x.tables[k].name x.tables[k].cols[j].name), a7, c7, by omega, by go_num, rfl, by rw [HE.out]; exact HN.out⟩
            case measure => simp [intOf]; omega
        · obtain rfl : j = x.tables[k].cols.length := by omega
          have HE : Hid (us' = putAll [] (partsL (enumF n) 0 (x.tables.take (k + 1)))) := by
            unfold Hid
            rw [HTK.out, putAll_append, ← hS.out.1, hQ.out.1.eq, List.take_length]
            rfl
          go_wp2_with fail
          go_roundw
          case rel => exact ⟨k + 1, us', a8, c8, by omega, by go_num, rfl, HE.out, hQ.out.1.own, hQ.out.1.bel, hQ.out.1.pbox⟩
          case measure => simp [intOf]; omega
    · obtain rfl : k = x.tables.length := by omega
      go_wp2_with fail
      go_ret
      have h1 := hS.out.1
      rw [List.take_length, put_all] at h1
      subst h1
      exact ⟨a9, c9, rfl, hS.out.2.1, hS.out.2.2.1⟩

end Go.Proofs.YtjjdcdnaonfnmaaGreat
