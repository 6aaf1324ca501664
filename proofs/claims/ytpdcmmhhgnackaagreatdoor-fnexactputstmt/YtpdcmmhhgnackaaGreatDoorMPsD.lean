/- The model's l08Create: enumerations and tables. Written by tools/gen_ps.py. -/
import Derived.Test.YtpdcmmhhgnackaaGreatDoorMPsC
import Derived.Test.YtpdcmmhhgnackaaGreatDoorMTxtI
namespace Go.Proofs.YtpdcmmhhgnackaaGreatDoor
open Go.RowKit

theorem BoxV.keep {w w2 w3 : World} {vs : List Value} (h : BoxV w vs w2) (hb : Below (w.heap.size + 1) w2 w3) : BoxV w vs w3 :=
  ⟨h.1.belowB hb (by omega), h.2.trans (hb.mono (by omega))⟩

set_option maxRecDepth 100000 in
set_option maxHeartbeats 8000000 in
theorem specCreate_0 (name on : ByteArray) (list : List ByteArray) (num : Int) (flag : Bool) (ty : Ty) (cols : List Co) (rules : List Ru) (exprs : List Ex) (a0 a1 a2 a3 : Option Addr) (c0 c1 c2 c3 : Nat) (w : World) (hl : namesB list 12 = true) (HK : Hid (∀ w', Below w.heap.size w w' → Ss 0 w' a0 c0 list ∧ Sl 6 RCo 0 w' a1 c1 cols ∧ Sl 6 RRu 0 w' a2 c2 rules ∧ Ks 0 w' a3 c3 exprs)) (Zn : Hid (name.size ≤ 1048576)) (Zo : Hid (on.size ≤ 1048576)) (Zt : Hid (ty.name.size ≤ 1048576)) (Zc : Hid (∀ x ∈ cols, x.wt ≤ 1048576)) (Zr : Hid (∀ x ∈ rules, x.wt ≤ 1048576)) (Zx : Hid (∀ x ∈ exprs, x.wt ≤ 1048576)) (Zl : Hid (lets list ≤ 1048576)) (qn : nmB name = true) (r : ByteArray) (hr : joinT (parts_0 name on list num flag ty cols rules exprs) (txt [32]) = r) :
    Calls Tryz.prog 50 #[.agg #[.int .i64 0, .string name, .string on, .slice a0 list.length c0, .int .i64 num, .bool flag, .int .i64 ty.kind, .int .i64 ty.len, .string ty.name, .slice a1 cols.length c1, .slice a2 rules.length c2, .slice a3 exprs.length c3]] w fun e w' => e = .returned (.string r) ∧ Below w.heap.size w w' := by
  obtain ⟨i0, hi0, hi1⟩ := Option.map_eq_some_iff.1 Tryz.infoString
  have hz0 : i0.zero = some (.string ByteArray.empty) := (Prod.mk.inj hi1).1
  have hz1 : i0.size = 1 := (Prod.mk.inj (Prod.mk.inj hi1).2).1
  have hz2 : i0.bytes = 16 := (Prod.mk.inj (Prod.mk.inj hi1).2).2
  obtain ⟨n1, n2, n3⟩ := namesB_parts hl
  have HB := Lib.hid ((boxV_new w [.int .i64 0, .string name, .string on, .slice a0 list.length c0, .int .i64 num, .bool flag, .int .i64 ty.kind, .int .i64 ty.len, .string ty.name, .slice a1 cols.length c1, .slice a2 rules.length c2, .slice a3 exprs.length c3] 55).call ((Below.refl _ _).alloc (Nat.le_refl _) (.cells #[] 9)))
  obtain ⟨N, hN⟩ : ∃ N, nameT name = N := ⟨_, rfl⟩
  have zN : N.size ≤ 82 := by rw [← hN]; exact nameT_small qn
  have HN := Lib.hid hN
  have HZlist : Hid (∀ x ∈ list, (labS x).size ≤ 82) := fun x hx => labS_small (n3 x hx)
  have HLe : Hid (lets (list.map labS) ≤ list.length * 82) := lets_map labS list 82 fun s hs => labS_small (n3 s hs)
  have HN3 := Lib.hid n3
  obtain ⟨J, hJ⟩ : ∃ J, joinT (list.map labS) (txt [44, 32]) = J := ⟨_, rfl⟩
  have zJ : J.size ≤ 1010 := by
    rw [← hJ]
    have := joinT_le (list.map labS) 82 (by intro t ht; obtain ⟨u, hu, rfl⟩ := List.mem_map.1 ht; exact labS_small (n3 u hu))
    rw [List.length_map] at this
    omega
  have y1 : (ByteArray.mk #[99, 114, 101, 97, 116, 101, 32, 116, 121, 112, 101, 32]).size = 12 := rfl
  have y2 : (ByteArray.mk #[32, 97, 115, 32, 101, 110, 117, 109, 32, 40]).size = 10 := rfl
  have y3 : (ByteArray.mk #[41]).size = 1 := rfl
  obtain ⟨p1, hp1⟩ : ∃ p, p = (ByteArray.mk #[99, 114, 101, 97, 116, 101, 32, 116, 121, 112, 101, 32]) ++ N := ⟨_, rfl⟩
  have zp1 : p1.size ≤ 94 := by rw [hp1, ByteArray.size_append]; omega
  have adp1 := run_add Tryz.prog (ByteArray.mk #[99, 114, 101, 97, 116, 101, 32, 116, 121, 112, 101, 32]) N p1 hp1 (by omega)
  obtain ⟨p2, hp2⟩ : ∃ p, p = p1 ++ (ByteArray.mk #[32, 97, 115, 32, 101, 110, 117, 109, 32, 40]) := ⟨_, rfl⟩
  have zp2 : p2.size ≤ 104 := by rw [hp2, ByteArray.size_append]; omega
  have adp2 := run_add Tryz.prog p1 (ByteArray.mk #[32, 97, 115, 32, 101, 110, 117, 109, 32, 40]) p2 hp2 (by omega)
  obtain ⟨p3, hp3⟩ : ∃ p, p = p2 ++ J := ⟨_, rfl⟩
  have zp3 : p3.size ≤ 1114 := by rw [hp3, ByteArray.size_append]; omega
  have adp3 := run_add Tryz.prog p2 J p3 hp3 (by omega)
  obtain ⟨p4, hp4⟩ : ∃ p, p = p3 ++ (ByteArray.mk #[41]) := ⟨_, rfl⟩
  have zp4 : p4.size ≤ 1115 := by rw [hp4, ByteArray.size_append]; omega
  have adp4 := run_add Tryz.prog p3 (ByteArray.mk #[41]) p4 hp4 (by omega)
  have HV : Hid (r = p4) := by
    unfold Hid
    rw [← hr, hp4, hp3, hp2, hp1]
    unfold parts_0 parT
    simp only [List.cons_append, List.nil_append]
    rw [hN, hJ, joinT_cons, joinT_cons, joinT_cons, joinT_one]
    apply ba_ext
    simp only [ba_list, List.append_assoc]
    rfl
  have HJo : Hid (∀ W a c, Strs W a c (list.map labS) → Calls Tryz.prog 86 #[.slice a list.length c, .string (ByteArray.mk #[44, 32])] W fun e w' => e = .returned (.string J) ∧ Below W.heap.size W w') := by
    intro W a c h
    have h1 := specJoin a c (list.map labS) (txt [44, 32]) W h (by rw [List.length_map, show (txt [44, 32]).size = 2 from rfl]; have := HLe.out; omega)
    rw [List.length_map, hJ] at h1
    exact h1
  clear hr hN hJ hp1 hp2 hp3 hp4 n3
  go_enter Tryz.func50, Tryz.ntmps50
  go_wp2_with fail
  go_loopw [3, 4] (fun v i wr => ∃ (k : Nat) (a1' : Option Addr) (c1' : Nat) (l : List ByteArray), k ≤ list.length ∧ i = .int .i64 k ∧ v = .slice a1' l.length c1' ∧ Hid (l = (list.take k).map labS ∧ Own wr (w.heap.size + 1) a1' c1' l) ∧ Hid (BoxV w [.int .i64 0, .string name, .string on, .slice a0 list.length c0, .int .i64 num, .bool flag, .int .i64 ty.kind, .int .i64 ty.len, .string ty.name, .slice a1 cols.length c1, .slice a2 rules.length c2, .slice a3 exprs.length c3] wr)) (fun _ i _ => list.length - (intOf i).toNat)
  case atStart => exact ⟨0, some ⟨w.heap.size + 1, 0, none⟩, 0, [], Nat.zero_le _, rfl, rfl, ⟨rfl, by have := ownEmpty (w.alloc (.cells #[.int .i64 0, .string name, .string on, .slice a0 list.length c0, .int .i64 num, .bool flag, .int .i64 ty.kind, .int .i64 ty.len, .string ty.name, .slice a1 cols.length c1, .slice a2 rules.length c2, .slice a3 exprs.length c3] 55)); simpa using this⟩, HB⟩
  case round =>
    obtain ⟨k, b1, d1, l, hk, rfl, rfl, hown, HBX⟩ := hrel
    have hbs : w.heap.size < wr.heap.size := HBX.out.1.1
    have g3 : wr.cell? ⟨w.heap.size, 3, none⟩ = some (.slice a0 list.length c0) := (HBX.out.1.2 3 (by simp)).1
    by_cases hlt : k < list.length
    · have hltI : (k : Int) < (list.length : Int) := by omega
      obtain ⟨b, off, haddr, hbl, hcs⟩ := (HK.out _ HBX.out.2).1.1.spot hlt
      subst haddr
      have hc0 : wr.cell? ⟨b, off + k, none⟩ = some (.string list[k]) := hcs
      have hll : l.length = k := by rw [hown.out.1]; simp; omega
      obtain ⟨N1, hN1⟩ : ∃ N, labS list[k] = N := ⟨_, rfl⟩
      have hNm : N1.size ≤ maxLen := by rw [← hN1]; have := HZlist.out _ (List.getElem_mem hlt); unfold maxLen; omega
      have HNN := Lib.hid hN1
      have HLN : Hid (l ++ [N1] = (list.take (k + 1)).map labS) := by unfold Hid; rw [hown.out.1, List.take_succ_eq_append_getElem hlt, List.map_append, ← hN1]; simp
      have HO := Lib.hid hown.out.2
      have HL := Lib.hid hll
      clear hown hN1 hll
      go_wp2_with fail
      have hqt := fun W => specQuote list[k] 39 W (by have := nmB_size (HN3.out _ (List.getElem_mem hlt)); omega)
      rw [show quoteT list[k] 39 = N1 from HNN.out] at hqt
      refine (hqt _).mono ?_
      rintro e w2 ⟨rfl, b2⟩
      have B2 := Lib.hid (HBX.out.call b2)
      have HO2 := Lib.hid (HO.out.below b2)
      have hsz2 : w.heap.size < w2.heap.size := B2.out.1.1
      clear b2 g3
      go_wp2_with (at_builtin; refine wpAppendStrs rfl _ _ rfl i0 hi0 hz0 hz1 hz2 (w.heap.size + 1) b1 d1 l (some ⟨_, 0, none⟩) 1 [N1] rfl (HO2.out.alloc _) rfl (strsOne _ _ hNm) (by have := HL.out; simp only [List.length_cons, List.length_nil]; omega) (by simp; omega) ?_; intro a3 c3 w3 hown3 hg3)
      have B3 := Lib.hid (B2.out.keep (appended (Below.refl (w.heap.size + 1) w2) (by omega) HO2.out hg3))
      have HO3 := Lib.hid hown3
      clear hown3 hg3
      go_roundw
      case rel => exact ⟨k + 1, a3, c3, l ++ [N1], by omega, by go_num, by rw [List.length_append]; rfl, ⟨HLN.out, HO3.out⟩, B3⟩
      case measure => simp [intOf]; omega
    · obtain rfl : k = list.length := by omega
      have hll : l = list.map labS := by have := hown.out.1; rwa [List.take_length] at this
      have hle : l.length = list.length := by rw [hll, List.length_map]
      have HST : Hid (Strs wr b1 d1 (list.map labS)) := by
        unfold Hid
        rw [← hll]
        refine hown.out.2.strs fun s hs => ?_
        rw [hll] at hs
        obtain ⟨u, hu, rfl⟩ := List.mem_map.1 hs
        have := HZlist.out u hu
        unfold maxLen
        omega
      rw [hle]
      clear hown hll hle
      have g1 : wr.cell? ⟨w.heap.size, 1, none⟩ = some (.string name) := (HBX.out.1.2 1 (by simp)).1
      go_wp2_with fail
      refine (specPutName name _ Zn.out N HN.out).mono ?_
      rintro e w5 ⟨rfl, b5⟩
      have B5 := Lib.hid (HBX.out.call b5)
      have HS5 := Lib.hid (HST.out.below b5)
      clear b5
      go_wp2_with fail
      refine (HJo.out _ b1 d1 HS5.out).mono ?_
      rintro e w6 ⟨rfl, b6⟩
      have B6 := Lib.hid (B5.out.call b6)
      clear b6
      go_wp2_with fail
      go_ret
      exact ⟨by rw [HV.out] <;> rfl, B6.out.2⟩

set_option maxRecDepth 100000 in
set_option maxHeartbeats 8000000 in
theorem specCreate_4 (name on : ByteArray) (list : List ByteArray) (num : Int) (flag : Bool) (ty : Ty) (cols : List Co) (rules : List Ru) (exprs : List Ex) (a0 a1 a2 a3 : Option Addr) (c0 c1 c2 c3 : Nat) (w : World) (hcl : cols.length ≤ 12) (hrl : rules.length ≤ 8) (hca : ∀ x ∈ cols, colB x = true) (hra : ∀ x ∈ rules, ruleB x = true) (HK : Hid (∀ w', Below w.heap.size w w' → Ss 0 w' a0 c0 list ∧ Sl 6 RCo 0 w' a1 c1 cols ∧ Sl 6 RRu 0 w' a2 c2 rules ∧ Ks 0 w' a3 c3 exprs)) (Zn : Hid (name.size ≤ 1048576)) (Zo : Hid (on.size ≤ 1048576)) (Zt : Hid (ty.name.size ≤ 1048576)) (Zc : Hid (∀ x ∈ cols, x.wt ≤ 1048576)) (Zr : Hid (∀ x ∈ rules, x.wt ≤ 1048576)) (Zx : Hid (∀ x ∈ exprs, x.wt ≤ 1048576)) (qn : nmB name = true) (r : ByteArray) (hr : joinT (parts_4 name on list num flag ty cols rules exprs) (txt [32]) = r) :
    Calls Tryz.prog 50 #[.agg #[.int .i64 4, .string name, .string on, .slice a0 list.length c0, .int .i64 num, .bool flag, .int .i64 ty.kind, .int .i64 ty.len, .string ty.name, .slice a1 cols.length c1, .slice a2 rules.length c2, .slice a3 exprs.length c3]] w fun e w' => e = .returned (.string r) ∧ Below w.heap.size w w' := by
  obtain ⟨i0, hi0, hi1⟩ := Option.map_eq_some_iff.1 Tryz.infoString
  have hz0 : i0.zero = some (.string ByteArray.empty) := (Prod.mk.inj hi1).1
  have hz1 : i0.size = 1 := (Prod.mk.inj (Prod.mk.inj hi1).2).1
  have hz2 : i0.bytes = 16 := (Prod.mk.inj (Prod.mk.inj hi1).2).2
  have HB := Lib.hid ((boxV_new w [.int .i64 4, .string name, .string on, .slice a0 list.length c0, .int .i64 num, .bool flag, .int .i64 ty.kind, .int .i64 ty.len, .string ty.name, .slice a1 cols.length c1, .slice a2 rules.length c2, .slice a3 exprs.length c3] 55).call ((Below.refl _ _).alloc (Nat.le_refl _) (.cells #[] 9)))
  obtain ⟨N, hN⟩ : ∃ N, nameT name = N := ⟨_, rfl⟩
  have zN : N.size ≤ 82 := by rw [← hN]; exact nameT_small qn
  have HN := Lib.hid hN
  have HZcols : Hid (∀ x ∈ cols, (colT x).size ≤ 9000) := fun x hx => colT_small (hca x hx)
  have HZrules : Hid (∀ x ∈ rules, (ruleT x).size ≤ 20000) := fun x hx => ruleT_small (hra x hx)
  have hall : ∀ t ∈ cols.map colT ++ rules.map ruleT, t.size ≤ 20000 := by
    intro t ht
    rcases List.mem_append.1 ht with h | h
    · obtain ⟨u, hu, rfl⟩ := List.mem_map.1 h
      have := HZcols.out u hu
      omega
    · obtain ⟨u, hu, rfl⟩ := List.mem_map.1 h
      exact HZrules.out u hu
  obtain ⟨J, hJ⟩ : ∃ J, joinT (cols.map colT ++ rules.map ruleT) (txt [44, 32]) = J := ⟨_, rfl⟩
  have hLen : (cols.map colT ++ rules.map ruleT).length = cols.length + rules.length := by simp
  have zJ : J.size ≤ 1000000 := by
    rw [← hJ]
    have := joinT_le _ 20000 hall
    rw [hLen] at this
    omega
  have y1 : (ByteArray.mk #[99, 114, 101, 97, 116, 101, 32, 116, 97, 98, 108, 101, 32]).size = 13 := rfl
  have y2 : (ByteArray.mk #[32, 40]).size = 2 := rfl
  have y3 : (ByteArray.mk #[41]).size = 1 := rfl
  obtain ⟨p1, hp1⟩ : ∃ p, p = (ByteArray.mk #[99, 114, 101, 97, 116, 101, 32, 116, 97, 98, 108, 101, 32]) ++ N := ⟨_, rfl⟩
  have zp1 : p1.size ≤ 95 := by rw [hp1, ByteArray.size_append]; omega
  have adp1 := run_add Tryz.prog (ByteArray.mk #[99, 114, 101, 97, 116, 101, 32, 116, 97, 98, 108, 101, 32]) N p1 hp1 (by omega)
  obtain ⟨p2, hp2⟩ : ∃ p, p = p1 ++ (ByteArray.mk #[32, 40]) := ⟨_, rfl⟩
  have zp2 : p2.size ≤ 97 := by rw [hp2, ByteArray.size_append]; omega
  have adp2 := run_add Tryz.prog p1 (ByteArray.mk #[32, 40]) p2 hp2 (by omega)
  obtain ⟨p3, hp3⟩ : ∃ p, p = p2 ++ J := ⟨_, rfl⟩
  have zp3 : p3.size ≤ 1000097 := by rw [hp3, ByteArray.size_append]; omega
  have adp3 := run_add Tryz.prog p2 J p3 hp3 (by omega)
  obtain ⟨p4, hp4⟩ : ∃ p, p = p3 ++ (ByteArray.mk #[41]) := ⟨_, rfl⟩
  have zp4 : p4.size ≤ 1000098 := by rw [hp4, ByteArray.size_append]; omega
  have adp4 := run_add Tryz.prog p3 (ByteArray.mk #[41]) p4 hp4 (by omega)
  have HV : Hid (r = p4) := by
    unfold Hid
    rw [← hr, hp4, hp3, hp2, hp1]
    unfold parts_4 parT
    simp only [List.cons_append, List.nil_append]
    rw [hN, hJ, joinT_cons, joinT_cons, joinT_one]
    apply ba_ext
    simp only [ba_list, List.append_assoc]
    rfl
  have HJo : Hid (∀ W a c, Strs W a c (cols.map colT ++ rules.map ruleT) → Calls Tryz.prog 86 #[.slice a (cols.length + rules.length) c, .string (ByteArray.mk #[44, 32])] W fun e w' => e = .returned (.string J) ∧ Below W.heap.size W w') := by
    intro W a c h
    have h2 := lets_leq _ 20000 hall
    have h1 := specJoin a c (cols.map colT ++ rules.map ruleT) (txt [44, 32]) W h (by rw [hLen, show (txt [44, 32]).size = 2 from rfl]; rw [hLen] at h2; omega)
    rw [hLen, hJ] at h1
    exact h1
  have HALL := Lib.hid hall
  clear hr hN hJ hp1 hp2 hp3 hp4 hall hLen hca hra
  go_enter Tryz.func50, Tryz.ntmps50
  go_wp2_with fail
  go_loopw [3, 5] (fun v i wr => ∃ (k : Nat) (a1' : Option Addr) (c1' : Nat) (l : List ByteArray), k ≤ cols.length ∧ i = .int .i64 k ∧ v = .slice a1' l.length c1' ∧ Hid (l = (cols.take k).map colT ∧ Own wr (w.heap.size + 1) a1' c1' l) ∧ Hid (BoxV w [.int .i64 4, .string name, .string on, .slice a0 list.length c0, .int .i64 num, .bool flag, .int .i64 ty.kind, .int .i64 ty.len, .string ty.name, .slice a1 cols.length c1, .slice a2 rules.length c2, .slice a3 exprs.length c3] wr)) (fun _ i _ => cols.length - (intOf i).toNat)
  case atStart => exact ⟨0, some ⟨w.heap.size + 1, 0, none⟩, 0, [], Nat.zero_le _, rfl, rfl, ⟨rfl, by have := ownEmpty (w.alloc (.cells #[.int .i64 4, .string name, .string on, .slice a0 list.length c0, .int .i64 num, .bool flag, .int .i64 ty.kind, .int .i64 ty.len, .string ty.name, .slice a1 cols.length c1, .slice a2 rules.length c2, .slice a3 exprs.length c3] 55)); simpa using this⟩, HB⟩
  case round =>
    obtain ⟨k, b1, d1, l, hk, rfl, rfl, hown, HBX⟩ := hrel
    have hbs : w.heap.size < wr.heap.size := HBX.out.1.1
    have g9 : wr.cell? ⟨w.heap.size, 9, none⟩ = some (.slice a1 cols.length c1) := (HBX.out.1.2 9 (by simp)).1
    by_cases hlt : k < cols.length
    · have hltI : (k : Int) < (cols.length : Int) := by omega
      obtain ⟨b, off, vsk, haddr, hbl, hcs, hRk⟩ := (HK.out _ HBX.out.2).2.1.spot hlt
      have HRk := Lib.hid hRk
      obtain ⟨x0, y0, rfl, _⟩ := hRk
      subst haddr
      have hc0 : wr.cell? ⟨b, off + k * 6, none⟩ = some (.string cols[k].name) := hcs 0 (by simp)
      have hc1 : wr.cell? ⟨b, off + k * 6 + 1, none⟩ = some (.int .i64 cols[k].ty.kind) := hcs 1 (by simp)
      have hc2 : wr.cell? ⟨b, off + k * 6 + 2, none⟩ = some (.int .i64 cols[k].ty.len) := hcs 2 (by simp)
      have hc3 : wr.cell? ⟨b, off + k * 6 + 3, none⟩ = some (.string cols[k].ty.name) := hcs 3 (by simp)
      have hc4 : wr.cell? ⟨b, off + k * 6 + 4, none⟩ = some (.bool cols[k].notNull) := hcs 4 (by simp)
      have hc5 : wr.cell? ⟨b, off + k * 6 + 5, none⟩ = some (.slice x0 cols[k].dflt.length y0) := hcs 5 (by simp)
      have hll : l.length = k := by rw [hown.out.1]; simp; omega
      obtain ⟨N1, hN1⟩ : ∃ N, colT cols[k] = N := ⟨_, rfl⟩
      have hNm : N1.size ≤ maxLen := by rw [← hN1]; have := HZcols.out _ (List.getElem_mem hlt); unfold maxLen; omega
      have HNN := Lib.hid hN1
      have HLN : Hid (l ++ [N1] = (cols.take (k + 1)).map colT) := by unfold Hid; rw [hown.out.1, List.take_succ_eq_append_getElem hlt, List.map_append, ← hN1]; simp
      have HO := Lib.hid hown.out.2
      have HL := Lib.hid hll
      clear hown hN1 hll hcs
      go_wp2_with fail
      refine (specPutCol _ cols[k] _ HRk.out (Zc.out _ (List.getElem_mem hlt)) N1 HNN.out).mono ?_
      rintro e w2 ⟨rfl, b2⟩
      have B2 := Lib.hid (HBX.out.call b2)
      have HO2 := Lib.hid (HO.out.below b2)
      have hsz2 : w.heap.size < w2.heap.size := B2.out.1.1
      clear b2 g9
      go_wp2_with (at_builtin; refine wpAppendStrs rfl _ _ rfl i0 hi0 hz0 hz1 hz2 (w.heap.size + 1) b1 d1 l (some ⟨_, 0, none⟩) 1 [N1] rfl (HO2.out.alloc _) rfl (strsOne _ _ hNm) (by have := HL.out; simp only [List.length_cons, List.length_nil]; omega) (by simp; omega) ?_; intro a3 c3 w3 hown3 hg3)
      have B3 := Lib.hid (B2.out.keep (appended (Below.refl (w.heap.size + 1) w2) (by omega) HO2.out hg3))
      have HO3 := Lib.hid hown3
      clear hown3 hg3
      go_roundw
      case rel => exact ⟨k + 1, a3, c3, l ++ [N1], by omega, by go_num, by rw [List.length_append]; rfl, ⟨HLN.out, HO3.out⟩, B3⟩
      case measure => simp [intOf]; omega
    · obtain rfl : k = cols.length := by omega
      have hll : l = cols.map colT := by have := hown.out.1; rwa [List.take_length] at this
      have hle : l.length = cols.length := by rw [hll, List.length_map]
      have HO0 := Lib.hid hown.out.2
      have HLL := Lib.hid hll
      have HLE := Lib.hid hle
      clear hown hll hle
      go_wp2_with fail
      clear g9
      go_loopw [3, 6] (fun v i wr => ∃ (k : Nat) (a1' : Option Addr) (c1' : Nat) (l : List ByteArray), k ≤ rules.length ∧ i = .int .i64 k ∧ v = .slice a1' l.length c1' ∧ Hid (l = cols.map colT ++ (rules.take k).map ruleT ∧ Own wr (w.heap.size + 1) a1' c1' l) ∧ Hid (BoxV w [.int .i64 4, .string name, .string on, .slice a0 list.length c0, .int .i64 num, .bool flag, .int .i64 ty.kind, .int .i64 ty.len, .string ty.name, .slice a1 cols.length c1, .slice a2 rules.length c2, .slice a3 exprs.length c3] wr)) (fun _ i _ => rules.length - (intOf i).toNat)
      case atStart => exact ⟨0, b1, d1, l, Nat.zero_le _, rfl, rfl, ⟨by rw [HLL.out]; simp, HO0.out⟩, HBX⟩
      case round =>
        obtain ⟨k, b1, d1, l, hk, rfl, rfl, hown, HBX⟩ := hrel
        have hbs : w.heap.size < wr.heap.size := HBX.out.1.1
        have g10 : wr.cell? ⟨w.heap.size, 10, none⟩ = some (.slice a2 rules.length c2) := (HBX.out.1.2 10 (by simp)).1
        by_cases hlt : k < rules.length
        · have hltI : (k : Int) < (rules.length : Int) := by omega
          obtain ⟨b, off, vsk, haddr, hbl, hcs, hRk⟩ := (HK.out _ HBX.out.2).2.2.1.spot hlt
          have HRk := Lib.hid hRk
          obtain ⟨x0, y0, x1, y1, x2, y2, rfl, _⟩ := hRk
          subst haddr
          have hc0 : wr.cell? ⟨b, off + k * 6, none⟩ = some (.string rules[k].name) := hcs 0 (by simp)
          have hc1 : wr.cell? ⟨b, off + k * 6 + 1, none⟩ = some (.int .i64 rules[k].kind) := hcs 1 (by simp)
          have hc2 : wr.cell? ⟨b, off + k * 6 + 2, none⟩ = some (.slice x0 rules[k].cols.length y0) := hcs 2 (by simp)
          have hc3 : wr.cell? ⟨b, off + k * 6 + 3, none⟩ = some (.slice x1 rules[k].expr.length y1) := hcs 3 (by simp)
          have hc4 : wr.cell? ⟨b, off + k * 6 + 4, none⟩ = some (.string rules[k].table) := hcs 4 (by simp)
          have hc5 : wr.cell? ⟨b, off + k * 6 + 5, none⟩ = some (.slice x2 rules[k].to.length y2) := hcs 5 (by simp)
          have hll : l.length = cols.length + k := by rw [hown.out.1]; simp; omega
          obtain ⟨N1, hN1⟩ : ∃ N, ruleT rules[k] = N := ⟨_, rfl⟩
          have hNm : N1.size ≤ maxLen := by rw [← hN1]; have := HZrules.out _ (List.getElem_mem hlt); unfold maxLen; omega
          have HNN := Lib.hid hN1
          have HLN : Hid (l ++ [N1] = cols.map colT ++ (rules.take (k + 1)).map ruleT) := by unfold Hid; rw [hown.out.1, List.take_succ_eq_append_getElem hlt, List.map_append, ← hN1]; simp
          have HO := Lib.hid hown.out.2
          have HL := Lib.hid hll
          clear hown hN1 hll hcs
          go_wp2_with fail
          refine (specPutRule _ rules[k] _ HRk.out (Zr.out _ (List.getElem_mem hlt)) N1 HNN.out).mono ?_
          rintro e w2 ⟨rfl, b2⟩
          have B2 := Lib.hid (HBX.out.call b2)
          have HO2 := Lib.hid (HO.out.below b2)
          have hsz2 : w.heap.size < w2.heap.size := B2.out.1.1
          clear b2 g10
          go_wp2_with (at_builtin; refine wpAppendStrs rfl _ _ rfl i0 hi0 hz0 hz1 hz2 (w.heap.size + 1) b1 d1 l (some ⟨_, 0, none⟩) 1 [N1] rfl (HO2.out.alloc _) rfl (strsOne _ _ hNm) (by have := HL.out; simp only [List.length_cons, List.length_nil]; omega) (by simp; omega) ?_; intro a3 c3 w3 hown3 hg3)
          have B3 := Lib.hid (B2.out.keep (appended (Below.refl (w.heap.size + 1) w2) (by omega) HO2.out hg3))
          have HO3 := Lib.hid hown3
          clear hown3 hg3
          go_roundw
          case rel => exact ⟨k + 1, a3, c3, l ++ [N1], by omega, by go_num, by rw [List.length_append]; rfl, ⟨HLN.out, HO3.out⟩, B3⟩
          case measure => simp [intOf]; omega
        · obtain rfl : k = rules.length := by omega
          have hll : l = cols.map colT ++ rules.map ruleT := by have := hown.out.1; rwa [List.take_length] at this
          have hle : l.length = cols.length + rules.length := by rw [hll]; simp
          have HST : Hid (Strs wr b1 d1 (cols.map colT ++ rules.map ruleT)) := by
            unfold Hid
            rw [← hll]
            refine hown.out.2.strs fun s hs => ?_
            rw [hll] at hs
            have := HALL.out s hs
            unfold maxLen
            omega
          rw [hle]
          clear hown hll hle
          have g1 : wr.cell? ⟨w.heap.size, 1, none⟩ = some (.string name) := (HBX.out.1.2 1 (by simp)).1
          go_wp2_with fail
          refine (specPutName name _ Zn.out N HN.out).mono ?_
          rintro e w5 ⟨rfl, b5⟩
          have B5 := Lib.hid (HBX.out.call b5)
          have HS5 := Lib.hid (HST.out.below b5)
          clear b5
          go_wp2_with fail
          refine (HJo.out _ b1 d1 HS5.out).mono ?_
          rintro e w6 ⟨rfl, b6⟩
          have B6 := Lib.hid (B5.out.call b6)
          clear b6
          go_wp2_with fail
          go_ret
          exact ⟨by rw [HV.out] <;> rfl, B6.out.2⟩

end Go.Proofs.YtpdcmmhhgnackaaGreatDoor
