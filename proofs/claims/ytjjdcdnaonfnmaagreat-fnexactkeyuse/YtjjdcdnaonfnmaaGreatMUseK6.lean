/- spec.KeyUse. Written by tools/gen_useK6.py. -/
import Derived.Test.YtjjdcdnaonfnmaaGreatMUseK3
import Derived.Test.YtjjdcdnaonfnmaaGreatMUseTS
namespace Go.Proofs.YtjjdcdnaonfnmaaGreat
open Go.RowKit

theorem key_step (p : Ru → Bool) (t : Tb) (j : Nat) (h : j < t.rules.length) : (((t.rules.take (j + 1)).filter p).map Ru.name).map (dotT t.name) = (((t.rules.take j).filter p).map Ru.name).map (dotT t.name) ++ (if p t.rules[j] = true then [dotT t.name t.rules[j].name] else []) := by
  rw [take_filter _ _ _ h, List.map_append, List.map_append]
  split <;> simp

theorem few_parts {f : Nat → Tb → List ByteArray} {x : Pl} (hl : (partsL f 0 x.tables).length ≤ 1048576) (hz : ∀ s ∈ partsL f 0 x.tables, s.size ≤ 1048576) (k : Nat) (hk : k < x.tables.length) (Y : List ByteArray)
    (hY : Y.Sublist ((f k x.tables[k]).map (dotT x.tables[k].name))) : Few (partsL f 0 (x.tables.take k) ++ Y) := by
  have h1 : (partsL f 0 (x.tables.take k) ++ Y).Sublist (partsL f 0 (x.tables.take (k + 1))) := by
    rw [partsL_take f x.tables k hk]
    exact List.Sublist.append (List.Sublist.refl _) hY
  have h2 : (partsL f 0 (x.tables.take (k + 1))).Sublist (partsL f 0 x.tables) := by
    have this := partsL_split f (x.tables.take (k + 1)) (x.tables.drop (k + 1)) 0
    rw [List.take_append_drop] at this
    rw [this]
    exact List.sublist_append_left _ _
  have h3 := h1.trans h2
  exact ⟨Nat.le_trans h3.length_le hl, fun s hs => hz s (h3.subset hs)⟩

theorem SQ.keep {w wo : World} {PV TV : List Value} {Y Z : List ByteArray} {ys : List ByteArray} {a' : Option Addr} {c' : Nat} {wr : World} (h : SQ w wo PV TV Y Z ys a' c' wr) {w2 : World} (hb : Below wr.heap.size wr w2) : SQ w wo PV TV Y Z ys a' c' w2 :=
  ⟨h.eq, h.own.below hb, h.bel.trans (hb.mono h.bel.size), h.pbox.below hb, h.tbox.below hb⟩

theorem key_sub (tb : ByteArray) (cols : List ByteArray) (m : Nat) (t : Tb) (l : Nat) : ((((t.rules.take l).filter (isToB tb cols)).map Ru.name).map (dotT t.name)).Sublist ((keyF tb cols m t).map (dotT t.name)) :=
  (((List.take_sublist l t.rules).filter _).map _).map _

set_option maxRecDepth 100000 in
set_option maxHeartbeats 16000000 in
theorem specKeyUse (vs : List Value) (x : Pl) (tb rl : ByteArray) (w : World) (hR : RPl 0 w vs x) (hn : x.wt ≤ 1048576) :
    Calls Tryz.prog 17 #[.agg vs.toArray, .string tb, .string rl] w (NewStrs w (risingU (keyL x tb rl))) := by
  have HR := Lib.hid hR
  obtain ⟨a0, c0, a1, c1, a2, c2, a3, c3, a4, c4, rfl, _, _, _, k2, _, _⟩ := hR
  have hl := k2.len
  have K2 := Lib.hid (fun w' (hb : Below w.heap.size w w') => k2.kept goodTb (Kept.below hb))
  have hba : Below w.heap.size w ((w.alloc (.cells #[.slice a0 x.enums.length c0, .slice a1 x.seqs.length c1, .slice a2 x.tables.length c2, .slice a3 x.indexes.length c3, .slice a4 x.views.length c4, .int .i64 x.next] 38)).alloc (.cells #[] 9)) := below2 _ _ _
  have A0 := (blk_new w 38 [.slice a0 x.enums.length c0, .slice a1 x.seqs.length c1, .slice a2 x.tables.length c2, .slice a3 x.indexes.length c3, .slice a4 x.views.length c4, .int .i64 x.next]).alloc (.cells #[] 9)
  have hown0 := ownEmpty (w.alloc (.cells #[.slice a0 x.enums.length c0, .slice a1 x.seqs.length c1, .slice a2 x.tables.length c2, .slice a3 x.indexes.length c3, .slice a4 x.views.length c4, .int .i64 x.next] 38))
  have hz1 : (w.alloc (.cells #[.slice a0 x.enums.length c0, .slice a1 x.seqs.length c1, .slice a2 x.tables.length c2, .slice a3 x.indexes.length c3, .slice a4 x.views.length c4, .int .i64 x.next] 38)).heap.size = w.heap.size + 1 := by simp
  rw [hz1] at hown0
  have HQ0 := Lib.hid (show SQ w w [.slice a0 x.enums.length c0, .slice a1 x.seqs.length c1, .slice a2 x.tables.length c2, .slice a3 x.indexes.length c3, .slice a4 x.views.length c4, .int .i64 x.next] [.slice a0 x.enums.length c0, .slice a1 x.seqs.length c1, .slice a2 x.tables.length c2, .slice a3 x.indexes.length c3, .slice a4 x.views.length c4, .int .i64 x.next] [] [] [] _ 0 _ from ⟨rfl, hown0.lower (B' := w.heap.size) (by omega), hba, A0, A0⟩)
  have HRW := Lib.hid (goodPl.kept HR.out (Kept.below hba))
  clear k2 hba hown0 hz1 A0
  go_enter Tryz.func17, Tryz.ntmps17
  go_wp2_with fail
  refine (specTableAt _ x tb _ HRW.out).mono ?_
  rintro e w2 ⟨rfl, b2⟩
  have HQ2 : Hid (SQ w w [.slice a0 x.enums.length c0, .slice a1 x.seqs.length c1, .slice a2 x.tables.length c2, .slice a3 x.indexes.length c3, .slice a4 x.views.length c4, .int .i64 x.next] [.slice a0 x.enums.length c0, .slice a1 x.seqs.length c1, .slice a2 x.tables.length c2, .slice a3 x.indexes.length c3, .slice a4 x.views.length c4, .int .i64 x.next] [] [] [] _ 0 w2) := ⟨rfl, HQ0.out.own.below b2, HQ0.out.bel.trans (b2.mono HQ0.out.bel.size), HQ0.out.pbox.below b2, HQ0.out.pbox.below b2⟩
  clear b2 HQ0 HRW
  rcases find_or Tb.name x.tables tb with hf | ⟨i, hi, hf⟩
  · have HE : Hid (risingU (keyL x tb rl) = []) := by unfold Hid; rw [keyL_none (noTable hf), ris_none]
    rw [hf]
    go_wp2_with fail
    go_ret
    rw [HE.out]
    exact ⟨_, 0, rfl, HQ2.out.own, HQ2.out.bel⟩
  · rw [hf]
    have hi0 : (0 : Int) ≤ (i : Int) := by omega
    have hi1 : (i : Int) < (x.tables.length : Int) := by omega
    obtain ⟨b, off, us, ha2, hbl, hcs, hT⟩ := (K2.out _ HQ2.out.bel).spot hi
    have g2 : w2.cell? ⟨w.heap.size, 2, none⟩ = some (.slice (some ⟨b, off, none⟩) x.tables.length c2) := by rw [← ha2]; exact (HQ2.out.pbox.2 2 (by simp)).1
    have HA2 := Lib.hid ha2
    clear ha2
    have HT := Lib.hid hT
    obtain ⟨p0, q0, p1, q1, rfl, _, _, kr⟩ := hT
    have d0 : w2.cell? ⟨b, off + i * 4, none⟩ = some (.string x.tables[i].name) := hcs 0 (by simp)
    have d1 : w2.cell? ⟨b, off + i * 4 + 1, none⟩ = some (.slice p0 x.tables[i].cols.length q0) := hcs 1 (by simp)
    have d2 : w2.cell? ⟨b, off + i * 4 + 2, none⟩ = some (.slice p1 x.tables[i].rules.length q1) := hcs 2 (by simp)
    have d3 : w2.cell? ⟨b, off + i * 4 + 3, none⟩ = some (.int .i64 x.tables[i].token) := hcs 3 (by simp)
    have BT : Hid (Below w2.heap.size w2 (w2.alloc (.cells #[.string x.tables[i].name, .slice p0 x.tables[i].cols.length q0, .slice p1 x.tables[i].rules.length q1, .int .i64 x.tables[i].token] 55))) := (Below.refl _ _).alloc (Nat.le_refl _) _
    have HTB := Lib.hid (blk_new w2 55 [.string x.tables[i].name, .slice p0 x.tables[i].cols.length q0, .slice p1 x.tables[i].rules.length q1, .int .i64 x.tables[i].token])
    have HT3 := Lib.hid (goodTb.kept HT.out (Kept.below BT.out))
    have hlr := kr.len
    have KR := Lib.hid (fun w' (hb : Below w2.heap.size w2 w') => kr.kept goodRu (Kept.below hb))
    clear hcs kr
    go_wp2_with fail
    refine (specRuleAt _ x.tables[i] rl _ HT3.out).mono ?_
    rintro e w4 ⟨rfl, b4⟩
    have HTB4 := Lib.hid (HTB.out.below b4)
    have B4 := Lib.hid (BT.out.trans (b4.mono BT.out.size))
    have HQ4 : Hid (SQ w w [.slice a0 x.enums.length c0, .slice a1 x.seqs.length c1, .slice a2 x.tables.length c2, .slice a3 x.indexes.length c3, .slice a4 x.views.length c4, .int .i64 x.next] [.slice a0 x.enums.length c0, .slice a1 x.seqs.length c1, .slice a2 x.tables.length c2, .slice a3 x.indexes.length c3, .slice a4 x.views.length c4, .int .i64 x.next] [] [] [] _ 0 w4) := ⟨rfl, HQ2.out.own.below B4.out, HQ2.out.bel.trans (B4.out.mono HQ2.out.bel.size), HQ2.out.pbox.below B4.out, HQ2.out.pbox.below B4.out⟩
    clear b4 HTB BT HT3
    rcases find_or Ru.name x.tables[i].rules rl with hg | ⟨j, hj, hg⟩
    · have HE : Hid (risingU (keyL x tb rl) = []) := by unfold Hid; rw [keyL_none (noRule hf hg), ris_none]
      rw [hg]
      go_wp2_with fail
      go_ret
      rw [HE.out]
      exact ⟨_, 0, rfl, HQ4.out.own, HQ4.out.bel⟩
    · rw [hg]
      have hj0 : (0 : Int) ≤ (j : Int) := by omega
      have hj1 : (j : Int) < (x.tables[i].rules.length : Int) := by omega
      obtain ⟨b1, off1, us, hp1, hbl1, hcs, hRj⟩ := (KR.out _ B4.out).spot hj
      subst hp1
      obtain ⟨u0, v0, u1, v1, u2, v2, rfl, _, hcj, _⟩ := hRj
      have HCJ := Lib.hid hcj.1
      have s2 : w4.cell? ⟨w2.heap.size, 2, none⟩ = some (.slice (some ⟨b1, off1, none⟩) x.tables[i].rules.length q1) := (HTB4.out.2 2 (by simp)).1
      have j1 : w4.cell? ⟨b1, off1 + j * 6 + 1, none⟩ = some (.int .i64 x.tables[i].rules[j].kind) := hcs 1 (by simp)
      have j2 : w4.cell? ⟨b1, off1 + j * 6 + 2, none⟩ = some (.slice u0 x.tables[i].rules[j].cols.length v0) := hcs 2 (by simp)
      clear hcs hcj
      go_wp2_with fail
      refine (specKeyIn x.tables[i].rules[j] _).mono ?_
      rintro e w5 ⟨rfl, n5, rfl⟩
      cases hk0 : keyB x.tables[i].rules[j] with
      | false =>
        have HE : Hid (risingU (keyL x tb rl) = []) := by unfold Hid; rw [keyL_none (noKey hf hg hk0), ris_none]
        go_wp2_with fail
        go_ret
        rw [HE.out]
        exact ⟨_, 0, rfl, HQ4.out.own.drewN n5, below_drewN HQ4.out.bel n5⟩
      | true =>
        have HK0 := Lib.hid hk0
        have B5 := Lib.hid (below_drewN B4.out n5)
        have HQ5 : Hid (SQ w w [.slice a0 x.enums.length c0, .slice a1 x.seqs.length c1, .slice a2 x.tables.length c2, .slice a3 x.indexes.length c3, .slice a4 x.views.length c4, .int .i64 x.next] [.slice a0 x.enums.length c0, .slice a1 x.seqs.length c1, .slice a2 x.tables.length c2, .slice a3 x.indexes.length c3, .slice a4 x.views.length c4, .int .i64 x.next] [] [] [] _ 0 (w4.drewN n5)) := ⟨rfl, HQ4.out.own.drewN n5, below_drewN HQ4.out.bel n5, HQ4.out.pbox.below (below_drewN (Below.refl _ _) n5), HQ4.out.pbox.below (below_drewN (Below.refl _ _) n5)⟩
        have HTB5 := Lib.hid (HTB4.out.below (below_drewN (Below.refl w4.heap.size w4) n5))
        have HCJ5 := Lib.hid (HCJ.out.below (below_drewN (Below.refl w4.heap.size w4) n5))
        have j2' : (w4.drewN n5).cell? ⟨b1, off1 + j * 6 + 2, none⟩ = some (.slice u0 x.tables[i].rules[j].cols.length v0) := j2
        have s2' : (w4.drewN n5).cell? ⟨w2.heap.size, 2, none⟩ = some (.slice (some ⟨b1, off1, none⟩) x.tables[i].rules.length q1) := s2
        clear hk0 j1 j2 s2 HQ4 HTB4 HCJ
        generalize w4.drewN n5 = w5 at B5 HQ5 HTB5 HCJ5 j2' s2' ⊢
        go_wp2_with fail
        clear j2' s2'
        go_loopw [12] (fun c wr => ∃ k : Nat, k ≤ x.tables[i].rules.length ∧ c = .int .i64 k ∧ Hid ((∀ m (hm : m < x.tables[i].rules.length), m < k → m ≠ j → (keyB x.tables[i].rules[m] && eqB x.tables[i].rules[m].cols x.tables[i].rules[j].cols) = false) ∧ Below w5.heap.size w5 wr)) (fun c _ => x.tables[i].rules.length - (intOf c).toNat)
        case atStart => exact ⟨0, Nat.zero_le _, rfl, fun m _ h => absurd h (by omega), Below.refl _ _⟩
        case round =>
          rename World => wo
          obtain ⟨k, hk, rfl, hS⟩ := hrel
          have s2 : wo.cell? ⟨w2.heap.size, 2, none⟩ = some (.slice (some ⟨b1, off1, none⟩) x.tables[i].rules.length q1) := ((HTB5.out.below hS.out.2).2 2 (by simp)).1
          by_cases hlt : k < x.tables[i].rules.length
          · obtain ⟨b', off', us, hab, hbl', hcs, hRk⟩ := (KR.out _ (B5.out.trans (hS.out.2.mono B5.out.size))).spot hlt
            cases hab
            obtain ⟨y0, z0, y1, z1, y2, z2, rfl, _, hck, _⟩ := hRk
            have HCK := Lib.hid hck.1
            have hk0 : (0 : Int) ≤ (k : Int) := by omega
            have hk1 : (k : Int) < (x.tables[i].rules.length : Int) := by omega
            have k1 : wo.cell? ⟨b1, off1 + k * 6 + 1, none⟩ = some (.int .i64 x.tables[i].rules[k].kind) := hcs 1 (by simp)
            have k2 : wo.cell? ⟨b1, off1 + k * 6 + 2, none⟩ = some (.slice y0 x.tables[i].rules[k].cols.length z0) := hcs 2 (by simp)
            clear hcs hck
            by_cases hkj : k = j
            · have hne : ((k : Int) != (j : Int)) = false := by simp; omega
              have HALL : Hid (∀ m (hm : m < x.tables[i].rules.length), m < k + 1 → m ≠ j → (keyB x.tables[i].rules[m] && eqB x.tables[i].rules[m].cols x.tables[i].rules[j].cols) = false) := fun m hm h1 h2 => hS.out.1 m hm (by omega) h2
              clear hkj
              go_wp2_with fail
              go_roundw
              case rel => exact ⟨k + 1, by omega, by go_num, HALL.out, hS.out.2⟩
              case measure => simp [intOf]; omega
            · have hne : ((k : Int) != (j : Int)) = true := by simp; omega
              have HKJ := Lib.hid hkj
              clear hkj
              cases hv : keyB x.tables[i].rules[k] with
              | false =>
                have HALL : Hid (∀ m (hm : m < x.tables[i].rules.length), m < k + 1 → m ≠ j → (keyB x.tables[i].rules[m] && eqB x.tables[i].rules[m].cols x.tables[i].rules[j].cols) = false) := fun m hm h1 h2 => by
                  by_cases hmk : m < k
                  · exact hS.out.1 m hm hmk h2
                  · obtain rfl : m = k := by omega
                    rw [hv]; rfl
                have HV := Lib.hid hv
                clear hv
                go_wp2_with fail
                refine (specKeyIn x.tables[i].rules[k] _).mono ?_
                rintro e w7 ⟨rfl, n7, rfl⟩
                rw [HV.out]
                go_wp2_with fail
                go_roundw
                case rel => exact ⟨k + 1, by omega, by go_num, HALL.out, below_drewN hS.out.2 n7⟩
                case measure => simp [intOf]; omega
              | true =>
                have HV := Lib.hid hv
                clear hv
                go_wp2_with fail
                refine (specKeyIn x.tables[i].rules[k] _).mono ?_
                rintro e w7 ⟨rfl, n7, rfl⟩
                rw [HV.out]
                have B7 := Lib.hid (below_drewN hS.out.2 n7)
                have HCK7 := Lib.hid (HCK.out.below (below_drewN (Below.refl wo.heap.size wo) n7))
                have HCJ7 := Lib.hid (HCJ5.out.below B7.out)
                go_wp2_with fail
                refine (specSame y0 u0 z0 v0 x.tables[i].rules[k].cols x.tables[i].rules[j].cols _ HCK7.out HCJ7.out).mono ?_
                rintro e w8 ⟨rfl, n8, rfl⟩
                cases he : eqB x.tables[i].rules[k].cols x.tables[i].rules[j].cols with
                | false =>
                  have HALL : Hid (∀ m (hm : m < x.tables[i].rules.length), m < k + 1 → m ≠ j → (keyB x.tables[i].rules[m] && eqB x.tables[i].rules[m].cols x.tables[i].rules[j].cols) = false) := fun m hm h1 h2 => by
                    by_cases hmk : m < k
                    · exact hS.out.1 m hm hmk h2
                    · obtain rfl : m = k := by omega
                      rw [he, Bool.and_false]
                  clear he
                  go_wp2_with fail
                  go_roundw
                  case rel => exact ⟨k + 1, by omega, by go_num, HALL.out, below_drewN hS.out.2 (n7 + n8)⟩
                  case measure => simp [intOf]; omega
                | true =>
                  have HE : Hid (risingU (keyL x tb rl) = []) := by unfold Hid; rw [keyL_none (twoKeys hf hg hlt HKJ.out (by rw [HV.out, he]; rfl)), ris_none]
                  have B8 := Lib.hid (below_drewN hS.out.2 (n7 + n8))
                  clear he
                  go_wp2_with fail
                  go_ret
                  rw [HE.out]
                  exact ⟨_, 0, rfl, HQ5.out.own.below B8.out, HQ5.out.bel.trans (B8.out.mono HQ5.out.bel.size)⟩
          · obtain rfl : k = x.tables[i].rules.length := by omega
            have HI : Hid (IsKey x tb rl x.tables[i].rules[j].cols) := ⟨i, hi, j, hj, hf, hg, HK0.out, rfl, fun m hm h2 => hS.out.1 m hm hm h2⟩
            have HE := Lib.hid (keyL_some HI.out)
            have HCJ9 := Lib.hid (HCJ5.out.below hS.out.2)
            have HQ9 : Hid (SQ w w [.slice a0 x.enums.length c0, .slice a1 x.seqs.length c1, .slice a2 x.tables.length c2, .slice a3 x.indexes.length c3, .slice a4 x.views.length c4, .int .i64 x.next] [.slice a0 x.enums.length c0, .slice a1 x.seqs.length c1, .slice a2 x.tables.length c2, .slice a3 x.indexes.length c3, .slice a4 x.views.length c4, .int .i64 x.next] [] [] [] _ 0 wo) := ⟨rfl, HQ5.out.own.below hS.out.2, HQ5.out.bel.trans (hS.out.2.mono HQ5.out.bel.size), HQ5.out.pbox.below hS.out.2, HQ5.out.pbox.below hS.out.2⟩
            generalize x.tables[i].rules[j].cols = cols at HE HCJ9 ⊢
            clear HCJ5 HQ5 HI HTB5 HQ2 KR g2 hS HT d0 d1 d2 d3
            obtain ⟨hok, hol, hoz⟩ := partsOk_of (key_light tb cols) hn
            have HFEW := Lib.hid (fun k hk Y hY => few_parts (f := keyF tb cols) (x := x) hol hoz k hk Y hY)
            have HPT := Lib.hid (fun k hk => partsL_take (keyF tb cols) x.tables k hk)
            go_wp2_with fail
            go_loopw [7, 13] (fun o c wr => ∃ (m : Nat) (ys : List ByteArray) (a' : Option Addr) (c' : Nat), m ≤ x.tables.length ∧ c = .int .i64 m ∧ o = .slice a' ys.length c' ∧ Hid (SQ w w [.slice a0 x.enums.length c0, .slice a1 x.seqs.length c1, .slice a2 x.tables.length c2, .slice a3 x.indexes.length c3, .slice a4 x.views.length c4, .int .i64 x.next] [.slice a0 x.enums.length c0, .slice a1 x.seqs.length c1, .slice a2 x.tables.length c2, .slice a3 x.indexes.length c3, .slice a4 x.views.length c4, .int .i64 x.next] [] (partsL (keyF tb cols) 0 (x.tables.take m)) ys a' c' wr ∧ Below wo.heap.size wo wr)) (fun _ c _ => x.tables.length - (intOf c).toNat)
            case atStart => exact ⟨0, [], _, 0, Nat.zero_le _, rfl, rfl, HQ9.out, Below.refl _ _⟩
            case round =>
              rename World => wm
              obtain ⟨m, ys, a9, c9, hm, rfl, rfl, hS⟩ := hrel
              by_cases hlt : m < x.tables.length
              · obtain ⟨b', off', us, hab, hbl', hcs, hTm⟩ := (K2.out _ hS.out.1.bel).spot hlt
                rw [HA2.out] at hab
                cases hab
                have g2 : wm.cell? ⟨w.heap.size, 2, none⟩ = some (.slice (some ⟨b, off, none⟩) x.tables.length c2) := by rw [← HA2.out]; exact (hS.out.1.pbox.2 2 (by simp)).1
                obtain ⟨r0, t0, r1, t1, rfl, _, _, km⟩ := hTm
                have e0 : wm.cell? ⟨b, off + m * 4, none⟩ = some (.string x.tables[m].name) := hcs 0 (by simp)
                have e2 : wm.cell? ⟨b, off + m * 4 + 2, none⟩ = some (.slice r1 x.tables[m].rules.length t1) := hcs 2 (by simp)
                have hlm := km.len
                have KM := Lib.hid (fun w' (hb : Below wm.heap.size wm w') => km.kept goodRu (Kept.below hb))
                have hm0 : (0 : Int) ≤ (m : Int) := by omega
                have hm1 : (m : Int) < (x.tables.length : Int) := by omega
                have HG : Hid (∀ W, Below wm.heap.size wm W → W.cell? ⟨w.heap.size, 2, none⟩ = some (.slice (some ⟨b, off, none⟩) x.tables.length c2) ∧ W.cell? ⟨b, off + m * 4, none⟩ = some (.string x.tables[m].name) ∧ W.cell? ⟨b, off + m * 4 + 2, none⟩ = some (.slice r1 x.tables[m].rules.length t1)) :=
                  fun W hb => ⟨(hb.cell (p := ⟨w.heap.size, 2, none⟩) hS.out.1.pbox.1).trans g2, (hb.cell (p := ⟨b, off + m * 4, none⟩) hbl').trans e0, (hb.cell (p := ⟨b, off + m * 4 + 2, none⟩) hbl').trans e2⟩
                have HQm : Hid (SQ w w [.slice a0 x.enums.length c0, .slice a1 x.seqs.length c1, .slice a2 x.tables.length c2, .slice a3 x.indexes.length c3, .slice a4 x.views.length c4, .int .i64 x.next] [.slice a0 x.enums.length c0, .slice a1 x.seqs.length c1, .slice a2 x.tables.length c2, .slice a3 x.indexes.length c3, .slice a4 x.views.length c4, .int .i64 x.next] [] (partsL (keyF tb cols) 0 (x.tables.take m) ++ (((x.tables[m].rules.take 0).filter (isToB tb cols)).map Ru.name).map (dotT x.tables[m].name)) ys a9 c9 wm) := by
                  have h := hS.out.1
                  unfold Hid
                  simpa using h
                have HFm := Lib.hid (fun l => HFEW.out m hlt _ (key_sub tb cols m x.tables[m] l))
                have HPm := Lib.hid (HPT.out m hlt)
                have HBm := Lib.hid hS.out.2
                have HCm := Lib.hid (HCJ9.out.below hS.out.2)
                have hmw : Hid (x.tables[m].wt ≤ 1048576) := by
                  have h1 := wtS_get Tb.wt hlt
                  have h3 : x.wt = (x.enums.length + wtS Lab.wt x.enums) + (x.seqs.length + wtS Sq.wt x.seqs) + (x.tables.length + wtS Tb.wt x.tables) + (x.indexes.length + wtS Ix.wt x.indexes) + (x.views.length + wtS Vw.wt x.views) := rfl
                  unfold Hid; omega
                clear km hcs hS
                go_wp2_with fail
                clear g2 e0 e2
                go_loopw [7, 14] (fun o c wr => ∃ (l : Nat) (us' : List ByteArray) (a' : Option Addr) (c' : Nat), l ≤ x.tables[m].rules.length ∧ c = .int .i64 l ∧ o = .slice a' us'.length c' ∧ Hid (SQ w w [.slice a0 x.enums.length c0, .slice a1 x.seqs.length c1, .slice a2 x.tables.length c2, .slice a3 x.indexes.length c3, .slice a4 x.views.length c4, .int .i64 x.next] [.slice a0 x.enums.length c0, .slice a1 x.seqs.length c1, .slice a2 x.tables.length c2, .slice a3 x.indexes.length c3, .slice a4 x.views.length c4, .int .i64 x.next] [] (partsL (keyF tb cols) 0 (x.tables.take m) ++ (((x.tables[m].rules.take l).filter (isToB tb cols)).map Ru.name).map (dotT x.tables[m].name)) us' a' c' wr ∧ Below wm.heap.size wm wr)) (fun _ c _ => x.tables[m].rules.length - (intOf c).toNat)
                case atStart => exact ⟨0, ys, a9, c9, Nat.zero_le _, rfl, rfl, HQm.out, Below.refl _ _⟩
                case round =>
                  obtain ⟨l, us', a8, c8, hl, rfl, rfl, hQ⟩ := hrel
                  obtain ⟨g2, e0, e2⟩ := HG.out _ hQ.out.2
                  by_cases hll : l < x.tables[m].rules.length
                  · obtain ⟨b2, off2, ws, hr1, hbl2, hcs, hRl⟩ := (KM.out _ hQ.out.2).spot hll
                    have e2' : wr.cell? ⟨b, off + m * 4 + 2, none⟩ = some (.slice (some ⟨b2, off2, none⟩) x.tables[m].rules.length t1) := by rw [← hr1]; exact e2
                    clear e2 hr1
                    obtain ⟨y0, z0, y1, z1, y2, z2, rfl, _, _, _, hto⟩ := hRl
                    have l0 : wr.cell? ⟨b2, off2 + l * 6, none⟩ = some (.string x.tables[m].rules[l].name) := hcs 0 (by simp)
                    have l1 : wr.cell? ⟨b2, off2 + l * 6 + 1, none⟩ = some (.int .i64 x.tables[m].rules[l].kind) := hcs 1 (by simp)
                    have l2 : wr.cell? ⟨b2, off2 + l * 6 + 2, none⟩ = some (.slice y0 x.tables[m].rules[l].cols.length z0) := hcs 2 (by simp)
                    have l3 : wr.cell? ⟨b2, off2 + l * 6 + 3, none⟩ = some (.slice y1 x.tables[m].rules[l].expr.length z1) := hcs 3 (by simp)
                    have l4 : wr.cell? ⟨b2, off2 + l * 6 + 4, none⟩ = some (.string x.tables[m].rules[l].table) := hcs 4 (by simp)
                    have l5 : wr.cell? ⟨b2, off2 + l * 6 + 5, none⟩ = some (.slice y2 x.tables[m].rules[l].to.length z2) := hcs 5 (by simp)
                    have hl0 : (0 : Int) ≤ (l : Int) := by omega
                    have hl1 : (l : Int) < (x.tables[m].rules.length : Int) := by omega
                    have BW : Hid (Below wr.heap.size wr (wr.alloc (.cells #[.string x.tables[m].rules[l].name, .int .i64 x.tables[m].rules[l].kind, .slice y0 x.tables[m].rules[l].cols.length z0, .slice y1 x.tables[m].rules[l].expr.length z1, .string x.tables[m].rules[l].table, .slice y2 x.tables[m].rules[l].to.length z2] 85))) := (Below.refl _ _).alloc (Nat.le_refl _) _
                    have HXA := Lib.hid (blk_new wr 85 [.string x.tables[m].rules[l].name, .int .i64 x.tables[m].rules[l].kind, .slice y0 x.tables[m].rules[l].cols.length z0, .slice y1 x.tables[m].rules[l].expr.length z1, .string x.tables[m].rules[l].table, .slice y2 x.tables[m].rules[l].to.length z2])
                    have HTO := Lib.hid (hto.1.below BW.out)
                    have HCl := Lib.hid ((HCm.out.below hQ.out.2).below BW.out)
                    have HP := Lib.hid (key_step (isToB tb cols) x.tables[m] l hll)
                    have HQA := Lib.hid (And.intro (hQ.out.1.keep BW.out) (hQ.out.2.trans (BW.out.mono hQ.out.2.size)))
                    have HGw := Lib.hid (fun W (hb : Below wr.heap.size wr W) => HG.out W (hQ.out.2.trans (hb.mono hQ.out.2.size)))
                    clear hcs hto hQ
                    cases hv : isToB tb cols x.tables[m].rules[l] with
                    | false =>
                      have HE2 : Hid ((((x.tables[m].rules.take (l + 1)).filter (isToB tb cols)).map Ru.name).map (dotT x.tables[m].name) = (((x.tables[m].rules.take l).filter (isToB tb cols)).map Ru.name).map (dotT x.tables[m].name)) := by unfold Hid; rw [HP.out, hv, if_neg (by decide), List.append_nil]
                      have hv' : ((x.tables[m].rules[l].kind == 3 && x.tables[m].rules[l].table.toList == tb.toList) && eqB x.tables[m].rules[l].to cols) = false := hv
                      clear hv
                      cases h4 : (x.tables[m].rules[l].kind == 3) with
                      | false =>
                        clear hv'
                        go_wp2_with fail
                        go_roundw
                        case rel => exact ⟨l + 1, us', a8, c8, by omega, by go_num, rfl, by rw [HE2.out]; exact HQA.out⟩
                        case measure => simp [intOf]; omega
                      | true =>
                        cases h5 : (x.tables[m].rules[l].table.toList == tb.toList) with
                        | false =>
                          clear hv'
                          go_wp2_with fail
                          go_roundw
                          case rel => exact ⟨l + 1, us', a8, c8, by omega, by go_num, rfl, by rw [HE2.out]; exact HQA.out⟩
                          case measure => simp [intOf]; omega
                        | true =>
                          rw [h4, h5, Bool.true_and, Bool.true_and] at hv'
                          have HV := Lib.hid hv'
                          clear hv'
                          go_wp2_with fail
                          refine (specSame y2 u0 z2 v0 x.tables[m].rules[l].to cols _ HTO.out HCl.out).mono ?_
                          rintro e w8 ⟨rfl, n8, rfl⟩
                          rw [HV.out]
                          have HQD := Lib.hid (And.intro (HQA.out.1.keep (below_drewN (Below.refl _ _) n8)) (below_drewN HQA.out.2 n8))
                          go_wp2_with fail
                          go_roundw
                          case rel => exact ⟨l + 1, us', a8, c8, by omega, by go_num, rfl, by rw [HE2.out]; exact HQD.out⟩
                          case measure => simp [intOf]; omega
                    | true =>
                      have HE2 : Hid (partsL (keyF tb cols) 0 (x.tables.take m) ++ (((x.tables[m].rules.take (l + 1)).filter (isToB tb cols)).map Ru.name).map (dotT x.tables[m].name) = (partsL (keyF tb cols) 0 (x.tables.take m) ++ (((x.tables[m].rules.take l).filter (isToB tb cols)).map Ru.name).map (dotT x.tables[m].name)) ++ [dotT x.tables[m].name x.tables[m].rules[l].name]) := by unfold Hid; rw [HP.out, hv, if_pos rfl, List.append_assoc]
                      have hv' : ((x.tables[m].rules[l].kind == 3 && x.tables[m].rules[l].table.toList == tb.toList) && eqB x.tables[m].rules[l].to cols) = true := hv
                      rw [Bool.and_eq_true, Bool.and_eq_true] at hv'
                      obtain ⟨⟨h4, h5⟩, h6⟩ := hv'
                      have HV := Lib.hid h6
                      have HST := Lib.hid (HQA.out.1.put (HFm.out l))
                      have hnz := ru_name (List.getElem_mem hll)
                      have hmw' := hmw.out
                      have o1 : (ByteArray.mk #[46]).size = 1 := rfl
                      have ad1 : ∀ W, (binOp .add 9 (.string x.tables[m].name) (.string ⟨#[46]⟩)).run Tryz.prog W = .ok (.string (x.tables[m].name ++ ⟨#[46]⟩)) W := fun W => by simp [binOp, run_string_add_sum W x.tables[m].name ⟨#[46]⟩ (by rw [o1]; omega)]
                      have ad2 : ∀ W, (binOp .add 9 (.string (x.tables[m].name ++ ⟨#[46]⟩)) (.string x.tables[m].rules[l].name)).run Tryz.prog W = .ok (.string (dotT x.tables[m].name x.tables[m].rules[l].name)) W := fun W => by simp [binOp, dotT, run_string_add_sum W (x.tables[m].name ++ ⟨#[46]⟩) x.tables[m].rules[l].name (by rw [ByteArray.size_append, o1]; omega)]
                      have as1 : ∀ W, (Op.stringOp .add x.tables[m].name ⟨#[46]⟩).run Tryz.prog W = .ok (.string (x.tables[m].name ++ ⟨#[46]⟩)) W := fun W => run_string_add_sum W _ _ (by rw [o1]; omega)
                      have as2 : ∀ W, (Op.stringOp .add (x.tables[m].name ++ ⟨#[46]⟩) x.tables[m].rules[l].name).run Tryz.prog W = .ok (.string (dotT x.tables[m].name x.tables[m].rules[l].name)) W := fun W => run_string_add_sum W _ _ (by rw [ByteArray.size_append, o1]; omega)
                      have hdz : Hid ((dotT x.tables[m].name x.tables[m].rules[l].name).size ≤ maxLen) := by unfold Hid; rw [dotT_size]; unfold maxLen; omega
                      clear hv h6 hnz hmw' o1
                      go_wp2_with fail
                      refine (specSame y2 u0 z2 v0 x.tables[m].rules[l].to cols _ HTO.out HCl.out).mono ?_
                      rintro e w8 ⟨rfl, n8, rfl⟩
                      rw [HV.out]
                      have BD : Below wr.heap.size wr ((wr.alloc (.cells #[.string x.tables[m].rules[l].name, .int .i64 x.tables[m].rules[l].kind, .slice y0 x.tables[m].rules[l].cols.length z0, .slice y1 x.tables[m].rules[l].expr.length z1, .string x.tables[m].rules[l].table, .slice y2 x.tables[m].rules[l].to.length z2] 85)).drewN n8) := below_drewN BW.out n8
                      have HQD := Lib.hid (And.intro (HQA.out.1.keep (below_drewN (Below.refl _ _) n8)) (below_drewN HQA.out.2 n8))
                      have HXD := Lib.hid (HXA.out.below (below_drewN (Below.refl _ _) n8))
                      have HSD := Lib.hid (HST.out.1.below (below_drewN (Below.refl _ _) n8))
                      obtain ⟨q2, q0', _⟩ := HGw.out _ BD
                      have qx := (HXD.out.2 0 (by simp)).1
                      have hst : Hid (∀ W, Below ((wr.alloc (.cells #[.string x.tables[m].rules[l].name, .int .i64 x.tables[m].rules[l].kind, .slice y0 x.tables[m].rules[l].cols.length z0, .slice y1 x.tables[m].rules[l].expr.length z1, .string x.tables[m].rules[l].table, .slice y2 x.tables[m].rules[l].to.length z2] 85)).drewN n8).heap.size ((wr.alloc (.cells #[.string x.tables[m].rules[l].name, .int .i64 x.tables[m].rules[l].kind, .slice y0 x.tables[m].rules[l].cols.length z0, .slice y1 x.tables[m].rules[l].expr.length z1, .string x.tables[m].rules[l].table, .slice y2 x.tables[m].rules[l].to.length z2] 85)).drewN n8) W → W.cell? ⟨w.heap.size, 2, none⟩ = some (.slice (some ⟨b, off, none⟩) x.tables.length c2) ∧ W.cell? ⟨b, off + m * 4, none⟩ = some (.string x.tables[m].name) ∧ W.cell? ⟨wr.heap.size, 0, none⟩ = some (.string x.tables[m].rules[l].name)) :=
                        fun W hb => ⟨(HGw.out W (BD.trans (hb.mono BD.size))).1, (HGw.out W (BD.trans (hb.mono BD.size))).2.1, ((HXD.out.below hb).2 0 (by simp)).1⟩
                      clear BD g2 e0 e2' l0 l1 l2 l3 l4 l5
                      generalize (wr.alloc (.cells #[.string x.tables[m].rules[l].name, .int .i64 x.tables[m].rules[l].kind, .slice y0 x.tables[m].rules[l].cols.length z0, .slice y1 x.tables[m].rules[l].expr.length z1, .string x.tables[m].rules[l].table, .slice y2 x.tables[m].rules[l].to.length z2] 85)).drewN n8 = w8 at HQD HXD HSD q2 q0' qx hst ⊢
                      go_wp2_with fail
                      go_region_held3 (fun w' => w'.cell? ⟨w.heap.size, 2, none⟩ = some (.slice (some ⟨b, off, none⟩) x.tables.length c2) ∧ w'.cell? ⟨b, off + m * 4, none⟩ = some (.string x.tables[m].name) ∧ w'.cell? ⟨wr.heap.size, 0, none⟩ = some (.string x.tables[m].rules[l].name)) (first | assumption | exact ⟨q2, q0', qx⟩)
                        ((go_at_call 24; refine (specPut a8 c8 us' (dotT x.tables[m].name x.tables[m].rules[l].name) _ (HSD.out.below (below_drewN (Below.refl _ _) 1)) hdz.out HST.out.2).mono ?_; rintro e w9 ⟨a7, c7, rfl, own7, b7⟩; have hb7 : Below w8.heap.size w8 w9 := (below_drewN (Below.refl _ _) 1).trans b7; have hq9 := hst.out w9 hb7; have HN := Lib.hid (And.intro (HQD.out.1.next own7 hb7) (HQD.out.2.trans (hb7.mono HQD.out.2.size))); clear own7 b7 hb7))
                      go_wp2_with fail
                      go_roundw
                      case rel => exact ⟨l + 1, putL us' (dotT x.tables[m].name x.tables[m].rules[l].name), a7, c7, by omega, by go_num, rfl, by rw [HE2.out]; exact HN.out⟩
                      case measure => simp [intOf]; omega
                  · obtain rfl : l = x.tables[m].rules.length := by omega
                    have HE3 : Hid (SQ w w [.slice a0 x.enums.length c0, .slice a1 x.seqs.length c1, .slice a2 x.tables.length c2, .slice a3 x.indexes.length c3, .slice a4 x.views.length c4, .int .i64 x.next] [.slice a0 x.enums.length c0, .slice a1 x.seqs.length c1, .slice a2 x.tables.length c2, .slice a3 x.indexes.length c3, .slice a4 x.views.length c4, .int .i64 x.next] [] (partsL (keyF tb cols) 0 (x.tables.take (m + 1))) us' a8 c8 wr) := by
                      unfold Hid
                      have h := hQ.out.1
                      rw [List.take_length] at h
                      rw [HPm.out]
                      exact h
                    have HB3 := Lib.hid hQ.out.2
                    go_wp2_with fail
                    go_roundw
                    case rel => exact ⟨m + 1, us', a8, c8, by omega, by go_num, rfl, HE3.out, HBm.out.trans (HB3.out.mono HBm.out.size)⟩
                    case measure => simp [intOf]; omega
              · obtain rfl : m = x.tables.length := by omega
                have g2 : wm.cell? ⟨w.heap.size, 2, none⟩ = some (.slice a2 x.tables.length c2) := (hS.out.1.pbox.2 2 (by simp)).1
                go_wp2_with fail
                go_ret
                have h1 := hS.out.1.eq
                rw [List.take_length, put_all, ← HE.out] at h1
                subst h1
                exact ⟨a9, c9, rfl, hS.out.1.own, hS.out.1.bel⟩

end Go.Proofs.YtjjdcdnaonfnmaaGreat
