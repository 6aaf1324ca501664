/- spec.EnumUse. Written by tools/gen_useS.py. -/
import Derived.Test.YtjjdcdnaonfnmaaGreatMClone
namespace Go.Proofs.YtjjdcdnaonfnmaaGreat
open Go.RowKit

theorem parts_step (n : ByteArray) (t : Tb) (j : Nat) (h : j < t.cols.length) : (((t.cols.take (j + 1)).filter (isEnB n)).map Co.name).map (dotT t.name) = (((t.cols.take j).filter (isEnB n)).map Co.name).map (dotT t.name) ++ (if isEnB n t.cols[j] = true then [dotT t.name t.cols[j].name] else []) := by
  rw [take_filter _ _ _ h, List.map_append, List.map_append]
  split <;> simp

theorem putAll_len (xs ys : List ByteArray) : (putAll xs ys).length ≤ xs.length + ys.length := (putAll_facts ys xs).2.2
theorem putAll_mem (xs ys : List ByteArray) (t : ByteArray) : t ∈ putAll xs ys ↔ t ∈ xs ∨ t ∈ ys := (putAll_facts ys xs).2.1 t

/-- While the columns of a table are looked at. -/
structure SQ (w wo : World) (PV TV : List Value) (Y Z : List ByteArray) (ys : List ByteArray) (a' : Option Addr) (c' : Nat) (wr : World) : Prop where
  eq : ys = putAll Y Z
  own : Own wr w.heap.size a' c' ys
  bel : Below w.heap.size w wr
  pbox : Blk wr w.heap.size PV
  tbox : Blk wr wo.heap.size TV

theorem SQ.next {w wo : World} {PV TV : List Value} {Y Z : List ByteArray} {ys : List ByteArray} {a' : Option Addr} {c' : Nat} {wr : World} (h : SQ w wo PV TV Y Z ys a' c' wr) {w2 : World} {s : ByteArray} {a2 : Option Addr} {c2 : Nat} (own : Own w2 wr.heap.size a2 c2 (putL ys s)) (hb : Below wr.heap.size wr w2) :
    SQ w wo PV TV Y (Z ++ [s]) (putL ys s) a2 c2 w2 :=
  ⟨by rw [putAll_append, ← h.eq]; rfl, own.lower h.bel.size, h.bel.trans (hb.mono h.bel.size), h.pbox.below hb, h.tbox.below hb⟩

set_option maxRecDepth 100000 in
set_option maxHeartbeats 8000000 in
theorem specEnumUse (vs : List Value) (x : Pl) (n : ByteArray) (w : World) (hR : RPl 0 w vs x) (hn : x.wt ≤ 1048576) :
    Calls Tryz.prog 7 #[.agg vs.toArray, .string n] w (NewStrs w (risingU (enumL x n))) := by
  obtain ⟨hok, hol, hoz⟩ := partsOk_of (enum_light n) hn
  obtain ⟨a0, c0, a1, c1, a2, c2, a3, c3, a4, c4, rfl, _, _, _, k2, _, _⟩ := hR
  have hl := k2.len
  have K2 := Lib.hid (fun w' (hb : Below w.heap.size w w') => k2.kept goodTb (Kept.below hb))
  have HPL := Lib.hid (fun k => partsL_le (enumF n) x.tables k)
  have hba : Below w.heap.size w ((w.alloc (.cells #[.slice a0 x.enums.length c0, .slice a1 x.seqs.length c1, .slice a2 x.tables.length c2, .slice a3 x.indexes.length c3, .slice a4 x.views.length c4, .int .i64 x.next] 38)).alloc (.cells #[] 9)) := below2 _ _ _
  have A0 := Lib.hid ((blk_new w 38 [.slice a0 x.enums.length c0, .slice a1 x.seqs.length c1, .slice a2 x.tables.length c2, .slice a3 x.indexes.length c3, .slice a4 x.views.length c4, .int .i64 x.next]).alloc (.cells #[] 9))
  have hown0 := ownEmpty (w.alloc (.cells #[.slice a0 x.enums.length c0, .slice a1 x.seqs.length c1, .slice a2 x.tables.length c2, .slice a3 x.indexes.length c3, .slice a4 x.views.length c4, .int .i64 x.next] 38))
  have hz1 : (w.alloc (.cells #[.slice a0 x.enums.length c0, .slice a1 x.seqs.length c1, .slice a2 x.tables.length c2, .slice a3 x.indexes.length c3, .slice a4 x.views.length c4, .int .i64 x.next] 38)).heap.size = w.heap.size + 1 := by simp
  rw [hz1] at hown0
  have HO0 := Lib.hid (hown0.lower (B' := w.heap.size) (by omega))
  have HB0 := Lib.hid hba
  have HMEM := Lib.hid (fun s hs => hoz s hs)
  clear k2 hba hown0 hz1
  go_enter Tryz.func7, Tryz.ntmps7
  go_wp2_with fail
  go_loopw [5, 6] (fun o i wr => ∃ (k : Nat) (ys : List ByteArray) (a' : Option Addr) (c' : Nat), k ≤ x.tables.length ∧ i = .int .i64 k ∧ o = .slice a' ys.length c' ∧ Hid (ys = putAll [] (partsL (enumF n) 0 (x.tables.take k)) ∧ Own wr w.heap.size a' c' ys ∧ Below w.heap.size w wr ∧ Blk wr w.heap.size [.slice a0 x.enums.length c0, .slice a1 x.seqs.length c1, .slice a2 x.tables.length c2, .slice a3 x.indexes.length c3, .slice a4 x.views.length c4, .int .i64 x.next])) (fun _ i _ => x.tables.length - (intOf i).toNat)
  case atStart => exact ⟨0, [], _, 0, Nat.zero_le _, rfl, rfl, rfl, HO0.out, HB0.out, A0.out⟩
  case round =>
    rename World => wo
    obtain ⟨k, ys, a9, c9, hk, rfl, rfl, hS⟩ := hrel
    have g2 : wo.cell? ⟨w.heap.size, 2, none⟩ = some (.slice a2 x.tables.length c2) := (hS.out.2.2.2.2 2 (by simp)).1
    by_cases hlt : k < x.tables.length
    · obtain ⟨b, off, us, ha2, hbl, hcs, hT⟩ := (K2.out _ hS.out.2.2.1).spot hlt
      have g2' : wo.cell? ⟨w.heap.size, 2, none⟩ = some (.slice (some ⟨b, off, none⟩) x.tables.length c2) := by rw [← ha2]; exact g2
      clear g2 ha2
      obtain ⟨p0, q0, p1, q1, rfl, hfit, kc, _⟩ := hT
      have hsn : x.tables[k].name.size ≤ 1048576 := by
        have h1 := wtS_get Tb.wt hlt
        have h2 : x.tables[k].wt = x.tables[k].name.size + (x.tables[k].cols.length + wtS Co.wt x.tables[k].cols) + (x.tables[k].rules.length + wtS Ru.wt x.tables[k].rules) := rfl
        have h3 : x.wt = (x.enums.length + wtS Lab.wt x.enums) + (x.seqs.length + wtS Sq.wt x.seqs) + (x.tables.length + wtS Tb.wt x.tables) + (x.indexes.length + wtS Ix.wt x.indexes) + (x.views.length + wtS Vw.wt x.views) := rfl
        omega
      have hc0 : wo.cell? ⟨b, off + k * 4, none⟩ = some (.string x.tables[k].name) := hcs 0 (by simp)
      have hc1 : wo.cell? ⟨b, off + k * 4 + 1, none⟩ = some (.slice p0 x.tables[k].cols.length q0) := hcs 1 (by simp)
      have hc2 : wo.cell? ⟨b, off + k * 4 + 2, none⟩ = some (.slice p1 x.tables[k].rules.length q1) := hcs 2 (by simp)
      have hc3 : wo.cell? ⟨b, off + k * 4 + 3, none⟩ = some (.int .i64 x.tables[k].token) := hcs 3 (by simp)
      have HTK := Lib.hid (partsL_take (enumF n) x.tables k hlt)
      have hcl := kc.len
      have KC := Lib.hid (fun w' (hb : Below wo.heap.size wo w') => kc.kept goodCo (Kept.below hb))
      have hw : w.heap.size ≤ wo.heap.size := hS.out.2.2.1.size
      have HSQ0 : Hid (SQ w wo [.slice a0 x.enums.length c0, .slice a1 x.seqs.length c1, .slice a2 x.tables.length c2, .slice a3 x.indexes.length c3, .slice a4 x.views.length c4, .int .i64 x.next] [.string x.tables[k].name, .slice p0 x.tables[k].cols.length q0, .slice p1 x.tables[k].rules.length q1, .int .i64 x.tables[k].token] ys [] ys a9 c9 (wo.alloc (.cells #[.string x.tables[k].name, .slice p0 x.tables[k].cols.length q0, .slice p1 x.tables[k].rules.length q1, .int .i64 x.tables[k].token] 55))) :=
        ⟨rfl, hS.out.2.1.alloc _, hS.out.2.2.1.alloc hw _, hS.out.2.2.2.alloc _, blk_new wo 55 [.string x.tables[k].name, .slice p0 x.tables[k].cols.length q0, .slice p1 x.tables[k].rules.length q1, .int .i64 x.tables[k].token]⟩
      have HBA : Hid (Below wo.heap.size wo (wo.alloc (.cells #[.string x.tables[k].name, .slice p0 x.tables[k].cols.length q0, .slice p1 x.tables[k].rules.length q1, .int .i64 x.tables[k].token] 55))) := (Below.refl _ _).alloc (Nat.le_refl _) _
      have hyl : ys.length + (enumF n k x.tables[k]).length ≤ 1048576 + 1048576 := by
        have h1 := hS.out.1
        have h2 := putAll_len [] (partsL (enumF n) 0 (x.tables.take k))
        have h3 := HPL.out (k + 1)
        rw [HTK.out, List.length_append, List.length_map] at h3
        rw [← h1] at h2
        simp at h2
        omega
      have hzl : ∀ s ∈ ys, s.size ≤ 1048576 := by
        intro s hs
        rw [hS.out.1, putAll_mem] at hs
        rcases hs with hs | hs
        · simp at hs
        · refine HMEM.out s ?_
          have this := partsL_split (enumF n) (x.tables.take k) (x.tables.drop k) 0
          rw [List.take_append_drop] at this
          rw [this]
          exact List.mem_append_left _ hs
      have HZL := Lib.hid hzl
      clear kc hcs hzl
      go_wp2_with fail
      go_loopw [5, 8] (fun o i wr => ∃ (j : Nat) (us' : List ByteArray) (a' : Option Addr) (c' : Nat), j ≤ x.tables[k].cols.length ∧ i = .int .i64 j ∧ o = .slice a' us'.length c' ∧ Hid (SQ w wo [.slice a0 x.enums.length c0, .slice a1 x.seqs.length c1, .slice a2 x.tables.length c2, .slice a3 x.indexes.length c3, .slice a4 x.views.length c4, .int .i64 x.next] [.string x.tables[k].name, .slice p0 x.tables[k].cols.length q0, .slice p1 x.tables[k].rules.length q1, .int .i64 x.tables[k].token] ys ((((x.tables[k].cols.take j).filter (isEnB n)).map Co.name).map (dotT x.tables[k].name)) us' a' c' wr ∧ Below wo.heap.size wo wr)) (fun _ i _ => x.tables[k].cols.length - (intOf i).toNat)
      case atStart => exact ⟨0, ys, a9, c9, Nat.zero_le _, rfl, rfl, HSQ0.out, HBA.out⟩
      case round =>
        obtain ⟨j, us', a8, c8, hj, rfl, rfl, hQ⟩ := hrel
        have q0' : wr.cell? ⟨wo.heap.size, 0, none⟩ = some (.string x.tables[k].name) := (hQ.out.1.tbox.2 0 (by simp)).1
        have q1' : wr.cell? ⟨wo.heap.size, 1, none⟩ = some (.slice p0 x.tables[k].cols.length q0) := (hQ.out.1.tbox.2 1 (by simp)).1
        by_cases hlj : j < x.tables[k].cols.length
        · obtain ⟨b1, off1, ws, hp0, hbl1, hcs1, hC⟩ := (KC.out _ hQ.out.2).spot hlj
          rw [hp0] at q1'
          clear hp0
          obtain ⟨u0, v0, rfl, hfc, _⟩ := hC
          have d0 : wr.cell? ⟨b1, off1 + j * 6, none⟩ = some (.string x.tables[k].cols[j].name) := hcs1 0 (by simp)
          have d1 : wr.cell? ⟨b1, off1 + j * 6 + 1, none⟩ = some (.int .i64 x.tables[k].cols[j].ty.kind) := hcs1 1 (by simp)
          have d3 : wr.cell? ⟨b1, off1 + j * 6 + 3, none⟩ = some (.string x.tables[k].cols[j].ty.name) := hcs1 3 (by simp)
          have HP := Lib.hid (parts_step n x.tables[k] j hlj)
          have hj0 : (0 : Int) ≤ (j : Int) := by omega
          have hj1 : (j : Int) < (x.tables[k].cols.length : Int) := by omega
          have HQ := Lib.hid hQ.out
          clear hcs1 hQ
          cases hv : isEnB n x.tables[k].cols[j] with
          | false =>
            have HE : Hid ((((x.tables[k].cols.take (j + 1)).filter (isEnB n)).map Co.name).map (dotT x.tables[k].name) = (((x.tables[k].cols.take j).filter (isEnB n)).map Co.name).map (dotT x.tables[k].name)) := by unfold Hid; rw [HP.out, hv, if_neg (by decide), List.append_nil]
            have hv' : (x.tables[k].cols[j].ty.kind == 4 && x.tables[k].cols[j].ty.name.toList == n.toList) = false := hv
            clear hv
            cases h4 : (x.tables[k].cols[j].ty.kind == 4) with
            | false =>
              go_wp2_with fail
              go_roundw
              case rel => exact ⟨j + 1, us', a8, c8, by omega, by go_num, rfl, by rw [HE.out]; exact HQ.out⟩
              case measure => simp [intOf]; omega
            | true =>
              rw [h4, Bool.true_and] at hv'
              go_wp2_with fail
              go_roundw
              case rel => exact ⟨j + 1, us', a8, c8, by omega, by go_num, rfl, by rw [HE.out]; exact HQ.out⟩
              case measure => simp [intOf]; omega
          | true =>
            have HE : Hid ((((x.tables[k].cols.take (j + 1)).filter (isEnB n)).map Co.name).map (dotT x.tables[k].name) = (((x.tables[k].cols.take j).filter (isEnB n)).map Co.name).map (dotT x.tables[k].name) ++ [dotT x.tables[k].name x.tables[k].cols[j].name]) := by unfold Hid; rw [HP.out, hv, if_pos rfl]
            have hv' : (x.tables[k].cols[j].ty.kind == 4 && x.tables[k].cols[j].ty.name.toList == n.toList) = true := hv
            rw [Bool.and_eq_true] at hv'
            obtain ⟨h4, h5⟩ := hv'
            have hcn : x.tables[k].cols[j].name ∈ enumF n k x.tables[k] := List.mem_map.2 ⟨_, List.mem_filter.2 ⟨List.getElem_mem hlj, hv⟩, rfl⟩
            have hcs : x.tables[k].cols[j].name.size ≤ 1048576 := hok.2 k hlt _ hcn
            have o1 : (ByteArray.mk #[46]).size = 1 := rfl
            have ad1 : ∀ W, (binOp .add 9 (.string x.tables[k].name) (.string ⟨#[46]⟩)).run Tryz.prog W = .ok (.string (x.tables[k].name ++ ⟨#[46]⟩)) W := fun W => by simp [binOp, run_string_add_sum W x.tables[k].name ⟨#[46]⟩ (by rw [o1]; omega)]
            have ad2 : ∀ W, (binOp .add 9 (.string (x.tables[k].name ++ ⟨#[46]⟩)) (.string x.tables[k].cols[j].name)).run Tryz.prog W = .ok (.string (dotT x.tables[k].name x.tables[k].cols[j].name)) W := fun W => by simp [binOp, dotT, run_string_add_sum W (x.tables[k].name ++ ⟨#[46]⟩) x.tables[k].cols[j].name (by rw [ByteArray.size_append, o1]; omega)]
            have as1 : ∀ W, (Op.stringOp .add x.tables[k].name ⟨#[46]⟩).run Tryz.prog W = .ok (.string (x.tables[k].name ++ ⟨#[46]⟩)) W := fun W => run_string_add_sum W _ _ (by rw [o1]; omega)
            have as2 : ∀ W, (Op.stringOp .add (x.tables[k].name ++ ⟨#[46]⟩) x.tables[k].cols[j].name).run Tryz.prog W = .ok (.string (dotT x.tables[k].name x.tables[k].cols[j].name)) W := fun W => run_string_add_sum W _ _ (by rw [ByteArray.size_append, o1]; omega)
            have hdz : (dotT x.tables[k].name x.tables[k].cols[j].name).size ≤ maxLen := by rw [dotT_size]; unfold maxLen; omega
            have hul : us'.length ≤ 4194304 := by
              have h1 := HQ.out.1.eq
              have h2 := putAll_len ys ((((x.tables[k].cols.take j).filter (isEnB n)).map Co.name).map (dotT x.tables[k].name))
              have h3 : (((x.tables[k].cols.take j).filter (isEnB n)).map Co.name).length ≤ (enumF n k x.tables[k]).length := by
                unfold enumF
                rw [List.length_map, List.length_map]
                exact (List.Sublist.filter _ (List.take_sublist j x.tables[k].cols)).length_le
              rw [← h1, List.length_map] at h2
              omega
            have hus : ∀ s ∈ us', s.size ≤ maxLen := by
              intro s hs
              rw [HQ.out.1.eq, putAll_mem] at hs
              rcases hs with hs | hs
              · have := HZL.out s hs; unfold maxLen; omega
              · obtain ⟨q, hq, rfl⟩ := List.mem_map.1 hs
                have hq2 : q ∈ enumF n k x.tables[k] := by
                  unfold enumF
                  obtain ⟨y, hy, rfl⟩ := List.mem_map.1 hq
                  refine List.mem_map.2 ⟨y, List.mem_filter.2 ⟨List.mem_of_mem_take (List.mem_filter.1 hy).1, (List.mem_filter.1 hy).2⟩, rfl⟩
                have := hok.2 k hlt _ hq2
                rw [dotT_size]; unfold maxLen; omega
            have HST := Lib.hid (HQ.out.1.own.strs hus)
            have hst : Hid (∀ W, Below wr.heap.size wr W → W.cell? ⟨wo.heap.size, 0, none⟩ = some (.string x.tables[k].name) ∧ W.cell? ⟨wo.heap.size, 1, none⟩ = some (.slice (some ⟨b1, off1, none⟩) x.tables[k].cols.length q0) ∧ W.cell? ⟨b1, off1 + j * 6, none⟩ = some (.string x.tables[k].cols[j].name)) :=
              fun W hb => ⟨(hb.cell (p := ⟨wo.heap.size, 0, none⟩) HQ.out.1.tbox.1).trans q0', (hb.cell (p := ⟨wo.heap.size, 1, none⟩) HQ.out.1.tbox.1).trans q1', (hb.cell (p := ⟨b1, off1 + j * 6, none⟩) hbl1).trans d0⟩
            clear hv hcn hus o1
            go_wp2_with fail
            go_region_held3 (fun w' => w'.cell? ⟨wo.heap.size, 0, none⟩ = some (.string x.tables[k].name) ∧ w'.cell? ⟨wo.heap.size, 1, none⟩ = some (.slice (some ⟨b1, off1, none⟩) x.tables[k].cols.length q0) ∧ w'.cell? ⟨b1, off1 + j * 6, none⟩ = some (.string x.tables[k].cols[j].name)) (first | assumption | exact ⟨q0', q1', d0⟩)
              ((go_at_call 24; refine (specPut a8 c8 us' (dotT x.tables[k].name x.tables[k].cols[j].name) _ (HST.out.below (below_drewN (Below.refl _ _) 1)) hdz hul).mono ?_; rintro e w2 ⟨a7, c7, rfl, own7, b7⟩; have hb7 : Below wr.heap.size wr w2 := (below_drewN (Below.refl _ _) 1).trans b7; have hq2 := hst.out w2 hb7; have HN := Lib.hid (And.intro (HQ.out.1.next own7 hb7) (HQ.out.2.trans (hb7.mono HQ.out.2.size))); clear own7 b7 hb7))
            go_wp2_with fail
            go_roundw
            case rel => exact ⟨j + 1, putL us' (dotT x.tables[k].name x.tables[k].cols[j].name), a7, c7, by omega, by go_num, rfl, by rw [HE.out]; exact HN.out⟩
            case measure => simp [intOf]; omega
        · obtain rfl : j = x.tables[k].cols.length := by omega
          have HE : Hid (us' = putAll [] (partsL (enumF n) 0 (x.tables.take (k + 1)))) := by
            unfold Hid
            rw [HTK.out, putAll_append, ← hS.out.1, hQ.out.1.eq, List.take_length]
            rfl
          go_wp2_with fail
          go_roundw
          case rel => exact ⟨k + 1, us', a8, c8, by omega, by go_num, rfl, HE.out, hQ.out.1.own, hQ.out.1.bel, hQ.out.1.pbox⟩
          case measure => simp [intOf]; omega
    · obtain rfl : k = x.tables.length := by omega
      go_wp2_with fail
      go_ret
      have h1 := hS.out.1
      rw [List.take_length, put_all] at h1
      subst h1
      exact ⟨a9, c9, rfl, hS.out.2.1, hS.out.2.2.1⟩

end Go.Proofs.YtjjdcdnaonfnmaaGreat
