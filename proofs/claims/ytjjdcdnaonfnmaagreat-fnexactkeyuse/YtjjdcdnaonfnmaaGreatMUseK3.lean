/- (impl.Plan).siteOf. Written by tools/gen_useK3.py. -/
/- (impl.Plan).onlyKey. Written by tools/gen_useK4.py. -/
/- impl.partsWhere with the closure of KeyUse. Written by tools/gen_use.py. -/
/- impl.KeyUse. Written by tools/gen_useK5.py. -/
/- impl.placeOf over a list of Index. Written by tools/gen_plan.py. -/
/- impl.placeOf over a list of View. Written by tools/gen_plan.py. -/
import Derived.Test.YtjjdcdnaonfnmaaGreatMUseT
import Derived.StillTailTactics
import Derived.Deep.MidRow
import Derived.Laws.ResultCell
import Derived.Test.YtjjdcdnaonfnmaaGreatMClone
import Derived.Test.YtjjdcdnaonfnmaaGreatMPlFind
namespace Go.Proofs.YtjjdcdnaonfnmaaGreat
open Go.RowKit

theorem find_or {X : Type} (f : X → ByteArray) (xs : List X) (n : ByteArray) : findAt f xs n = -1 ∨ ∃ i : Nat, i < xs.length ∧ findAt f xs n = (i : Int) := by
  obtain ⟨h1, h2⟩ := findAt_small f xs n
  by_cases h : findAt f xs n < 0
  · exact .inl (by omega)
  · exact .inr ⟨(findAt f xs n).toNat, by omega, by omega⟩

theorem stores_blk {b : Nat} : ∀ (vs : List Value) {w : World} {cs : List Value} (o : Nat), Blk w b cs → Blk (stores w b o vs) b (setAll cs o vs)
  | [], _, _, _, h => h
  | v :: r, _, _, o, h => stores_blk r (o + 1) (h.set o v)

theorem loadSite {W : World} {b : Nat} {vs : List Value} (h : Blk W b vs) (hl : vs.length = 10) : (loadVar 146 ⟨b, 0, none⟩).run Tryz.prog W = .ok (.agg vs.toArray) W := by
  have hu : (Tryz.prog.underlying 146).map TypeDesc.isRow = some true := by kernel_rfl
  have hi : (Tryz.prog.info? 146).map (·.size) = some vs.length := by rw [hl]; kernel_rfl
  cases hq : Tryz.prog.underlying 146 with
  | none => rw [hq] at hu; cases hu
  | some d =>
    rw [hq] at hu
    refine run_loadVar_mid W b 0 146 vs d (fun j v hj => ?_) hq (by simpa using hu) hi
    rw [Nat.zero_add]
    obtain ⟨hj1, hj2⟩ := List.getElem?_eq_some_iff.1 hj
    rw [← hj2]
    exact (h.2 j hj1).1

theorem siteRet {W : World} {b : Nat} {vs : List Value} {tmps : Array Value} {v : Bool} (h : Blk W b vs) (hl : vs.length = 10) (hp : tmps.getD 4 undef = .pointer (some ⟨b, 0, none⟩)) (hq : tmps.getD 5 undef = .bool v) :
    (results Tryz.f89 tmps).run Tryz.prog W = .ok (.tuple #[.agg vs.toArray, .bool v]) W := by
  rw [results_cell_tmp (p := 4) (u := 5) (ty := 146) rfl, hp, hq]
  simp only [asAddr, Sem.run_pure, Result.andThen_ok, loadSite h hl]

set_option maxRecDepth 100000 in
set_option maxHeartbeats 2000000 in
theorem siteNone (vs : List Value) (x : Pl) (n : ByteArray) (w : World) (hR : RPl 0 w vs x) (hf : findAt Tb.name x.tables n = -1) :
    Calls Tryz.prog 89 #[.agg vs.toArray, .string n] w fun e w' => e = .returned (.tuple #[.agg #[.slice none 0 0, .slice none 0 0, .slice none 0 0, .slice none 0 0, .slice none 0 0, .int .i64 0, .string ByteArray.empty, .slice none 0 0, .slice none 0 0, .int .i64 0], .bool false]) ∧ Below w.heap.size w w' := by
  have HR := Lib.hid hR
  obtain ⟨a0, c0, a1, c1, a2, c2, a3, c3, a4, c4, rfl, _⟩ := hR
  have HB0 : Hid (Below w.heap.size w ((w.alloc (.cells #[.slice a0 x.enums.length c0, .slice a1 x.seqs.length c1, .slice a2 x.tables.length c2, .slice a3 x.indexes.length c3, .slice a4 x.views.length c4, .int .i64 x.next] 38)).alloc (.cells #[.slice none 0 0, .slice none 0 0, .slice none 0 0, .slice none 0 0, .slice none 0 0, .int .i64 0, .string ByteArray.empty, .slice none 0 0, .slice none 0 0, .int .i64 0] 146))) := below2 _ _ _
  have HRW := Lib.hid (goodPl.kept HR.out (Kept.below HB0.out))
  have hzb := blk_new (w.alloc (.cells #[.slice a0 x.enums.length c0, .slice a1 x.seqs.length c1, .slice a2 x.tables.length c2, .slice a3 x.indexes.length c3, .slice a4 x.views.length c4, .int .i64 x.next] 38)) 146 [.slice none 0 0, .slice none 0 0, .slice none 0 0, .slice none 0 0, .slice none 0 0, .int .i64 0, .string ByteArray.empty, .slice none 0 0, .slice none 0 0, .int .i64 0]
  have hz1 : (w.alloc (.cells #[.slice a0 x.enums.length c0, .slice a1 x.seqs.length c1, .slice a2 x.tables.length c2, .slice a3 x.indexes.length c3, .slice a4 x.views.length c4, .int .i64 x.next] 38)).heap.size = w.heap.size + 1 := by simp
  rw [hz1] at hzb
  have HZ := Lib.hid hzb
  clear hzb
  go_enter Tryz.func89, Tryz.ntmps89
  go_wp2_with fail
  refine (implTableAt _ x n _ HRW.out).mono ?_
  rintro e w2 ⟨rfl, b2⟩
  rw [hf]
  have B2 := Lib.hid (HB0.out.trans (b2.mono HB0.out.size))
  have Z2 := HZ.out.below b2
  have z0 : w2.cell? ⟨w.heap.size + 1, 0, none⟩ = some (.slice none 0 0) := (Z2.2 0 (by simp)).1
  have f0 : w2.frozen? ⟨w.heap.size + 1, 0, none⟩ = false := (Z2.2 0 (by simp)).2
  have z1 : w2.cell? ⟨w.heap.size + 1, 1, none⟩ = some (.slice none 0 0) := (Z2.2 1 (by simp)).1
  have f1 : w2.frozen? ⟨w.heap.size + 1, 1, none⟩ = false := (Z2.2 1 (by simp)).2
  have z2 : w2.cell? ⟨w.heap.size + 1, 2, none⟩ = some (.slice none 0 0) := (Z2.2 2 (by simp)).1
  have f2 : w2.frozen? ⟨w.heap.size + 1, 2, none⟩ = false := (Z2.2 2 (by simp)).2
  have z3 : w2.cell? ⟨w.heap.size + 1, 3, none⟩ = some (.slice none 0 0) := (Z2.2 3 (by simp)).1
  have f3 : w2.frozen? ⟨w.heap.size + 1, 3, none⟩ = false := (Z2.2 3 (by simp)).2
  have z4 : w2.cell? ⟨w.heap.size + 1, 4, none⟩ = some (.slice none 0 0) := (Z2.2 4 (by simp)).1
  have f4 : w2.frozen? ⟨w.heap.size + 1, 4, none⟩ = false := (Z2.2 4 (by simp)).2
  have z5 : w2.cell? ⟨w.heap.size + 1, 5, none⟩ = some (.int .i64 0) := (Z2.2 5 (by simp)).1
  have f5 : w2.frozen? ⟨w.heap.size + 1, 5, none⟩ = false := (Z2.2 5 (by simp)).2
  have z6 : w2.cell? ⟨w.heap.size + 1, 6, none⟩ = some (.string ByteArray.empty) := (Z2.2 6 (by simp)).1
  have f6 : w2.frozen? ⟨w.heap.size + 1, 6, none⟩ = false := (Z2.2 6 (by simp)).2
  have z7 : w2.cell? ⟨w.heap.size + 1, 7, none⟩ = some (.slice none 0 0) := (Z2.2 7 (by simp)).1
  have f7 : w2.frozen? ⟨w.heap.size + 1, 7, none⟩ = false := (Z2.2 7 (by simp)).2
  have z8 : w2.cell? ⟨w.heap.size + 1, 8, none⟩ = some (.slice none 0 0) := (Z2.2 8 (by simp)).1
  have f8 : w2.frozen? ⟨w.heap.size + 1, 8, none⟩ = false := (Z2.2 8 (by simp)).2
  have z9 : w2.cell? ⟨w.heap.size + 1, 9, none⟩ = some (.int .i64 0) := (Z2.2 9 (by simp)).1
  have f9 : w2.frozen? ⟨w.heap.size + 1, 9, none⟩ = false := (Z2.2 9 (by simp)).2
  have HLD : Hid (Blk (stores w2 (w.heap.size + 1) 0 [.slice none 0 0, .slice none 0 0, .slice none 0 0, .slice none 0 0, .slice none 0 0, .int .i64 0, .string ByteArray.empty, .slice none 0 0, .slice none 0 0, .int .i64 0]) (w.heap.size + 1) [.slice none 0 0, .slice none 0 0, .slice none 0 0, .slice none 0 0, .slice none 0 0, .int .i64 0, .string ByteArray.empty, .slice none 0 0, .slice none 0 0, .int .i64 0]) := stores_blk [.slice none 0 0, .slice none 0 0, .slice none 0 0, .slice none 0 0, .slice none 0 0, .int .i64 0, .string ByteArray.empty, .slice none 0 0, .slice none 0 0, .int .i64 0] 0 Z2
  clear b2 Z2
  go_wp2_with fail
  (try simp only [Exit.inBlock, Exit.then])
  have HL2 := HLD.out
  simp only [stores, Nat.zero_add, Nat.reduceAdd] at HL2
  refine bodyPost_ret (siteRet HL2 rfl rfl rfl) rfl ?_
  exact ⟨rfl, stores_below (b := w.heap.size + 1) (by omega) [.slice none 0 0, .slice none 0 0, .slice none 0 0, .slice none 0 0, .slice none 0 0, .int .i64 0, .string ByteArray.empty, .slice none 0 0, .slice none 0 0, .int .i64 0] 0 B2.out⟩

set_option maxRecDepth 100000 in
set_option maxHeartbeats 4000000 in
theorem siteSome (vs : List Value) (x : Pl) (n : ByteArray) (w : World) (hR : RPl 0 w vs x) (i : Nat) (hi : i < x.tables.length) (hf : findAt Tb.name x.tables n = (i : Int)) :
    Calls Tryz.prog 89 #[.agg vs.toArray, .string n] w fun e w' => ∃ us, e = .returned (.tuple #[.agg (vs ++ us).toArray, .bool true]) ∧ RTb 0 w us x.tables[i] ∧ Below w.heap.size w w' := by
  have HR := Lib.hid hR
  obtain ⟨a0, c0, a1, c1, a2, c2, a3, c3, a4, c4, rfl, _, _, _, k2, _⟩ := hR
  obtain ⟨b, off, us, rfl, hbl, hcs, hT⟩ := k2.spot hi
  have HT := Lib.hid hT
  obtain ⟨p0, q0, p1, q1, rfl, _⟩ := hT
  have HB0 : Hid (Below w.heap.size w ((w.alloc (.cells #[.slice a0 x.enums.length c0, .slice a1 x.seqs.length c1, .slice (some ⟨b, off, none⟩) x.tables.length c2, .slice a3 x.indexes.length c3, .slice a4 x.views.length c4, .int .i64 x.next] 38)).alloc (.cells #[.slice none 0 0, .slice none 0 0, .slice none 0 0, .slice none 0 0, .slice none 0 0, .int .i64 0, .string ByteArray.empty, .slice none 0 0, .slice none 0 0, .int .i64 0] 146))) := below2 _ _ _
  have HRW := Lib.hid (goodPl.kept HR.out (Kept.below HB0.out))
  have hzb := blk_new (w.alloc (.cells #[.slice a0 x.enums.length c0, .slice a1 x.seqs.length c1, .slice (some ⟨b, off, none⟩) x.tables.length c2, .slice a3 x.indexes.length c3, .slice a4 x.views.length c4, .int .i64 x.next] 38)) 146 [.slice none 0 0, .slice none 0 0, .slice none 0 0, .slice none 0 0, .slice none 0 0, .int .i64 0, .string ByteArray.empty, .slice none 0 0, .slice none 0 0, .int .i64 0]
  have hz1 : (w.alloc (.cells #[.slice a0 x.enums.length c0, .slice a1 x.seqs.length c1, .slice (some ⟨b, off, none⟩) x.tables.length c2, .slice a3 x.indexes.length c3, .slice a4 x.views.length c4, .int .i64 x.next] 38)).heap.size = w.heap.size + 1 := by simp
  rw [hz1] at hzb
  have HZ := Lib.hid hzb
  have HP := Lib.hid ((blk_new w 38 [.slice a0 x.enums.length c0, .slice a1 x.seqs.length c1, .slice (some ⟨b, off, none⟩) x.tables.length c2, .slice a3 x.indexes.length c3, .slice a4 x.views.length c4, .int .i64 x.next]).alloc (.cells #[.slice none 0 0, .slice none 0 0, .slice none 0 0, .slice none 0 0, .slice none 0 0, .int .i64 0, .string ByteArray.empty, .slice none 0 0, .slice none 0 0, .int .i64 0] 146))
  have HC : Hid (∀ W, Below w.heap.size w W → ∀ (j : Nat) (hj : j < ([.string x.tables[i].name, .slice p0 x.tables[i].cols.length q0, .slice p1 x.tables[i].rules.length q1, .int .i64 x.tables[i].token] : List Value).length), W.cell? ⟨b, off + i * 4 + j, none⟩ = some ([.string x.tables[i].name, .slice p0 x.tables[i].cols.length q0, .slice p1 x.tables[i].rules.length q1, .int .i64 x.tables[i].token] : List Value)[j]) := fun W hB j hj => (hB.cell (p := ⟨b, off + i * 4 + j, none⟩) hbl).trans (hcs j hj)
  have hi0 : (0 : Int) ≤ (i : Int) := by omega
  have hi1 : (i : Int) < (x.tables.length : Int) := by omega
  have hl2 := k2.len
  clear hzb hcs k2
  go_enter Tryz.func89, Tryz.ntmps89
  go_wp2_with fail
  refine (implTableAt _ x n _ HRW.out).mono ?_
  rintro e w2 ⟨rfl, b2⟩
  have B2 := Lib.hid (HB0.out.trans (b2.mono HB0.out.size))
  have B2d := B2.out.drew
  have Z2 := (HZ.out.below b2).below (Below.refl w2.heap.size w2).drew
  have P2 := (HP.out.below b2).below (Below.refl w2.heap.size w2).drew
  generalize hwd : w2.drew = wd at B2d Z2 P2
  have B3 := Lib.hid B2d
  have z0 : wd.cell? ⟨w.heap.size + 1, 0, none⟩ = some (.slice none 0 0) := (Z2.2 0 (by simp)).1
  have f0 : wd.frozen? ⟨w.heap.size + 1, 0, none⟩ = false := (Z2.2 0 (by simp)).2
  have z1 : wd.cell? ⟨w.heap.size + 1, 1, none⟩ = some (.slice none 0 0) := (Z2.2 1 (by simp)).1
  have f1 : wd.frozen? ⟨w.heap.size + 1, 1, none⟩ = false := (Z2.2 1 (by simp)).2
  have z2 : wd.cell? ⟨w.heap.size + 1, 2, none⟩ = some (.slice none 0 0) := (Z2.2 2 (by simp)).1
  have f2 : wd.frozen? ⟨w.heap.size + 1, 2, none⟩ = false := (Z2.2 2 (by simp)).2
  have z3 : wd.cell? ⟨w.heap.size + 1, 3, none⟩ = some (.slice none 0 0) := (Z2.2 3 (by simp)).1
  have f3 : wd.frozen? ⟨w.heap.size + 1, 3, none⟩ = false := (Z2.2 3 (by simp)).2
  have z4 : wd.cell? ⟨w.heap.size + 1, 4, none⟩ = some (.slice none 0 0) := (Z2.2 4 (by simp)).1
  have f4 : wd.frozen? ⟨w.heap.size + 1, 4, none⟩ = false := (Z2.2 4 (by simp)).2
  have z5 : wd.cell? ⟨w.heap.size + 1, 5, none⟩ = some (.int .i64 0) := (Z2.2 5 (by simp)).1
  have f5 : wd.frozen? ⟨w.heap.size + 1, 5, none⟩ = false := (Z2.2 5 (by simp)).2
  have z6 : wd.cell? ⟨w.heap.size + 1, 6, none⟩ = some (.string ByteArray.empty) := (Z2.2 6 (by simp)).1
  have f6 : wd.frozen? ⟨w.heap.size + 1, 6, none⟩ = false := (Z2.2 6 (by simp)).2
  have z7 : wd.cell? ⟨w.heap.size + 1, 7, none⟩ = some (.slice none 0 0) := (Z2.2 7 (by simp)).1
  have f7 : wd.frozen? ⟨w.heap.size + 1, 7, none⟩ = false := (Z2.2 7 (by simp)).2
  have z8 : wd.cell? ⟨w.heap.size + 1, 8, none⟩ = some (.slice none 0 0) := (Z2.2 8 (by simp)).1
  have f8 : wd.frozen? ⟨w.heap.size + 1, 8, none⟩ = false := (Z2.2 8 (by simp)).2
  have z9 : wd.cell? ⟨w.heap.size + 1, 9, none⟩ = some (.int .i64 0) := (Z2.2 9 (by simp)).1
  have f9 : wd.frozen? ⟨w.heap.size + 1, 9, none⟩ = false := (Z2.2 9 (by simp)).2
  have g0 : wd.cell? ⟨w.heap.size, 0, none⟩ = some (.slice a0 x.enums.length c0) := (P2.2 0 (by simp)).1
  have g1 : wd.cell? ⟨w.heap.size, 1, none⟩ = some (.slice a1 x.seqs.length c1) := (P2.2 1 (by simp)).1
  have g2 : wd.cell? ⟨w.heap.size, 2, none⟩ = some (.slice (some ⟨b, off, none⟩) x.tables.length c2) := (P2.2 2 (by simp)).1
  have g3 : wd.cell? ⟨w.heap.size, 3, none⟩ = some (.slice a3 x.indexes.length c3) := (P2.2 3 (by simp)).1
  have g4 : wd.cell? ⟨w.heap.size, 4, none⟩ = some (.slice a4 x.views.length c4) := (P2.2 4 (by simp)).1
  have g5 : wd.cell? ⟨w.heap.size, 5, none⟩ = some (.int .i64 x.next) := (P2.2 5 (by simp)).1
  have d0 : wd.cell? ⟨b, off + i * 4, none⟩ = some (.string x.tables[i].name) := HC.out _ B2d 0 (by simp)
  have d1 : wd.cell? ⟨b, off + i * 4 + 1, none⟩ = some (.slice p0 x.tables[i].cols.length q0) := HC.out _ B2d 1 (by simp)
  have d2 : wd.cell? ⟨b, off + i * 4 + 2, none⟩ = some (.slice p1 x.tables[i].rules.length q1) := HC.out _ B2d 2 (by simp)
  have d3 : wd.cell? ⟨b, off + i * 4 + 3, none⟩ = some (.int .i64 x.tables[i].token) := HC.out _ B2d 3 (by simp)
  have HLD : Hid (Blk (stores wd (w.heap.size + 1) 0 [.slice a0 x.enums.length c0, .slice a1 x.seqs.length c1, .slice (some ⟨b, off, none⟩) x.tables.length c2, .slice a3 x.indexes.length c3, .slice a4 x.views.length c4, .int .i64 x.next, .string x.tables[i].name, .slice p0 x.tables[i].cols.length q0, .slice p1 x.tables[i].rules.length q1, .int .i64 x.tables[i].token]) (w.heap.size + 1) [.slice a0 x.enums.length c0, .slice a1 x.seqs.length c1, .slice (some ⟨b, off, none⟩) x.tables.length c2, .slice a3 x.indexes.length c3, .slice a4 x.views.length c4, .int .i64 x.next, .string x.tables[i].name, .slice p0 x.tables[i].cols.length q0, .slice p1 x.tables[i].rules.length q1, .int .i64 x.tables[i].token]) := stores_blk [.slice a0 x.enums.length c0, .slice a1 x.seqs.length c1, .slice (some ⟨b, off, none⟩) x.tables.length c2, .slice a3 x.indexes.length c3, .slice a4 x.views.length c4, .int .i64 x.next, .string x.tables[i].name, .slice p0 x.tables[i].cols.length q0, .slice p1 x.tables[i].rules.length q1, .int .i64 x.tables[i].token] 0 Z2
  clear b2 Z2 P2 B2d
  go_wp2_with fail
  go_still_tail 7, (by kernel_rfl)
  change wpList _ _ _ _ _ w2.drew
  rw [hwd]
  go_wp2_with fail
  (try simp only [Exit.inBlock, Exit.then])
  have HL2 := HLD.out
  simp only [stores, Nat.zero_add, Nat.reduceAdd] at HL2
  refine bodyPost_ret (siteRet HL2 rfl rfl rfl) rfl ?_
  exact ⟨_, rfl, HT.out, stores_below (b := w.heap.size + 1) (by omega) [.slice a0 x.enums.length c0, .slice a1 x.seqs.length c1, .slice (some ⟨b, off, none⟩) x.tables.length c2, .slice a3 x.indexes.length c3, .slice a4 x.views.length c4, .int .i64 x.next, .string x.tables[i].name, .slice p0 x.tables[i].cols.length q0, .slice p1 x.tables[i].rules.length q1, .int .i64 x.tables[i].token] 0 B3.out⟩

end Go.Proofs.YtjjdcdnaonfnmaaGreat

namespace Go.Proofs.YtjjdcdnaonfnmaaGreat
open Go.RowKit

/-- The columns of a key that no other key of its table can stand in for. -/
def IsKey (x : Pl) (tb rl : ByteArray) (cols : List ByteArray) : Prop :=
  ∃ (i : Nat) (hi : i < x.tables.length) (j : Nat) (hj : j < x.tables[i].rules.length), findAt Tb.name x.tables tb = (i : Int) ∧ findAt Ru.name x.tables[i].rules rl = (j : Int) ∧
    keyB x.tables[i].rules[j] = true ∧ cols = x.tables[i].rules[j].cols ∧ ∀ k (hk : k < x.tables[i].rules.length), k ≠ j → (keyB x.tables[i].rules[k] && eqB x.tables[i].rules[k].cols cols) = false

theorem IsKey.only {x : Pl} {tb rl : ByteArray} {c d : List ByteArray} (h : IsKey x tb rl c) (h' : IsKey x tb rl d) : c = d := by
  obtain ⟨i, hi, j, hj, e1, e2, _, rfl, _⟩ := h
  obtain ⟨i', hi', j', hj', e1', e2', _, rfl, _⟩ := h'
  obtain rfl : i = i' := by omega
  obtain rfl : j = j' := by omega
  rfl
theorem noTable {x : Pl} {tb rl : ByteArray} (h : findAt Tb.name x.tables tb = -1) (c : List ByteArray) : ¬ IsKey x tb rl c := by
  rintro ⟨i, hi, j, hj, e1, _⟩
  omega
theorem noRule {x : Pl} {tb rl : ByteArray} {i : Nat} {hi : i < x.tables.length} (h : findAt Tb.name x.tables tb = (i : Int)) (h2 : findAt Ru.name x.tables[i].rules rl = -1) (c : List ByteArray) : ¬ IsKey x tb rl c := by
  rintro ⟨i', hi', j, hj, e1, e2, _⟩
  obtain rfl : i = i' := by omega
  omega
theorem noKey {x : Pl} {tb rl : ByteArray} {i : Nat} {hi : i < x.tables.length} {j : Nat} {hj : j < x.tables[i].rules.length} (h : findAt Tb.name x.tables tb = (i : Int)) (h2 : findAt Ru.name x.tables[i].rules rl = (j : Int)) (h3 : keyB x.tables[i].rules[j] = false) (c : List ByteArray) : ¬ IsKey x tb rl c := by
  rintro ⟨i', hi', j', hj', e1, e2, e3, _⟩
  obtain rfl : i = i' := by omega
  obtain rfl : j = j' := by omega
  rw [h3] at e3; cases e3
theorem twoKeys {x : Pl} {tb rl : ByteArray} {i : Nat} {hi : i < x.tables.length} {j : Nat} {hj : j < x.tables[i].rules.length} (h : findAt Tb.name x.tables tb = (i : Int)) (h2 : findAt Ru.name x.tables[i].rules rl = (j : Int)) {k : Nat} (hk : k < x.tables[i].rules.length) (hkj : k ≠ j)
    (h3 : (keyB x.tables[i].rules[k] && eqB x.tables[i].rules[k].cols x.tables[i].rules[j].cols) = true) (c : List ByteArray) : ¬ IsKey x tb rl c := by
  rintro ⟨i', hi', j', hj', e1, e2, e3, rfl, e5⟩
  obtain rfl : i = i' := by omega
  obtain rfl : j = j' := by omega
  rw [e5 k hk hkj] at h3; cases h3

/-- What onlyKey answers. -/
def Only (w : World) (x : Pl) (tb rl : ByteArray) (e : Ending) (w' : World) : Prop :=
  (((∀ c, ¬ IsKey x tb rl c) ∧ e = .returned (.tuple #[.slice none 0 0, .bool false])) ∨ ∃ cols a c, IsKey x tb rl cols ∧ e = .returned (.tuple #[.slice a cols.length c, .bool true]) ∧ Strs w' a c cols) ∧ Below w.heap.size w w'

set_option maxRecDepth 100000 in
set_option maxHeartbeats 8000000 in
theorem implOnly (vs : List Value) (x : Pl) (tb rl : ByteArray) (w : World) (hR : RPl 0 w vs x) :
    Calls Tryz.prog 60 #[.agg vs.toArray, .string tb, .string rl] w (Only w x tb rl) := by
  have HR := Lib.hid hR
  obtain ⟨a0, c0, a1, c1, a2, c2, a3, c3, a4, c4, rfl, _, _, _, k2, _⟩ := hR
  have HB0 : Hid (Below w.heap.size w (w.alloc (.cells #[.slice a0 x.enums.length c0, .slice a1 x.seqs.length c1, .slice a2 x.tables.length c2, .slice a3 x.indexes.length c3, .slice a4 x.views.length c4, .int .i64 x.next] 38))) := (Below.refl _ _).alloc (Nat.le_refl _) _
  have HRW := Lib.hid (goodPl.kept HR.out (Kept.below HB0.out))
  clear k2
  rcases find_or Tb.name x.tables tb with hf | ⟨i, hi, hf⟩
  · have HF := Lib.hid (noTable (rl := rl) hf)
    go_enter Tryz.func60, Tryz.ntmps60
    go_wp2_with fail
    refine (siteNone _ x tb _ HRW.out hf).mono ?_
    rintro e w2 ⟨rfl, b2⟩
    have B2 := Lib.hid (HB0.out.trans (b2.mono HB0.out.size))
    clear b2
    go_wp2_with fail
    go_ret2
    exact ⟨.inl ⟨HF.out, rfl⟩, B2.out.alloc B2.out.size _⟩
  · go_enter Tryz.func60, Tryz.ntmps60
    go_wp2_with fail
    refine (siteSome _ x tb _ HRW.out i hi hf).mono ?_
    rintro e w2 ⟨us, rfl, hT, b2⟩
    have HT := Lib.hid hT
    obtain ⟨p0, q0, p1, q1, rfl, hfit, _, kr⟩ := hT
    have B2 := Lib.hid (HB0.out.trans (b2.mono HB0.out.size))
    have HS0 := Lib.hid (blk_new w2 146 [.slice a0 x.enums.length c0, .slice a1 x.seqs.length c1, .slice a2 x.tables.length c2, .slice a3 x.indexes.length c3, .slice a4 x.views.length c4, .int .i64 x.next, .string x.tables[i].name, .slice p0 x.tables[i].cols.length q0, .slice p1 x.tables[i].rules.length q1, .int .i64 x.tables[i].token])
    have B3 := Lib.hid (B2.out.alloc B2.out.size (.cells #[.slice a0 x.enums.length c0, .slice a1 x.seqs.length c1, .slice a2 x.tables.length c2, .slice a3 x.indexes.length c3, .slice a4 x.views.length c4, .int .i64 x.next, .string x.tables[i].name, .slice p0 x.tables[i].cols.length q0, .slice p1 x.tables[i].rules.length q1, .int .i64 x.tables[i].token] 146))
    have BA : Below (w.alloc (.cells #[.slice a0 x.enums.length c0, .slice a1 x.seqs.length c1, .slice a2 x.tables.length c2, .slice a3 x.indexes.length c3, .slice a4 x.views.length c4, .int .i64 x.next] 38)).heap.size (w.alloc (.cells #[.slice a0 x.enums.length c0, .slice a1 x.seqs.length c1, .slice a2 x.tables.length c2, .slice a3 x.indexes.length c3, .slice a4 x.views.length c4, .int .i64 x.next] 38)) (w2.alloc (.cells #[.slice a0 x.enums.length c0, .slice a1 x.seqs.length c1, .slice a2 x.tables.length c2, .slice a3 x.indexes.length c3, .slice a4 x.views.length c4, .int .i64 x.next, .string x.tables[i].name, .slice p0 x.tables[i].cols.length q0, .slice p1 x.tables[i].rules.length q1, .int .i64 x.tables[i].token] 146)) := b2.alloc b2.size _
    have HT3 := Lib.hid (goodTb.kept HT.out (Kept.below BA))
    have kr3 := kr.kept goodRu (Kept.below BA)
    have hlr := kr.len
    clear b2 BA kr HT
    go_wp2_with fail
    generalize w2.alloc (.cells #[.slice a0 x.enums.length c0, .slice a1 x.seqs.length c1, .slice a2 x.tables.length c2, .slice a3 x.indexes.length c3, .slice a4 x.views.length c4, .int .i64 x.next, .string x.tables[i].name, .slice p0 x.tables[i].cols.length q0, .slice p1 x.tables[i].rules.length q1, .int .i64 x.tables[i].token] 146) = W3 at HS0 B3 HT3 kr3 ⊢
    generalize w2.heap.size = sb at HS0 ⊢
    refine (implRuleAt _ x.tables[i] rl _ HT3.out).mono ?_
    rintro e w4 ⟨rfl, b4⟩
    have HS4 := Lib.hid (HS0.out.below b4)
    have B4 := Lib.hid (B3.out.trans (b4.mono B3.out.size))
    have kr4 := kr3.kept goodRu (Kept.below b4)
    clear b4 kr3 HS0 HT3
    rcases find_or Ru.name x.tables[i].rules rl with hg | ⟨j, hj, hg⟩
    · rw [hg]
      have HF := Lib.hid (noRule hf hg)
      go_wp2_with fail
      go_ret2
      exact ⟨.inl ⟨HF.out, rfl⟩, B4.out⟩
    · rw [hg]
      have K4 := Lib.hid (fun w' (hb : Below w4.heap.size w4 w') => kr4.kept goodRu (Kept.below hb))
      obtain ⟨b, off, us, rfl, hbl, hcs, hRj⟩ := kr4.spot hj
      have HRj := Lib.hid hRj
      obtain ⟨u0, v0, u1, v1, u2, v2, rfl, _, hcj, _⟩ := hRj
      have HCJ := Lib.hid hcj.1
      have hj0 : (0 : Int) ≤ (j : Int) := by omega
      have hj1 : (j : Int) < (x.tables[i].rules.length : Int) := by omega
      have s8 : w4.cell? ⟨sb, 8, none⟩ = some (.slice (some ⟨b, off, none⟩) x.tables[i].rules.length q1) := (HS4.out.2 8 (by simp)).1
      have j0 : w4.cell? ⟨b, off + j * 6, none⟩ = some (.string x.tables[i].rules[j].name) := hcs 0 (by simp)
      have j1 : w4.cell? ⟨b, off + j * 6 + 1, none⟩ = some (.int .i64 x.tables[i].rules[j].kind) := hcs 1 (by simp)
      have j2 : w4.cell? ⟨b, off + j * 6 + 2, none⟩ = some (.slice u0 x.tables[i].rules[j].cols.length v0) := hcs 2 (by simp)
      have j3 : w4.cell? ⟨b, off + j * 6 + 3, none⟩ = some (.slice u1 x.tables[i].rules[j].expr.length v1) := hcs 3 (by simp)
      have j4 : w4.cell? ⟨b, off + j * 6 + 4, none⟩ = some (.string x.tables[i].rules[j].table) := hcs 4 (by simp)
      have j5 : w4.cell? ⟨b, off + j * 6 + 5, none⟩ = some (.slice u2 x.tables[i].rules[j].to.length v2) := hcs 5 (by simp)
      have HC := Lib.hid (fun w' (hb : Below w4.heap.size w4 w') => (hb.cell (p := ⟨b, off + j * 6 + 2, none⟩) hbl).trans j2)
      clear hcs kr4 hcj
      go_wp2_with fail
      refine (implIsKey _ x.tables[i].rules[j] _ HRj.out).mono ?_
      rintro e w5 ⟨rfl, b5⟩
      have HS5 := Lib.hid (HS4.out.below b5)
      have B5 := Lib.hid (B4.out.trans (b5.mono B4.out.size))
      have c2' := HC.out _ b5
      have s8' : w5.cell? ⟨sb, 8, none⟩ = some (.slice (some ⟨b, off, none⟩) x.tables[i].rules.length q1) := (HS5.out.2 8 (by simp)).1
      have K5 := Lib.hid (fun w' (hb : Below w5.heap.size w5 w') => K4.out w' (b5.trans (hb.mono b5.size)))
      have HCJ5 := Lib.hid (HCJ.out.below b5)
      clear b5 j0 j1 j2 j3 j4 j5
      cases hk0 : keyB x.tables[i].rules[j] with
      | false =>
        have HF := Lib.hid (noKey hf hg hk0)
        clear c2' s8'
        go_wp2_with fail
        go_ret2
        exact ⟨.inl ⟨HF.out, rfl⟩, B5.out⟩
      | true =>
        have HK0 := Lib.hid hk0
        clear hk0
        go_wp2_with fail
        go_loopw [49] (fun c wr => ∃ k : Nat, k ≤ x.tables[i].rules.length ∧ c = .int .i64 k ∧ Hid ((∀ m (hm : m < x.tables[i].rules.length), m < k → m ≠ j → (keyB x.tables[i].rules[m] && eqB x.tables[i].rules[m].cols x.tables[i].rules[j].cols) = false) ∧ Below w5.heap.size w5 wr)) (fun c _ => x.tables[i].rules.length - (intOf c).toNat)
        case atStart => exact ⟨0, Nat.zero_le _, rfl, fun m _ h => absurd h (by omega), Below.refl _ _⟩
        case round =>
          obtain ⟨k, hk, rfl, hS⟩ := hrel
          by_cases hlt : k < x.tables[i].rules.length
          · obtain ⟨b', off', us, hab, hbl', hcs, hRk⟩ := (K5.out _ hS.out.2).spot hlt
            cases hab
            have HRk := Lib.hid hRk
            obtain ⟨y0, z0, y1, z1, y2, z2, rfl, _, hck, _⟩ := hRk
            have hk0 : (0 : Int) ≤ (k : Int) := by omega
            have k0 : wr.cell? ⟨b, off + k * 6, none⟩ = some (.string x.tables[i].rules[k].name) := hcs 0 (by simp)
            have k1 : wr.cell? ⟨b, off + k * 6 + 1, none⟩ = some (.int .i64 x.tables[i].rules[k].kind) := hcs 1 (by simp)
            have k2 : wr.cell? ⟨b, off + k * 6 + 2, none⟩ = some (.slice y0 x.tables[i].rules[k].cols.length z0) := hcs 2 (by simp)
            have k3 : wr.cell? ⟨b, off + k * 6 + 3, none⟩ = some (.slice y1 x.tables[i].rules[k].expr.length z1) := hcs 3 (by simp)
            have k4 : wr.cell? ⟨b, off + k * 6 + 4, none⟩ = some (.string x.tables[i].rules[k].table) := hcs 4 (by simp)
            have k5 : wr.cell? ⟨b, off + k * 6 + 5, none⟩ = some (.slice y2 x.tables[i].rules[k].to.length z2) := hcs 5 (by simp)
            have BW : Hid (Below wr.heap.size wr (wr.alloc (.cells #[.string x.tables[i].rules[k].name, .int .i64 x.tables[i].rules[k].kind, .slice y0 x.tables[i].rules[k].cols.length z0, .slice y1 x.tables[i].rules[k].expr.length z1, .string x.tables[i].rules[k].table, .slice y2 x.tables[i].rules[k].to.length z2] 85))) := (Below.refl _ _).alloc (Nat.le_refl _) _
            have HRA := Lib.hid (goodRu.kept HRk.out (Kept.below BW.out))
            have HXA := Lib.hid (blk_new wr 85 [.string x.tables[i].rules[k].name, .int .i64 x.tables[i].rules[k].kind, .slice y0 x.tables[i].rules[k].cols.length z0, .slice y1 x.tables[i].rules[k].expr.length z1, .string x.tables[i].rules[k].table, .slice y2 x.tables[i].rules[k].to.length z2])
            have B6 := Lib.hid (hS.out.2.trans (BW.out.mono hS.out.2.size))
            have HCK := Lib.hid (hck.1.below BW.out)
            clear hcs hck
            by_cases hkj : k = j
            · have hne : ((k : Int) != (j : Int)) = false := by simp; omega
              have HALL : Hid (∀ m (hm : m < x.tables[i].rules.length), m < k + 1 → m ≠ j → (keyB x.tables[i].rules[m] && eqB x.tables[i].rules[m].cols x.tables[i].rules[j].cols) = false) := fun m hm h1 h2 => hS.out.1 m hm (by omega) h2
              clear hkj
              go_wp2_with fail
              go_roundw
              case rel => exact ⟨k + 1, by omega, by go_num, HALL.out, B6.out⟩
              case measure => simp [intOf]; omega
            · have hne : ((k : Int) != (j : Int)) = true := by simp; omega
              have HKJ := Lib.hid hkj
              clear hkj
              cases hv : keyB x.tables[i].rules[k] with
              | false =>
                have HALL : Hid (∀ m (hm : m < x.tables[i].rules.length), m < k + 1 → m ≠ j → (keyB x.tables[i].rules[m] && eqB x.tables[i].rules[m].cols x.tables[i].rules[j].cols) = false) := fun m hm h1 h2 => by
                  by_cases hmk : m < k
                  · exact hS.out.1 m hm hmk h2
                  · obtain rfl : m = k := by omega
                    rw [hv]; rfl
                have HV := Lib.hid hv
                clear hv
                go_wp2_with fail
                refine (implIsKey _ x.tables[i].rules[k] _ HRA.out).mono ?_
                rintro e w7 ⟨rfl, b7⟩
                rw [HV.out]
                have B7 := Lib.hid (B6.out.trans (b7.mono B6.out.size))
                clear b7
                go_wp2_with fail
                go_roundw
                case rel => exact ⟨k + 1, by omega, by go_num, HALL.out, B7.out⟩
                case measure => simp [intOf]; omega
              | true =>
                have HV := Lib.hid hv
                clear hv
                go_wp2_with fail
                refine (implIsKey _ x.tables[i].rules[k] _ HRA.out).mono ?_
                rintro e w7 ⟨rfl, b7⟩
                rw [HV.out]
                have B7 := Lib.hid (B6.out.trans (b7.mono B6.out.size))
                have HCK7 := Lib.hid (HCK.out.below b7)
                have r2 : w7.cell? ⟨wr.heap.size, 2, none⟩ = some (.slice y0 x.tables[i].rules[k].cols.length z0) := ((HXA.out.below b7).2 2 (by simp)).1
                have HCJ7 := Lib.hid (HCJ5.out.below B7.out)
                clear b7
                go_wp2_with fail
                refine (goEqual y0 u0 z0 v0 x.tables[i].rules[k].cols x.tables[i].rules[j].cols _ HCK7.out HCJ7.out).mono ?_
                rintro e w8 ⟨rfl, n8, rfl⟩
                cases he : eqB x.tables[i].rules[k].cols x.tables[i].rules[j].cols with
                | false =>
                  have HALL : Hid (∀ m (hm : m < x.tables[i].rules.length), m < k + 1 → m ≠ j → (keyB x.tables[i].rules[m] && eqB x.tables[i].rules[m].cols x.tables[i].rules[j].cols) = false) := fun m hm h1 h2 => by
                    by_cases hmk : m < k
                    · exact hS.out.1 m hm hmk h2
                    · obtain rfl : m = k := by omega
                      rw [he, Bool.and_false]
                  clear he
                  go_wp2_with fail
                  go_roundw
                  case rel => exact ⟨k + 1, by omega, by go_num, HALL.out, below_drewN B7.out n8⟩
                  case measure => simp [intOf]; omega
                | true =>
                  have HF := Lib.hid (twoKeys hf hg hlt HKJ.out (by rw [HV.out, he]; rfl))
                  clear he
                  go_wp2_with fail
                  go_ret2
                  exact ⟨.inl ⟨HF.out, rfl⟩, below_drewN (B5.out.trans (B7.out.mono B5.out.size)) n8⟩
          · obtain rfl : k = x.tables[i].rules.length := by omega
            have HI : Hid (IsKey x tb rl x.tables[i].rules[j].cols) := ⟨i, hi, j, hj, hf, hg, HK0.out, rfl, fun m hm h2 => hS.out.1 m hm hm h2⟩
            have HSW := Lib.hid (HCJ5.out.below hS.out.2)
            go_wp2_with fail
            go_ret2
            exact ⟨.inr ⟨_, u0, v0, HI.out, rfl, HSW.out⟩, B5.out.trans (hS.out.2.mono B5.out.size)⟩

end Go.Proofs.YtjjdcdnaonfnmaaGreat

namespace Go.Proofs.YtjjdcdnaonfnmaaGreat
open Go.RowKit

set_option maxRecDepth 100000 in
set_option maxHeartbeats 8000000 in
theorem pwKey (vs : List Value) (x : Pl) (w : World) (fr0 : Value) (fr1 : Value) (f : Nat → Tb → List ByteArray) (hR : RPl 0 w vs x) (hn : x.wt ≤ 1048576) (hf : PartsOk x f)
    (HW : Hid (∀ (W : World) (us : List Value) (t : Tb) (i : Nat), Below w.heap.size w W → RTb 0 W us t → t ∈ x.tables → i < x.tables.length → Calls Tryz.prog 61 #[.int .i64 (i : Int), .agg us.toArray, fr0, fr1] W (NewStrs W (f i t)))) :
    Calls Tryz.prog 31 #[.agg vs.toArray, .func (.func 61) #[] #[fr0, fr1]] w (NewStrs w (partsL f 0 x.tables)) := by
  obtain ⟨i0, hi0, hz0, hz1, hz2⟩ := info_parts Tryz.infoString
  obtain ⟨a0, c0, a1, c1, a2, c2, a3, c3, a4, c4, rfl, _, _, _, k2, _, _⟩ := hR
  have hl := k2.len
  have K2 := Lib.hid (fun w' (hb : Below w.heap.size w w') => k2.kept goodTb (Kept.below hb))
  have HPL := Lib.hid (fun k => partsL_le f x.tables k)
  have A0 := Lib.hid (blk_new w 38 [.slice a0 x.enums.length c0, .slice a1 x.seqs.length c1, .slice a2 x.tables.length c2, .slice a3 x.indexes.length c3, .slice a4 x.views.length c4, .int .i64 x.next])
  have B0 : Hid (Below w.heap.size w (w.alloc (.cells #[.slice a0 x.enums.length c0, .slice a1 x.seqs.length c1, .slice a2 x.tables.length c2, .slice a3 x.indexes.length c3, .slice a4 x.views.length c4, .int .i64 x.next] 38))) := (Below.refl _ _).alloc (Nat.le_refl _) _
  clear k2
  go_enter Tryz.func31, Tryz.ntmps31
  go_wp2_with fail
  go_loopw [5, 13] (fun o i wr => ∃ (k : Nat) (ys : List ByteArray) (a' : Option Addr) (c' : Nat), k ≤ x.tables.length ∧ i = .int .i64 k ∧ o = .slice a' ys.length c' ∧ Hid (ys = partsL f 0 (x.tables.take k) ∧ Own wr (w.heap.size + 1) a' c' ys ∧ Below w.heap.size w wr ∧ w.heap.size < wr.heap.size)) (fun _ i _ => x.tables.length - (intOf i).toNat)
  case atStart => exact ⟨0, [], none, 0, Nat.zero_le _, rfl, rfl, rfl, Own.nil _ _, B0.out, by simp⟩
  case round =>
    rename World => wo
    obtain ⟨k, ys, a1, c1, hk, rfl, rfl, hS⟩ := hrel
    by_cases hlt : k < x.tables.length
    · obtain ⟨b, off, us, rfl, hbl, hcs, hT⟩ := (K2.out _ hS.out.2.2.1).spot hlt
      have HT := hT
      obtain ⟨p0, q0, p1, q1, rfl, hfit, _⟩ := hT
      have hsn : x.tables[k].name.size ≤ 1048576 := by
        have h1 := wtS_get Tb.wt hlt
        have h2 : x.tables[k].wt = x.tables[k].name.size + (x.tables[k].cols.length + wtS Co.wt x.tables[k].cols) + (x.tables[k].rules.length + wtS Ru.wt x.tables[k].rules) := rfl
        have h3 : x.wt = (x.enums.length + wtS Lab.wt x.enums) + (x.seqs.length + wtS Sq.wt x.seqs) + (x.tables.length + wtS Tb.wt x.tables) + (x.indexes.length + wtS Ix.wt x.indexes) + (x.views.length + wtS Vw.wt x.views) := rfl
        omega
      have HK := Lib.hid HT
      have HWk := Lib.hid (fun (W : World) (us : List Value) (hB : Below w.heap.size w W) (hRW : RTb 0 W us (x.tables[k]'hlt)) => HW.out W us (x.tables[k]'hlt) k hB hRW (List.getElem_mem hlt) hlt)
      have hc0 : wo.cell? ⟨b, off + k * 4, none⟩ = some (.string x.tables[k].name) := hcs 0 (by simp)
      have hc1 : wo.cell? ⟨b, off + k * 4 + 1, none⟩ = some (.slice p0 x.tables[k].cols.length q0) := hcs 1 (by simp)
      have hc2 : wo.cell? ⟨b, off + k * 4 + 2, none⟩ = some (.slice p1 x.tables[k].rules.length q1) := hcs 2 (by simp)
      have hc3 : wo.cell? ⟨b, off + k * 4 + 3, none⟩ = some (.int .i64 x.tables[k].token) := hcs 3 (by simp)
      have HTK := Lib.hid (partsL_take f x.tables k hlt)
      have HFk := Lib.hid (hf.2 k hlt)
      have HFn := Lib.hid hf.1
      clear HT hcs
      go_wp2_with fail
      have hba : Below wo.heap.size wo (wo.alloc (.cells #[.string x.tables[k].name, .slice p0 x.tables[k].cols.length q0, .slice p1 x.tables[k].rules.length q1, .int .i64 x.tables[k].token] 55)) := (Below.refl _ _).alloc (Nat.le_refl _) _
      refine (HWk.out _ _ (hS.out.2.2.1.trans (hba.mono hS.out.2.2.1.size)) (goodTb.kept HK.out (Kept.below hba))).mono ?_
      rintro e w2 ⟨a2, c2, rfl, own2, b2⟩
      have A2 := Lib.hid (show Blk w2 wo.heap.size [.string x.tables[k].name, .slice p0 x.tables[k].cols.length q0, .slice p1 x.tables[k].rules.length q1, .int .i64 x.tables[k].token] from Blk.call b2 (blk_new wo _ [.string x.tables[k].name, .slice p0 x.tables[k].cols.length q0, .slice p1 x.tables[k].rules.length q1, .int .i64 x.tables[k].token]))
      have HB2 := Lib.hid (hba.trans (b2.mono hba.size))
      generalize hzs : f k x.tables[k] = zs at *
      have HZF := Lib.hid HFk.out
      have HOZ : Hid (Own w2 (wo.heap.size + 1) a2 c2 zs) := Lib.hid (by have := own2; simpa using this)
      have HOW := Lib.hid (hS.out.2.1.below HB2.out)
      have hw2 : w.heap.size + 1 ≤ w2.heap.size := Nat.le_trans hS.out.2.2.2 HB2.out.size
      have hyz : ys.length + zs.length ≤ 4194304 := by have h1 := hS.out.1; have h2 := HTK.out; have h3 := HPL.out (k + 1); have h4 := HFn.out; rw [h2, List.length_append, List.length_map, ← h1] at h3; omega
      have HB2w : Hid (Below w.heap.size w w2) := hS.out.2.2.1.trans (HB2.out.mono hS.out.2.2.1.size)
      have hwr : w.heap.size < wo.heap.size := hS.out.2.2.2
      have HPQ0 : Hid (PQ w wo w2 [.string x.tables[k].name, .slice p0 x.tables[k].cols.length q0, .slice p1 x.tables[k].rules.length q1, .int .i64 x.tables[k].token] a2 c2 zs x.tables[k].name ys 0 ys a1 c1 w2) :=
        ⟨by simp, HOW.out, HB2w.out, HOZ.out, A2.out, Nat.le_refl _, fun g hg => .inl (hS.out.2.1.lt hg).2, fun g hg => (HOZ.out.lt hg).2, A2.out.1, hwr⟩
      clear b2 hba own2
      go_wp2_with fail
      go_loopw [5, 23] (fun o i wq => ∃ (j : Nat) (us' : List ByteArray) (a' : Option Addr) (c' : Nat), j ≤ zs.length ∧ i = .int .i64 j ∧ o = .slice a' us'.length c' ∧ Hid (PQ w wo w2 [.string x.tables[k].name, .slice p0 x.tables[k].cols.length q0, .slice p1 x.tables[k].rules.length q1, .int .i64 x.tables[k].token] a2 c2 zs x.tables[k].name ys j us' a' c' wq)) (fun _ i _ => zs.length - (intOf i).toNat)
      case atStart => exact ⟨0, ys, a1, c1, Nat.zero_le _, rfl, rfl, HPQ0⟩
      case round =>
        obtain ⟨j, us', a3, c3, hj, rfl, rfl, hQ⟩ := hrel
        by_cases hlj : j < zs.length
        · have hul : us'.length = ys.length + j := by have := hQ.out.eq; rw [this]; simp; omega
          rcases hQ.out.zo.form with ⟨_, _, h0⟩ | ⟨g, hga, hg1, hg2⟩
          · rw [h0] at hlj; simp at hlj
          subst hga
          have hzc : wr.cell? ⟨g, j, none⟩ = some (.string zs[j]) := by
            have := World.ownsRow.cellAt (w := wr) hQ.out.zo j (by omega)
            rw [this]; simp [hlj]
          have hq0 : wr.cell? ⟨wo.heap.size, 0, none⟩ = some (.string x.tables[k].name) := (hQ.out.box.2 0 (by simp)).1
          have hsj : zs[j].size ≤ 1048576 := HZF.out _ (List.getElem_mem hlj)
          have hj0 : (0 : Int) ≤ (j : Int) := by omega
          have hj1 : (j : Int) < (zs.length : Int) := by omega
          have o1 : (ByteArray.mk #[46]).size = 1 := rfl
          have ad1 : ∀ W, (binOp .add 9 (.string x.tables[k].name) (.string ⟨#[46]⟩)).run Tryz.prog W = .ok (.string (x.tables[k].name ++ ⟨#[46]⟩)) W := fun W => by simp [binOp, run_string_add_sum W x.tables[k].name ⟨#[46]⟩ (by rw [o1]; omega)]
          have ad2 : ∀ W, (binOp .add 9 (.string (x.tables[k].name ++ ⟨#[46]⟩)) (.string zs[j])).run Tryz.prog W = .ok (.string (dotT x.tables[k].name zs[j])) W := fun W => by simp [binOp, dotT, run_string_add_sum W (x.tables[k].name ++ ⟨#[46]⟩) zs[j] (by rw [ByteArray.size_append, o1]; omega)]
          have hwq : w.heap.size + 1 ≤ wr.heap.size := by have h1 := hQ.out.sz; omega
          have HQj := Lib.hid hQ.out
          clear hQ o1
          go_wp2_with (at_builtin; refine wpAppendLoc rfl _ _ rfl i0 hi0 hz0 hz1 hz2 (w.heap.size + 1) a3 c3 us' wr.heap.size (dotT x.tables[k].name zs[j]) rfl (HQj.out.own.alloc _) rfl ((blk_new wr 9 [.string (dotT x.tables[k].name zs[j])]).2 0 (by simp)).1 (by omega) (by simp; omega) ?_; intro a9 c9 w9 hown9 hg9 hl9)
          have HQ9 := Lib.hid (HQj.out.step hlj hown9 hg9 hl9)
          clear hown9 hg9 hl9
          go_wp2_with fail
          go_roundw
          case rel => exact ⟨j + 1, us' ++ [dotT x.tables[k].name zs[j]], a9, c9, by omega, by go_num, by first | (simp; done) | (simp; omega), HQ9⟩
          case measure => simp [intOf]; omega
        · obtain rfl : j = zs.length := by omega
          have HE : Hid (us' = partsL f 0 (x.tables.take (k + 1))) := by unfold Hid; rw [HTK.out, hQ.out.eq, List.take_length, hS.out.1]
          have hsz := hQ.out.sz
          go_wp2_with fail
          go_roundw
          case rel => exact ⟨k + 1, us', a3, c3, by omega, by go_num, rfl, HE.out, hQ.out.own, hQ.out.bel, by omega⟩
          case measure => simp [intOf]; omega
    · obtain rfl : k = x.tables.length := by omega
      go_wp2_with fail
      go_ret
      have h1 := hS.out.1
      rw [List.take_length] at h1
      subst h1
      exact ⟨a1, c1, rfl, hS.out.2.1.lower (by omega), hS.out.2.2.1⟩

end Go.Proofs.YtjjdcdnaonfnmaaGreat

namespace Go.Proofs.YtjjdcdnaonfnmaaGreat
open Go.RowKit

open Classical in
/-- The references to a key that no other key of its table can stand in for. -/
noncomputable def keyL (x : Pl) (tb rl : ByteArray) : List ByteArray := if h : ∃ c, IsKey x tb rl c then partsL (keyF tb h.choose) 0 x.tables else []

theorem keyL_some {x : Pl} {tb rl : ByteArray} {c : List ByteArray} (h : IsKey x tb rl c) : keyL x tb rl = partsL (keyF tb c) 0 x.tables := by
  have he : ∃ c, IsKey x tb rl c := ⟨c, h⟩
  unfold keyL
  rw [dif_pos he, (he.choose_spec).only h]
theorem keyL_none {x : Pl} {tb rl : ByteArray} (h : ∀ c, ¬ IsKey x tb rl c) : keyL x tb rl = [] := by
  unfold keyL
  rw [dif_neg (by rintro ⟨c, hc⟩; exact h c hc)]

theorem key_few (x : Pl) (tb rl : ByteArray) (hn : x.wt ≤ 1048576) : (keyL x tb rl).length ≤ 1048576 ∧ ∀ s ∈ keyL x tb rl, s.size ≤ 1048576 := by
  by_cases h : ∃ c, IsKey x tb rl c
  · obtain ⟨c, hc⟩ := h
    rw [keyL_some hc]
    exact (partsOk_of (key_light tb c) hn).2
  · rw [keyL_none (fun c hc => h ⟨c, hc⟩)]
    exact ⟨by simp, fun s hs => by simp at hs⟩

theorem key_ok (x : Pl) (tb rl : ByteArray) (hn : x.wt ≤ 1048576) : (risingU (keyL x tb rl)).length ≤ 1048576 ∧ ∀ s ∈ risingU (keyL x tb rl), s.size ≤ 1048576 := by
  obtain ⟨h1, h2⟩ := key_few x tb rl hn
  have h3 := risingU_len (keyL x tb rl)
  exact ⟨by omega, fun s hs => h2 s (((risingU_facts _).2 s).1 hs)⟩

theorem ris_none : risingU [] = [] := List.eq_nil_of_length_eq_zero (by have := risingU_len []; simpa using this)

set_option maxRecDepth 100000 in
set_option maxHeartbeats 4000000 in
theorem implKeyUse (vs : List Value) (x : Pl) (tb rl : ByteArray) (w : World) (hR : RPl 0 w vs x) (hn : x.wt ≤ 1048576) :
    Calls Tryz.prog 18 #[.agg vs.toArray, .string tb, .string rl] w (NewStrs w (risingU (keyL x tb rl))) := by
  have HR := Lib.hid hR
  have hcl : Hid (∀ t ∈ x.tables, t.rules.length ≤ 1048576) := by
    intro t ht
    obtain ⟨i, hi, rfl⟩ := List.mem_iff_getElem.1 ht
    have h1 := wtS_get Tb.wt hi
    have h3 : x.wt = (x.enums.length + wtS Lab.wt x.enums) + (x.seqs.length + wtS Sq.wt x.seqs) + (x.tables.length + wtS Tb.wt x.tables) + (x.indexes.length + wtS Ix.wt x.indexes) + (x.views.length + wtS Vw.wt x.views) := rfl
    have h2 : x.tables[i].wt = x.tables[i].name.size + (x.tables[i].cols.length + wtS Co.wt x.tables[i].cols) + (x.tables[i].rules.length + wtS Ru.wt x.tables[i].rules) := rfl
    omega
  obtain ⟨a0, c0, a1, c1, a2, c2, a3, c3, a4, c4, rfl, _⟩ := hR
  have hba : Below w.heap.size w ((w.alloc (.cells #[.slice a0 x.enums.length c0, .slice a1 x.seqs.length c1, .slice a2 x.tables.length c2, .slice a3 x.indexes.length c3, .slice a4 x.views.length c4, .int .i64 x.next] 38)).alloc (.cells #[.string tb] 9)) := below2 _ _ _
  have hnb := ((blk_new (w.alloc (.cells #[.slice a0 x.enums.length c0, .slice a1 x.seqs.length c1, .slice a2 x.tables.length c2, .slice a3 x.indexes.length c3, .slice a4 x.views.length c4, .int .i64 x.next] 38)) 9 [.string tb]).2 0 (by simp)).1
  have hpb := (blk_new w 38 [.slice a0 x.enums.length c0, .slice a1 x.seqs.length c1, .slice a2 x.tables.length c2, .slice a3 x.indexes.length c3, .slice a4 x.views.length c4, .int .i64 x.next]).alloc (.cells #[.string tb] 9)
  have hz1 : (w.alloc (.cells #[.slice a0 x.enums.length c0, .slice a1 x.seqs.length c1, .slice a2 x.tables.length c2, .slice a3 x.indexes.length c3, .slice a4 x.views.length c4, .int .i64 x.next] 38)).heap.size = w.heap.size + 1 := by simp
  rw [hz1] at hnb
  have HB := Lib.hid hba
  have HP := Lib.hid hpb
  have HRW := Lib.hid (goodPl.kept HR.out (Kept.below hba))
  have hlt : w.heap.size + 1 < ((w.alloc (.cells #[.slice a0 x.enums.length c0, .slice a1 x.seqs.length c1, .slice a2 x.tables.length c2, .slice a3 x.indexes.length c3, .slice a4 x.views.length c4, .int .i64 x.next] 38)).alloc (.cells #[.string tb] 9)).heap.size := by simp
  have HN : Hid (∀ W, Below ((w.alloc (.cells #[.slice a0 x.enums.length c0, .slice a1 x.seqs.length c1, .slice a2 x.tables.length c2, .slice a3 x.indexes.length c3, .slice a4 x.views.length c4, .int .i64 x.next] 38)).alloc (.cells #[.string tb] 9)).heap.size ((w.alloc (.cells #[.slice a0 x.enums.length c0, .slice a1 x.seqs.length c1, .slice a2 x.tables.length c2, .slice a3 x.indexes.length c3, .slice a4 x.views.length c4, .int .i64 x.next] 38)).alloc (.cells #[.string tb] 9)) W → W.cell? ⟨w.heap.size + 1, 0, none⟩ = some (.string tb) ∧ w.heap.size + 1 < W.heap.size) :=
    fun W hb => ⟨(hb.cell (p := ⟨w.heap.size + 1, 0, none⟩) hlt).trans hnb, Nat.lt_of_lt_of_le hlt hb.size⟩
  clear hba hnb hz1 hlt hpb
  go_enter Tryz.func18, Tryz.ntmps18
  go_wp2_with fail
  refine (implOnly _ x tb rl _ HRW.out).mono ?_
  rintro e w2 ⟨hcase, b2⟩
  rcases hcase with ⟨hno, rfl⟩ | ⟨cols, ac, cc, hkey, rfl, hst⟩
  · have HE : Hid (risingU (keyL x tb rl) = []) := by unfold Hid; rw [keyL_none hno, ris_none]
    have B2 := Lib.hid (HB.out.trans (b2.mono HB.out.size))
    clear b2 hno
    go_wp2_with fail
    go_ret
    rw [HE.out]
    exact ⟨none, 0, rfl, Own.nil _ _, B2.out.alloc B2.out.size _⟩
  · obtain ⟨hok, hol, hoz⟩ := partsOk_of (key_light tb cols) hn
    have HE : Hid (keyL x tb rl = partsL (keyF tb cols) 0 x.tables) := keyL_some hkey
    have B2 := Lib.hid (HB.out.trans (b2.mono HB.out.size))
    have B3 := Lib.hid (B2.out.alloc B2.out.size (.cells #[.slice ac cols.length cc] 30))
    have bl : Below ((w.alloc (.cells #[.slice a0 x.enums.length c0, .slice a1 x.seqs.length c1, .slice a2 x.tables.length c2, .slice a3 x.indexes.length c3, .slice a4 x.views.length c4, .int .i64 x.next] 38)).alloc (.cells #[.string tb] 9)).heap.size ((w.alloc (.cells #[.slice a0 x.enums.length c0, .slice a1 x.seqs.length c1, .slice a2 x.tables.length c2, .slice a3 x.indexes.length c3, .slice a4 x.views.length c4, .int .i64 x.next] 38)).alloc (.cells #[.string tb] 9)) (w2.alloc (.cells #[.slice ac cols.length cc] 30)) := b2.alloc b2.size _
    have HP3 := HP.out.below bl
    have g0 : (w2.alloc (.cells #[.slice ac cols.length cc] 30)).cell? ⟨w.heap.size, 0, none⟩ = some (.slice a0 x.enums.length c0) := (HP3.2 0 (by simp)).1
    have g1 : (w2.alloc (.cells #[.slice ac cols.length cc] 30)).cell? ⟨w.heap.size, 1, none⟩ = some (.slice a1 x.seqs.length c1) := (HP3.2 1 (by simp)).1
    have g2 : (w2.alloc (.cells #[.slice ac cols.length cc] 30)).cell? ⟨w.heap.size, 2, none⟩ = some (.slice a2 x.tables.length c2) := (HP3.2 2 (by simp)).1
    have g3 : (w2.alloc (.cells #[.slice ac cols.length cc] 30)).cell? ⟨w.heap.size, 3, none⟩ = some (.slice a3 x.indexes.length c3) := (HP3.2 3 (by simp)).1
    have g4 : (w2.alloc (.cells #[.slice ac cols.length cc] 30)).cell? ⟨w.heap.size, 4, none⟩ = some (.slice a4 x.views.length c4) := (HP3.2 4 (by simp)).1
    have g5 : (w2.alloc (.cells #[.slice ac cols.length cc] 30)).cell? ⟨w.heap.size, 5, none⟩ = some (.int .i64 x.next) := (HP3.2 5 (by simp)).1
    have HR3 := Lib.hid (goodPl.kept HRW.out (Kept.below bl))
    have hcb := blk_new w2 30 [.slice ac cols.length cc]
    have HKE : Hid (KE (w.heap.size + 1) tb w2.heap.size ac cc cols (w2.alloc (.cells #[.slice ac cols.length cc] 30))) :=
      ⟨(HN.out _ bl).1, (HN.out _ bl).2, (hcb.2 0 (by simp)).1, hcb.1, hst.below ((Below.refl _ _).alloc (Nat.le_refl _) _)⟩
    clear b2 bl HP3 hcb hst hkey
    go_wp2_with fail
    refine (pwKey _ x _ (.pointer (some ⟨w.heap.size + 1, 0, none⟩)) (.pointer (some ⟨w2.heap.size, 0, none⟩)) (keyF tb cols) HR3.out hn hok ?_).mono ?_
    · intro W us t i hb ht hm hi
      exact keyT us t i (w.heap.size + 1) tb w2.heap.size ac cc cols W ht (HKE.out.below hb) (hcl.out t hm)
    rintro e w4 ⟨ao, co, rfl, own4, b4⟩
    have HO := Lib.hid (one_list (own4.strs (fun s hs => by have := hoz s hs; unfold maxLen; omega)) 30)
    have HB4 := Lib.hid (B3.out.trans (b4.mono B3.out.size))
    clear own4 b4
    go_wp2_with fail
    refine (implRising _ 1 [partsL (keyF tb cols) 0 x.tables] _ HO.out (by simp; omega) (by simp) (by simpa using hoz)).mono ?_
    rintro e w5 ⟨a5, c5, rfl, own5, b5⟩
    have HB5 := Lib.hid ((HB4.out.alloc HB4.out.size (.cells #[.slice ao (partsL (keyF tb cols) 0 x.tables).length co] 30)).trans (b5.mono (by have := HB4.out.size; simp; omega)))
    have HO5 := Lib.hid (own5.lower (B' := w.heap.size) (by have := HB4.out.size; simp; omega))
    have hfl : [partsL (keyF tb cols) 0 x.tables].flatten = keyL x tb rl := by rw [HE.out]; simp
    rw [hfl] at HO5 ⊢
    clear own5 b5
    go_wp2_with fail
    go_ret
    exact ⟨a5, c5, rfl, HO5.out, HB5.out⟩

end Go.Proofs.YtjjdcdnaonfnmaaGreat

namespace Go.Proofs.YtjjdcdnaonfnmaaGreat
open Go.RowKit

set_option maxHeartbeats 1000000 in
theorem ownIx (vs : List Value) (x : Ix) (w : World) (hR : ∃ lo w', RIx lo w' vs x) :
    Calls Tryz.prog 161 #[.agg vs.toArray] w fun e w' => e = .returned (.string x.name) ∧ Below w.heap.size w w' := by
  obtain ⟨_, _, hR⟩ := hR
  obtain ⟨a0, c0, rfl, _⟩ := hR
  go_enter Tryz.func161, Tryz.ntmps161
  go_wp2_with fail
  go_ret
  exact ⟨rfl, (Below.refl _ _).alloc (Nat.le_refl _) _⟩

end Go.Proofs.YtjjdcdnaonfnmaaGreat

namespace Go.Proofs.YtjjdcdnaonfnmaaGreat
open Go.RowKit

set_option maxHeartbeats 1000000 in
theorem ownVw (vs : List Value) (x : Vw) (w : World) (hR : ∃ lo w', RVw lo w' vs x) :
    Calls Tryz.prog 162 #[.agg vs.toArray] w fun e w' => e = .returned (.string x.name) ∧ Below w.heap.size w w' := by
  obtain ⟨_, _, hR⟩ := hR
  obtain ⟨a0, c0, a1, c1, rfl, _⟩ := hR
  go_enter Tryz.func162, Tryz.ntmps162
  go_wp2_with fail
  go_ret
  exact ⟨rfl, (Below.refl _ _).alloc (Nat.le_refl _) _⟩

end Go.Proofs.YtjjdcdnaonfnmaaGreat
