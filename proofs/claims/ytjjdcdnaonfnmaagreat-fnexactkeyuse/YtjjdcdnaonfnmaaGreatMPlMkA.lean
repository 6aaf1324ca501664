/- The laws' marks in copies of schemas (texts, expressions). Written by tools/gen_mark.py. -/
/- The laws' marks in copies of schemas (Labels, Seq, Col). Written by tools/gen_mark.py. -/
/- The laws' marks in copies of schemas (Rule, Index, View). Written by tools/gen_mark.py. -/
/- The laws' marks in copies of schemas (Table). Written by tools/gen_mark.py. -/
import Derived.Test.YtjjdcdnaonfnmaaGreatMDatU
import Derived.IntWalk
import Derived.Deep.RegionHeld3
namespace Go.Proofs.YtjjdcdnaonfnmaaGreat
open Go.RowKit

theorem SlU.cellOf {X : Type} {T : TypeId} {K b c : Nat} {xs : List X} {rows : List (List Value)} {w : World} (hown : w.ownsRow b T K (.slice (some ⟨b, 0, none⟩) xs.length c) xs.length rows.flatten) (hl : rows.length = xs.length) (hw : ∀ r ∈ rows, r.length = K)
    {i : Nat} (hi : i < rows.length) {vs : List Value} (hv : rows[i] = vs) {t : Nat} (ht : t < vs.length) : w.cell? ⟨b, i * K + t, none⟩ = some vs[t] := by
  subst hv
  exact SlU.cell hown hl hw hi ht

theorem Mkd.int {lo : Nat} {w1 w w2 : World} (h : Mkd lo w1 w w2) {b o : Nat} (hl : lo ≤ b) (hb : b < w1.heap.size) {n0 : Int} (hc : w1.cell? ⟨b, o, none⟩ = some (.int .i64 n0)) (n : Int) : Mkd lo w1 w (w2.setCell ⟨b, o, none⟩ (.int .i64 n)) := by
  obtain ⟨_, h'⟩ := h.1.it b o n0 hl hb hc
  exact h.setInt hl hb h' n
theorem Mkd.str {lo : Nat} {w1 w w2 : World} (h : Mkd lo w1 w w2) {b o : Nat} (hl : lo ≤ b) (hb : b < w1.heap.size) {n0 : ByteArray} (hc : w1.cell? ⟨b, o, none⟩ = some (.string n0)) (n : ByteArray) : Mkd lo w1 w (w2.setCell ⟨b, o, none⟩ (.string n)) := by
  obtain ⟨_, h'⟩ := h.1.st b o n0 hl hb hc
  exact h.setStr hl hb h' n
theorem Mkd.bool {lo : Nat} {w1 w w2 : World} (h : Mkd lo w1 w w2) {b o : Nat} (hl : lo ≤ b) (hb : b < w1.heap.size) {n0 : Bool} (hc : w1.cell? ⟨b, o, none⟩ = some (.bool n0)) (n : Bool) : Mkd lo w1 w (w2.setCell ⟨b, o, none⟩ (.bool n)) := by
  obtain ⟨_, h'⟩ := h.1.bo b o n0 hl hb hc
  exact h.setBool hl hb h' n

theorem Blk.turn {w w' : World} {b : Nat} {vs : List Value} {q : Nat → Prop} (h : Blk w b vs) (ht : TurnX q w w') (hq : ¬ q b) : Blk w' b vs := by
  have hb := ht.2.2.2.2 b h.1 hq
  refine ⟨Nat.lt_of_lt_of_le h.1 ht.2.2.2.1, fun j hj => ⟨(World.cell?_of_block (a := ⟨b, j, none⟩) hb).trans (h.2 j hj).1, ?_⟩⟩
  have := (h.2 j hj).2
  unfold World.frozen? at this ⊢
  rw [hb]
  exact this

def cntS {X : Type} (f : X → Nat) (xs : List X) : Nat := (xs.map f).sum
theorem cntS_take {X : Type} (cnt : X → Nat) (xs : List X) (k : Nat) (h : k < xs.length) : cntS cnt (xs.take (k + 1)) = cntS cnt (xs.take k) + cnt xs[k] := wtS_take cnt xs k h
theorem cntS_le {X : Type} (cnt : X → Nat) (xs : List X) (k : Nat) : cntS cnt (xs.take k) ≤ cntS cnt xs := wtS_le cnt xs k

theorem mkText (z : Int) (w : World) (h1 : 1 ≤ z) (h2 : z ≤ 16777216) : Calls Tryz.prog 46 #[.int .i64 z] w fun e w' => ∃ t, e = .returned (.string t) ∧ Below w.heap.size w w' := by
  obtain ⟨k, rfl⟩ := Int.eq_ofNat_of_zero_le (show 0 ≤ z by omega)
  refine (markText k w (by omega) (by omega)).mono ?_
  rintro e w' ⟨rfl, hb⟩
  exact ⟨_, rfl, hb⟩

set_option maxHeartbeats 2000000 in
theorem mkSs (lo : Nat) (w1 : World) (a : Option Addr) (c : Nat) (xs : List ByteArray) (h : SsU lo w1 a c xs) (z : Int) (w : World) (hs : Sim lo w1 w) (h1 : 1 ≤ z) (h2 : z + (xs.length : Nat) ≤ 8388608) :
    Calls Tryz.prog 13 #[.slice a xs.length c, .int .i64 z] w fun e w' => e = .returned (.int .i64 (z + (xs.length : Nat))) ∧ Mkd lo w1 w w' := by
  have HS := Lib.hid hs
  have HO := Lib.hid h.1
  have hcap := (h.weak).1.len
  clear hs h
  go_enter Tryz.func13, Tryz.ntmps13
  go_wp2_with fail
  go_loopw [1, 5] (fun q i wr => ∃ j : Nat, j ≤ xs.length ∧ i = .int .i64 j ∧ q = .int .i64 (z + (j : Nat)) ∧ Hid (Mkd lo w1 w wr)) (fun _ i _ => xs.length - (intOf i).toNat)
  case atStart => exact ⟨0, Nat.zero_le _, rfl, by simp, Mkd.refl HS.out⟩
  case round =>
    obtain ⟨j, hj, rfl, rfl, HM⟩ := hrel
    by_cases hlt : j < xs.length
    · rcases HO.out.form with ⟨_, _, h0⟩ | ⟨b, rfl, hlo, hbl⟩
      · subst h0; simp at hlt
      have E0 : Hid (w1.cell? ⟨b, j, none⟩ = some (.string xs[j])) := by
        have := World.ownsRow.cellAt (w := w1) HO.out j (by omega)
        unfold Hid
        rw [this]
        simp [hlt]
      have F0 : Hid (w1.frozen? ⟨b, j, none⟩ = false) := HO.out.frozenAt j
      have hj0 : (0 : Int) ≤ (j : Int) := by omega
      go_wp2_with fail
      refine (mkText _ _ (by omega) (by omega)).mono ?_
      rintro x w2 ⟨t1, rfl, b1⟩
      have M1 := Lib.hid (show Mkd lo w1 w w2 from HM.out.below b1)
      obtain ⟨y0, d0⟩ := M1.out.1.st b _ _ hlo hbl E0.out
      have f0 : w2.frozen? ⟨b, j, none⟩ = false := (M1.out.1.fz b _ hlo hbl).trans F0.out
      clear b1
      go_wp2_with fail
      go_roundw
      case rel => exact ⟨j + 1, by omega, by go_num, by go_num, Lib.hid (M1.out.str hlo hbl E0.out _)⟩
      case measure => simp [intOf]; omega
    · obtain rfl : j = xs.length := by omega
      go_wp2_with fail
      go_ret
      exact ⟨rfl, HM.out⟩

set_option maxRecDepth 100000 in
set_option maxHeartbeats 2000000 in
theorem mkKids (lo : Nat) (w1 : World) : ∀ (d : Nat) (a : Option Addr) (c : Nat) (kids : List Ex) (bs : List Nat), KidsO w1 d a c kids bs → (∀ b ∈ bs, lo ≤ b) → ∀ (z : Int) (w : World), Sim lo w1 w → 1 ≤ z → z + (3 * nodesL kids : Nat) ≤ 8388608 →
    Calls Tryz.prog 87 #[.slice a kids.length c, .int .i64 z] w fun e w' => e = .returned (.int .i64 (z + (3 * nodesL kids : Nat))) ∧ Mkd lo w1 w w'
  | 0, _, _, _, _, h => h.elim
  | d + 1, a, c, kids, bs, hk => by
    intro hbs z w hs h1 h2
    have ih := mkKids lo w1 d
    have hlen := hk.at.len
    rcases hk.2.2.2 with ⟨rfl, rfl⟩ | ⟨b, es, bss, rfl, rfl, hl, hp, rfl, hown, hkid⟩
    · have HS := Lib.hid hs
      clear hk hs
      go_enter Tryz.func87, Tryz.ntmps87
      go_wp2_with fail
      go_loopw [1, 5] (fun q i wr => q = .int .i64 z ∧ i = .int .i64 0 ∧ wr = w) (fun _ _ _ => 0)
      case atStart => exact ⟨rfl, rfl, rfl⟩
      case round =>
        obtain ⟨rfl, rfl, rfl⟩ := hrel
        go_wp2_with fail
        go_ret
        exact ⟨by simp [nodesL], Mkd.refl HS.out⟩
    · have hlo : lo ≤ b := hbs b (List.mem_cons_self ..)
      have hbl := ownsRow_lt hown
      have hlm : (es.map Es.e).length = es.length := List.length_map ..
      have HC := Lib.hid (fun (i : Nat) (hi : i < es.length) => And.intro (ecells_at es i hi) (And.intro (World.ownsRow.cellAt (w := w1) hown (i * 4) (by omega)) (And.intro (World.ownsRow.cellAt (w := w1) hown (i * 4 + 1) (by omega)) (And.intro (World.ownsRow.cellAt (w := w1) hown (i * 4 + 2) (by omega)) (World.ownsRow.cellAt (w := w1) hown (i * 4 + 3) (by omega))))))
      have HF := Lib.hid (fun (t : Nat) => hown.frozenAt t)
      have HKI := Lib.hid (fun (i : Nat) (h : i < es.length) => And.intro (hkid i h (by omega)).2 (fun g (hg : g ∈ bss[i]'(by omega)) => hbs g (List.mem_cons_of_mem _ (List.mem_flatten.2 ⟨_, List.getElem_mem (by omega), hg⟩))))
      have hme : es.length ≤ 9223372036854775807 := by omega
      have HS := Lib.hid hs
      generalize hkk : es.map Es.e = kids at *
      have HE : Hid (∀ (i : Nat) (h : i < es.length) (h' : i < kids.length), es[i].e = kids[i]) := by unfold Hid; intro i h h'; subst hkk; simp
      clear hk hown hkid hkk hs hbs
      rw [hlm]
      go_enter Tryz.func87, Tryz.ntmps87
      go_wp2_with fail
      go_loopw [1, 5] (fun q i wr => ∃ j : Nat, j ≤ es.length ∧ i = .int .i64 j ∧ q = .int .i64 (z + (3 * nodesL (kids.take j) : Nat)) ∧ Hid (Mkd lo w1 w wr)) (fun _ i _ => es.length - (intOf i).toNat)
      case atStart => exact ⟨0, Nat.zero_le _, rfl, by simp [nodesL], Mkd.refl HS.out⟩
      case round =>
        obtain ⟨j, hj, rfl, rfl, HM⟩ := hrel
        by_cases hlt : j < es.length
        · have hjk : j < kids.length := by omega
          have HNT : Hid (nodesL (kids.take (j + 1)) = nodesL (kids.take j) + kids[j].nodes) := nodesL_take kids j hjk
          have HNM : Hid (nodesL (kids.take (j + 1)) ≤ nodesL kids) := nodesL_takeM kids (j + 1)
          have HNE : Hid (kids[j].nodes = 1 + nodesL kids[j].kids) := Ex.nodes_eq _
          obtain ⟨⟨t0, t1, t2, t3⟩, q0, q1, q2, q3⟩ := HC.out j hlt
          have E0 := Lib.hid (q0.trans t0)
          have E1 := Lib.hid (q1.trans t1)
          have E2 := Lib.hid (q2.trans t2)
          have e3 := q3.trans t3
          unfold Es.s at e3
          rw [HE.out j hlt hjk] at e3
          have E3 := Lib.hid e3
          obtain ⟨hki, hkb⟩ := HKI.out j hlt
          rw [HE.out j hlt hjk] at hki
          have HKJ := Lib.hid (And.intro hki hkb)
          clear t0 t1 t2 t3 q0 q1 q2 q3 e3 hki hkb
          have hj0 : (0 : Int) ≤ (j : Int) := by omega
          obtain ⟨p, hp⟩ : ∃ p : Int, p = z + (3 * nodesL (kids.take j) : Nat) := ⟨_, rfl⟩
          rw [← hp]
          have hp1 : 1 ≤ p := by omega
          have hpb : p + 3 + (3 * nodesL kids[j].kids : Nat) ≤ 8388608 := by have h3 := HNT.out; have h4 := HNM.out; have h5 := HNE.out; omega
          have HP := Lib.hid hp
          clear hp
          obtain ⟨y0, d0⟩ := HM.out.1.it b _ _ hlo hbl E0.out
          have f0 : wr.frozen? ⟨b, j * 4, none⟩ = false := (HM.out.1.fz b _ hlo hbl).trans (HF.out _)
          obtain ⟨y1, d1⟩ := HM.out.1.st b _ _ hlo hbl E1.out
          obtain ⟨y2, d2⟩ := HM.out.1.it b _ _ hlo hbl E2.out
          have d3 := HM.out.1.sl b _ _ _ _ hlo hbl E3.out
          have hih : Hid (∀ z' : Int, z' = p + 3 → ∀ W, Sim lo w1 W → Calls Tryz.prog 87 #[.slice es[j].a kids[j].kids.length es[j].c, .int .i64 z'] W fun x w' => x = .returned (.int .i64 (z' + (3 * nodesL kids[j].kids : Nat))) ∧ Mkd lo w1 W w') := fun z' hz W hW => by
            subst hz; exact ih _ _ _ _ HKJ.out.1 HKJ.out.2 _ W hW (by omega) (by omega)
          clear ih
          go_wp2_with fail
          refine (mkText _ _ (by omega) (by omega)).mono ?_
          rintro x w2 ⟨t1, rfl, b1⟩
          have M1 := Lib.hid (show Mkd lo w1 w w2 from (HM.out.int hlo hbl E0.out _).below b1)
          clear d0 f0 d1 d2 d3 b1
          obtain ⟨z1, d1⟩ := M1.out.1.st b _ _ hlo hbl E1.out
          obtain ⟨z2, d2⟩ := M1.out.1.it b _ _ hlo hbl E2.out
          have d3 := M1.out.1.sl b _ _ _ _ hlo hbl E3.out
          have f1 : w2.frozen? ⟨b, j * 4 + 1, none⟩ = false := (M1.out.1.fz b _ hlo hbl).trans (HF.out _)
          have f2 : w2.frozen? ⟨b, j * 4 + 2, none⟩ = false := (M1.out.1.fz b _ hlo hbl).trans (HF.out _)
          go_wp2_with fail
          refine (hih.out _ (by omega) _ ?_).mono ?_
          · exact ((M1.out.str hlo hbl E1.out _).int hlo hbl E2.out _).1
          rintro x w4 ⟨rfl, b4⟩
          have M4 := Lib.hid (show Mkd lo w1 w w4 from ((M1.out.str hlo hbl E1.out _).int hlo hbl E2.out _).trans b4)
          clear d1 d2 d3 f1 f2 b4
          go_wp2_with fail
          go_roundw
          case rel => exact ⟨j + 1, by omega, by go_num, congrArg (Value.int .i64) (by have h3 := HNT.out; have h4 := HNE.out; have h5 := HP.out; omega), M4⟩
          case measure => simp [intOf]; omega
        · obtain rfl : j = es.length := by omega
          go_wp2_with fail
          go_ret
          exact ⟨by rw [show es.length = kids.length by omega, List.take_length]; rfl, HM.out⟩

theorem mkKs (lo : Nat) (w1 : World) (a : Option Addr) (c : Nat) (xs : List Ex) (h : KsU lo w1 a c xs) (z : Int) (w : World) (hs : Sim lo w1 w) (h1 : 1 ≤ z) (h2 : z + (3 * nodesL xs : Nat) ≤ 8388608) :
    Calls Tryz.prog 87 #[.slice a xs.length c, .int .i64 z] w fun e w' => e = .returned (.int .i64 (z + (3 * nodesL xs : Nat))) ∧ Mkd lo w1 w w' := by
  obtain ⟨d, bs, hk, hb⟩ := h
  exact mkKids lo w1 (d + 1) a c xs bs hk hb z w hs h1 h2

end Go.Proofs.YtjjdcdnaonfnmaaGreat

namespace Go.Proofs.YtjjdcdnaonfnmaaGreat
open Go.RowKit

def Lab.cnt (x : Lab) : Nat := 1 + x.list.length

set_option maxHeartbeats 4000000 in
theorem mkLabS (lo : Nat) (w1 : World) (a : Option Addr) (c : Nat) (xs : List Lab) (h : SlU 123 2 RLabU lo w1 a c xs) (z : Int) (w : World) (hs : Sim lo w1 w) (h1 : 1 ≤ z) (h2 : z + (cntS Lab.cnt xs : Nat) ≤ 8388608) :
    Calls Tryz.prog 41 #[.slice a xs.length c, .int .i64 z] w fun e w' => e = .returned (.int .i64 (z + (cntS Lab.cnt xs : Nat))) ∧ Mkd lo w1 w w' := by
  obtain ⟨b, rows, rfl, hlo, hown, hlen, hwid, hitem⟩ := h
  have hbl := ownsRow_lt hown
  have hme : xs.length ≤ 9223372036854775807 := by have := ownsRow_caps hown; unfold maxLen at this; omega
  have HC := Lib.hid (fun (i : Nat) (hi : i < rows.length) (vs : List Value) (hv : rows[i] = vs) (t : Nat) (ht : t < vs.length) => SlU.cellOf hown hlen hwid hi hv ht)
  have HF := Lib.hid (fun (t : Nat) => hown.frozenAt t)
  have HI := Lib.hid hitem
  have HS := Lib.hid hs
  clear hown hwid hitem hs
  go_enter Tryz.func41, Tryz.ntmps41
  go_wp2_with fail
  go_loopw [1, 5] (fun q i wr => ∃ j : Nat, j ≤ xs.length ∧ i = .int .i64 j ∧ q = .int .i64 (z + (cntS Lab.cnt (xs.take j) : Nat)) ∧ Hid (Mkd lo w1 w wr)) (fun _ i _ => xs.length - (intOf i).toNat)
  case atStart => exact ⟨0, Nat.zero_le _, rfl, by simp [cntS], Mkd.refl HS.out⟩
  case round =>
    obtain ⟨j, hj, rfl, rfl, HM⟩ := hrel
    by_cases hlt : j < xs.length
    · have hjr : j < rows.length := by omega
      have HT := Lib.hid (cntS_take Lab.cnt xs j hlt)
      have HL := Lib.hid (cntS_le Lab.cnt xs (j + 1))
      have HN : Hid (xs[j].cnt = 1 + xs[j].list.length) := rfl
      obtain ⟨a0, c0, hvs, _, u0⟩ := HI.out j hjr hlt
      have e0 : w1.cell? ⟨b, j * 2, none⟩ = some (.string xs[j].name) := HC.out j hjr _ hvs 0 (by simp)
      have e1 : w1.cell? ⟨b, j * 2 + 1, none⟩ = some (.slice a0 xs[j].list.length c0) := HC.out j hjr _ hvs 1 (by simp)
      have E0 := Lib.hid e0
      have E1 := Lib.hid e1
      have U0 := Lib.hid u0
      have hj0 : (0 : Int) ≤ (j : Int) := by omega
      obtain ⟨p, hp⟩ : ∃ p : Int, p = z + (cntS Lab.cnt (xs.take j) : Nat) := ⟨_, rfl⟩
      rw [← hp]
      have hp1 : 1 ≤ p := by omega
      have hpb : p + (xs[j].cnt : Nat) ≤ 8388608 := by have h3 := HT.out; have h4 := HL.out; omega
      rw [HN.out] at hpb
      have HP := Lib.hid hp
      clear hp hvs e0 e1 u0
      obtain ⟨y0, d0⟩ := HM.out.1.st b _ _ hlo hbl E0.out
      have f0 : wr.frozen? ⟨b, j * 2, none⟩ = false := (HM.out.1.fz b _ hlo hbl).trans (HF.out _)
      have d1 := HM.out.1.sl b _ _ _ _ hlo hbl E1.out
      go_wp2_with fail
      refine (mkText _ _ (by omega) (by omega)).mono ?_
      rintro x w2 ⟨t1, rfl, b1⟩
      have M1 := Lib.hid (show Mkd lo w1 w w2 from (HM.out).below b1)
      clear b1 f0 d0 d1
      obtain ⟨y0, d0⟩ := M1.out.1.st b _ _ hlo hbl E0.out
      have f0 : w2.frozen? ⟨b, j * 2, none⟩ = false := (M1.out.1.fz b _ hlo hbl).trans (HF.out _)
      have d1 := M1.out.1.sl b _ _ _ _ hlo hbl E1.out
      go_wp2_with fail
      refine (mkSs lo w1 a0 c0 xs[j].list U0.out (p + 1) _ ?_ (by omega) (by omega)).mono ?_
      · exact ((M1.out).str hlo hbl E0.out _).1
      rintro x w3 ⟨rfl, b2⟩
      have M2 := Lib.hid (show Mkd lo w1 w w3 from ((M1.out).str hlo hbl E0.out _).trans b2)
      clear b2 f0 d0 d1
      obtain ⟨y0, d0⟩ := M2.out.1.st b _ _ hlo hbl E0.out
      have f0 : w3.frozen? ⟨b, j * 2, none⟩ = false := (M2.out.1.fz b _ hlo hbl).trans (HF.out _)
      have d1 := M2.out.1.sl b _ _ _ _ hlo hbl E1.out
      go_wp2_with fail
      go_roundw
      case rel => exact ⟨j + 1, by omega, by go_num, congrArg (Value.int .i64) (by have h3 := HT.out; have h4 := HN.out; have h5 := HP.out; omega), Lib.hid (M2.out)⟩
      case measure => simp [intOf]; omega
    · obtain rfl : j = xs.length := by omega
      go_wp2_with fail
      go_ret
      exact ⟨by rw [List.take_length]; rfl, HM.out⟩

def Sq.cnt (x : Sq) : Nat := 1 + 1

set_option maxHeartbeats 4000000 in
theorem mkSqS (lo : Nat) (w1 : World) (a : Option Addr) (c : Nat) (xs : List Sq) (h : SlU 125 2 RSqU lo w1 a c xs) (z : Int) (w : World) (hs : Sim lo w1 w) (h1 : 1 ≤ z) (h2 : z + (cntS Sq.cnt xs : Nat) ≤ 8388608) :
    Calls Tryz.prog 42 #[.slice a xs.length c, .int .i64 z] w fun e w' => e = .returned (.int .i64 (z + (cntS Sq.cnt xs : Nat))) ∧ Mkd lo w1 w w' := by
  obtain ⟨b, rows, rfl, hlo, hown, hlen, hwid, hitem⟩ := h
  have hbl := ownsRow_lt hown
  have hme : xs.length ≤ 9223372036854775807 := by have := ownsRow_caps hown; unfold maxLen at this; omega
  have HC := Lib.hid (fun (i : Nat) (hi : i < rows.length) (vs : List Value) (hv : rows[i] = vs) (t : Nat) (ht : t < vs.length) => SlU.cellOf hown hlen hwid hi hv ht)
  have HF := Lib.hid (fun (t : Nat) => hown.frozenAt t)
  have HI := Lib.hid hitem
  have HS := Lib.hid hs
  clear hown hwid hitem hs
  go_enter Tryz.func42, Tryz.ntmps42
  go_wp2_with fail
  go_loopw [1, 5] (fun q i wr => ∃ j : Nat, j ≤ xs.length ∧ i = .int .i64 j ∧ q = .int .i64 (z + (cntS Sq.cnt (xs.take j) : Nat)) ∧ Hid (Mkd lo w1 w wr)) (fun _ i _ => xs.length - (intOf i).toNat)
  case atStart => exact ⟨0, Nat.zero_le _, rfl, by simp [cntS], Mkd.refl HS.out⟩
  case round =>
    obtain ⟨j, hj, rfl, rfl, HM⟩ := hrel
    by_cases hlt : j < xs.length
    · have hjr : j < rows.length := by omega
      have HT := Lib.hid (cntS_take Sq.cnt xs j hlt)
      have HL := Lib.hid (cntS_le Sq.cnt xs (j + 1))
      have HN : Hid (xs[j].cnt = 1 + 1) := rfl
      obtain ⟨hvs, _⟩ := HI.out j hjr hlt
      have e0 : w1.cell? ⟨b, j * 2, none⟩ = some (.string xs[j].name) := HC.out j hjr _ hvs 0 (by simp)
      have e1 : w1.cell? ⟨b, j * 2 + 1, none⟩ = some (.int .i64 xs[j].start) := HC.out j hjr _ hvs 1 (by simp)
      have E0 := Lib.hid e0
      have E1 := Lib.hid e1
      have hj0 : (0 : Int) ≤ (j : Int) := by omega
      obtain ⟨p, hp⟩ : ∃ p : Int, p = z + (cntS Sq.cnt (xs.take j) : Nat) := ⟨_, rfl⟩
      rw [← hp]
      have hp1 : 1 ≤ p := by omega
      have hpb : p + (xs[j].cnt : Nat) ≤ 8388608 := by have h3 := HT.out; have h4 := HL.out; omega
      rw [HN.out] at hpb
      have HP := Lib.hid hp
      clear hp hvs e0 e1 
      obtain ⟨y0, d0⟩ := HM.out.1.st b _ _ hlo hbl E0.out
      have f0 : wr.frozen? ⟨b, j * 2, none⟩ = false := (HM.out.1.fz b _ hlo hbl).trans (HF.out _)
      obtain ⟨y1, d1⟩ := HM.out.1.it b _ _ hlo hbl E1.out
      have f1 : wr.frozen? ⟨b, j * 2 + 1, none⟩ = false := (HM.out.1.fz b _ hlo hbl).trans (HF.out _)
      go_wp2_with fail
      refine (mkText _ _ (by omega) (by omega)).mono ?_
      rintro x w2 ⟨t1, rfl, b1⟩
      have M1 := Lib.hid (show Mkd lo w1 w w2 from (HM.out).below b1)
      clear b1 f0 d0 f1 d1
      obtain ⟨y0, d0⟩ := M1.out.1.st b _ _ hlo hbl E0.out
      have f0 : w2.frozen? ⟨b, j * 2, none⟩ = false := (M1.out.1.fz b _ hlo hbl).trans (HF.out _)
      obtain ⟨y1, d1⟩ := M1.out.1.it b _ _ hlo hbl E1.out
      have f1 : w2.frozen? ⟨b, j * 2 + 1, none⟩ = false := (M1.out.1.fz b _ hlo hbl).trans (HF.out _)
      go_wp2_with fail
      go_roundw
      case rel => exact ⟨j + 1, by omega, by go_num, congrArg (Value.int .i64) (by have h3 := HT.out; have h4 := HN.out; have h5 := HP.out; omega), Lib.hid (((M1.out).str hlo hbl E0.out _).int hlo hbl E1.out _)⟩
      case measure => simp [intOf]; omega
    · obtain rfl : j = xs.length := by omega
      go_wp2_with fail
      go_ret
      exact ⟨by rw [List.take_length]; rfl, HM.out⟩

def Co.cnt (x : Co) : Nat := 1 + 3 + 1 + 3 * nodesL x.dflt

set_option maxHeartbeats 4000000 in
theorem mkCoS (lo : Nat) (w1 : World) (a : Option Addr) (c : Nat) (xs : List Co) (h : SlU 60 6 RCoU lo w1 a c xs) (z : Int) (w : World) (hs : Sim lo w1 w) (h1 : 1 ≤ z) (h2 : z + (cntS Co.cnt xs : Nat) ≤ 8388608) :
    Calls Tryz.prog 85 #[.slice a xs.length c, .int .i64 z] w fun e w' => e = .returned (.int .i64 (z + (cntS Co.cnt xs : Nat))) ∧ Mkd lo w1 w w' := by
  obtain ⟨b, rows, rfl, hlo, hown, hlen, hwid, hitem⟩ := h
  have hbl := ownsRow_lt hown
  have hme : xs.length ≤ 9223372036854775807 := by have := ownsRow_caps hown; unfold maxLen at this; omega
  have HC := Lib.hid (fun (i : Nat) (hi : i < rows.length) (vs : List Value) (hv : rows[i] = vs) (t : Nat) (ht : t < vs.length) => SlU.cellOf hown hlen hwid hi hv ht)
  have HF := Lib.hid (fun (t : Nat) => hown.frozenAt t)
  have HI := Lib.hid hitem
  have HS := Lib.hid hs
  clear hown hwid hitem hs
  go_enter Tryz.func85, Tryz.ntmps85
  go_wp2_with fail
  go_loopw [1, 5] (fun q i wr => ∃ j : Nat, j ≤ xs.length ∧ i = .int .i64 j ∧ q = .int .i64 (z + (cntS Co.cnt (xs.take j) : Nat)) ∧ Hid (Mkd lo w1 w wr)) (fun _ i _ => xs.length - (intOf i).toNat)
  case atStart => exact ⟨0, Nat.zero_le _, rfl, by simp [cntS], Mkd.refl HS.out⟩
  case round =>
    obtain ⟨j, hj, rfl, rfl, HM⟩ := hrel
    by_cases hlt : j < xs.length
    · have hjr : j < rows.length := by omega
      have HT := Lib.hid (cntS_take Co.cnt xs j hlt)
      have HL := Lib.hid (cntS_le Co.cnt xs (j + 1))
      have HN : Hid (xs[j].cnt = 1 + 3 + 1 + 3 * nodesL xs[j].dflt) := rfl
      obtain ⟨a0, c0, hvs, _, u0⟩ := HI.out j hjr hlt
      have e0 : w1.cell? ⟨b, j * 6, none⟩ = some (.string xs[j].name) := HC.out j hjr _ hvs 0 (by simp)
      have e1 : w1.cell? ⟨b, j * 6 + 1, none⟩ = some (.int .i64 xs[j].ty.kind) := HC.out j hjr _ hvs 1 (by simp)
      have e2 : w1.cell? ⟨b, j * 6 + 2, none⟩ = some (.int .i64 xs[j].ty.len) := HC.out j hjr _ hvs 2 (by simp)
      have e3 : w1.cell? ⟨b, j * 6 + 3, none⟩ = some (.string xs[j].ty.name) := HC.out j hjr _ hvs 3 (by simp)
      have e4 : w1.cell? ⟨b, j * 6 + 4, none⟩ = some (.bool xs[j].notNull) := HC.out j hjr _ hvs 4 (by simp)
      have e5 : w1.cell? ⟨b, j * 6 + 5, none⟩ = some (.slice a0 xs[j].dflt.length c0) := HC.out j hjr _ hvs 5 (by simp)
      have E0 := Lib.hid e0
      have E1 := Lib.hid e1
      have E2 := Lib.hid e2
      have E3 := Lib.hid e3
      have E4 := Lib.hid e4
      have E5 := Lib.hid e5
      have U0 := Lib.hid u0
      have hj0 : (0 : Int) ≤ (j : Int) := by omega
      obtain ⟨p, hp⟩ : ∃ p : Int, p = z + (cntS Co.cnt (xs.take j) : Nat) := ⟨_, rfl⟩
      rw [← hp]
      have hp1 : 1 ≤ p := by omega
      have hpb : p + (xs[j].cnt : Nat) ≤ 8388608 := by have h3 := HT.out; have h4 := HL.out; omega
      rw [HN.out] at hpb
      have HP := Lib.hid hp
      clear hp hvs e0 e1 e2 e3 e4 e5 u0
      obtain ⟨y0, d0⟩ := HM.out.1.st b _ _ hlo hbl E0.out
      have f0 : wr.frozen? ⟨b, j * 6, none⟩ = false := (HM.out.1.fz b _ hlo hbl).trans (HF.out _)
      obtain ⟨y1, d1⟩ := HM.out.1.it b _ _ hlo hbl E1.out
      have f1 : wr.frozen? ⟨b, j * 6 + 1, none⟩ = false := (HM.out.1.fz b _ hlo hbl).trans (HF.out _)
      obtain ⟨y2, d2⟩ := HM.out.1.it b _ _ hlo hbl E2.out
      have f2 : wr.frozen? ⟨b, j * 6 + 2, none⟩ = false := (HM.out.1.fz b _ hlo hbl).trans (HF.out _)
      obtain ⟨y3, d3⟩ := HM.out.1.st b _ _ hlo hbl E3.out
      have f3 : wr.frozen? ⟨b, j * 6 + 3, none⟩ = false := (HM.out.1.fz b _ hlo hbl).trans (HF.out _)
      obtain ⟨y4, d4⟩ := HM.out.1.bo b _ _ hlo hbl E4.out
      have f4 : wr.frozen? ⟨b, j * 6 + 4, none⟩ = false := (HM.out.1.fz b _ hlo hbl).trans (HF.out _)
      have d5 := HM.out.1.sl b _ _ _ _ hlo hbl E5.out
      go_wp2_with fail
      refine (mkText _ _ (by omega) (by omega)).mono ?_
      rintro x w2 ⟨t1, rfl, b1⟩
      have M1 := Lib.hid (show Mkd lo w1 w w2 from (HM.out).below b1)
      clear b1 f0 d0 f1 d1 f2 d2 f3 d3 f4 d4 d5
      obtain ⟨y0, d0⟩ := M1.out.1.st b _ _ hlo hbl E0.out
      have f0 : w2.frozen? ⟨b, j * 6, none⟩ = false := (M1.out.1.fz b _ hlo hbl).trans (HF.out _)
      obtain ⟨y1, d1⟩ := M1.out.1.it b _ _ hlo hbl E1.out
      have f1 : w2.frozen? ⟨b, j * 6 + 1, none⟩ = false := (M1.out.1.fz b _ hlo hbl).trans (HF.out _)
      obtain ⟨y2, d2⟩ := M1.out.1.it b _ _ hlo hbl E2.out
      have f2 : w2.frozen? ⟨b, j * 6 + 2, none⟩ = false := (M1.out.1.fz b _ hlo hbl).trans (HF.out _)
      obtain ⟨y3, d3⟩ := M1.out.1.st b _ _ hlo hbl E3.out
      have f3 : w2.frozen? ⟨b, j * 6 + 3, none⟩ = false := (M1.out.1.fz b _ hlo hbl).trans (HF.out _)
      obtain ⟨y4, d4⟩ := M1.out.1.bo b _ _ hlo hbl E4.out
      have f4 : w2.frozen? ⟨b, j * 6 + 4, none⟩ = false := (M1.out.1.fz b _ hlo hbl).trans (HF.out _)
      have d5 := M1.out.1.sl b _ _ _ _ hlo hbl E5.out
      go_wp2_with fail
      refine (mkText _ _ (by omega) (by omega)).mono ?_
      rintro x w3 ⟨t2, rfl, b2⟩
      have M2 := Lib.hid (show Mkd lo w1 w w3 from ((((M1.out).str hlo hbl E0.out _).int hlo hbl E1.out _).int hlo hbl E2.out _).below b2)
      clear b2 f0 d0 f1 d1 f2 d2 f3 d3 f4 d4 d5
      obtain ⟨y0, d0⟩ := M2.out.1.st b _ _ hlo hbl E0.out
      have f0 : w3.frozen? ⟨b, j * 6, none⟩ = false := (M2.out.1.fz b _ hlo hbl).trans (HF.out _)
      obtain ⟨y1, d1⟩ := M2.out.1.it b _ _ hlo hbl E1.out
      have f1 : w3.frozen? ⟨b, j * 6 + 1, none⟩ = false := (M2.out.1.fz b _ hlo hbl).trans (HF.out _)
      obtain ⟨y2, d2⟩ := M2.out.1.it b _ _ hlo hbl E2.out
      have f2 : w3.frozen? ⟨b, j * 6 + 2, none⟩ = false := (M2.out.1.fz b _ hlo hbl).trans (HF.out _)
      obtain ⟨y3, d3⟩ := M2.out.1.st b _ _ hlo hbl E3.out
      have f3 : w3.frozen? ⟨b, j * 6 + 3, none⟩ = false := (M2.out.1.fz b _ hlo hbl).trans (HF.out _)
      obtain ⟨y4, d4⟩ := M2.out.1.bo b _ _ hlo hbl E4.out
      have f4 : w3.frozen? ⟨b, j * 6 + 4, none⟩ = false := (M2.out.1.fz b _ hlo hbl).trans (HF.out _)
      have d5 := M2.out.1.sl b _ _ _ _ hlo hbl E5.out
      go_wp2_with fail
      refine (mkKs lo w1 a0 c0 xs[j].dflt U0.out (p + 1 + 1 + 1 + 1 + 1) _ ?_ (by omega) (by omega)).mono ?_
      · exact (((M2.out).str hlo hbl E3.out _).bool hlo hbl E4.out _).1
      rintro x w4 ⟨rfl, b3⟩
      have M3 := Lib.hid (show Mkd lo w1 w w4 from (((M2.out).str hlo hbl E3.out _).bool hlo hbl E4.out _).trans b3)
      clear b3 f0 d0 f1 d1 f2 d2 f3 d3 f4 d4 d5
      obtain ⟨y0, d0⟩ := M3.out.1.st b _ _ hlo hbl E0.out
      have f0 : w4.frozen? ⟨b, j * 6, none⟩ = false := (M3.out.1.fz b _ hlo hbl).trans (HF.out _)
      obtain ⟨y1, d1⟩ := M3.out.1.it b _ _ hlo hbl E1.out
      have f1 : w4.frozen? ⟨b, j * 6 + 1, none⟩ = false := (M3.out.1.fz b _ hlo hbl).trans (HF.out _)
      obtain ⟨y2, d2⟩ := M3.out.1.it b _ _ hlo hbl E2.out
      have f2 : w4.frozen? ⟨b, j * 6 + 2, none⟩ = false := (M3.out.1.fz b _ hlo hbl).trans (HF.out _)
      obtain ⟨y3, d3⟩ := M3.out.1.st b _ _ hlo hbl E3.out
      have f3 : w4.frozen? ⟨b, j * 6 + 3, none⟩ = false := (M3.out.1.fz b _ hlo hbl).trans (HF.out _)
      obtain ⟨y4, d4⟩ := M3.out.1.bo b _ _ hlo hbl E4.out
      have f4 : w4.frozen? ⟨b, j * 6 + 4, none⟩ = false := (M3.out.1.fz b _ hlo hbl).trans (HF.out _)
      have d5 := M3.out.1.sl b _ _ _ _ hlo hbl E5.out
      go_wp2_with fail
      go_roundw
      case rel => exact ⟨j + 1, by omega, by go_num, congrArg (Value.int .i64) (by have h3 := HT.out; have h4 := HN.out; have h5 := HP.out; omega), Lib.hid (M3.out)⟩
      case measure => simp [intOf]; omega
    · obtain rfl : j = xs.length := by omega
      go_wp2_with fail
      go_ret
      exact ⟨by rw [List.take_length]; rfl, HM.out⟩

end Go.Proofs.YtjjdcdnaonfnmaaGreat

namespace Go.Proofs.YtjjdcdnaonfnmaaGreat
open Go.RowKit

def Ru.cnt (x : Ru) : Nat := 1 + 1 + x.cols.length + 3 * nodesL x.expr + 1 + x.to.length

set_option maxHeartbeats 4000000 in
theorem mkRuS (lo : Nat) (w1 : World) (a : Option Addr) (c : Nat) (xs : List Ru) (h : SlU 85 6 RRuU lo w1 a c xs) (z : Int) (w : World) (hs : Sim lo w1 w) (h1 : 1 ≤ z) (h2 : z + (cntS Ru.cnt xs : Nat) ≤ 8388608) :
    Calls Tryz.prog 86 #[.slice a xs.length c, .int .i64 z] w fun e w' => e = .returned (.int .i64 (z + (cntS Ru.cnt xs : Nat))) ∧ Mkd lo w1 w w' := by
  obtain ⟨b, rows, rfl, hlo, hown, hlen, hwid, hitem⟩ := h
  have hbl := ownsRow_lt hown
  have hme : xs.length ≤ 9223372036854775807 := by have := ownsRow_caps hown; unfold maxLen at this; omega
  have HC := Lib.hid (fun (i : Nat) (hi : i < rows.length) (vs : List Value) (hv : rows[i] = vs) (t : Nat) (ht : t < vs.length) => SlU.cellOf hown hlen hwid hi hv ht)
  have HF := Lib.hid (fun (t : Nat) => hown.frozenAt t)
  have HI := Lib.hid hitem
  have HS := Lib.hid hs
  clear hown hwid hitem hs
  go_enter Tryz.func86, Tryz.ntmps86
  go_wp2_with fail
  go_loopw [1, 5] (fun q i wr => ∃ j : Nat, j ≤ xs.length ∧ i = .int .i64 j ∧ q = .int .i64 (z + (cntS Ru.cnt (xs.take j) : Nat)) ∧ Hid (Mkd lo w1 w wr)) (fun _ i _ => xs.length - (intOf i).toNat)
  case atStart => exact ⟨0, Nat.zero_le _, rfl, by simp [cntS], Mkd.refl HS.out⟩
  case round =>
    obtain ⟨j, hj, rfl, rfl, HM⟩ := hrel
    by_cases hlt : j < xs.length
    · have hjr : j < rows.length := by omega
      have HT := Lib.hid (cntS_take Ru.cnt xs j hlt)
      have HL := Lib.hid (cntS_le Ru.cnt xs (j + 1))
      have HN : Hid (xs[j].cnt = 1 + 1 + xs[j].cols.length + 3 * nodesL xs[j].expr + 1 + xs[j].to.length) := rfl
      obtain ⟨a0, c0, a1, c1, a2, c2, hvs, _, u0, u1, u2⟩ := HI.out j hjr hlt
      have e0 : w1.cell? ⟨b, j * 6, none⟩ = some (.string xs[j].name) := HC.out j hjr _ hvs 0 (by simp)
      have e1 : w1.cell? ⟨b, j * 6 + 1, none⟩ = some (.int .i64 xs[j].kind) := HC.out j hjr _ hvs 1 (by simp)
      have e2 : w1.cell? ⟨b, j * 6 + 2, none⟩ = some (.slice a0 xs[j].cols.length c0) := HC.out j hjr _ hvs 2 (by simp)
      have e3 : w1.cell? ⟨b, j * 6 + 3, none⟩ = some (.slice a1 xs[j].expr.length c1) := HC.out j hjr _ hvs 3 (by simp)
      have e4 : w1.cell? ⟨b, j * 6 + 4, none⟩ = some (.string xs[j].table) := HC.out j hjr _ hvs 4 (by simp)
      have e5 : w1.cell? ⟨b, j * 6 + 5, none⟩ = some (.slice a2 xs[j].to.length c2) := HC.out j hjr _ hvs 5 (by simp)
      have E0 := Lib.hid e0
      have E1 := Lib.hid e1
      have E2 := Lib.hid e2
      have E3 := Lib.hid e3
      have E4 := Lib.hid e4
      have E5 := Lib.hid e5
      have U0 := Lib.hid u0
      have U1 := Lib.hid u1
      have U2 := Lib.hid u2
      have hj0 : (0 : Int) ≤ (j : Int) := by omega
      obtain ⟨p, hp⟩ : ∃ p : Int, p = z + (cntS Ru.cnt (xs.take j) : Nat) := ⟨_, rfl⟩
      rw [← hp]
      have hp1 : 1 ≤ p := by omega
      have hpb : p + (xs[j].cnt : Nat) ≤ 8388608 := by have h3 := HT.out; have h4 := HL.out; omega
      rw [HN.out] at hpb
      have HP := Lib.hid hp
      clear hp hvs e0 e1 e2 e3 e4 e5 u0 u1 u2
      obtain ⟨y0, d0⟩ := HM.out.1.st b _ _ hlo hbl E0.out
      have f0 : wr.frozen? ⟨b, j * 6, none⟩ = false := (HM.out.1.fz b _ hlo hbl).trans (HF.out _)
      obtain ⟨y1, d1⟩ := HM.out.1.it b _ _ hlo hbl E1.out
      have f1 : wr.frozen? ⟨b, j * 6 + 1, none⟩ = false := (HM.out.1.fz b _ hlo hbl).trans (HF.out _)
      have d2 := HM.out.1.sl b _ _ _ _ hlo hbl E2.out
      have d3 := HM.out.1.sl b _ _ _ _ hlo hbl E3.out
      obtain ⟨y4, d4⟩ := HM.out.1.st b _ _ hlo hbl E4.out
      have f4 : wr.frozen? ⟨b, j * 6 + 4, none⟩ = false := (HM.out.1.fz b _ hlo hbl).trans (HF.out _)
      have d5 := HM.out.1.sl b _ _ _ _ hlo hbl E5.out
      go_wp2_with fail
      refine (mkText _ _ (by omega) (by omega)).mono ?_
      rintro x w2 ⟨t1, rfl, b1⟩
      have M1 := Lib.hid (show Mkd lo w1 w w2 from (HM.out).below b1)
      clear b1 f0 d0 f1 d1 d2 d3 f4 d4 d5
      obtain ⟨y0, d0⟩ := M1.out.1.st b _ _ hlo hbl E0.out
      have f0 : w2.frozen? ⟨b, j * 6, none⟩ = false := (M1.out.1.fz b _ hlo hbl).trans (HF.out _)
      obtain ⟨y1, d1⟩ := M1.out.1.it b _ _ hlo hbl E1.out
      have f1 : w2.frozen? ⟨b, j * 6 + 1, none⟩ = false := (M1.out.1.fz b _ hlo hbl).trans (HF.out _)
      have d2 := M1.out.1.sl b _ _ _ _ hlo hbl E2.out
      have d3 := M1.out.1.sl b _ _ _ _ hlo hbl E3.out
      obtain ⟨y4, d4⟩ := M1.out.1.st b _ _ hlo hbl E4.out
      have f4 : w2.frozen? ⟨b, j * 6 + 4, none⟩ = false := (M1.out.1.fz b _ hlo hbl).trans (HF.out _)
      have d5 := M1.out.1.sl b _ _ _ _ hlo hbl E5.out
      go_wp2_with fail
      refine (mkSs lo w1 a0 c0 xs[j].cols U0.out (p + 1 + 1) _ ?_ (by omega) (by omega)).mono ?_
      · exact (((M1.out).str hlo hbl E0.out _).int hlo hbl E1.out _).1
      rintro x w3 ⟨rfl, b2⟩
      have M2 := Lib.hid (show Mkd lo w1 w w3 from (((M1.out).str hlo hbl E0.out _).int hlo hbl E1.out _).trans b2)
      clear b2 f0 d0 f1 d1 d2 d3 f4 d4 d5
      obtain ⟨y0, d0⟩ := M2.out.1.st b _ _ hlo hbl E0.out
      have f0 : w3.frozen? ⟨b, j * 6, none⟩ = false := (M2.out.1.fz b _ hlo hbl).trans (HF.out _)
      obtain ⟨y1, d1⟩ := M2.out.1.it b _ _ hlo hbl E1.out
      have f1 : w3.frozen? ⟨b, j * 6 + 1, none⟩ = false := (M2.out.1.fz b _ hlo hbl).trans (HF.out _)
      have d2 := M2.out.1.sl b _ _ _ _ hlo hbl E2.out
      have d3 := M2.out.1.sl b _ _ _ _ hlo hbl E3.out
      obtain ⟨y4, d4⟩ := M2.out.1.st b _ _ hlo hbl E4.out
      have f4 : w3.frozen? ⟨b, j * 6 + 4, none⟩ = false := (M2.out.1.fz b _ hlo hbl).trans (HF.out _)
      have d5 := M2.out.1.sl b _ _ _ _ hlo hbl E5.out
      go_wp2_with fail
      refine (mkKs lo w1 a1 c1 xs[j].expr U1.out (p + 1 + 1 + (xs[j].cols.length : Nat)) _ ?_ (by omega) (by omega)).mono ?_
      · exact (M2.out).1
      rintro x w4 ⟨rfl, b3⟩
      have M3 := Lib.hid (show Mkd lo w1 w w4 from (M2.out).trans b3)
      clear b3 f0 d0 f1 d1 d2 d3 f4 d4 d5
      obtain ⟨y0, d0⟩ := M3.out.1.st b _ _ hlo hbl E0.out
      have f0 : w4.frozen? ⟨b, j * 6, none⟩ = false := (M3.out.1.fz b _ hlo hbl).trans (HF.out _)
      obtain ⟨y1, d1⟩ := M3.out.1.it b _ _ hlo hbl E1.out
      have f1 : w4.frozen? ⟨b, j * 6 + 1, none⟩ = false := (M3.out.1.fz b _ hlo hbl).trans (HF.out _)
      have d2 := M3.out.1.sl b _ _ _ _ hlo hbl E2.out
      have d3 := M3.out.1.sl b _ _ _ _ hlo hbl E3.out
      obtain ⟨y4, d4⟩ := M3.out.1.st b _ _ hlo hbl E4.out
      have f4 : w4.frozen? ⟨b, j * 6 + 4, none⟩ = false := (M3.out.1.fz b _ hlo hbl).trans (HF.out _)
      have d5 := M3.out.1.sl b _ _ _ _ hlo hbl E5.out
      go_wp2_with fail
      refine (mkText _ _ (by omega) (by omega)).mono ?_
      rintro x w5 ⟨t4, rfl, b4⟩
      have M4 := Lib.hid (show Mkd lo w1 w w5 from (M3.out).below b4)
      clear b4 f0 d0 f1 d1 d2 d3 f4 d4 d5
      obtain ⟨y0, d0⟩ := M4.out.1.st b _ _ hlo hbl E0.out
      have f0 : w5.frozen? ⟨b, j * 6, none⟩ = false := (M4.out.1.fz b _ hlo hbl).trans (HF.out _)
      obtain ⟨y1, d1⟩ := M4.out.1.it b _ _ hlo hbl E1.out
      have f1 : w5.frozen? ⟨b, j * 6 + 1, none⟩ = false := (M4.out.1.fz b _ hlo hbl).trans (HF.out _)
      have d2 := M4.out.1.sl b _ _ _ _ hlo hbl E2.out
      have d3 := M4.out.1.sl b _ _ _ _ hlo hbl E3.out
      obtain ⟨y4, d4⟩ := M4.out.1.st b _ _ hlo hbl E4.out
      have f4 : w5.frozen? ⟨b, j * 6 + 4, none⟩ = false := (M4.out.1.fz b _ hlo hbl).trans (HF.out _)
      have d5 := M4.out.1.sl b _ _ _ _ hlo hbl E5.out
      go_wp2_with fail
      refine (mkSs lo w1 a2 c2 xs[j].to U2.out (p + 1 + 1 + (xs[j].cols.length : Nat) + (3 * nodesL xs[j].expr : Nat) + 1) _ ?_ (by omega) (by omega)).mono ?_
      · exact ((M4.out).str hlo hbl E4.out _).1
      rintro x w6 ⟨rfl, b5⟩
      have M5 := Lib.hid (show Mkd lo w1 w w6 from ((M4.out).str hlo hbl E4.out _).trans b5)
      clear b5 f0 d0 f1 d1 d2 d3 f4 d4 d5
      obtain ⟨y0, d0⟩ := M5.out.1.st b _ _ hlo hbl E0.out
      have f0 : w6.frozen? ⟨b, j * 6, none⟩ = false := (M5.out.1.fz b _ hlo hbl).trans (HF.out _)
      obtain ⟨y1, d1⟩ := M5.out.1.it b _ _ hlo hbl E1.out
      have f1 : w6.frozen? ⟨b, j * 6 + 1, none⟩ = false := (M5.out.1.fz b _ hlo hbl).trans (HF.out _)
      have d2 := M5.out.1.sl b _ _ _ _ hlo hbl E2.out
      have d3 := M5.out.1.sl b _ _ _ _ hlo hbl E3.out
      obtain ⟨y4, d4⟩ := M5.out.1.st b _ _ hlo hbl E4.out
      have f4 : w6.frozen? ⟨b, j * 6 + 4, none⟩ = false := (M5.out.1.fz b _ hlo hbl).trans (HF.out _)
      have d5 := M5.out.1.sl b _ _ _ _ hlo hbl E5.out
      go_wp2_with fail
      go_roundw
      case rel => exact ⟨j + 1, by omega, by go_num, congrArg (Value.int .i64) (by have h3 := HT.out; have h4 := HN.out; have h5 := HP.out; omega), Lib.hid (M5.out)⟩
      case measure => simp [intOf]; omega
    · obtain rfl : j = xs.length := by omega
      go_wp2_with fail
      go_ret
      exact ⟨by rw [List.take_length]; rfl, HM.out⟩

def Ix.cnt (x : Ix) : Nat := 1 + 1 + x.cols.length + 1

set_option maxHeartbeats 4000000 in
theorem mkIxS (lo : Nat) (w1 : World) (a : Option Addr) (c : Nat) (xs : List Ix) (h : SlU 87 4 RIxU lo w1 a c xs) (z : Int) (w : World) (hs : Sim lo w1 w) (h1 : 1 ≤ z) (h2 : z + (cntS Ix.cnt xs : Nat) ≤ 8388608) :
    Calls Tryz.prog 44 #[.slice a xs.length c, .int .i64 z] w fun e w' => e = .returned (.int .i64 (z + (cntS Ix.cnt xs : Nat))) ∧ Mkd lo w1 w w' := by
  obtain ⟨b, rows, rfl, hlo, hown, hlen, hwid, hitem⟩ := h
  have hbl := ownsRow_lt hown
  have hme : xs.length ≤ 9223372036854775807 := by have := ownsRow_caps hown; unfold maxLen at this; omega
  have HC := Lib.hid (fun (i : Nat) (hi : i < rows.length) (vs : List Value) (hv : rows[i] = vs) (t : Nat) (ht : t < vs.length) => SlU.cellOf hown hlen hwid hi hv ht)
  have HF := Lib.hid (fun (t : Nat) => hown.frozenAt t)
  have HI := Lib.hid hitem
  have HS := Lib.hid hs
  clear hown hwid hitem hs
  go_enter Tryz.func44, Tryz.ntmps44
  go_wp2_with fail
  go_loopw [1, 5] (fun q i wr => ∃ j : Nat, j ≤ xs.length ∧ i = .int .i64 j ∧ q = .int .i64 (z + (cntS Ix.cnt (xs.take j) : Nat)) ∧ Hid (Mkd lo w1 w wr)) (fun _ i _ => xs.length - (intOf i).toNat)
  case atStart => exact ⟨0, Nat.zero_le _, rfl, by simp [cntS], Mkd.refl HS.out⟩
  case round =>
    obtain ⟨j, hj, rfl, rfl, HM⟩ := hrel
    by_cases hlt : j < xs.length
    · have hjr : j < rows.length := by omega
      have HT := Lib.hid (cntS_take Ix.cnt xs j hlt)
      have HL := Lib.hid (cntS_le Ix.cnt xs (j + 1))
      have HN : Hid (xs[j].cnt = 1 + 1 + xs[j].cols.length + 1) := rfl
      obtain ⟨a0, c0, hvs, _, u0⟩ := HI.out j hjr hlt
      have e0 : w1.cell? ⟨b, j * 4, none⟩ = some (.string xs[j].name) := HC.out j hjr _ hvs 0 (by simp)
      have e1 : w1.cell? ⟨b, j * 4 + 1, none⟩ = some (.string xs[j].table) := HC.out j hjr _ hvs 1 (by simp)
      have e2 : w1.cell? ⟨b, j * 4 + 2, none⟩ = some (.slice a0 xs[j].cols.length c0) := HC.out j hjr _ hvs 2 (by simp)
      have e3 : w1.cell? ⟨b, j * 4 + 3, none⟩ = some (.bool xs[j].uniq) := HC.out j hjr _ hvs 3 (by simp)
      have E0 := Lib.hid e0
      have E1 := Lib.hid e1
      have E2 := Lib.hid e2
      have E3 := Lib.hid e3
      have U0 := Lib.hid u0
      have hj0 : (0 : Int) ≤ (j : Int) := by omega
      obtain ⟨p, hp⟩ : ∃ p : Int, p = z + (cntS Ix.cnt (xs.take j) : Nat) := ⟨_, rfl⟩
      rw [← hp]
      have hp1 : 1 ≤ p := by omega
      have hpb : p + (xs[j].cnt : Nat) ≤ 8388608 := by have h3 := HT.out; have h4 := HL.out; omega
      rw [HN.out] at hpb
      have HP := Lib.hid hp
      clear hp hvs e0 e1 e2 e3 u0
      obtain ⟨y0, d0⟩ := HM.out.1.st b _ _ hlo hbl E0.out
      have f0 : wr.frozen? ⟨b, j * 4, none⟩ = false := (HM.out.1.fz b _ hlo hbl).trans (HF.out _)
      obtain ⟨y1, d1⟩ := HM.out.1.st b _ _ hlo hbl E1.out
      have f1 : wr.frozen? ⟨b, j * 4 + 1, none⟩ = false := (HM.out.1.fz b _ hlo hbl).trans (HF.out _)
      have d2 := HM.out.1.sl b _ _ _ _ hlo hbl E2.out
      obtain ⟨y3, d3⟩ := HM.out.1.bo b _ _ hlo hbl E3.out
      have f3 : wr.frozen? ⟨b, j * 4 + 3, none⟩ = false := (HM.out.1.fz b _ hlo hbl).trans (HF.out _)
      go_wp2_with fail
      refine (mkText _ _ (by omega) (by omega)).mono ?_
      rintro x w2 ⟨t1, rfl, b1⟩
      have M1 := Lib.hid (show Mkd lo w1 w w2 from (HM.out).below b1)
      clear b1 f0 d0 f1 d1 d2 f3 d3
      obtain ⟨y0, d0⟩ := M1.out.1.st b _ _ hlo hbl E0.out
      have f0 : w2.frozen? ⟨b, j * 4, none⟩ = false := (M1.out.1.fz b _ hlo hbl).trans (HF.out _)
      obtain ⟨y1, d1⟩ := M1.out.1.st b _ _ hlo hbl E1.out
      have f1 : w2.frozen? ⟨b, j * 4 + 1, none⟩ = false := (M1.out.1.fz b _ hlo hbl).trans (HF.out _)
      have d2 := M1.out.1.sl b _ _ _ _ hlo hbl E2.out
      obtain ⟨y3, d3⟩ := M1.out.1.bo b _ _ hlo hbl E3.out
      have f3 : w2.frozen? ⟨b, j * 4 + 3, none⟩ = false := (M1.out.1.fz b _ hlo hbl).trans (HF.out _)
      go_wp2_with fail
      refine (mkText _ _ (by omega) (by omega)).mono ?_
      rintro x w3 ⟨t2, rfl, b2⟩
      have M2 := Lib.hid (show Mkd lo w1 w w3 from ((M1.out).str hlo hbl E0.out _).below b2)
      clear b2 f0 d0 f1 d1 d2 f3 d3
      obtain ⟨y0, d0⟩ := M2.out.1.st b _ _ hlo hbl E0.out
      have f0 : w3.frozen? ⟨b, j * 4, none⟩ = false := (M2.out.1.fz b _ hlo hbl).trans (HF.out _)
      obtain ⟨y1, d1⟩ := M2.out.1.st b _ _ hlo hbl E1.out
      have f1 : w3.frozen? ⟨b, j * 4 + 1, none⟩ = false := (M2.out.1.fz b _ hlo hbl).trans (HF.out _)
      have d2 := M2.out.1.sl b _ _ _ _ hlo hbl E2.out
      obtain ⟨y3, d3⟩ := M2.out.1.bo b _ _ hlo hbl E3.out
      have f3 : w3.frozen? ⟨b, j * 4 + 3, none⟩ = false := (M2.out.1.fz b _ hlo hbl).trans (HF.out _)
      go_wp2_with fail
      refine (mkSs lo w1 a0 c0 xs[j].cols U0.out (p + 1 + 1) _ ?_ (by omega) (by omega)).mono ?_
      · exact ((M2.out).str hlo hbl E1.out _).1
      rintro x w4 ⟨rfl, b3⟩
      have M3 := Lib.hid (show Mkd lo w1 w w4 from ((M2.out).str hlo hbl E1.out _).trans b3)
      clear b3 f0 d0 f1 d1 d2 f3 d3
      obtain ⟨y0, d0⟩ := M3.out.1.st b _ _ hlo hbl E0.out
      have f0 : w4.frozen? ⟨b, j * 4, none⟩ = false := (M3.out.1.fz b _ hlo hbl).trans (HF.out _)
      obtain ⟨y1, d1⟩ := M3.out.1.st b _ _ hlo hbl E1.out
      have f1 : w4.frozen? ⟨b, j * 4 + 1, none⟩ = false := (M3.out.1.fz b _ hlo hbl).trans (HF.out _)
      have d2 := M3.out.1.sl b _ _ _ _ hlo hbl E2.out
      obtain ⟨y3, d3⟩ := M3.out.1.bo b _ _ hlo hbl E3.out
      have f3 : w4.frozen? ⟨b, j * 4 + 3, none⟩ = false := (M3.out.1.fz b _ hlo hbl).trans (HF.out _)
      go_wp2_with fail
      go_roundw
      case rel => exact ⟨j + 1, by omega, by go_num, congrArg (Value.int .i64) (by have h3 := HT.out; have h4 := HN.out; have h5 := HP.out; omega), Lib.hid ((M3.out).bool hlo hbl E3.out _)⟩
      case measure => simp [intOf]; omega
    · obtain rfl : j = xs.length := by omega
      go_wp2_with fail
      go_ret
      exact ⟨by rw [List.take_length]; rfl, HM.out⟩

def Vw.cnt (x : Vw) : Nat := 1 + 1 + x.cols.length + 3 * nodesL x.whr

set_option maxHeartbeats 4000000 in
theorem mkVwS (lo : Nat) (w1 : World) (a : Option Addr) (c : Nat) (xs : List Vw) (h : SlU 89 4 RVwU lo w1 a c xs) (z : Int) (w : World) (hs : Sim lo w1 w) (h1 : 1 ≤ z) (h2 : z + (cntS Vw.cnt xs : Nat) ≤ 8388608) :
    Calls Tryz.prog 45 #[.slice a xs.length c, .int .i64 z] w fun e w' => e = .returned (.int .i64 (z + (cntS Vw.cnt xs : Nat))) ∧ Mkd lo w1 w w' := by
  obtain ⟨b, rows, rfl, hlo, hown, hlen, hwid, hitem⟩ := h
  have hbl := ownsRow_lt hown
  have hme : xs.length ≤ 9223372036854775807 := by have := ownsRow_caps hown; unfold maxLen at this; omega
  have HC := Lib.hid (fun (i : Nat) (hi : i < rows.length) (vs : List Value) (hv : rows[i] = vs) (t : Nat) (ht : t < vs.length) => SlU.cellOf hown hlen hwid hi hv ht)
  have HF := Lib.hid (fun (t : Nat) => hown.frozenAt t)
  have HI := Lib.hid hitem
  have HS := Lib.hid hs
  clear hown hwid hitem hs
  go_enter Tryz.func45, Tryz.ntmps45
  go_wp2_with fail
  go_loopw [1, 5] (fun q i wr => ∃ j : Nat, j ≤ xs.length ∧ i = .int .i64 j ∧ q = .int .i64 (z + (cntS Vw.cnt (xs.take j) : Nat)) ∧ Hid (Mkd lo w1 w wr)) (fun _ i _ => xs.length - (intOf i).toNat)
  case atStart => exact ⟨0, Nat.zero_le _, rfl, by simp [cntS], Mkd.refl HS.out⟩
  case round =>
    obtain ⟨j, hj, rfl, rfl, HM⟩ := hrel
    by_cases hlt : j < xs.length
    · have hjr : j < rows.length := by omega
      have HT := Lib.hid (cntS_take Vw.cnt xs j hlt)
      have HL := Lib.hid (cntS_le Vw.cnt xs (j + 1))
      have HN : Hid (xs[j].cnt = 1 + 1 + xs[j].cols.length + 3 * nodesL xs[j].whr) := rfl
      obtain ⟨a0, c0, a1, c1, hvs, _, u0, u1⟩ := HI.out j hjr hlt
      have e0 : w1.cell? ⟨b, j * 4, none⟩ = some (.string xs[j].name) := HC.out j hjr _ hvs 0 (by simp)
      have e1 : w1.cell? ⟨b, j * 4 + 1, none⟩ = some (.string xs[j].table) := HC.out j hjr _ hvs 1 (by simp)
      have e2 : w1.cell? ⟨b, j * 4 + 2, none⟩ = some (.slice a0 xs[j].cols.length c0) := HC.out j hjr _ hvs 2 (by simp)
      have e3 : w1.cell? ⟨b, j * 4 + 3, none⟩ = some (.slice a1 xs[j].whr.length c1) := HC.out j hjr _ hvs 3 (by simp)
      have E0 := Lib.hid e0
      have E1 := Lib.hid e1
      have E2 := Lib.hid e2
      have E3 := Lib.hid e3
      have U0 := Lib.hid u0
      have U1 := Lib.hid u1
      have hj0 : (0 : Int) ≤ (j : Int) := by omega
      obtain ⟨p, hp⟩ : ∃ p : Int, p = z + (cntS Vw.cnt (xs.take j) : Nat) := ⟨_, rfl⟩
      rw [← hp]
      have hp1 : 1 ≤ p := by omega
      have hpb : p + (xs[j].cnt : Nat) ≤ 8388608 := by have h3 := HT.out; have h4 := HL.out; omega
      rw [HN.out] at hpb
      have HP := Lib.hid hp
      clear hp hvs e0 e1 e2 e3 u0 u1
      obtain ⟨y0, d0⟩ := HM.out.1.st b _ _ hlo hbl E0.out
      have f0 : wr.frozen? ⟨b, j * 4, none⟩ = false := (HM.out.1.fz b _ hlo hbl).trans (HF.out _)
      obtain ⟨y1, d1⟩ := HM.out.1.st b _ _ hlo hbl E1.out
      have f1 : wr.frozen? ⟨b, j * 4 + 1, none⟩ = false := (HM.out.1.fz b _ hlo hbl).trans (HF.out _)
      have d2 := HM.out.1.sl b _ _ _ _ hlo hbl E2.out
      have d3 := HM.out.1.sl b _ _ _ _ hlo hbl E3.out
      go_wp2_with fail
      refine (mkText _ _ (by omega) (by omega)).mono ?_
      rintro x w2 ⟨t1, rfl, b1⟩
      have M1 := Lib.hid (show Mkd lo w1 w w2 from (HM.out).below b1)
      clear b1 f0 d0 f1 d1 d2 d3
      obtain ⟨y0, d0⟩ := M1.out.1.st b _ _ hlo hbl E0.out
      have f0 : w2.frozen? ⟨b, j * 4, none⟩ = false := (M1.out.1.fz b _ hlo hbl).trans (HF.out _)
      obtain ⟨y1, d1⟩ := M1.out.1.st b _ _ hlo hbl E1.out
      have f1 : w2.frozen? ⟨b, j * 4 + 1, none⟩ = false := (M1.out.1.fz b _ hlo hbl).trans (HF.out _)
      have d2 := M1.out.1.sl b _ _ _ _ hlo hbl E2.out
      have d3 := M1.out.1.sl b _ _ _ _ hlo hbl E3.out
      go_wp2_with fail
      refine (mkText _ _ (by omega) (by omega)).mono ?_
      rintro x w3 ⟨t2, rfl, b2⟩
      have M2 := Lib.hid (show Mkd lo w1 w w3 from ((M1.out).str hlo hbl E0.out _).below b2)
      clear b2 f0 d0 f1 d1 d2 d3
      obtain ⟨y0, d0⟩ := M2.out.1.st b _ _ hlo hbl E0.out
      have f0 : w3.frozen? ⟨b, j * 4, none⟩ = false := (M2.out.1.fz b _ hlo hbl).trans (HF.out _)
      obtain ⟨y1, d1⟩ := M2.out.1.st b _ _ hlo hbl E1.out
      have f1 : w3.frozen? ⟨b, j * 4 + 1, none⟩ = false := (M2.out.1.fz b _ hlo hbl).trans (HF.out _)
      have d2 := M2.out.1.sl b _ _ _ _ hlo hbl E2.out
      have d3 := M2.out.1.sl b _ _ _ _ hlo hbl E3.out
      go_wp2_with fail
      refine (mkSs lo w1 a0 c0 xs[j].cols U0.out (p + 1 + 1) _ ?_ (by omega) (by omega)).mono ?_
      · exact ((M2.out).str hlo hbl E1.out _).1
      rintro x w4 ⟨rfl, b3⟩
      have M3 := Lib.hid (show Mkd lo w1 w w4 from ((M2.out).str hlo hbl E1.out _).trans b3)
      clear b3 f0 d0 f1 d1 d2 d3
      obtain ⟨y0, d0⟩ := M3.out.1.st b _ _ hlo hbl E0.out
      have f0 : w4.frozen? ⟨b, j * 4, none⟩ = false := (M3.out.1.fz b _ hlo hbl).trans (HF.out _)
      obtain ⟨y1, d1⟩ := M3.out.1.st b _ _ hlo hbl E1.out
      have f1 : w4.frozen? ⟨b, j * 4 + 1, none⟩ = false := (M3.out.1.fz b _ hlo hbl).trans (HF.out _)
      have d2 := M3.out.1.sl b _ _ _ _ hlo hbl E2.out
      have d3 := M3.out.1.sl b _ _ _ _ hlo hbl E3.out
      go_wp2_with fail
      refine (mkKs lo w1 a1 c1 xs[j].whr U1.out (p + 1 + 1 + (xs[j].cols.length : Nat)) _ ?_ (by omega) (by omega)).mono ?_
      · exact (M3.out).1
      rintro x w5 ⟨rfl, b4⟩
      have M4 := Lib.hid (show Mkd lo w1 w w5 from (M3.out).trans b4)
      clear b4 f0 d0 f1 d1 d2 d3
      obtain ⟨y0, d0⟩ := M4.out.1.st b _ _ hlo hbl E0.out
      have f0 : w5.frozen? ⟨b, j * 4, none⟩ = false := (M4.out.1.fz b _ hlo hbl).trans (HF.out _)
      obtain ⟨y1, d1⟩ := M4.out.1.st b _ _ hlo hbl E1.out
      have f1 : w5.frozen? ⟨b, j * 4 + 1, none⟩ = false := (M4.out.1.fz b _ hlo hbl).trans (HF.out _)
      have d2 := M4.out.1.sl b _ _ _ _ hlo hbl E2.out
      have d3 := M4.out.1.sl b _ _ _ _ hlo hbl E3.out
      go_wp2_with fail
      go_roundw
      case rel => exact ⟨j + 1, by omega, by go_num, congrArg (Value.int .i64) (by have h3 := HT.out; have h4 := HN.out; have h5 := HP.out; omega), Lib.hid (M4.out)⟩
      case measure => simp [intOf]; omega
    · obtain rfl : j = xs.length := by omega
      go_wp2_with fail
      go_ret
      exact ⟨by rw [List.take_length]; rfl, HM.out⟩

end Go.Proofs.YtjjdcdnaonfnmaaGreat

namespace Go.Proofs.YtjjdcdnaonfnmaaGreat
open Go.RowKit

def Tb.cnt (x : Tb) : Nat := 1 + cntS Co.cnt x.cols + cntS Ru.cnt x.rules + 1

set_option maxHeartbeats 4000000 in
theorem mkTbS (lo : Nat) (w1 : World) (a : Option Addr) (c : Nat) (xs : List Tb) (h : SlU 55 4 RTbU lo w1 a c xs) (z : Int) (w : World) (hs : Sim lo w1 w) (h1 : 1 ≤ z) (h2 : z + (cntS Tb.cnt xs : Nat) ≤ 8388608) :
    Calls Tryz.prog 43 #[.slice a xs.length c, .int .i64 z] w fun e w' => e = .returned (.int .i64 (z + (cntS Tb.cnt xs : Nat))) ∧ Mkd lo w1 w w' := by
  obtain ⟨b, rows, rfl, hlo, hown, hlen, hwid, hitem⟩ := h
  have hbl := ownsRow_lt hown
  have hme : xs.length ≤ 9223372036854775807 := by have := ownsRow_caps hown; unfold maxLen at this; omega
  have HC := Lib.hid (fun (i : Nat) (hi : i < rows.length) (vs : List Value) (hv : rows[i] = vs) (t : Nat) (ht : t < vs.length) => SlU.cellOf hown hlen hwid hi hv ht)
  have HF := Lib.hid (fun (t : Nat) => hown.frozenAt t)
  have HI := Lib.hid hitem
  have HS := Lib.hid hs
  clear hown hwid hitem hs
  go_enter Tryz.func43, Tryz.ntmps43
  go_wp2_with fail
  go_loopw [1, 5] (fun q i wr => ∃ j : Nat, j ≤ xs.length ∧ i = .int .i64 j ∧ q = .int .i64 (z + (cntS Tb.cnt (xs.take j) : Nat)) ∧ Hid (Mkd lo w1 w wr)) (fun _ i _ => xs.length - (intOf i).toNat)
  case atStart => exact ⟨0, Nat.zero_le _, rfl, by simp [cntS], Mkd.refl HS.out⟩
  case round =>
    obtain ⟨j, hj, rfl, rfl, HM⟩ := hrel
    by_cases hlt : j < xs.length
    · have hjr : j < rows.length := by omega
      have HT := Lib.hid (cntS_take Tb.cnt xs j hlt)
      have HL := Lib.hid (cntS_le Tb.cnt xs (j + 1))
      have HN : Hid (xs[j].cnt = 1 + cntS Co.cnt xs[j].cols + cntS Ru.cnt xs[j].rules + 1) := rfl
      obtain ⟨a0, c0, a1, c1, hvs, _, u0, u1⟩ := HI.out j hjr hlt
      have e0 : w1.cell? ⟨b, j * 4, none⟩ = some (.string xs[j].name) := HC.out j hjr _ hvs 0 (by simp)
      have e1 : w1.cell? ⟨b, j * 4 + 1, none⟩ = some (.slice a0 xs[j].cols.length c0) := HC.out j hjr _ hvs 1 (by simp)
      have e2 : w1.cell? ⟨b, j * 4 + 2, none⟩ = some (.slice a1 xs[j].rules.length c1) := HC.out j hjr _ hvs 2 (by simp)
      have e3 : w1.cell? ⟨b, j * 4 + 3, none⟩ = some (.int .i64 xs[j].token) := HC.out j hjr _ hvs 3 (by simp)
      have E0 := Lib.hid e0
      have E1 := Lib.hid e1
      have E2 := Lib.hid e2
      have E3 := Lib.hid e3
      have U0 := Lib.hid u0
      have U1 := Lib.hid u1
      have hj0 : (0 : Int) ≤ (j : Int) := by omega
      obtain ⟨p, hp⟩ : ∃ p : Int, p = z + (cntS Tb.cnt (xs.take j) : Nat) := ⟨_, rfl⟩
      rw [← hp]
      have hp1 : 1 ≤ p := by omega
      have hpb : p + (xs[j].cnt : Nat) ≤ 8388608 := by have h3 := HT.out; have h4 := HL.out; omega
      rw [HN.out] at hpb
      have HP := Lib.hid hp
      clear hp hvs e0 e1 e2 e3 u0 u1
      obtain ⟨y0, d0⟩ := HM.out.1.st b _ _ hlo hbl E0.out
      have f0 : wr.frozen? ⟨b, j * 4, none⟩ = false := (HM.out.1.fz b _ hlo hbl).trans (HF.out _)
      have d1 := HM.out.1.sl b _ _ _ _ hlo hbl E1.out
      have d2 := HM.out.1.sl b _ _ _ _ hlo hbl E2.out
      obtain ⟨y3, d3⟩ := HM.out.1.it b _ _ hlo hbl E3.out
      have f3 : wr.frozen? ⟨b, j * 4 + 3, none⟩ = false := (HM.out.1.fz b _ hlo hbl).trans (HF.out _)
      go_wp2_with fail
      refine (mkText _ _ (by omega) (by omega)).mono ?_
      rintro x w2 ⟨t1, rfl, b1⟩
      have M1 := Lib.hid (show Mkd lo w1 w w2 from (HM.out).below b1)
      clear b1 f0 d0 d1 d2 f3 d3
      obtain ⟨y0, d0⟩ := M1.out.1.st b _ _ hlo hbl E0.out
      have f0 : w2.frozen? ⟨b, j * 4, none⟩ = false := (M1.out.1.fz b _ hlo hbl).trans (HF.out _)
      have d1 := M1.out.1.sl b _ _ _ _ hlo hbl E1.out
      have d2 := M1.out.1.sl b _ _ _ _ hlo hbl E2.out
      obtain ⟨y3, d3⟩ := M1.out.1.it b _ _ hlo hbl E3.out
      have f3 : w2.frozen? ⟨b, j * 4 + 3, none⟩ = false := (M1.out.1.fz b _ hlo hbl).trans (HF.out _)
      go_wp2_with fail
      refine (mkCoS lo w1 a0 c0 xs[j].cols U0.out (p + 1) _ ?_ (by omega) (by omega)).mono ?_
      · exact ((M1.out).str hlo hbl E0.out _).1
      rintro x w3 ⟨rfl, b2⟩
      have M2 := Lib.hid (show Mkd lo w1 w w3 from ((M1.out).str hlo hbl E0.out _).trans b2)
      clear b2 f0 d0 d1 d2 f3 d3
      obtain ⟨y0, d0⟩ := M2.out.1.st b _ _ hlo hbl E0.out
      have f0 : w3.frozen? ⟨b, j * 4, none⟩ = false := (M2.out.1.fz b _ hlo hbl).trans (HF.out _)
      have d1 := M2.out.1.sl b _ _ _ _ hlo hbl E1.out
      have d2 := M2.out.1.sl b _ _ _ _ hlo hbl E2.out
      obtain ⟨y3, d3⟩ := M2.out.1.it b _ _ hlo hbl E3.out
      have f3 : w3.frozen? ⟨b, j * 4 + 3, none⟩ = false := (M2.out.1.fz b _ hlo hbl).trans (HF.out _)
      go_wp2_with fail
      refine (mkRuS lo w1 a1 c1 xs[j].rules U1.out (p + 1 + (cntS Co.cnt xs[j].cols : Nat)) _ ?_ (by omega) (by omega)).mono ?_
      · exact (M2.out).1
      rintro x w4 ⟨rfl, b3⟩
      have M3 := Lib.hid (show Mkd lo w1 w w4 from (M2.out).trans b3)
      clear b3 f0 d0 d1 d2 f3 d3
      obtain ⟨y0, d0⟩ := M3.out.1.st b _ _ hlo hbl E0.out
      have f0 : w4.frozen? ⟨b, j * 4, none⟩ = false := (M3.out.1.fz b _ hlo hbl).trans (HF.out _)
      have d1 := M3.out.1.sl b _ _ _ _ hlo hbl E1.out
      have d2 := M3.out.1.sl b _ _ _ _ hlo hbl E2.out
      obtain ⟨y3, d3⟩ := M3.out.1.it b _ _ hlo hbl E3.out
      have f3 : w4.frozen? ⟨b, j * 4 + 3, none⟩ = false := (M3.out.1.fz b _ hlo hbl).trans (HF.out _)
      go_wp2_with fail
      go_roundw
      case rel => exact ⟨j + 1, by omega, by go_num, congrArg (Value.int .i64) (by have h3 := HT.out; have h4 := HN.out; have h5 := HP.out; omega), Lib.hid ((M3.out).int hlo hbl E3.out _)⟩
      case measure => simp [intOf]; omega
    · obtain rfl : j = xs.length := by omega
      go_wp2_with fail
      go_ret
      exact ⟨by rw [List.take_length]; rfl, HM.out⟩

end Go.Proofs.YtjjdcdnaonfnmaaGreat
