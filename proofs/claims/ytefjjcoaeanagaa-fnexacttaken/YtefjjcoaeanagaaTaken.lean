/- Whether a name is taken: spec.l06All, spec.Taken, impl.Taken. Written by tools/gen_plan.py. -/
import Derived.Test.YtefjjcoaeanagaaPlAtSq
import Derived.Test.YtefjjcoaeanagaaPlAtTb
import Derived.Test.YtefjjcoaeanagaaPlAtIx
import Derived.Test.YtefjjcoaeanagaaPlAtVw
import Derived.Test.YtefjjcoaeanagaaHas
import Derived.Test.YtefjjcoaeanagaaAppend
namespace Go.Proofs.Ytefjjcoaeanagaa
open Go.RowKit

def allNames (x : Pl) : List ByteArray := x.seqs.map Sq.name ++ x.tables.map Tb.name ++ x.indexes.map Ix.name ++ x.views.map Vw.name

def takenB (x : Pl) (n : ByteArray) : Bool := hasB (allNames x) n

theorem hasB_find {X : Type} (f : X → ByteArray) (xs : List X) (n : ByteArray) : hasB (xs.map f) n = decide (0 ≤ findAt f xs n) := by
  unfold hasB
  induction xs with
  | nil => rfl
  | cons x r ih =>
    rw [List.map_cons, List.any_cons, ih, findAt]
    have hs := findAt_small f r n
    cases h : ((f x).toList == n.toList) with
    | true => simp
    | false =>
      rw [if_neg (by simp), Bool.false_or]
      split
      · simp; omega
      · simp; omega

theorem takenB_eq (x : Pl) (n : ByteArray) : takenB x n = (((decide (0 ≤ findAt Sq.name x.seqs n) || decide (0 ≤ findAt Tb.name x.tables n)) || decide (0 ≤ findAt Ix.name x.indexes n)) || decide (0 ≤ findAt Vw.name x.views n)) := by
  rw [← hasB_find, ← hasB_find, ← hasB_find, ← hasB_find]
  unfold takenB allNames hasB
  rw [List.any_append, List.any_append, List.any_append]

theorem Sl.mem {X : Type} {K : Nat} {R : Rd X} {lo : Nat} {w : World} {a : Option Addr} {c : Nat} {xs : List X} (h : Sl K R lo w a c xs) {e : X} (he : e ∈ xs) : ∃ vs, R lo w vs e := by
  obtain ⟨i, hi, rfl⟩ := List.mem_iff_getElem.1 he
  obtain ⟨_, _, vs, _, _, _, hR⟩ := h.spot hi
  exact ⟨vs, hR⟩

theorem names_fit {lo : Nat} {w : World} {vs : List Value} {x : Pl} (h : RPl lo w vs x) : ∀ s ∈ allNames x, s.size ≤ maxLen := by
  obtain ⟨a0, c0, a1, c1, a2, c2, a3, c3, a4, c4, rfl, _, k0, k1, k2, k3, k4⟩ := h
  intro s hs
  unfold allNames at hs
  simp only [List.mem_append, List.mem_map] at hs
  rcases hs with ((⟨e, he, rfl⟩ | ⟨e, he, rfl⟩) | ⟨e, he, rfl⟩) | ⟨e, he, rfl⟩
  · obtain ⟨_, hR⟩ := k1.mem he
    obtain ⟨_, hf⟩ := hR
    exact hf.1
  · obtain ⟨_, hR⟩ := k2.mem he
    obtain ⟨_, _, _, _, _, hf, _⟩ := hR
    exact hf.1
  · obtain ⟨_, hR⟩ := k3.mem he
    obtain ⟨_, _, _, hf, _⟩ := hR
    exact hf.1
  · obtain ⟨_, hR⟩ := k4.mem he
    obtain ⟨_, _, _, _, _, hf, _⟩ := hR
    exact hf.1

theorem Blk.belowB {B : Nat} {w w' : World} {b : Nat} {vs : List Value} (h : Blk w b vs) (hb : Below B w w') (hlt : b < B) : Blk w' b vs :=
  ⟨Nat.lt_of_lt_of_le h.1 hb.size, fun j hj => ⟨(hb.cell (p := ⟨b, j, none⟩) hlt).trans (h.2 j hj).1, (hb.frozen (p := ⟨b, j, none⟩) hlt).trans (h.2 j hj).2⟩⟩

/-- The names gathered so far, in a row of the call's own; the argument's box. -/
def Gath (w : World) (x : Pl) (us : List Value) (N ys : List ByteArray) (zs : List ByteArray) (k : Nat) (a : Option Addr) (c : Nat) (wr : World) : Prop :=
  ys = N ++ zs.take k ∧ Own wr (w.heap.size + 1) a c ys ∧ Blk wr w.heap.size us ∧ Below w.heap.size w wr ∧ x.wt ≤ 1048576 ∧ w.heap.size + 1 ≤ wr.heap.size

theorem Gath.step {w : World} {x : Pl} {us : List Value} {N ys zs : List ByteArray} {k : Nat} {a a' : Option Addr} {c c' : Nat} {wr w' : World} (h : Gath w x us N ys zs k a c wr) (hk : k < zs.length) {o : Obj}
    (hown : Own w' (w.heap.size + 1) a' c' (ys ++ [zs[k]])) (hg : (wr.alloc o).grownBy w' (Value.slice a ys.length c).ownBlock) : Gath w x us N (ys ++ [zs[k]]) zs (k + 1) a' c' w' := by
  obtain ⟨h1, h2, h3, h4, h5, h6⟩ := h
  have hB : Below (w.heap.size + 1) wr w' := appended (Below.refl _ _) h6 h2 hg
  exact ⟨by rw [h1, List.append_assoc, List.take_succ_eq_append_getElem hk], hown, h3.belowB hB (by omega), h4.trans (hB.mono (by omega)), h5, Nat.le_trans h6 hB.size⟩

theorem Gath.next {w : World} {x : Pl} {us : List Value} {N ys zs : List ByteArray} {a : Option Addr} {c : Nat} {wr : World} (h : Gath w x us N ys zs zs.length a c wr) (zs' : List ByteArray) : Gath w x us (N ++ zs) ys zs' 0 a c wr :=
  ⟨by rw [h.1]; simp, h.2⟩

set_option maxHeartbeats 4000000 in
theorem specAll (vs : List Value) (x : Pl) (w : World) (hR : RPl 0 w vs x) (hn : x.wt ≤ 1048576) :
    Calls Try.prog 36 #[.agg vs.toArray] w fun e w' => ∃ a c, e = .returned (.slice a (allNames x).length c) ∧ Own w' w.heap.size a c (allNames x) ∧ Below w.heap.size w w' := by
  obtain ⟨i0, hi0, hz0, hz1, hz2⟩ := info_parts Try.infoString
  obtain ⟨a0, c0, a1, c1, a2, c2, a3, c3, a4, c4, rfl, _, k0, k1, k2, k3, k4⟩ := hR
  have HW : x.wt = (x.enums.length + wtS Lab.wt x.enums) + (x.seqs.length + wtS Sq.wt x.seqs) + (x.tables.length + wtS Tb.wt x.tables) + (x.indexes.length + wtS Ix.wt x.indexes) + (x.views.length + wtS Vw.wt x.views) := rfl
  have L1 := k1.len
  have K1 := Lib.hid (fun w' (hb : Below w.heap.size w w') => k1.kept goodSq (Kept.below hb))
  have L2 := k2.len
  have K2 := Lib.hid (fun w' (hb : Below w.heap.size w w') => k2.kept goodTb (Kept.below hb))
  have L3 := k3.len
  have K3 := Lib.hid (fun w' (hb : Below w.heap.size w w') => k3.kept goodIx (Kept.below hb))
  have L4 := k4.len
  have K4 := Lib.hid (fun w' (hb : Below w.heap.size w w') => k4.kept goodVw (Kept.below hb))
  clear k0 k1 k2 k3 k4
  have G0 : Gath w x [.slice a0 x.enums.length c0, .slice a1 x.seqs.length c1, .slice a2 x.tables.length c2, .slice a3 x.indexes.length c3, .slice a4 x.views.length c4, .int .i64 x.next] [] [] (x.seqs.map Sq.name) 0 (some ⟨w.heap.size + 1, 0, none⟩) 0 ((w.alloc (.cells [.slice a0 x.enums.length c0, .slice a1 x.seqs.length c1, .slice a2 x.tables.length c2, .slice a3 x.indexes.length c3, .slice a4 x.views.length c4, .int .i64 x.next].toArray 30)).alloc (.cells #[] 9)) := by
    refine ⟨rfl, ?_, (blk_new w _ _).alloc _, ((Below.refl _ _).alloc (Nat.le_refl _) _).alloc (by simp) _, hn, by simp⟩
    have := ownEmpty (w.alloc (.cells [.slice a0 x.enums.length c0, .slice a1 x.seqs.length c1, .slice a2 x.tables.length c2, .slice a3 x.indexes.length c3, .slice a4 x.views.length c4, .int .i64 x.next].toArray 30))
    simpa using this
  have HG0 := Lib.hid G0
  clear G0
  go_enter Try.func36, Try.ntmps36
  go_wp2_with fail
  go_loopw [3, 4] (fun o i wr => ∃ (k : Nat) (ys : List ByteArray) (a : Option Addr) (c : Nat), k ≤ x.seqs.length ∧ i = .int .i64 k ∧ o = .slice a ys.length c ∧ Hid (Gath w x [.slice a0 x.enums.length c0, .slice a1 x.seqs.length c1, .slice a2 x.tables.length c2, .slice a3 x.indexes.length c3, .slice a4 x.views.length c4, .int .i64 x.next] ([]) ys (x.seqs.map Sq.name) k a c wr)) (fun _ i _ => x.seqs.length - (intOf i).toNat)
  case atStart => exact ⟨0, [], _, _, Nat.zero_le _, rfl, rfl, HG0.out⟩
  case round =>
    obtain ⟨k, ys, a, c, hk, rfl, rfl, hG⟩ := hrel
    have hb := hG.out.2.2.2.1
    have g1 : wr.cell? ⟨w.heap.size, 1, none⟩ = some (.slice a1 x.seqs.length c1) := (hG.out.2.2.1.2 1 (by simp)).1
    have HL : ys.length ≤ 1048576 + k := by
      have h1 := hG.out.1
      rw [h1]
      simp
      omega
    by_cases hlt : k < x.seqs.length
    · obtain ⟨b, off, us, rfl, hbl, hcs, hR⟩ := (K1.out _ hb).spot hlt
      obtain ⟨rfl, hfit⟩ := hR
      have hc0 : wr.cell? ⟨b, off + k * 2, none⟩ = some (.string x.seqs[k].name) := hcs 0 (by simp)
      have hsm : x.seqs[k].name.size ≤ maxLen := hfit.1
      have hgl : k < (x.seqs.map Sq.name).length := by simpa using hlt
      clear hcs
      go_wp2_with (at_builtin; refine wpAppendStrs rfl _ _ rfl i0 hi0 hz0 hz1 hz2 (w.heap.size + 1) a c ys (some ⟨_, 0, none⟩) 1 [x.seqs[k].name] rfl (hG.out.2.1.alloc _) rfl (strsOne _ _ hsm) (by simp only [List.length_cons, List.length_nil]; omega) (by have := hG.out.2.2.2.2.2; simp; omega) ?_; intro a9 c9 w9 hown9 hg9)
      have e0 : (x.seqs.map Sq.name)[k] = x.seqs[k].name := by simp
      have HS0 := hG.out.step hgl (by rw [e0]; exact hown9) hg9
      rw [e0] at HS0
      have HS := Lib.hid HS0
      clear hown9 hg9 hG HS0 e0
      go_wp2_with fail
      go_roundw
      case rel => exact ⟨k + 1, ys ++ [x.seqs[k].name], a9, c9, by omega, by go_num, by simp, HS⟩
      case measure => simp [intOf]; omega
    · obtain rfl : k = x.seqs.length := by omega
      have HN := Lib.hid (Gath.next (by have := hG.out; simpa using this : Gath w x [.slice a0 x.enums.length c0, .slice a1 x.seqs.length c1, .slice a2 x.tables.length c2, .slice a3 x.indexes.length c3, .slice a4 x.views.length c4, .int .i64 x.next] ([]) ys (x.seqs.map Sq.name) (x.seqs.map Sq.name).length a c wr) (x.tables.map Tb.name))
      clear hG HL
      go_wp2_with fail
      go_loopw [3, 5] (fun o i wr => ∃ (k : Nat) (ys : List ByteArray) (a : Option Addr) (c : Nat), k ≤ x.tables.length ∧ i = .int .i64 k ∧ o = .slice a ys.length c ∧ Hid (Gath w x [.slice a0 x.enums.length c0, .slice a1 x.seqs.length c1, .slice a2 x.tables.length c2, .slice a3 x.indexes.length c3, .slice a4 x.views.length c4, .int .i64 x.next] ([] ++ x.seqs.map Sq.name) ys (x.tables.map Tb.name) k a c wr)) (fun _ i _ => x.tables.length - (intOf i).toNat)
      case atStart => exact ⟨0, ys, _, _, Nat.zero_le _, rfl, rfl, HN.out⟩
      case round =>
        obtain ⟨k, ys, a, c, hk, rfl, rfl, hG⟩ := hrel
        have hb := hG.out.2.2.2.1
        have g2 : wr.cell? ⟨w.heap.size, 2, none⟩ = some (.slice a2 x.tables.length c2) := (hG.out.2.2.1.2 2 (by simp)).1
        have HL : ys.length ≤ 1048576 + k := by
          have h1 := hG.out.1
          rw [h1]
          simp
          omega
        by_cases hlt : k < x.tables.length
        · obtain ⟨b, off, us, rfl, hbl, hcs, hR⟩ := (K2.out _ hb).spot hlt
          obtain ⟨p0, q0, p1, q1, rfl, hfit, _⟩ := hR
          have hc0 : wr.cell? ⟨b, off + k * 4, none⟩ = some (.string x.tables[k].name) := hcs 0 (by simp)
          have hsm : x.tables[k].name.size ≤ maxLen := hfit.1
          have hgl : k < (x.tables.map Tb.name).length := by simpa using hlt
          clear hcs
          go_wp2_with (at_builtin; refine wpAppendStrs rfl _ _ rfl i0 hi0 hz0 hz1 hz2 (w.heap.size + 1) a c ys (some ⟨_, 0, none⟩) 1 [x.tables[k].name] rfl (hG.out.2.1.alloc _) rfl (strsOne _ _ hsm) (by simp only [List.length_cons, List.length_nil]; omega) (by have := hG.out.2.2.2.2.2; simp; omega) ?_; intro a9 c9 w9 hown9 hg9)
          have e0 : (x.tables.map Tb.name)[k] = x.tables[k].name := by simp
          have HS0 := hG.out.step hgl (by rw [e0]; exact hown9) hg9
          rw [e0] at HS0
          have HS := Lib.hid HS0
          clear hown9 hg9 hG HS0 e0
          go_wp2_with fail
          go_roundw
          case rel => exact ⟨k + 1, ys ++ [x.tables[k].name], a9, c9, by omega, by go_num, by simp, HS⟩
          case measure => simp [intOf]; omega
        · obtain rfl : k = x.tables.length := by omega
          have HN := Lib.hid (Gath.next (by have := hG.out; simpa using this : Gath w x [.slice a0 x.enums.length c0, .slice a1 x.seqs.length c1, .slice a2 x.tables.length c2, .slice a3 x.indexes.length c3, .slice a4 x.views.length c4, .int .i64 x.next] ([] ++ x.seqs.map Sq.name) ys (x.tables.map Tb.name) (x.tables.map Tb.name).length a c wr) (x.indexes.map Ix.name))
          clear hG HL
          go_wp2_with fail
          go_loopw [3, 6] (fun o i wr => ∃ (k : Nat) (ys : List ByteArray) (a : Option Addr) (c : Nat), k ≤ x.indexes.length ∧ i = .int .i64 k ∧ o = .slice a ys.length c ∧ Hid (Gath w x [.slice a0 x.enums.length c0, .slice a1 x.seqs.length c1, .slice a2 x.tables.length c2, .slice a3 x.indexes.length c3, .slice a4 x.views.length c4, .int .i64 x.next] ([] ++ x.seqs.map Sq.name ++ x.tables.map Tb.name) ys (x.indexes.map Ix.name) k a c wr)) (fun _ i _ => x.indexes.length - (intOf i).toNat)
          case atStart => exact ⟨0, ys, _, _, Nat.zero_le _, rfl, rfl, HN.out⟩
          case round =>
            obtain ⟨k, ys, a, c, hk, rfl, rfl, hG⟩ := hrel
            have hb := hG.out.2.2.2.1
            have g3 : wr.cell? ⟨w.heap.size, 3, none⟩ = some (.slice a3 x.indexes.length c3) := (hG.out.2.2.1.2 3 (by simp)).1
            have HL : ys.length ≤ 1048576 + k := by
              have h1 := hG.out.1
              rw [h1]
              simp
              omega
            by_cases hlt : k < x.indexes.length
            · obtain ⟨b, off, us, rfl, hbl, hcs, hR⟩ := (K3.out _ hb).spot hlt
              obtain ⟨p0, q0, rfl, hfit, _⟩ := hR
              have hc0 : wr.cell? ⟨b, off + k * 4, none⟩ = some (.string x.indexes[k].name) := hcs 0 (by simp)
              have hsm : x.indexes[k].name.size ≤ maxLen := hfit.1
              have hgl : k < (x.indexes.map Ix.name).length := by simpa using hlt
              clear hcs
              go_wp2_with (at_builtin; refine wpAppendStrs rfl _ _ rfl i0 hi0 hz0 hz1 hz2 (w.heap.size + 1) a c ys (some ⟨_, 0, none⟩) 1 [x.indexes[k].name] rfl (hG.out.2.1.alloc _) rfl (strsOne _ _ hsm) (by simp only [List.length_cons, List.length_nil]; omega) (by have := hG.out.2.2.2.2.2; simp; omega) ?_; intro a9 c9 w9 hown9 hg9)
              have e0 : (x.indexes.map Ix.name)[k] = x.indexes[k].name := by simp
              have HS0 := hG.out.step hgl (by rw [e0]; exact hown9) hg9
              rw [e0] at HS0
              have HS := Lib.hid HS0
              clear hown9 hg9 hG HS0 e0
              go_wp2_with fail
              go_roundw
              case rel => exact ⟨k + 1, ys ++ [x.indexes[k].name], a9, c9, by omega, by go_num, by simp, HS⟩
              case measure => simp [intOf]; omega
            · obtain rfl : k = x.indexes.length := by omega
              have HN := Lib.hid (Gath.next (by have := hG.out; simpa using this : Gath w x [.slice a0 x.enums.length c0, .slice a1 x.seqs.length c1, .slice a2 x.tables.length c2, .slice a3 x.indexes.length c3, .slice a4 x.views.length c4, .int .i64 x.next] ([] ++ x.seqs.map Sq.name ++ x.tables.map Tb.name) ys (x.indexes.map Ix.name) (x.indexes.map Ix.name).length a c wr) (x.views.map Vw.name))
              clear hG HL
              go_wp2_with fail
              go_loopw [3, 7] (fun o i wr => ∃ (k : Nat) (ys : List ByteArray) (a : Option Addr) (c : Nat), k ≤ x.views.length ∧ i = .int .i64 k ∧ o = .slice a ys.length c ∧ Hid (Gath w x [.slice a0 x.enums.length c0, .slice a1 x.seqs.length c1, .slice a2 x.tables.length c2, .slice a3 x.indexes.length c3, .slice a4 x.views.length c4, .int .i64 x.next] ([] ++ x.seqs.map Sq.name ++ x.tables.map Tb.name ++ x.indexes.map Ix.name) ys (x.views.map Vw.name) k a c wr)) (fun _ i _ => x.views.length - (intOf i).toNat)
              case atStart => exact ⟨0, ys, _, _, Nat.zero_le _, rfl, rfl, HN.out⟩
              case round =>
                obtain ⟨k, ys, a, c, hk, rfl, rfl, hG⟩ := hrel
                have hb := hG.out.2.2.2.1
                have g4 : wr.cell? ⟨w.heap.size, 4, none⟩ = some (.slice a4 x.views.length c4) := (hG.out.2.2.1.2 4 (by simp)).1
                have HL : ys.length ≤ 1048576 + k := by
                  have h1 := hG.out.1
                  rw [h1]
                  simp
                  omega
                by_cases hlt : k < x.views.length
                · obtain ⟨b, off, us, rfl, hbl, hcs, hR⟩ := (K4.out _ hb).spot hlt
                  obtain ⟨p0, q0, p1, q1, rfl, hfit, _⟩ := hR
                  have hc0 : wr.cell? ⟨b, off + k * 4, none⟩ = some (.string x.views[k].name) := hcs 0 (by simp)
                  have hsm : x.views[k].name.size ≤ maxLen := hfit.1
                  have hgl : k < (x.views.map Vw.name).length := by simpa using hlt
                  clear hcs
                  go_wp2_with (at_builtin; refine wpAppendStrs rfl _ _ rfl i0 hi0 hz0 hz1 hz2 (w.heap.size + 1) a c ys (some ⟨_, 0, none⟩) 1 [x.views[k].name] rfl (hG.out.2.1.alloc _) rfl (strsOne _ _ hsm) (by simp only [List.length_cons, List.length_nil]; omega) (by have := hG.out.2.2.2.2.2; simp; omega) ?_; intro a9 c9 w9 hown9 hg9)
                  have e0 : (x.views.map Vw.name)[k] = x.views[k].name := by simp
                  have HS0 := hG.out.step hgl (by rw [e0]; exact hown9) hg9
                  rw [e0] at HS0
                  have HS := Lib.hid HS0
                  clear hown9 hg9 hG HS0 e0
                  go_wp2_with fail
                  go_roundw
                  case rel => exact ⟨k + 1, ys ++ [x.views[k].name], a9, c9, by omega, by go_num, by simp, HS⟩
                  case measure => simp [intOf]; omega
                · obtain rfl : k = x.views.length := by omega
                  have HE : Hid (ys = allNames x) := hG.out.1.trans (by rw [List.take_of_length_le (by simp)]; rfl)
                  have HO := Lib.hid (hG.out.2.1.lower (Nat.le_succ w.heap.size))
                  clear hG
                  go_wp2_with fail
                  go_ret
                  rw [← HE.out]
                  exact ⟨_, _, rfl, HO.out, hb⟩

set_option maxHeartbeats 1000000 in
theorem specTaken (vs : List Value) (x : Pl) (n : ByteArray) (w : World) (hR : RPl 0 w vs x) (hn : x.wt ≤ 1048576) :
    Calls Try.prog 16 #[.agg vs.toArray, .string n] w fun e w' => e = .returned (.bool (takenB x n)) ∧ Below w.heap.size w w' := by
  have HF := Lib.hid (names_fit hR)
  have HA := Lib.hid (fun w' (hb : Below w.heap.size w w') => specAll vs x w' (goodPl.kept hR (Kept.below hb)) hn)
  obtain ⟨a0, c0, a1, c1, a2, c2, a3, c3, a4, c4, rfl, _⟩ := hR
  go_enter Try.func16, Try.ntmps16
  go_wp2_with fail
  refine (HA.out _ (by ((repeat (first | refine Below.alloc ?_ (by first | omega | (simp; done) | (simp; omega)) _ | refine Below.setCell ?_ (by first | omega | (simp; done) | (simp; omega)) _)); first | exact Below.refl _ _ | exact Below.refl _ _))).mono ?_
  rintro e w2 ⟨a, c, rfl, ho, b2⟩
  have HS := Lib.hid (ho.strs HF.out)
  have B2 := Lib.hid (show Below w.heap.size w w2 from Below.call b2 (by ((repeat (first | refine Below.alloc ?_ (by first | omega | (simp; done) | (simp; omega)) _ | refine Below.setCell ?_ (by first | omega | (simp; done) | (simp; omega)) _)); first | exact Below.refl _ _ | exact Below.refl _ _)))
  clear ho b2
  go_wp2_with fail
  refine (specHas a c (allNames x) n _ HS.out).mono ?_
  rintro e w3 ⟨rfl, m, rfl⟩
  go_wp2_with fail
  go_ret
  exact ⟨rfl, below_drewN B2.out m⟩

set_option maxHeartbeats 2000000 in
theorem implTaken (vs : List Value) (x : Pl) (n : ByteArray) (w : World) (hR : RPl 0 w vs x) :
    Calls Try.prog 15 #[.agg vs.toArray, .string n] w fun e w' => e = .returned (.bool (takenB x n)) ∧ Below w.heap.size w w' := by
  obtain ⟨a0, c0, a1, c1, a2, c2, a3, c3, a4, c4, rfl, _, k0, k1, k2, k3, k4⟩ := hR
  have HT := Lib.hid (takenB_eq x n)
  have K1 := Lib.hid (fun w' (hb : Below w.heap.size w w') => k1.kept goodSq (Kept.below hb))
  have K2 := Lib.hid (fun w' (hb : Below w.heap.size w w') => k2.kept goodTb (Kept.below hb))
  have K3 := Lib.hid (fun w' (hb : Below w.heap.size w w') => k3.kept goodIx (Kept.below hb))
  have K4 := Lib.hid (fun w' (hb : Below w.heap.size w w') => k4.kept goodVw (Kept.below hb))
  clear k0 k1 k2 k3 k4
  go_enter Try.func15, Try.ntmps15
  go_wp2_with fail
  refine (placeSq a1 c1 x.seqs n _ (K1.out _ (by ((repeat (first | refine Below.alloc ?_ (by first | omega | (simp; done) | (simp; omega)) _ | refine Below.setCell ?_ (by first | omega | (simp; done) | (simp; omega)) _)); first | exact Below.refl _ _ | exact Below.refl _ _)))).mono ?_
  rintro e w1 ⟨rfl, b1⟩
  have B1 := Lib.hid (show Below w.heap.size w w1 from Below.call b1 (by ((repeat (first | refine Below.alloc ?_ (by first | omega | (simp; done) | (simp; omega)) _ | refine Below.setCell ?_ (by first | omega | (simp; done) | (simp; omega)) _)); first | exact Below.refl _ _ | exact Below.refl _ _)))
  have A1 := Lib.hid (Blk.call b1 (blk_new w _ [.slice a0 x.enums.length c0, .slice a1 x.seqs.length c1, .slice a2 x.tables.length c2, .slice a3 x.indexes.length c3, .slice a4 x.views.length c4, .int .i64 x.next]))
  clear b1
  have g2 : w1.cell? ⟨w.heap.size, 2, none⟩ = some (.slice a2 x.tables.length c2) := (A1.out.2 2 (by simp)).1
  have z1 := findAt_small Sq.name x.seqs n
  cases h1 : decide (0 ≤ findAt Sq.name x.seqs n) with
  | true =>
    have HE : Hid (takenB x n = true) := by unfold Hid; rw [HT.out, h1]; simp
    go_wp2_with fail
    go_ret
    exact ⟨by rw [HE.out]; rfl, B1.out⟩
  | false =>
    go_wp2_with fail
    refine (placeTb a2 c2 x.tables n _ (K2.out _ B1.out)).mono ?_
    rintro e w2 ⟨rfl, b2⟩
    have B2 := Lib.hid (Below.call b2 B1.out)
    have A2 := Lib.hid (Blk.call b2 A1.out)
    clear b2
    have g3 : w2.cell? ⟨w.heap.size, 3, none⟩ = some (.slice a3 x.indexes.length c3) := (A2.out.2 3 (by simp)).1
    have z2 := findAt_small Tb.name x.tables n
    cases h2 : decide (0 ≤ findAt Tb.name x.tables n) with
    | true =>
      have HE : Hid (takenB x n = true) := by unfold Hid; rw [HT.out, h1, h2]; simp
      go_wp2_with fail
      go_ret
      exact ⟨by rw [HE.out]; rfl, B2.out⟩
    | false =>
      go_wp2_with fail
      refine (placeIx a3 c3 x.indexes n _ (K3.out _ B2.out)).mono ?_
      rintro e w3 ⟨rfl, b3⟩
      have B3 := Lib.hid (Below.call b3 B2.out)
      have A3 := Lib.hid (Blk.call b3 A2.out)
      clear b3
      have g4 : w3.cell? ⟨w.heap.size, 4, none⟩ = some (.slice a4 x.views.length c4) := (A3.out.2 4 (by simp)).1
      have z3 := findAt_small Ix.name x.indexes n
      cases h3 : decide (0 ≤ findAt Ix.name x.indexes n) with
      | true =>
        have HE : Hid (takenB x n = true) := by unfold Hid; rw [HT.out, h1, h2, h3]; simp
        go_wp2_with fail
        go_ret
        exact ⟨by rw [HE.out]; rfl, B3.out⟩
      | false =>
        go_wp2_with fail
        refine (placeVw a4 c4 x.views n _ (K4.out _ B3.out)).mono ?_
        rintro e w4 ⟨rfl, b4⟩
        have B4 := Lib.hid (Below.call b4 B3.out)
        have A4 := Lib.hid (Blk.call b4 A3.out)
        clear b4
        have z4 := findAt_small Vw.name x.views n
        cases h4 : decide (0 ≤ findAt Vw.name x.views n) with
        | true =>
          have HE : Hid (takenB x n = true) := by unfold Hid; rw [HT.out, h1, h2, h3, h4]; simp
          go_wp2_with fail
          go_ret
          exact ⟨by rw [HE.out]; rfl, B4.out⟩
        | false =>
          have HE : Hid (takenB x n = false) := by unfold Hid; rw [HT.out, h1, h2, h3, h4]; rfl
          go_wp2_with fail
          go_ret
          exact ⟨by rw [HE.out]; rfl, B4.out⟩

end Go.Proofs.Ytefjjcoaeanagaa
