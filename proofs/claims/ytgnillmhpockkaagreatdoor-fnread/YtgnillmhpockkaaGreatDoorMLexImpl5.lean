/- The program's lexer: runs, signs, names. -/
/- A strings.Builder that the call itself has laid: what WriteByte puts behind, what String answers; walked over the library's own text. -/
/- The program's lexer: quoted texts. -/
/- The program's lexer: signs, one word. -/
/- The program's reader of expressions: what it hands on; leaf. -/
import Derived.Test.YtgnillmhpockkaaGreatDoorMLexSpec4
import Derived.StillTailTactics
import Derived.IntWalk
import Derived.Test.YtgnillmhpockkaaGreatDoorMBytes1
import Derived.Test.YtgnillmhpockkaaGreatDoorMShelf
import Derived.Lib.Builder
import Derived.Test.YtgnillmhpockkaaGreatDoorMDecImpl
import Derived.Test.YtgnillmhpockkaaGreatDoorMDrawQuote
namespace Go.Proofs.YtgnillmhpockkaaGreatDoor
open Go.RowKit

set_option maxRecDepth 100000 in
set_option maxHeartbeats 2000000 in
theorem implRun {w : World} {g : Nat} {s : ByteArray} {k : Nat} (h : LexS w g s k) (hs : s.size ≤ 1048576) (hk : k ≤ s.size) :
    Calls Tryz.prog 74 #[.pointer (some ⟨g, 0, none⟩)] w fun e w' => e = .returned (.string (s.extract k (k + runN (s.data.toList.drop k)))) ∧ Moved w g s (k + runN (s.data.toList.drop k)) w' := by
  have c0 := h.c0
  have c1 := h.c1
  have HS := Lib.hid h
  clear h
  go_enter Tryz.func74, Tryz.ntmps74
  go_wp2_with fail
  go_loop [3] (fun v => ∃ m : Nat, v = .int .i64 m ∧ k ≤ m ∧ m ≤ s.size ∧ Hid (runN (s.data.toList.drop k) = (m - k) + runN (s.data.toList.drop m))) (fun v => s.size - (intOf v).toNat)
  case atStart => exact ⟨k, rfl, Nat.le_refl _, hk, by unfold Hid; omega⟩
  case round =>
    obtain ⟨m, rfl, hkm, hm, hg⟩ := hrel
    have h0m : (0 : Int) ≤ (m : Int) := by omega
    have h0k : (0 : Int) ≤ (k : Int) := by omega
    have hwr : IntKind.i64.wrap ((m : Int) - (k : Int)) = ((m - k : Nat) : Int) := by rw [IntWalk.i64_in _ (by omega)]; omega
    have fin : ∀ (hn : runN (s.data.toList.drop m) = 0), Hid (k + runN (s.data.toList.drop k) = m) := fun hn => by unfold Hid; rw [hg.out, hn]; omega
    by_cases hlt : m < s.size
    · have hby := byte_le s[m]
      cases hmo : moreB s[m] with
      | true =>
        have HI := Lib.hid (run_in_at s m hlt hmo)
        have HMO := Lib.hid hmo
        clear hmo fin
        go_wp2_with fail
        refine (implInRun HS.out s[m] true HMO.out).mono ?_
        rintro e w1 ⟨rfl, rfl⟩
        go_wp2_with fail
        exact ⟨⟨m + 1, by go_num, by omega, by omega, by unfold Hid; rw [hg.out, HI.out]; omega⟩, by simp [intOf]; omega⟩
      | false =>
        have HN := fin (run_out_at s m hlt hmo)
        have HMO := Lib.hid hmo
        clear hmo fin
        go_wp2_with fail
        refine (implInRun HS.out s[m] false HMO.out).mono ?_
        rintro e w1 ⟨rfl, rfl⟩
        go_wp2_with fail
        go_still_tail 10, (by kernel_rfl)
        change wpList _ _ _ _ _ w.drew
        have HMD := Lib.hid (Moved.refl HS.out).drew
        generalize w.drew = W at HMD ⊢
        go_wp2_with fail
        refine (implTake HMD.out.1 (m - k) hs (by omega)).mono ?_
        rintro e w3 ⟨rfl, hmv3⟩
        go_wp2_with fail
        go_ret
        refine ⟨by rw [HN.out]; rfl, ?_⟩
        rw [HN.out]
        have := HMD.out.trans hmv3
        rw [show k + (m - k) = m by omega] at this
        exact this
    · have hme : m = s.size := by omega
      have HN := fin (by rw [hme]; exact run_end_at s)
      clear fin hme
      go_wp2_with fail
      go_still_tail 10, (by kernel_rfl)
      change wpList _ _ _ _ _ w.drew
      have HMD := Lib.hid (Moved.refl HS.out).drew
      generalize w.drew = W at HMD ⊢
      go_wp2_with fail
      refine (implTake HMD.out.1 (m - k) hs (by omega)).mono ?_
      rintro e w3 ⟨rfl, hmv3⟩
      go_wp2_with fail
      go_ret
      refine ⟨by rw [HN.out]; rfl, ?_⟩
      rw [HN.out]
      have := HMD.out.trans hmv3
      rw [show k + (m - k) = m by omega] at this
      exact this

theorem nameSize (s : ByteArray) (h : nameB s.data.toList = true) : 1 ≤ s.size ∧ s.size ≤ 40 := by
  have hl : s.data.toList.length = s.size := by simp
  simp only [nameB, Bool.and_eq_true, decide_eq_true_eq] at h
  omega

theorem index_lt (l : List UInt8) (c : UInt8) : -1 ≤ Lib.indexByte l c ∧ (Lib.indexByte l c < 0 ↔ l.contains c = false) := by
  induction l with
  | nil => simp [Lib.indexByte]
  | cons b r ih =>
    rw [Lib.indexByte]
    by_cases h : b = c
    · subst h; simp
    · have hb : (b == c) = false := by simpa using h
      rw [hb]
      simp only [Bool.false_eq_true, if_false]
      have hc : (b :: r).contains c = r.contains c := by
        rw [List.contains_cons]
        have : (c == b) = false := by simpa using fun e => h e.symm
        rw [this]; rfl
      rw [hc]
      by_cases h1 : Lib.indexByte r c = -1
      · rw [if_pos (by simpa using h1)]
        exact ⟨by omega, by rw [← ih.2]; omega⟩
      · rw [if_neg (by simpa using h1)]
        exact ⟨by omega, by rw [← ih.2]; omega⟩

theorem name_eq (s : ByteArray) : nameB s.data.toList = (!s.toList.isEmpty && (decide ((s.size : Int) ≤ 40) && decide (Lib.indexByte s.data.toList 0 < 0))) := by
  have hl : s.data.toList.length = s.size := by simp
  have hi := (index_lt s.data.toList 0).2
  rw [Bool.eq_iff_iff]
  unfold nameB
  simp only [Bool.and_eq_true, decide_eq_true_eq, Bool.not_eq_true', Lib.toList_data]
  rw [hi, hl]
  constructor
  · rintro ⟨⟨h1, h2⟩, h3⟩
    refine ⟨?_, by omega, h3⟩
    rw [List.isEmpty_eq_false_iff]
    intro e
    rw [e] at hl
    simp at hl
    omega
  · rintro ⟨h1, h2, h3⟩
    rw [List.isEmpty_eq_false_iff] at h1
    have : 0 < s.data.toList.length := List.length_pos_iff.2 h1
    exact ⟨⟨by omega, by omega⟩, h3⟩

set_option maxHeartbeats 1000000 in
theorem implNameFits (s : ByteArray) (w : World) (v : Bool) (hv : nameB s.data.toList = v) :
    Calls Tryz.prog 40 #[.string s] w fun e w' => e = .returned (.bool v) ∧ w = w' := by
  rw [name_eq] at hv
  have HI : Hid (∀ W, Calls Tryz.prog 68 #[.string s, .int .u8 0] W fun e w' => e = .returned (.int .i64 (Lib.indexByte s.data.toList 0)) ∧ W = w') := fun W =>
    (Tryz.strings_IndexByte s 0 W).mono fun e w' ⟨he, hw⟩ => ⟨he, hw.symm⟩
  generalize Lib.indexByte s.data.toList 0 = ix at hv HI
  cases h1 : s.toList.isEmpty with
  | true =>
    have hse : s.toList = [] := List.isEmpty_iff.1 h1
    have hv' : v = false := by rw [← hv, h1]; rfl
    have HV := Lib.hid hv'
    have hn : (!(s.toList == [])) = false := by rw [hse]; rfl
    clear hv hv' hse
    go_enter Tryz.func40, Tryz.ntmps40
    go_wp2_with fail
    go_ret
    exact ⟨by rw [HV.out]; rfl, rfl⟩
  | false =>
    by_cases h2 : (s.size : Int) ≤ 40
    · have hv' : v = decide (ix < 0) := by rw [← hv, h1]; simp [h2]
      have HV := Lib.hid hv'
      have hn : (!(s.toList == [])) = true := by
        have : s.toList ≠ [] := by intro e; rw [e] at h1; cases h1
        simpa using this
      clear hv hv'
      go_enter Tryz.func40, Tryz.ntmps40
      go_wp2_with fail
      refine (HI.out _).mono ?_
      rintro e w1 ⟨rfl, rfl⟩
      go_wp2_with fail
      go_ret
      exact ⟨by rw [HV.out]; rfl, rfl⟩
    · have hv' : v = false := by rw [← hv, h1]; simp [h2]
      have HV := Lib.hid hv'
      have ht : decide ((s.size : Int) ≤ 40) = false := by simpa using h2
      have hn : (!(s.toList == [])) = true := by
        have : s.toList ≠ [] := by intro e; rw [e] at h1; cases h1
        simpa using this
      clear hv hv'
      go_enter Tryz.func40, Tryz.ntmps40
      go_wp2_with fail
      go_ret
      exact ⟨by rw [HV.out]; rfl, rfl⟩

end Go.Proofs.YtgnillmhpockkaaGreatDoor

namespace Go.Proofs.YtgnillmhpockkaaGreatDoor
open Go.RowKit

theorem Tryz.sizeBuilder : (Tryz.prog.info? 89).map (·.size) = some 2 := by kernel_rfl
theorem Tryz.liesBuilder : liesAt Tryz.prog Tryz.prog.depth 89 (2 / Tryz.prog.cellsOf 89) 0 89 1 = true := by kernel_rfl

set_option maxRecDepth 100000 in
set_option maxHeartbeats 1000000 in
theorem copyCheckUsed (b : Nat) (w : World) (h0 : w.cell? ⟨b, 0, none⟩ = some (.pointer (some ⟨b, 0, none⟩))) :
    Calls Tryz.prog 95 #[.pointer (some ⟨b, 0, none⟩)] w fun e w' => e = .returned (.tuple #[]) ∧ w = w' := by
  obtain ⟨j, hj, _⟩ := Option.map_eq_some_iff.1 Tryz.sizeBuilder
  go_enter Tryz.func95, Tryz.ntmps95
  go_wp2
  rw [Lib.run_neq_ptr_same w _ Tryz.underlying87 hj]
  go_wp2
  go_end0
  exact ⟨rfl, rfl⟩

set_option maxRecDepth 100000 in
set_option maxHeartbeats 1000000 in
theorem copyCheckFresh (b : Nat) (w : World) (h0 : w.cell? ⟨b, 0, none⟩ = some (.pointer none)) (hsh : w.shape? b = some (89, 2)) (hfz : w.frozen? ⟨b, 0, none⟩ = false) :
    Calls Tryz.prog 95 #[.pointer (some ⟨b, 0, none⟩)] w fun e w' => e = .returned (.tuple #[]) ∧ w.setCell ⟨b, 0, none⟩ (.pointer (some ⟨b, 0, none⟩)) = w' := by
  obtain ⟨j, hj, hjs⟩ := Option.map_eq_some_iff.1 Tryz.sizeBuilder
  go_enter Tryz.func95, Tryz.ntmps95
  go_wp2
  rw [Lib.run_to_unsafe w ⟨b, 0, none⟩ Tryz.underlying87 Tryz.underlying131 hj (by rw [hjs]; decide) hsh (Nat.zero_lt_succ 1)]
  simp only [Result.andThen]
  rw [Oper.upon_value]
  go_wp2
  rw [run_callFunc_extern Tryz.func114 (by kernel_rfl) (by kernel_rfl) (by kernel_rfl) (e := Extern.AbiNoEscape.same) (by kernel_rfl)]
  rw [Lib.run_noEscape]
  simp only [Result.andThen]
  rw [Oper.upon_value]
  go_wp2
  rw [Lib.run_from_unsafe w ⟨b, 0, none⟩ Tryz.underlying131 Tryz.underlying87 hj hsh Tryz.liesBuilder]
  simp only [Result.andThen]
  rw [Oper.upon_value]
  go_wp2
  go_end0
  exact ⟨rfl, rfl⟩

/-- The builder in block b holds the bytes l in a row (a, c) that lies behind it. -/
def Bld (w : World) (b : Nat) (a : Option Addr) (c : Nat) (l : List UInt8) : Prop :=
  ∃ p, (p = .pointer none ∨ p = .pointer (some ⟨b, 0, none⟩)) ∧ w.heap[b]? = some (.cells #[p, .slice a l.length c] 89 (0, 0)) ∧ OwnB w (b + 1) a c l

/-- Of what was there block b alone has turned, and the row. -/
structure Wrote (b : Nat) (row : Option Nat) (w w' : World) : Prop where
  os : w'.os = w.os
  tape : w'.tape = w.tape
  output : w'.output = w.output
  size : w.heap.size ≤ w'.heap.size
  block : ∀ k, k < w.heap.size → k ≠ b → some k ≠ row → w'.heap[k]? = w.heap[k]?

theorem Bld.lt {w : World} {b : Nat} {a : Option Addr} {c : Nat} {l : List UInt8} (h : Bld w b a c l) : b < w.heap.size := by
  obtain ⟨p, _, hg, _⟩ := h
  rcases Nat.lt_or_ge b w.heap.size with hlt | hge
  · exact hlt
  · rw [Array.getElem?_eq_none hge] at hg; cases hg

theorem Bld.own {w : World} {b : Nat} {a : Option Addr} {c : Nat} {l : List UInt8} (h : Bld w b a c l) : OwnB w (b + 1) a c l := by
  obtain ⟨_, _, _, h⟩ := h; exact h

theorem Bld.new (w : World) : Bld (w.alloc (.cells #[.pointer none, .slice none 0 0] 89)) w.heap.size none 0 [] :=
  ⟨_, .inl rfl, heap_alloc_new _ _, World.ownsRow_nil _ _ _ _⟩

theorem Bld.below {w w' : World} {b : Nat} {a : Option Addr} {c : Nat} {l : List UInt8} (h : Bld w b a c l) (hb : Below w.heap.size w w') : Bld w' b a c l := by
  have hlt := h.lt
  obtain ⟨p, hp, hg, ho⟩ := h
  exact ⟨p, hp, (hb.block b hlt).trans hg, ho.below hb⟩

theorem Bld.grown {w w' : World} {b : Nat} {a : Option Addr} {c : Nat} {l : List UInt8} {row : Option Nat} (h : Bld w b a c l) (hb : w.grownBy w' row) (h1 : row ≠ some b) (h2 : ∀ g, (Value.slice a l.length c).ownBlock = some g → row ≠ some g) : Bld w' b a c l := by
  have hlt := h.lt
  obtain ⟨p, hp, hg, ho⟩ := h
  exact ⟨p, hp, (hb.block b hlt (fun e => h1 e.symm)).trans hg, ho.kept hb h2⟩

theorem Wrote.below {b : Nat} {w w' : World} {a : Option Addr} {c : Nat} {l : List UInt8} (hB : Bld w b a c l) (h : Wrote b (Value.slice a l.length c).ownBlock w w') {w0 : World} {B : Nat} (h0 : Below B w0 w) (hb : B ≤ b) : Below B w0 w' := by
  have hlt := hB.lt
  refine ⟨h.os.trans h0.os, h.tape.trans h0.tape, h.output.trans h0.output, Nat.le_trans h0.size h.size, fun k hk => ?_⟩
  rw [h.block k (by omega) (by omega) (fun e => by have := (hB.own.lt e.symm).1; omega)]
  exact h0.block k hk

theorem own_shape {w : World} {B : Nat} {a : Option Addr} {c : Nat} {l : List UInt8} (h : OwnB w B a c l) (h0 : 0 < l.length) : ∃ g, a = some ⟨g, 0, none⟩ ∧ (Value.slice a l.length c).ownBlock = some g := by
  unfold OwnB at h
  rcases h.2 with ⟨_, hn⟩ | ⟨g, cap, cur, hv, _⟩
  · omega
  · simp only [Value.slice.injEq] at hv
    obtain ⟨rfl, _, rfl⟩ := hv
    exact ⟨g, rfl, rfl⟩

theorem infoB_ne : 89 ≠ 5 := by decide

set_option maxHeartbeats 2000000 in
/-- WriteByte, where the builder knows its address. -/
theorem writeByteUsed (b : Nat) (a : Option Addr) (c : Nat) (l : List UInt8) (y : UInt8) (w : World) (hg : w.heap[b]? = some (.cells #[.pointer (some ⟨b, 0, none⟩), .slice a l.length c] 89 (0, 0))) (hown : OwnB w (b + 1) a c l) (hn : l.length + 1 ≤ 140737488355328) :
    Calls Tryz.prog 65 #[.pointer (some ⟨b, 0, none⟩), .int .u8 (y.toNat : Int)] w fun e w' => e = .returned .nilIface ∧ ∃ a' c' l', Hid (l' = l ++ [y]) ∧ Bld w' b a' c' l' ∧ Wrote b (Value.slice a l.length c).ownBlock w w' ∧ ∀ g, (Value.slice a' l'.length c').ownBlock = some g → (Value.slice a l.length c).ownBlock = some g ∨ w.heap.size ≤ g := by
  obtain ⟨i0, hi0, hz0, hz1, hz2⟩ := info_parts Tryz.infoByte
  have hlt : b < w.heap.size := by
    rcases Nat.lt_or_ge b w.heap.size with hlt | hge
    · exact hlt
    · rw [Array.getElem?_eq_none hge] at hg; cases hg
  have c0 : w.cell? ⟨b, 0, none⟩ = some (.pointer (some ⟨b, 0, none⟩)) := by rw [cell_of_row _ _ _ _ _ _ hg]; rfl
  have c1 : w.cell? ⟨b, 1, none⟩ = some (.slice a l.length c) := by rw [cell_of_row _ _ _ _ _ _ hg]; rfl
  have hby := byte_le y
  have HG := Lib.hid hg
  clear hg
  go_enter Tryz.func65, Tryz.ntmps65
  go_wp2_with (first
    | (go_at_call 95; refine (copyCheckUsed b w c0).mono ?_; rintro e w1 ⟨rfl, rfl⟩)
    | (at_builtin; refine wpAppendByte rfl (.tmp 11) (.tmp 13) rfl i0 hi0 hz0 hz1 hz2 (b + 1) a c l w.heap.size y rfl (hown.alloc _) rfl (by simp) hn (by simp; omega) ?_; intro a2 c2 w2 l2 hl2 hown2 hg2 hat; have hb2 : w2.heap[b]? = some (.cells #[.pointer (some ⟨b, 0, none⟩), .slice a l.length c] 89 (0, 0)) := (by rw [hg2.block b (by simp; omega) (fun e => by have := (hown.lt e.symm).1; omega), Below.heap_alloc _ _ _ hlt]; exact HG.out); have d1 : w2.cell? ⟨b, 1, none⟩ = some (.slice a l.length c) := (by rw [cell_of_row _ _ _ _ _ _ hb2]; rfl); have f1 : w2.frozen? ⟨b, 1, none⟩ = false := frozen_of_row _ _ _ _ _ hb2; have HB2 := Lib.hid hb2; clear hb2))
  go_ret
  have hset := heap_setCell_same w2 b 1 _ _ (.slice a2 l2.length c2) HB2.out
  have own3 : OwnB (w2.setCell ⟨b, 1, none⟩ (.slice a2 l2.length c2)) (b + 1) a2 c2 l2 := hown2.kept (row := some b) ⟨rfl, rfl, rfl, by simp [World.setCell], fun k _ hne => Below.heap_setCell _ _ _ _ (fun e => hne (by rw [e]))⟩ (fun g hgo e => by cases e; have := (hown2.lt hgo).1; omega)
  refine ⟨rfl, a2, c2, l2, hl2, ⟨_, .inr rfl, hset, own3⟩, ⟨?_, ?_, ?_, ?_, ?_⟩, ?_⟩
  · exact hg2.os
  · exact hg2.tape
  · exact hg2.output
  · have := hg2.size; simp [World.setCell] at this ⊢; omega
  · intro k hk hkb hkr
    rw [Below.heap_setCell _ _ _ _ hkb, hg2.block k (by simp; omega) hkr, Below.heap_alloc _ _ _ hk]
  · intro g hgo
    rcases hat with e | e
    · left; rw [← e]; exact hgo
    · right; rw [e] at hgo; cases hgo; simp

set_option maxHeartbeats 2000000 in
theorem writeByte (b : Nat) (a : Option Addr) (c : Nat) (l : List UInt8) (y : UInt8) (w : World) (hB : Bld w b a c l) (hn : l.length + 1 ≤ 140737488355328) :
    Calls Tryz.prog 65 #[.pointer (some ⟨b, 0, none⟩), .int .u8 (y.toNat : Int)] w fun e w' => e = .returned .nilIface ∧ ∃ a' c' l', Hid (l' = l ++ [y]) ∧ Bld w' b a' c' l' ∧ Wrote b (Value.slice a l.length c).ownBlock w w' ∧ ∀ g, (Value.slice a' l'.length c').ownBlock = some g → (Value.slice a l.length c).ownBlock = some g ∨ w.heap.size ≤ g := by
  have hlt := hB.lt
  obtain ⟨p, rfl | rfl, hg, hown⟩ := hB
  rotate_left
  · exact writeByteUsed b a c l y w hg hown hn
  obtain ⟨i0, hi0, hz0, hz1, hz2⟩ := info_parts Tryz.infoByte
  have c0 : w.cell? ⟨b, 0, none⟩ = some (.pointer none) := by rw [cell_of_row _ _ _ _ _ _ hg]; rfl
  have f0 : w.frozen? ⟨b, 0, none⟩ = false := frozen_of_row _ _ _ _ _ hg
  have hsh : w.shape? b = some (89, 2) := by simp [World.shape?, hg]
  have hby := byte_le y
  obtain ⟨W, hW⟩ : ∃ W, W = w.setCell ⟨b, 0, none⟩ (.pointer (some ⟨b, 0, none⟩)) := ⟨_, rfl⟩
  have HG1 : W.heap[b]? = some (.cells #[.pointer (some ⟨b, 0, none⟩), .slice a l.length c] 89 (0, 0)) := by rw [hW]; exact heap_setCell_same w b 0 _ _ _ hg
  have hgrW : w.grownBy W (some b) := by rw [hW]; exact ⟨rfl, rfl, rfl, by simp [World.setCell], fun k _ hne => Below.heap_setCell _ _ _ _ (fun e => hne (by rw [e]))⟩
  have hownW : OwnB W (b + 1) a c l := hown.kept hgrW (fun g hgo e => by cases e; have := (hown.lt hgo).1; omega)
  have hWs : W.heap.size = w.heap.size := by rw [hW]; simp [World.setCell]
  have hltW : b < W.heap.size := by omega
  have c1 : W.cell? ⟨b, 1, none⟩ = some (.slice a l.length c) := by rw [cell_of_row _ _ _ _ _ _ HG1]; rfl
  have HW := Lib.hid hW
  have HG := Lib.hid HG1
  have HWs := Lib.hid hWs
  clear HG1 hg hW hWs
  go_enter Tryz.func65, Tryz.ntmps65
  go_wp2_with (first
    | (go_at_call 95; refine (copyCheckFresh b w c0 hsh f0).mono ?_; rintro e w1 ⟨rfl, hw1⟩; rw [← HW.out] at hw1; subst hw1; clear c0 f0 hsh)
    | (at_builtin; refine wpAppendByte rfl (.tmp 11) (.tmp 13) rfl i0 hi0 hz0 hz1 hz2 (b + 1) a c l W.heap.size y rfl (hownW.alloc _) rfl (by simp) hn (by simp; omega) ?_; intro a2 c2 w2 l2 hl2 hown2 hg2 hat; have hb2 : w2.heap[b]? = some (.cells #[.pointer (some ⟨b, 0, none⟩), .slice a l.length c] 89 (0, 0)) := (by rw [hg2.block b (by simp; omega) (fun e => by have := (hownW.lt e.symm).1; omega), Below.heap_alloc _ _ _ hltW]; exact HG.out); have d1 : w2.cell? ⟨b, 1, none⟩ = some (.slice a l.length c) := (by rw [cell_of_row _ _ _ _ _ _ hb2]; rfl); have f1 : w2.frozen? ⟨b, 1, none⟩ = false := frozen_of_row _ _ _ _ _ hb2; have HB2 := Lib.hid hb2; clear hb2))
  go_ret
  have hset := heap_setCell_same w2 b 1 _ _ (.slice a2 l2.length c2) HB2.out
  have own3 : OwnB (w2.setCell ⟨b, 1, none⟩ (.slice a2 l2.length c2)) (b + 1) a2 c2 l2 := hown2.kept (row := some b) ⟨rfl, rfl, rfl, by simp [World.setCell], fun k _ hne => Below.heap_setCell _ _ _ _ (fun e => hne (by rw [e]))⟩ (fun g hgo e => by cases e; have := (hown2.lt hgo).1; omega)
  have hWs := HWs.out
  refine ⟨rfl, a2, c2, l2, hl2, ⟨_, .inr rfl, hset, own3⟩, ⟨?_, ?_, ?_, ?_, ?_⟩, ?_⟩
  · exact hg2.os.trans hgrW.os
  · exact hg2.tape.trans hgrW.tape
  · exact hg2.output.trans hgrW.output
  · have := hg2.size; simp [World.setCell] at this ⊢; omega
  · intro k hk hkb hkr
    rw [Below.heap_setCell _ _ _ _ hkb, hg2.block k (by simp; omega) hkr, Below.heap_alloc _ _ _ (by omega), hgrW.block k hk (fun e => hkb (by cases e; rfl))]
  · intro g hgo
    rcases hat with e | e
    · left; rw [← e]; exact hgo
    · right; rw [e] at hgo; cases hgo; simp; omega

theorem builderString (b : Nat) (a : Option Addr) (c : Nat) (l : List UInt8) (w : World) (hB : Bld w b a c l) :
    Calls Tryz.prog 66 #[.pointer (some ⟨b, 0, none⟩)] w fun e w' => e = .returned (.string ⟨l.toArray⟩) ∧ Below b w w' := by
  have hlt := hB.lt
  obtain ⟨p, hp, hg, hown⟩ := hB
  have hl : (Lib.byteCells l).length = l.length := by simp [Lib.byteCells]
  have hAt : Lib.BuilderAt 89 5 b b p (Lib.byteCells l) w := by
    refine ⟨Nat.le_refl _, _, hg, ?_, fun e => by have := (hown.lt e).1; omega⟩
    rw [hl]
    unfold OwnB at hown
    refine ⟨hown.1, ?_⟩
    rcases hown.2 with h2 | ⟨g, cap, cur, hv, hb, r⟩
    · exact .inl h2
    · exact .inr ⟨g, cap, cur, hv, by omega, r⟩
  refine Tryz.Builder_String_any b b l w ?_ (by omega)
  rcases hp with rfl | rfl
  · exact .inl hAt
  · exact .inr hAt

end Go.Proofs.YtgnillmhpockkaaGreatDoor

namespace Go.Proofs.YtgnillmhpockkaaGreatDoor
open Go.RowKit

def QAns (w : World) (g : Nat) (s : ByteArray) (k : Nat) (y : UInt8) (e : Ending) (w' : World) : Prop :=
  (∃ x, quoted y (s.data.toList.drop (k + 1)) = some x ∧ e = .returned (.tuple #[.string ⟨x.1.toArray⟩, .bool true]) ∧ Moved w g s (k + 1 + x.2) w') ∨
  (quoted y (s.data.toList.drop (k + 1)) = none ∧ e = .returned (.tuple #[.string ⟨#[]⟩, .bool false]) ∧ Moved w g s s.size w')

theorem LexS.wrote {w w' : World} {g : Nat} {s : ByteArray} {k : Nat} (h : LexS w g s k) {b : Nat} {a : Option Addr} {c : Nat} {l : List UInt8} (hB : Bld w b a c l) (hg : g < b) (hw : Wrote b (Value.slice a l.length c).ownBlock w w') : LexS w' g s k := by
  obtain ⟨cs, hc, r⟩ := h.ex
  exact ⟨cs, (hw.block g (heap_lt hc) (by omega) (fun e => by have := (hB.own.lt e.symm).1; omega)).trans hc, r⟩

/-- Of what lay below b, block g alone has turned. -/
def Only (w : World) (b g : Nat) (w' : World) : Prop := w'.os = w.os ∧ w'.tape = w.tape ∧ w'.output = w.output ∧ b ≤ w'.heap.size ∧ ∀ k, k < b → k ≠ g → w'.heap[k]? = w.heap[k]?

theorem Only.wrote {w w1 w2 : World} {b g : Nat} (h : Only w b g w1) {a : Option Addr} {c : Nat} {l : List UInt8} (hB : Bld w1 b a c l) (hw : Wrote b (Value.slice a l.length c).ownBlock w1 w2) : Only w b g w2 := by
  obtain ⟨h1, h2, h3, h4, h5⟩ := h
  have hlt := hB.lt
  exact ⟨hw.os.trans h1, hw.tape.trans h2, hw.output.trans h3, Nat.le_trans h4 hw.size, fun k hk hne => (hw.block k (by omega) (by omega) (fun e => by have := (hB.own.lt e.symm).1; omega)).trans (h5 k hk hne)⟩
theorem Only.set {w w1 : World} {b g : Nat} (h : Only w b g w1) (v : Value) : Only w b g (w1.setCell ⟨g, 1, none⟩ v) := by
  obtain ⟨h1, h2, h3, h4, h5⟩ := h
  exact ⟨h1, h2, h3, by simpa [World.setCell] using h4, fun k hk hne => (Below.heap_setCell _ _ _ _ hne).trans (h5 k hk hne)⟩
theorem Only.below {w w1 w2 : World} {b g : Nat} (h : Only w b g w1) (hb : Below b w1 w2) : Only w b g w2 := by
  obtain ⟨h1, h2, h3, h4, h5⟩ := h
  exact ⟨hb.os.trans h1, hb.tape.trans h2, hb.output.trans h3, Nat.le_trans h4 hb.size, fun k hk hne => (hb.block k hk).trans (h5 k hk hne)⟩
theorem Only.moved {w w1 : World} {g : Nat} (h : Only w w.heap.size g w1) {s : ByteArray} {m : Nat} (hl : LexS w1 g s m) : Moved w g s m w1 := by
  obtain ⟨h1, h2, h3, h4, h5⟩ := h
  exact ⟨hl, h1, h2, h3, h4, fun k hk hne => h5 k hk (fun e => hne (by rw [e]))⟩
theorem Bld.set {w : World} {b g : Nat} {a : Option Addr} {c : Nat} {l : List UInt8} (h : Bld w b a c l) (hg : g < b) (v : Value) : Bld (w.setCell ⟨g, 1, none⟩ v) b a c l :=
  h.grown (setGrown w g v) (fun e => by cases e; omega) (fun x hx e => by cases e; have := (h.own.lt hx).1; omega)

theorem qsome {o : Option (List UInt8 × Nat)} {l : List UInt8} {m k : Nat} (h : o = qShift l (m - (k + 1)) (some ([], 1))) : o = some (l, m - (k + 1) + 1) := by rw [h]; simp [qShift]

set_option maxRecDepth 100000 in
set_option maxHeartbeats 4000000 in
theorem implQuoted {w : World} {g : Nat} {s : ByteArray} {k : Nat} (h : LexS w g s k) (y : UInt8) (hs : s.size ≤ 1048576) (hk : k < s.size) :
    Calls Tryz.prog 76 #[.pointer (some ⟨g, 0, none⟩), .int .u8 (y.toNat : Int)] w (QAns w g s k y) := by
  have hy := byte_le y
  have hlt := h.lt
  have c1 := h.c1
  have f1 := h.f1
  have hsz : (w.setCell ⟨g, 1, none⟩ (.int .i64 ((k : Int) + 1))).heap.size = w.heap.size := by simp [World.setCell]
  have hL0 : LexS (w.setCell ⟨g, 1, none⟩ (.int .i64 ((k : Int) + 1))) g s (k + 1) := by have := h.set (k + 1); simpa using this
  have ha := (Below.refl (w.setCell ⟨g, 1, none⟩ (.int .i64 ((k : Int) + 1))).heap.size (w.setCell ⟨g, 1, none⟩ (.int .i64 ((k : Int) + 1)))).alloc (Nat.le_refl _) (.cells #[.pointer none, .slice none 0 0] 89)
  have HL := Lib.hid (hL0.below ha hL0.lt)
  have HB : Hid (Bld ((w.setCell ⟨g, 1, none⟩ (.int .i64 ((k : Int) + 1))).alloc (.cells #[.pointer none, .slice none 0 0] 89)) w.heap.size none 0 []) := by
    have := Bld.new (w.setCell ⟨g, 1, none⟩ (.int .i64 ((k : Int) + 1)))
    rw [hsz] at this
    exact this
  have HO : Hid (Only w w.heap.size g ((w.setCell ⟨g, 1, none⟩ (.int .i64 ((k : Int) + 1))).alloc (.cells #[.pointer none, .slice none 0 0] 89))) :=
    Only.below (Only.set ⟨rfl, rfl, rfl, Nat.le_refl _, fun j _ _ => rfl⟩ _) (hsz ▸ ha)
  clear hL0 h ha hsz
  go_enter Tryz.func76, Tryz.ntmps76
  go_wp2_with fail
  go_loopg [] (s.size - (k + 1)) (fun gk wr => ∃ (m : Nat) (a : Option Addr) (c : Nat) (l : List UInt8), gk = s.size - m ∧ k + 1 ≤ m ∧ m ≤ s.size ∧ l.length ≤ m ∧ LexS wr g s m ∧ Bld wr w.heap.size a c l ∧ Only w w.heap.size g wr ∧ Hid (quoted y (s.data.toList.drop (k + 1)) = qShift l (m - (k + 1)) (quoted y (s.data.toList.drop m))))
  case atStart =>
    refine ⟨k + 1, none, 0, [], rfl, Nat.le_refl _, hk, Nat.zero_le _, HL.out, HB.out, HO.out, ?_⟩
    unfold Hid
    rw [Nat.sub_self]
    cases quoted y (s.data.toList.drop (k + 1)) <;> simp [qShift]
  case round =>
    obtain ⟨m, a, c, l, rfl, hkm, hm, hll, hL, hB, hO, hq⟩ := hrel
    have h0m : (0 : Int) ≤ (m : Int) := by omega
    by_cases hlm : m < s.size
    · have hby := byte_le s[m]
      have hlm' : (m : Int) < (s.size : Int) := by omega
      have HMO : Hid (decide (m < s.size) = true) := decide_eq_true hlm
      have HLr := Lib.hid hL
      clear hL
      go_wp2_with fail
      refine (implMore HLr.out hs (by omega) true HMO.out).mono ?_
      rintro e w1 ⟨rfl, n1, hw1⟩
      have hL1 : LexS w1 g s m := hw1 ▸ HLr.out.drewN n1
      have hb1 : Below wr.heap.size wr w1 := hw1 ▸ below_drewN (Below.refl _ _) n1
      have hB1 := hB.below hb1
      have hO1 := hO.below (hb1.mono hO.2.2.2.1)
      have c0 := hL1.c0
      have c1 := hL1.c1
      have f1 := hL1.f1
      have HL1 := Lib.hid hL1
      clear hw1 hb1 hB hO HLr hL1
      by_cases he : s[m] = y
      · have T1 := byte_eq he
        have HE := Lib.hid he
        clear he
        go_wp2_with fail
        go_quiet (fail)
        go_wp2_with fail
        have hL2 : LexS ((w1.drewN nq).setCell ⟨g, 1, none⟩ (.int .i64 ((m : Int) + 1))) g s (m + 1) := by have := (HL1.out.drewN nq).set (m + 1); simpa using this
        have hB2 : Bld ((w1.drewN nq).setCell ⟨g, 1, none⟩ (.int .i64 ((m : Int) + 1))) w.heap.size a c l := (hB1.below (below_drewN (Below.refl _ _) nq)).set hlt _
        have hO2 : Only w w.heap.size g ((w1.drewN nq).setCell ⟨g, 1, none⟩ (.int .i64 ((m : Int) + 1))) := (hO1.below (below_drewN (Below.refl w.heap.size w1) nq)).set _
        generalize (w1.drewN nq).setCell ⟨g, 1, none⟩ (.int .i64 ((m : Int) + 1)) = W2 at *
        have d0 := hL2.c0
        have d1 := hL2.c1
        have e1 := hL2.f1
        have HL2 := Lib.hid hL2
        have HB2 := Lib.hid hB2
        have HO2 := Lib.hid hO2
        clear hL2 hB2 hO2 hB1 hO1 c0 c1 f1 HL1
        simp only [Int.natCast_add, Int.cast_ofNat_Int] at d1
        have h0m1 : (0 : Int) ≤ (m : Int) + 1 := by omega
        have htn : ((m : Int) + 1).toNat = m + 1 := by omega
        by_cases h1 : m + 1 < s.size
        · have hby1 := byte_le s[m + 1]
          have h1' : (m : Int) + 1 < (s.size : Int) := by omega
          have HM1 : Hid (decide (m + 1 < s.size) = true) := decide_eq_true h1
          by_cases hc : s[m + 1] = y
          · have T2 := byte_bneF hc
            have HQ := Lib.hid (quoted_two_at s y m hlm HE.out h1 hc)
            clear hc
            go_quiet ((go_at_call 44; exact Calls.quiet_of (implMore (HL2.out.drewN _) hs (by omega) true HM1.out)))
            go_wp2_with fail
            refine (writeByte w.heap.size a c l s[m] _ (HB2.out.below (below_drewN (Below.refl _ _) _)) (by omega)).mono ?_
            rintro e w3 ⟨rfl, a3, c3, l3, hl3, hB3, hW3, _⟩
            have hL3 := (HL2.out.drewN _).wrote (HB2.out.below (below_drewN (Below.refl _ _) _)) hlt hW3
            have hO3 := (HO2.out.below (below_drewN (Below.refl w.heap.size _) _)).wrote (HB2.out.below (below_drewN (Below.refl _ _) _)) hW3
            have c13 := hL3.c1
            have f13 := hL3.f1
            have hL4 : LexS (w3.setCell ⟨g, 1, none⟩ (.int .i64 (((m : Int) + 1) + 1))) g s (m + 2) := by have := hL3.set (m + 2); simpa [Int.add_assoc] using this
            have HL4 := Lib.hid hL4
            have HB4 := Lib.hid (hB3.set hlt (.int .i64 (((m : Int) + 1) + 1)))
            have HO4 := Lib.hid (hO3.set (.int .i64 (((m : Int) + 1) + 1)))
            clear hL3 hO3 hL4 hW3
            go_wp2_with fail
            go_roundg (s.size - (m + 2))
            case measure => omega
            case rel => exact ⟨m + 2, a3, c3, l3, rfl, by omega, by omega, by rw [hid_len hl3]; omega, HL4.out, HB4.out, HO4.out, by unfold Hid; rw [hq.out, HQ.out, qShift_shift, hl3.out, show m + 2 - (k + 1) = m - (k + 1) + 2 by omega]⟩
          · have T2 := byte_bneT hc
            have HQ := Lib.hid (quoted_end_at s y m hlm HE.out (.inr ⟨h1, hc⟩))
            clear hc
            go_quiet ((go_at_call 44; exact Calls.quiet_of (implMore (HL2.out.drewN _) hs (by omega) true HM1.out)))
            go_wp2_with fail
            refine (builderString w.heap.size a c l _ (HB2.out.below (below_drewN (Below.refl _ _) _))).mono ?_
            rintro e w4 ⟨rfl, hb4⟩
            have hQ := qsome (hq.out.trans (by rw [HQ.out]))
            go_wp2_with fail
            go_ret2
            refine .inl ⟨_, hQ, rfl, ?_⟩
            have hL4 := (HL2.out.drewN _).below hb4 hlt
            have hO4 := (HO2.out.below (below_drewN (Below.refl w.heap.size _) _)).below hb4
            show Moved w g s (k + 1 + (m - (k + 1) + 1)) _
            rw [show k + 1 + (m - (k + 1) + 1) = m + 1 by omega]
            exact hO4.moved hL4
        · have HM1 : Hid (decide (m + 1 < s.size) = false) := decide_eq_false h1
          have HQ := Lib.hid (quoted_end_at s y m hlm HE.out (.inl (by omega)))
          go_quiet ((go_at_call 44; exact Calls.quiet_of (implMore (HL2.out.drewN _) hs (by omega) false HM1.out)))
          go_wp2_with fail
          refine (builderString w.heap.size a c l _ (HB2.out.below (below_drewN (Below.refl _ _) _))).mono ?_
          rintro e w4 ⟨rfl, hb4⟩
          have hQ := qsome (hq.out.trans (by rw [HQ.out]))
          go_wp2_with fail
          go_ret2
          refine .inl ⟨_, hQ, rfl, ?_⟩
          have hL4 := (HL2.out.drewN _).below hb4 hlt
          have hO4 := (HO2.out.below (below_drewN (Below.refl w.heap.size _) _)).below hb4
          show Moved w g s (k + 1 + (m - (k + 1) + 1)) _
          rw [show k + 1 + (m - (k + 1) + 1) = m + 1 by omega]
          exact hO4.moved hL4
      · have T1 := byte_ne he
        have HQ := Lib.hid (quoted_ne_at s y m hlm he)
        clear he
        go_wp2_with fail
        go_quiet (fail)
        go_wp2_with fail
        refine (writeByte w.heap.size a c l s[m] _ (hB1.below (below_drewN (Below.refl _ _) _)) (by omega)).mono ?_
        rintro e w3 ⟨rfl, a3, c3, l3, hl3, hB3, hW3, _⟩
        have hL3 := (HL1.out.drewN _).wrote (hB1.below (below_drewN (Below.refl _ _) _)) hlt hW3
        have hO3 := (hO1.below (below_drewN (Below.refl w.heap.size _) _)).wrote (hB1.below (below_drewN (Below.refl _ _) _)) hW3
        have c13 := hL3.c1
        have f13 := hL3.f1
        have hL4 : LexS (w3.setCell ⟨g, 1, none⟩ (.int .i64 ((m : Int) + 1))) g s (m + 1) := by have := hL3.set (m + 1); simpa [Int.add_assoc] using this
        have HL4 := Lib.hid hL4
        have HB4 := Lib.hid (hB3.set hlt (.int .i64 ((m : Int) + 1)))
        have HO4 := Lib.hid (hO3.set (.int .i64 ((m : Int) + 1)))
        clear hL3 hO3 hL4 hW3
        go_wp2_with fail
        go_roundg (s.size - (m + 1))
        case measure => omega
        case rel => exact ⟨m + 1, a3, c3, l3, rfl, by omega, by omega, by rw [hid_len hl3]; omega, HL4.out, HB4.out, HO4.out, by unfold Hid; rw [hq.out, HQ.out, qShift_shift, hl3.out, show m + 1 - (k + 1) = m - (k + 1) + 1 by omega]⟩
    · have HMO : Hid (decide (m < s.size) = false) := decide_eq_false hlm
      have hme : m = s.size := by omega
      have HQ : Hid (quoted y (s.data.toList.drop (k + 1)) = none) := by
        unfold Hid
        rw [hq.out, hme, quoted_none_at]
        rfl
      subst hme
      go_wp2_with fail
      refine (implMore hL hs (by omega) false HMO.out).mono ?_
      rintro e w1 ⟨rfl, n1, rfl⟩
      go_wp2_with fail
      go_ret2
      exact .inr ⟨HQ.out, rfl, (hO.moved hL).drewN n1⟩

end Go.Proofs.YtgnillmhpockkaaGreatDoor

namespace Go.Proofs.YtgnillmhpockkaaGreatDoor
open Go.RowKit

theorem hasPair (s : ByteArray) (k : Nat) (hk : k < s.size) (a b : UInt8) : Lib.hasPrefix (s.data.toList.drop k) [a, b] = if h : k + 1 < s.size then (s[k] == a && s[k + 1] == b) else false := by
  have e : ∀ x y : UInt8, (x == y) = (y == x) := fun x y => by rw [Bool.eq_iff_iff]; simp only [beq_iff_eq]; exact eq_comm
  unfold Lib.hasPrefix
  rw [drop_at s k hk, List.isPrefixOf_cons_cons, e]
  split
  · rename_i h1
    rw [drop_at s (k + 1) h1, List.isPrefixOf_cons_cons, e b]
    simp
  · rename_i h1
    rw [List.drop_of_length_le (by simp; omega)]
    simp

/-- What a sign leaves. -/
def SignAns (w : World) (g : Nat) (s : ByteArray) (k : Nat) (e : Ending) (w' : World) : Prop :=
  e = .returned (.string (s.extract k (k + signN (s.data.toList.drop k)))) ∧ Moved w g s (k + signN (s.data.toList.drop k)) w'

theorem signTwo (s : ByteArray) (k : Nat) (hk : k < s.size) (v1 v2 v3 : Bool) (h1 : Lib.hasPrefix (s.data.toList.drop k) [60, 61] = v1) (h2 : Lib.hasPrefix (s.data.toList.drop k) [62, 61] = v2) (h3 : Lib.hasPrefix (s.data.toList.drop k) [60, 62] = v3) (hs : signB s[k] = true) :
    signN (s.data.toList.drop k) = if v1 || v2 || v3 then 2 else 1 := by
  subst h1 h2 h3
  rw [hasPair s k hk, hasPair s k hk, hasPair s k hk]
  split
  · rename_i h1
    rcases twoCases s[k] s[k + 1] with ⟨t1, h2⟩ | ⟨t1, t2, h2⟩ | ⟨t1, t2, t3, h2⟩ | ⟨t1, t2, t3, h2⟩
    · rw [signN_two_at s k h1 h2, t1]; rfl
    · rw [signN_two_at s k h1 h2, t1, t2]; rfl
    · rw [signN_two_at s k h1 h2, t1, t2, t3]; rfl
    · rw [signN_at s k hk (.inr ⟨h1, h2⟩), t1, t2, t3, if_pos hs]; rfl
  · rename_i h1
    rw [signN_at s k hk (.inl (by omega)), if_pos hs]; rfl

set_option maxHeartbeats 2000000 in
theorem implSign {w : World} {g : Nat} {s : ByteArray} {k : Nat} (h : LexS w g s k) (hs : s.size ≤ 1048576) (hk : k < s.size) (hsg : signB s[k] = true) :
    Calls Tryz.prog 77 #[.pointer (some ⟨g, 0, none⟩)] w (SignAns w g s k) := by
  have hlen := signN_len (s.data.toList.drop k)
  have hks : k + signN (s.data.toList.drop k) ≤ s.size := by
    rw [List.length_drop] at hlen
    have : s.data.toList.length = s.size := by simp
    omega
  cases h1 : Lib.hasPrefix (s.data.toList.drop k) [60, 61] with
  | true =>
    have HN := Lib.hid (signTwo s k hk true _ _ h1 rfl rfl hsg)
    simp only [Bool.true_or, if_true] at HN
    unfold SignAns
    rw [HN.out] at hks ⊢
    have H1 := Lib.hid h1
    have HM := Lib.hid (Moved.refl h)
    clear h1 hsg hlen h
    go_enter Tryz.func77, Tryz.ntmps77
    go_wp2_with fail
    refine (implBegins HM.out.1 ⟨#[60, 61]⟩ hs (by omega) true H1.out).mono ?_
    rintro e w1 ⟨rfl, n1, hw1⟩
    have mv1 : Moved w g s k w1 := hw1 ▸ HM.out.drewN n1
    clear hw1
    go_wp2_with fail
    refine (implTake mv1.1 2 hs hks).mono ?_
    rintro e w2 ⟨rfl, mv2⟩
    go_wp2_with fail
    go_ret
    exact ⟨rfl, mv1.trans mv2⟩
  | false =>
    cases h2 : Lib.hasPrefix (s.data.toList.drop k) [62, 61] with
    | true =>
      have HN := Lib.hid (signTwo s k hk false true _ h1 h2 rfl hsg)
      simp only [Bool.or_true, Bool.true_or, if_true] at HN
      unfold SignAns
      rw [HN.out] at hks ⊢
      have H1 := Lib.hid h1
      have H2 := Lib.hid h2
      have HM := Lib.hid (Moved.refl h)
      clear h1 h2 hsg hlen h
      go_enter Tryz.func77, Tryz.ntmps77
      go_wp2_with fail
      refine (implBegins HM.out.1 ⟨#[60, 61]⟩ hs (by omega) false H1.out).mono ?_
      rintro e w1 ⟨rfl, n1, hw1⟩
      have mv1 : Moved w g s k w1 := hw1 ▸ HM.out.drewN n1
      clear hw1
      go_wp2_with fail
      refine (implBegins mv1.1 ⟨#[62, 61]⟩ hs (by omega) true H2.out).mono ?_
      rintro e w2 ⟨rfl, n2, hw2⟩
      have mv2 : Moved w g s k w2 := hw2 ▸ mv1.drewN n2
      clear hw2
      go_wp2_with fail
      refine (implTake mv2.1 2 hs hks).mono ?_
      rintro e w3 ⟨rfl, mv3⟩
      go_wp2_with fail
      go_ret
      exact ⟨rfl, mv2.trans mv3⟩
    | false =>
      cases h3 : Lib.hasPrefix (s.data.toList.drop k) [60, 62] with
      | true =>
        have HN := Lib.hid (signTwo s k hk false false true h1 h2 h3 hsg)
        simp only [Bool.or_true, if_true] at HN
        unfold SignAns
        rw [HN.out] at hks ⊢
        have H1 := Lib.hid h1
        have H2 := Lib.hid h2
        have H3 := Lib.hid h3
        have HM := Lib.hid (Moved.refl h)
        clear h1 h2 h3 hsg hlen h
        go_enter Tryz.func77, Tryz.ntmps77
        go_wp2_with fail
        refine (implBegins HM.out.1 ⟨#[60, 61]⟩ hs (by omega) false H1.out).mono ?_
        rintro e w1 ⟨rfl, n1, hw1⟩
        have mv1 : Moved w g s k w1 := hw1 ▸ HM.out.drewN n1
        clear hw1
        go_wp2_with fail
        refine (implBegins mv1.1 ⟨#[62, 61]⟩ hs (by omega) false H2.out).mono ?_
        rintro e w2 ⟨rfl, n2, hw2⟩
        have mv2 : Moved w g s k w2 := hw2 ▸ mv1.drewN n2
        clear hw2
        go_wp2_with fail
        refine (implBegins mv2.1 ⟨#[60, 62]⟩ hs (by omega) true H3.out).mono ?_
        rintro e w3 ⟨rfl, n3, hw3⟩
        have mv3 : Moved w g s k w3 := hw3 ▸ mv2.drewN n3
        clear hw3
        go_wp2_with fail
        refine (implTake mv3.1 2 hs hks).mono ?_
        rintro e w4 ⟨rfl, mv4⟩
        go_wp2_with fail
        go_ret
        exact ⟨rfl, mv3.trans mv4⟩
      | false =>
        have HN := Lib.hid (signTwo s k hk false false false h1 h2 h3 hsg)
        simp only [Bool.or_false, Bool.false_eq_true, if_false] at HN
        unfold SignAns
        rw [HN.out] at hks ⊢
        have H1 := Lib.hid h1
        have H2 := Lib.hid h2
        have H3 := Lib.hid h3
        have HM := Lib.hid (Moved.refl h)
        clear h1 h2 h3 hsg hlen h
        go_enter Tryz.func77, Tryz.ntmps77
        go_wp2_with fail
        refine (implBegins HM.out.1 ⟨#[60, 61]⟩ hs (by omega) false H1.out).mono ?_
        rintro e w1 ⟨rfl, n1, hw1⟩
        have mv1 : Moved w g s k w1 := hw1 ▸ HM.out.drewN n1
        clear hw1
        go_wp2_with fail
        refine (implBegins mv1.1 ⟨#[62, 61]⟩ hs (by omega) false H2.out).mono ?_
        rintro e w2 ⟨rfl, n2, hw2⟩
        have mv2 : Moved w g s k w2 := hw2 ▸ mv1.drewN n2
        clear hw2
        go_wp2_with fail
        refine (implBegins mv2.1 ⟨#[60, 62]⟩ hs (by omega) false H3.out).mono ?_
        rintro e w3 ⟨rfl, n3, hw3⟩
        have mv3 : Moved w g s k w3 := hw3 ▸ mv2.drewN n3
        clear hw3
        go_wp2_with fail
        refine (implTake mv3.1 1 hs hks).mono ?_
        rintro e w4 ⟨rfl, mv4⟩
        go_wp2_with fail
        go_ret
        exact ⟨rfl, mv3.trans mv4⟩

/-- What the library's numerals lean on stands in the world. -/
def Glob (tp : TypeId) (p : Value) (W : World) : Prop := Lib.TabIs Tryz.prog W "internal/strconv.uint64pow10" .u64 Lib.pow10Tab ∧ W.var? Tryz.prog "strconv.ErrSyntax" = some #[.iface tp p]

theorem gPow7 : Tryz.prog.globalNamed "internal/strconv.uint64pow10" = some 7 := by kernel_rfl
theorem gSyn7 : Tryz.prog.globalNamed "strconv.ErrSyntax" = some 5 := by kernel_rfl

theorem Glob.below {tp : TypeId} {p : Value} {W W' : World} (h : Glob tp p W) {B : Nat} (hb : Below B W W') (hB : 8 ≤ B) : Glob tp p W' := by
  refine ⟨?_, ?_⟩
  · have h1 := h.1
    unfold Lib.TabIs World.var? at h1 ⊢
    rw [gPow7, Option.bind_some] at h1 ⊢
    rw [hb.block _ (by omega)]
    exact h1
  · have h1 := h.2
    unfold World.var? at h1 ⊢
    rw [gSyn7, Option.bind_some] at h1 ⊢
    rw [hb.block _ (by omega)]
    exact h1

theorem Moved.belowG {w w' : World} {g : Nat} {s : ByteArray} {m : Nat} (h : Moved w g s m w') (hg : g < w.heap.size) : Below g w w' :=
  ⟨h.2.os, h.2.tape, h.2.output, h.2.size, fun k hk => h.2.block k (by omega) (fun e => by cases e; omega)⟩

end Go.Proofs.YtgnillmhpockkaaGreatDoor

namespace Go.Proofs.YtgnillmhpockkaaGreatDoor
open Go.RowKit

/-- The tables that the reader looks into. -/
structure RG (tp : TypeId) (p : Value) (w : World) : Prop where
  forms : FormsAt w
  glob : Glob tp p w
  big : 8 ≤ w.heap.size

theorem RG.below {tp : TypeId} {p : Value} {w w' : World} (h : RG tp p w) {B : Nat} (hb : Below B w w') (hB : 8 ≤ B) : RG tp p w' :=
  ⟨h.forms.below hb (by omega), h.glob.below hb (by omega), Nat.le_trans h.big hb.size⟩

theorem RG.grown {tp : TypeId} {p : Value} {w w' : World} {rb : Nat} (h : RG tp p w) (hg : w.grownBy w' (some rb)) (hrb : 8 ≤ rb) : RG tp p w' :=
  h.below ((Below.refl _ _).grown hg h.big (fun k hk => by cases hk; exact hrb)) (Nat.le_refl _)

/-- An expression in memory, none of whose blocks is rb. -/
structure Tr (w : World) (rb : Nat) (e : Ex) (a : Option Addr) (c : Nat) : Prop where
  fit : e.fit
  kids : ∃ d, KidsQ (fun b => b ≠ rb) w d a c e.kids

theorem Tr.grown {w w' : World} {rb : Nat} {e : Ex} {a : Option Addr} {c : Nat} (h : Tr w rb e a c) (hg : w.grownBy w' (some rb)) : Tr w' rb e a c := by
  obtain ⟨d, hk⟩ := h.kids
  exact ⟨h.fit, d, hk.agree hg.size fun b hq hb o => cell_grown hg hb (fun e => hq (Option.some.inj e).symm) o⟩

theorem grown_of_below {w w' : World} (hb : Below w.heap.size w w') (row : Option Nat) : w.grownBy w' row := ⟨hb.os, hb.tape, hb.output, hb.size, fun k hk _ => hb.block k hk⟩

theorem Rd.below {w w' : World} {rb : Nat} {a : Option Addr} {c : Nat} {l : List Tk} {at_ : Nat} (h : Rd w rb a c l at_) (hb : Below w.heap.size w w') : Rd w' rb a c l at_ := by
  have hrb : rb < w.heap.size := by
    rcases Nat.lt_or_ge rb w.heap.size with h' | h'
    · exact h'
    · have := h.row; rw [Array.getElem?_eq_none h'] at this; cases this
  exact ⟨(hb.block rb hrb).trans h.row, h.tok.below hb, h.ne, h.len⟩

theorem Rd.lt {w : World} {rb : Nat} {a : Option Addr} {c : Nat} {l : List Tk} {at_ : Nat} (h : Rd w rb a c l at_) : rb < w.heap.size := by
  rcases Nat.lt_or_ge rb w.heap.size with h' | h'
  · exact h'
  · have := h.row; rw [Array.getElem?_eq_none h'] at this; cases this

theorem Stp.refl {w : World} {rb : Nat} {a : Option Addr} {c : Nat} {l : List Tk} {at_ : Nat} (h : Rd w rb a c l at_) : Stp w rb a c l at_ w := ⟨h, ⟨rfl, rfl, rfl, Nat.le_refl _, fun _ _ _ => rfl⟩⟩
theorem Stp.below {w w1 w2 : World} {rb : Nat} {a : Option Addr} {c : Nat} {l : List Tk} {at_ : Nat} (h : Stp w rb a c l at_ w1) (hb : Below w1.heap.size w1 w2) : Stp w rb a c l at_ w2 := ⟨h.rd.below hb, h.gr.trans (grown_of_below hb _)⟩
theorem Stp.trans {w w1 w2 : World} {rb : Nat} {a : Option Addr} {c : Nat} {l : List Tk} {at_ m : Nat} (h : Stp w rb a c l at_ w1) (h' : Stp w1 rb a c l m w2) : Stp w rb a c l m w2 := ⟨h'.rd, h.gr.trans h'.gr⟩
/-- A block that is new since w is written. -/
theorem Stp.store {w w1 : World} {rb : Nat} {a : Option Addr} {c : Nat} {l : List Tk} {at0 at_ : Nat} (h : Stp w rb a c l at_ w1) (h0 : Rd w rb a c l at0) {b : Nat} (hq : w.heap.size ≤ b) (o : Nat) (v : Value) : Stp w rb a c l at_ (w1.setCell ⟨b, o, none⟩ v) := by
  have hb : Below w.heap.size w1 (w1.setCell ⟨b, o, none⟩ v) := (Below.refl _ _).setCell hq v
  refine ⟨⟨?_, ?_, h.rd.ne, h.rd.len⟩, grown_any h.gr (setCell_grown w1 b o v) (fun j hj => by cases hj; exact hq)⟩
  · rw [hb.block rb h0.lt]; exact h.rd.row
  · obtain ⟨h1, h2, h3, h4, h5⟩ := h.rd.tok
    refine ⟨h1, h2, h3, h4, fun hp => ?_⟩
    obtain ⟨b1, off, ha, hlt, hc⟩ := h5 hp
    obtain ⟨b2, off2, ha2, hlt2, _⟩ := h0.tok.2.2.2.2 hp
    rw [ha] at ha2
    cases ha2
    have e := fun o => hb.cell (p := ⟨b1, o, none⟩) hlt2
    exact ⟨b1, off, ha, by simpa [World.setCell] using hlt, fun i hi => ⟨(e _).trans (hc i hi).1, (e _).trans (hc i hi).2.1, (e _).trans (hc i hi).2.2⟩⟩

/-- The reader's own place is written. -/
theorem Stp.to {w w1 : World} {rb : Nat} {a : Option Addr} {c : Nat} {l : List Tk} {at_ : Nat} (h : Stp w rb a c l at_ w1) (m : Nat) : Stp w rb a c l m (w1.setCell ⟨rb, 1, none⟩ (.int .i64 (m : Int))) :=
  ⟨h.rd.set m, h.gr.trans (setCell_grown w1 rb 1 _)⟩

theorem below_drewN0' (w : World) (n : Nat) : Below w.heap.size w (w.drewN n) := below_drewN (Below.refl _ _) n

theorem readD_fits (l : List UInt8) : i64E (readD l) := by
  unfold readD i64E
  split
  · omega
  · cases hd : Lib.decNat l with
    | none => simp only; omega
    | some m =>
      have := Lib.decFrom_lt18 (Lib.decNat_some hd).2 (by omega : l.length ≤ 18)
      simp only
      split <;> omega

/-- What leaf answers. -/
def LeafR (w : World) (rb : Nat) (a : Option Addr) (c : Nat) (l : List Tk) (at_ : Nat) (x : Ending) (w' : World) : Prop :=
  match leafI (left l at_) with
  | some (e, r) => e.kids = [] ∧ e.fit ∧ r = left l (at_ + 1) ∧ at_ < l.length ∧ x = .returned (.tuple #[.agg #[.int .i64 e.kind, .string e.text, .int .i64 e.num, .slice none 0 0], .bool true]) ∧ Stp w rb a c l (at_ + 1) w'
  | none => ∃ m, x = .returned (.tuple #[.agg #[.int .i64 0, .string ⟨#[]⟩, .int .i64 0, .slice none 0 0], .bool false]) ∧ Stp w rb a c l m w'

theorem left_cons {l : List Tk} {at_ : Nat} (h : at_ < l.length) : left l at_ = (l[at_].kind, l[at_].text.data.toList) :: left l (at_ + 1) := by
  unfold left
  rw [List.drop_eq_getElem_cons h]
  rfl

theorem left_end {l : List Tk} {at_ : Nat} (h : ¬ at_ < l.length) : left l at_ = [] := by
  unfold left
  rw [List.drop_eq_nil_of_le (by omega)]
  rfl

theorem leafFit {k n : Int} {t : ByteArray} (ht : t.size ≤ maxLen) (hk : i64E k) (hn : i64E n) : (Ex.mk k t n []).fit := ⟨ht, hk, hn⟩

theorem leaf_word {kk : Int} {t : List UInt8} {r : List W} (h : kk = 0) : leafI ((kk, t) :: r) = match wordLeafI t with | some e => some (e, r) | none => none := by
  subst h
  rw [leafI]
  rfl

theorem word_fit {t : ByteArray} {e : Ex} (h : wordLeafI t.data.toList = some e) (ht : t.size ≤ maxLen) : e.fit := by
  have hz : (0 : Nat) ≤ maxLen := Nat.zero_le _
  unfold wordLeafI at h
  split at h
  · cases h; exact ⟨hz, by unfold i64E Ex.kind leaf; simp, by unfold i64E Ex.num leaf; simp⟩
  · split at h
    · cases h; exact ⟨hz, by unfold i64E Ex.kind leaf; simp, by unfold i64E Ex.num leaf; simp⟩
    · split at h
      · cases h; exact ⟨hz, by unfold i64E Ex.kind leaf; simp, by unfold i64E Ex.num leaf; simp⟩
      · split at h
        · cases h
        · cases h
          refine ⟨?_, by unfold i64E Ex.kind leaf; simp, by unfold i64E Ex.num leaf; simp⟩
          show (txt t.data.toList).size ≤ maxLen
          rw [txt_data]
          exact ht

set_option maxRecDepth 100000 in
set_option maxHeartbeats 4000000 in
theorem rdLeaf {w : World} {rb : Nat} {a : Option Addr} {c : Nat} {l : List Tk} {at_ : Nat} {tp : TypeId} {p : Value} (h : Rd w rb a c l at_) (hat : at_ ≤ 2000000) (hG : RG tp p w) (hrb : 8 ≤ rb) :
    Calls Tryz.prog 107 #[.pointer (some ⟨rb, 0, none⟩)] w (LeafR w rb a c l at_) := by
  have hl := h.len
  have hb0 : Below w.heap.size w (w.alloc (.cells #[.int .i64 0, .string ⟨#[]⟩, .int .i64 0, .slice none 0 0] 32)) := (Below.refl _ _).alloc (Nat.le_refl _) _
  have HS0 : Hid (Stp w rb a c l at_ (w.alloc (.cells #[.int .i64 0, .string ⟨#[]⟩, .int .i64 0, .slice none 0 0] 32))) := (Stp.refl h).below hb0
  have HR0 := Lib.hid (exRow_new w 0 ⟨#[]⟩ 0 (.slice none 0 0))
  have HG := Lib.hid hG
  have HRD := Lib.hid h
  have HZ : Hid ((w.alloc (.cells #[.int .i64 0, .string ⟨#[]⟩, .int .i64 0, .slice none 0 0] 32)).heap.size = w.heap.size + 1) := size_allocE _ _
  have hrbl := h.lt
  clear h hG hb0
  by_cases hlt : at_ < l.length
  · have hge : decide (l.length ≤ at_) = false := decide_eq_false (by omega)
    have hi0 : (0 : Int) ≤ (at_ : Int) := by omega
    have hi1 : (at_ : Int) < (l.length : Int) := by omega
    go_enter Tryz.func107, Tryz.ntmps107
    go_wp2_with fail
    generalize w.alloc (.cells #[.int .i64 0, .string ⟨#[]⟩, .int .i64 0, .slice none 0 0] 32) = W0 at HS0 HR0 HZ ⊢
    obtain ⟨r0, r1, rf⟩ := HS0.out.rd.cells
    go_quiet (fail)
    have HS1 := Lib.hid (HS0.out.below (below_drewN0' W0 nq))
    have HR1 : Hid (ExRow (W0.drewN nq) w.heap.size 0 ⟨#[]⟩ 0 (.slice none 0 0)) := HR0.out
    have HZ1 : Hid ((W0.drewN nq).heap.size = w.heap.size + 1) := HZ.out
    clear r0 r1 rf
    generalize W0.drewN nq = W1 at HS1 HR1 HZ1 ⊢
    obtain ⟨r0, r1, rf⟩ := HS1.out.rd.cells
    obtain ⟨tb, off, rfl, hbl, t0, t1, t2⟩ := HS1.out.rd.tok.spot hlt
    have HLC := Lib.hid (left_cons hlt)
    have HFT := Lib.hid (HRD.out.tok.2.2.1 l[at_] (List.getElem_mem hlt))
    generalize l[at_].kind = kk at t0 HLC HFT
    generalize l[at_].text = tt at t1 HLC HFT
    generalize l[at_].at_ = ta at t2 HFT
    have HBz := Lib.hid (show Below W1.heap.size W1 (W1.alloc (.cells #[.int .i64 0, .string ⟨#[]⟩, .int .i64 0] 36)) from (Below.refl _ _).alloc (Nat.le_refl _) _)
    have hrbW := HS1.out.rd.lt
    have r0a := (HBz.out.cell (p := ⟨rb, 0, none⟩) hrbW).trans r0
    have r1a := (HBz.out.cell (p := ⟨rb, 1, none⟩) hrbW).trans r1
    have t0a := (HBz.out.cell (p := ⟨tb, off + at_ * 3, none⟩) hbl).trans t0
    have t1a := (HBz.out.cell (p := ⟨tb, off + at_ * 3 + 1, none⟩) hbl).trans t1
    have t2a := (HBz.out.cell (p := ⟨tb, off + at_ * 3 + 2, none⟩) hbl).trans t2
    have HB3 := Lib.hid (show Below W1.heap.size W1 (W1.alloc (.cells #[.int .i64 kk, .string tt, .int .i64 ta] 36)).drew from below_drew ((Below.refl _ _).alloc (Nat.le_refl _) _))
    have HK3 : Hid ((W1.alloc (.cells #[.int .i64 kk, .string tt, .int .i64 ta] 36)).drew.heap[W1.heap.size]? = some (.cells #[.int .i64 kk, .string tt, .int .i64 ta] 36 (0, 0))) := heap_alloc_new _ _
    have hne2 : W1.heap.size ≠ rb := by omega
    go_wp2_with fail
    go_region
    all_goals
      clear r0a r1a t0a t1a t2a r0 r1 rf t0 t1 t2 HBz
      have HS3 := Lib.hid (HS1.out.below HB3.out)
      have HR3 := Lib.hid (HR1.out.below HB3.out)
      clear HB3 hbl hrbW
      generalize htk : W1.heap.size = TB at *
      generalize (W1.alloc (.cells #[.int .i64 kk, .string tt, .int .i64 ta] 36)).drew = W2 at HS3 HR3 HK3 ⊢
      clear htk
      obtain ⟨r0, r1, rf⟩ := HS3.out.rd.cells
      have k0 : ∀ v, (W2.setCell ⟨rb, 1, none⟩ v).cell? ⟨TB, 0, none⟩ = some (.int .i64 kk) := by
        intro v
        rw [World.cell?_setCell_other _ _ _ _ (by intro e; cases e), cell_of_row _ _ _ _ _ _ HK3.out]
        rfl
      have k1 : ∀ v, (W2.setCell ⟨rb, 1, none⟩ v).cell? ⟨TB, 1, none⟩ = some (.string tt) := by
        intro v
        rw [World.cell?_setCell_other _ _ _ _ (by intro e; cases e; exact hne2 rfl), cell_of_row _ _ _ _ _ _ HK3.out]
        rfl
      have hne : rb ≠ w.heap.size := by omega
      have HS4 := Lib.hid (HS3.out.to (at_ + 1))
      have HR4 := Lib.hid (HR3.out.setO hne 1 (.int .i64 ((at_ : Int) + 1)))
      have HG4 := Lib.hid (HG.out.grown HS4.out.gr hrb)
      cases e0 : (kk == 0) with
      | true =>
        go_wp2_with fail
        refine (rdWordLeaf tt _ HG4.out.forms).mono ?_
        rintro x w5 ⟨hb5, hx⟩
        have HS5 := Lib.hid (HS4.out.below hb5)
        have HR5 := Lib.hid (HR4.out.below hb5)
        clear hb5 r0 r1 rf
        cases hwl : wordLeafI tt.data.toList with
        | none =>
          rw [hwl] at hx
          have HO : Hid (leafI (left l at_) = none) := by unfold Hid; rw [HLC.out, leaf_word (by simpa using e0), hwl]
          clear hwl
          subst hx
          obtain ⟨b0, b1, b2, b3, bf⟩ := HR5.out.cells
          go_wp2_with fail
          refine bodyPost_ret (v := .tuple #[.agg #[.int .i64 0, .string ⟨#[]⟩, .int .i64 0, .slice none 0 0], .bool false]) (by simp [results, Tryz.results107, go_sem, b0, b1, b2, b3]) rfl ?_
          unfold LeafR
          rw [HO.out]
          exact ⟨at_ + 1, rfl, (((HS5.out.store HRD.out (Nat.le_refl _) 0 _).store HRD.out (Nat.le_refl _) 1 _).store HRD.out (Nat.le_refl _) 2 _).store HRD.out (Nat.le_refl _) 3 _⟩
        | some e =>
          rw [hwl] at hx
          obtain ⟨hkid, rfl⟩ := hx
          have HO : Hid (leafI (left l at_) = some (e, left l (at_ + 1))) := by unfold Hid; rw [HLC.out, leaf_word (by simpa using e0), hwl]
          have HFI := Lib.hid (word_fit hwl HFT.out.2.1)
          have HKI := Lib.hid hkid
          clear hwl hkid
          obtain ⟨b0, b1, b2, b3, bf⟩ := HR5.out.cells
          go_wp2_with fail
          refine bodyPost_ret (v := .tuple #[.agg #[.int .i64 e.kind, .string e.text, .int .i64 e.num, .slice none 0 0], .bool true]) (by simp [results, Tryz.results107, go_sem, b0, b1, b2, b3]) rfl ?_
          unfold LeafR
          rw [HO.out]
          exact ⟨HKI.out, HFI.out, rfl, hlt, rfl, (((HS5.out.store HRD.out (Nat.le_refl _) 0 _).store HRD.out (Nat.le_refl _) 1 _).store HRD.out (Nat.le_refl _) 2 _).store HRD.out (Nat.le_refl _) 3 _⟩
      | false =>
        cases e1 : (kk == 1) with
        | true =>
          have HO : Hid (leafI (left l at_) = some (.mk 0 tt 0 [], left l (at_ + 1))) := by
            unfold Hid
            rw [HLC.out, leafI]
            have h0 : kk ≠ 0 := by simpa using e0
            have h1 : kk = 1 := by simpa using e1
            simp only [h1, leaf, txt_data]
            rfl
          have HFI : Hid ((Ex.mk 0 tt 0 []).fit) := leafFit HFT.out.2.1 (by unfold i64E; omega) (by unfold i64E; omega)
          obtain ⟨b0, b1, b2, b3, bf⟩ := HR4.out.cells
          go_wp2_with fail
          refine bodyPost_ret (v := .tuple #[.agg #[.int .i64 0, .string tt, .int .i64 0, .slice none 0 0], .bool true]) (by simp [results, Tryz.results107, go_sem, b0, b1, b2, b3]) rfl ?_
          unfold LeafR
          rw [HO.out]
          exact ⟨rfl, HFI.out, rfl, hlt, rfl, (((HS4.out.store HRD.out (Nat.le_refl _) 0 _).store HRD.out (Nat.le_refl _) 1 _).store HRD.out (Nat.le_refl _) 2 _).store HRD.out (Nat.le_refl _) 3 _⟩
        | false =>
          cases e2 : (kk == 2) with
          | true =>
            have HO : Hid (leafI (left l at_) = some (.mk 1 ⟨#[]⟩ (readD tt.data.toList) [], left l (at_ + 1))) := by
              unfold Hid
              rw [HLC.out, leafI]
              have h1 : kk = 2 := by simpa using e2
              simp only [h1, leaf]
              rfl
            have HFI : Hid ((Ex.mk 1 ⟨#[]⟩ (readD tt.data.toList) []).fit) := leafFit (by unfold maxLen; decide) (by unfold i64E; omega) (readD_fits _)
            go_wp2_with fail
            refine (implReadDec tt _ HG4.out.glob.1 tp p HG4.out.glob.2).mono ?_
            rintro x w5 ⟨rfl, hb5⟩
            have HS5 := Lib.hid (HS4.out.below hb5)
            have HR5 := Lib.hid (HR4.out.below hb5)
            clear hb5 r0 r1 rf
            generalize readD tt.data.toList = rd at HO HFI ⊢
            obtain ⟨b0, b1, b2, b3, bf⟩ := HR5.out.cells
            go_wp2_with fail
            refine bodyPost_ret (v := .tuple #[.agg #[.int .i64 1, .string ⟨#[]⟩, .int .i64 rd, .slice none 0 0], .bool true]) (by simp [results, Tryz.results107, go_sem, b0, b1, b2, b3]) rfl ?_
            unfold LeafR
            rw [HO.out]
            exact ⟨rfl, HFI.out, rfl, hlt, rfl, (((HS5.out.store HRD.out (Nat.le_refl _) 0 _).store HRD.out (Nat.le_refl _) 1 _).store HRD.out (Nat.le_refl _) 2 _).store HRD.out (Nat.le_refl _) 3 _⟩
          | false =>
            cases e3 : (kk == 3) with
            | true =>
              have HO : Hid (leafI (left l at_) = some (.mk 2 tt 0 [], left l (at_ + 1))) := by
                unfold Hid
                rw [HLC.out, leafI]
                have h1 : kk = 3 := by simpa using e3
                simp only [h1, leaf, txt_data]
                rfl
              have HFI : Hid ((Ex.mk 2 tt 0 []).fit) := leafFit HFT.out.2.1 (by unfold i64E; omega) (by unfold i64E; omega)
              obtain ⟨b0, b1, b2, b3, bf⟩ := HR4.out.cells
              go_wp2_with fail
              refine bodyPost_ret (v := .tuple #[.agg #[.int .i64 2, .string tt, .int .i64 0, .slice none 0 0], .bool true]) (by simp [results, Tryz.results107, go_sem, b0, b1, b2, b3]) rfl ?_
              unfold LeafR
              rw [HO.out]
              exact ⟨rfl, HFI.out, rfl, hlt, rfl, (((HS4.out.store HRD.out (Nat.le_refl _) 0 _).store HRD.out (Nat.le_refl _) 1 _).store HRD.out (Nat.le_refl _) 2 _).store HRD.out (Nat.le_refl _) 3 _⟩
            | false =>
              have HO : Hid (leafI (left l at_) = none) := by
                unfold Hid
                rw [HLC.out, leafI]
                have h0 : kk ≠ 0 := by simpa using e0
                have h1 : kk ≠ 1 := by simpa using e1
                have h2 : kk ≠ 2 := by simpa using e2
                have h3 : kk ≠ 3 := by simpa using e3
                simp only [h0, h1, h2, h3, if_false]
              obtain ⟨b0, b1, b2, b3, bf⟩ := HR4.out.cells
              go_wp2_with fail
              refine bodyPost_ret (v := .tuple #[.agg #[.int .i64 0, .string ⟨#[]⟩, .int .i64 0, .slice none 0 0], .bool false]) (by simp [results, Tryz.results107, go_sem, b0, b1, b2, b3]) rfl ?_
              unfold LeafR
              rw [HO.out]
              exact ⟨at_ + 1, rfl, (((HS4.out.store HRD.out (Nat.le_refl _) 0 _).store HRD.out (Nat.le_refl _) 1 _).store HRD.out (Nat.le_refl _) 2 _).store HRD.out (Nat.le_refl _) 3 _⟩
  · have hge : decide (l.length ≤ at_) = true := decide_eq_true (by omega)
    have HL : Hid (leafI (left l at_) = none) := by unfold Hid; rw [left_end hlt]; rfl
    go_enter Tryz.func107, Tryz.ntmps107
    go_wp2_with fail
    generalize w.alloc (.cells #[.int .i64 0, .string ⟨#[]⟩, .int .i64 0, .slice none 0 0] 32) = W0 at HS0 HR0 HZ ⊢
    obtain ⟨r0, r1, rf⟩ := HS0.out.rd.cells
    obtain ⟨b0, b1, b2, b3, bf⟩ := HR0.out.cells
    go_quiet (fail)
    have HS1 := Lib.hid (HS0.out.below (below_drewN0' W0 nq))
    have b0' : (W0.drewN nq).cell? ⟨w.heap.size, 0, none⟩ = some (.int .i64 0) := b0
    have b1' : (W0.drewN nq).cell? ⟨w.heap.size, 1, none⟩ = some (.string ⟨#[]⟩) := b1
    have b2' : (W0.drewN nq).cell? ⟨w.heap.size, 2, none⟩ = some (.int .i64 0) := b2
    have b3' : (W0.drewN nq).cell? ⟨w.heap.size, 3, none⟩ = some (.slice none 0 0) := b3
    have bf' : ∀ o, (W0.drewN nq).frozen? ⟨w.heap.size, o, none⟩ = false := bf
    generalize W0.drewN nq = W1 at HS1 b0' b1' b2' b3' bf' ⊢
    clear b0 b1 b2 b3 bf
    go_wp2_with fail
    refine bodyPost_ret (v := .tuple #[.agg #[.int .i64 0, .string ⟨#[]⟩, .int .i64 0, .slice none 0 0], .bool false]) (by simp [results, Tryz.results107, go_sem, *]) rfl ?_
    unfold LeafR
    rw [HL.out]
    exact ⟨at_, rfl, (((HS1.out.store HRD.out (Nat.le_refl _) 0 _).store HRD.out (Nat.le_refl _) 1 _).store HRD.out (Nat.le_refl _) 2 _).store HRD.out (Nat.le_refl _) 3 _⟩

end Go.Proofs.YtgnillmhpockkaaGreatDoor
