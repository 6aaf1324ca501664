/- A strings.Builder that the call itself has laid: what WriteByte puts behind, what String answers; walked over the library's own text. -/
/- impl.Quote answers the text between quotes, each of its quotes doubled. -/
/- impl.PutName. -/
/- impl.DecText answers the decimal numeral, where strconv's table stands as the text lays it. -/
/- TypeText of the program and of the model. -/
/- Expressions: how they are written as words, and how they are read: plain mathematics. -/
/- A number comes back from its numeral: plain mathematics. -/
/- Expressions: what is written is read back. -/
/- Expressions: what is written is read back: the theorem. -/
import Derived.Test.YtpdcmmhhgnackaaGreatDoorMPl
import Derived.Test.YtpdcmmhhgnackaaGreatDoorMShelf
import Derived.Lib.Builder
import Derived.Test.YtpdcmmhhgnackaaGreatDoorMNameImpl
import Derived.Below
import Derived.Lib.LaidTab
import Derived.Stop.LaidErr
import Derived.Lib.ItoaLen
import Derived.Test.YtpdcmmhhgnackaaGreatDoorMMem
namespace Go.Proofs.YtpdcmmhhgnackaaGreatDoor
open Go.RowKit

theorem Tryz.sizeBuilder : (Tryz.prog.info? 137).map (·.size) = some 2 := by kernel_rfl
theorem Tryz.liesBuilder : liesAt Tryz.prog Tryz.prog.depth 137 (2 / Tryz.prog.cellsOf 137) 0 137 1 = true := by kernel_rfl

set_option maxRecDepth 100000 in
set_option maxHeartbeats 1000000 in
theorem copyCheckUsed (b : Nat) (w : World) (h0 : w.cell? ⟨b, 0, none⟩ = some (.pointer (some ⟨b, 0, none⟩))) :
    Calls Tryz.prog 140 #[.pointer (some ⟨b, 0, none⟩)] w fun e w' => e = .returned (.tuple #[]) ∧ w = w' := by
  obtain ⟨j, hj, _⟩ := Option.map_eq_some_iff.1 Tryz.sizeBuilder
  go_enter Tryz.func140, Tryz.ntmps140
  go_wp2
  rw [Lib.run_neq_ptr_same w _ Tryz.underlying135 hj]
  go_wp2
  go_end0
  exact ⟨rfl, rfl⟩

set_option maxRecDepth 100000 in
set_option maxHeartbeats 1000000 in
theorem copyCheckFresh (b : Nat) (w : World) (h0 : w.cell? ⟨b, 0, none⟩ = some (.pointer none)) (hsh : w.shape? b = some (137, 2)) (hfz : w.frozen? ⟨b, 0, none⟩ = false) :
    Calls Tryz.prog 140 #[.pointer (some ⟨b, 0, none⟩)] w fun e w' => e = .returned (.tuple #[]) ∧ w.setCell ⟨b, 0, none⟩ (.pointer (some ⟨b, 0, none⟩)) = w' := by
  obtain ⟨j, hj, hjs⟩ := Option.map_eq_some_iff.1 Tryz.sizeBuilder
  go_enter Tryz.func140, Tryz.ntmps140
  go_wp2
  rw [Lib.run_to_unsafe w ⟨b, 0, none⟩ Tryz.underlying135 Tryz.underlying162 hj (by rw [hjs]; decide) hsh (Nat.zero_lt_succ 1)]
  simp only [Result.andThen]
  rw [Oper.upon_value]
  go_wp2
  rw [run_callFunc_extern Tryz.func149 (by kernel_rfl) (by kernel_rfl) (by kernel_rfl) (e := Extern.AbiNoEscape.same) (by kernel_rfl)]
  rw [Lib.run_noEscape]
  simp only [Result.andThen]
  rw [Oper.upon_value]
  go_wp2
  rw [Lib.run_from_unsafe w ⟨b, 0, none⟩ Tryz.underlying162 Tryz.underlying135 hj hsh Tryz.liesBuilder]
  simp only [Result.andThen]
  rw [Oper.upon_value]
  go_wp2
  go_end0
  exact ⟨rfl, rfl⟩

/-- The builder in block b holds the bytes l in a row (a, c) that lies behind it. -/
def Bld (w : World) (b : Nat) (a : Option Addr) (c : Nat) (l : List UInt8) : Prop :=
  ∃ p, (p = .pointer none ∨ p = .pointer (some ⟨b, 0, none⟩)) ∧ w.heap[b]? = some (.cells #[p, .slice a l.length c] 137 (0, 0)) ∧ OwnB w (b + 1) a c l

/-- Of what was there block b alone has turned, and the row. -/
structure Wrote (b : Nat) (row : Option Nat) (w w' : World) : Prop where
  os : w'.os = w.os
  tape : w'.tape = w.tape
  output : w'.output = w.output
  size : w.heap.size ≤ w'.heap.size
  block : ∀ k, k < w.heap.size → k ≠ b → some k ≠ row → w'.heap[k]? = w.heap[k]?

theorem Bld.lt {w : World} {b : Nat} {a : Option Addr} {c : Nat} {l : List UInt8} (h : Bld w b a c l) : b < w.heap.size := by
  obtain ⟨p, _, hg, _⟩ := h
  rcases Nat.lt_or_ge b w.heap.size with hlt | hge
  · exact hlt
  · rw [Array.getElem?_eq_none hge] at hg; cases hg

theorem Bld.own {w : World} {b : Nat} {a : Option Addr} {c : Nat} {l : List UInt8} (h : Bld w b a c l) : OwnB w (b + 1) a c l := by
  obtain ⟨_, _, _, h⟩ := h; exact h

theorem Bld.new (w : World) : Bld (w.alloc (.cells #[.pointer none, .slice none 0 0] 137)) w.heap.size none 0 [] :=
  ⟨_, .inl rfl, heap_alloc_new _ _, World.ownsRow_nil _ _ _ _⟩

theorem Bld.below {w w' : World} {b : Nat} {a : Option Addr} {c : Nat} {l : List UInt8} (h : Bld w b a c l) (hb : Below w.heap.size w w') : Bld w' b a c l := by
  have hlt := h.lt
  obtain ⟨p, hp, hg, ho⟩ := h
  exact ⟨p, hp, (hb.block b hlt).trans hg, ho.below hb⟩

theorem Bld.grown {w w' : World} {b : Nat} {a : Option Addr} {c : Nat} {l : List UInt8} {row : Option Nat} (h : Bld w b a c l) (hb : w.grownBy w' row) (h1 : row ≠ some b) (h2 : ∀ g, (Value.slice a l.length c).ownBlock = some g → row ≠ some g) : Bld w' b a c l := by
  have hlt := h.lt
  obtain ⟨p, hp, hg, ho⟩ := h
  exact ⟨p, hp, (hb.block b hlt (fun e => h1 e.symm)).trans hg, ho.kept hb h2⟩

theorem Wrote.below {b : Nat} {w w' : World} {a : Option Addr} {c : Nat} {l : List UInt8} (hB : Bld w b a c l) (h : Wrote b (Value.slice a l.length c).ownBlock w w') {w0 : World} {B : Nat} (h0 : Below B w0 w) (hb : B ≤ b) : Below B w0 w' := by
  have hlt := hB.lt
  refine ⟨h.os.trans h0.os, h.tape.trans h0.tape, h.output.trans h0.output, Nat.le_trans h0.size h.size, fun k hk => ?_⟩
  rw [h.block k (by omega) (by omega) (fun e => by have := (hB.own.lt e.symm).1; omega)]
  exact h0.block k hk

theorem own_shape {w : World} {B : Nat} {a : Option Addr} {c : Nat} {l : List UInt8} (h : OwnB w B a c l) (h0 : 0 < l.length) : ∃ g, a = some ⟨g, 0, none⟩ ∧ (Value.slice a l.length c).ownBlock = some g := by
  unfold OwnB at h
  rcases h.2 with ⟨_, hn⟩ | ⟨g, cap, cur, hv, _⟩
  · omega
  · simp only [Value.slice.injEq] at hv
    obtain ⟨rfl, _, rfl⟩ := hv
    exact ⟨g, rfl, rfl⟩

theorem infoB_ne : 137 ≠ 5 := by decide

set_option maxHeartbeats 2000000 in
/-- WriteByte, where the builder knows its address. -/
theorem writeByteUsed (b : Nat) (a : Option Addr) (c : Nat) (l : List UInt8) (y : UInt8) (w : World) (hg : w.heap[b]? = some (.cells #[.pointer (some ⟨b, 0, none⟩), .slice a l.length c] 137 (0, 0))) (hown : OwnB w (b + 1) a c l) (hn : l.length + 1 ≤ 140737488355328) :
    Calls Tryz.prog 119 #[.pointer (some ⟨b, 0, none⟩), .int .u8 (y.toNat : Int)] w fun e w' => e = .returned .nilIface ∧ ∃ a' c' l', Hid (l' = l ++ [y]) ∧ Bld w' b a' c' l' ∧ Wrote b (Value.slice a l.length c).ownBlock w w' ∧ ∀ g, (Value.slice a' l'.length c').ownBlock = some g → (Value.slice a l.length c).ownBlock = some g ∨ w.heap.size ≤ g := by
  obtain ⟨i0, hi0, hz0, hz1, hz2⟩ := info_parts Tryz.infoByte
  have hlt : b < w.heap.size := by
    rcases Nat.lt_or_ge b w.heap.size with hlt | hge
    · exact hlt
    · rw [Array.getElem?_eq_none hge] at hg; cases hg
  have c0 : w.cell? ⟨b, 0, none⟩ = some (.pointer (some ⟨b, 0, none⟩)) := by rw [cell_of_row _ _ _ _ _ _ hg]; rfl
  have c1 : w.cell? ⟨b, 1, none⟩ = some (.slice a l.length c) := by rw [cell_of_row _ _ _ _ _ _ hg]; rfl
  have hby := byte_le y
  have HG := Lib.hid hg
  clear hg
  go_enter Tryz.func119, Tryz.ntmps119
  go_wp2_with (first
    | (go_at_call 140; refine (copyCheckUsed b w c0).mono ?_; rintro e w1 ⟨rfl, rfl⟩)
    | (at_builtin; refine wpAppendByte rfl (.tmp 11) (.tmp 13) rfl i0 hi0 hz0 hz1 hz2 (b + 1) a c l w.heap.size y rfl (hown.alloc _) rfl (by simp) hn (by simp; omega) ?_; intro a2 c2 w2 l2 hl2 hown2 hg2 hat; have hb2 : w2.heap[b]? = some (.cells #[.pointer (some ⟨b, 0, none⟩), .slice a l.length c] 137 (0, 0)) := (by rw [hg2.block b (by simp; omega) (fun e => by have := (hown.lt e.symm).1; omega), Below.heap_alloc _ _ _ hlt]; exact HG.out); have d1 : w2.cell? ⟨b, 1, none⟩ = some (.slice a l.length c) := (by rw [cell_of_row _ _ _ _ _ _ hb2]; rfl); have f1 : w2.frozen? ⟨b, 1, none⟩ = false := frozen_of_row _ _ _ _ _ hb2; have HB2 := Lib.hid hb2; clear hb2))
  go_ret
  have hset := heap_setCell_same w2 b 1 _ _ (.slice a2 l2.length c2) HB2.out
  have own3 : OwnB (w2.setCell ⟨b, 1, none⟩ (.slice a2 l2.length c2)) (b + 1) a2 c2 l2 := hown2.kept (row := some b) ⟨rfl, rfl, rfl, by simp [World.setCell], fun k _ hne => Below.heap_setCell _ _ _ _ (fun e => hne (by rw [e]))⟩ (fun g hgo e => by cases e; have := (hown2.lt hgo).1; omega)
  refine ⟨rfl, a2, c2, l2, hl2, ⟨_, .inr rfl, hset, own3⟩, ⟨?_, ?_, ?_, ?_, ?_⟩, ?_⟩
  · exact hg2.os
  · exact hg2.tape
  · exact hg2.output
  · have := hg2.size; simp [World.setCell] at this ⊢; omega
  · intro k hk hkb hkr
    rw [Below.heap_setCell _ _ _ _ hkb, hg2.block k (by simp; omega) hkr, Below.heap_alloc _ _ _ hk]
  · intro g hgo
    rcases hat with e | e
    · left; rw [← e]; exact hgo
    · right; rw [e] at hgo; cases hgo; simp

set_option maxHeartbeats 2000000 in
theorem writeByte (b : Nat) (a : Option Addr) (c : Nat) (l : List UInt8) (y : UInt8) (w : World) (hB : Bld w b a c l) (hn : l.length + 1 ≤ 140737488355328) :
    Calls Tryz.prog 119 #[.pointer (some ⟨b, 0, none⟩), .int .u8 (y.toNat : Int)] w fun e w' => e = .returned .nilIface ∧ ∃ a' c' l', Hid (l' = l ++ [y]) ∧ Bld w' b a' c' l' ∧ Wrote b (Value.slice a l.length c).ownBlock w w' ∧ ∀ g, (Value.slice a' l'.length c').ownBlock = some g → (Value.slice a l.length c).ownBlock = some g ∨ w.heap.size ≤ g := by
  have hlt := hB.lt
  obtain ⟨p, rfl | rfl, hg, hown⟩ := hB
  rotate_left
  · exact writeByteUsed b a c l y w hg hown hn
  obtain ⟨i0, hi0, hz0, hz1, hz2⟩ := info_parts Tryz.infoByte
  have c0 : w.cell? ⟨b, 0, none⟩ = some (.pointer none) := by rw [cell_of_row _ _ _ _ _ _ hg]; rfl
  have f0 : w.frozen? ⟨b, 0, none⟩ = false := frozen_of_row _ _ _ _ _ hg
  have hsh : w.shape? b = some (137, 2) := by simp [World.shape?, hg]
  have hby := byte_le y
  obtain ⟨W, hW⟩ : ∃ W, W = w.setCell ⟨b, 0, none⟩ (.pointer (some ⟨b, 0, none⟩)) := ⟨_, rfl⟩
  have HG1 : W.heap[b]? = some (.cells #[.pointer (some ⟨b, 0, none⟩), .slice a l.length c] 137 (0, 0)) := by rw [hW]; exact heap_setCell_same w b 0 _ _ _ hg
  have hgrW : w.grownBy W (some b) := by rw [hW]; exact ⟨rfl, rfl, rfl, by simp [World.setCell], fun k _ hne => Below.heap_setCell _ _ _ _ (fun e => hne (by rw [e]))⟩
  have hownW : OwnB W (b + 1) a c l := hown.kept hgrW (fun g hgo e => by cases e; have := (hown.lt hgo).1; omega)
  have hWs : W.heap.size = w.heap.size := by rw [hW]; simp [World.setCell]
  have hltW : b < W.heap.size := by omega
  have c1 : W.cell? ⟨b, 1, none⟩ = some (.slice a l.length c) := by rw [cell_of_row _ _ _ _ _ _ HG1]; rfl
  have HW := Lib.hid hW
  have HG := Lib.hid HG1
  have HWs := Lib.hid hWs
  clear HG1 hg hW hWs
  go_enter Tryz.func119, Tryz.ntmps119
  go_wp2_with (first
    | (go_at_call 140; refine (copyCheckFresh b w c0 hsh f0).mono ?_; rintro e w1 ⟨rfl, hw1⟩; rw [← HW.out] at hw1; subst hw1; clear c0 f0 hsh)
    | (at_builtin; refine wpAppendByte rfl (.tmp 11) (.tmp 13) rfl i0 hi0 hz0 hz1 hz2 (b + 1) a c l W.heap.size y rfl (hownW.alloc _) rfl (by simp) hn (by simp; omega) ?_; intro a2 c2 w2 l2 hl2 hown2 hg2 hat; have hb2 : w2.heap[b]? = some (.cells #[.pointer (some ⟨b, 0, none⟩), .slice a l.length c] 137 (0, 0)) := (by rw [hg2.block b (by simp; omega) (fun e => by have := (hownW.lt e.symm).1; omega), Below.heap_alloc _ _ _ hltW]; exact HG.out); have d1 : w2.cell? ⟨b, 1, none⟩ = some (.slice a l.length c) := (by rw [cell_of_row _ _ _ _ _ _ hb2]; rfl); have f1 : w2.frozen? ⟨b, 1, none⟩ = false := frozen_of_row _ _ _ _ _ hb2; have HB2 := Lib.hid hb2; clear hb2))
  go_ret
  have hset := heap_setCell_same w2 b 1 _ _ (.slice a2 l2.length c2) HB2.out
  have own3 : OwnB (w2.setCell ⟨b, 1, none⟩ (.slice a2 l2.length c2)) (b + 1) a2 c2 l2 := hown2.kept (row := some b) ⟨rfl, rfl, rfl, by simp [World.setCell], fun k _ hne => Below.heap_setCell _ _ _ _ (fun e => hne (by rw [e]))⟩ (fun g hgo e => by cases e; have := (hown2.lt hgo).1; omega)
  have hWs := HWs.out
  refine ⟨rfl, a2, c2, l2, hl2, ⟨_, .inr rfl, hset, own3⟩, ⟨?_, ?_, ?_, ?_, ?_⟩, ?_⟩
  · exact hg2.os.trans hgrW.os
  · exact hg2.tape.trans hgrW.tape
  · exact hg2.output.trans hgrW.output
  · have := hg2.size; simp [World.setCell] at this ⊢; omega
  · intro k hk hkb hkr
    rw [Below.heap_setCell _ _ _ _ hkb, hg2.block k (by simp; omega) hkr, Below.heap_alloc _ _ _ (by omega), hgrW.block k hk (fun e => hkb (by cases e; rfl))]
  · intro g hgo
    rcases hat with e | e
    · left; rw [← e]; exact hgo
    · right; rw [e] at hgo; cases hgo; simp; omega

theorem builderString (b : Nat) (a : Option Addr) (c : Nat) (l : List UInt8) (w : World) (hB : Bld w b a c l) :
    Calls Tryz.prog 120 #[.pointer (some ⟨b, 0, none⟩)] w fun e w' => e = .returned (.string ⟨l.toArray⟩) ∧ Below b w w' := by
  have hlt := hB.lt
  obtain ⟨p, hp, hg, hown⟩ := hB
  have hl : (Lib.byteCells l).length = l.length := by simp [Lib.byteCells]
  have hAt : Lib.BuilderAt 137 5 b b p (Lib.byteCells l) w := by
    refine ⟨Nat.le_refl _, _, hg, ?_, fun e => by have := (hown.lt e).1; omega⟩
    rw [hl]
    unfold OwnB at hown
    refine ⟨hown.1, ?_⟩
    rcases hown.2 with h2 | ⟨g, cap, cur, hv, hb, r⟩
    · exact .inl h2
    · exact .inr ⟨g, cap, cur, hv, by omega, r⟩
  refine Tryz.Builder_String_any b b l w ?_ (by omega)
  rcases hp with rfl | rfl
  · exact .inl hAt
  · exact .inr hAt

end Go.Proofs.YtpdcmmhhgnackaaGreatDoor

namespace Go.Proofs.YtpdcmmhhgnackaaGreatDoor
open Go.RowKit

set_option maxHeartbeats 2000000 in
theorem implQuote (s : ByteArray) (y : UInt8) (w : World) (hs : s.size ≤ 1048576) :
    Calls Tryz.prog 79 #[.string s, .int .u8 (y.toNat : Int)] w fun e w' => e = .returned (.string (quoteT s y)) ∧ Below w.heap.size w w' := by
  have hy := byte_le y
  go_enter Tryz.func79, Tryz.ntmps79
  go_wp2_with fail
  refine (writeByte w.heap.size none 0 [] y _ (Bld.new w) (by simp)).mono ?_
  rintro e w1 ⟨rfl, a1, c1, l1, hl1, hB1, hW1, _⟩
  have hb1 : Below w.heap.size w w1 := hW1.below (Bld.new w) ((Below.refl _ _).alloc (Nat.le_refl _) _) (Nat.le_refl _)
  obtain ⟨W, cap, hcv, hbW, hrW, hcap, hcell⟩ := convTextEx w1 s
  have hne1 : ∀ g, (Value.slice a1 l1.length c1).ownBlock = some g → g ≠ w1.heap.size := fun g hg => by have := (hB1.own.lt hg).2; omega
  have hltB := hB1.lt
  have HC := Lib.hid hcell
  have HL : Hid (l1 = y :: dbl y (s.data.toList.take 0)) := hl1
  have HN := Lib.hid hne1
  generalize hR : w1.heap.size = R at *
  have hBW := hB1.below (hR ▸ hbW)
  have hbw : Below w.heap.size w W := hb1.trans ((hR ▸ hbW : Below w1.heap.size w1 W).mono hb1.size)
  have HBW := Lib.hid hBW
  have HR := Lib.hid hR
  clear hl1 hB1 hW1 hb1 hcell hne1 hR hBW hbW
  go_wp2_with fail
  go_loopw [13] (fun i wr => ∃ (k : Nat) (a : Option Addr) (c : Nat) (l : List UInt8), k ≤ s.size ∧ i = .int .i64 k ∧ Hid (l = y :: dbl y (s.data.toList.take k)) ∧ Bld wr w.heap.size a c l ∧ Hid (wr.heap[R]? = W.heap[R]?) ∧ R < wr.heap.size ∧ Hid (∀ g, (Value.slice a l.length c).ownBlock = some g → g ≠ R) ∧ Below w.heap.size w wr) (fun i _ => s.size - (intOf i).toNat)
  case atStart => exact ⟨0, a1, c1, l1, Nat.zero_le _, rfl, HL, HBW.out, rfl, hrW, HN, hbw⟩
  case round =>
    obtain ⟨k, a, c, l, hk, rfl, hl, hB, hrow, hr, hne, hb⟩ := hrel
    have hlk : l.length ≤ 3000000 := by
      have h1 := dbl_len y (s.data.toList.take k)
      have h2 : (s.data.toList.take k).length ≤ k := List.length_take_le _ _
      rw [hl.out]
      simp only [List.length_cons]
      omega
    by_cases hlt : k < s.size
    · have hc : wr.cell? ⟨R, k, none⟩ = some (.int .u8 (s[k].toNat : Int)) := (World.cell?_of_block (w := W) (w' := wr) (a := ⟨R, k, none⟩) hrow.out).trans (HC.out k hlt)
      have hby := byte_le s[k]
      by_cases he : s[k] = y
      · have HS := Lib.hid (dbl_eq y s k hlt he)
        have ht := byte_eq he
        clear he
        go_wp2_with fail
        refine (writeByte w.heap.size a c l y _ hB (by omega)).mono ?_
        rintro e w2 ⟨rfl, a2, c2, l2, hl2, hB2, hW2, hn2⟩
        have hr2 : R < w2.heap.size := Nat.lt_of_lt_of_le hr hW2.size
        have hrow2 : Hid (w2.heap[R]? = W.heap[R]?) := (hW2.block R hr (by omega) (fun e => hne.out R e.symm rfl)).trans hrow.out
        have hne2 : Hid (∀ g, (Value.slice a2 l2.length c2).ownBlock = some g → g ≠ R) := fun g hg => by
          rcases hn2 g hg with h | h
          · exact hne.out g h
          · omega
        have hb2 := hW2.below hB hb (Nat.le_refl _)
        have hlk2 : l2.length ≤ 3000001 := by rw [hid_len hl2]; omega
        have HW2 := Lib.hid hW2
        have HN2 := Lib.hid hn2
        clear hW2 hn2
        go_wp2_with fail
        refine (writeByte w.heap.size a2 c2 l2 s[k] _ hB2 (by omega)).mono ?_
        rintro e w3 ⟨rfl, a3, c3, l3, hl3, hB3, hW3, hn3⟩
        have hr3 : R < w3.heap.size := Nat.lt_of_lt_of_le hr2 hW3.size
        have hrow3 : Hid (w3.heap[R]? = W.heap[R]?) := (hW3.block R hr2 (by omega) (fun e => hne2.out R e.symm rfl)).trans hrow2.out
        have hne3 : Hid (∀ g, (Value.slice a3 l3.length c3).ownBlock = some g → g ≠ R) := fun g hg => by
          rcases hn3 g hg with h | h
          · exact hne2.out g h
          · omega
        have hb3 := hW3.below hB2 hb2 (Nat.le_refl _)
        have HW3 := Lib.hid hW3
        have HN3 := Lib.hid hn3
        clear hW3 hn3
        go_wp2_with fail
        go_roundw
        case rel => exact ⟨k + 1, a3, c3, l3, by omega, by go_num, by unfold Hid; rw [hl3.out, hl2.out, hl.out, HS.out]; simp, hB3, hrow3, hr3, hne3, hb3⟩
        case measure => simp [intOf]; omega
      · have HS := Lib.hid (dbl_ne y s k hlt he)
        have ht := byte_ne he
        clear he
        go_wp2_with fail
        refine (writeByte w.heap.size a c l s[k] _ hB (by omega)).mono ?_
        rintro e w2 ⟨rfl, a2, c2, l2, hl2, hB2, hW2, hn2⟩
        have hr2 : R < w2.heap.size := Nat.lt_of_lt_of_le hr hW2.size
        have hrow2 : Hid (w2.heap[R]? = W.heap[R]?) := (hW2.block R hr (by omega) (fun e => hne.out R e.symm rfl)).trans hrow.out
        have hne2 : Hid (∀ g, (Value.slice a2 l2.length c2).ownBlock = some g → g ≠ R) := fun g hg => by
          rcases hn2 g hg with h | h
          · exact hne.out g h
          · omega
        have hb2 := hW2.below hB hb (Nat.le_refl _)
        have HW2 := Lib.hid hW2
        have HN2 := Lib.hid hn2
        clear hW2 hn2
        go_wp2_with fail
        go_roundw
        case rel => exact ⟨k + 1, a2, c2, l2, by omega, by go_num, by unfold Hid; rw [hl2.out, hl.out, HS.out]; simp, hB2, hrow2, hr2, hne2, hb2⟩
        case measure => simp [intOf]; omega
    · obtain rfl : k = s.size := by omega
      have HQ : Hid (quoteL y s.data.toList = l ++ [y]) := by
        unfold Hid
        rw [hl.out, List.take_of_length_le (by simp)]
        simp [quoteL, dbl]
      go_wp2_with fail
      refine (writeByte w.heap.size a c l y _ hB (by omega)).mono ?_
      rintro e w2 ⟨rfl, a2, c2, l2, hl2, hB2, hW2, hn2⟩
      have hb2 := hW2.below hB hb (Nat.le_refl _)
      have HW2 := Lib.hid hW2
      have HN2 := Lib.hid hn2
      clear hW2 hn2
      go_wp2_with fail
      refine (builderString w.heap.size a2 c2 l2 _ hB2).mono ?_
      rintro e w3 ⟨rfl, hb3⟩
      go_wp2_with fail
      go_ret
      exact ⟨by rw [quoteT, HQ.out, ← hl2.out]; rfl, hb2.trans hb3⟩

end Go.Proofs.YtpdcmmhhgnackaaGreatDoor

namespace Go.Proofs.YtpdcmmhhgnackaaGreatDoor
open Go.RowKit

set_option maxHeartbeats 2000000 in
theorem implPlain (s : ByteArray) (w : World) (hs : s.size ≤ 1048576) (v : Bool) (hv : plainB s.data.toList = v) :
    Calls Tryz.prog 76 #[.string s] w fun e w' => e = .returned (.bool v) ∧ Below w.heap.size w w' := by
  have HV := Lib.hid hv
  clear hv
  obtain ⟨W, cap, hcv, hbW, hrW, hcap, hcell⟩ := convTextEx w s
  have HC := Lib.hid hcell
  have HB := Lib.hid hbW
  clear hcell hbW hcap
  go_enter Tryz.func76, Tryz.ntmps76
  go_wp2_with fail
  go_loop [10] (fun i => ∃ k : Nat, k ≤ s.size ∧ i = .int .i64 k ∧ Hid (∀ (j : Nat) (hj : j < s.size), j < k → okB s[j] = true ∧ (j = 0 → digitB s[j] = false))) (fun i => s.size - (intOf i).toNat)
  case atStart => exact ⟨0, Nat.zero_le _, rfl, fun j _ h => by omega⟩
  case round =>
    obtain ⟨k, hk, rfl, hall⟩ := hrel
    by_cases hlt : k < s.size
    · have hc : W.cell? ⟨w.heap.size, k, none⟩ = some (.int .u8 (s[k].toNat : Int)) := HC.out k hlt
      have hby := byte_le s[k]
      have next : okB s[k] = true → (k = 0 → digitB s[k] = false) → Hid (∀ (j : Nat) (hj : j < s.size), j < k + 1 → okB s[j] = true ∧ (j = 0 → digitB s[j] = false)) := fun h1 h2 j hj hjk => by
        by_cases e : j = k
        · subst e; exact ⟨h1, h2⟩
        · exact hall.out j hj (by omega)
      have stop : okB s[k] = false ∨ (k = 0 ∧ digitB s[k] = true) → Hid (v = false) := fun h => by unfold Hid; rw [← HV.out]; exact plain_no s k hlt h
      have h0k : (0 : Int) ≤ (k : Int) := by omega
      have hkl : (k : Int) < (s.size : Int) := by omega
      by_cases a1 : s[k].toNat = 95
      · have HN := next (ok_of_small (.inl a1)).1 (fun _ => (ok_of_small (.inl a1)).2)
        have f1 : ((s[k].toNat : Int) == 95) = true := by simp [a1]
        have f2 : decide ((48 : Int) ≤ (s[k].toNat : Int)) = true := by simp; omega
        have f3 : decide ((s[k].toNat : Int) ≤ 57) = false := by simp; omega
        clear next stop a1
        go_wp2_with fail
        exact ⟨⟨k + 1, by omega, by go_num, HN⟩, by simp [intOf]; omega⟩
      · have f1 : ((s[k].toNat : Int) == 95) = false := by rw [beq_eq_false_iff_ne]; omega
        by_cases a2 : 97 ≤ s[k].toNat
        · have f2 : decide ((97 : Int) ≤ (s[k].toNat : Int)) = true := by simp; omega
          have f4 : decide ((48 : Int) ≤ (s[k].toNat : Int)) = true := by simp; omega
          have f5 : decide ((s[k].toNat : Int) ≤ 57) = false := by simp; omega
          by_cases a3 : s[k].toNat ≤ 122
          · have f3 : decide ((s[k].toNat : Int) ≤ 122) = true := by simp; omega
            have HN := next (ok_of_small (.inr ⟨a2, a3⟩)).1 (fun _ => (ok_of_small (.inr ⟨a2, a3⟩)).2)
            clear next stop a1 a2 a3
            go_wp2_with fail
            exact ⟨⟨k + 1, by omega, by go_num, HN⟩, by simp [intOf]; omega⟩
          · have f3 : decide ((s[k].toNat : Int) ≤ 122) = false := by simp; omega
            have HN := stop (.inl (ok_no a1 (by omega) (by omega)))
            clear next stop a1 a2 a3
            cases f6 : ((k : Int) == 0) with
            | true =>
              go_wp2_with fail
              go_ret
              exact ⟨by rw [HN.out]; rfl, HB.out⟩
            | false =>
              go_wp2_with fail
              go_ret
              exact ⟨by rw [HN.out]; rfl, HB.out⟩
        · have f2 : decide ((97 : Int) ≤ (s[k].toNat : Int)) = false := by simp; omega
          by_cases a3 : 48 ≤ s[k].toNat
          · have f3 : decide ((48 : Int) ≤ (s[k].toNat : Int)) = true := by simp; omega
            by_cases a4 : s[k].toNat ≤ 57
            · have f4 : decide ((s[k].toNat : Int) ≤ 57) = true := by simp; omega
              have hd := ok_of_digit ⟨a3, a4⟩
              cases f6 : ((k : Int) == 0) with
              | true =>
                have HN := stop (.inr ⟨by simpa using f6, hd.2⟩)
                clear next stop a1 a2 a3 a4 hd
                go_wp2_with fail
                go_ret
                exact ⟨by rw [HN.out]; rfl, HB.out⟩
              | false =>
                have HN := next hd.1 (fun e => by subst e; simp at f6)
                clear next stop a1 a2 a3 a4 hd
                go_wp2_with fail
                exact ⟨⟨k + 1, by omega, by go_num, HN⟩, by simp [intOf]; omega⟩
            · have f4 : decide ((s[k].toNat : Int) ≤ 57) = false := by simp; omega
              have HN := stop (.inl (ok_no a1 (by omega) (by omega)))
              clear next stop a1 a2 a3 a4
              cases f6 : ((k : Int) == 0) with
              | true =>
                go_wp2_with fail
                go_ret
                exact ⟨by rw [HN.out]; rfl, HB.out⟩
              | false =>
                go_wp2_with fail
                go_ret
                exact ⟨by rw [HN.out]; rfl, HB.out⟩
          · have f3 : decide ((48 : Int) ≤ (s[k].toNat : Int)) = false := by simp; omega
            have HN := stop (.inl (ok_no a1 (by omega) (by omega)))
            clear next stop a1 a2 a3
            cases f6 : ((k : Int) == 0) with
            | true =>
              go_wp2_with fail
              go_ret
              exact ⟨by rw [HN.out]; rfl, HB.out⟩
            | false =>
              go_wp2_with fail
              go_ret
              exact ⟨by rw [HN.out]; rfl, HB.out⟩
    · have HN : Hid (v = !s.toList.isEmpty) := by
        unfold Hid
        rw [← HV.out, Lib.toList_data]
        by_cases h0 : s.size = 0
        · rw [plain_empty s h0]
          have : s.data.toList = [] := List.length_eq_zero_iff.1 (by simpa using h0)
          rw [this]; rfl
        · rw [plain_yes s (by omega) (fun j hj => (hall.out j hj (by omega)).1) ((hall.out 0 (by omega) (by omega)).2 rfl)]
          have : s.data.toList.isEmpty = false := by
            rw [List.isEmpty_eq_false_iff]
            intro e
            have h2 : s.data.toList.length = 0 := by rw [e]; rfl
            have h3 : s.data.toList.length = s.size := by simp
            omega
          rw [this]; rfl
      go_wp2_with fail
      go_ret
      exact ⟨by rw [HN.out]; rfl, HB.out⟩

theorem stringsClone (s : ByteArray) (w : World) (hs : s.size ≤ 1048576) :
    Calls Tryz.prog 78 #[.string s] w fun e w' => e = .returned (.string s) ∧ Below w.heap.size w w' := by
  go_enter Tryz.func78, Tryz.ntmps78
  go_wp2_with fail
  refine (Tryz.stringslite_Clone s _ (by omega)).mono ?_
  rintro e w1 ⟨rfl, b1⟩
  go_wp2_with fail
  go_ret
  exact ⟨rfl, b1⟩

set_option maxHeartbeats 1000000 in
theorem implPutName (s : ByteArray) (w : World) (hs : s.size ≤ 1048576) (r : ByteArray) (hr : nameT s = r) :
    Calls Tryz.prog 30 #[.string s] w fun e w' => e = .returned (.string r) ∧ Below w.heap.size w w' := by
  unfold nameT at hr
  have hp := fun w => implPlain s w hs _ rfl
  have hk := fun w => implReserved s w (keptB s.data.toList) (by rw [Lib.toList_data])
  generalize plainB s.data.toList = p at hr hp
  generalize keptB s.data.toList = q at hr hk
  cases p with
  | false =>
    have HR : Hid (quoteT s 34 = r) := by unfold Hid; rw [← hr]; rfl
    clear hr
    go_enter Tryz.func30, Tryz.ntmps30
    go_wp2_with fail
    refine (hp _).mono ?_
    rintro e w1 ⟨rfl, b1⟩
    go_wp2_with fail
    refine (implQuote s 34 _ hs).mono ?_
    rintro e w2 ⟨rfl, b2⟩
    go_wp2_with fail
    go_ret
    exact ⟨by rw [← HR.out]; rfl, b1.trans (b2.mono b1.size)⟩
  | true =>
    cases q with
    | true =>
      have HR : Hid (quoteT s 34 = r) := by unfold Hid; rw [← hr]; rfl
      clear hr
      go_enter Tryz.func30, Tryz.ntmps30
      go_wp2_with fail
      refine (hp _).mono ?_
      rintro e w1 ⟨rfl, b1⟩
      go_wp2_with fail
      refine (hk _).mono ?_
      rintro e w1' ⟨rfl, rfl⟩
      go_wp2_with fail
      refine (implQuote s 34 _ hs).mono ?_
      rintro e w2 ⟨rfl, b2⟩
      go_wp2_with fail
      go_ret
      exact ⟨by rw [← HR.out]; rfl, b1.trans (b2.mono b1.size)⟩
    | false =>
      have HR : Hid (s = r) := by unfold Hid; rw [← hr]; rfl
      clear hr
      go_enter Tryz.func30, Tryz.ntmps30
      go_wp2_with fail
      refine (hp _).mono ?_
      rintro e w1 ⟨rfl, b1⟩
      go_wp2_with fail
      refine (hk _).mono ?_
      rintro e w1' ⟨rfl, rfl⟩
      go_wp2_with fail
      refine (stringsClone s _ hs).mono ?_
      rintro e w2 ⟨rfl, b2⟩
      go_wp2_with fail
      go_ret
      exact ⟨by rw [← HR.out]; rfl, b1.trans (b2.mono b1.size)⟩

end Go.Proofs.YtpdcmmhhgnackaaGreatDoor

namespace Go.Proofs.YtpdcmmhhgnackaaGreatDoor
open Go.RowKit

theorem gPow : Tryz.prog.globalNamed "internal/strconv.uint64pow10" = some 3 := by kernel_rfl
theorem gPowType : (Tryz.prog.globals[3]?).map (·.type) = some 176 := by kernel_rfl
theorem cellsPow : Tryz.prog.cellsOf 176 = 20 := by kernel_rfl
theorem cellsU64 : Tryz.prog.cellsOf 166 = 1 := by kernel_rfl

theorem powTab_of {W : World} {rest : List (String × DataW Unit)} (h : laidMet Tryz.prog (("internal/strconv.uint64pow10", Rows.laid_internal_strconv_uint64pow10) :: rest) W) :
    Lib.TabIs Tryz.prog W "internal/strconv.uint64pow10" .u64 Lib.pow10Tab :=
  Lib.tabIs_of_head (rest := rest) gPow gPowType Tryz.underlying176 Tryz.underlying166 cellsU64 cellsPow h

theorem implDecText (n : Int) (w : World) (h0 : -9223372036854775808 ≤ n) (h1 : n ≤ 9223372036854775807) (ht : Lib.TabIs Tryz.prog w "internal/strconv.uint64pow10" .u64 Lib.pow10Tab) :
    Calls Tryz.prog 82 #[.int .i64 n] w fun e w' => e = .returned (.string (dec n)) ∧ Below w.heap.size w w' := by
  have HT := Lib.hid ht
  clear ht
  go_enter Tryz.func82, Tryz.ntmps82
  go_wp2_with (go_at_call 121; refine (Tryz.strconv_Itoa n h0 h1 w HT.out).mono ?_; rintro e w' ⟨rfl, k, os, rfl⟩)
  go_ret
  refine ⟨rfl, rfl, rfl, rfl, by simp [Go.Sort.grow], fun i hi => ?_⟩
  show (w.heap ++ os)[i]? = w.heap[i]?
  rw [Array.getElem?_append_left hi]

end Go.Proofs.YtpdcmmhhgnackaaGreatDoor

namespace Go.Proofs.YtpdcmmhhgnackaaGreatDoor
open Go.RowKit

def typeTextT (k l : Int) (s : ByteArray) : ByteArray :=
  if typeOkB k l s = false then ⟨#[]⟩ else if k = 0 then ⟨#[105, 110, 116]⟩ else if k = 1 then ⟨#[116, 101, 120, 116]⟩ else if k = 2 then ⟨#[98, 111, 111, 108]⟩
  else if k = 3 then ⟨#[99, 104, 97, 114, 40]⟩ ++ dec l ++ ⟨#[41]⟩ else ⟨#[101, 110, 117, 109, 32]⟩ ++ nameT s

def formText (f : ByteArray) (mx : Int) (nm : Bool) (l : Int) (s : ByteArray) : ByteArray :=
  if 0 < mx then f ++ ⟨#[40]⟩ ++ dec l ++ ⟨#[41]⟩ else if nm then f ++ ⟨#[32]⟩ ++ nameT s else f

theorem dec_size (n : Int) (h0 : -9223372036854775808 ≤ n) (h1 : n ≤ 9223372036854775807) : (dec n).size ≤ 21 := Lib.itoa_length_le n h0 h1

theorem quoteL_len3 (q : UInt8) (t : List UInt8) : (quoteL q t).length ≤ 2 * t.length + 2 := by
  have := dbl_len q t
  unfold dbl at this
  unfold quoteL
  simp only [List.length_append, List.length_cons, List.length_nil]
  omega

theorem nameT_size (s : ByteArray) : (nameT s).size ≤ 2 * s.size + 2 := by
  unfold nameT
  split
  · omega
  · have h1 := quoteL_len3 34 s.data.toList
    have h2 : (quoteT s 34).size = (quoteL 34 s.data.toList).length := by unfold quoteT; exact List.size_toArray
    have h3 : s.data.toList.length = s.size := by simp
    omega

theorem typeText_eq (k l : Int) (s : ByteArray) (h : 0 ≤ k ∧ k ≤ 4) : ∃ f mn mx nm, formOf k = .agg #[.string f, .int .i64 mn, .int .i64 mx, .bool nm] ∧ fitsB mn mx nm l s = typeOkB k l s ∧ f.size ≤ 10 ∧ (0 < mx → typeOkB k l s = true → 1 ≤ l ∧ l ≤ 100) ∧ (typeOkB k l s = true → formText f mx nm l s = typeTextT k l s) := by
  obtain ⟨f, mn, mx, nm, e1, e2⟩ := typeOk_eq k l s h
  refine ⟨f, mn, mx, nm, e1, e2, ?_⟩
  have hc : k = 0 ∨ k = 1 ∨ k = 2 ∨ k = 3 ∨ k = 4 := by omega
  have hin : ∀ a b c d a' b' c' d', (Value.agg #[.string a, .int .i64 b, .int .i64 c, .bool d]) = .agg #[.string a', .int .i64 b', .int .i64 c', .bool d'] → a = a' ∧ b = b' ∧ c = c' ∧ d = d' := fun a b c d a' b' c' d' e => by
    simp only [Value.agg.injEq, Array.mk.injEq, List.cons.injEq, Value.string.injEq, Value.int.injEq, Value.bool.injEq, and_true, true_and] at e
    exact e
  rcases hc with rfl | rfl | rfl | rfl | rfl
  · obtain ⟨rfl, rfl, rfl, rfl⟩ := hin _ _ _ _ _ _ _ _ e1
    exact ⟨by decide, fun h => absurd h (by decide), fun h => by unfold typeTextT; rw [h]; rfl⟩
  · obtain ⟨rfl, rfl, rfl, rfl⟩ := hin _ _ _ _ _ _ _ _ e1
    exact ⟨by decide, fun h => absurd h (by decide), fun h => by unfold typeTextT; rw [h]; rfl⟩
  · obtain ⟨rfl, rfl, rfl, rfl⟩ := hin _ _ _ _ _ _ _ _ e1
    exact ⟨by decide, fun h => absurd h (by decide), fun h => by unfold typeTextT; rw [h]; rfl⟩
  · obtain ⟨rfl, rfl, rfl, rfl⟩ := hin _ _ _ _ _ _ _ _ e1
    refine ⟨by decide, fun _ h => ?_, fun h => by unfold typeTextT; rw [h]; rfl⟩
    have : (inI l 1 100 && s.toList.isEmpty) = true := h
    rw [Bool.and_eq_true] at this
    have := this.1
    unfold inI at this
    rw [Bool.and_eq_true, decide_eq_true_eq, decide_eq_true_eq] at this
    exact this
  · obtain ⟨rfl, rfl, rfl, rfl⟩ := hin _ _ _ _ _ _ _ _ e1
    exact ⟨by decide, fun h => absurd h (by decide), fun h => by unfold typeTextT; rw [h]; rfl⟩

set_option maxHeartbeats 2000000 in
theorem specTypeText (k l : Int) (s : ByteArray) (w : World) (hs : s.size ≤ 1048576) (r : ByteArray) (hr : typeTextT k l s = r) :
    Calls Tryz.prog 25 #[.agg #[.int .i64 k, .int .i64 l, .string s]] w fun e w' => e = .returned (.string r) ∧ Below w.heap.size w w' := by
  have hlay := Lib.hid (lay1_new w 29 k l s)
  cases hok : typeOkB k l s with
  | false =>
    have HR : Hid (r = ⟨#[]⟩) := by unfold Hid; rw [← hr, typeTextT, if_pos hok]
    have HO := Lib.hid hok
    clear hr hok
    go_enter Tryz.func25, Tryz.ntmps25
    go_wp2_with fail
    refine (specTypeOk k l s _ hs false HO.out).mono ?_
    rintro e w1 ⟨rfl, b1⟩
    go_wp2_with fail
    go_ret
    exact ⟨by rw [HR.out]; rfl, (hlay.out.below b1).2.2⟩
  | true =>
    have HO := Lib.hid hok
    have hc : k = 0 ∨ k = 1 ∨ k = 2 ∨ k = 3 ∨ k = 4 := by
      rcases Classical.em (k = 0 ∨ k = 1 ∨ k = 2 ∨ k = 3 ∨ k = 4) with h | h
      · exact h
      · rw [typeOkB, if_neg (by omega), if_neg (by omega), if_neg (by omega)] at hok
        cases hok
    rcases hc with rfl | rfl | rfl | rfl | rfl
    · have HR : Hid (r = ⟨#[105, 110, 116]⟩) := by unfold Hid; rw [← hr, typeTextT, hok]; rfl
      clear hr hok
      go_enter Tryz.func25, Tryz.ntmps25
      go_wp2_with fail
      refine (specTypeOk _ l s _ hs true HO.out).mono ?_
      rintro e w1 ⟨rfl, b1⟩
      have L1 := Lib.hid (hlay.out.below b1)
      obtain ⟨⟨c0, c1, c2⟩, _, _⟩ := L1.out
      clear b1
      go_wp2_with fail
      go_ret
      exact ⟨by rw [HR.out]; rfl, L1.out.2.2⟩
    · have HR : Hid (r = ⟨#[116, 101, 120, 116]⟩) := by unfold Hid; rw [← hr, typeTextT, hok]; rfl
      clear hr hok
      go_enter Tryz.func25, Tryz.ntmps25
      go_wp2_with fail
      refine (specTypeOk _ l s _ hs true HO.out).mono ?_
      rintro e w1 ⟨rfl, b1⟩
      have L1 := Lib.hid (hlay.out.below b1)
      obtain ⟨⟨c0, c1, c2⟩, _, _⟩ := L1.out
      clear b1
      go_wp2_with fail
      go_ret
      exact ⟨by rw [HR.out]; rfl, L1.out.2.2⟩
    · have HR : Hid (r = ⟨#[98, 111, 111, 108]⟩) := by unfold Hid; rw [← hr, typeTextT, hok]; rfl
      clear hr hok
      go_enter Tryz.func25, Tryz.ntmps25
      go_wp2_with fail
      refine (specTypeOk _ l s _ hs true HO.out).mono ?_
      rintro e w1 ⟨rfl, b1⟩
      have L1 := Lib.hid (hlay.out.below b1)
      obtain ⟨⟨c0, c1, c2⟩, _, _⟩ := L1.out
      clear b1
      go_wp2_with fail
      go_ret
      exact ⟨by rw [HR.out]; rfl, L1.out.2.2⟩
    · have HR : Hid (r = ⟨#[99, 104, 97, 114, 40]⟩ ++ dec l ++ ⟨#[41]⟩) := by unfold Hid; rw [← hr, typeTextT, hok]; rfl
      have hl : 1 ≤ l ∧ l ≤ 100 := by
        have : (inI l 1 100 && s.toList.isEmpty) = true := hok
        rw [Bool.and_eq_true] at this
        have := this.1
        unfold inI at this
        rw [Bool.and_eq_true, decide_eq_true_eq, decide_eq_true_eq] at this
        exact this
      have hz := dec_size l (by omega) (by omega)
      have hdt := fun w => specDecText l w (by omega) (by omega)
      generalize dec l = D at HR hz hdt
      clear hr hok hl
      go_enter Tryz.func25, Tryz.ntmps25
      go_wp2_with fail
      refine (specTypeOk _ l s _ hs true HO.out).mono ?_
      rintro e w1 ⟨rfl, b1⟩
      have L1 := Lib.hid (hlay.out.below b1)
      obtain ⟨⟨c0, c1, c2⟩, _, _⟩ := L1.out
      clear b1
      go_wp2_with fail
      refine (hdt _).mono ?_
      rintro e w2 ⟨rfl, rfl⟩
      go_wp2_with fail
      go_ret
      exact ⟨by rw [HR.out]; rfl, L1.out.2.2⟩
    · have HR : Hid (r = ⟨#[101, 110, 117, 109, 32]⟩ ++ nameT s) := by unfold Hid; rw [← hr, typeTextT, hok]; rfl
      have hz := nameT_size s
      have hdt := fun w => specPutName s w hs _ rfl
      generalize nameT s = D at HR hz hdt
      clear hr hok
      go_enter Tryz.func25, Tryz.ntmps25
      go_wp2_with fail
      refine (specTypeOk _ l s _ hs true HO.out).mono ?_
      rintro e w1 ⟨rfl, b1⟩
      have L1 := Lib.hid (hlay.out.below b1)
      obtain ⟨⟨c0, c1, c2⟩, _, _⟩ := L1.out
      clear b1
      go_wp2_with fail
      refine (hdt _).mono ?_
      rintro e w2 ⟨rfl, b2⟩
      go_wp2_with fail
      go_ret
      exact ⟨by rw [HR.out]; rfl, (L1.out.below b2).2.2⟩

end Go.Proofs.YtpdcmmhhgnackaaGreatDoor

namespace Go.Proofs.YtpdcmmhhgnackaaGreatDoor

/-- A word: its kind and its text. -/
abbrev W := Int × List UInt8

def bindsK (k : Int) : Nat :=
  if k = 9 then 1 else if k = 8 then 2 else if k = 6 then 3
  else if k = 7 ∨ k = 10 ∨ k = 11 ∨ k = 12 ∨ k = 13 ∨ k = 14 ∨ k = 15 then 4
  else if k = 16 ∨ k = 17 then 5 else if k = 18 then 6 else 7

def wAnd : List UInt8 := [97, 110, 100]
def wOr : List UInt8 := [111, 114]
def wNot : List UInt8 := [110, 111, 116]
def wIs : List UInt8 := [105, 115]
def wNull : List UInt8 := [110, 117, 108, 108]
def wTrue : List UInt8 := [116, 114, 117, 101]
def wFalse : List UInt8 := [102, 97, 108, 115, 101]

/-- What stands between two kids. -/
def signK (k : Int) : List UInt8 :=
  if k = 8 then wAnd else if k = 9 then wOr else if k = 10 then [61] else if k = 11 then [60, 62] else if k = 12 then [60] else if k = 13 then [60, 61]
  else if k = 14 then [62] else if k = 15 then [62, 61] else if k = 16 then [43] else if k = 17 then [45] else if k = 18 then [42] else []

def isW (x : W) (t : List UInt8) : Bool := (x.1 == 0 || x.1 == 4) && x.2 == t

/-- The first word is t. -/
def hdW : List W → List UInt8 → Bool
  | x :: _, t => isW x t
  | [], _ => false

/-- The kind of two kids that binds b whose sign is x. -/
def nextK (x : W) (b : Nat) : Option Int := ([8, 9, 10, 11, 12, 13, 14, 15, 16, 17, 18] : List Int).find? fun k => bindsK k == b && isW x (signK k)

def txt (l : List UInt8) : ByteArray := ⟨l.toArray⟩
def leaf (k : Int) (t : List UInt8) (n : Int) : Ex := .mk k (txt t) n []
def node (k : Int) (l : List Ex) : Ex := .mk k (txt []) 0 l

mutual
def atomP : Nat → List W → Option (Ex × List W)
  | 0, _ => none
  | _ + 1, [] => none
  | f + 1, x :: r =>
    if x.1 = 2 then some (leaf 1 [] (readD x.2), r)
    else if x.1 = 3 then some (leaf 2 x.2 0, r)
    else if x.1 = 1 ∨ (x.1 = 0 ∧ keptB x.2 = false) then some (leaf 0 x.2 0, r)
    else if isW x wTrue then some (leaf 3 [] 0, r)
    else if isW x wFalse then some (leaf 4 [] 0, r)
    else if isW x wNull then some (leaf 5 [] 0, r)
    else if isW x [40] then
      match anyP f 1 r with
      | some (e, y :: r') => if isW y [41] then some (e, r') else none
      | _ => none
    else none
def anyP : Nat → Nat → List W → Option (Ex × List W)
  | 0, _, _ => none
  | f + 1, L, ts =>
    if L = 7 then atomP f ts
    else if L = 3 ∧ hdW ts wNot = true then
      match anyP f 3 ts.tail with
      | some (k, r) => some (node 6 [k], r)
      | none => none
    else match anyP f (L + 1) ts with
      | some (e, r) => some (loopP f L e r)
      | none => none
def loopP : Nat → Nat → Ex → List W → Ex × List W
  | 0, _, e, r => (e, r)
  | f + 1, L, e, r =>
    match r with
    | [] => (e, r)
    | x :: r' =>
      if L = 4 ∧ isW x wIs = true ∧ hdW r' wNull = true then (node 7 [e], r'.tail)
      else match nextK x L with
        | none => (e, r)
        | some k => match anyP f (L + 1) r' with
          | none => (e, r)
          | some (s, r'') => if L = 4 then (node k [e, s], r'') else loopP f L (node k [e, s]) r''
end

/-! ### the fuel is enough -/
def enough (f L : Nat) (ts : List W) : Prop := 10 * ts.length + 10 ≤ f + L
def enoughL (f L : Nat) (r : List W) : Prop := 10 * (r.length + 1) + 9 ≤ f + L

/-- What is read takes a word at least. -/
theorem reads_len : ∀ f : Nat, (∀ ts e r, atomP f ts = some (e, r) → r.length < ts.length) ∧ (∀ L ts e r, anyP f L ts = some (e, r) → r.length < ts.length) ∧ (∀ L e r, (loopP f L e r).2.length ≤ r.length) := by
  intro f
  induction f with
  | zero =>
    refine ⟨fun ts e r h => ?_, fun L ts e r h => ?_, fun L e r => ?_⟩
    · cases ts <;> simp [atomP] at h
    · simp [anyP] at h
    · simp [loopP]
  | succ f ih =>
    obtain ⟨ihA, ihN, ihL⟩ := ih
    refine ⟨fun ts e r h => ?_, fun L ts e r h => ?_, fun L e r => ?_⟩
    · cases ts with
      | nil => simp [atomP] at h
      | cons x q =>
        rw [atomP] at h
        split at h
        · cases h; simp
        split at h
        · cases h; simp
        split at h
        · cases h; simp
        split at h
        · cases h; simp
        split at h
        · cases h; simp
        split at h
        · cases h; simp
        split at h
        · split at h
          · rename_i e' y r' he
            have := ihN _ _ _ _ he
            split at h
            · cases h; simp at this ⊢; omega
            · cases h
          · cases h
        · cases h
    · rw [anyP] at h
      split at h
      · exact ihA _ _ _ h
      split at h
      · rename_i hn
        split at h
        · rename_i k r' he
          cases h
          have := ihN _ _ _ _ he
          have h2 : ts.tail.length ≤ ts.length := by simp
          omega
        · cases h
      · split at h
        · rename_i e' r' he
          have h1 := ihN _ _ _ _ he
          have h2 := ihL L e' r'
          rw [Option.some.inj h] at h2
          have h3 : r.length ≤ r'.length := h2
          omega
        · cases h
    · cases r with
      | nil => simp [loopP]
      | cons x r' =>
        rw [loopP]
        split
        · simp; omega
        · split
          · simp
          · split
            · simp
            · rename_i s r'' he
              have h1 := ihN _ _ _ _ he
              split
              · simp only [List.length_cons]; omega
              · simp only [List.length_cons]
                exact Nat.le_trans (ihL L _ r'') (by omega)

end Go.Proofs.YtpdcmmhhgnackaaGreatDoor

namespace Go.Proofs.YtpdcmmhhgnackaaGreatDoor

theorem decFrom_snocB : ∀ (l : List UInt8) (acc n : Nat) (b : UInt8) (d : Nat), Lib.decFrom acc l = some n → Lib.digitVal b = some d → Lib.decFrom acc (l ++ [b]) = some (n * 10 + d)
  | [], acc, n, b, d, h, hd => by
    cases h
    simp [Lib.decFrom, hd]
  | x :: r, acc, n, b, d, h, hd => by
    rw [Lib.decFrom] at h
    rw [List.cons_append, Lib.decFrom]
    cases hv : Lib.digitVal x with
    | none => rw [hv] at h; cases h
    | some e => rw [hv] at h; exact decFrom_snocB r _ n b d h hd

theorem digit_ofB (d : Nat) (h : d < 10) : Lib.digitVal (UInt8.ofNat (48 + d)) = some d := by
  have h2 : (UInt8.ofNat (48 + d)).toNat = 48 + d := by rw [UInt8.toNat_ofNat']; omega
  unfold Lib.digitVal
  rw [h2, if_pos (by omega)]
  congr 1
  omega

theorem decFrom_digitsB (u : Nat) : Lib.decFrom 0 (Lib.decDigits u) = some u := by
  induction u using Nat.strongRecOn with
  | ind u ih =>
    by_cases h : u < 10
    · rw [Lib.decDigits_one h, Lib.decFrom, digit_ofB u h]
      simp [Lib.decFrom]
    · rw [Lib.decDigits, dif_neg h, decFrom_snocB _ _ _ _ _ (ih (u / 10) (by omega)) (digit_ofB (u % 10) (by omega))]
      congr 1
      omega

theorem decDigits_neB (u : Nat) : Lib.decDigits u ≠ [] := by
  intro h
  have h1 := Lib.decDigits_length u
  have h2 := Lib.nDigits_pos u
  rw [h] at h1
  simp at h1
  omega

theorem itoa_natB (m : Nat) : Lib.itoa (m : Int) = Lib.decDigits m := by
  unfold Lib.itoa
  rw [if_neg (by omega), Int.toNat_natCast]

theorem nDigits_leB : ∀ (k u : Nat), 1 ≤ k → u < 10 ^ k → Lib.nDigits u ≤ k
  | 0, _, h, _ => by omega
  | k + 1, u, _, h => by
    by_cases hu : u < 10
    · rw [Lib.nDigits_small hu]; omega
    · rw [Lib.nDigits_big hu]
      rcases Nat.eq_zero_or_pos k with rfl | hk
      · simp at h; omega
      · have : u / 10 < 10 ^ k := by
          rw [Nat.pow_succ] at h
          exact Nat.div_lt_of_lt_mul (by rw [Nat.mul_comm]; exact h)
        have := nDigits_leB k (u / 10) hk this
        omega

theorem readD_inB (n : Int) (h0 : 0 ≤ n) (h1 : n ≤ 999999999) : readD (Lib.itoa n) = n := by
  obtain ⟨m, rfl⟩ := Int.eq_ofNat_of_zero_le h0
  have hl : (Lib.decDigits m).length ≤ 9 := by
    rw [Lib.decDigits_length]
    exact nDigits_leB 9 m (by omega) (by omega)
  rw [itoa_natB, readD_end hl (decDigits_neB m) (decFrom_digitsB m), itoa_natB, if_pos rfl]

end Go.Proofs.YtpdcmmhhgnackaaGreatDoor

namespace Go.Proofs.YtpdcmmhhgnackaaGreatDoor

def kidsK (k : Int) : Int := if k < 0 ∨ 18 < k then -1 else if k ≤ 5 then 0 else if k ≤ 7 then 1 else 2

/-- What one node asks for, but for its kids' own shape. -/
def node1 (k : Int) (t : ByteArray) (n : Int) (m : Nat) : Bool :=
  decide ((m : Int) = kidsK k) && (if k = 0 then nameB t.data.toList else if k = 2 then decide (t.size ≤ 100) else t.toList.isEmpty) && (if k = 1 then decide (0 ≤ n ∧ n ≤ 999999999) else decide (n = 0))

mutual
def shapeE : Ex → Bool
  | .mk k t n kids => node1 k t n kids.length && shapeL kids
def shapeL : List Ex → Bool
  | [] => true
  | e :: r => shapeE e && shapeL r
end

def leafW (k : Int) (t : ByteArray) (n : Int) : W :=
  if k = 0 then (if plainB t.data.toList && !keptB t.data.toList then (0, t.data.toList) else (1, t.data.toList))
  else if k = 1 then (2, Lib.itoa n) else if k = 2 then (3, t.data.toList) else if k = 3 then (0, wTrue) else if k = 4 then (0, wFalse) else (0, wNull)

def firstK (k : Int) : Nat := if bindsK k = 4 then 5 else bindsK k
def signW (k : Int) : W := (if k = 8 ∨ k = 9 then 0 else 4, signK k)

def wordsE : Ex → Nat → List W
  | .mk k t n [], least => if bindsK k < least then (4, [40]) :: (leafW k t n :: [(4, [41])]) else [leafW k t n]
  | .mk k _ _ [a], least =>
    if k = 6 then (if bindsK k < least then (4, [40]) :: ((0, wNot) :: wordsE a 3 ++ [(4, [41])]) else (0, wNot) :: wordsE a 3)
    else (if bindsK k < least then (4, [40]) :: (wordsE a 5 ++ [(0, wIs), (0, wNull)] ++ [(4, [41])]) else wordsE a 5 ++ [(0, wIs), (0, wNull)])
  | .mk k _ _ (a :: b :: _), least =>
    if bindsK k < least then (4, [40]) :: (wordsE a (firstK k) ++ signW k :: wordsE b (bindsK k + 1) ++ [(4, [41])]) else wordsE a (firstK k) ++ signW k :: wordsE b (bindsK k + 1)

theorem words_pos (e : Ex) (L : Nat) : 0 < (wordsE e L).length := by
  obtain ⟨k, t, n, kids⟩ := e
  match kids with
  | [] => rw [wordsE]; split <;> simp
  | [a] => rw [wordsE]; split <;> split <;> simp
  | a :: b :: r => rw [wordsE]; split <;> (simp; try omega)

/-- The brackets that are wanted. -/
theorem words_in {e : Ex} {L : Nat} (h : bindsK e.kind < L) : wordsE e L = (4, [40]) :: (wordsE e 1 ++ [(4, [41])]) := by
  obtain ⟨k, t, n, kids⟩ := e
  have h1 : ¬ bindsK k < 1 := by unfold bindsK; (repeat' split) <;> omega
  have h2 : bindsK k < L := h
  match kids with
  | [] => rw [wordsE, wordsE, if_pos h2, if_neg h1]; rfl
  | [a] =>
    rw [wordsE, wordsE]
    by_cases hk : k = 6
    · rw [if_pos hk, if_pos hk, if_pos h2, if_neg h1]
    · rw [if_neg hk, if_neg hk, if_pos h2, if_neg h1]
  | a :: b :: r => rw [wordsE, wordsE, if_pos h2, if_neg h1]

theorem words_out {e : Ex} {L L' : Nat} (h : ¬ bindsK e.kind < L) (h' : ¬ bindsK e.kind < L') : wordsE e L = wordsE e L' := by
  obtain ⟨k, t, n, kids⟩ := e
  have h1 : ¬ bindsK k < L := h
  have h2 : ¬ bindsK k < L' := h'
  match kids with
  | [] => rw [wordsE, wordsE, if_neg h1, if_neg h2]
  | [a] =>
    rw [wordsE, wordsE]
    by_cases hk : k = 6
    · rw [if_pos hk, if_pos hk, if_neg h1, if_neg h2]
    · rw [if_neg hk, if_neg hk, if_neg h1, if_neg h2]
  | a :: b :: r => rw [wordsE, wordsE, if_neg h1, if_neg h2]

/-- Nothing of strength L or more goes on here. -/
def Stop (L : Nat) (rest : List W) : Prop := ∀ x r, rest = x :: r → (∀ b, L ≤ b → b ≤ 6 → nextK x b = none) ∧ (L ≤ 4 → isW x wIs = false)

theorem Stop.mono {L L' : Nat} {rest : List W} (h : Stop L rest) (hl : L ≤ L') : Stop L' rest := fun x r e =>
  ⟨fun b hb hb' => (h x r e).1 b (by omega) hb', fun h4 => (h x r e).2 (by omega)⟩
theorem stop_nil (L : Nat) : Stop L [] := fun _ _ e => by cases e

theorem loop_stop {f L : Nat} {e : Ex} {rest : List W} (h : Stop L rest) (hL : L ≤ 6) : loopP f L e rest = (e, rest) := by
  cases f with
  | zero => rw [loopP]
  | succ f =>
    cases rest with
    | nil => rw [loopP]
    | cons x r =>
      obtain ⟨h1, h2⟩ := h x r rfl
      rw [loopP]
      rw [if_neg (by rintro ⟨rfl, h3, _⟩; rw [h2 (by omega)] at h3; cases h3), h1 L (Nat.le_refl _) hL]

def RTat (e : Ex) (L : Nat) : Prop := ∀ rest f, enough f L (wordsE e L ++ rest) → Stop L rest → anyP f L (wordsE e L ++ rest) = some (e, rest)
def Aat (e : Ex) (L : Nat) : Prop := ∀ rest f, enough f L (wordsE e L ++ rest) → Stop (L + 1) rest → ∃ f', enoughL f' L rest ∧ anyP f L (wordsE e L ++ rest) = some (loopP f' L e rest)

/-- One level down, where e is no sum of that level itself. -/
theorem step_down {e : Ex} {L : Nat} (hL : L ≤ 6) (hw : wordsE e L = wordsE e (L + 1)) (hn : L = 3 → ∀ rest, hdW (wordsE e L ++ rest) wNot = false) (h : RTat e (L + 1)) : Aat e L := by
  intro rest f hf hs
  have hp := words_pos e L
  unfold enough at hf
  rw [List.length_append] at hf
  obtain ⟨f, rfl⟩ : ∃ g, f = g + 1 := ⟨f - 1, by omega⟩
  refine ⟨f, by unfold enoughL; omega, ?_⟩
  rw [anyP, if_neg (by omega), if_neg (by rintro ⟨h3, h4⟩; rw [hn h3 rest] at h4; cases h4), hw]
  have := h rest f (by unfold enough; rw [← hw, List.length_append]; omega) hs
  rw [this]

theorem rt_of_a {e : Ex} {L : Nat} (hL : L ≤ 6) (h : Aat e L) : RTat e L := by
  intro rest f hf hs
  obtain ⟨f', _, h2⟩ := h rest f hf (hs.mono (by omega))
  rw [h2, loop_stop hs hL]

end Go.Proofs.YtpdcmmhhgnackaaGreatDoor

namespace Go.Proofs.YtpdcmmhhgnackaaGreatDoor

theorem binds_range (k : Int) : 1 ≤ bindsK k ∧ bindsK k ≤ 7 := by unfold bindsK; (repeat' split) <;> omega

/-- A sign of two kids, and no other. -/
theorem sign_next : ∀ k ∈ ([8, 9, 10, 11, 12, 13, 14, 15, 16, 17, 18] : List Int), ∀ b, b < 7 → nextK (signW k) b = if b = bindsK k then some k else none := by decide
theorem sign_is : ∀ k ∈ ([8, 9, 10, 11, 12, 13, 14, 15, 16, 17, 18] : List Int), isW (signW k) wIs = false := by decide
theorem shut_next : ∀ b, b < 7 → nextK (4, [41]) b = none := by decide
theorem is_next : ∀ b, b < 7 → nextK (0, wIs) b = none := by decide

theorem two_mem {k : Int} (h : kidsK k = 2) : k ∈ ([8, 9, 10, 11, 12, 13, 14, 15, 16, 17, 18] : List Int) := by
  unfold kidsK at h
  have : 8 ≤ k ∧ k ≤ 18 := by
    split at h
    · omega
    · split at h
      · omega
      · split at h <;> omega
  have hc : k = 8 ∨ k = 9 ∨ k = 10 ∨ k = 11 ∨ k = 12 ∨ k = 13 ∨ k = 14 ∨ k = 15 ∨ k = 16 ∨ k = 17 ∨ k = 18 := by omega
  rcases hc with rfl | rfl | rfl | rfl | rfl | rfl | rfl | rfl | rfl | rfl | rfl <;> decide

theorem stop_sign {k : Int} (hk : k ∈ ([8, 9, 10, 11, 12, 13, 14, 15, 16, 17, 18] : List Int)) (r : List W) : Stop (bindsK k + 1) (signW k :: r) := by
  intro x q e
  cases e
  refine ⟨fun b hb hb' => ?_, fun _ => sign_is k hk⟩
  rw [sign_next k hk b (by omega), if_neg (by omega)]

theorem stop_shut (L : Nat) (r : List W) : Stop L ((4, [41]) :: r) := by
  intro x q e
  cases e
  exact ⟨fun b _ hb' => shut_next b (by omega), fun _ => by decide⟩

theorem stop_is (r : List W) : Stop 5 ((0, wIs) :: r) := by
  intro x q e
  cases e
  exact ⟨fun b _ hb' => is_next b (by omega), fun h => by omega⟩

/-- The words of e do not begin with a not, unless e is one. -/
theorem head_not : ∀ (n : Nat) (e : Ex), e.nodes ≤ n → shapeE e = true → 4 ≤ bindsK e.kind → ∀ rest, hdW (wordsE e 1 ++ rest) wNot = false := by
  intro n
  induction n with
  | zero => intro e h; rw [Ex.nodes_eq] at h; omega
  | succ n ih =>
    intro e hn hs hb rest
    obtain ⟨k, t, m, kids⟩ := e
    rw [Ex.nodes_eq] at hn
    have hb' : 4 ≤ bindsK k := hb
    have h1 : ¬ bindsK k < 1 := by omega
    rw [shapeE, Bool.and_eq_true] at hs
    have inner : ∀ (a : Ex) (L : Nat) (q : List W), 4 ≤ L → a.nodes ≤ n → shapeE a = true → hdW (wordsE a L ++ q) wNot = false := fun a L q hL ha hsa => by
      by_cases hp : bindsK a.kind < L
      · rw [words_in hp]; rfl
      · rw [words_out hp (show ¬ bindsK a.kind < 1 by omega)]
        exact ih a ha hsa (by omega) q
    match kids, hs, hn with
    | [], hs, _ =>
      rw [wordsE, if_neg h1]
      have hn1 := hs.1
      show isW (leafW k t m) wNot = false
      unfold leafW
      split
      · rename_i hk0
        split
        · rename_i hpl
          rw [Bool.and_eq_true, Bool.not_eq_true'] at hpl
          unfold isW
          cases hq : (t.data.toList == wNot) with
          | false => simp [hq]
          | true =>
            have : t.data.toList = wNot := by simpa using hq
            rw [this] at hpl
            exact absurd hpl.2 (by decide)
        · rfl
      · split
        · rfl
        · split
          · rfl
          · split
            · rfl
            · split <;> rfl
    | [a], hs, hn =>
      have hsa : shapeE a = true := by have := hs.2; rw [shapeL, Bool.and_eq_true] at this; exact this.1
      have hna : a.nodes ≤ n := by change 1 + nodesL [a] ≤ n + 1 at hn; rw [nodesL, nodesL] at hn; omega
      rw [wordsE]
      by_cases hk : k = 6
      · subst hk; exact absurd hb' (by decide)
      · rw [if_neg hk, if_neg h1, List.append_assoc]
        exact inner a 5 _ (by omega) hna hsa
    | a :: b :: r, hs, hn =>
      have hsa : shapeE a = true := by have := hs.2; rw [shapeL, Bool.and_eq_true] at this; exact this.1
      have hna : a.nodes ≤ n := by change 1 + nodesL (a :: b :: r) ≤ n + 1 at hn; rw [nodesL] at hn; omega
      rw [wordsE, if_neg h1, List.append_assoc]
      exact inner a _ _ (by unfold firstK; split <;> omega) hna hsa

/-- From the strength of e itself to every one. -/
theorem all_levels {e : Ex} (hs : shapeE e = true) (own : RTat e (bindsK e.kind)) : ∀ L, 1 ≤ L → L ≤ 7 → RTat e L := by
  have hr := binds_range e.kind
  have notIn : ∀ L, bindsK e.kind < L → ∀ rest, hdW (wordsE e L ++ rest) wNot = false := fun L h rest => by rw [words_in h]; rfl
  have down : ∀ d L, L + d = bindsK e.kind → 1 ≤ L → RTat e L := by
    intro d
    induction d with
    | zero => intro L h _; have : L = bindsK e.kind := by omega
              rw [this]; exact own
    | succ d ih =>
      intro L h hL
      refine rt_of_a (by omega) (step_down (by omega) (words_out (by omega) (by omega)) ?_ (ih (L + 1) (by omega) (by omega)))
      intro h3 rest
      rw [words_out (L := L) (L' := 1) (by omega) (by omega)]
      exact head_not _ e (Nat.le_refl _) hs (by omega) rest
  have one : RTat e 1 := down (bindsK e.kind - 1) 1 (by omega) (Nat.le_refl _)
  have top : bindsK e.kind < 7 → RTat e 7 := by
    intro h rest f hf _
    rw [words_in h] at hf ⊢
    unfold enough at hf
    simp only [List.cons_append, List.append_assoc, List.length_cons, List.length_append, List.length_nil] at hf ⊢
    obtain ⟨f, rfl⟩ : ∃ g, f = g + 2 := ⟨f - 2, by omega⟩
    rw [anyP, if_pos rfl, atomP, if_neg (by decide), if_neg (by decide), if_neg (by decide), if_neg (by decide), if_neg (by decide), if_neg (by decide), if_pos (by decide)]
    have h2 := one ((4, [41]) :: ([] ++ rest)) f (by unfold enough; simp only [List.length_append, List.length_cons, List.nil_append]; omega) (stop_shut 1 _)
    simp only [List.nil_append] at h2 ⊢
    rw [h2]
    rfl
  have up : ∀ d L, L + d = 7 → bindsK e.kind < L → RTat e L := by
    intro d
    induction d with
    | zero => intro L h hb; have : L = 7 := by omega
              subst this; exact top hb
    | succ d ih =>
      intro L h hb
      exact rt_of_a (by omega) (step_down (by omega) (by rw [words_in hb, words_in (show bindsK e.kind < L + 1 by omega)]) (fun _ => notIn L hb) (ih (L + 1) (by omega) (by omega)))
  intro L h1 h7
  by_cases h : L ≤ bindsK e.kind
  · exact down (bindsK e.kind - L) L (by omega) h1
  · exact up (7 - L) L (by omega) (by omega)

/-- .. and ahead of more of that strength. -/
theorem all_sums {e : Ex} (hall : ∀ L, 1 ≤ L → L ≤ 7 → RTat e L) {L : Nat} (h1 : 1 ≤ L) (h6 : L ≤ 6) (h3 : L ≠ 3) (hne : L ≠ bindsK e.kind) : Aat e L := by
  refine step_down h6 ?_ (fun h => absurd h h3) (hall (L + 1) (by omega) (by omega))
  by_cases hb : bindsK e.kind < L
  · rw [words_in hb, words_in (show bindsK e.kind < L + 1 by omega)]
  · exact words_out hb (by omega)

end Go.Proofs.YtpdcmmhhgnackaaGreatDoor
