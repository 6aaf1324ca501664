/- A strings.Builder that the call itself has laid: what WriteByte puts behind, what String answers; walked over the library's own text. -/
import Derived.Test.YtnepfnbmmdcgpaaDoorBytes1
import Derived.Test.YtnepfnbmmdcgpaaDoorShelf
import Derived.Lib.Builder
namespace Go.Proofs.YtnepfnbmmdcgpaaDoor
open Go.RowKit

theorem Tryd.sizeBuilder : (Tryd.prog.info? 105).map (·.size) = some 2 := by kernel_rfl
theorem Tryd.liesBuilder : liesAt Tryd.prog Tryd.prog.depth 105 (2 / Tryd.prog.cellsOf 105) 0 105 1 = true := by kernel_rfl

set_option maxRecDepth 100000 in
set_option maxHeartbeats 1000000 in
theorem copyCheckUsed (b : Nat) (w : World) (h0 : w.cell? ⟨b, 0, none⟩ = some (.pointer (some ⟨b, 0, none⟩))) :
    Calls Tryd.prog 95 #[.pointer (some ⟨b, 0, none⟩)] w fun e w' => e = .returned (.tuple #[]) ∧ w = w' := by
  obtain ⟨j, hj, _⟩ := Option.map_eq_some_iff.1 Tryd.sizeBuilder
  go_enter Tryd.func95, Tryd.ntmps95
  go_wp2
  rw [Lib.run_neq_ptr_same w _ Tryd.underlying103 hj]
  go_wp2
  go_end0
  exact ⟨rfl, rfl⟩

set_option maxRecDepth 100000 in
set_option maxHeartbeats 1000000 in
theorem copyCheckFresh (b : Nat) (w : World) (h0 : w.cell? ⟨b, 0, none⟩ = some (.pointer none)) (hsh : w.shape? b = some (105, 2)) (hfz : w.frozen? ⟨b, 0, none⟩ = false) :
    Calls Tryd.prog 95 #[.pointer (some ⟨b, 0, none⟩)] w fun e w' => e = .returned (.tuple #[]) ∧ w.setCell ⟨b, 0, none⟩ (.pointer (some ⟨b, 0, none⟩)) = w' := by
  obtain ⟨j, hj, hjs⟩ := Option.map_eq_some_iff.1 Tryd.sizeBuilder
  go_enter Tryd.func95, Tryd.ntmps95
  go_wp2
  rw [Lib.run_to_unsafe w ⟨b, 0, none⟩ Tryd.underlying103 Tryd.underlying122 hj (by rw [hjs]; decide) hsh (Nat.zero_lt_succ 1)]
  simp only [Result.andThen]
  rw [Oper.upon_value]
  go_wp2
  rw [run_callFunc_extern Tryd.func101 (by kernel_rfl) (by kernel_rfl) (by kernel_rfl) (e := Extern.AbiNoEscape.same) (by kernel_rfl)]
  rw [Lib.run_noEscape]
  simp only [Result.andThen]
  rw [Oper.upon_value]
  go_wp2
  rw [Lib.run_from_unsafe w ⟨b, 0, none⟩ Tryd.underlying122 Tryd.underlying103 hj hsh Tryd.liesBuilder]
  simp only [Result.andThen]
  rw [Oper.upon_value]
  go_wp2
  go_end0
  exact ⟨rfl, rfl⟩

/-- The builder in block b holds the bytes l in a row (a, c) that lies behind it. -/
def Bld (w : World) (b : Nat) (a : Option Addr) (c : Nat) (l : List UInt8) : Prop :=
  ∃ p, (p = .pointer none ∨ p = .pointer (some ⟨b, 0, none⟩)) ∧ w.heap[b]? = some (.cells #[p, .slice a l.length c] 105 (0, 0)) ∧ OwnB w (b + 1) a c l

/-- Of what was there block b alone has turned, and the row. -/
structure Wrote (b : Nat) (row : Option Nat) (w w' : World) : Prop where
  os : w'.os = w.os
  tape : w'.tape = w.tape
  output : w'.output = w.output
  size : w.heap.size ≤ w'.heap.size
  block : ∀ k, k < w.heap.size → k ≠ b → some k ≠ row → w'.heap[k]? = w.heap[k]?

theorem Bld.lt {w : World} {b : Nat} {a : Option Addr} {c : Nat} {l : List UInt8} (h : Bld w b a c l) : b < w.heap.size := by
  obtain ⟨p, _, hg, _⟩ := h
  rcases Nat.lt_or_ge b w.heap.size with hlt | hge
  · exact hlt
  · rw [Array.getElem?_eq_none hge] at hg; cases hg

theorem Bld.own {w : World} {b : Nat} {a : Option Addr} {c : Nat} {l : List UInt8} (h : Bld w b a c l) : OwnB w (b + 1) a c l := by
  obtain ⟨_, _, _, h⟩ := h; exact h

theorem Bld.new (w : World) : Bld (w.alloc (.cells #[.pointer none, .slice none 0 0] 105)) w.heap.size none 0 [] :=
  ⟨_, .inl rfl, heap_alloc_new _ _, World.ownsRow_nil _ _ _ _⟩

theorem Bld.below {w w' : World} {b : Nat} {a : Option Addr} {c : Nat} {l : List UInt8} (h : Bld w b a c l) (hb : Below w.heap.size w w') : Bld w' b a c l := by
  have hlt := h.lt
  obtain ⟨p, hp, hg, ho⟩ := h
  exact ⟨p, hp, (hb.block b hlt).trans hg, ho.below hb⟩

theorem Bld.grown {w w' : World} {b : Nat} {a : Option Addr} {c : Nat} {l : List UInt8} {row : Option Nat} (h : Bld w b a c l) (hb : w.grownBy w' row) (h1 : row ≠ some b) (h2 : ∀ g, (Value.slice a l.length c).ownBlock = some g → row ≠ some g) : Bld w' b a c l := by
  have hlt := h.lt
  obtain ⟨p, hp, hg, ho⟩ := h
  exact ⟨p, hp, (hb.block b hlt (fun e => h1 e.symm)).trans hg, ho.kept hb h2⟩

theorem Wrote.below {b : Nat} {w w' : World} {a : Option Addr} {c : Nat} {l : List UInt8} (hB : Bld w b a c l) (h : Wrote b (Value.slice a l.length c).ownBlock w w') {w0 : World} {B : Nat} (h0 : Below B w0 w) (hb : B ≤ b) : Below B w0 w' := by
  have hlt := hB.lt
  refine ⟨h.os.trans h0.os, h.tape.trans h0.tape, h.output.trans h0.output, Nat.le_trans h0.size h.size, fun k hk => ?_⟩
  rw [h.block k (by omega) (by omega) (fun e => by have := (hB.own.lt e.symm).1; omega)]
  exact h0.block k hk

theorem own_shape {w : World} {B : Nat} {a : Option Addr} {c : Nat} {l : List UInt8} (h : OwnB w B a c l) (h0 : 0 < l.length) : ∃ g, a = some ⟨g, 0, none⟩ ∧ (Value.slice a l.length c).ownBlock = some g := by
  unfold OwnB at h
  rcases h.2 with ⟨_, hn⟩ | ⟨g, cap, cur, hv, _⟩
  · omega
  · simp only [Value.slice.injEq] at hv
    obtain ⟨rfl, _, rfl⟩ := hv
    exact ⟨g, rfl, rfl⟩

theorem infoB_ne : 105 ≠ 5 := by decide

set_option maxHeartbeats 2000000 in
/-- WriteByte, where the builder knows its address. -/
theorem writeByteUsed (b : Nat) (a : Option Addr) (c : Nat) (l : List UInt8) (y : UInt8) (w : World) (hg : w.heap[b]? = some (.cells #[.pointer (some ⟨b, 0, none⟩), .slice a l.length c] 105 (0, 0))) (hown : OwnB w (b + 1) a c l) (hn : l.length + 1 ≤ 140737488355328) :
    Calls Tryd.prog 84 #[.pointer (some ⟨b, 0, none⟩), .int .u8 (y.toNat : Int)] w fun e w' => e = .returned .nilIface ∧ ∃ a' c' l', Hid (l' = l ++ [y]) ∧ Bld w' b a' c' l' ∧ Wrote b (Value.slice a l.length c).ownBlock w w' ∧ ∀ g, (Value.slice a' l'.length c').ownBlock = some g → (Value.slice a l.length c).ownBlock = some g ∨ w.heap.size ≤ g := by
  obtain ⟨i0, hi0, hz0, hz1, hz2⟩ := info_parts Tryd.infoByte
  have hlt : b < w.heap.size := by
    rcases Nat.lt_or_ge b w.heap.size with hlt | hge
    · exact hlt
    · rw [Array.getElem?_eq_none hge] at hg; cases hg
  have c0 : w.cell? ⟨b, 0, none⟩ = some (.pointer (some ⟨b, 0, none⟩)) := by rw [cell_of_row _ _ _ _ _ _ hg]; rfl
  have c1 : w.cell? ⟨b, 1, none⟩ = some (.slice a l.length c) := by rw [cell_of_row _ _ _ _ _ _ hg]; rfl
  have hby := byte_le y
  have HG := Lib.hid hg
  clear hg
  go_enter Tryd.func84, Tryd.ntmps84
  go_wp2_with (first
    | (go_at_call 95; refine (copyCheckUsed b w c0).mono ?_; rintro e w1 ⟨rfl, rfl⟩)
    | (at_builtin; refine wpAppendByte rfl (.tmp 11) (.tmp 13) rfl i0 hi0 hz0 hz1 hz2 (b + 1) a c l w.heap.size y rfl (hown.alloc _) rfl (by simp) hn (by simp; omega) ?_; intro a2 c2 w2 l2 hl2 hown2 hg2 hat; have hb2 : w2.heap[b]? = some (.cells #[.pointer (some ⟨b, 0, none⟩), .slice a l.length c] 105 (0, 0)) := (by rw [hg2.block b (by simp; omega) (fun e => by have := (hown.lt e.symm).1; omega), Below.heap_alloc _ _ _ hlt]; exact HG.out); have d1 : w2.cell? ⟨b, 1, none⟩ = some (.slice a l.length c) := (by rw [cell_of_row _ _ _ _ _ _ hb2]; rfl); have f1 : w2.frozen? ⟨b, 1, none⟩ = false := frozen_of_row _ _ _ _ _ hb2; have HB2 := Lib.hid hb2; clear hb2))
  go_ret
  have hset := heap_setCell_same w2 b 1 _ _ (.slice a2 l2.length c2) HB2.out
  have own3 : OwnB (w2.setCell ⟨b, 1, none⟩ (.slice a2 l2.length c2)) (b + 1) a2 c2 l2 := hown2.kept (row := some b) ⟨rfl, rfl, rfl, by simp [World.setCell], fun k _ hne => Below.heap_setCell _ _ _ _ (fun e => hne (by rw [e]))⟩ (fun g hgo e => by cases e; have := (hown2.lt hgo).1; omega)
  refine ⟨rfl, a2, c2, l2, hl2, ⟨_, .inr rfl, hset, own3⟩, ⟨?_, ?_, ?_, ?_, ?_⟩, ?_⟩
  · exact hg2.os
  · exact hg2.tape
  · exact hg2.output
  · have := hg2.size; simp [World.setCell] at this ⊢; omega
  · intro k hk hkb hkr
    rw [Below.heap_setCell _ _ _ _ hkb, hg2.block k (by simp; omega) hkr, Below.heap_alloc _ _ _ hk]
  · intro g hgo
    rcases hat with e | e
    · left; rw [← e]; exact hgo
    · right; rw [e] at hgo; cases hgo; simp

set_option maxHeartbeats 2000000 in
theorem writeByte (b : Nat) (a : Option Addr) (c : Nat) (l : List UInt8) (y : UInt8) (w : World) (hB : Bld w b a c l) (hn : l.length + 1 ≤ 140737488355328) :
    Calls Tryd.prog 84 #[.pointer (some ⟨b, 0, none⟩), .int .u8 (y.toNat : Int)] w fun e w' => e = .returned .nilIface ∧ ∃ a' c' l', Hid (l' = l ++ [y]) ∧ Bld w' b a' c' l' ∧ Wrote b (Value.slice a l.length c).ownBlock w w' ∧ ∀ g, (Value.slice a' l'.length c').ownBlock = some g → (Value.slice a l.length c).ownBlock = some g ∨ w.heap.size ≤ g := by
  have hlt := hB.lt
  obtain ⟨p, rfl | rfl, hg, hown⟩ := hB
  rotate_left
  · exact writeByteUsed b a c l y w hg hown hn
  obtain ⟨i0, hi0, hz0, hz1, hz2⟩ := info_parts Tryd.infoByte
  have c0 : w.cell? ⟨b, 0, none⟩ = some (.pointer none) := by rw [cell_of_row _ _ _ _ _ _ hg]; rfl
  have f0 : w.frozen? ⟨b, 0, none⟩ = false := frozen_of_row _ _ _ _ _ hg
  have hsh : w.shape? b = some (105, 2) := by simp [World.shape?, hg]
  have hby := byte_le y
  obtain ⟨W, hW⟩ : ∃ W, W = w.setCell ⟨b, 0, none⟩ (.pointer (some ⟨b, 0, none⟩)) := ⟨_, rfl⟩
  have HG1 : W.heap[b]? = some (.cells #[.pointer (some ⟨b, 0, none⟩), .slice a l.length c] 105 (0, 0)) := by rw [hW]; exact heap_setCell_same w b 0 _ _ _ hg
  have hgrW : w.grownBy W (some b) := by rw [hW]; exact ⟨rfl, rfl, rfl, by simp [World.setCell], fun k _ hne => Below.heap_setCell _ _ _ _ (fun e => hne (by rw [e]))⟩
  have hownW : OwnB W (b + 1) a c l := hown.kept hgrW (fun g hgo e => by cases e; have := (hown.lt hgo).1; omega)
  have hWs : W.heap.size = w.heap.size := by rw [hW]; simp [World.setCell]
  have hltW : b < W.heap.size := by omega
  have c1 : W.cell? ⟨b, 1, none⟩ = some (.slice a l.length c) := by rw [cell_of_row _ _ _ _ _ _ HG1]; rfl
  have HW := Lib.hid hW
  have HG := Lib.hid HG1
  have HWs := Lib.hid hWs
  clear HG1 hg hW hWs
  go_enter Tryd.func84, Tryd.ntmps84
  go_wp2_with (first
    | (go_at_call 95; refine (copyCheckFresh b w c0 hsh f0).mono ?_; rintro e w1 ⟨rfl, hw1⟩; rw [← HW.out] at hw1; subst hw1; clear c0 f0 hsh)
    | (at_builtin; refine wpAppendByte rfl (.tmp 11) (.tmp 13) rfl i0 hi0 hz0 hz1 hz2 (b + 1) a c l W.heap.size y rfl (hownW.alloc _) rfl (by simp) hn (by simp; omega) ?_; intro a2 c2 w2 l2 hl2 hown2 hg2 hat; have hb2 : w2.heap[b]? = some (.cells #[.pointer (some ⟨b, 0, none⟩), .slice a l.length c] 105 (0, 0)) := (by rw [hg2.block b (by simp; omega) (fun e => by have := (hownW.lt e.symm).1; omega), Below.heap_alloc _ _ _ hltW]; exact HG.out); have d1 : w2.cell? ⟨b, 1, none⟩ = some (.slice a l.length c) := (by rw [cell_of_row _ _ _ _ _ _ hb2]; rfl); have f1 : w2.frozen? ⟨b, 1, none⟩ = false := frozen_of_row _ _ _ _ _ hb2; have HB2 := Lib.hid hb2; clear hb2))
  go_ret
  have hset := heap_setCell_same w2 b 1 _ _ (.slice a2 l2.length c2) HB2.out
  have own3 : OwnB (w2.setCell ⟨b, 1, none⟩ (.slice a2 l2.length c2)) (b + 1) a2 c2 l2 := hown2.kept (row := some b) ⟨rfl, rfl, rfl, by simp [World.setCell], fun k _ hne => Below.heap_setCell _ _ _ _ (fun e => hne (by rw [e]))⟩ (fun g hgo e => by cases e; have := (hown2.lt hgo).1; omega)
  have hWs := HWs.out
  refine ⟨rfl, a2, c2, l2, hl2, ⟨_, .inr rfl, hset, own3⟩, ⟨?_, ?_, ?_, ?_, ?_⟩, ?_⟩
  · exact hg2.os.trans hgrW.os
  · exact hg2.tape.trans hgrW.tape
  · exact hg2.output.trans hgrW.output
  · have := hg2.size; simp [World.setCell] at this ⊢; omega
  · intro k hk hkb hkr
    rw [Below.heap_setCell _ _ _ _ hkb, hg2.block k (by simp; omega) hkr, Below.heap_alloc _ _ _ (by omega), hgrW.block k hk (fun e => hkb (by cases e; rfl))]
  · intro g hgo
    rcases hat with e | e
    · left; rw [← e]; exact hgo
    · right; rw [e] at hgo; cases hgo; simp; omega

theorem builderString (b : Nat) (a : Option Addr) (c : Nat) (l : List UInt8) (w : World) (hB : Bld w b a c l) :
    Calls Tryd.prog 85 #[.pointer (some ⟨b, 0, none⟩)] w fun e w' => e = .returned (.string ⟨l.toArray⟩) ∧ Below b w w' := by
  have hlt := hB.lt
  obtain ⟨p, hp, hg, hown⟩ := hB
  have hl : (Lib.byteCells l).length = l.length := by simp [Lib.byteCells]
  have hAt : Lib.BuilderAt 105 5 b b p (Lib.byteCells l) w := by
    refine ⟨Nat.le_refl _, _, hg, ?_, fun e => by have := (hown.lt e).1; omega⟩
    rw [hl]
    unfold OwnB at hown
    refine ⟨hown.1, ?_⟩
    rcases hown.2 with h2 | ⟨g, cap, cur, hv, hb, r⟩
    · exact .inl h2
    · exact .inr ⟨g, cap, cur, hv, by omega, r⟩
  refine Tryd.Builder_String_any b b l w ?_ (by omega)
  rcases hp with rfl | rfl
  · exact .inl hAt
  · exact .inr hAt

end Go.Proofs.YtnepfnbmmdcgpaaDoor
