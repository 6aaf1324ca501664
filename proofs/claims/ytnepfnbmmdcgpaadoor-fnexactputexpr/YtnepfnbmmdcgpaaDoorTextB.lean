/- Expressions: their text as the program holds it. -/
import Derived.Test.YtnepfnbmmdcgpaaDoorMExprP
import Derived.Test.YtnepfnbmmdcgpaaDoorQuoteSpec
namespace Go.Proofs.YtnepfnbmmdcgpaaDoor

theorem txt_append (a b : List UInt8) : txt (a ++ b) = txt a ++ txt b := by
  apply ByteArray.ext
  simp [txt, ByteArray.data_append]

theorem txt_size (l : List UInt8) : (txt l).size = l.length := by simp [txt, ByteArray.size]

/-- The text of an expression that has to bind L. -/
def tE (e : Ex) (L : Nat) : ByteArray := txt (textE e L)

theorem tE_size {e : Ex} {L : Nat} (hs : shapeE e = true) (hn : e.nodes ≤ 40) : (tE e L).size ≤ 8400 := by
  have := text_len e.nodes e L (Nat.le_refl _) hs
  unfold tE
  rw [txt_size]
  omega

/-- .. without brackets, and with them. -/
theorem tE_out {e : Ex} {L : Nat} (h : ¬ bindsK e.kind < L) : tE e L = tE e 1 := by
  unfold tE
  rw [text_out (L' := 1) h (by have := (binds_range e.kind).1; omega)]

theorem tE_in {e : Ex} {L : Nat} (h : bindsK e.kind < L) : tE e L = txt [40] ++ tE e 1 ++ txt [41] := by
  unfold tE
  rw [text_in h, ← txt_append, ← txt_append]
  rfl

theorem tE_not (t : ByteArray) (n : Int) (a : Ex) : tE (.mk 6 t n [a]) 1 = txt [110, 111, 116, 32] ++ tE a 3 := by
  unfold tE
  rw [text_not, ← txt_append]
  rfl

theorem tE_null (t : ByteArray) (n : Int) (a : Ex) : tE (.mk 7 t n [a]) 1 = tE a 5 ++ txt [32, 105, 115, 32, 110, 117, 108, 108] := by
  unfold tE
  rw [text_null (by decide), ← txt_append]
  rfl

theorem tE_two {k : Int} (hk : k ∈ ([8, 9, 10, 11, 12, 13, 14, 15, 16, 17, 18] : List Int)) (t : ByteArray) (n : Int) (a b : Ex) : tE (.mk k t n [a, b]) 1 = tE a (firstK k) ++ txt [32] ++ txt (signK k) ++ txt [32] ++ tE b (bindsK k + 1) := by
  have hs := sign_no hk
  unfold tE
  rw [text_two k t n a b [] ⟨hs.1, hs.2.1⟩, ← txt_append, ← txt_append, ← txt_append, ← txt_append]
  simp

theorem tE_name (t : ByteArray) (n : Int) : tE (.mk 0 t n []) 1 = nameT t := by
  unfold tE
  rw [text_leaf]
  unfold nameT leafW wn
  rw [if_pos rfl]
  split
  · exact txt_data t
  · rfl

theorem tE_num (t : ByteArray) (n : Int) : tE (.mk 1 t n []) 1 = dec n := by
  unfold tE
  rw [text_leaf]
  rfl

theorem tE_text (t : ByteArray) (n : Int) : tE (.mk 2 t n []) 1 = quoteT t 39 := by
  unfold tE
  rw [text_leaf]
  rfl

theorem tE_true (t : ByteArray) (n : Int) : tE (.mk 3 t n []) 1 = txt wTrue := by unfold tE; rw [text_leaf]; rfl
theorem tE_false (t : ByteArray) (n : Int) : tE (.mk 4 t n []) 1 = txt wFalse := by unfold tE; rw [text_leaf]; rfl
theorem tE_nul (t : ByteArray) (n : Int) : tE (.mk 5 t n []) 1 = txt wNull := by unfold tE; rw [text_leaf]; rfl

end Go.Proofs.YtnepfnbmmdcgpaaDoor
