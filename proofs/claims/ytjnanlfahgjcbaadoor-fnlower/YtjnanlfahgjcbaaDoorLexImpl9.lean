/- The program's lexer is laid. -/
import Derived.Test.YtjnanlfahgjcbaaDoorLexImpl8
import Derived.Test.YtjnanlfahgjcbaaDoorLexSpec9
namespace Go.Proofs.YtjnanlfahgjcbaaDoor
open Go.RowKit

/-- Cells laid over a row, one after another. -/
def setAll (D : Array Value) (o : Nat) : List Value → Array Value
  | [] => D
  | v :: r => setAll (D.setIfInBounds o v) (o + 1) r

theorem setAll_size : ∀ (vs : List Value) (D : Array Value) (o : Nat), (setAll D o vs).size = D.size
  | [], _, _ => rfl
  | v :: r, D, o => by rw [setAll, setAll_size r]; simp

theorem setAll_out : ∀ (vs : List Value) (D : Array Value) (o i : Nat), i < o ∨ o + vs.length ≤ i → (setAll D o vs)[i]? = D[i]?
  | [], _, _, _, _ => rfl
  | v :: r, D, o, i, h => by
    simp only [List.length_cons] at h
    rw [setAll, setAll_out r _ _ _ (by omega), Array.getElem?_setIfInBounds_ne (by omega)]

theorem setAll_in : ∀ (vs : List Value) (D : Array Value) (o i : Nat) (h : i < vs.length), o + vs.length ≤ D.size → (setAll D o vs)[o + i]? = some vs[i]
  | [], _, _, _, h, _ => by simp at h
  | v :: r, D, o, 0, _, hs => by
    simp only [List.length_cons] at hs
    rw [setAll, setAll_out r _ _ _ (by omega), Nat.add_zero, Array.getElem?_setIfInBounds_self, if_pos (by omega)]
    rfl
  | v :: r, D, o, i + 1, h, hs => by
    simp only [List.length_cons] at hs
    rw [setAll, show o + (i + 1) = o + 1 + i by omega, setAll_in r _ _ i (by simpa using h) (by simp; omega)]
    rfl

theorem heap_setCells : ∀ (vs : List Value) (w : World) (g o : Nat) (D : Array Value) (t : TypeId), w.heap[g]? = some (.cells D t (0, 0)) → (w.setCells g o vs).heap[g]? = some (.cells (setAll D o vs) t (0, 0))
  | [], _, _, _, _, _, h => h
  | v :: r, w, g, o, D, t, h => by
    rw [World.setCells, setAll]
    exact heap_setCells r _ g (o + 1) _ t (heap_setCell_same w g o _ _ v h)

/-- The lexer's cells, as they are put together. -/
noncomputable def lexC (s : ByteArray) (cs : Array Value) : Array Value :=
  Array.foldl (fun cs x => cs.setIfInBounds (2 + x.snd) x.fst) ((Tryd.zeroCells48.setIfInBounds 0 (.string s)).setIfInBounds 1 (.int .i64 0)) cs.zipIdx 0 256

theorem fold_setAll (l : List Value) (D : Array Value) (n : Nat) : (l.zipIdx n).foldl (fun cs x => cs.setIfInBounds (2 + x.snd) x.fst) D = setAll D (2 + n) l := by
  induction l generalizing D n with
  | nil => rfl
  | cons v r ih => rw [List.zipIdx_cons, List.foldl_cons, ih, setAll]; rfl

theorem lexC_eq (s : ByteArray) (cs : Array Value) (h : cs.size = 256) : lexC s cs = setAll ((Tryd.zeroCells48.setIfInBounds 0 (.string s)).setIfInBounds 1 (.int .i64 0)) 2 cs.toList := by
  unfold lexC
  rw [← fold_setAll cs.toList _ 0]
  have hz : cs.zipIdx.size = 256 := by simp [h]
  rw [← hz, ← Array.foldl_toList]
  simp

theorem zeroLexer : Tryd.zeroCells48.size = 258 := by kernel_rfl
theorem zeroLexerOne : (Tryd.zeroCells48.all fun v => v.oneCell') = true := by kernel_rfl

theorem lexC_size (s : ByteArray) (cs : Array Value) (h : cs.size = 256) : (lexC s cs).size = 258 := by
  rw [lexC_eq s cs h, setAll_size]; simp [zeroLexer]

theorem lexC_facts (s : ByteArray) (cs : Array Value) (h : Cls cs classA) : (lexC s cs)[0]? = some (.string s) ∧ (lexC s cs)[1]? = some (.int .i64 ((0 : Nat) : Int)) ∧ ∀ b : UInt8, (lexC s cs)[2 + b.toNat]? = some (.int .i64 (clB b)) := by
  rw [lexC_eq s cs h.1]
  refine ⟨?_, ?_, fun b => ?_⟩
  · rw [setAll_out _ _ _ _ (by omega), Array.getElem?_setIfInBounds_ne (by omega), Array.getElem?_setIfInBounds_self, if_pos (by rw [zeroLexer]; omega)]
  · rw [setAll_out _ _ _ _ (by omega), Array.getElem?_setIfInBounds_self, if_pos (by simp [zeroLexer])]
    rfl
  · have hb := UInt8.toNat_lt b
    have hl : b.toNat < cs.toList.length := by rw [Array.length_toList, h.1]; omega
    rw [setAll_in _ _ _ _ hl (by rw [Array.length_toList, h.1]; simp [zeroLexer])]
    have := h.2 b.toNat (by omega)
    rw [class_eq] at this
    rw [← this]
    simp

theorem lexC_one (s : ByteArray) (cs : Array Value) (h : Cls cs classA) : (lexC s cs).all (·.oneCell') = true := by
  rw [Array.all_eq_true]
  intro i hi
  have hsz := lexC_size s cs h.1
  obtain ⟨h0, h1, h2⟩ := lexC_facts s cs h
  have key : ∀ v, (lexC s cs)[i]? = some v → v.oneCell' = true → (lexC s cs)[i].oneCell' = true := fun v hv ho => by
    rw [Array.getElem?_eq_getElem hi] at hv
    rw [Option.some.inj hv]; exact ho
  rcases Nat.lt_or_ge i 2 with hlt | hge
  · rcases Nat.lt_or_ge i 1 with h' | h'
    · have : i = 0 := by omega
      subst this
      exact key _ h0 rfl
    · have : i = 1 := by omega
      subst this
      exact key _ h1 rfl
  · have hb : i - 2 < 256 := by omega
    have := h2 (UInt8.ofNat (i - 2))
    rw [UInt8.toNat_ofNat', Nat.mod_eq_of_lt (by omega), show 2 + (i - 2) = i by omega] at this
    exact key _ this rfl

theorem lexLaid (w : World) (s : ByteArray) (cs : Array Value) (h : Cls cs classA) : LexS ((w.alloc (.cells Tryd.zeroCells48 48)).setCells w.heap.size 0 (lexC s cs).toList) w.heap.size s 0 := by
  have hg := heap_setCells (lexC s cs).toList (w.alloc (.cells Tryd.zeroCells48 48)) w.heap.size 0 _ _ (heap_alloc_new w _)
  obtain ⟨h0, h1, h2⟩ := lexC_facts s cs h
  have hsz := lexC_size s cs h.1
  have get : ∀ i v, i < 258 → (lexC s cs)[i]? = some v → (setAll Tryd.zeroCells48 0 (lexC s cs).toList)[i]? = some v := fun i v hi hv => by
    have hl : i < (lexC s cs).toList.length := by rw [Array.length_toList]; omega
    have := setAll_in (lexC s cs).toList Tryd.zeroCells48 0 i hl (by rw [Array.length_toList, hsz, zeroLexer]; omega)
    rw [Nat.zero_add] at this
    rw [this]
    rw [← hv]
    simp
  exact ⟨_, hg, by rw [setAll_size, zeroLexer], get 0 _ (by omega) h0, get 1 _ (by omega) h1, fun b => get _ _ (by have := UInt8.toNat_lt b; omega) (h2 b)⟩

end Go.Proofs.YtjnanlfahgjcbaaDoor
