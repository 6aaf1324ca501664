/- One word put behind a row of words that the call itself has made. -/
import Derived.Test.YtjnanlfahgjcbaaDoorToks
import Derived.Maps.AppendAt
namespace Go.Proofs.YtjnanlfahgjcbaaDoor
open Go.RowKit

theorem wpAppendTok {w : World} {ops : Array Oper} {rest : List Oper} {o : Oper} {A : Act} {Q : Exit → Act → World → Prop} (hgd : o.guard = none) (s x : Operand)
    (ho : o.op = .call { callee := .builtin .append, args := #[s, x], argTypes := #[25, 25] })
    (i0 : TypeInfo) (hi0 : Tryd.prog.info? 29 = some i0) (hz0 : i0.zero = some (.agg #[.int .i64 0, .string ByteArray.empty, .int .i64 0])) (hz1 : i0.size = 3) (hz2 : i0.bytes = 32)
    (B : Nat) (a : Option Addr) (c : Nat) (l : List Tk) (g : Nat) (y : Tk) (hs : A.eval s = .slice a l.length c) (hown : OwnT w B a c l) (hx : A.eval x = .slice (some ⟨g, 0, none⟩) 1 1) (hc : w.heap[g]? = some (.cells #[.int .i64 y.kind, .string y.text, .int .i64 y.at_] 29 (0, 0)))
    (hn : l.length + 1 ≤ 1073741824) (hB : B ≤ w.heap.size)
    (h : ∀ a' c' w' l', Hid (l' = l ++ [y]) → OwnT w' B a' c' l' → w.grownBy w' (Value.slice a l.length c).ownBlock → ((Value.slice a' l'.length c').ownBlock = (Value.slice a l.length c).ownBlock ∨ (Value.slice a' l'.length c').ownBlock = some w.heap.size) → wpList Tryd.prog ops Q rest (A.put o.dst (.slice a' l'.length c')) w') :
    wpList Tryd.prog ops Q (o :: rest) A w := by
  refine wpList_append_own_at _ hgd s x 25 ho B 29 i0 (.agg #[.int .i64 0, .string ByteArray.empty, .int .i64 0]) 3 32 Tryd.underlying25 hi0 hz0 hz1 hz2 rfl (by decide) (.slice a l.length c) l.length (tcells l) hs hown
    ⟨g, 0, none⟩ 1 1 [.int .i64 y.kind, .string y.text, .int .i64 y.at_] hx rfl ?_ (fun u hu => by simp at hu; rcases hu with rfl | rfl | rfl <;> rfl) (by unfold maxLen; omega) (by omega) hB ?_
  · intro j u hu
    have hadd : (⟨g, 0, none⟩ : Addr).add j = ⟨g, j, none⟩ := by unfold Addr.add; by_cases h0 : j = 0 <;> simp [h0]
    rw [hadd, cell_of_row _ _ _ _ _ _ hc]
    simpa using hu
  · intro v' w' hown' hg _ hat
    have hf : ∃ a' c', v' = .slice a' (l.length + 1) c' := by
      rcases hown'.2 with ⟨_, h0⟩ | ⟨g', cap, cur, rfl, _⟩
      · omega
      · exact ⟨_, _, rfl⟩
    obtain ⟨a', c', rfl⟩ := hf
    have hb : tcells l ++ [.int .i64 y.kind, .string y.text, .int .i64 y.at_] = tcells (l ++ [y]) := by rw [tcells_append]; rfl
    rw [hb] at hown'
    have hll : (l ++ [y]).length = l.length + 1 := by simp
    have := h a' c' w' (l ++ [y]) rfl (by unfold OwnT; rw [hll]; exact hown') hg (by rw [hll]; exact hat)
    rw [hll] at this
    exact this

theorem OwnT.alloc {w : World} {B : Nat} {a : Option Addr} {c : Nat} {l : List Tk} (h : OwnT w B a c l) (o : Obj) : OwnT (w.alloc o) B a c l :=
  h.below ((Below.refl _ _).alloc (Nat.le_refl _) _)

theorem ownTEmpty (w : World) : OwnT (w.alloc (.cells #[] 29)) w.heap.size (some ⟨w.heap.size, 0, none⟩) 0 [] :=
  World.ownsRow_lit (base := w.heap.size) (e := 29) (size := 3) w #[] 0 (Nat.le_refl _) (by unfold maxLen; omega) rfl

theorem hidT_len {l l' : List Tk} {y : Tk} (h : Hid (l' = l ++ [y])) : l'.length = l.length + 1 := by rw [h.out]; simp

end Go.Proofs.YtjnanlfahgjcbaaDoor
