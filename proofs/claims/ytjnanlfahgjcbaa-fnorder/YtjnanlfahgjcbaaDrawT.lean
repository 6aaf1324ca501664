/- Texts that are drawn byte by byte: the loop ends, for the generator comes to every state. -/
import Derived.Test.YtjnanlfahgjcbaaDrawX
import Derived.Test.YtjnanlfahgjcbaaBytes1
import Derived.Test.YtjnanlfahgjcbaaDrawPick
namespace Go.Proofs.Ytjnanlfahgjcbaa
open Go.RowKit

theorem byteOf {x : Int} (h0 : 0 ≤ x) (h1 : x ≤ 255) : ∃ b : UInt8, x = (b.toNat : Int) := by
  refine ⟨UInt8.ofNat x.toNat, ?_⟩
  rw [UInt8.toNat_ofNat']
  omega

theorem u8_same (b : UInt8) : IntKind.u8.wrap (b.toNat : Int) = (b.toNat : Int) := by
  have := byte_le b
  rw [IntWalk.u8_in _ (by omega)]

theorem OwnB.at {w : World} {B : Nat} {a : Option Addr} {c : Nat} {l : List UInt8} (h : OwnB w B a c l) (hl : 0 < l.length) :
    ∃ R, a = some ⟨R, 0, none⟩ ∧ l.length ≤ c ∧ c ≤ maxLen ∧ ∀ (j : Nat) (hj : j < l.length), w.cell? ⟨R, j, none⟩ = some (.int .u8 (l[j].toNat : Int)) := by
  have h' := h
  unfold OwnB at h'
  rcases h'.2 with ⟨hv, hn⟩ | ⟨R, cap, cur, hv, hB, hg, hnc, hcm, hcs, ht⟩
  · omega
  · simp only [Value.slice.injEq] at hv
    obtain ⟨rfl, _, rfl⟩ := hv
    refine ⟨R, rfl, hnc, hcm, fun j hj => ?_⟩
    rw [World.ownsRow.cellAt (w := w) h j (by omega)]
    unfold bcells
    rw [List.getElem?_map, List.getElem?_eq_getElem hj]
    rfl

theorem convCells {W : World} {R : Nat} {l : List UInt8} {c : Nat} (h : ∀ (j : Nat) (hj : j < l.length), W.cell? ⟨R, j, none⟩ = some (.int .u8 (l[j].toNat : Int))) :
    (convert 22 9 (.slice (some ⟨R, 0, none⟩) l.length c)).run Try.prog W = .ok (.string ⟨l.toArray⟩) W := by
  rw [run_convert_bytes_string W _ _ _ _ _ _ Try.underlying22 Try.underlying5 Try.underlying9]
  rw [run_bytesToString W ⟨R, 0, none⟩ l.length c (l.map fun b => (b.toNat : Int))]
  · rw [foldl_push]; rfl
  · have hl : l.length = (bcells l).length := by simp [bcells]
    rw [hl, run_loadCells_list (P := Try.prog) W ⟨R, 0, none⟩ (bcells l) ?_]
    · simp [bcells]
    · intro j u hu
      have hj : j < l.length := by
        rcases Nat.lt_or_ge j l.length with h1 | h1
        · exact h1
        · rw [List.getElem?_eq_none (by simpa [bcells] using h1)] at hu; cases hu
      have hadd : (⟨R, 0, none⟩ : Addr).add j = ⟨R, j, none⟩ := by unfold Addr.add; by_cases h0 : j = 0 <;> simp [h0]
      rw [hadd, h j hj]
      unfold bcells at hu
      rw [List.getElem?_map, List.getElem?_eq_getElem hj] at hu
      exact hu

/-- The bytes so far lie apart from the cursor. -/
structure Out (w0 : World) (a : Option Addr) (c : Nat) (l : List UInt8) (g : Nat) (w wr : World) (a1 : Option Addr) (c1 : Nat) (l1 : List UInt8) : Prop where
  deck : Deck w0 a c l g wr
  grown : w.grownBy wr (some g)
  own : OwnB wr w.heap.size a1 c1 l1
  lt : g < w.heap.size

theorem Out.draw {w0 : World} {a : Option Addr} {c : Nat} {l : List UInt8} {g : Nat} {w wr w' : World} {a1 : Option Addr} {c1 : Nat} {l1 : List UInt8} (h : Out w0 a c l g w wr a1 c1 l1)
    (hd : Deck w0 a c l g w') (hg : wr.grownBy w' (some g)) : Out w0 a c l g w w' a1 c1 l1 :=
  ⟨hd, grown_trans h.grown hg, h.own.kept hg (fun k hk e => by cases e; have := (h.own.lt hk).1; have := h.lt; omega), h.lt⟩

theorem Out.size {w0 : World} {a : Option Addr} {c : Nat} {l : List UInt8} {g : Nat} {w wr : World} {a1 : Option Addr} {c1 : Nat} {l1 : List UInt8} (h : Out w0 a c l g w wr a1 c1 l1) : w.heap.size ≤ wr.heap.size := h.grown.size

theorem Out.append {w0 : World} {a : Option Addr} {c : Nat} {l : List UInt8} {g : Nat} {w wr w' : World} {a1 : Option Addr} {c1 : Nat} {l1 : List UInt8} (h : Out w0 a c l g w wr a1 c1 l1) {o : Obj}
    {a2 : Option Addr} {c2 : Nat} {l2 : List UInt8} (hown : OwnB w' w.heap.size a2 c2 l2) (hg : (wr.alloc o).grownBy w' (Value.slice a1 l1.length c1).ownBlock) : Out w0 a c l g w w' a2 c2 l2 ∧ w'.heap[g]? = wr.heap[g]? := by
  have hlt := h.lt
  have hnew := h.deck.new
  have hne : ∀ k, (Value.slice a1 l1.length c1).ownBlock = some k → w.heap.size ≤ k := fun k hk => (h.own.lt hk).1
  have hgl := h.deck.lt
  refine ⟨⟨(h.deck.alloc o).kept hg (fun k hk => by have := hne k hk; omega), grown_any (grown_alloc h.grown o) hg (fun j hj => hne j hj), hown, hlt⟩, ?_⟩
  rw [hg.block g (by simp; omega) (fun e => by have := hne g e.symm; omega)]
  exact ((Below.refl wr.heap.size wr).alloc (Nat.le_refl _) o).block g hgl

def sliceLen : Value → Nat
  | .slice _ n _ => n
  | _ => 0

def TextOf (n : Nat) (v : Value) : Prop := ∃ s : ByteArray, v = .string s ∧ s.size = n

end Go.Proofs.Ytjnanlfahgjcbaa
