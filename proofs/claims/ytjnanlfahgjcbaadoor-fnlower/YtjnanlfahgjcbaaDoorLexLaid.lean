/- What the laws over Lex take from the tables that their rows list. -/
import Derived.Test.YtjnanlfahgjcbaaDoorCards
import Derived.Test.YtjnanlfahgjcbaaDoorTie
import Derived.Test.YtjnanlfahgjcbaaDoorLexImplA
import Derived.Test.YtjnanlfahgjcbaaDoorLexR
import Derived.ProofKit
import Derived.OpenShut
import Derived.ShutString
import Derived.ChangeOld
import Derived.Below
import Derived.LaidMore
import Derived.Lay
import Derived.Lib.LaidTab
import Derived.Stop.LaidErr
import Derived.SevenTiedAt
import Derived.Stop.Joined
namespace Go.Proofs.YtjnanlfahgjcbaaDoor
open Go.ChangeShapes Go.WideShapes Go.ChangeAt Go.RowKit

theorem gSynL : Tryd.prog.globalNamed "strconv.ErrSyntax" = some 4 := by kernel_rfl
theorem gSynTypeL : (Tryd.prog.globals[4]?).map (·.type) = some 63 := by kernel_rfl
theorem cellsErrL : Tryd.prog.cellsOf 134 = 1 := by kernel_rfl
theorem cellsStrL : Tryd.prog.cellsOf 9 = 1 := by kernel_rfl
theorem starErrL : "*" ++ "errors.errorString" = "*errors.errorString" := by decide
theorem rowErrL (u : TypeId) (h : Tryd.prog.typeName? 3 u = some "*errors.errorString") : u = 132 :=
  typeName_ptr_named (nm := "errors.errorString") (by rw [starErrL]; kernel_rfl) (by kernel_rfl) (by decide) u (by rw [starErrL]; exact h)

theorem synVarL {W : World} {rest : List (String × DataW Unit)} (h : laidMet Tryd.prog (("strconv.ErrSyntax", Rows.laid_strconv_ErrSyntax) :: rest) W) :
    ∃ p, W.var? Tryd.prog "strconv.ErrSyntax" = some #[.iface 132 p] := by
  obtain ⟨a, s, hv, _⟩ := laid_sentinel h gSynL gSynTypeL Tryd.underlying63 rowErrL Tryd.underlying132 Tryd.underlying134 rfl rfl Tryd.underlying9 cellsErrL cellsStrL
  exact ⟨_, hv⟩

theorem var_lt {W : World} {n : String} {g : Nat} {cs : Array Value} (hg : Tryd.prog.globalNamed n = some g) (hv : W.var? Tryd.prog n = some cs) : g < W.heap.size := by
  unfold World.var? at hv
  rw [hg, Option.bind_some] at hv
  rcases Nat.lt_or_ge g W.heap.size with h | h
  · exact h
  · simp [Array.getElem?_eq_none h] at hv

/-- The row's tables give what Lex asks. -/
theorem glob_of {W : World} {d0 d1 d3 d4 : String × DataW Unit} {rest : List (String × DataW Unit)}
    (h : laidMet Tryd.prog (d0 :: d1 :: ("internal/strconv.uint64pow10", Rows.laid_internal_strconv_uint64pow10) :: d3 :: d4 :: ("strconv.ErrSyntax", Rows.laid_strconv_ErrSyntax) :: rest) W) :
    ∃ p, Glob 132 p W ∧ 7 ≤ W.heap.size := by
  have h2 := laidMet.tail (laidMet.tail h)
  have ht := powTab_of h2
  obtain ⟨p, hv⟩ := synVarL (laidMet.tail (laidMet.tail (laidMet.tail h2)))
  have l1 := var_lt gPow7 ht
  have l2 := var_lt gSynL hv
  exact ⟨p, ⟨ht, hv⟩, by omega⟩

theorem placed_count {l : List UInt8} : ∀ {ts : List Tok} {p : Nat}, placed l p ts → ts = [] ∨ p + ts.length ≤ l.length
  | [], _, _ => .inl rfl
  | x :: r, p, h => by
    right
    obtain ⟨b, hb, _⟩ := h.2.1
    have hlt : x.at_ < l.length := by
      rcases Nat.lt_or_ge x.at_ l.length with h' | h'
      · exact h'
      · rw [List.getElem?_eq_none h'] at hb; cases hb
    have h0 := h.1
    simp only [List.length_cons]
    rcases placed_count h.2.2 with rfl | h1
    · simp; omega
    · omega

theorem right_kind {k : Nat} {t : List UInt8} (h : Right k t) : k ≤ 4 := h.2.1

theorem lexB_right {l : List UInt8} {ts : List Tok} (h : lexB l = .ok ts) : ∀ x ∈ ts, Right x.kind x.text := by
  unfold lexB at h
  split at h
  · cases h
  · exact lexAt_right _ _ _ ts (Nat.le_refl _) h

theorem toks_fit (s : ByteArray) (hs : s.size ≤ 1048576) : FitsT (toks s) ∧ (toks s).length ≤ 1048576 := by
  have hl : s.data.toList.length = s.size := by simp
  unfold toks
  cases h : lexB s.data.toList with
  | error e => exact ⟨fun x hx => by simp [wordsOf] at hx, by simp [wordsOf]⟩
  | ok ts =>
    simp only [wordsOf]
    refine ⟨fun x hx => ?_, ?_⟩
    · obtain ⟨y, hy, rfl⟩ := List.mem_map.1 hx
      have h1 := lexB_at h y hy
      have h2 := right_kind (lexB_right h y hy)
      have h3 : (⟨y.text.toArray⟩ : ByteArray).size = y.text.length := by simp [ByteArray.size]
      unfold tkOf isI64 maxLen
      simp only []
      omega
    · rcases placed_count (lexB_placed h) with rfl | h1
      · simp
      · simp; omega

end Go.Proofs.YtjnanlfahgjcbaaDoor
