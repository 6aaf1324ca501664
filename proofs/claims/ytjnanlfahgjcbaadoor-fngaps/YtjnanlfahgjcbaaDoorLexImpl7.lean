/- The program's lexer: signs, one word. -/
import Derived.Test.YtjnanlfahgjcbaaDoorLexImpl6
import Derived.Test.YtjnanlfahgjcbaaDoorReadDec2
namespace Go.Proofs.YtjnanlfahgjcbaaDoor
open Go.RowKit

theorem hasPair (s : ByteArray) (k : Nat) (hk : k < s.size) (a b : UInt8) : Lib.hasPrefix (s.data.toList.drop k) [a, b] = if h : k + 1 < s.size then (s[k] == a && s[k + 1] == b) else false := by
  have e : ∀ x y : UInt8, (x == y) = (y == x) := fun x y => by rw [Bool.eq_iff_iff]; simp only [beq_iff_eq]; exact eq_comm
  unfold Lib.hasPrefix
  rw [drop_at s k hk, List.isPrefixOf_cons_cons, e]
  split
  · rename_i h1
    rw [drop_at s (k + 1) h1, List.isPrefixOf_cons_cons, e b]
    simp
  · rename_i h1
    rw [List.drop_of_length_le (by simp; omega)]
    simp

/-- What a sign leaves. -/
def SignAns (w : World) (g : Nat) (s : ByteArray) (k : Nat) (e : Ending) (w' : World) : Prop :=
  e = .returned (.string (s.extract k (k + signN (s.data.toList.drop k)))) ∧ Moved w g s (k + signN (s.data.toList.drop k)) w'

theorem signTwo (s : ByteArray) (k : Nat) (hk : k < s.size) (v1 v2 v3 : Bool) (h1 : Lib.hasPrefix (s.data.toList.drop k) [60, 61] = v1) (h2 : Lib.hasPrefix (s.data.toList.drop k) [62, 61] = v2) (h3 : Lib.hasPrefix (s.data.toList.drop k) [60, 62] = v3) (hs : signB s[k] = true) :
    signN (s.data.toList.drop k) = if v1 || v2 || v3 then 2 else 1 := by
  subst h1 h2 h3
  rw [hasPair s k hk, hasPair s k hk, hasPair s k hk]
  split
  · rename_i h1
    rcases twoCases s[k] s[k + 1] with ⟨t1, h2⟩ | ⟨t1, t2, h2⟩ | ⟨t1, t2, t3, h2⟩ | ⟨t1, t2, t3, h2⟩
    · rw [signN_two_at s k h1 h2, t1]; rfl
    · rw [signN_two_at s k h1 h2, t1, t2]; rfl
    · rw [signN_two_at s k h1 h2, t1, t2, t3]; rfl
    · rw [signN_at s k hk (.inr ⟨h1, h2⟩), t1, t2, t3, if_pos hs]; rfl
  · rename_i h1
    rw [signN_at s k hk (.inl (by omega)), if_pos hs]; rfl

set_option maxHeartbeats 2000000 in
theorem implSign {w : World} {g : Nat} {s : ByteArray} {k : Nat} (h : LexS w g s k) (hs : s.size ≤ 1048576) (hk : k < s.size) (hsg : signB s[k] = true) :
    Calls Tryd.prog 46 #[.pointer (some ⟨g, 0, none⟩)] w (SignAns w g s k) := by
  have hlen := signN_len (s.data.toList.drop k)
  have hks : k + signN (s.data.toList.drop k) ≤ s.size := by
    rw [List.length_drop] at hlen
    have : s.data.toList.length = s.size := by simp
    omega
  cases h1 : Lib.hasPrefix (s.data.toList.drop k) [60, 61] with
  | true =>
    have HN := Lib.hid (signTwo s k hk true _ _ h1 rfl rfl hsg)
    simp only [Bool.true_or, if_true] at HN
    unfold SignAns
    rw [HN.out] at hks ⊢
    have H1 := Lib.hid h1
    have HM := Lib.hid (Moved.refl h)
    clear h1 hsg hlen h
    go_enter Tryd.func46, Tryd.ntmps46
    go_wp2_with fail
    refine (implBegins HM.out.1 ⟨#[60, 61]⟩ hs (by omega) true H1.out).mono ?_
    rintro e w1 ⟨rfl, n1, hw1⟩
    have mv1 : Moved w g s k w1 := hw1 ▸ HM.out.drewN n1
    clear hw1
    go_wp2_with fail
    refine (implTake mv1.1 2 hs hks).mono ?_
    rintro e w2 ⟨rfl, mv2⟩
    go_wp2_with fail
    go_ret
    exact ⟨rfl, mv1.trans mv2⟩
  | false =>
    cases h2 : Lib.hasPrefix (s.data.toList.drop k) [62, 61] with
    | true =>
      have HN := Lib.hid (signTwo s k hk false true _ h1 h2 rfl hsg)
      simp only [Bool.or_true, Bool.true_or, if_true] at HN
      unfold SignAns
      rw [HN.out] at hks ⊢
      have H1 := Lib.hid h1
      have H2 := Lib.hid h2
      have HM := Lib.hid (Moved.refl h)
      clear h1 h2 hsg hlen h
      go_enter Tryd.func46, Tryd.ntmps46
      go_wp2_with fail
      refine (implBegins HM.out.1 ⟨#[60, 61]⟩ hs (by omega) false H1.out).mono ?_
      rintro e w1 ⟨rfl, n1, hw1⟩
      have mv1 : Moved w g s k w1 := hw1 ▸ HM.out.drewN n1
      clear hw1
      go_wp2_with fail
      refine (implBegins mv1.1 ⟨#[62, 61]⟩ hs (by omega) true H2.out).mono ?_
      rintro e w2 ⟨rfl, n2, hw2⟩
      have mv2 : Moved w g s k w2 := hw2 ▸ mv1.drewN n2
      clear hw2
      go_wp2_with fail
      refine (implTake mv2.1 2 hs hks).mono ?_
      rintro e w3 ⟨rfl, mv3⟩
      go_wp2_with fail
      go_ret
      exact ⟨rfl, mv2.trans mv3⟩
    | false =>
      cases h3 : Lib.hasPrefix (s.data.toList.drop k) [60, 62] with
      | true =>
        have HN := Lib.hid (signTwo s k hk false false true h1 h2 h3 hsg)
        simp only [Bool.or_true, if_true] at HN
        unfold SignAns
        rw [HN.out] at hks ⊢
        have H1 := Lib.hid h1
        have H2 := Lib.hid h2
        have H3 := Lib.hid h3
        have HM := Lib.hid (Moved.refl h)
        clear h1 h2 h3 hsg hlen h
        go_enter Tryd.func46, Tryd.ntmps46
        go_wp2_with fail
        refine (implBegins HM.out.1 ⟨#[60, 61]⟩ hs (by omega) false H1.out).mono ?_
        rintro e w1 ⟨rfl, n1, hw1⟩
        have mv1 : Moved w g s k w1 := hw1 ▸ HM.out.drewN n1
        clear hw1
        go_wp2_with fail
        refine (implBegins mv1.1 ⟨#[62, 61]⟩ hs (by omega) false H2.out).mono ?_
        rintro e w2 ⟨rfl, n2, hw2⟩
        have mv2 : Moved w g s k w2 := hw2 ▸ mv1.drewN n2
        clear hw2
        go_wp2_with fail
        refine (implBegins mv2.1 ⟨#[60, 62]⟩ hs (by omega) true H3.out).mono ?_
        rintro e w3 ⟨rfl, n3, hw3⟩
        have mv3 : Moved w g s k w3 := hw3 ▸ mv2.drewN n3
        clear hw3
        go_wp2_with fail
        refine (implTake mv3.1 2 hs hks).mono ?_
        rintro e w4 ⟨rfl, mv4⟩
        go_wp2_with fail
        go_ret
        exact ⟨rfl, mv3.trans mv4⟩
      | false =>
        have HN := Lib.hid (signTwo s k hk false false false h1 h2 h3 hsg)
        simp only [Bool.or_false, Bool.false_eq_true, if_false] at HN
        unfold SignAns
        rw [HN.out] at hks ⊢
        have H1 := Lib.hid h1
        have H2 := Lib.hid h2
        have H3 := Lib.hid h3
        have HM := Lib.hid (Moved.refl h)
        clear h1 h2 h3 hsg hlen h
        go_enter Tryd.func46, Tryd.ntmps46
        go_wp2_with fail
        refine (implBegins HM.out.1 ⟨#[60, 61]⟩ hs (by omega) false H1.out).mono ?_
        rintro e w1 ⟨rfl, n1, hw1⟩
        have mv1 : Moved w g s k w1 := hw1 ▸ HM.out.drewN n1
        clear hw1
        go_wp2_with fail
        refine (implBegins mv1.1 ⟨#[62, 61]⟩ hs (by omega) false H2.out).mono ?_
        rintro e w2 ⟨rfl, n2, hw2⟩
        have mv2 : Moved w g s k w2 := hw2 ▸ mv1.drewN n2
        clear hw2
        go_wp2_with fail
        refine (implBegins mv2.1 ⟨#[60, 62]⟩ hs (by omega) false H3.out).mono ?_
        rintro e w3 ⟨rfl, n3, hw3⟩
        have mv3 : Moved w g s k w3 := hw3 ▸ mv2.drewN n3
        clear hw3
        go_wp2_with fail
        refine (implTake mv3.1 1 hs hks).mono ?_
        rintro e w4 ⟨rfl, mv4⟩
        go_wp2_with fail
        go_ret
        exact ⟨rfl, mv3.trans mv4⟩

/-- What the library's numerals lean on stands in the world. -/
def Glob (tp : TypeId) (p : Value) (W : World) : Prop := Lib.TabIs Tryd.prog W "internal/strconv.uint64pow10" .u64 Lib.pow10Tab ∧ W.var? Tryd.prog "strconv.ErrSyntax" = some #[.iface tp p]

theorem gPow7 : Tryd.prog.globalNamed "internal/strconv.uint64pow10" = some 6 := by kernel_rfl
theorem gSyn7 : Tryd.prog.globalNamed "strconv.ErrSyntax" = some 4 := by kernel_rfl

theorem Glob.below {tp : TypeId} {p : Value} {W W' : World} (h : Glob tp p W) {B : Nat} (hb : Below B W W') (hB : 7 ≤ B) : Glob tp p W' := by
  refine ⟨?_, ?_⟩
  · have h1 := h.1
    unfold Lib.TabIs World.var? at h1 ⊢
    rw [gPow7, Option.bind_some] at h1 ⊢
    rw [hb.block _ (by omega)]
    exact h1
  · have h1 := h.2
    unfold World.var? at h1 ⊢
    rw [gSyn7, Option.bind_some] at h1 ⊢
    rw [hb.block _ (by omega)]
    exact h1

theorem Moved.belowG {w w' : World} {g : Nat} {s : ByteArray} {m : Nat} (h : Moved w g s m w') (hg : g < w.heap.size) : Below g w w' :=
  ⟨h.2.os, h.2.tape, h.2.output, h.2.size, fun k hk => h.2.block k (by omega) (fun e => by cases e; omega)⟩

end Go.Proofs.YtjnanlfahgjcbaaDoor
