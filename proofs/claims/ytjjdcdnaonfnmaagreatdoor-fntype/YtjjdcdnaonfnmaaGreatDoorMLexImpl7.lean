/- The program's lexer: signs, one word. -/
/- The program's reader of statements: value, need, sign, num, name. -/
/- The program's reader of statements: name. -/
/- Types: how a value of the document's Type is laid; its equality; Turns of the program and of the model. -/
/- The laws' own helpers over types: the size and the copy. -/
/- The draws: a cursor over bytes; what it draws is within bounds, and it turns its own block alone. -/
/- A pick out of a list of texts that the call lays. -/
/- The draws of texts to be quoted. -/
import Derived.Test.YtjjdcdnaonfnmaaGreatDoorMLexQ
import Derived.Test.YtjjdcdnaonfnmaaGreatDoorMClone
import Derived.Test.YtjjdcdnaonfnmaaGreatDoorMMem
import Derived.IntWalk
import Derived.Laws.StructEq
import Derived.Deep.RegionHeld3
namespace Go.Proofs.YtjjdcdnaonfnmaaGreatDoor
open Go.RowKit

theorem hasPair (s : ByteArray) (k : Nat) (hk : k < s.size) (a b : UInt8) : Lib.hasPrefix (s.data.toList.drop k) [a, b] = if h : k + 1 < s.size then (s[k] == a && s[k + 1] == b) else false := by
  have e : ∀ x y : UInt8, (x == y) = (y == x) := fun x y => by rw [Bool.eq_iff_iff]; simp only [beq_iff_eq]; exact eq_comm
  unfold Lib.hasPrefix
  rw [drop_at s k hk, List.isPrefixOf_cons_cons, e]
  split
  · rename_i h1
    rw [drop_at s (k + 1) h1, List.isPrefixOf_cons_cons, e b]
    simp
  · rename_i h1
    rw [List.drop_of_length_le (by simp; omega)]
    simp

/-- What a sign leaves. -/
def SignAns (w : World) (g : Nat) (s : ByteArray) (k : Nat) (e : Ending) (w' : World) : Prop :=
  e = .returned (.string (s.extract k (k + signN (s.data.toList.drop k)))) ∧ Moved w g s (k + signN (s.data.toList.drop k)) w'

theorem signTwo (s : ByteArray) (k : Nat) (hk : k < s.size) (v1 v2 v3 : Bool) (h1 : Lib.hasPrefix (s.data.toList.drop k) [60, 61] = v1) (h2 : Lib.hasPrefix (s.data.toList.drop k) [62, 61] = v2) (h3 : Lib.hasPrefix (s.data.toList.drop k) [60, 62] = v3) (hs : signB s[k] = true) :
    signN (s.data.toList.drop k) = if v1 || v2 || v3 then 2 else 1 := by
  subst h1 h2 h3
  rw [hasPair s k hk, hasPair s k hk, hasPair s k hk]
  split
  · rename_i h1
    rcases twoCases s[k] s[k + 1] with ⟨t1, h2⟩ | ⟨t1, t2, h2⟩ | ⟨t1, t2, t3, h2⟩ | ⟨t1, t2, t3, h2⟩
    · rw [signN_two_at s k h1 h2, t1]; rfl
    · rw [signN_two_at s k h1 h2, t1, t2]; rfl
    · rw [signN_two_at s k h1 h2, t1, t2, t3]; rfl
    · rw [signN_at s k hk (.inr ⟨h1, h2⟩), t1, t2, t3, if_pos hs]; rfl
  · rename_i h1
    rw [signN_at s k hk (.inl (by omega)), if_pos hs]; rfl

set_option maxHeartbeats 2000000 in
theorem implSign {w : World} {g : Nat} {s : ByteArray} {k : Nat} (h : LexS w g s k) (hs : s.size ≤ 1048576) (hk : k < s.size) (hsg : signB s[k] = true) :
    Calls Tryz.prog 53 #[.pointer (some ⟨g, 0, none⟩)] w (SignAns w g s k) := by
  have hlen := signN_len (s.data.toList.drop k)
  have hks : k + signN (s.data.toList.drop k) ≤ s.size := by
    rw [List.length_drop] at hlen
    have : s.data.toList.length = s.size := by simp
    omega
  cases h1 : Lib.hasPrefix (s.data.toList.drop k) [60, 61] with
  | true =>
    have HN := Lib.hid (signTwo s k hk true _ _ h1 rfl rfl hsg)
    simp only [Bool.true_or, if_true] at HN
    unfold SignAns
    rw [HN.out] at hks ⊢
    have H1 := Lib.hid h1
    have HM := Lib.hid (Moved.refl h)
    clear h1 hsg hlen h
    go_enter Tryz.func53, Tryz.ntmps53
    go_wp2_with fail
    refine (implBegins HM.out.1 ⟨#[60, 61]⟩ hs (by omega) true H1.out).mono ?_
    rintro e w1 ⟨rfl, n1, hw1⟩
    have mv1 : Moved w g s k w1 := hw1 ▸ HM.out.drewN n1
    clear hw1
    go_wp2_with fail
    refine (implTake mv1.1 2 hs hks).mono ?_
    rintro e w2 ⟨rfl, mv2⟩
    go_wp2_with fail
    go_ret
    exact ⟨rfl, mv1.trans mv2⟩
  | false =>
    cases h2 : Lib.hasPrefix (s.data.toList.drop k) [62, 61] with
    | true =>
      have HN := Lib.hid (signTwo s k hk false true _ h1 h2 rfl hsg)
      simp only [Bool.or_true, Bool.true_or, if_true] at HN
      unfold SignAns
      rw [HN.out] at hks ⊢
      have H1 := Lib.hid h1
      have H2 := Lib.hid h2
      have HM := Lib.hid (Moved.refl h)
      clear h1 h2 hsg hlen h
      go_enter Tryz.func53, Tryz.ntmps53
      go_wp2_with fail
      refine (implBegins HM.out.1 ⟨#[60, 61]⟩ hs (by omega) false H1.out).mono ?_
      rintro e w1 ⟨rfl, n1, hw1⟩
      have mv1 : Moved w g s k w1 := hw1 ▸ HM.out.drewN n1
      clear hw1
      go_wp2_with fail
      refine (implBegins mv1.1 ⟨#[62, 61]⟩ hs (by omega) true H2.out).mono ?_
      rintro e w2 ⟨rfl, n2, hw2⟩
      have mv2 : Moved w g s k w2 := hw2 ▸ mv1.drewN n2
      clear hw2
      go_wp2_with fail
      refine (implTake mv2.1 2 hs hks).mono ?_
      rintro e w3 ⟨rfl, mv3⟩
      go_wp2_with fail
      go_ret
      exact ⟨rfl, mv2.trans mv3⟩
    | false =>
      cases h3 : Lib.hasPrefix (s.data.toList.drop k) [60, 62] with
      | true =>
        have HN := Lib.hid (signTwo s k hk false false true h1 h2 h3 hsg)
        simp only [Bool.or_true, if_true] at HN
        unfold SignAns
        rw [HN.out] at hks ⊢
        have H1 := Lib.hid h1
        have H2 := Lib.hid h2
        have H3 := Lib.hid h3
        have HM := Lib.hid (Moved.refl h)
        clear h1 h2 h3 hsg hlen h
        go_enter Tryz.func53, Tryz.ntmps53
        go_wp2_with fail
        refine (implBegins HM.out.1 ⟨#[60, 61]⟩ hs (by omega) false H1.out).mono ?_
        rintro e w1 ⟨rfl, n1, hw1⟩
        have mv1 : Moved w g s k w1 := hw1 ▸ HM.out.drewN n1
        clear hw1
        go_wp2_with fail
        refine (implBegins mv1.1 ⟨#[62, 61]⟩ hs (by omega) false H2.out).mono ?_
        rintro e w2 ⟨rfl, n2, hw2⟩
        have mv2 : Moved w g s k w2 := hw2 ▸ mv1.drewN n2
        clear hw2
        go_wp2_with fail
        refine (implBegins mv2.1 ⟨#[60, 62]⟩ hs (by omega) true H3.out).mono ?_
        rintro e w3 ⟨rfl, n3, hw3⟩
        have mv3 : Moved w g s k w3 := hw3 ▸ mv2.drewN n3
        clear hw3
        go_wp2_with fail
        refine (implTake mv3.1 2 hs hks).mono ?_
        rintro e w4 ⟨rfl, mv4⟩
        go_wp2_with fail
        go_ret
        exact ⟨rfl, mv3.trans mv4⟩
      | false =>
        have HN := Lib.hid (signTwo s k hk false false false h1 h2 h3 hsg)
        simp only [Bool.or_false, Bool.false_eq_true, if_false] at HN
        unfold SignAns
        rw [HN.out] at hks ⊢
        have H1 := Lib.hid h1
        have H2 := Lib.hid h2
        have H3 := Lib.hid h3
        have HM := Lib.hid (Moved.refl h)
        clear h1 h2 h3 hsg hlen h
        go_enter Tryz.func53, Tryz.ntmps53
        go_wp2_with fail
        refine (implBegins HM.out.1 ⟨#[60, 61]⟩ hs (by omega) false H1.out).mono ?_
        rintro e w1 ⟨rfl, n1, hw1⟩
        have mv1 : Moved w g s k w1 := hw1 ▸ HM.out.drewN n1
        clear hw1
        go_wp2_with fail
        refine (implBegins mv1.1 ⟨#[62, 61]⟩ hs (by omega) false H2.out).mono ?_
        rintro e w2 ⟨rfl, n2, hw2⟩
        have mv2 : Moved w g s k w2 := hw2 ▸ mv1.drewN n2
        clear hw2
        go_wp2_with fail
        refine (implBegins mv2.1 ⟨#[60, 62]⟩ hs (by omega) false H3.out).mono ?_
        rintro e w3 ⟨rfl, n3, hw3⟩
        have mv3 : Moved w g s k w3 := hw3 ▸ mv2.drewN n3
        clear hw3
        go_wp2_with fail
        refine (implTake mv3.1 1 hs hks).mono ?_
        rintro e w4 ⟨rfl, mv4⟩
        go_wp2_with fail
        go_ret
        exact ⟨rfl, mv3.trans mv4⟩

/-- What the library's numerals lean on stands in the world. -/
def Glob (tp : TypeId) (p : Value) (W : World) : Prop := Lib.TabIs Tryz.prog W "internal/strconv.uint64pow10" .u64 Lib.pow10Tab ∧ W.var? Tryz.prog "strconv.ErrSyntax" = some #[.iface tp p]

theorem gPow7 : Tryz.prog.globalNamed "internal/strconv.uint64pow10" = some 1 := by kernel_rfl
theorem gSyn7 : Tryz.prog.globalNamed "strconv.ErrSyntax" = some 5 := by kernel_rfl

theorem Glob.below {tp : TypeId} {p : Value} {W W' : World} (h : Glob tp p W) {B : Nat} (hb : Below B W W') (hB : 6 ≤ B) : Glob tp p W' := by
  refine ⟨?_, ?_⟩
  · have h1 := h.1
    unfold Lib.TabIs World.var? at h1 ⊢
    rw [gPow7, Option.bind_some] at h1 ⊢
    rw [hb.block _ (by omega)]
    exact h1
  · have h1 := h.2
    unfold World.var? at h1 ⊢
    rw [gSyn7, Option.bind_some] at h1 ⊢
    rw [hb.block _ (by omega)]
    exact h1

theorem Moved.belowG {w w' : World} {g : Nat} {s : ByteArray} {m : Nat} (h : Moved w g s m w') (hg : g < w.heap.size) : Below g w w' :=
  ⟨h.2.os, h.2.tape, h.2.output, h.2.size, fun k hk => h.2.block k (by omega) (fun e => by cases e; omega)⟩

end Go.Proofs.YtjjdcdnaonfnmaaGreatDoor

namespace Go.Proofs.YtjjdcdnaonfnmaaGreatDoor
open Go.RowKit

/-- The text of the word there, if it is of the kind. -/
def valT (l : List Tk) (i : Nat) (k : Int) : Option ByteArray := match l.drop i with
  | x :: _ => if x.kind = k then some x.text else none
  | [] => none

/-- What value answers. -/
def ValR (w : World) (rb : Nat) (a : Option Addr) (c : Nat) (l : List Tk) (i : Nat) (m : Bool) (k : Int) (x : Ending) (w' : World) : Prop :=
  (m = false ∧ ∃ t, valT l i k = some t ∧ i < l.length ∧ x = .returned (.string t) ∧ SSt w rb a c l (i + 1) false w') ∨
  ((m = true ∨ valT l i k = none) ∧ x = .returned (.string ⟨#[]⟩) ∧ SSt w rb a c l i true w')

set_option maxRecDepth 100000 in
set_option maxHeartbeats 4000000 in
theorem stValue {w : World} {rb : Nat} {a : Option Addr} {c : Nat} {l : List Tk} {i : Nat} {m : Bool} (h : SR w rb a c l i m) (hi : i ≤ 2000000) (k : Int) :
    Calls Tryz.prog 54 #[.pointer (some ⟨rb, 0, none⟩), .int .i64 k] w (ValR w rb a c l i m k) := by
  obtain ⟨c0, c1, c2, f1, f2⟩ := h.cells
  have hl := h.len
  have HS := Lib.hid (fun n => (SSt.refl h).drewN n)
  cases m with
  | true =>
    clear h
    go_enter Tryz.func54, Tryz.ntmps54
    go_wp2_with fail
    go_quiet (fail)
    have d2 : (w.drewN nq).cell? ⟨rb, 2, none⟩ = some (.bool true) := c2
    have g2 : (w.drewN nq).frozen? ⟨rb, 2, none⟩ = false := f2
    have HSn := Lib.hid (HS.out nq)
    generalize w.drewN nq = W1 at d2 g2 HSn ⊢
    go_wp2_with fail
    go_ret
    exact .inr ⟨.inl rfl, rfl, HSn.out.setM true⟩
  | false =>
    by_cases hlt : i < l.length
    · obtain ⟨b, off, rfl, hbl, t0, t1, t2⟩ := h.tok.spot hlt
      have hd : l.drop i = l[i] :: l.drop (i + 1) := List.drop_eq_getElem_cons hlt
      have hge : decide (l.length ≤ i) = false := decide_eq_false (by omega)
      have hi0 : (0 : Int) ≤ (i : Int) := by omega
      have hi1 : (i : Int) < (l.length : Int) := by omega
      have hz := h.fit l[i] (List.getElem_mem hlt)
      have hbr : b ≠ rb := h.ne b off (by omega) rfl
      by_cases hk : l[i].kind = k
      · have HV : Hid (valT l i k = some l[i].text) := by unfold Hid valT; rw [hd]; simp only; rw [if_pos hk]
        have hkn : (l[i].kind != k) = false := by simp [bne, hk]
        clear h hd
        generalize l[i].kind = kk at *
        generalize l[i].text = tt at *
        go_enter Tryz.func54, Tryz.ntmps54
        go_wp2_with fail
        go_quiet (fail)
        have d0 : (w.drewN nq).cell? ⟨rb, 0, none⟩ = some (.slice (some ⟨b, off, none⟩) l.length c) := c0
        have d1 : (w.drewN nq).cell? ⟨rb, 1, none⟩ = some (.int .i64 (i : Int)) := c1
        have g1 : (w.drewN nq).frozen? ⟨rb, 1, none⟩ = false := f1
        have s1 : (w.drewN nq).cell? ⟨b, off + i * 3 + 1, none⟩ = some (.string tt) := t1
        have HSn := Lib.hid (HS.out nq)
        have HSt1 := Lib.hid (HSn.out.setAt (i + 1))
        obtain ⟨e0, e1, _, _, _⟩ := HSt1.out.rd.cells
        have s2 : (((w.drewN nq).setCell ⟨rb, 1, none⟩ (.int .i64 ((i + 1 : Nat) : Int))).cell? ⟨b, off + i * 3 + 1, none⟩) = some (.string tt) := (World.cell?_setCell_far _ ⟨rb, 1, none⟩ _ _ (by exact fun e => hbr e.symm)).trans s1
        go_wp2_with fail
        have hcast : (w.drewN nq).setCell ⟨rb, 1, none⟩ (.int .i64 ((i : Int) + 1)) = (w.drewN nq).setCell ⟨rb, 1, none⟩ (.int .i64 ((i + 1 : Nat) : Int)) := by push_cast; rfl
        rw [hcast]
        have hbW : b < ((w.drewN nq).setCell ⟨rb, 1, none⟩ (.int .i64 ((i + 1 : Nat) : Int))).heap.size := by simpa [World.setCell] using hbl
        generalize (w.drewN nq).setCell ⟨rb, 1, none⟩ (.int .i64 ((i + 1 : Nat) : Int)) = W2 at e0 e1 s2 HSt1 hbW ⊢
        obtain ⟨q, hq⟩ : ∃ q : Int, q = ((i + 1 : Nat) : Int) := ⟨_, rfl⟩
        rw [← hq] at e1
        have hxe : q - 1 = (i : Int) := by omega
        have hwq : IntKind.i64.wrap (q - 1) = (i : Int) := by rw [IntWalk.i64_in _ (by omega)]; omega
        have HQ := Lib.hid hq
        clear d0 d1 g1 s1 hcast HSn hq hxe
        go_region_held3 (fun w' => w'.cell? ⟨rb, 0, none⟩ = some (.slice (some ⟨b, off, none⟩) l.length c) ∧ w'.cell? ⟨rb, 1, none⟩ = some (.int .i64 q) ∧ w'.cell? ⟨b, off + i * 3 + 1, none⟩ = some (.string tt)) (first | assumption | exact ⟨e0, e1, s2⟩)
          ((go_at_call 36; refine (stringsClone5 tt _ hz).mono ?_; rintro e w2 ⟨rfl, b2⟩; have HSt := Lib.hid ((HSt1.out.below (below_drewN (Below.refl _ _) 1)).below b2); have hkk := And.intro HSt.out.rd.cells.1 (And.intro (show w2.cell? ⟨rb, 1, none⟩ = some (.int .i64 q) from HSt.out.rd.cells.2.1.trans (by rw [HQ.out])) (show w2.cell? ⟨b, off + i * 3 + 1, none⟩ = some (.string tt) from (b2.cell (p := ⟨b, off + i * 3 + 1, none⟩) hbW).trans s2)); clear b2))
        go_wp2_with fail
        go_ret
        exact .inl ⟨rfl, tt, HV.out, hlt, rfl, HSt.out⟩
      · have HV : Hid (valT l i k = none) := by unfold Hid valT; rw [hd]; simp only; rw [if_neg hk]
        have hkn : (l[i].kind != k) = true := by simp [bne, hk]
        clear h hd
        generalize l[i].kind = kk at *
        go_enter Tryz.func54, Tryz.ntmps54
        go_wp2_with fail
        go_quiet (fail)
        have d2 : (w.drewN nq).cell? ⟨rb, 2, none⟩ = some (.bool false) := c2
        have g2 : (w.drewN nq).frozen? ⟨rb, 2, none⟩ = false := f2
        have HSn := Lib.hid (HS.out nq)
        generalize w.drewN nq = W1 at d2 g2 HSn ⊢
        go_wp2_with fail
        go_ret
        exact .inr ⟨.inr HV.out, rfl, HSn.out.setM true⟩
    · have HV : Hid (valT l i k = none) := by unfold Hid valT; rw [List.drop_eq_nil_of_le (by omega)]
      have hge : decide (l.length ≤ i) = true := decide_eq_true (by omega)
      clear h
      go_enter Tryz.func54, Tryz.ntmps54
      go_wp2_with fail
      go_quiet (fail)
      have d2 : (w.drewN nq).cell? ⟨rb, 2, none⟩ = some (.bool false) := c2
      have g2 : (w.drewN nq).frozen? ⟨rb, 2, none⟩ = false := f2
      have HSn := Lib.hid (HS.out nq)
      generalize w.drewN nq = W1 at d2 g2 HSn ⊢
      go_wp2_with fail
      go_ret
      exact .inr ⟨.inr HV.out, rfl, HSn.out.setM true⟩

/-- A step that answers nothing. -/
def STup (w : World) (rb : Nat) (a : Option Addr) (c : Nat) (l : List Tk) (i : Nat) (m : Bool) (x : Ending) (w' : World) : Prop := x = .returned (.tuple #[]) ∧ SSt w rb a c l i m w'

set_option maxRecDepth 100000 in
set_option maxHeartbeats 2000000 in
theorem stNeed {w : World} {rb : Nat} {a : Option Addr} {c : Nat} {l : List Tk} {i : Nat} {m : Bool} (h : SR w rb a c l i m) (ok : Bool) :
    Calls Tryz.prog 87 #[.pointer (some ⟨rb, 0, none⟩), .bool ok] w (STup w rb a c l i (m || !ok)) := by
  obtain ⟨c0, c1, c2, f1, f2⟩ := h.cells
  have HS := Lib.hid (fun n => (SSt.refl h).drewN n)
  clear h
  cases m with
  | true =>
    go_enter Tryz.func87, Tryz.ntmps87
    go_wp2_with fail
    refine bodyPost_end (results_none rfl _ _ _) rfl ?_
    exact ⟨rfl, (HS.out 0).setM true⟩
  | false =>
    go_enter Tryz.func87, Tryz.ntmps87
    go_wp2_with fail
    refine bodyPost_end (results_none rfl _ _ _) rfl ?_
    exact ⟨rfl, (HS.out 0).setM _⟩

theorem stSign {w : World} {rb : Nat} {a : Option Addr} {c : Nat} {l : List Tk} {i : Nat} {m : Bool} (h : SR w rb a c l i m) (hi : i ≤ 2000000) (t : ByteArray) (v : Bool) (hv : hitT l i 4 t = v) :
    Calls Tryz.prog 72 #[.pointer (some ⟨rb, 0, none⟩), .string t] w (STup w rb a c l (if v then i + 1 else i) (m || !v)) := by
  have HV := Lib.hid hv
  have HH := Lib.hid h
  obtain ⟨j, hj⟩ : ∃ j, (if v then i + 1 else i) = j := ⟨_, rfl⟩
  have HT : Hid (∀ x w', STake w rb a c l i m v x w' → x = .returned (.bool v) ∧ SSt w rb a c l j m w') := fun x w' hx => by obtain ⟨h1, h2⟩ := hx; rw [hj] at h2; exact ⟨h1, h2⟩
  rw [hj]
  clear h hv hj
  go_enter Tryz.func72, Tryz.ntmps72
  go_wp2_with fail
  refine (stTake HH.out hi 4 t v HV.out).mono ?_
  intro x w1 hx
  obtain ⟨rfl, s1⟩ := HT.out x w1 hx
  have S1 := Lib.hid s1
  clear s1 hx
  go_wp2_with fail
  refine (stNeed S1.out.rd v).mono ?_
  rintro x w2 ⟨rfl, s2⟩
  have S2 := Lib.hid (S1.out.trans s2)
  clear s2
  go_wp2_with fail
  refine bodyPost_end (results_none rfl _ _ _) rfl ?_
  exact ⟨rfl, S2.out⟩

/-- What num answers. -/
def NumR (w : World) (rb : Nat) (a : Option Addr) (c : Nat) (l : List Tk) (i : Nat) (m : Bool) (x : Ending) (w' : World) : Prop :=
  (m = false ∧ ∃ t, valT l i 2 = some t ∧ i < l.length ∧ x = .returned (.int .i64 (readD t.data.toList)) ∧ SSt w rb a c l (i + 1) false w') ∨
  ((m = true ∨ valT l i 2 = none) ∧ x = .returned (.int .i64 (-1)) ∧ SSt w rb a c l i true w')

theorem stNum {w : World} {rb : Nat} {a : Option Addr} {c : Nat} {l : List Tk} {i : Nat} {m : Bool} (h : SR w rb a c l i m) (hi : i ≤ 2000000) (tp : TypeId) (p : Value) (hG : Glob tp p w) (hw16 : 6 ≤ w.heap.size) (hrb : 6 ≤ rb) :
    Calls Tryz.prog 73 #[.pointer (some ⟨rb, 0, none⟩)] w (NumR w rb a c l i m) := by
  have HH := Lib.hid h
  have HGL : Hid (∀ w', w.grownBy w' (some rb) → Glob tp p w') := fun w' hg => hG.below ((Below.refl _ _).grown hg hw16 (fun k hk => by cases hk; exact hrb)) (Nat.le_refl _)
  clear h hG
  go_enter Tryz.func73, Tryz.ntmps73
  go_wp2_with fail
  refine (stValue HH.out hi 2).mono ?_
  rintro x w1 (⟨rfl, t, ht, hlt, rfl, s1⟩ | ⟨hn, rfl, s1⟩)
  · have S1 := Lib.hid s1
    have g1 := HGL.out w1 s1.gr
    clear s1
    go_wp2_with fail
    refine (implReadDec t _ g1.1 tp p g1.2).mono ?_
    rintro x w2 ⟨rfl, b2⟩
    have S2 := Lib.hid (S1.out.below b2)
    clear b2 g1
    go_wp2_with fail
    go_ret
    exact Or.inl ⟨rfl, t, ht, hlt, rfl, S2.out⟩
  · have S1 := Lib.hid s1
    have g1 := HGL.out w1 s1.gr
    clear s1
    go_wp2_with fail
    refine (implReadDec ⟨#[]⟩ _ g1.1 tp p g1.2).mono ?_
    rintro x w2 ⟨rfl, b2⟩
    have S2 := Lib.hid (S1.out.below b2)
    clear b2 g1
    go_wp2_with fail
    go_ret
    exact Or.inr ⟨hn, rfl, S2.out⟩

/-- The name of the word there, if it is one. -/
def nameI (l : List Tk) (i : Nat) : Option ByteArray := match l.drop i with
  | x :: _ => if x.kind = 1 then some x.text else if x.kind = 0 ∧ keptB x.text.toList = false then some x.text else none
  | [] => none

/-- What name answers. -/
def NameR (w : World) (rb : Nat) (a : Option Addr) (c : Nat) (l : List Tk) (i : Nat) (m : Bool) (x : Ending) (w' : World) : Prop :=
  (m = false ∧ ∃ t, nameI l i = some t ∧ i < l.length ∧ t.size ≤ 1048576 ∧ x = .returned (.string t) ∧ SSt w rb a c l (i + 1) false w') ∨
  ((m = true ∨ nameI l i = none) ∧ ∃ t j, j ≤ i + 1 ∧ t.size ≤ 1048576 ∧ x = .returned (.string t) ∧ SSt w rb a c l j true w')

end Go.Proofs.YtjjdcdnaonfnmaaGreatDoor

namespace Go.Proofs.YtjjdcdnaonfnmaaGreatDoor
open Go.RowKit

/-- A block that is new since w is written. -/
theorem SSt.store {w w1 : World} {rb : Nat} {a : Option Addr} {c : Nat} {l : List Tk} {at0 at_ : Nat} {m0 m : Bool} (h : SSt w rb a c l at_ m w1) (h0 : SR w rb a c l at0 m0) {b : Nat} (hq : w.heap.size ≤ b) (o : Nat) (v : Value) : SSt w rb a c l at_ m (w1.setCell ⟨b, o, none⟩ v) := by
  have hb : Below w.heap.size w1 (w1.setCell ⟨b, o, none⟩ v) := (Below.refl _ _).setCell hq v
  refine ⟨⟨?_, ?_, h.rd.ne, h.rd.len, h.rd.fit⟩, ?_⟩
  · rw [hb.block rb h0.lt]; exact h.rd.row
  · obtain ⟨h1, h2, h3, h4, h5⟩ := h.rd.tok
    refine ⟨h1, h2, h3, h4, fun hp => ?_⟩
    obtain ⟨b1, off, ha, hlt, hc⟩ := h5 hp
    obtain ⟨b2, off2, ha2, hlt2, _⟩ := h0.tok.2.2.2.2 hp
    rw [ha] at ha2
    cases ha2
    have e := fun o => hb.cell (p := ⟨b1, o, none⟩) hlt2
    exact ⟨b1, off, ha, by simpa [World.setCell] using hlt, fun i hi => ⟨(e _).trans (hc i hi).1, (e _).trans (hc i hi).2.1, (e _).trans (hc i hi).2.2⟩⟩
  · exact ⟨h.gr.os, h.gr.tape, h.gr.output, by simpa [World.setCell] using h.gr.size, fun k hk hne => (Below.heap_setCell _ _ _ _ (by show k ≠ b; omega)).trans (h.gr.block k hk hne)⟩

set_option maxRecDepth 100000 in
set_option maxHeartbeats 4000000 in
theorem stName {w : World} {rb : Nat} {a : Option Addr} {c : Nat} {l : List Tk} {i : Nat} {m : Bool} (h : SR w rb a c l i m) (hi : i ≤ 1000000) :
    Calls Tryz.prog 74 #[.pointer (some ⟨rb, 0, none⟩)] w (NameR w rb a c l i m) := by
  obtain ⟨c0, c1, c2, f1, f2⟩ := h.cells
  have hl := h.len
  have HS := Lib.hid (fun n => h.drewN n)
  have HSt := Lib.hid (fun n => (SSt.refl h).drewN n)
  have HFIT := Lib.hid h.fit
  by_cases hn : ∃ (hlt : i < l.length), l[i].kind = 1
  · obtain ⟨hlt, hk⟩ := hn
    obtain ⟨b, off, rfl, hbl, t0, t1, t2⟩ := h.tok.spot hlt
    have hd : l.drop i = l[i] :: l.drop (i + 1) := List.drop_eq_getElem_cons hlt
    have hge : decide ((i : Int) < (l.length : Int)) = true := decide_eq_true (by omega)
    have hi0 : (0 : Int) ≤ (i : Int) := by omega
    have hi1 : (i : Int) < (l.length : Int) := by omega
    have HN : Hid (nameI l i = some l[i].text ∧ valT l i 1 = some l[i].text) := by unfold Hid nameI valT; rw [hd]; simp only; rw [if_pos hk, if_pos hk]; exact ⟨rfl, rfl⟩
    have hz := h.fit l[i] (List.getElem_mem hlt)
    have hkn : (l[i].kind == 1) = true := by simp [hk]
    clear h hd
    generalize l[i].kind = kk at *
    go_enter Tryz.func74, Tryz.ntmps74
    go_wp2_with fail
    go_quiet (fail)
    have HSn := Lib.hid (HS.out nq)
    have HSt1 := Lib.hid (HSt.out nq)
    clear c0 c1 c2 f1 f2 t0 t1 t2
    generalize w.drewN nq = W1 at HSn HSt1 ⊢
    go_wp2_with fail
    refine (stValue HSn.out (by omega) 1).mono ?_
    rintro x w1 (⟨rfl, t, ht, _, rfl, s1⟩ | ⟨hno, rfl, s1⟩)
    · have S1 := Lib.hid (HSt1.out.trans s1)
      have e : t = l[i].text := by have := HN.out.2; rw [ht] at this; exact Option.some.inj this
      subst e
      clear s1 ht
      go_wp2_with fail
      go_ret
      exact .inl ⟨rfl, l[i].text, HN.out.1, hlt, hz, rfl, S1.out⟩
    · have S1 := Lib.hid (HSt1.out.trans s1)
      clear s1
      go_wp2_with fail
      go_ret
      refine .inr ⟨.inl ?_, ⟨#[]⟩, i, by omega, by decide, rfl, S1.out⟩
      rcases hno with h | h
      · exact h
      · rw [HN.out.2] at h; cases h
  · have HN : Hid (nameI l i = match valT l i 0 with | some t => if keptB t.toList = false then some t else none | none => none) := by
      unfold Hid nameI valT
      by_cases hlt : i < l.length
      · rw [List.drop_eq_getElem_cons hlt]
        simp only
        rw [if_neg (fun e => hn ⟨hlt, e⟩)]
        by_cases h0 : l[i].kind = 0
        · rw [if_pos h0]
          by_cases hq : keptB l[i].text.toList = false
          · rw [if_pos ⟨h0, hq⟩]; simp only; rw [if_pos hq]
          · rw [if_neg (fun e => hq e.2)]; simp only; rw [if_neg hq]
        · rw [if_neg (fun e => h0 e.1), if_neg h0]
      · rw [List.drop_eq_nil_of_le (by omega)]
    have key : ∀ W1, SR W1 rb a c l i m → SSt w rb a c l i m W1 → Hid (Calls Tryz.prog 54 #[.pointer (some ⟨rb, 0, none⟩), .int .i64 0] W1 (ValR W1 rb a c l i m 0)) := fun W1 hw _ => stValue hw (by omega) 0
    by_cases hlt : i < l.length
    · obtain ⟨b, off, rfl, hbl, t0, t1, t2⟩ := h.tok.spot hlt
      have hge : decide ((i : Int) < (l.length : Int)) = true := decide_eq_true (by omega)
      have hi0 : (0 : Int) ≤ (i : Int) := by omega
      have hi1 : (i : Int) < (l.length : Int) := by omega
      have hkn : (l[i].kind == 1) = false := by rw [beq_eq_false_iff_ne]; exact fun e => hn ⟨hlt, e⟩
      clear h hn
      generalize l[i].kind = kk at *
      go_enter Tryz.func74, Tryz.ntmps74
      go_wp2_with fail
      go_quiet (fail)
      have HSn := Lib.hid (HS.out nq)
      have HSt1 := Lib.hid (HSt.out nq)
      clear c0 c1 c2 f1 f2 t0 t1 t2 HS HSt
      generalize w.drewN nq = W1 at HSn HSt1 ⊢
      go_wp2_with fail
      refine (key W1 HSn.out HSt1.out).out.mono ?_
      clear key
      rintro x w1 (⟨rfl, t, ht, _, rfl, s1⟩ | ⟨hno, rfl, s1⟩)
      · have S1 := Lib.hid (HSt1.out.trans s1)
        have hz : t.size ≤ 1048576 := by
          unfold valT at ht
          rw [List.drop_eq_getElem_cons hlt] at ht
          simp only at ht
          split at ht
          · cases ht; exact HFIT.out _ (List.getElem_mem hlt)
          · cases ht
        obtain ⟨v, hv⟩ : ∃ v, keptB t.toList = v := ⟨_, rfl⟩
        have HV := Lib.hid hv
        have HT := Lib.hid ht
        clear s1 hv ht
        go_wp2_with fail
        refine (implReserved t _ v HV.out).mono ?_
        rintro x w2 ⟨rfl, rfl⟩
        go_wp2_with fail
        refine (stNeed S1.out.rd (!v)).mono ?_
        rintro x w2 ⟨rfl, s2⟩
        have S2 := Lib.hid (S1.out.trans s2)
        clear s2
        go_wp2_with fail
        go_ret
        cases v with
        | false => exact .inl ⟨rfl, t, by rw [HN.out, HT.out]; simp only; rw [if_pos HV.out], hlt, hz, rfl, S2.out⟩
        | true => exact .inr ⟨.inr (by rw [HN.out, HT.out]; simp only; rw [if_neg (by rw [HV.out]; decide)]), t, i + 1, by omega, hz, rfl, S2.out⟩
      · have S1 := Lib.hid (HSt1.out.trans s1)
        have hke : keptB (ByteArray.mk #[]).toList = false := by rw [Lib.toList_data]; decide
        clear s1
        go_wp2_with fail
        refine (implReserved ⟨#[]⟩ _ false hke).mono ?_
        rintro x w2 ⟨rfl, rfl⟩
        go_wp2_with fail
        refine (stNeed S1.out.rd true).mono ?_
        rintro x w2 ⟨rfl, s2⟩
        have S2 := Lib.hid (S1.out.trans s2)
        clear s2
        go_wp2_with fail
        go_ret
        refine .inr ⟨?_, ⟨#[]⟩, i, by omega, by decide, rfl, S2.out⟩
        rcases hno with h | h
        · exact .inl h
        · exact .inr (by rw [HN.out, h])
    · have hge : decide ((i : Int) < (l.length : Int)) = false := decide_eq_false (by omega)
      have HVN : Hid (valT l i 0 = none) := by unfold Hid valT; rw [List.drop_eq_nil_of_le (by omega)]
      clear h hn
      go_enter Tryz.func74, Tryz.ntmps74
      go_wp2_with fail
      go_quiet (fail)
      have HSn := Lib.hid (HS.out nq)
      have HSt1 := Lib.hid (HSt.out nq)
      clear c0 c1 c2 f1 f2 HS HSt
      generalize w.drewN nq = W1 at HSn HSt1 ⊢
      go_wp2_with fail
      refine (key W1 HSn.out HSt1.out).out.mono ?_
      clear key
      rintro x w1 (⟨rfl, t, ht, _, rfl, s1⟩ | ⟨hno, rfl, s1⟩)
      · rw [HVN.out] at ht; cases ht
      · have S1 := Lib.hid (HSt1.out.trans s1)
        have hke : keptB (ByteArray.mk #[]).toList = false := by rw [Lib.toList_data]; decide
        clear s1
        go_wp2_with fail
        refine (implReserved ⟨#[]⟩ _ false hke).mono ?_
        rintro x w2 ⟨rfl, rfl⟩
        go_wp2_with fail
        refine (stNeed S1.out.rd true).mono ?_
        rintro x w2 ⟨rfl, s2⟩
        have S2 := Lib.hid (S1.out.trans s2)
        clear s2
        go_wp2_with fail
        go_ret
        exact .inr ⟨.inr (by rw [HN.out, HVN.out]), ⟨#[]⟩, i, by omega, by decide, rfl, S2.out⟩

end Go.Proofs.YtjjdcdnaonfnmaaGreatDoor

namespace Go.Proofs.YtjjdcdnaonfnmaaGreatDoor
open Go.RowKit

structure Ty where
  kind : Int
  len : Int
  name : ByteArray

def Ty.v (t : Ty) : Value := .agg #[.int .i64 t.kind, .int .i64 t.len, .string t.name]
/-- The name is a text that fits; the numbers are ints. -/
def Ty.ok (t : Ty) : Prop := t.name.size ≤ maxLen ∧ (Lit.int .i64 t.kind).wf = true ∧ (Lit.int .i64 t.len).wf = true
def tyEq (t u : Ty) : Bool := t.kind == u.kind && (t.len == u.len && t.name.toList == u.name.toList)

theorem tyEq_refl (t : Ty) : tyEq t t = true := by simp [tyEq]
theorem tyEq_kind {t u : Ty} (h : tyEq t u = true) : t.kind = u.kind := by simp [tyEq] at h; exact h.1

def turnsB (t u : Ty) : Bool := tyEq t u || (u.kind == 1 || (t.kind == 1 && (u.kind == 3 || u.kind == 4)))

theorem eqlTy (k l : Int) (s : ByteArray) (k' l' : Int) (s' : ByteArray) (w : World) :
    (binOp .eql 25 (.agg #[.int .i64 k, .int .i64 l, .string s]) (.agg #[.int .i64 k', .int .i64 l', .string s'])).run Tryz.prog w = .ok (.bool (tyEq ⟨k, l, s⟩ ⟨k', l', s'⟩)) w := by
  have u3 := Tryz.underlying3
  have u9 := Tryz.underlying9
  have hS : Tryz.prog.underlying 25 = some (.struct (Tryz.prog.fieldsOf 25)) := by kernel_rfl
  have hp : Tryz.prog.stoodInHeld 25 = false := by kernel_rfl
  rw [run_eql_struct, show (10000 : Nat) = 9999 + 1 from rfl, run_equalIn_agg w 9999 25 _ _ hS hp]
  simp only [Program.fieldsOf, Tryz.underlying25]
  unfold tyEq
  go_simp
  by_cases h1 : k = k' <;> by_cases h2 : l = l' <;> by_cases h3 : s.toList = s'.toList <;> simp [h1, h2, h3]

theorem guardTy (x y : Operand) (k l : Int) (s : ByteArray) (k' l' : Int) (s' : ByteArray) (w : World) :
    (eqGuard .eql 25 x y (.agg #[.int .i64 k, .int .i64 l, .string s]) (.agg #[.int .i64 k', .int .i64 l', .string s'])).run Tryz.prog w = .ok () w :=
  run_eqGuard_agg w .eql 25 x y _ _ (by kernel_rfl)

theorem below2 (w : World) (o o' : Obj) : Below w.heap.size w ((w.alloc o).alloc o') := ((Below.refl _ _).alloc (Nat.le_refl _) _).alloc (by simp) _

end Go.Proofs.YtjjdcdnaonfnmaaGreatDoor

namespace Go.Proofs.YtjjdcdnaonfnmaaGreatDoor
open Go.RowKit

/-- Two types lie in the blocks p and q. -/
def Lie2 (p q : Nat) (k l : Int) (s : ByteArray) (k' l' : Int) (s' : ByteArray) (w : World) : Prop :=
  w.cell? ⟨p, 0, none⟩ = some (.int .i64 k) ∧ w.cell? ⟨p, 1, none⟩ = some (.int .i64 l) ∧ w.cell? ⟨p, 2, none⟩ = some (.string s) ∧
  w.cell? ⟨q, 0, none⟩ = some (.int .i64 k') ∧ w.cell? ⟨q, 1, none⟩ = some (.int .i64 l') ∧ w.cell? ⟨q, 2, none⟩ = some (.string s')

theorem Lie2.below {p q : Nat} {k l : Int} {s : ByteArray} {k' l' : Int} {s' : ByteArray} {w w' : World} (h : Lie2 p q k l s k' l' s' w) (hp : p < w.heap.size) (hq : q < w.heap.size) (hb : Below w.heap.size w w') : Lie2 p q k l s k' l' s' w' := by
  obtain ⟨h1, h2, h3, h4, h5, h6⟩ := h
  exact ⟨(hb.cell (p := ⟨p, 0, none⟩) hp).trans h1, (hb.cell (p := ⟨p, 1, none⟩) hp).trans h2, (hb.cell (p := ⟨p, 2, none⟩) hp).trans h3,
    (hb.cell (p := ⟨q, 0, none⟩) hq).trans h4, (hb.cell (p := ⟨q, 1, none⟩) hq).trans h5, (hb.cell (p := ⟨q, 2, none⟩) hq).trans h6⟩

theorem lie2_new (w : World) (T T' : TypeId) (k l : Int) (s : ByteArray) (k' l' : Int) (s' : ByteArray) :
    Lie2 w.heap.size (w.heap.size + 1) k l s k' l' s' ((w.alloc (.cells #[.int .i64 k, .int .i64 l, .string s] T)).alloc (.cells #[.int .i64 k', .int .i64 l', .string s'] T')) := by
  have h1 : ∀ o, ((w.alloc (.cells #[.int .i64 k, .int .i64 l, .string s] T)).alloc (.cells #[.int .i64 k', .int .i64 l', .string s'] T')).cell? ⟨w.heap.size, o, none⟩ = (w.alloc (.cells #[.int .i64 k, .int .i64 l, .string s] T)).cell? ⟨w.heap.size, o, none⟩ :=
    fun o => World.cell?_alloc_lt _ _ _ (by simp)
  have h2 : (w.alloc (.cells #[.int .i64 k, .int .i64 l, .string s] T)).heap.size = w.heap.size + 1 := by simp
  unfold Lie2
  rw [h1, h1, h1, cell_of_row _ _ _ _ _ _ (heap_alloc_new w _), cell_of_row _ _ _ _ _ _ (heap_alloc_new w _), cell_of_row _ _ _ _ _ _ (heap_alloc_new w _), ← h2,
    cell_of_row _ _ _ _ _ _ (heap_alloc_new _ _), cell_of_row _ _ _ _ _ _ (heap_alloc_new _ _), cell_of_row _ _ _ _ _ _ (heap_alloc_new _ _)]
  exact ⟨rfl, rfl, rfl, rfl, rfl, rfl⟩

/-- .. behind the world w0, in blocks that are there. -/
def Lay2 (w0 : World) (p q : Nat) (k l : Int) (s : ByteArray) (k' l' : Int) (s' : ByteArray) (w : World) : Prop :=
  Lie2 p q k l s k' l' s' w ∧ p < w.heap.size ∧ q < w.heap.size ∧ Below w0.heap.size w0 w

theorem Lay2.below {w0 : World} {p q : Nat} {k l : Int} {s : ByteArray} {k' l' : Int} {s' : ByteArray} {w w' : World} (h : Lay2 w0 p q k l s k' l' s' w) (hb : Below w.heap.size w w') : Lay2 w0 p q k l s k' l' s' w' :=
  ⟨h.1.below h.2.1 h.2.2.1 hb, Nat.lt_of_lt_of_le h.2.1 hb.size, Nat.lt_of_lt_of_le h.2.2.1 hb.size, h.2.2.2.trans (hb.mono h.2.2.2.size)⟩

theorem Lay2.drew {w0 : World} {p q : Nat} {k l : Int} {s : ByteArray} {k' l' : Int} {s' : ByteArray} {w : World} (h : Lay2 w0 p q k l s k' l' s' w) : Lay2 w0 p q k l s k' l' s' w.drew :=
  h.below ⟨rfl, rfl, rfl, Nat.le_refl _, fun _ _ => rfl⟩

theorem lay2_new (w : World) (T T' : TypeId) (k l : Int) (s : ByteArray) (k' l' : Int) (s' : ByteArray) :
    Lay2 w w.heap.size (w.heap.size + 1) k l s k' l' s' ((w.alloc (.cells #[.int .i64 k, .int .i64 l, .string s] T)).alloc (.cells #[.int .i64 k', .int .i64 l', .string s'] T')) :=
  ⟨lie2_new w T T' k l s k' l' s', by simp; omega, by simp, below2 w _ _⟩

/-- A type lies in the block p, behind the world w0. -/
def Lay1 (w0 : World) (p : Nat) (k l : Int) (s : ByteArray) (w : World) : Prop :=
  (w.cell? ⟨p, 0, none⟩ = some (.int .i64 k) ∧ w.cell? ⟨p, 1, none⟩ = some (.int .i64 l) ∧ w.cell? ⟨p, 2, none⟩ = some (.string s)) ∧ p < w.heap.size ∧ Below w0.heap.size w0 w

theorem Lay1.below {w0 : World} {p : Nat} {k l : Int} {s : ByteArray} {w w' : World} (h : Lay1 w0 p k l s w) (hb : Below w.heap.size w w') : Lay1 w0 p k l s w' :=
  ⟨⟨(hb.cell (p := ⟨p, 0, none⟩) h.2.1).trans h.1.1, (hb.cell (p := ⟨p, 1, none⟩) h.2.1).trans h.1.2.1, (hb.cell (p := ⟨p, 2, none⟩) h.2.1).trans h.1.2.2⟩,
    Nat.lt_of_lt_of_le h.2.1 hb.size, h.2.2.trans (hb.mono h.2.2.size)⟩

theorem Lay1.drew {w0 : World} {p : Nat} {k l : Int} {s : ByteArray} {w : World} (h : Lay1 w0 p k l s w) : Lay1 w0 p k l s w.drew := h.below ⟨rfl, rfl, rfl, Nat.le_refl _, fun _ _ => rfl⟩

theorem Lay1.alloc {w0 : World} {p : Nat} {k l : Int} {s : ByteArray} {w : World} (h : Lay1 w0 p k l s w) (o : Obj) : Lay1 w0 p k l s (w.alloc o) := h.below ((Below.refl _ _).alloc (Nat.le_refl _) _)

theorem lay1_new (w : World) (T : TypeId) (k l : Int) (s : ByteArray) : Lay1 w w.heap.size k l s (w.alloc (.cells #[.int .i64 k, .int .i64 l, .string s] T)) := by
  refine ⟨?_, by simp, (Below.refl _ _).alloc (Nat.le_refl _) _⟩
  rw [cell_of_row _ _ _ _ _ _ (heap_alloc_new w _), cell_of_row _ _ _ _ _ _ (heap_alloc_new w _), cell_of_row _ _ _ _ _ _ (heap_alloc_new w _)]
  exact ⟨rfl, rfl, rfl⟩

end Go.Proofs.YtjjdcdnaonfnmaaGreatDoor

namespace Go.Proofs.YtjjdcdnaonfnmaaGreatDoor
open Go.RowKit

/-- The slice (a, length of l, c) reads as the bytes l. -/
def Bytes (w : World) (a : Option Addr) (c : Nat) (l : List UInt8) : Prop :=
  l.length ≤ c ∧ c ≤ maxLen ∧ (a = none → c = 0) ∧
  (0 < l.length → ∃ b off, a = some ⟨b, off, none⟩ ∧ b < w.heap.size ∧ ∀ (i : Nat) (h : i < l.length), w.cell? ⟨b, off + i, none⟩ = some (.int .u8 (l[i].toNat : Int)))

theorem Bytes.below {w w' : World} {a : Option Addr} {c : Nat} {l : List UInt8} (h : Bytes w a c l) (hb : Below w.heap.size w w') : Bytes w' a c l := by
  obtain ⟨h1, h2, h3, h4⟩ := h
  refine ⟨h1, h2, h3, fun hp => ?_⟩
  obtain ⟨b, off, ha, hlt, hc⟩ := h4 hp
  exact ⟨b, off, ha, Nat.lt_of_lt_of_le hlt hb.size, fun i hi => (hb.cell (p := ⟨b, off + i, none⟩) hlt).trans (hc i hi)⟩

theorem Bytes.len {w : World} {a : Option Addr} {c : Nat} {l : List UInt8} (h : Bytes w a c l) : l.length ≤ 9223372036854775807 := by
  have h1 := h.1
  have h2 := h.2.1
  unfold maxLen at h2
  omega

/-- The cursor in block g, over the bytes (a, n, c). -/
def Cur (w : World) (g : Nat) (a : Option Addr) (n c : Nat) : Prop :=
  ∃ i h : Int, 0 ≤ i ∧ i ≤ n ∧ w.heap[g]? = some (.cells #[.slice a n c, .int .i64 i, .int .i64 h] 62 (0, 0))

/-- A cursor on the way: the bytes came in with the world w0. -/
structure Deck (w0 : World) (a : Option Addr) (c : Nat) (l : List UInt8) (g : Nat) (w : World) : Prop where
  bytes : Bytes w0 a c l
  short : l.length ≤ 1048576
  below : Below w0.heap.size w0 w
  new : w0.heap.size ≤ g
  cur : Cur w g a l.length c

theorem Deck.lt {w0 : World} {a : Option Addr} {c : Nat} {l : List UInt8} {g : Nat} {w : World} (h : Deck w0 a c l g w) : g < w.heap.size := by
  obtain ⟨i, hh, _, _, hg⟩ := h.cur
  rcases Nat.lt_or_ge g w.heap.size with hlt | hge
  · exact hlt
  · rw [Array.getElem?_eq_none hge] at hg; cases hg

/-- The cursor stays while other blocks turn. -/
theorem Deck.kept {w0 : World} {a : Option Addr} {c : Nat} {l : List UInt8} {g : Nat} {w w' : World} (h : Deck w0 a c l g w) {row : Option Nat} (hg : w.grownBy w' row) (hr : ∀ k, row = some k → w0.heap.size ≤ k ∧ k ≠ g) : Deck w0 a c l g w' := by
  refine ⟨h.bytes, h.short, h.below.grown hg h.below.size (fun k hk => (hr k hk).1), h.new, ?_⟩
  obtain ⟨i, hh, h1, h2, h3⟩ := h.cur
  exact ⟨i, hh, h1, h2, (hg.block g h.lt (fun e => (hr g e.symm).2 rfl)).trans h3⟩

theorem Deck.belowed {w0 : World} {a : Option Addr} {c : Nat} {l : List UInt8} {g : Nat} {w w' : World} (h : Deck w0 a c l g w) (hb : Below w.heap.size w w') : Deck w0 a c l g w' :=
  h.kept (row := none) ⟨hb.os, hb.tape, hb.output, hb.size, fun k hk _ => hb.block k hk⟩ (fun k hk => by cases hk)

/-- What a call that draws leaves. -/
def Drawn (w0 : World) (a : Option Addr) (c : Nat) (l : List UInt8) (g : Nat) (w : World) (P : Value → Prop) (e : Ending) (w' : World) : Prop :=
  ∃ v, P v ∧ e = .returned v ∧ Deck w0 a c l g w' ∧ w.grownBy w' (some g)

def IntIn (lo hi : Int) (v : Value) : Prop := ∃ x : Int, v = .int .i64 x ∧ lo ≤ x ∧ x ≤ hi

theorem i64_low8 (n : Int) : bits .and .i64 n 255 = n % 256 := by
  have hm : (BitVec.ofInt 64 255).toNat = 2 ^ 8 - 1 := by decide
  have key : (BitVec.ofInt 64 n &&& BitVec.ofInt 64 255).toNat = (n % ((2 ^ 64 : Nat) : Int)).toNat % 2 ^ 8 := by
    rw [BitVec.toNat_and, BitVec.toNat_ofInt, hm, Nat.and_two_pow_sub_one_eq_mod]
  show IntKind.i64.wrap ((BitVec.ofInt 64 n &&& BitVec.ofInt 64 255).toNat : Nat) = n % 256
  rw [key, IntKind.wrap_i64]
  omega

theorem i64_low30 (n : Int) : bits .and .i64 n 1073741823 = n % 1073741824 := by
  have hm : (BitVec.ofInt 64 1073741823).toNat = 2 ^ 30 - 1 := by decide
  have key : (BitVec.ofInt 64 n &&& BitVec.ofInt 64 1073741823).toNat = (n % ((2 ^ 64 : Nat) : Int)).toNat % 2 ^ 30 := by
    rw [BitVec.toNat_and, BitVec.toNat_ofInt, hm, Nat.and_two_pow_sub_one_eq_mod]
  show IntKind.i64.wrap ((BitVec.ofInt 64 n &&& BitVec.ofInt 64 1073741823).toNat : Nat) = n % 1073741824
  rw [key, IntKind.wrap_i64]
  omega

/-- Behind two stores into the cursor. -/
theorem Deck.turned {w0 : World} {a : Option Addr} {c : Nat} {l : List UInt8} {g : Nat} {w : World} (hd : Deck w0 a c l g w) {i h : Int} (hg : w.heap[g]? = some (.cells #[.slice a l.length c, .int .i64 i, .int .i64 h] 62 (0, 0)))
    {w' : World} (hw : w.grownBy w' (some g)) {i' h' : Int} (h0 : 0 ≤ i') (h1 : i' ≤ l.length) (hg' : w'.heap[g]? = some (.cells #[.slice a l.length c, .int .i64 i', .int .i64 h'] 62 (0, 0))) : Deck w0 a c l g w' :=
  ⟨hd.bytes, hd.short, hd.below.grown hw hd.below.size (fun k hk => by cases hk; exact hd.new), hd.new, ⟨i', h', h0, h1, hg'⟩⟩

theorem grown_set (w : World) (g j : Nat) (v : Value) : w.grownBy (w.setCell ⟨g, j, none⟩ v) (some g) :=
  ⟨rfl, rfl, rfl, by simp [World.setCell], fun k _ hne => Below.heap_setCell _ _ _ _ (fun e => hne (by rw [e]))⟩

theorem grown_trans {a b c : World} {row : Option Nat} (h : a.grownBy b row) (k : b.grownBy c row) : a.grownBy c row :=
  ⟨k.os.trans h.os, k.tape.trans h.tape, k.output.trans h.output, Nat.le_trans h.size k.size, fun i hi hne => (k.block i (Nat.lt_of_lt_of_le hi h.size) hne).trans (h.block i hi hne)⟩

theorem grown_drewN {a b : World} {row : Option Nat} (h : a.grownBy b row) (n : Nat) : a.grownBy (b.drewN n) row := ⟨h.os, h.tape, h.output, h.size, h.block⟩

set_option maxHeartbeats 1000000 in
theorem l01Byte {w0 : World} {a : Option Addr} {c : Nat} {l : List UInt8} {g : Nat} {w : World} (hd : Deck w0 a c l g w) :
    Calls Tryz.prog 57 #[.pointer (some ⟨g, 0, none⟩)] w (Drawn w0 a c l g w (IntIn 0 255)) := by
  obtain ⟨i, h, hi0, hi1, hg⟩ := hd.cur
  have c0 : w.cell? ⟨g, 0, none⟩ = some (.slice a l.length c) := by rw [cell_of_row _ _ _ _ _ _ hg]; rfl
  have c1 : w.cell? ⟨g, 1, none⟩ = some (.int .i64 i) := by rw [cell_of_row _ _ _ _ _ _ hg]; rfl
  have c2 : w.cell? ⟨g, 2, none⟩ = some (.int .i64 h) := by rw [cell_of_row _ _ _ _ _ _ hg]; rfl
  have f0 : ∀ j, w.frozen? ⟨g, j, none⟩ = false := fun j => frozen_of_row _ _ _ _ _ hg
  have f1 := f0 1
  have f2 := f0 2
  have hs := hd.short
  have hset : ∀ v, (w.setCell ⟨g, 2, none⟩ v).heap[g]? = some (.cells #[.slice a l.length c, .int .i64 i, v] 62 (0, 0)) := fun v => by
    rw [heap_setCell_same w g 2 _ _ _ hg]; rfl
  have HS := Lib.hid hset
  by_cases hlt : i < l.length
  · obtain ⟨k, rfl⟩ := Int.eq_ofNat_of_zero_le hi0
    have hk : k < l.length := by omega
    obtain ⟨b, off, rfl, hbl, hcs⟩ := hd.bytes.2.2.2 (by omega)
    have hbg : ¬ b = g := by have := hd.new; omega
    have hcb : w.cell? ⟨b, off + k, none⟩ = some (.int .u8 (l[k].toNat : Int)) := (hd.below.cell (p := ⟨b, off + k, none⟩) hbl).trans (hcs k hk)
    have HD := Lib.hid hd
    have HG := Lib.hid hg
    clear f0 hd hg hcs hset
    have hby : (l[k].toNat : Int) ≤ 255 := by have := UInt8.toNat_lt l[k]; omega
    go_enter Tryz.func57, Tryz.ntmps57
    go_wp2
    generalize wrap64 (wrap64 (h * 6364136223846793005) + 1442695040888963407) = h1
    go_quiet (fail)
    go_wp2
    generalize hx0 : bits BinOp.and IntKind.i64 (bits BinOp.xor IntKind.i64 (h1 / 8589934592) (h1 / 35184372088832)) 255 = x0
    have hb0 : 0 ≤ x0 ∧ x0 ≤ 255 := by rw [← hx0, i64_low8]; omega
    obtain ⟨hb1, hb2⟩ := hb0
    clear hx0
    go_quiet (fail)
    go_wp2
    go_quiet (fail)
    go_wp2
    go_ret
    have hW : ∀ m, w.grownBy (((w.setCell ⟨g, 2, none⟩ (.int .i64 h1)).drewN m).setCell ⟨g, 1, none⟩ (.int .i64 ((k : Int) + 1))) (some g) := fun m => grown_trans (grown_drewN (grown_set _ _ _ _) m) (grown_set _ _ _ _)
    have hH : ∀ m, (((w.setCell ⟨g, 2, none⟩ (.int .i64 h1)).drewN m).setCell ⟨g, 1, none⟩ (.int .i64 ((k : Int) + 1))).heap[g]? = some (.cells #[.slice (some ⟨b, off, none⟩) l.length c, .int .i64 ((k : Int) + 1), .int .i64 h1] 62 (0, 0)) := by
      intro m; rw [heap_setCell_same _ g 1 _ _ _ (show ((w.setCell ⟨g, 2, none⟩ (.int .i64 h1)).drewN m).heap[g]? = _ from HS.out _)]; rfl
    refine ⟨_, ⟨_, rfl, by rw [i64_low8]; omega, by rw [i64_low8]; omega⟩, rfl, ?_, ?_⟩
    · exact Deck.turned HD.out HG.out (hW _) (by omega) (by omega) (hH _)
    · exact hW _
  · have HD := Lib.hid hd
    have HG := Lib.hid hg
    clear f0 hd hg hset
    go_enter Tryz.func57, Tryz.ntmps57
    go_wp2
    generalize wrap64 (wrap64 (h * 6364136223846793005) + 1442695040888963407) = h1
    go_quiet (fail)
    go_wp2
    generalize hx0 : bits BinOp.and IntKind.i64 (bits BinOp.xor IntKind.i64 (h1 / 8589934592) (h1 / 35184372088832)) 255 = x0
    have hb0 : 0 ≤ x0 ∧ x0 ≤ 255 := by rw [← hx0, i64_low8]; omega
    clear hx0
    go_quiet (fail)
    go_wp2
    go_ret
    have hW : w.grownBy (w.setCell ⟨g, 2, none⟩ (.int .i64 h1)) (some g) := grown_set _ _ _ _
    refine ⟨_, ⟨_, rfl, hb0.1, hb0.2⟩, rfl, ?_, ?_⟩
    · exact Deck.turned HD.out HG.out (grown_drewN (grown_drewN hW _) _) hi0 hi1 (HS.out _)
    · exact grown_drewN (grown_drewN hW _) _

set_option maxRecDepth 100000 in
set_option maxHeartbeats 1000000 in
theorem l01New (a : Option Addr) (c : Nat) (l : List UInt8) (w : World) (hb : Bytes w a c l) (hs : l.length ≤ 1048576) :
    Calls Tryz.prog 12 #[.slice a l.length c] w fun e w' => e = .returned (.pointer (some ⟨w.heap.size, 0, none⟩)) ∧ Deck w a c l w.heap.size w' ∧ Below w.heap.size w w' ∧ w'.heap.size = w.heap.size + 1 := by
  have hl := hb.len
  go_enter Tryz.func12, Tryz.ntmps12
  go_wp2
  go_loop [3, 4] (fun q i => ∃ (k : Nat) (h : Int), k ≤ l.length ∧ i = .int .i64 k ∧ q = .int .i64 h ∧ 0 ≤ h ∧ h ≤ 1073741823) (fun _ i => l.length - (intOf i).toNat)
  case atStart => exact ⟨0, _, Nat.zero_le _, rfl, rfl, by omega, by omega⟩
  case round =>
    obtain ⟨k, h, hk, rfl, rfl, h0, h1⟩ := hrel
    by_cases hlt : k < l.length
    · obtain ⟨b, off, rfl, hbl, hcs⟩ := hb.2.2.2 (by omega)
      have hcb := hcs k hlt
      have hby : (l[k].toNat : Int) ≤ 255 := by have := UInt8.toNat_lt l[k]; omega
      clear hcs
      by_cases h4 : k < 4000
      · go_wp2
        go_round
        case rel => exact ⟨k + 1, _, by omega, by go_num, rfl, by rw [i64_low30]; omega, by rw [i64_low30]; omega⟩
        case measure => simp [intOf]; omega
      · go_wp2
        go_ret
        refine ⟨rfl, ⟨hb, hs, (Below.refl _ _).alloc (Nat.le_refl _) _, Nat.le_refl _, 0, h, by omega, by omega, heap_alloc_new _ _⟩, (Below.refl _ _).alloc (Nat.le_refl _) _, by simp⟩
    · go_wp2
      go_ret
      refine ⟨rfl, ⟨hb, hs, (Below.refl _ _).alloc (Nat.le_refl _) _, Nat.le_refl _, 0, h, by omega, by omega, heap_alloc_new _ _⟩, (Below.refl _ _).alloc (Nat.le_refl _) _, by simp⟩

theorem lawsBig (a : Option Addr) (c n : Nat) (w : World) : Calls Tryz.prog 4 #[.slice a n c] w fun e w' => e = .returned (.bool (decide (1048576 < n))) ∧ w = w' := by
  go_enter Tryz.func4, Tryz.ntmps4
  go_wp2
  go_ret
  exact ⟨by simp; omega, rfl⟩

set_option maxHeartbeats 1000000 in
theorem l01Below {w0 : World} {a : Option Addr} {c : Nat} {l : List UInt8} {g : Nat} {w : World} (hd : Deck w0 a c l g w) (n : Int) (hn0 : 1 ≤ n) (hn1 : n ≤ 4294967296) :
    Calls Tryz.prog 29 #[.pointer (some ⟨g, 0, none⟩), .int .i64 n] w (Drawn w0 a c l g w (IntIn 0 (n - 1))) := by
  have hne : ¬ n = 0 := by omega
  by_cases h : n ≤ 256
  · go_enter Tryz.func29, Tryz.ntmps29
    go_wp2_with (go_at_call 57; refine (l01Byte hd).mono ?_; rintro e w1 ⟨v, ⟨x, rfl, hx0, hx1⟩, rfl, hd1, hg1⟩)
    go_ret
    exact ⟨_, ⟨_, rfl, Int.emod_nonneg _ hne, by have := Int.emod_lt_of_pos x (show 0 < n by omega); omega⟩, rfl, hd1, hg1⟩
  · go_enter Tryz.func29, Tryz.ntmps29
    go_wp2_with fail
    refine (l01Byte hd).mono ?_
    rintro e w1 ⟨v, ⟨x, rfl, hx0, hx1⟩, rfl, hd1, hg1⟩
    go_wp2_with fail
    refine (l01Byte hd1).mono ?_
    rintro e w2 ⟨v, ⟨y, rfl, hy0, hy1⟩, rfl, hd2, hg2⟩
    go_wp2_with fail
    refine (l01Byte hd2).mono ?_
    rintro e w3 ⟨v, ⟨z, rfl, hz0, hz1⟩, rfl, hd3, hg3⟩
    go_wp2_with fail
    refine (l01Byte hd3).mono ?_
    rintro e w4 ⟨v, ⟨u, rfl, hu0, hu1⟩, rfl, hd4, hg4⟩
    go_wp2_with fail
    go_ret
    refine ⟨_, ⟨_, rfl, Int.emod_nonneg _ hne, ?_⟩, rfl, hd4, grown_trans (grown_trans (grown_trans hg1 hg2) hg3) hg4⟩
    have := Int.emod_lt_of_pos (x * 16777216 + y * 65536 + z * 256 + u) (show 0 < n by omega)
    omega

end Go.Proofs.YtjjdcdnaonfnmaaGreatDoor

namespace Go.Proofs.YtjjdcdnaonfnmaaGreatDoor
open Go.RowKit

def TextIn (xs : List ByteArray) (v : Value) : Prop := ∃ s, v = .string s ∧ s ∈ xs

theorem Strs.grown {w w' : World} {a : Option Addr} {c : Nat} {xs : List ByteArray} (h : Strs w a c xs) {g : Nat} (hg : w.grownBy w' (some g)) (hne : ∀ b off, a = some ⟨b, off, none⟩ → b ≠ g) : Strs w' a c xs := by
  obtain ⟨h1, h2, h3, h3', h4⟩ := h
  refine ⟨h1, h2, h3, h3', fun hp => ?_⟩
  obtain ⟨b, off, ha, hlt, hc⟩ := h4 hp
  refine ⟨b, off, ha, Nat.lt_of_lt_of_le hlt hg.size, fun i hi => ?_⟩
  rw [World.cell?_of_block (w := w) (w' := w') (a := ⟨b, off + i, none⟩) (hg.block b hlt (fun e => hne b off ha (by cases e; rfl)))]
  exact hc i hi

set_option maxHeartbeats 1000000 in
theorem l01Pick {w0 : World} {a : Option Addr} {c : Nat} {l : List UInt8} {g : Nat} {w : World} (hd : Deck w0 a c l g w) (b : Nat) (cx : Nat) (xs : List ByteArray) (hx : Strs w (some ⟨b, 0, none⟩) cx xs) (hb : b ≠ g) (h0 : 1 ≤ xs.length) (h1 : xs.length ≤ 1000000) :
    Calls Tryz.prog 56 #[.pointer (some ⟨g, 0, none⟩), .slice (some ⟨b, 0, none⟩) xs.length cx] w (Drawn w0 a c l g w (TextIn xs)) := by
  go_enter Tryz.func56, Tryz.ntmps56
  go_wp2_with fail
  refine (l01Below hd (xs.length : Int) (by omega) (by omega)).mono ?_
  rintro e w1 ⟨v, ⟨x, rfl, hx0, hx1⟩, rfl, hd1, hg1⟩
  obtain ⟨k, rfl⟩ := Int.eq_ofNat_of_zero_le hx0
  have hk : k < xs.length := by omega
  have hs1 := hx.grown hg1 (fun b' off' e => by cases e; exact hb)
  have hc2 : w1.cell? ⟨b, k, none⟩ = some (.string xs[k]) := by
    obtain ⟨b', off', e, _, h⟩ := hs1.spot hk
    cases e
    simpa using h
  go_wp2_with fail
  go_ret
  exact ⟨_, ⟨_, rfl, List.getElem_mem hk⟩, rfl, hd1, hg1⟩

/-- A new row of texts that is laid in one go. -/
theorem strsLit (w : World) (xs : List ByteArray) (hs : ∀ s ∈ xs, s.size ≤ maxLen) (hn : xs.length ≤ 1000000) :
    Strs (w.alloc (.cells (xs.map Value.string).toArray 9)) (some ⟨w.heap.size, 0, none⟩) xs.length xs := by
  refine ⟨Nat.le_refl _, by unfold maxLen; omega, hs, (fun h => by cases h), fun _ => ⟨w.heap.size, 0, rfl, by simp, fun i hi => ?_⟩⟩
  rw [cell_of_row _ _ _ _ _ _ (heap_alloc_new w _)]
  simp [hi]

theorem Deck.alloc {w0 : World} {a : Option Addr} {c : Nat} {l : List UInt8} {g : Nat} {w : World} (h : Deck w0 a c l g w) (o : Obj) : Deck w0 a c l g (w.alloc o) :=
  h.belowed ((Below.refl _ _).alloc (Nat.le_refl _) _)

/-- The call draws out of a list that it lays. -/
theorem pickLit {w0 : World} {a : Option Addr} {c : Nat} {l : List UInt8} {g : Nat} {w : World} (hd : Deck w0 a c l g w) (xs : List ByteArray) (n : Nat) (hl : n = xs.length) (hs : ∀ s ∈ xs, s.size ≤ maxLen) (h0 : 1 ≤ xs.length) (h1 : xs.length ≤ 1000000) (cs : Array Value) (hcs : cs = (xs.map Value.string).toArray) :
    Calls Tryz.prog 56 #[.pointer (some ⟨g, 0, none⟩), .slice (some ⟨w.heap.size, 0, none⟩) n n] (w.alloc (.cells cs 9)) (Drawn w0 a c l g (w.alloc (.cells cs 9)) (TextIn xs)) := by
  subst hl hcs
  exact l01Pick (hd.alloc _) w.heap.size xs.length xs (strsLit w xs hs h1) (by have := hd.lt; omega) h0 h1

theorem Own.draw {w w' : World} {lo g : Nat} {a : Option Addr} {c : Nat} {xs : List ByteArray} (h : Own w lo a c xs) (hg : w.grownBy w' (some g)) (hlt : g < lo) : Own w' lo a c xs :=
  h.kept hg (fun k hk e => by cases e; have := (h.lt hk).1; omega)

/-- A row of the call's own grows while the cursor stands. -/
theorem grown_any {a b c : World} {g : Nat} {row : Option Nat} (h : a.grownBy b (some g)) (k : b.grownBy c row) (hr : ∀ j, row = some j → a.heap.size ≤ j) : a.grownBy c (some g) :=
  ⟨k.os.trans h.os, k.tape.trans h.tape, k.output.trans h.output, Nat.le_trans h.size k.size, fun i hi hne => (k.block i (Nat.lt_of_lt_of_le hi h.size) (fun e => by have := hr i e.symm; omega)).trans (h.block i hi hne)⟩

theorem grown_below {a b c : World} {g : Nat} (h : a.grownBy b (some g)) (k : Below b.heap.size b c) : a.grownBy c (some g) :=
  grown_any h (row := none) ⟨k.os, k.tape, k.output, k.size, fun i hi _ => k.block i hi⟩ (fun j e => by cases e)

theorem grown_alloc {a b : World} {g : Nat} (h : a.grownBy b (some g)) (o : Obj) : a.grownBy (b.alloc o) (some g) := grown_below h ((Below.refl _ _).alloc (Nat.le_refl _) _)

end Go.Proofs.YtjjdcdnaonfnmaaGreatDoor

namespace Go.Proofs.YtjjdcdnaonfnmaaGreatDoor
open Go.RowKit

set_option maxHeartbeats 1000000 in
theorem l01PickIntP {w0 : World} {a : Option Addr} {c : Nat} {l : List UInt8} {g : Nat} {w : World} (hd : Deck w0 a c l g w) (P : Int → Prop) (b n : Nat) (cs : Array Value) (hb : w.heap[b]? = some (.cells cs 3 (0, 0))) (hbg : b ≠ g) (hn : cs.size = n) (h0 : 1 ≤ n) (h1 : n ≤ 1000)
    (hi : ∀ (k : Nat) (v : Value), cs[k]? = some v → ∃ x : Int, v = .int .i64 x ∧ P x) :
    Calls Tryz.prog 30 #[.pointer (some ⟨g, 0, none⟩), .slice (some ⟨b, 0, none⟩) n n] w (Drawn w0 a c l g w (fun v => ∃ x : Int, v = .int .i64 x ∧ P x)) := by
  have hbl : b < w.heap.size := by
    rcases Nat.lt_or_ge b w.heap.size with hlt | hge
    · exact hlt
    · rw [Array.getElem?_eq_none hge] at hb; cases hb
  go_enter Tryz.func30, Tryz.ntmps30
  go_wp2_with fail
  refine (l01Below hd (n : Int) (by omega) (by omega)).mono ?_
  rintro e w1 ⟨v, ⟨x, rfl, hx0, hx1⟩, rfl, hd1, hg1⟩
  obtain ⟨k, rfl⟩ := Int.eq_ofNat_of_zero_le hx0
  have hk : k < cs.size := by omega
  obtain ⟨v, hv⟩ : ∃ v, cs[k]? = some v := ⟨cs[k], Array.getElem?_eq_getElem hk⟩
  obtain ⟨y, rfl, hy⟩ := hi k v hv
  have hb1 : w1.heap[b]? = some (.cells cs 3 (0, 0)) := (hg1.block b hbl (fun e => hbg (by cases e; rfl))).trans hb
  have hc2 : w1.cell? ⟨b, k, none⟩ = some (.int .i64 y) := by rw [cell_of_row _ _ _ _ _ _ hb1]; exact hv
  have hkn : k < n := by omega
  have HV := Lib.hid hv
  have HI := Lib.hid hi
  have HY := Lib.hid hy
  clear hv hi hb hb1 hn hk hy
  go_wp2_with fail
  go_ret
  exact ⟨_, ⟨y, rfl, HY.out⟩, rfl, hd1, hg1⟩

def texts5 : List ByteArray := [⟨#[]⟩, ⟨#[97]⟩, ⟨#[105, 116, 39, 115]⟩, ⟨#[34, 113, 34]⟩, ⟨#[39, 39]⟩]
/-- What FnQuote asks of a text. -/
def Quotable (s : ByteArray) : Prop := s.size ≤ 10 ∧ s.data.toList.contains 0 = false
theorem texts5_fit : ∀ s ∈ texts5, s.size ≤ 10 ∧ s.data.toList.contains 0 = false := by unfold texts5; decide

end Go.Proofs.YtjjdcdnaonfnmaaGreatDoor
