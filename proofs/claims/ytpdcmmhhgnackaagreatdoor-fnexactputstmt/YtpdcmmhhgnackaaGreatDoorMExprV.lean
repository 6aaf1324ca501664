/- Expressions: the text of an expression is read as its words, and those as the expression. -/
/- Expressions: their text as the program holds it. -/
/- spec.l04Binds, spec.l04Sign. -/
/- spec.l04Put writes the text of a right expression. -/
/- spec.l04Put: two kids; the whole; spec.PutExpr. -/
/- spec.Join and impl.Join (over strings.Join) both answer the texts with another between them. -/
/- How columns and rules are written. Nothing of the program. -/
import Derived.Test.YtpdcmmhhgnackaaGreatDoorMTypeText
import Derived.Test.YtpdcmmhhgnackaaGreatDoorMNameImpl
import Derived.Test.YtpdcmmhhgnackaaGreatDoorMMem
import Derived.Test.YtpdcmmhhgnackaaGreatDoorMExTo
import Derived.Test.YtpdcmmhhgnackaaGreatDoorMStAg
import Derived.Deep.RegionHeld3
import Derived.Test.YtpdcmmhhgnackaaGreatDoorMExSz
import Derived.Test.YtpdcmmhhgnackaaGreatDoorMPl
import Derived.Test.YtpdcmmhhgnackaaGreatDoorMShelf
import Derived.Lib.Join
namespace Go.Proofs.YtpdcmmhhgnackaaGreatDoor

theorem small_low {b : UInt8} (h : okB b = true) : moreB b = true ∧ lowB b = b := by
  simp only [okB, smallB, digitB, Bool.or_eq_true, Bool.and_eq_true, decide_eq_true_eq] at h
  constructor
  · simp only [moreB, letterB, digitB, Bool.or_eq_true, Bool.and_eq_true, decide_eq_true_eq, beq_iff_eq]; omega
  · unfold lowB
    rw [if_neg]
    simp only [Bool.and_eq_true, decide_eq_true_eq]; omega

theorem plain_right {l : List UInt8} (h : plainB l = true) : Right2 0 l := by
  unfold plainB at h
  simp only [Bool.and_eq_true, Bool.not_eq_true'] at h
  obtain ⟨h1, h2, h3⟩ := h
  cases l with
  | nil => cases h1
  | cons b t =>
    have hb := List.all_eq_true.1 h3 b (List.mem_cons_self ..)
    refine word2 ?_ (fun c hc => small_low (List.all_eq_true.1 h3 c hc))
    have hd : digitB b = false := h2
    simp only [okB, hd, Bool.or_false, smallB, Bool.or_eq_true, Bool.and_eq_true, decide_eq_true_eq] at hb
    simp only [letterB, Bool.or_eq_true, Bool.and_eq_true, decide_eq_true_eq, beq_iff_eq]; omega

theorem digits_all (u : Nat) : ∀ b ∈ Lib.decDigits u, digitB b = true := by
  induction u using Nat.strongRecOn with
  | ind u ih =>
    have hd : ∀ d, d < 10 → digitB (UInt8.ofNat (48 + d)) = true := fun d h => by
      have h2 : (UInt8.ofNat (48 + d)).toNat = 48 + d := by rw [UInt8.toNat_ofNat']; omega
      unfold digitB
      rw [h2]
      simp; omega
    by_cases h : u < 10
    · rw [Lib.decDigits_one h]
      intro b hb
      rw [List.mem_singleton] at hb
      subst hb
      exact hd u h
    · rw [Lib.decDigits, dif_neg h]
      intro b hb
      rcases List.mem_append.1 hb with hb | hb
      · exact ih (u / 10) (by omega) b hb
      · rw [List.mem_singleton] at hb
        subst hb
        exact hd _ (by omega)

theorem num_right {n : Int} (h0 : 0 ≤ n) (h1 : n ≤ 999999999) : Right2 2 (Lib.itoa n) := by
  have hr := readD_inB n h0 h1
  obtain ⟨m, rfl⟩ := Int.eq_ofNat_of_zero_le h0
  rw [itoa_natB] at hr ⊢
  have hall := digits_all m
  cases hd : Lib.decDigits m with
  | nil => exact absurd hd (decDigits_neB m)
  | cons b t =>
    rw [hd] at hall hr
    have hb := hall b (List.mem_cons_self ..)
    refine num2 hb ?_ (fun c hc => by unfold moreB; rw [hall c hc]; simp) (by rw [hr]; exact h0)
    simp only [digitB, Bool.and_eq_true, decide_eq_true_eq] at hb
    simp only [letterB, Bool.or_eq_false_iff, Bool.and_eq_false_iff, decide_eq_false_iff_not, beq_eq_false_iff_ne]; omega

theorem leaf_right {k : Int} {t : ByteArray} {n : Int} (h : node1 k t n 0 = true) : Right2 (wn (leafW k t n)).1 (wn (leafW k t n)).2 := by
  have hk := zero_kids (arity h)
  unfold node1 at h
  simp only [Bool.and_eq_true] at h
  obtain ⟨⟨_, ht⟩, hn⟩ := h
  rcases hk with rfl | rfl | rfl | rfl | rfl | rfl
  · have hname : nameB t.data.toList = true := by simpa using ht
    unfold leafW
    rw [if_pos rfl]
    split
    · rename_i hp
      rw [Bool.and_eq_true] at hp
      exact plain_right hp.1
    · exact name2 hname
  · have hn0 : 0 ≤ n ∧ n ≤ 999999999 := by simpa using hn
    exact num_right hn0.1 hn0.2
  · have hsz : t.size ≤ 100 := by simpa using ht
    exact text2 (show t.data.toList.length ≤ 100 by simpa using hsz)
  · exact word2 (b := 116) (t := [114, 117, 101]) (by decide) (by decide)
  · exact word2 (b := 102) (t := [97, 108, 115, 101]) (by decide) (by decide)
  · exact word2 (b := 110) (t := [117, 108, 108]) (by decide) (by decide)

theorem sign_right {k : Int} (h : k ∈ ([8, 9, 10, 11, 12, 13, 14, 15, 16, 17, 18] : List Int)) : Right2 (wn (signW k)).1 (wn (signW k)).2 := by
  simp only [List.mem_cons, List.not_mem_nil, or_false] at h
  rcases h with rfl | rfl | rfl | rfl | rfl | rfl | rfl | rfl | rfl | rfl | rfl
  · exact word2 (b := 97) (t := [110, 100]) (by decide) (by decide)
  · exact word2 (b := 111) (t := [114]) (by decide) (by decide)
  · exact sign1 (b := 61) (by decide)
  · exact sign2 (b := 60) (c := 62) (by decide)
  · exact sign1 (b := 60) (by decide)
  · exact sign2 (b := 60) (c := 61) (by decide)
  · exact sign1 (b := 62) (by decide)
  · exact sign2 (b := 62) (c := 61) (by decide)
  · exact sign1 (b := 43) (by decide)
  · exact sign1 (b := 45) (by decide)
  · exact sign1 (b := 42) (by decide)

theorem sign_no {k : Int} (h : k ∈ ([8, 9, 10, 11, 12, 13, 14, 15, 16, 17, 18] : List Int)) : signK k ≠ [40] ∧ signK k ≠ [41] ∧ (signK k).length ≤ 3 := by
  have : ∀ k ∈ ([8, 9, 10, 11, 12, 13, 14, 15, 16, 17, 18] : List Int), signK k ≠ [40] ∧ signK k ≠ [41] ∧ (signK k).length ≤ 3 := by decide
  exact this k h

theorem words_right : ∀ (n : Nat) (e : Ex) (L : Nat), e.nodes ≤ n → shapeE e = true → ∀ x ∈ (wordsE e L).map wn, Right2 x.1 x.2 := by
  intro n
  induction n with
  | zero => intro e L h; rw [Ex.nodes_eq] at h; omega
  | succ n ih =>
    intro e L hn hs
    suffices H : ∀ x ∈ (wordsE e 1).map wn, Right2 x.1 x.2 by
      by_cases hp : bindsK e.kind < L
      · rw [words_in hp]
        intro x hx
        simp only [List.map_cons, List.map_append, List.map_nil, List.mem_cons, List.mem_append, List.not_mem_nil, or_false] at hx
        rcases hx with rfl | hx | rfl
        · exact sign1 (b := 40) (by decide)
        · exact H x hx
        · exact sign1 (b := 41) (by decide)
      · have := (binds_range e.kind).1
        rw [words_out hp (show ¬ bindsK e.kind < 1 by omega)]
        exact H
    obtain ⟨k, t, m, kids⟩ := e
    have hb := (binds_range k).1
    have hb1 : ¬ bindsK k < 1 := by omega
    rw [Ex.nodes_eq] at hn
    rw [shapeE, Bool.and_eq_true] at hs
    obtain ⟨h1, hl⟩ := hs
    match kids, h1, hl, hn with
    | [], h1, _, _ =>
      rw [wordsE, if_neg hb1]
      intro x hx
      simp only [List.map_cons, List.map_nil, List.mem_cons, List.not_mem_nil, or_false] at hx
      subst hx
      exact leaf_right h1
    | [a], h1, hl, hn =>
      have hsa : shapeE a = true := by rw [shapeL, Bool.and_eq_true] at hl; exact hl.1
      have hna : a.nodes ≤ n := by change 1 + nodesL [a] ≤ n + 1 at hn; rw [nodesL, nodesL] at hn; omega
      rw [wordsE, if_neg hb1, if_neg hb1]
      split
      · intro x hx
        rw [List.map_cons, List.mem_cons] at hx
        rcases hx with rfl | hx
        · exact word2 (b := 110) (t := [111, 116]) (by decide) (by decide)
        · exact ih a 3 hna hsa x hx
      · intro x hx
        simp only [List.map_append, List.map_cons, List.map_nil, List.mem_append, List.mem_cons, List.not_mem_nil, or_false] at hx
        rcases hx with hx | rfl | rfl
        · exact ih a 5 hna hsa x hx
        · exact word2 (b := 105) (t := [115]) (by decide) (by decide)
        · exact word2 (b := 110) (t := [117, 108, 108]) (by decide) (by decide)
    | [a, b], h1, hl, hn =>
      have hsa : shapeE a = true := by rw [shapeL, Bool.and_eq_true] at hl; exact hl.1
      have hsb : shapeE b = true := by rw [shapeL, shapeL, Bool.and_eq_true, Bool.and_eq_true] at hl; exact hl.2.1
      have hnn : a.nodes ≤ n ∧ b.nodes ≤ n := by
        change 1 + nodesL [a, b] ≤ n + 1 at hn
        rw [nodesL, nodesL, nodesL] at hn
        omega
      rw [wordsE, if_neg hb1]
      intro x hx
      rw [List.map_append, List.map_cons, List.mem_append, List.mem_cons] at hx
      rcases hx with hx | rfl | hx
      · exact ih a _ hnn.1 hsa x hx
      · exact sign_right (two_mem (arity h1))
      · exact ih b _ hnn.2 hsb x hx
    | a :: b :: c :: r, h1, _, _ =>
      have := arity h1
      unfold kidsK at this
      simp only [List.length_cons] at this
      split at this
      · omega
      · split at this
        · omega
        · split at this <;> omega

theorem dbl_le (q : UInt8) (t : List UInt8) : (quoteL q t).length ≤ 2 * t.length + 2 := by
  have h : (t.flatMap fun b => if b = q then [q, b] else [b]).length ≤ 2 * t.length := by
    induction t with
    | nil => simp
    | cons b t ih =>
      rw [List.flatMap_cons, List.length_append, List.length_cons]
      split <;> simp only [List.length_cons, List.length_nil] <;> omega
  unfold quoteL
  simp only [List.length_append, List.length_cons, List.length_nil]
  omega

theorem leaf_len {k : Int} {t : ByteArray} {n : Int} (h : node1 k t n 0 = true) : (sp (wn (leafW k t n)).1 (wn (leafW k t n)).2).length ≤ 202 := by
  have hk := zero_kids (arity h)
  unfold node1 at h
  simp only [Bool.and_eq_true] at h
  obtain ⟨⟨_, ht⟩, hn⟩ := h
  rcases hk with rfl | rfl | rfl | rfl | rfl | rfl
  · have hname : nameB t.data.toList = true := by simpa using ht
    have hlen : t.data.toList.length ≤ 40 := by
      unfold nameB at hname
      simp only [Bool.and_eq_true, decide_eq_true_eq] at hname
      exact hname.1.2
    unfold leafW
    rw [if_pos rfl]
    split
    · show t.data.toList.length ≤ 202
      omega
    · have := dbl_le 34 t.data.toList
      show (quoteL 34 t.data.toList).length ≤ 202
      omega
  · have hn0 : 0 ≤ n ∧ n ≤ 999999999 := by simpa using hn
    obtain ⟨m, rfl⟩ := Int.eq_ofNat_of_zero_le hn0.1
    show (Lib.itoa (m : Int)).length ≤ 202
    rw [itoa_natB, Lib.decDigits_length]
    have := nDigits_leB 9 m (by omega) (by omega)
    omega
  · have hsz : t.size ≤ 100 := by simpa using ht
    have h1 : t.data.toList.length ≤ 100 := by simpa using hsz
    have := dbl_le 39 t.data.toList
    show (quoteL 39 t.data.toList).length ≤ 202
    omega
  · show (4 : Nat) ≤ 202; omega
  · show (5 : Nat) ≤ 202; omega
  · show (4 : Nat) ≤ 202; omega

theorem text_len : ∀ (n : Nat) (e : Ex) (L : Nat), e.nodes ≤ n → shapeE e = true → (textE e L).length ≤ 210 * e.nodes := by
  intro n
  induction n with
  | zero => intro e L h; rw [Ex.nodes_eq] at h; omega
  | succ n ih =>
    intro e L hn hs
    suffices H : (textE e 1).length + 2 ≤ 210 * e.nodes by
      by_cases hp : bindsK e.kind < L
      · rw [text_in hp]
        simp only [List.length_cons, List.length_append, List.length_nil]
        omega
      · have := (binds_range e.kind).1
        rw [text_out hp (show ¬ bindsK e.kind < 1 by omega)]
        omega
    obtain ⟨k, t, m, kids⟩ := e
    have he := Ex.nodes_eq (.mk k t m kids)
    rw [he] at hn ⊢
    rw [shapeE, Bool.and_eq_true] at hs
    obtain ⟨h1, hl⟩ := hs
    match kids, h1, hl, hn with
    | [], h1, _, _ =>
      rw [text_leaf]
      have := leaf_len h1
      omega
    | [a], h1, hl, hn =>
      have hsa : shapeE a = true := by rw [shapeL, Bool.and_eq_true] at hl; exact hl.1
      change 1 + nodesL [a] ≤ n + 1 at hn
      rw [nodesL, nodesL] at hn
      show _ ≤ 210 * (1 + nodesL [a])
      rw [nodesL, nodesL]
      by_cases hk : k = 6
      · subst hk
        have := ih a 3 (by omega) hsa
        rw [text_not]
        simp only [List.length_append, List.length_cons, wNot, List.length_nil]
        omega
      · have := ih a 5 (by omega) hsa
        rw [text_null hk]
        simp only [List.length_append, List.length_cons, wIs, wNull, List.length_nil]
        omega
    | [a, b], h1, hl, hn =>
      have hsa : shapeE a = true := by rw [shapeL, Bool.and_eq_true] at hl; exact hl.1
      have hsb : shapeE b = true := by rw [shapeL, shapeL, Bool.and_eq_true, Bool.and_eq_true] at hl; exact hl.2.1
      change 1 + nodesL [a, b] ≤ n + 1 at hn
      rw [nodesL, nodesL, nodesL] at hn
      show _ ≤ 210 * (1 + nodesL [a, b])
      rw [nodesL, nodesL, nodesL]
      have hsg := sign_no (two_mem (arity h1))
      have ha := ih a (firstK k) (by omega) hsa
      have hb := ih b (bindsK k + 1) (by omega) hsb
      rw [text_two k t m a b [] ⟨hsg.1, hsg.2.1⟩]
      simp only [List.length_append, List.length_cons]
      omega
    | a :: b :: c :: r, h1, _, _ =>
      have := arity h1
      unfold kidsK at this
      simp only [List.length_cons] at this
      split at this
      · omega
      · split at this
        · omega
        · split at this <;> omega

/-- The text of a right expression is read as its words. -/
theorem text_reads (e : Ex) (L : Nat) (hs : shapeE e = true) (hn : e.nodes ≤ 40) : ∃ ts, lexB (textE e L) = .ok ts ∧ kt ts = (wordsE e L).map wn := by
  obtain ⟨ts, h1, h2, h3⟩ := join_lex ((wordsE e L).map wn) 0 (words_right e.nodes e L (Nat.le_refl _) hs)
  have hl := text_len e.nodes e L (Nat.le_refl _) hs
  refine ⟨ts, ?_, h2⟩
  unfold lexB
  rw [if_neg (by omega)]
  unfold textE at hl ⊢
  rw [h3, List.drop_zero, h1]

end Go.Proofs.YtpdcmmhhgnackaaGreatDoor

namespace Go.Proofs.YtpdcmmhhgnackaaGreatDoor

theorem txt_append (a b : List UInt8) : txt (a ++ b) = txt a ++ txt b := by
  apply ByteArray.ext
  simp [txt, ByteArray.data_append]

theorem txt_size (l : List UInt8) : (txt l).size = l.length := by simp [txt, ByteArray.size]

/-- The text of an expression that has to bind L. -/
def tE (e : Ex) (L : Nat) : ByteArray := txt (textE e L)

theorem tE_size {e : Ex} {L : Nat} (hs : shapeE e = true) (hn : e.nodes ≤ 40) : (tE e L).size ≤ 8400 := by
  have := text_len e.nodes e L (Nat.le_refl _) hs
  unfold tE
  rw [txt_size]
  omega

/-- .. without brackets, and with them. -/
theorem tE_out {e : Ex} {L : Nat} (h : ¬ bindsK e.kind < L) : tE e L = tE e 1 := by
  unfold tE
  rw [text_out (L' := 1) h (by have := (binds_range e.kind).1; omega)]

theorem tE_in {e : Ex} {L : Nat} (h : bindsK e.kind < L) : tE e L = txt [40] ++ tE e 1 ++ txt [41] := by
  unfold tE
  rw [text_in h, ← txt_append, ← txt_append]
  rfl

theorem tE_not (t : ByteArray) (n : Int) (a : Ex) : tE (.mk 6 t n [a]) 1 = txt [110, 111, 116, 32] ++ tE a 3 := by
  unfold tE
  rw [text_not, ← txt_append]
  rfl

theorem tE_null (t : ByteArray) (n : Int) (a : Ex) : tE (.mk 7 t n [a]) 1 = tE a 5 ++ txt [32, 105, 115, 32, 110, 117, 108, 108] := by
  unfold tE
  rw [text_null (by decide), ← txt_append]
  rfl

theorem tE_two {k : Int} (hk : k ∈ ([8, 9, 10, 11, 12, 13, 14, 15, 16, 17, 18] : List Int)) (t : ByteArray) (n : Int) (a b : Ex) : tE (.mk k t n [a, b]) 1 = tE a (firstK k) ++ txt [32] ++ txt (signK k) ++ txt [32] ++ tE b (bindsK k + 1) := by
  have hs := sign_no hk
  unfold tE
  rw [text_two k t n a b [] ⟨hs.1, hs.2.1⟩, ← txt_append, ← txt_append, ← txt_append, ← txt_append]
  simp

theorem tE_name (t : ByteArray) (n : Int) : tE (.mk 0 t n []) 1 = nameT t := by
  unfold tE
  rw [text_leaf]
  unfold nameT leafW wn
  rw [if_pos rfl]
  split
  · exact txt_data t
  · rfl

theorem tE_num (t : ByteArray) (n : Int) : tE (.mk 1 t n []) 1 = dec n := by
  unfold tE
  rw [text_leaf]
  rfl

theorem tE_text (t : ByteArray) (n : Int) : tE (.mk 2 t n []) 1 = quoteT t 39 := by
  unfold tE
  rw [text_leaf]
  rfl

theorem tE_true (t : ByteArray) (n : Int) : tE (.mk 3 t n []) 1 = txt wTrue := by unfold tE; rw [text_leaf]; rfl
theorem tE_false (t : ByteArray) (n : Int) : tE (.mk 4 t n []) 1 = txt wFalse := by unfold tE; rw [text_leaf]; rfl
theorem tE_nul (t : ByteArray) (n : Int) : tE (.mk 5 t n []) 1 = txt wNull := by unfold tE; rw [text_leaf]; rfl

end Go.Proofs.YtpdcmmhhgnackaaGreatDoor

namespace Go.Proofs.YtpdcmmhhgnackaaGreatDoor
open Go.RowKit

theorem kind_cases {k : Int} (h0 : 0 ≤ k) (h1 : k ≤ 18) : k = 0 ∨ k = 1 ∨ k = 2 ∨ k = 3 ∨ k = 4 ∨ k = 5 ∨ k = 6 ∨ k = 7 ∨ k = 8 ∨ k = 9 ∨ k = 10 ∨ k = 11 ∨ k = 12 ∨ k = 13 ∨ k = 14 ∨ k = 15 ∨ k = 16 ∨ k = 17 ∨ k = 18 := by omega

set_option maxHeartbeats 2000000 in
theorem specBinds (k : Int) (h0 : 0 ≤ k) (h1 : k ≤ 18) (w : World) : Calls Tryz.prog 110 #[.int .i64 k] w fun e w' => e = .returned (.int .i64 (bindsK k : Nat)) ∧ w' = w := by
  rcases kind_cases h0 h1 with rfl | rfl | rfl | rfl | rfl | rfl | rfl | rfl | rfl | rfl | rfl | rfl | rfl | rfl | rfl | rfl | rfl | rfl | rfl <;>
  · clear h0 h1
    go_enter Tryz.func110, Tryz.ntmps110
    go_wp2
    go_ret
    exact ⟨rfl, rfl⟩

set_option maxHeartbeats 2000000 in
theorem specSignE (k : Int) (h0 : 8 ≤ k) (h1 : k ≤ 18) (w : World) : Calls Tryz.prog 111 #[.int .i64 k] w fun e w' => e = .returned (.string (txt (signK k))) ∧ w' = w := by
  rcases kind_cases (show 0 ≤ k by omega) h1 with rfl | rfl | rfl | rfl | rfl | rfl | rfl | rfl | rfl | rfl | rfl | rfl | rfl | rfl | rfl | rfl | rfl | rfl | rfl <;> (try (exfalso; omega)) <;>
  · clear h0 h1
    go_enter Tryz.func111, Tryz.ntmps111
    go_wp2
    go_ret
    exact ⟨rfl, rfl⟩

end Go.Proofs.YtpdcmmhhgnackaaGreatDoor

namespace Go.Proofs.YtpdcmmhhgnackaaGreatDoor
open Go.RowKit

def PutP (d : Nat) : Prop := ∀ (e : Ex) (a : Option Addr) (c : Nat) (L : Nat) (w : World), shapeE e = true → e.nodes ≤ 40 → L ≤ 7 → KidsAt w d a c e.kids →
  Calls Tryz.prog 70 #[.agg #[.int .i64 e.kind, .string e.text, .int .i64 e.num, .slice a e.kids.length c], .int .i64 (L : Int)] w fun x w' => x = .returned (.string (tE e L)) ∧ Below w.heap.size w w'

theorem specBindsB (k : Int) (h0 : 0 ≤ k) (h1 : k ≤ 18) (w : World) (b : Int) (hb : (bindsK k : Int) = b) : Calls Tryz.prog 110 #[.int .i64 k] w fun e w' => e = .returned (.int .i64 b) ∧ w' = w := by
  subst hb; exact specBinds k h0 h1 w

/-- The last lines: brackets or none. -/
theorem tE_end {e : Ex} {L : Nat} {s : ByteArray} (hs : s = tE e 1) : (bindsK e.kind < L → tE e L = txt [40] ++ s ++ txt [41]) ∧ (¬ bindsK e.kind < L → tE e L = s) := by
  subst hs
  exact ⟨tE_in, tE_out⟩

theorem shape_parts {k : Int} {t : ByteArray} {n : Int} {kids : List Ex} (h : shapeE (.mk k t n kids) = true) : node1 k t n kids.length = true ∧ shapeL kids = true := by
  rw [shapeE, Bool.and_eq_true] at h; exact h

theorem kind_in {k : Int} {t : ByteArray} {n : Int} {m : Nat} (h : node1 k t n m = true) : 0 ≤ k ∧ k ≤ 18 := by
  have := arity h
  unfold kidsK at this
  split at this
  · omega
  · omega

theorem small_text {k : Int} {t : ByteArray} {n : Int} {m : Nat} (h : node1 k t n m = true) : t.size ≤ 100 := by
  unfold node1 at h
  simp only [Bool.and_eq_true] at h
  obtain ⟨⟨_, ht⟩, _⟩ := h
  split at ht
  · unfold nameB at ht
    simp only [Bool.and_eq_true, decide_eq_true_eq] at ht
    have hl : t.data.toList.length = t.size := by simp
    omega
  · split at ht
    · simpa using ht
    · have : t = txt [] := txt_empty ht
      rw [this]; decide

theorem small_num {k : Int} {t : ByteArray} {n : Int} {m : Nat} (h : node1 k t n m = true) : 0 ≤ n ∧ n ≤ 999999999 := by
  unfold node1 at h
  simp only [Bool.and_eq_true] at h
  have := h.2
  split at this
  · simpa using this
  · have : n = 0 := by simpa using this
    omega

set_option maxRecDepth 100000 in
set_option maxHeartbeats 4000000 in
/-- A leaf. -/
theorem putLeaf (k : Int) (t : ByteArray) (n : Int) (a : Option Addr) (c : Nat) (L : Nat) (w : World) (h : node1 k t n 0 = true) (hL : L ≤ 7) :
    Calls Tryz.prog 70 #[.agg #[.int .i64 k, .string t, .int .i64 n, .slice a 0 c], .int .i64 (L : Int)] w fun x w' => x = .returned (.string (tE (.mk k t n []) L)) ∧ Below w.heap.size w w' := by
  have hk := zero_kids (arity h)
  have hts := small_text h
  have hns := small_num h
  have HR : Hid (tE (.mk k t n []) L = tE (.mk k t n []) 1) := tE_out (by
    have : bindsK k = 7 := by rcases hk with rfl | rfl | rfl | rfl | rfl | rfl <;> rfl
    show ¬ bindsK k < L
    omega)
  have HBX := Lib.hid (fun T => boxK_new w k t n a 0 c T)
  have hd : decide ((7 : Int) < (L : Int)) = false := by simp; omega
  clear h
  rcases hk with rfl | rfl | rfl | rfl | rfl | rfl
  · have hq : ∃ r, nameT t = r := ⟨_, rfl⟩
    obtain ⟨r, hr⟩ := hq
    have HE : Hid (tE (.mk 0 t n []) L = r) := by unfold Hid; rw [HR.out, tE_name, hr]
    go_enter Tryz.func70, Tryz.ntmps70
    go_wp2_with (first | (go_at_call 110; refine (specBindsB 0 (by omega) (by omega) _ 7 rfl).mono ?_; rintro e w1 ⟨rfl, rfl⟩) | (go_at_call 24; refine (specPutName t _ (by omega) r hr).mono ?_; rintro e w2 ⟨rfl, hb2⟩))
    go_ret
    exact ⟨by rw [HE.out]; rfl, ((HBX.out _).below hb2).bel⟩
  · have HE : Hid (tE (.mk 1 t n []) L = dec n) := by unfold Hid; rw [HR.out, tE_num]
    go_enter Tryz.func70, Tryz.ntmps70
    go_wp2_with (first | (go_at_call 110; refine (specBindsB 1 (by omega) (by omega) _ 7 rfl).mono ?_; rintro e w1 ⟨rfl, rfl⟩) | (go_at_call 68; refine (specDecText n _ (by omega) (by omega)).mono ?_; rintro e w2 ⟨rfl, rfl⟩))
    go_ret
    exact ⟨by rw [HE.out]; rfl, (HBX.out _).bel⟩
  · have HE : Hid (tE (.mk 2 t n []) L = quoteT t 39) := by unfold Hid; rw [HR.out, tE_text]
    go_enter Tryz.func70, Tryz.ntmps70
    go_wp2_with (first | (go_at_call 110; refine (specBindsB 2 (by omega) (by omega) _ 7 rfl).mono ?_; rintro e w1 ⟨rfl, rfl⟩) | (go_at_call 67; refine (specQuote t 39 _ (by omega)).mono ?_; rintro e w2 ⟨rfl, hb2⟩))
    go_ret
    exact ⟨by rw [HE.out]; rfl, ((HBX.out _).below hb2).bel⟩
  · have HE : Hid (tE (.mk 3 t n []) L = txt wTrue) := by unfold Hid; rw [HR.out, tE_true]
    go_enter Tryz.func70, Tryz.ntmps70
    go_wp2_with (go_at_call 110; refine (specBindsB 3 (by omega) (by omega) _ 7 rfl).mono ?_; rintro e w1 ⟨rfl, rfl⟩)
    go_ret
    exact ⟨by rw [HE.out]; rfl, (HBX.out _).bel⟩
  · have HE : Hid (tE (.mk 4 t n []) L = txt wFalse) := by unfold Hid; rw [HR.out, tE_false]
    go_enter Tryz.func70, Tryz.ntmps70
    go_wp2_with (go_at_call 110; refine (specBindsB 4 (by omega) (by omega) _ 7 rfl).mono ?_; rintro e w1 ⟨rfl, rfl⟩)
    go_ret
    exact ⟨by rw [HE.out]; rfl, (HBX.out _).bel⟩
  · have HE : Hid (tE (.mk 5 t n []) L = txt wNull) := by unfold Hid; rw [HR.out, tE_nul]
    go_enter Tryz.func70, Tryz.ntmps70
    go_wp2_with (go_at_call 110; refine (specBindsB 5 (by omega) (by omega) _ 7 rfl).mono ?_; rintro e w1 ⟨rfl, rfl⟩)
    go_ret
    exact ⟨by rw [HE.out]; rfl, (HBX.out _).bel⟩

set_option maxRecDepth 100000 in
set_option maxHeartbeats 4000000 in
/-- A not, or an is null. -/
theorem putOne (d : Nat) (ih : PutP d) (k : Int) (hk : k = 6 ∨ k = 7) (t : ByteArray) (n : Int) (x : Ex) (a : Option Addr) (c : Nat) (L : Nat) (w : World) (hs : shapeE x = true) (hn : x.nodes ≤ 39) (hL : L ≤ 7) (hx : KidsAt w (d + 1) a c [x]) :
    Calls Tryz.prog 70 #[.agg #[.int .i64 k, .string t, .int .i64 n, .slice a 1 c], .int .i64 (L : Int)] w fun z w' => z = .returned (.string (tE (.mk k t n [x]) L)) ∧ Below w.heap.size w w' := by
  have HBX := Lib.hid (fun T => boxK_new w k t n a 1 c T)
  have HK := Lib.hid (fun w' hb => hx.below (w' := w') hb)
  clear hx
  have l1 : (ByteArray.mk #[110, 111, 116, 32]).size = 4 := rfl
  have l2 : (ByteArray.mk #[32, 105, 115, 32, 110, 117, 108, 108]).size = 8 := rfl
  have l3 : (ByteArray.mk #[40]).size = 1 := rfl
  have l4 : (ByteArray.mk #[41]).size = 1 := rfl
  rcases hk with rfl | rfl
  · obtain ⟨s, hs1⟩ : ∃ s, s = tE x 3 := ⟨_, rfl⟩
    have hsz : s.size ≤ 8400 := by rw [hs1]; exact tE_size hs (by omega)
    have HE := Lib.hid (tE_end (e := .mk 6 t n [x]) (L := L) (s := (ByteArray.mk #[110, 111, 116, 32]) ++ s) (by rw [tE_not, hs1]; rfl))
    have HS := Lib.hid hs1
    clear hs1
    have ad0 : ∀ w, (Op.stringOp .add (ByteArray.mk #[110, 111, 116, 32]) s).run Tryz.prog w = .ok (.string ((ByteArray.mk #[110, 111, 116, 32]) ++ s)) w := fun w => run_string_add_sum w _ _ (by omega)
    obtain ⟨s1, hs1⟩ : ∃ s1, s1 = (ByteArray.mk #[110, 111, 116, 32]) ++ s := ⟨_, rfl⟩
    rw [← hs1] at ad0 HE
    have hs1z : s1.size ≤ 8404 := by rw [hs1, ByteArray.size_append]; omega
    clear hs1
    have ad1 : ∀ w, (Op.stringOp .add (ByteArray.mk #[40]) s1).run Tryz.prog w = .ok (.string ((ByteArray.mk #[40]) ++ s1)) w := fun w => run_string_add_sum w _ _ (by omega)
    have ad2 : ∀ w, (Op.stringOp .add ((ByteArray.mk #[40]) ++ s1) (ByteArray.mk #[41])).run Tryz.prog w = .ok (.string ((ByteArray.mk #[40]) ++ s1 ++ (ByteArray.mk #[41]))) w := fun w => run_string_add_sum w _ _ (by rw [ByteArray.size_append]; omega)
    go_enter Tryz.func70, Tryz.ntmps70
    go_wp2_with fail
    refine (specBindsB 6 (by omega) (by omega) _ 3 rfl).mono ?_
    rintro e w1 ⟨rfl, rfl⟩
    have BX := HBX.out 66
    generalize w.alloc (.cells #[.int .i64 6, .string t, .int .i64 n, .slice a 1 c] 66) = W1 at BX ⊢
    obtain ⟨hW1, c0, c1, c2, c3, bW1⟩ := BX
    obtain ⟨b, off, rfl, hbl, d0, d1, d2, hfit, a', c', d3, hkid⟩ := (HK.out _ bW1).spot (i := 0) (by simp)
    simp only [List.getElem_cons_zero, Nat.zero_mul, Nat.add_zero] at d0 d1 d2 d3 hkid hfit
    have HX := Lib.hid hkid
    clear hkid
    go_wp2_with fail
    refine (ih x a' c' 3 _ hs (by omega) (by omega) HX.out).mono ?_
    rw [← HS.out]
    rintro z w2 ⟨rfl, hb2⟩
    have B2 := Lib.hid (bW1.trans (hb2.mono bW1.size))
    clear hb2 d0 d1 d2 d3
    by_cases hlt : (3 : Int) < (L : Int)
    · have HR := Lib.hid (HE.out.1 (by show 3 < L; omega))
      go_wp2_with fail
      go_ret
      exact ⟨by rw [HR.out]; rfl, B2.out⟩
    · have HR := Lib.hid (HE.out.2 (by show ¬ 3 < L; omega))
      go_wp2_with fail
      go_ret
      exact ⟨by rw [HR.out]; rfl, B2.out⟩
  · obtain ⟨s, hs1⟩ : ∃ s, s = tE x 5 := ⟨_, rfl⟩
    have hsz : s.size ≤ 8400 := by rw [hs1]; exact tE_size hs (by omega)
    have HE := Lib.hid (tE_end (e := .mk 7 t n [x]) (L := L) (s := s ++ (ByteArray.mk #[32, 105, 115, 32, 110, 117, 108, 108])) (by rw [tE_null, hs1]; rfl))
    have HS := Lib.hid hs1
    clear hs1
    have ad0 : ∀ w, (Op.stringOp .add s (ByteArray.mk #[32, 105, 115, 32, 110, 117, 108, 108])).run Tryz.prog w = .ok (.string (s ++ (ByteArray.mk #[32, 105, 115, 32, 110, 117, 108, 108]))) w := fun w => run_string_add_sum w _ _ (by omega)
    obtain ⟨s1, hs1⟩ : ∃ s1, s1 = s ++ (ByteArray.mk #[32, 105, 115, 32, 110, 117, 108, 108]) := ⟨_, rfl⟩
    rw [← hs1] at ad0 HE
    have hs1z : s1.size ≤ 8408 := by rw [hs1, ByteArray.size_append]; omega
    clear hs1
    have ad1 : ∀ w, (Op.stringOp .add (ByteArray.mk #[40]) s1).run Tryz.prog w = .ok (.string ((ByteArray.mk #[40]) ++ s1)) w := fun w => run_string_add_sum w _ _ (by omega)
    have ad2 : ∀ w, (Op.stringOp .add ((ByteArray.mk #[40]) ++ s1) (ByteArray.mk #[41])).run Tryz.prog w = .ok (.string ((ByteArray.mk #[40]) ++ s1 ++ (ByteArray.mk #[41]))) w := fun w => run_string_add_sum w _ _ (by rw [ByteArray.size_append]; omega)
    go_enter Tryz.func70, Tryz.ntmps70
    go_wp2_with fail
    refine (specBindsB 7 (by omega) (by omega) _ 4 rfl).mono ?_
    rintro e w1 ⟨rfl, rfl⟩
    have BX := HBX.out 66
    generalize w.alloc (.cells #[.int .i64 7, .string t, .int .i64 n, .slice a 1 c] 66) = W1 at BX ⊢
    obtain ⟨hW1, c0, c1, c2, c3, bW1⟩ := BX
    obtain ⟨b, off, rfl, hbl, d0, d1, d2, hfit, a', c', d3, hkid⟩ := (HK.out _ bW1).spot (i := 0) (by simp)
    simp only [List.getElem_cons_zero, Nat.zero_mul, Nat.add_zero] at d0 d1 d2 d3 hkid hfit
    have HX := Lib.hid hkid
    clear hkid
    go_wp2_with fail
    refine (ih x a' c' 5 _ hs (by omega) (by omega) HX.out).mono ?_
    rw [← HS.out]
    rintro z w2 ⟨rfl, hb2⟩
    have B2 := Lib.hid (bW1.trans (hb2.mono bW1.size))
    clear hb2 d0 d1 d2 d3
    by_cases hlt : (4 : Int) < (L : Int)
    · have HR := Lib.hid (HE.out.1 (by show 4 < L; omega))
      go_wp2_with fail
      go_ret
      exact ⟨by rw [HR.out]; rfl, B2.out⟩
    · have HR := Lib.hid (HE.out.2 (by show ¬ 4 < L; omega))
      go_wp2_with fail
      go_ret
      exact ⟨by rw [HR.out]; rfl, B2.out⟩

end Go.Proofs.YtpdcmmhhgnackaaGreatDoor

namespace Go.Proofs.YtpdcmmhhgnackaaGreatDoor
open Go.RowKit

/-- The argument's box and the two kids, cell by cell. -/
structure TwoK (n0 : Nat) (w : World) (k : Int) (bb off c : Nat) (x y : Ex) (ax ay : Option Addr) (cx cy d : Nat) (w' : World) : Prop where
  lt : n0 < w'.heap.size
  lb : bb < w'.heap.size
  k0 : w'.cell? ⟨n0, 0, none⟩ = some (.int .i64 k)
  k3 : w'.cell? ⟨n0, 3, none⟩ = some (.slice (some ⟨bb, off, none⟩) 2 c)
  x0 : w'.cell? ⟨bb, off, none⟩ = some (.int .i64 x.kind)
  x1 : w'.cell? ⟨bb, off + 1, none⟩ = some (.string x.text)
  x2 : w'.cell? ⟨bb, off + 2, none⟩ = some (.int .i64 x.num)
  x3 : w'.cell? ⟨bb, off + 3, none⟩ = some (.slice ax x.kids.length cx)
  y0 : w'.cell? ⟨bb, off + 4, none⟩ = some (.int .i64 y.kind)
  y1 : w'.cell? ⟨bb, off + 4 + 1, none⟩ = some (.string y.text)
  y2 : w'.cell? ⟨bb, off + 4 + 2, none⟩ = some (.int .i64 y.num)
  y3 : w'.cell? ⟨bb, off + 4 + 3, none⟩ = some (.slice ay y.kids.length cy)
  kx : KidsAt w' d ax cx x.kids
  ky : KidsAt w' d ay cy y.kids
  bel : Below w.heap.size w w'

theorem TwoK.below {n0 : Nat} {w wa wb : World} {k : Int} {bb off c : Nat} {x y : Ex} {ax ay : Option Addr} {cx cy d : Nat} (h : TwoK n0 w k bb off c x y ax ay cx cy d wa) (hb : Below wa.heap.size wa wb) : TwoK n0 w k bb off c x y ax ay cx cy d wb :=
  ⟨Nat.lt_of_lt_of_le h.lt hb.size, Nat.lt_of_lt_of_le h.lb hb.size, (hb.cell (p := ⟨n0, 0, none⟩) h.lt).trans h.k0, (hb.cell (p := ⟨n0, 3, none⟩) h.lt).trans h.k3,
   (hb.cell (p := ⟨bb, off, none⟩) h.lb).trans h.x0, (hb.cell (p := ⟨bb, off + 1, none⟩) h.lb).trans h.x1, (hb.cell (p := ⟨bb, off + 2, none⟩) h.lb).trans h.x2, (hb.cell (p := ⟨bb, off + 3, none⟩) h.lb).trans h.x3,
   (hb.cell (p := ⟨bb, off + 4, none⟩) h.lb).trans h.y0, (hb.cell (p := ⟨bb, off + 4 + 1, none⟩) h.lb).trans h.y1, (hb.cell (p := ⟨bb, off + 4 + 2, none⟩) h.lb).trans h.y2, (hb.cell (p := ⟨bb, off + 4 + 3, none⟩) h.lb).trans h.y3,
   h.kx.below hb, h.ky.below hb, h.bel.trans (hb.mono h.bel.size)⟩

theorem TwoK.drew {n0 : Nat} {w wa : World} {k : Int} {bb off c : Nat} {x y : Ex} {ax ay : Option Addr} {cx cy d : Nat} (h : TwoK n0 w k bb off c x y ax ay cx cy d wa) : TwoK n0 w k bb off c x y ax ay cx cy d wa.drew := h.below (below_drewE (Below.refl _ _))

def CellsT (n0 : Nat) (k : Int) (bb off c : Nat) (x y : Ex) (ax ay : Option Addr) (cx cy : Nat) (w' : World) : Prop :=
  w'.cell? ⟨n0, 0, none⟩ = some (.int .i64 k) ∧ w'.cell? ⟨n0, 3, none⟩ = some (.slice (some ⟨bb, off, none⟩) 2 c) ∧
  w'.cell? ⟨bb, off, none⟩ = some (.int .i64 x.kind) ∧ w'.cell? ⟨bb, off + 1, none⟩ = some (.string x.text) ∧ w'.cell? ⟨bb, off + 2, none⟩ = some (.int .i64 x.num) ∧ w'.cell? ⟨bb, off + 3, none⟩ = some (.slice ax x.kids.length cx) ∧
  w'.cell? ⟨bb, off + 4, none⟩ = some (.int .i64 y.kind) ∧ w'.cell? ⟨bb, off + 4 + 1, none⟩ = some (.string y.text) ∧ w'.cell? ⟨bb, off + 4 + 2, none⟩ = some (.int .i64 y.num) ∧ w'.cell? ⟨bb, off + 4 + 3, none⟩ = some (.slice ay y.kids.length cy)

theorem TwoK.cells {n0 : Nat} {w wa : World} {k : Int} {bb off c : Nat} {x y : Ex} {ax ay : Option Addr} {cx cy d : Nat} (h : TwoK n0 w k bb off c x y ax ay cx cy d wa) : CellsT n0 k bb off c x y ax ay cx cy wa :=
  ⟨h.k0, h.k3, h.x0, h.x1, h.x2, h.x3, h.y0, h.y1, h.y2, h.y3⟩

theorem specSignEB (k : Int) (h0 : 8 ≤ k) (h1 : k ≤ 18) (w : World) (s : ByteArray) (hs : txt (signK k) = s) : Calls Tryz.prog 111 #[.int .i64 k] w fun e w' => e = .returned (.string s) ∧ w' = w := by
  subst hs; exact specSignE k h0 h1 w

set_option maxRecDepth 100000 in
set_option maxHeartbeats 4000000 in
theorem putTwo (d : Nat) (ih : PutP d) (k : Int) (hk : k ∈ ([8, 9, 10, 11, 12, 13, 14, 15, 16, 17, 18] : List Int)) (t : ByteArray) (n : Int) (x y : Ex) (a : Option Addr) (c : Nat) (L : Nat) (w : World) (hsx : shapeE x = true) (hsy : shapeE y = true) (hn : x.nodes ≤ 39 ∧ y.nodes ≤ 39) (hL : L ≤ 7) (hx : KidsAt w (d + 1) a c [x, y]) :
    Calls Tryz.prog 70 #[.agg #[.int .i64 k, .string t, .int .i64 n, .slice a 2 c], .int .i64 (L : Int)] w fun z w' => z = .returned (.string (tE (.mk k t n [x, y]) L)) ∧ Below w.heap.size w w' := by
  have HBX := Lib.hid (fun T => boxK_new w k t n a 2 c T)
  have HK := Lib.hid (fun w' hb => hx.below (w' := w') hb)
  clear hx
  obtain ⟨hb6, hb3⟩ := two_binds hk
  have hb1 := (binds_range k).1
  have hk18 : 8 ≤ k ∧ k ≤ 18 := by
    have : ∀ k ∈ ([8, 9, 10, 11, 12, 13, 14, 15, 16, 17, 18] : List Int), 8 ≤ k ∧ k ≤ 18 := by decide
    exact this k hk
  have kb : (k == 0) = false ∧ (k == 1) = false ∧ (k == 2) = false ∧ (k == 3) = false ∧ (k == 4) = false ∧ (k == 5) = false ∧ (k == 6) = false ∧ (k == 7) = false := by
    refine ⟨?_, ?_, ?_, ?_, ?_, ?_, ?_, ?_⟩ <;> (simp; omega)
  obtain ⟨kb0, kb1, kb2, kb3, kb4, kb5, kb6, kb7⟩ := kb
  have l3 : (ByteArray.mk #[40]).size = 1 := rfl
  have l4 : (ByteArray.mk #[41]).size = 1 := rfl
  have l5 : (ByteArray.mk #[32]).size = 1 := rfl
  obtain ⟨rs, hrs⟩ : ∃ rs : Ex → Int → ByteArray, rs = fun z m => tE z m.toNat := ⟨_, rfl⟩
  obtain ⟨sg, hsg⟩ : ∃ sg, txt (signK k) = sg := ⟨_, rfl⟩
  obtain ⟨bI, hbI⟩ : ∃ bI : Int, (bindsK k : Int) = bI := ⟨_, rfl⟩
  obtain ⟨fi, hfi⟩ : ∃ fi : Int, (firstK k : Int) = fi := ⟨_, rfl⟩
  obtain ⟨si, hsi⟩ : ∃ si : Int, bI + 1 = si := ⟨_, rfl⟩
  have hw1 : IntKind.i64.wrap (bI + 1) = si := by rw [hsi]; exact IntWalk.i64_in _ (by omega)
  have hzx : (rs x fi).size ≤ 8400 := by rw [hrs]; exact tE_size hsx (by omega)
  have hzy : (rs y si).size ≤ 8400 := by rw [hrs]; exact tE_size hsy (by omega)
  have hzs : sg.size ≤ 3 := by rw [← hsg, txt_size]; exact (sign_no hk).2.2
  obtain ⟨p1, hp1⟩ : ∃ p, p = rs x fi ++ (ByteArray.mk #[32]) := ⟨_, rfl⟩
  obtain ⟨p2, hp2⟩ : ∃ p, p = p1 ++ sg := ⟨_, rfl⟩
  obtain ⟨p3, hp3⟩ : ∃ p, p = p2 ++ (ByteArray.mk #[32]) := ⟨_, rfl⟩
  obtain ⟨p4, hp4⟩ : ∃ p, p = p3 ++ rs y si := ⟨_, rfl⟩
  have z1 : p1.size ≤ 8401 := by rw [hp1, ByteArray.size_append]; omega
  have z2 : p2.size ≤ 8404 := by rw [hp2, ByteArray.size_append]; omega
  have z3 : p3.size ≤ 8405 := by rw [hp3, ByteArray.size_append]; omega
  have z4 : p4.size ≤ 16805 := by rw [hp4, ByteArray.size_append]; omega
  have ad1 : ∀ w, (Op.stringOp .add (rs x fi) (ByteArray.mk #[32])).run Tryz.prog w = .ok (.string p1) w := fun w => by rw [hp1]; exact run_string_add_sum w _ _ (by omega)
  have ad2 : ∀ w, (Op.stringOp .add p1 sg).run Tryz.prog w = .ok (.string p2) w := fun w => by rw [hp2]; exact run_string_add_sum w _ _ (by omega)
  have ad3 : ∀ w, (Op.stringOp .add p2 (ByteArray.mk #[32])).run Tryz.prog w = .ok (.string p3) w := fun w => by rw [hp3]; exact run_string_add_sum w _ _ (by omega)
  have ad4 : ∀ w, (Op.stringOp .add p3 (rs y si)).run Tryz.prog w = .ok (.string p4) w := fun w => by rw [hp4]; exact run_string_add_sum w _ _ (by omega)
  have ad5 : ∀ w, (Op.stringOp .add (ByteArray.mk #[40]) p4).run Tryz.prog w = .ok (.string ((ByteArray.mk #[40]) ++ p4)) w := fun w => run_string_add_sum w _ _ (by omega)
  have ad6 : ∀ w, (Op.stringOp .add ((ByteArray.mk #[40]) ++ p4) (ByteArray.mk #[41])).run Tryz.prog w = .ok (.string ((ByteArray.mk #[40]) ++ p4 ++ (ByteArray.mk #[41]))) w := fun w => run_string_add_sum w _ _ (by rw [ByteArray.size_append]; omega)
  have HE := Lib.hid (tE_end (e := .mk k t n [x, y]) (L := L) (s := p4) (by
    rw [tE_two hk, hp4, hp3, hp2, hp1, hrs, hsg, ← hsi, ← hbI, ← hfi]
    simp only [Int.toNat_natCast]
    rw [show ((bindsK k : Int) + 1).toNat = bindsK k + 1 by omega]
    rfl))
  have cxy : Hid (∀ (z : Ex) (za : Option Addr) (zc : Nat) (m : Int) (W : World), ((z = x ∧ m = fi) ∨ (z = y ∧ m = si)) → KidsAt W d za zc z.kids →
      Calls Tryz.prog 70 #[.agg #[.int .i64 z.kind, .string z.text, .int .i64 z.num, .slice za z.kids.length zc], .int .i64 m] W fun e w' => e = .returned (.string (rs z m)) ∧ Below W.heap.size W w') := by
    intro z za zc m W h hz
    have h7 : firstK k ≤ 7 := by unfold firstK; split <;> omega
    rcases h with ⟨rfl, rfl⟩ | ⟨rfl, rfl⟩
    · have := ih z za zc (firstK k) W hsx (by omega) h7 hz
      rw [hfi] at this
      rw [hrs]
      simp only
      rw [← hfi, Int.toNat_natCast, hfi]
      exact this
    · have := ih z za zc (bindsK k + 1) W hsy (by omega) (by omega) hz
      have e : ((bindsK k + 1 : Nat) : Int) = m := by rw [← hsi, ← hbI]; omega
      rw [e] at this
      rw [hrs]
      simp only
      rw [← e, Int.toNat_natCast, e]
      exact this
  have hfib : fi = if bI = 4 then 5 else bI := by
    rw [← hfi, ← hbI]
    unfold firstK
    split
    · rw [if_pos (by omega)]; rfl
    · rw [if_neg (by omega)]
  have HbI := Lib.hid hbI
  have HSG := Lib.hid hsg
  have hbr : 1 ≤ bI ∧ bI ≤ 6 := by omega
  clear hrs hsg hp1 hp2 hp3 hp4 hsi hfi hbI ih
  by_cases h4 : bI = 4
  · rw [if_pos h4] at hfib
    have hb4 : (bI == 4) = true := by simp; exact h4
    clear h4
    subst hfib
    go_enter Tryz.func70, Tryz.ntmps70
    go_wp2_with fail
    refine (specBindsB k (by omega) (by omega) _ bI HbI.out).mono ?_
    rintro e w1 ⟨rfl, rfl⟩
    have BX := HBX.out 66
    generalize w.alloc (.cells #[.int .i64 k, .string t, .int .i64 n, .slice a 2 c] 66) = W1 at BX ⊢
    obtain ⟨hW1, c0, c1, c2, c3, bW1⟩ := BX
    obtain ⟨b, off, rfl, hbl, d0, d1, d2, _, ax, cx, d3, hkx⟩ := (HK.out _ bW1).spot (i := 0) (by simp)
    obtain ⟨b', off', he, hbl', e0, e1, e2, _, ay, cy, e3, hky⟩ := (HK.out _ bW1).spot (i := 1) (by simp)
    cases he
    simp only [List.getElem_cons_zero, List.getElem_cons_succ, Nat.zero_mul, Nat.one_mul, Nat.add_zero] at d0 d1 d2 d3 hkx e0 e1 e2 e3 hky
    have T1 : Hid (TwoK w.heap.size w k b off c x y ax ay cx cy d W1) := ⟨hW1, hbl, c0, c3, d0, d1, d2, d3, e0, e1, e2, e3, hkx, hky, bW1⟩
    clear c0 c1 c2 c3 d0 d1 d2 d3 e0 e1 e2 e3 hkx hky
    obtain ⟨c0, c3, d0, d1, d2, d3, e0, e1, e2, e3⟩ := T1.out.cells
    have hst : Hid (∀ p q : World, (CellsT w.heap.size k b off c x y ax ay cx cy p ∧ Hid (TwoK w.heap.size w k b off c x y ax ay cx cy d p)) → Below p.heap.size p q → (CellsT w.heap.size k b off c x y ax ay cx cy q ∧ Hid (TwoK w.heap.size w k b off c x y ax ay cx cy d q))) := fun p q h hb => ⟨(h.2.out.below hb).cells, h.2.out.below hb⟩
    unfold CellsT at hst
    go_wp2_with fail
    clear c0 c3 d0 d1 d2 d3 e0 e1 e2 e3
    go_region_held3 (fun w' => (w'.cell? ⟨w.heap.size, 0, none⟩ = some (.int .i64 k) ∧ w'.cell? ⟨w.heap.size, 3, none⟩ = some (.slice (some ⟨b, off, none⟩) 2 c) ∧ w'.cell? ⟨b, off, none⟩ = some (.int .i64 x.kind) ∧ w'.cell? ⟨b, off + 1, none⟩ = some (.string x.text) ∧ w'.cell? ⟨b, off + 2, none⟩ = some (.int .i64 x.num) ∧ w'.cell? ⟨b, off + 3, none⟩ = some (.slice ax x.kids.length cx) ∧
        w'.cell? ⟨b, off + 4, none⟩ = some (.int .i64 y.kind) ∧ w'.cell? ⟨b, off + 4 + 1, none⟩ = some (.string y.text) ∧ w'.cell? ⟨b, off + 4 + 2, none⟩ = some (.int .i64 y.num) ∧ w'.cell? ⟨b, off + 4 + 3, none⟩ = some (.slice ay y.kids.length cy)) ∧ Hid (TwoK w.heap.size w k b off c x y ax ay cx cy d w')) (first | assumption | exact ⟨T1.out.drew.cells, T1.out.drew⟩)
      (first
        | (go_at_call 70; refine (cxy.out _ _ _ _ _ (by first | exact .inl ⟨rfl, rfl⟩ | exact .inr ⟨rfl, rfl⟩) (by first | exact (And.right (by assumption : _ ∧ Hid (TwoK w.heap.size w k b off c x y ax ay cx cy d _))).out.kx | exact (And.right (by assumption : _ ∧ Hid (TwoK w.heap.size w k b off c x y ax ay cx cy d _))).out.ky)).mono ?_; rintro e wq ⟨rfl, bq⟩; have hq := hst.out _ _ (by assumption) bq)
        | (go_at_call 111; refine (specSignEB k (by omega) (by omega) _ sg HSG.out).mono ?_; rintro e wz ⟨rfl, rfl⟩))
    have B9 := Lib.hid hq.2.out.bel
    clear hq
    by_cases hlt : bI < (L : Int)
    · have HR := Lib.hid (HE.out.1 (by show bindsK k < L; have := HbI.out; omega))
      go_wp2_with fail
      go_ret
      exact ⟨by rw [HR.out]; rfl, B9.out⟩
    · have HR := Lib.hid (HE.out.2 (by show ¬ bindsK k < L; have := HbI.out; omega))
      go_wp2_with fail
      go_ret
      exact ⟨by rw [HR.out]; rfl, B9.out⟩
  · rw [if_neg h4] at hfib
    have hb4 : (bI == 4) = false := by simp; exact h4
    clear h4
    have hfib' := hfib.symm
    subst hfib'
    go_enter Tryz.func70, Tryz.ntmps70
    go_wp2_with fail
    refine (specBindsB k (by omega) (by omega) _ bI HbI.out).mono ?_
    rintro e w1 ⟨rfl, rfl⟩
    have BX := HBX.out 66
    generalize w.alloc (.cells #[.int .i64 k, .string t, .int .i64 n, .slice a 2 c] 66) = W1 at BX ⊢
    obtain ⟨hW1, c0, c1, c2, c3, bW1⟩ := BX
    obtain ⟨b, off, rfl, hbl, d0, d1, d2, _, ax, cx, d3, hkx⟩ := (HK.out _ bW1).spot (i := 0) (by simp)
    obtain ⟨b', off', he, hbl', e0, e1, e2, _, ay, cy, e3, hky⟩ := (HK.out _ bW1).spot (i := 1) (by simp)
    cases he
    simp only [List.getElem_cons_zero, List.getElem_cons_succ, Nat.zero_mul, Nat.one_mul, Nat.add_zero] at d0 d1 d2 d3 hkx e0 e1 e2 e3 hky
    have T1 : Hid (TwoK w.heap.size w k b off c x y ax ay cx cy d W1) := ⟨hW1, hbl, c0, c3, d0, d1, d2, d3, e0, e1, e2, e3, hkx, hky, bW1⟩
    clear c0 c1 c2 c3 d0 d1 d2 d3 e0 e1 e2 e3 hkx hky
    obtain ⟨c0, c3, d0, d1, d2, d3, e0, e1, e2, e3⟩ := T1.out.cells
    have hst : Hid (∀ p q : World, (CellsT w.heap.size k b off c x y ax ay cx cy p ∧ Hid (TwoK w.heap.size w k b off c x y ax ay cx cy d p)) → Below p.heap.size p q → (CellsT w.heap.size k b off c x y ax ay cx cy q ∧ Hid (TwoK w.heap.size w k b off c x y ax ay cx cy d q))) := fun p q h hb => ⟨(h.2.out.below hb).cells, h.2.out.below hb⟩
    unfold CellsT at hst
    go_wp2_with fail
    clear c0 c3 d0 d1 d2 d3 e0 e1 e2 e3
    go_region_held3 (fun w' => (w'.cell? ⟨w.heap.size, 0, none⟩ = some (.int .i64 k) ∧ w'.cell? ⟨w.heap.size, 3, none⟩ = some (.slice (some ⟨b, off, none⟩) 2 c) ∧ w'.cell? ⟨b, off, none⟩ = some (.int .i64 x.kind) ∧ w'.cell? ⟨b, off + 1, none⟩ = some (.string x.text) ∧ w'.cell? ⟨b, off + 2, none⟩ = some (.int .i64 x.num) ∧ w'.cell? ⟨b, off + 3, none⟩ = some (.slice ax x.kids.length cx) ∧
        w'.cell? ⟨b, off + 4, none⟩ = some (.int .i64 y.kind) ∧ w'.cell? ⟨b, off + 4 + 1, none⟩ = some (.string y.text) ∧ w'.cell? ⟨b, off + 4 + 2, none⟩ = some (.int .i64 y.num) ∧ w'.cell? ⟨b, off + 4 + 3, none⟩ = some (.slice ay y.kids.length cy)) ∧ Hid (TwoK w.heap.size w k b off c x y ax ay cx cy d w')) (first | assumption | exact ⟨T1.out.drew.cells, T1.out.drew⟩)
      (first
        | (go_at_call 70; refine (cxy.out _ _ _ _ _ (by first | exact .inl ⟨rfl, rfl⟩ | exact .inr ⟨rfl, rfl⟩) (by first | exact (And.right (by assumption : _ ∧ Hid (TwoK w.heap.size w k b off c x y ax ay cx cy d _))).out.kx | exact (And.right (by assumption : _ ∧ Hid (TwoK w.heap.size w k b off c x y ax ay cx cy d _))).out.ky)).mono ?_; rintro e wq ⟨rfl, bq⟩; have hq := hst.out _ _ (by assumption) bq)
        | (go_at_call 111; refine (specSignEB k (by omega) (by omega) _ sg HSG.out).mono ?_; rintro e wz ⟨rfl, rfl⟩))
    have B9 := Lib.hid hq.2.out.bel
    clear hq
    by_cases hlt : bI < (L : Int)
    · have HR := Lib.hid (HE.out.1 (by show bindsK k < L; have := HbI.out; omega))
      go_wp2_with fail
      go_ret
      exact ⟨by rw [HR.out]; rfl, B9.out⟩
    · have HR := Lib.hid (HE.out.2 (by show ¬ bindsK k < L; have := HbI.out; omega))
      go_wp2_with fail
      go_ret
      exact ⟨by rw [HR.out]; rfl, B9.out⟩

theorem specPut : ∀ d, PutP d
  | 0 => fun _ _ _ _ _ _ _ _ h => h.elim
  | d + 1 => by
    intro e a c L w hs hn hL hk
    obtain ⟨k, t, n, kids⟩ := e
    obtain ⟨h1, hl⟩ := shape_parts hs
    have hne := Ex.nodes_eq (.mk k t n kids)
    match kids, h1, hl, hk, hne with
    | [], h1, _, _, _ => exact putLeaf k t n a c L w h1 hL
    | [x], h1, hl, hk, hne =>
      rw [shapeL, Bool.and_eq_true] at hl
      change _ = 1 + nodesL [x] at hne
      rw [nodesL, nodesL] at hne
      exact putOne d (specPut d) k (one_kid (arity h1)) t n x a c L w hl.1 (by omega) hL hk
    | [x, y], h1, hl, hk, hne =>
      rw [shapeL, shapeL, Bool.and_eq_true, Bool.and_eq_true] at hl
      change _ = 1 + nodesL [x, y] at hne
      rw [nodesL, nodesL, nodesL] at hne
      exact putTwo d (specPut d) k (two_mem (arity h1)) t n x y a c L w hl.1 hl.2.1 (by omega) hL hk
    | x :: y :: z :: r, h1, _, _, _ =>
      have := arity h1
      unfold kidsK at this
      simp only [List.length_cons] at this
      split at this
      · omega
      · split at this
        · omega
        · split at this <;> omega

/-- What PutExpr answers. -/
def putT (e : Ex) : ByteArray := if (decide (e.nodes ≤ 40) && shapeE e) = true then tE e 1 else txt []

end Go.Proofs.YtpdcmmhhgnackaaGreatDoor

namespace Go.Proofs.YtpdcmmhhgnackaaGreatDoor
open Go.RowKit

def joinL (xs : List ByteArray) (by_ : ByteArray) : List UInt8 := Lib.join (xs.map (·.data.toList)) by_.data.toList
def joinT (xs : List ByteArray) (by_ : ByteArray) : ByteArray := ⟨(joinL xs by_).toArray⟩

theorem join_snoc (l : List (List UInt8)) (x sep : List UInt8) (h : l ≠ []) : Lib.join (l ++ [x]) sep = Lib.join l sep ++ sep ++ x := by
  cases l with
  | nil => exact absurd rfl h
  | cons y r =>
    rw [List.cons_append, Lib.join_cons, Lib.join_cons]
    simp [Lib.joinTail]

theorem joinL_first (xs : List ByteArray) (b : ByteArray) (k : Nat) (h0 : k = 0) (h : k < xs.length) : joinL (xs.take (k + 1)) b = joinL (xs.take k) b ++ xs[k].data.toList := by
  subst h0
  unfold joinL
  rw [List.take_succ_eq_append_getElem h]
  simp [Lib.join_one, Lib.join_nil]

theorem joinL_next (xs : List ByteArray) (b : ByteArray) (k : Nat) (h0 : 0 < k) (h : k < xs.length) : joinL (xs.take (k + 1)) b = joinL (xs.take k) b ++ b.data.toList ++ xs[k].data.toList := by
  unfold joinL
  rw [List.take_succ_eq_append_getElem h, List.map_append]
  refine join_snoc _ _ _ ?_
  intro he
  have hlen : ((xs.take k).map (·.data.toList)).length = k := by rw [List.length_map, List.length_take_of_le (by omega)]
  rw [he] at hlen
  simp at hlen
  omega

theorem joinL_len (xs : List ByteArray) (b : ByteArray) : ∀ k, k ≤ xs.length → (joinL (xs.take k) b).length ≤ lets (xs.take k) + k * b.size
  | 0, _ => by simp [joinL, Lib.join_nil]
  | k + 1, h => by
    have ih := joinL_len xs b k (by omega)
    rw [lets_take xs k (by omega)]
    have hb : b.data.toList.length = b.size := by simp
    have hx : xs[k].data.toList.length = xs[k].size := by simp
    rcases Nat.eq_zero_or_pos k with hp | hp
    · rw [joinL_first xs b k hp (by omega), List.length_append, hx, Nat.succ_mul]
      omega
    · rw [joinL_next xs b k hp (by omega), List.length_append, List.length_append, hb, hx, Nat.succ_mul]
      omega

set_option maxHeartbeats 1000000 in
theorem specJoin (a : Option Addr) (c : Nat) (xs : List ByteArray) (s : ByteArray) (w : World) (hx : Strs w a c xs) (hJ : lets xs + xs.length * s.size ≤ 70368744177664) :
    Calls Tryz.prog 86 #[.slice a xs.length c, .string s] w fun e w' => e = .returned (.string (joinT xs s)) ∧ Below w.heap.size w w' := by
  obtain ⟨i0, hi0, hz0, hz1, hz2⟩ := info_parts Tryz.infoByte
  have hl := hx.len
  go_enter Tryz.func86, Tryz.ntmps86
  go_wp2
  go_loopw [5, 6] (fun v i wr => ∃ (k : Nat) (a1 : Option Addr) (c1 : Nat), k ≤ xs.length ∧ i = .int .i64 k ∧ v = .slice a1 (joinL (xs.take k) s).length c1 ∧ OwnB wr w.heap.size a1 c1 (joinL (xs.take k) s) ∧ Below w.heap.size w wr) (fun _ i _ => xs.length - (intOf i).toNat)
  case atStart => exact ⟨0, _, _, Nat.zero_le _, rfl, rfl, ownBEmpty w, (Below.refl _ _).alloc (Nat.le_refl _) _⟩
  case round =>
    obtain ⟨k, a1, c1, hk, rfl, rfl, hown, hb⟩ := hrel
    have hsz := hb.size
    have hlk : (joinL (xs.take k) s).length ≤ 70368744177664 := by
      have h1 := joinL_len xs s k hk
      have h2 := lets_le xs k
      have h3 : k * s.size ≤ xs.length * s.size := Nat.mul_le_mul_right _ hk
      omega
    by_cases hlt : k < xs.length
    · obtain ⟨b, off, rfl, hbl, hc⟩ := (hx.below hb).spot hlt
      have hxs : xs[k].size ≤ 70368744177664 := by have := lets_mem (List.getElem_mem hlt); omega
      have hss : s.size ≤ 70368744177664 := by
        have : 1 * s.size ≤ xs.length * s.size := Nat.mul_le_mul_right _ (by omega)
        omega
      have hlk1 : (joinL (xs.take (k + 1)) s).length ≤ 70368744177664 := by
        have h1 := joinL_len xs s (k + 1) (by omega)
        have h2 := lets_le xs (k + 1)
        have h3 : (k + 1) * s.size ≤ xs.length * s.size := Nat.mul_le_mul_right _ (by omega)
        omega
      rcases Nat.eq_zero_or_pos k with h0 | h0
      · have HS := Lib.hid (joinL_first xs s k h0 hlt)
        have ht : decide (0 < k) = false := by simp; omega
        have Hk := Lib.hid h0
        clear h0
        go_wp2_with (at_builtin; refine wpAppendText rfl (.tmp 19) (.tmp 23) rfl i0 hi0 hz0 hz1 hz2 w.heap.size a1 c1 _ xs[k] rfl hown rfl (by omega) hsz ?_; intro a2 c2 w2 hown2 hg2)
        have hb2 : Below w.heap.size w w2 := hb.grown hg2 hsz (fun q hq => (hown.lt hq).1)
        go_roundw
        case rel => exact ⟨k + 1, a2, c2, by omega, by go_num, by rw [HS.out, List.length_append]; simp, by rw [HS.out]; exact hown2, hb2⟩
        case measure => simp [intOf]; omega
      · have HS := Lib.hid (joinL_next xs s k h0 hlt)
        have hsum : (joinL (xs.take k) s).length + s.size + xs[k].size ≤ 70368744177664 := by
          have h := hlk1
          rw [HS.out, List.length_append, List.length_append] at h
          simpa using h
        go_wp2_with (first
          | ((at_builtin; refine wpAppendText rfl (.tmp 16) (.tmp 17) rfl i0 hi0 hz0 hz1 hz2 w.heap.size a1 c1 _ s rfl hown rfl (by omega) hsz ?_; intro a2 c2 w2 hown2 hg2); (have hb2 : Below w.heap.size w w2 := hb.grown hg2 hsz (fun q hq => (hown.lt hq).1)); (have hsz2 := hb2.size); (have hc2 := (hx.below hb2).spot hlt); (have hc2' : w2.cell? ⟨b, off + k, none⟩ = some (.string xs[k]) := by obtain ⟨b', off', he', _, h⟩ := hc2; cases he'; exact h); clear hc2)
          | (at_builtin; refine wpAppendText rfl (.tmp 19) (.tmp 23) rfl i0 hi0 hz0 hz1 hz2 w.heap.size a2 c2 (joinL (xs.take k) s ++ s.data.toList) xs[k] (by simp [go_sem]) hown2 rfl (by simp; omega) hsz2 ?_; intro a3 c3 w3 hown3 hg3))
        have hb3 : Below w.heap.size w w3 := hb2.grown hg3 hsz2 (fun q hq => (hown2.lt hq).1)
        go_roundw
        case rel => exact ⟨k + 1, a3, c3, by omega, by go_num, by rw [HS.out, List.length_append, List.length_append]; simp [Nat.add_assoc], by rw [HS.out]; exact hown3, hb3⟩
        case measure => simp [intOf]; omega
    · obtain rfl : k = xs.length := by omega
      rw [List.take_length] at hown ⊢
      have hcv := convBytes hown
      go_wp2
      go_ret
      exact ⟨rfl, hb⟩

theorem implJoin (a : Option Addr) (c : Nat) (xs : List ByteArray) (s : ByteArray) (w : World) (hx : Strs w a c xs) (hJ : lets xs + xs.length * s.size ≤ 70368744177664) (hn : xs.length ≤ 140737488355328) :
    Calls Tryz.prog 83 #[.slice a xs.length c, .string s] w fun e w' => e = .returned (.string (joinT xs s)) ∧ Below w.heap.size w w' := by
  have hlen : (joinL xs s).length ≤ 140737488355328 := by
    have := joinL_len xs s xs.length (Nat.le_refl _)
    rw [List.take_length] at this
    omega
  rcases Nat.eq_zero_or_pos xs.length with h0 | h0
  · have hnil : xs = [] := List.eq_nil_of_length_eq_zero h0
    subst hnil
    have hz : joinT [] s = ⟨#[]⟩ := by simp [joinT, joinL, Lib.join_nil]
    rw [hz]
    clear hlen hJ h0 hn hz
    go_enter Tryz.func83, Tryz.ntmps83
    go_wp2_with (go_at_call 122; refine (Tryz.strings_Join_none a c s w).mono ?_; rintro e w' ⟨rfl, rfl⟩)
    go_ret
    exact ⟨rfl, Below.refl _ _⟩
  · obtain ⟨b, off, rfl, hb, hc⟩ := hx.2.2.2.2 h0
    have hcap := hx.1
    have hcs : ∀ (j : Nat) (x : ByteArray), xs[j]? = some x → w.cell? ⟨b, off + j, none⟩ = some (.string x) := by
      intro j x hj
      obtain ⟨h, rfl⟩ := List.getElem?_eq_some_iff.1 hj
      exact hc j h
    have HC := Lib.hid hcs
    have HL := Lib.hid hlen
    clear hcs hc hlen
    go_enter Tryz.func83, Tryz.ntmps83
    go_wp2_with (go_at_call 122; refine (Tryz.strings_Join b off c xs s w HC.out hb hn hcap HL.out).mono ?_; rintro e w' ⟨rfl, hb'⟩)
    go_ret
    exact ⟨rfl, hb'⟩

end Go.Proofs.YtpdcmmhhgnackaaGreatDoor

namespace Go.Proofs.YtpdcmmhhgnackaaGreatDoor
open Go.RowKit

def tyT (t : Ty) : ByteArray := typeTextT t.kind t.len t.name

def listT (xs : List ByteArray) : ByteArray := txt [40] ++ joinT (xs.map nameT) (txt [44, 32]) ++ txt [41]

theorem ba_assoc (a b c : ByteArray) : a ++ b ++ c = a ++ (b ++ c) := ByteArray.append_assoc

theorem ba_ext {a b : ByteArray} (h : a.data.toList = b.data.toList) : a = b := by
  cases a with
  | mk a => cases b with
    | mk b => rw [show a = b from Array.ext' h]

theorem ba_list (a b : ByteArray) : (a ++ b).data.toList = a.data.toList ++ b.data.toList := by
  simp

theorem joinT_list (xs : List ByteArray) (s : ByteArray) : (joinT xs s).data.toList = Lib.join (xs.map (·.data.toList)) s.data.toList := rfl

theorem joinT_one (a s : ByteArray) : joinT [a] s = a := by
  apply ba_ext
  rw [joinT_list, List.map_cons, List.map_nil, Lib.join_one]

theorem joinT_cons (a b : ByteArray) (r : List ByteArray) (s : ByteArray) : joinT (a :: b :: r) s = a ++ s ++ joinT (b :: r) s := by
  apply ba_ext
  rw [ba_list, ba_list, joinT_list, joinT_list]
  simp only [List.map_cons]
  rw [Lib.join_cons, Lib.join_cons]
  simp [Lib.joinTail]

theorem nameT_small {s : ByteArray} (h : nmB s = true) : (nameT s).size ≤ 82 := by
  have h1 := nameT_size s
  have h2 := nmB_size h
  omega

theorem tyT_small {t : Ty} (h : tyB t = true) : (tyT t).size ≤ 100 := by
  obtain ⟨k, l, s⟩ := t
  unfold tyB at h
  unfold tyT typeTextT
  simp only at h ⊢
  rw [h]
  unfold typeOkB at h
  simp only [Bool.true_eq_false, if_false]
  split
  · decide
  · split
    · decide
    · split
      · decide
      · split
        · rename_i h3
          rw [if_neg (by omega), if_pos h3] at h
          simp only [Bool.and_eq_true, inI, decide_eq_true_eq] at h
          have hd := dec_size l (by omega) (by omega)
          simp only [ByteArray.size_append]
          have e1 : (ByteArray.mk #[99, 104, 97, 114, 40]).size = 5 := rfl
          have e2 : (ByteArray.mk #[41]).size = 1 := rfl
          omega
        · by_cases h4 : k = 4
          · rw [if_neg (by omega), if_neg (by omega), if_pos h4] at h
            simp only [Bool.and_eq_true] at h
            have hn := nameT_small (s := s) h.2
            simp only [ByteArray.size_append]
            have e1 : (ByteArray.mk #[101, 110, 117, 109, 32]).size = 5 := rfl
            omega
          · rw [if_neg (by omega), if_neg (by omega), if_neg h4] at h
            cases h

theorem putT_small {e : Ex} (h : okX e = true) : (putT e).size ≤ 8400 := by
  unfold putT
  unfold okX at h
  rw [if_pos h]
  simp only [Bool.and_eq_true, decide_eq_true_eq] at h
  exact tE_size h.2 h.1

def wNN : List UInt8 := [32, 110, 111, 116, 32, 110, 117, 108, 108]
def wDf : List UInt8 := [32, 100, 101, 102, 97, 117, 108, 116, 32]

def nnT (x : Co) : ByteArray := if x.notNull = true then nameT x.name ++ txt [32] ++ tyT x.ty ++ txt wNN else nameT x.name ++ txt [32] ++ tyT x.ty

/-- A text with the first expression of a list behind it, if there is one. -/
def dfT (w : List UInt8) (s : ByteArray) : List Ex → ByteArray
  | [] => s
  | e :: _ => s ++ txt w ++ putT e

/-- What PutCol answers. -/
def colT (x : Co) : ByteArray := if colB x = true then dfT wDf (nnT x) x.dflt else txt []

end Go.Proofs.YtpdcmmhhgnackaaGreatDoor
