/- One byte put behind a row of bytes that the call itself has made. -/
/- spec.Quote answers the text between quotes, each of its quotes doubled. -/
/- Which names are written plainly: by bytes. -/
/- spec.DecText answers the decimal numeral. -/
/- spec.ReadDec answers the number that a text spells, or -1. -/
/- A number comes back from its numeral: plain mathematics. -/
/- Expressions: what is written is read back. -/
/- Expressions: what is written is read back: the theorem. -/
/- Expressions: what is written is read back, every expression. -/
import Derived.Test.YtgnillmhpockkaaGreatDoorMMem
import Derived.Lib.ConvBytes
import Derived.Deep.RegionHeld3
import Derived.Test.YtgnillmhpockkaaGreatDoorRows
import Derived.WalkKit
import Derived.WalkLawsBesides
import Derived.WalkSpells
import Derived.Deep.QuietTactic
import Derived.BigQuiet
import Derived.Outline
import Derived.Lib.Strings
import Derived.Lib.Hide
import Derived.Lib.ItoaNum
import Derived.Lib.ItoaLen
import Derived.Lib.Atoi
import Derived.Lib.AtoiErr
namespace Go.Proofs.YtgnillmhpockkaaGreatDoor
open Go.RowKit

theorem wpAppendByte {w : World} {ops : Array Oper} {rest : List Oper} {o : Oper} {A : Act} {Q : Exit → Act → World → Prop} (hgd : o.guard = none) (s x : Operand)
    (ho : o.op = .call { callee := .builtin .append, args := #[s, x], argTypes := #[22, 22] })
    (i0 : TypeInfo) (hi0 : Tryz.prog.info? 5 = some i0) (hz0 : i0.zero = some (.int .u8 0)) (hz1 : i0.size = 1) (hz2 : i0.bytes = 1)
    (B : Nat) (a : Option Addr) (c : Nat) (l : List UInt8) (g : Nat) (y : UInt8) (hs : A.eval s = .slice a l.length c) (hown : OwnB w B a c l) (hx : A.eval x = .slice (some ⟨g, 0, none⟩) 1 1) (hc : w.cell? ⟨g, 0, none⟩ = some (.int .u8 (y.toNat : Int)))
    (hn : l.length + 1 ≤ 140737488355328) (hB : B ≤ w.heap.size)
    (h : ∀ a' c' w' l', Hid (l' = l ++ [y]) → OwnB w' B a' c' l' → w.grownBy w' (Value.slice a l.length c).ownBlock → ((Value.slice a' l'.length c').ownBlock = (Value.slice a l.length c).ownBlock ∨ (Value.slice a' l'.length c').ownBlock = some w.heap.size) → wpList Tryz.prog ops Q rest (A.put o.dst (.slice a' l'.length c')) w') :
    wpList Tryz.prog ops Q (o :: rest) A w := by
  refine wpList_append_own_at _ hgd s x 22 ho B 5 i0 (.int .u8 0) 1 1 Tryz.underlying22 hi0 hz0 hz1 hz2 rfl (by decide) (.slice a l.length c) l.length (bcells l) hs hown
    ⟨g, 0, none⟩ 1 1 [.int .u8 (y.toNat : Int)] hx rfl ?_ (fun u hu => by simp at hu; subst hu; rfl) (by unfold maxLen; omega) (by omega) hB ?_
  · intro j u hu
    match j, hu with
    | 0, hu => simp at hu; subst hu; simpa [Addr.add] using hc
  · intro v' w' hown' hg _ hat
    have hf : ∃ a' c', v' = .slice a' (l.length + 1) c' := by
      rcases hown'.2 with ⟨_, h0⟩ | ⟨g', cap, cur, rfl, _⟩
      · omega
      · exact ⟨_, _, rfl⟩
    obtain ⟨a', c', rfl⟩ := hf
    have hb : bcells l ++ [Value.int .u8 (y.toNat : Int)] = bcells (l ++ [y]) := by simp [bcells]
    rw [hb] at hown'
    have hll : (l ++ [y]).length = l.length + 1 := by simp
    have := h a' c' w' (l ++ [y]) rfl (by unfold OwnB; rw [hll]; exact hown') hg (by rw [hll]; exact hat)
    rw [hll] at this
    exact this

theorem hid_len {l l' : List UInt8} {y : UInt8} (h : Hid (l' = l ++ [y])) : l'.length = l.length + 1 := by rw [h.out]; simp

theorem ownBOne (w : World) (y : UInt8) : OwnB (w.alloc (.cells #[.int .u8 (y.toNat : Int)] 5)) w.heap.size (some ⟨w.heap.size, 0, none⟩) 1 [y] :=
  World.ownsRow_lit (base := w.heap.size) (e := 5) (size := 1) w #[.int .u8 (y.toNat : Int)] 1 (Nat.le_refl _) (by unfold maxLen; omega) rfl

theorem OwnB.alloc {w : World} {B : Nat} {a : Option Addr} {c : Nat} {l : List UInt8} (h : OwnB w B a c l) (o : Obj) : OwnB (w.alloc o) B a c l :=
  h.below ((Below.refl _ _).alloc (Nat.le_refl _) _)

theorem OwnB.kept {w w' : World} {B : Nat} {a : Option Addr} {c : Nat} {l : List UInt8} {row : Option Nat} (h : OwnB w B a c l) (hg : w.grownBy w' row)
    (hne : ∀ g, (Value.slice a l.length c).ownBlock = some g → row ≠ some g) : OwnB w' B a c l := by
  refine World.ownsRow.kept h hg ?_
  cases ho : (Value.slice a l.length c).ownBlock with
  | none => exact .inl rfl
  | some g => exact .inr (fun e => hne g ho e.symm)

theorem belowBytesW (w : World) (t : ByteArray) : Below w.heap.size w (Lib.bytesWorld w 5 t) :=
  ⟨rfl, rfl, rfl, by rw [Lib.bytesWorld_size]; omega, fun k hk => Lib.bytesWorld_at_old _ _ _ k hk⟩

theorem convText (w : World) (s : ByteArray) : (convert 9 22 (.string s)).run Tryz.prog w = .ok (.slice (some ⟨w.heap.size, 0, none⟩) s.size (grownCap w s.size 0 5)) (Lib.bytesWorld w 5 s) :=
  Lib.run_convert_string_bytes w _ _ _ s Tryz.underlying9 Tryz.underlying22 Tryz.underlying5

/-- The row that a text is turned into. -/
theorem convTextEx (w : World) (s : ByteArray) : ∃ W cap, (convert 9 22 (.string s)).run Tryz.prog w = .ok (.slice (some ⟨w.heap.size, 0, none⟩) s.size cap) W ∧ Below w.heap.size w W ∧ w.heap.size < W.heap.size ∧ s.size ≤ cap ∧ ∀ (j : Nat) (h : j < s.size), W.cell? ⟨w.heap.size, j, none⟩ = some (.int .u8 (s[j].toNat : Int)) := by
  refine ⟨_, _, convText w s, belowBytesW w s, by rw [Lib.bytesWorld_size]; omega, grownCap_ge _ _ _ _, fun j hj => ?_⟩
  rw [Lib.bytesWorld_cell _ _ _ _ hj]
  have hl : j < s.data.toList.length := by simpa using hj
  rw [List.getD_eq_getElem?_getD, List.getElem?_eq_getElem hl]
  rfl

theorem byte_of {n : Int} (h : (Lit.int .u8 n).wf = true) : ∃ y : UInt8, n = (y.toNat : Int) := by
  have hmin : IntKind.u8.min = 0 := by decide
  have hmax : IntKind.u8.max = 255 := by decide
  simp [Lit.wf, hmin, hmax] at h
  refine ⟨UInt8.ofNat n.toNat, ?_⟩
  rw [UInt8.toNat_ofNat']
  omega

theorem take_snoc (s : ByteArray) (k : Nat) (h : k < s.size) : s.data.toList.take (k + 1) = s.data.toList.take k ++ [s[k]] := by
  rw [List.take_succ_eq_append_getElem (by simpa using h)]; rfl

theorem byte_eq {a b : UInt8} (h : a = b) : (((a.toNat : Int)) == (b.toNat : Int)) = true := by subst h; simp
theorem byte_ne {a b : UInt8} (h : a ≠ b) : (((a.toNat : Int)) == (b.toNat : Int)) = false := by
  rw [beq_eq_false_iff_ne]
  intro e
  exact h (UInt8.toNat_inj.1 (by omega))
theorem byte_le (a : UInt8) : (a.toNat : Int) ≤ 255 := by have := UInt8.toNat_lt a; omega

end Go.Proofs.YtgnillmhpockkaaGreatDoor

namespace Go.Proofs.YtgnillmhpockkaaGreatDoor
open Go.RowKit

def dbl (q : UInt8) (t : List UInt8) : List UInt8 := t.flatMap fun b => if b = q then [q, b] else [b]
def quoteT (s : ByteArray) (q : UInt8) : ByteArray := ⟨(quoteL q s.data.toList).toArray⟩

theorem dbl_eq (q : UInt8) (s : ByteArray) (k : Nat) (h : k < s.size) (he : s[k] = q) : dbl q (s.data.toList.take (k + 1)) = dbl q (s.data.toList.take k) ++ [q] ++ [s[k]] := by
  unfold dbl
  rw [take_snoc s k h, List.flatMap_append]
  simp [he]
theorem dbl_ne (q : UInt8) (s : ByteArray) (k : Nat) (h : k < s.size) (he : s[k] ≠ q) : dbl q (s.data.toList.take (k + 1)) = dbl q (s.data.toList.take k) ++ [s[k]] := by
  unfold dbl
  rw [take_snoc s k h, List.flatMap_append]
  simp [he]
theorem dbl_len (q : UInt8) (t : List UInt8) : (dbl q t).length ≤ 2 * t.length := by
  unfold dbl
  induction t with
  | nil => simp
  | cons b r ih =>
    rw [List.flatMap_cons, List.length_append, List.length_cons]
    split
    · simp only [List.length_cons, List.length_nil]; omega
    · simp only [List.length_cons, List.length_nil]; omega

set_option maxHeartbeats 1000000 in
theorem specQuote (s : ByteArray) (y : UInt8) (w : World) (hs : s.size ≤ 1048576) :
    Calls Tryz.prog 39 #[.string s, .int .u8 (y.toNat : Int)] w fun e w' => e = .returned (.string (quoteT s y)) ∧ Below w.heap.size w w' := by
  obtain ⟨i0, hi0, hz0, hz1, hz2⟩ := info_parts Tryz.infoByte
  have hy := byte_le y
  go_enter Tryz.func39, Tryz.ntmps39
  go_wp2
  go_loopw [5, 6] (fun v i wr => ∃ (k : Nat) (a1 : Option Addr) (c1 : Nat) (l1 : List UInt8), k ≤ s.size ∧ i = .int .i64 k ∧ v = .slice a1 l1.length c1 ∧ Hid (l1 = y :: dbl y (s.data.toList.take k)) ∧ OwnB wr w.heap.size a1 c1 l1 ∧ Below w.heap.size w wr) (fun _ i _ => s.size - (intOf i).toNat)
  case atStart => exact ⟨0, _, _, [y], Nat.zero_le _, rfl, rfl, rfl, ownBOne w y, (Below.refl _ _).alloc (Nat.le_refl _) _⟩
  case round =>
    obtain ⟨k, a1, c1, l1, hk, rfl, rfl, hl1, hown, hb⟩ := hrel
    have hsz := hb.size
    have hlk : l1.length ≤ 3000000 := by
      have h1 := dbl_len y (s.data.toList.take k)
      have h2 : (s.data.toList.take k).length ≤ k := List.length_take_le _ _
      rw [hl1.out]
      simp only [List.length_cons]
      omega
    by_cases hlt : k < s.size
    · have hby := byte_le s[k]
      by_cases he : s[k] = y
      · have HS := Lib.hid (dbl_eq y s k hlt he)
        have ht := byte_eq he
        have HE := Lib.hid he
        clear he
        go_wp2_with (first
          | ((at_builtin; refine wpAppendByte rfl (.tmp 20) (.tmp 22) rfl i0 hi0 hz0 hz1 hz2 w.heap.size a1 c1 l1 wr.heap.size y rfl (hown.alloc _) rfl (by simp) (by omega) (by simp; omega) ?_; intro a2 c2 w2 l2 hl2 hown2 hg2 _); (have hb2 : Below w.heap.size w w2 := (hb.alloc hsz _).grown hg2 (by simp; omega) (fun q hq => (hown.lt hq).1)); (have hsz2 := hb2.size); (have hlk2 : l2.length ≤ 3000001 := by rw [hid_len hl2]; omega))
          | (at_builtin; refine wpAppendByte rfl (.tmp 24) (.tmp 28) rfl i0 hi0 hz0 hz1 hz2 w.heap.size a2 c2 l2 w2.heap.size s[k] rfl (hown2.alloc _) rfl (by simp) (by omega) (by simp; omega) ?_; intro a3 c3 w3 l3 hl3 hown3 hg3 _))
        have hb3 : Below w.heap.size w w3 := (hb2.alloc hsz2 _).grown hg3 (by simp; omega) (fun q hq => (hown2.lt hq).1)
        go_roundw
        case rel => exact ⟨k + 1, a3, c3, l3, by omega, by go_num, rfl, by unfold Hid; rw [hl3.out, hl2.out, hl1.out, HS.out]; simp, hown3, hb3⟩
        case measure => simp [intOf]; omega
      · have HS := Lib.hid (dbl_ne y s k hlt he)
        have ht := byte_ne he
        have HE := Lib.hid he
        clear he
        go_wp2_with (at_builtin; refine wpAppendByte rfl (.tmp 24) (.tmp 28) rfl i0 hi0 hz0 hz1 hz2 w.heap.size a1 c1 l1 wr.heap.size s[k] rfl (hown.alloc _) rfl (by simp) (by omega) (by simp; omega) ?_; intro a3 c3 w3 l3 hl3 hown3 hg3 _)
        have hb3 : Below w.heap.size w w3 := (hb.alloc hsz _).grown hg3 (by simp; omega) (fun q hq => (hown.lt hq).1)
        go_roundw
        case rel => exact ⟨k + 1, a3, c3, l3, by omega, by go_num, rfl, by unfold Hid; rw [hl3.out, hl1.out, HS.out]; simp, hown3, hb3⟩
        case measure => simp [intOf]; omega
    · obtain rfl : k = s.size := by omega
      have HQ : Hid (quoteL y s.data.toList = l1 ++ [y]) := by
        unfold Hid
        rw [hl1.out, List.take_of_length_le (by simp)]
        simp [quoteL, dbl]
      go_wp2_with (at_builtin; refine wpAppendByte rfl (.tmp 30) (.tmp 32) rfl i0 hi0 hz0 hz1 hz2 w.heap.size a1 c1 l1 wr.heap.size y rfl (hown.alloc _) rfl (by simp) (by omega) (by simp; omega) ?_; intro a3 c3 w3 l3 hl3 hown3 hg3 _; have hcv := convBytes hown3)
      have hb3 : Below w.heap.size w w3 := (hb.alloc hsz _).grown hg3 (by simp; omega) (fun q hq => (hown.lt hq).1)
      go_ret
      exact ⟨by rw [quoteT, HQ.out, ← hl3.out]; rfl, hb3⟩

end Go.Proofs.YtgnillmhpockkaaGreatDoor

namespace Go.Proofs.YtgnillmhpockkaaGreatDoor
open Go.RowKit

def smallB (b : UInt8) : Bool := decide (b.toNat = 95) || (decide (97 ≤ b.toNat) && decide (b.toNat ≤ 122))
def okB (b : UInt8) : Bool := smallB b || digitB b
def plainB (l : List UInt8) : Bool := !l.isEmpty && (!digitB (l.headD 0) && l.all okB)
/-- How a name is written. -/
def nameT (s : ByteArray) : ByteArray := if plainB s.data.toList && !keptB s.data.toList then s else quoteT s 34

theorem head_get (s : ByteArray) (h : 0 < s.size) : s.data.toList.headD 0 = s[0] := by
  have hl : s.data.toList.length = s.size := by simp
  match hs : s.data.toList, hl with
  | [], hl => simp at hl; omega
  | b :: r, _ =>
    have : s[0] = s.data.toList[0]'(by rw [hs]; simp) := rfl
    rw [this]
    simp [hs]

theorem list_get (s : ByteArray) (k : Nat) (h : k < s.size) : s.data.toList[k]'(by simpa using h) = s[k] := rfl

theorem plain_no (s : ByteArray) (k : Nat) (h : k < s.size) (hb : okB s[k] = false ∨ (k = 0 ∧ digitB s[k] = true)) : plainB s.data.toList = false := by
  unfold plainB
  rcases hb with hb | ⟨rfl, hb⟩
  · have : s.data.toList.all okB = false := by
      rw [List.all_eq_false]
      exact ⟨s[k], by rw [← list_get s k h]; exact List.getElem_mem _, by rw [hb]; simp⟩
    rw [this]; simp
  · rw [head_get s h, hb]; simp

theorem plain_yes (s : ByteArray) (h0 : 0 < s.size) (h : ∀ (j : Nat) (hj : j < s.size), okB s[j] = true) (hd : digitB s[0] = false) : plainB s.data.toList = true := by
  have hl : s.data.toList.length = s.size := by simp
  unfold plainB
  have h1 : s.data.toList.isEmpty = false := by rw [List.isEmpty_eq_false_iff]; intro e; rw [e] at hl; simp at hl; omega
  have h2 : s.data.toList.all okB = true := by
    rw [List.all_eq_true]
    intro b hb
    obtain ⟨k, hk, rfl⟩ := List.mem_iff_getElem.1 hb
    exact h k (by omega)
  rw [h1, h2, head_get s h0, hd]
  rfl

theorem plain_empty (s : ByteArray) (h0 : s.size = 0) : plainB s.data.toList = false := by
  have hl : s.data.toList.length = s.size := by simp
  have : s.data.toList = [] := List.length_eq_zero_iff.1 (by omega)
  rw [this]; rfl

theorem ok_of_small {b : UInt8} (h : b.toNat = 95 ∨ (97 ≤ b.toNat ∧ b.toNat ≤ 122)) : okB b = true ∧ digitB b = false := by
  unfold okB smallB digitB
  rcases h with h | ⟨h1, h2⟩
  · rw [h]; decide
  · have e1 : decide (97 ≤ b.toNat) = true := by simpa using h1
    have e2 : decide (b.toNat ≤ 122) = true := by simpa using h2
    have e3 : decide (b.toNat ≤ 57) = false := by simp; omega
    rw [e1, e2, e3]; simp
theorem ok_of_digit {b : UInt8} (h : 48 ≤ b.toNat ∧ b.toNat ≤ 57) : okB b = true ∧ digitB b = true := by
  have : digitB b = true := by unfold digitB; simp [h.1, h.2]
  exact ⟨by unfold okB; rw [this]; simp, this⟩
theorem ok_no {b : UInt8} (h1 : b.toNat ≠ 95) (h2 : ¬(97 ≤ b.toNat ∧ b.toNat ≤ 122)) (h3 : ¬(48 ≤ b.toNat ∧ b.toNat ≤ 57)) : okB b = false := by
  unfold okB smallB digitB
  rw [Bool.eq_false_iff]
  simp only [ne_eq, Bool.or_eq_true, Bool.and_eq_true, decide_eq_true_eq]
  omega

end Go.Proofs.YtgnillmhpockkaaGreatDoor

namespace Go.Proofs.YtgnillmhpockkaaGreatDoor
open Go.RowKit

def dec (n : Int) : ByteArray := ⟨(Lib.itoa n).toArray⟩

/-- The digits of u ahead of out; none for 0. -/
def decOn (u : Nat) (out : List UInt8) : List UInt8 := if u = 0 then out else Lib.decDigits u ++ out

theorem decOn_step (u : Nat) (out : List UInt8) (h : 0 < u) : decOn u out = decOn (u / 10) (UInt8.ofNat (48 + u % 10) :: out) := by
  unfold decOn
  rw [if_neg (by omega)]
  by_cases h10 : u < 10
  · rw [if_pos (by omega), Lib.decDigits_one h10, Nat.mod_eq_of_lt h10]
    rfl
  · rw [if_neg (by omega), Lib.decDigits, dif_neg h10]
    simp

theorem digit_cut (d : Nat) (h : d < 10) : (⟨#[48, 49, 50, 51, 52, 53, 54, 55, 56, 57]⟩ : ByteArray).extract d (d + 1) = ⟨#[UInt8.ofNat (48 + d)]⟩ := by
  have : ∀ d : Fin 10, (⟨#[48, 49, 50, 51, 52, 53, 54, 55, 56, 57]⟩ : ByteArray).extract d.val (d.val + 1) = ⟨#[UInt8.ofNat (48 + d.val)]⟩ := by decide
  exact this ⟨d, h⟩

theorem ba_cons0 (x : UInt8) (out : List UInt8) : (⟨#[x]⟩ : ByteArray) ++ ⟨out.toArray⟩ = ⟨(x :: out).toArray⟩ := by
  apply ByteArray.ext
  simp [ByteArray.data_append]

theorem decOn_len (u n : Nat) (out : List UInt8) (h : decOn u out = Lib.decDigits n) (hn : n < 18446744073709551616) : out.length ≤ 20 := by
  have h1 := congrArg List.length h
  rw [Lib.decDigits_length] at h1
  have h2 := Lib.nDigits_le20 n hn
  unfold decOn at h1
  split at h1
  · omega
  · rw [List.length_append] at h1; omega

set_option maxHeartbeats 1000000 in
theorem specDecPos (n : Nat) (w : World) (h0 : 0 < n) (h1 : (n : Int) ≤ 9223372036854775807) :
    Calls Tryz.prog 25 #[.int .i64 (n : Int)] w fun e w' => e = .returned (.string ⟨(Lib.decDigits n).toArray⟩) ∧ w = w' := by
  have hz : ((n : Int) == 0) = false := by simp; omega
  go_enter Tryz.func25, Tryz.ntmps25
  go_wp2
  go_loop [3, 4, 5] (fun o m _ => ∃ (u : Nat) (out : List UInt8), m = .int .i64 (u : Int) ∧ o = .string ⟨out.toArray⟩ ∧ u ≤ n ∧ Hid (decOn u out = Lib.decDigits n)) (fun _ m _ => (intOf m).toNat)
  case atStart => exact ⟨n, [], rfl, rfl, Nat.le_refl _, by unfold Hid decOn; rw [if_neg (by omega)]; simp⟩
  case round =>
    obtain ⟨u, out, rfl, rfl, hu, hd⟩ := hrel
    have hlen := decOn_len u n out hd.out (by omega)
    by_cases hp : 0 < u
    · have H := Lib.hid ((decOn_step u out hp).symm.trans hd.out)
      have hne : ((u : Int) != 0) = true := by rw [bne_iff_ne]; omega
      have Hc := Lib.hid (digit_cut (u % 10) (by omega))
      go_wp2
      go_round
      case rel => exact ⟨u / 10, UInt8.ofNat (48 + u % 10) :: out, by simp, by rw [Hc.out, ba_cons0], by omega, H⟩
      case measure => simp [intOf]; omega
    · obtain rfl : u = 0 := by omega
      have hd' := hd.out
      unfold decOn at hd'
      rw [if_pos rfl] at hd'
      have H := Lib.hid hd'
      clear hd hd'
      go_wp2
      go_ret
      exact ⟨by rw [← H.out]; rfl, rfl⟩

set_option maxHeartbeats 1000000 in
theorem specDecNeg (n : Nat) (w : World) (h0 : 0 < n) (h1 : (n : Int) ≤ 9223372036854775808) :
    Calls Tryz.prog 25 #[.int .i64 (-(n : Int))] w fun e w' => e = .returned (.string ⟨(45 :: Lib.decDigits n).toArray⟩) ∧ w = w' := by
  have hz : (-(n : Int) == 0) = false := by simp; omega
  go_enter Tryz.func25, Tryz.ntmps25
  go_wp2
  go_loop [3, 4, 5] (fun o m _ => ∃ (u : Nat) (out : List UInt8), m = .int .i64 (-(u : Int)) ∧ o = .string ⟨out.toArray⟩ ∧ u ≤ n ∧ Hid (decOn u out = Lib.decDigits n)) (fun _ m _ => (-(intOf m)).toNat)
  case atStart => exact ⟨n, [], rfl, rfl, Nat.le_refl _, by unfold Hid decOn; rw [if_neg (by omega)]; simp⟩
  case round =>
    obtain ⟨u, out, rfl, rfl, hu, hd⟩ := hrel
    have hlen := decOn_len u n out hd.out (by omega)
    by_cases hp : 0 < u
    · have H := Lib.hid ((decOn_step u out hp).symm.trans hd.out)
      have hne : (-(u : Int) != 0) = true := by rw [bne_iff_ne]; omega
      have Hc := Lib.hid (digit_cut (u % 10) (by omega))
      have hm : (-(u : Int)).tmod 10 = -((u % 10 : Nat) : Int) := by rw [Int.neg_tmod]; congr 1
      have hq : (-(u : Int)).tdiv 10 = -((u / 10 : Nat) : Int) := by rw [Int.neg_tdiv]; congr 1
      by_cases h10 : u % 10 = 0
      · have Hc' : Hid ((⟨#[48, 49, 50, 51, 52, 53, 54, 55, 56, 57]⟩ : ByteArray).extract 0 1 = ⟨#[UInt8.ofNat (48 + u % 10)]⟩) := by
          have := Hc.out
          rw [h10] at this
          unfold Hid
          rw [h10]
          exact this
        go_wp2
        go_round
        case rel => exact ⟨u / 10, UInt8.ofNat (48 + u % 10) :: out, by simp, by rw [Hc'.out, ba_cons0], by omega, H⟩
        case measure => simp [intOf]; omega
      · go_wp2
        go_round
        case rel => exact ⟨u / 10, UInt8.ofNat (48 + u % 10) :: out, by simp, by rw [Hc.out, ba_cons0], by omega, H⟩
        case measure => simp [intOf]; omega
    · have hz0 : (-(u : Int) != 0) = false := by simp; omega
      have hd' := hd.out
      unfold decOn at hd'
      rw [if_pos (by omega)] at hd'
      have H := Lib.hid hd'
      clear hd hd'
      go_wp2
      go_ret
      exact ⟨by rw [← H.out, ← ba_cons0]; rfl, rfl⟩

theorem specDecText (n : Int) (w : World) (h0 : -9223372036854775808 ≤ n) (h1 : n ≤ 9223372036854775807) :
    Calls Tryz.prog 25 #[.int .i64 n] w fun e w' => e = .returned (.string (dec n)) ∧ w = w' := by
  unfold dec Lib.itoa
  rcases Int.lt_trichotomy n 0 with h | h | h
  · obtain ⟨u, hu⟩ := Int.eq_ofNat_of_zero_le (show 0 ≤ -n by omega)
    have hn : n = -(u : Int) := by omega
    subst hn
    rw [if_pos (by omega), show (-(u : Int)).natAbs = u by omega]
    exact specDecNeg u w (by omega) (by omega)
  · subst h
    rw [if_neg (by omega), Lib.decDigits_one (by decide)]
    go_enter Tryz.func25, Tryz.ntmps25
    go_wp2
    go_ret
    exact ⟨rfl, rfl⟩
  · obtain ⟨u, rfl⟩ := Int.eq_ofNat_of_zero_le (show 0 ≤ n by omega)
    rw [if_neg (by omega), Int.toNat_natCast]
    exact specDecPos u w (by omega) (by omega)

end Go.Proofs.YtgnillmhpockkaaGreatDoor

namespace Go.Proofs.YtgnillmhpockkaaGreatDoor
open Go.RowKit

theorem decFrom_stop : ∀ (l : List UInt8) (k acc n : Nat) (b : UInt8), Lib.decFrom acc (l.take k) = some n → l[k]? = some b → Lib.digitVal b = none → Lib.decFrom acc l = none
  | [], k, _, _, _, _, hb, _ => by simp at hb
  | x :: r, 0, acc, n, b, _, hb, hd => by
    simp at hb
    subst hb
    simp [Lib.decFrom, hd]
  | x :: r, k + 1, acc, n, b, h, hb, hd => by
    rw [List.take_succ_cons, Lib.decFrom] at h
    rw [Lib.decFrom]
    cases hv : Lib.digitVal x with
    | none => rfl
    | some d =>
      rw [hv] at h
      exact decFrom_stop r k _ n b h (by simpa using hb) hd

theorem readD_stop {l : List UInt8} {k n : Nat} {b : UInt8} (h : Lib.decFrom 0 (l.take k) = some n) (hb : l[k]? = some b) (hd : Lib.digitVal b = none) : readD l = -1 := by
  unfold readD
  split
  · rfl
  · have h0 := decFrom_stop l k 0 n b h hb hd
    have : Lib.decNat l = none := by
      unfold Lib.decNat
      split
      · rfl
      · exact h0
    rw [this]

theorem readD_end {l : List UInt8} {n : Nat} (h9 : l.length ≤ 9) (h0 : l ≠ []) (h : Lib.decFrom 0 l = some n) : readD l = if Lib.itoa (n : Int) = l then (n : Int) else -1 := by
  have : Lib.decNat l = some n := by
    unfold Lib.decNat
    rw [if_neg (by simpa using h0), h]
  unfold readD
  rw [if_neg (by omega), this]

theorem specDigit (b : UInt8) (w : World) : Calls Tryz.prog 34 #[.int .u8 (b.toNat : Int)] w fun e w' => e = .returned (.bool (Lib.digitVal b).isSome) ∧ w = w' := by
  have hb : (b.toNat : Int) ≤ 255 := by have := UInt8.toNat_lt b; omega
  by_cases h1 : 48 ≤ b.toNat
  · by_cases h2 : b.toNat ≤ 57
    · have H : Hid ((Lib.digitVal b).isSome = true) := by unfold Hid Lib.digitVal; rw [if_pos ⟨h1, h2⟩]; rfl
      have ht : decide ((b.toNat : Int) ≤ 57) = true := by simp; omega
      go_enter Tryz.func34, Tryz.ntmps34
      go_wp2
      go_ret
      exact ⟨by rw [H.out]; rfl, rfl⟩
    · have H : Hid ((Lib.digitVal b).isSome = false) := by unfold Hid Lib.digitVal; rw [if_neg (by omega)]; rfl
      have ht : decide ((b.toNat : Int) ≤ 57) = false := by simp; omega
      go_enter Tryz.func34, Tryz.ntmps34
      go_wp2
      go_ret
      exact ⟨by rw [H.out]; rfl, rfl⟩
  · have H : Hid ((Lib.digitVal b).isSome = false) := by unfold Hid Lib.digitVal; rw [if_neg (by omega)]; rfl
    have ht : decide ((48 : Int) ≤ (b.toNat : Int)) = false := by simp; omega
    go_enter Tryz.func34, Tryz.ntmps34
    go_wp2
    go_ret
    exact ⟨by rw [H.out]; rfl, rfl⟩

theorem specDigitIs (b : UInt8) (w : World) (v : Bool) (h : (Lib.digitVal b).isSome = v) : Calls Tryz.prog 34 #[.int .u8 (b.toNat : Int)] w fun e w' => e = .returned (.bool v) ∧ w = w' := h ▸ specDigit b w

theorem pow9 {n k : Nat} (h : n < (0 + 1) * 10 ^ k) (hk : k ≤ 9) : n < 1000000000 := by
  have : 10 ^ k ≤ 10 ^ 9 := Nat.pow_le_pow_right (by omega) hk
  omega

set_option maxHeartbeats 1000000 in
theorem specReadDec (s : ByteArray) (w : World) (hs : s.size ≤ 1048576) :
    Calls Tryz.prog 111 #[.string s] w fun e w' => e = .returned (.int .i64 (readD s.data.toList)) ∧ w = w' := by
  have hll : s.data.toList.length = s.size := by simp
  go_enter Tryz.func111, Tryz.ntmps111
  go_wp2_with fail
  go_loop [3, 4] (fun q i => ∃ k n : Nat, k ≤ s.size ∧ (k ≤ 9) ∧ (0 < k → s.size ≤ 9) ∧ i = .int .i64 k ∧ q = .int .i64 n ∧ n < 1000000000 ∧ Hid (Lib.decFrom 0 (s.data.toList.take k) = some n)) (fun _ i => s.size - (intOf i).toNat)
  case atStart => exact ⟨0, 0, Nat.zero_le _, by omega, by omega, rfl, rfl, by omega, rfl⟩
  case round =>
    obtain ⟨k, n, hk, hk9, hs9, rfl, rfl, hn, hd⟩ := hrel
    by_cases hlt : k < s.size
    · have hgl : s.data.toList[k]? = some s[k] := by
        rw [List.getElem?_eq_getElem (by omega)]; rfl
      have hby : (s[k].toNat : Int) ≤ 255 := by have := UInt8.toNat_lt s[k]; omega
      cases hv : Lib.digitVal s[k] with
      | none =>
        have HR := Lib.hid (readD_stop hd.out hgl hv)
        have Hv : Hid ((Lib.digitVal s[k]).isSome = false) := by unfold Hid; rw [hv]; rfl
        clear hv hgl hll
        go_wp2_with (go_at_call 34; refine (specDigitIs _ _ false Hv.out).mono ?_; rintro e w' ⟨rfl, rfl⟩)
        go_ret
        exact ⟨by rw [HR.out]; rfl, rfl⟩
      | some d =>
        have Hv : Hid ((Lib.digitVal s[k]).isSome = true) := by unfold Hid; rw [hv]; rfl
        have hdv : 48 ≤ s[k].toNat ∧ s[k].toNat = 48 + d ∧ d ≤ 9 := by
          unfold Lib.digitVal at hv
          split at hv
          · cases hv; omega
          · cases hv
        by_cases h9 : s.size ≤ 9
        · have HD := Lib.hid (Lib.decFrom_take s.data.toList k 0 n s[k] d hd.out hgl hv)
          have hlt1 : n * 10 + d < 1000000000 := by
            have := Lib.decFrom_lt _ _ _ HD.out
            rw [List.length_take_of_le (by omega)] at this
            exact pow9 this (by omega)
          have hd1 : (s[k].toNat : Int) = 48 + (d : Int) := by omega
          have Hd1 := Lib.hid hd1
          have hd48 : (48 : Int) ≤ (s[k].toNat : Int) := by omega
          have hd57 : (s[k].toNat : Int) ≤ 57 := by omega
          clear hv hgl hll hd1 hdv
          go_wp2_with (go_at_call 34; refine (specDigitIs _ _ true Hv.out).mono ?_; rintro e w' ⟨rfl, rfl⟩)
          go_round
          case rel => exact ⟨k + 1, n * 10 + d, by omega, by omega, fun _ => h9, by go_num, by rw [Hd1.out]; go_num, hlt1, HD⟩
          case measure => simp [intOf]; omega
        · have HR : Hid (readD s.data.toList = -1) := by unfold Hid readD; rw [if_pos (by omega)]
          clear hv hgl hll hdv
          go_wp2_with (go_at_call 34; refine (specDigitIs _ _ true Hv.out).mono ?_; rintro e w' ⟨rfl, rfl⟩)
          go_ret
          exact ⟨by rw [HR.out]; rfl, rfl⟩
    · obtain rfl : k = s.size := by omega
      rw [List.take_of_length_le (by omega)] at hd
      have hb0 : -9223372036854775808 ≤ (n : Int) := by omega
      have hb1 : (n : Int) ≤ 9223372036854775807 := by omega
      by_cases h0 : s.size = 0
      · have hnil : s.data.toList = [] := List.eq_nil_of_length_eq_zero (by omega)
        have hsn : s.toList.isEmpty = true := by rw [Lib.toList_data, hnil]; rfl
        have hse : s.toList = [] := by rw [Lib.toList_data, hnil]
        have HR : Hid (readD s.data.toList = -1) := by unfold Hid; rw [hnil]; rfl
        clear hll hnil hse
        go_wp2_with fail
        go_ret
        exact ⟨by rw [HR.out]; rfl, rfl⟩
      · have hne : s.data.toList ≠ [] := fun e => by rw [e] at hll; simp at hll; omega
        have hsn : s.toList.isEmpty = false := by rw [Lib.toList_data]; simpa using hne
        have HR := Lib.hid (readD_end (by omega) hne hd.out)
        clear hll hne
        by_cases he : Lib.itoa (n : Int) = s.data.toList
        · have ht : (!((dec (n : Int)).toList == s.toList)) = false := by simp [Lib.toList_data, dec, he]
          have HE := Lib.hid he
          clear he
          go_wp2_with (go_at_call 25; refine (specDecText (n : Int) _ hb0 hb1).mono ?_; rintro e w' ⟨rfl, rfl⟩)
          go_ret
          exact ⟨by rw [HR.out, if_pos HE.out]; rfl, rfl⟩
        · have ht : (!((dec (n : Int)).toList == s.toList)) = true := by simp [Lib.toList_data, dec, he]
          have HE := Lib.hid he
          clear he
          go_wp2_with (go_at_call 25; refine (specDecText (n : Int) _ hb0 hb1).mono ?_; rintro e w' ⟨rfl, rfl⟩)
          go_ret
          exact ⟨by rw [HR.out, if_neg HE.out]; rfl, rfl⟩

end Go.Proofs.YtgnillmhpockkaaGreatDoor

namespace Go.Proofs.YtgnillmhpockkaaGreatDoor

theorem decFrom_snocB : ∀ (l : List UInt8) (acc n : Nat) (b : UInt8) (d : Nat), Lib.decFrom acc l = some n → Lib.digitVal b = some d → Lib.decFrom acc (l ++ [b]) = some (n * 10 + d)
  | [], acc, n, b, d, h, hd => by
    cases h
    simp [Lib.decFrom, hd]
  | x :: r, acc, n, b, d, h, hd => by
    rw [Lib.decFrom] at h
    rw [List.cons_append, Lib.decFrom]
    cases hv : Lib.digitVal x with
    | none => rw [hv] at h; cases h
    | some e => rw [hv] at h; exact decFrom_snocB r _ n b d h hd

theorem digit_ofB (d : Nat) (h : d < 10) : Lib.digitVal (UInt8.ofNat (48 + d)) = some d := by
  have h2 : (UInt8.ofNat (48 + d)).toNat = 48 + d := by rw [UInt8.toNat_ofNat']; omega
  unfold Lib.digitVal
  rw [h2, if_pos (by omega)]
  congr 1
  omega

theorem decFrom_digitsB (u : Nat) : Lib.decFrom 0 (Lib.decDigits u) = some u := by
  induction u using Nat.strongRecOn with
  | ind u ih =>
    by_cases h : u < 10
    · rw [Lib.decDigits_one h, Lib.decFrom, digit_ofB u h]
      simp [Lib.decFrom]
    · rw [Lib.decDigits, dif_neg h, decFrom_snocB _ _ _ _ _ (ih (u / 10) (by omega)) (digit_ofB (u % 10) (by omega))]
      congr 1
      omega

theorem decDigits_neB (u : Nat) : Lib.decDigits u ≠ [] := by
  intro h
  have h1 := Lib.decDigits_length u
  have h2 := Lib.nDigits_pos u
  rw [h] at h1
  simp at h1
  omega

theorem itoa_natB (m : Nat) : Lib.itoa (m : Int) = Lib.decDigits m := by
  unfold Lib.itoa
  rw [if_neg (by omega), Int.toNat_natCast]

theorem nDigits_leB : ∀ (k u : Nat), 1 ≤ k → u < 10 ^ k → Lib.nDigits u ≤ k
  | 0, _, h, _ => by omega
  | k + 1, u, _, h => by
    by_cases hu : u < 10
    · rw [Lib.nDigits_small hu]; omega
    · rw [Lib.nDigits_big hu]
      rcases Nat.eq_zero_or_pos k with rfl | hk
      · simp at h; omega
      · have : u / 10 < 10 ^ k := by
          rw [Nat.pow_succ] at h
          exact Nat.div_lt_of_lt_mul (by rw [Nat.mul_comm]; exact h)
        have := nDigits_leB k (u / 10) hk this
        omega

theorem readD_inB (n : Int) (h0 : 0 ≤ n) (h1 : n ≤ 999999999) : readD (Lib.itoa n) = n := by
  obtain ⟨m, rfl⟩ := Int.eq_ofNat_of_zero_le h0
  have hl : (Lib.decDigits m).length ≤ 9 := by
    rw [Lib.decDigits_length]
    exact nDigits_leB 9 m (by omega) (by omega)
  rw [itoa_natB, readD_end hl (decDigits_neB m) (decFrom_digitsB m), itoa_natB, if_pos rfl]

end Go.Proofs.YtgnillmhpockkaaGreatDoor

namespace Go.Proofs.YtgnillmhpockkaaGreatDoor

def kidsK (k : Int) : Int := if k < 0 ∨ 18 < k then -1 else if k ≤ 5 then 0 else if k ≤ 7 then 1 else 2

/-- What one node asks for, but for its kids' own shape. -/
def node1 (k : Int) (t : ByteArray) (n : Int) (m : Nat) : Bool :=
  decide ((m : Int) = kidsK k) && (if k = 0 then nameB t.data.toList else if k = 2 then decide (t.size ≤ 100) else t.toList.isEmpty) && (if k = 1 then decide (0 ≤ n ∧ n ≤ 999999999) else decide (n = 0))

mutual
def shapeE : Ex → Bool
  | .mk k t n kids => node1 k t n kids.length && shapeL kids
def shapeL : List Ex → Bool
  | [] => true
  | e :: r => shapeE e && shapeL r
end

def leafW (k : Int) (t : ByteArray) (n : Int) : W :=
  if k = 0 then (if plainB t.data.toList && !keptB t.data.toList then (0, t.data.toList) else (1, t.data.toList))
  else if k = 1 then (2, Lib.itoa n) else if k = 2 then (3, t.data.toList) else if k = 3 then (0, wTrue) else if k = 4 then (0, wFalse) else (0, wNull)

def firstK (k : Int) : Nat := if bindsK k = 4 then 5 else bindsK k
def signW (k : Int) : W := (if k = 8 ∨ k = 9 then 0 else 4, signK k)

def wordsE : Ex → Nat → List W
  | .mk k t n [], least => if bindsK k < least then (4, [40]) :: (leafW k t n :: [(4, [41])]) else [leafW k t n]
  | .mk k _ _ [a], least =>
    if k = 6 then (if bindsK k < least then (4, [40]) :: ((0, wNot) :: wordsE a 3 ++ [(4, [41])]) else (0, wNot) :: wordsE a 3)
    else (if bindsK k < least then (4, [40]) :: (wordsE a 5 ++ [(0, wIs), (0, wNull)] ++ [(4, [41])]) else wordsE a 5 ++ [(0, wIs), (0, wNull)])
  | .mk k _ _ (a :: b :: _), least =>
    if bindsK k < least then (4, [40]) :: (wordsE a (firstK k) ++ signW k :: wordsE b (bindsK k + 1) ++ [(4, [41])]) else wordsE a (firstK k) ++ signW k :: wordsE b (bindsK k + 1)

theorem words_pos (e : Ex) (L : Nat) : 0 < (wordsE e L).length := by
  obtain ⟨k, t, n, kids⟩ := e
  match kids with
  | [] => rw [wordsE]; split <;> simp
  | [a] => rw [wordsE]; split <;> split <;> simp
  | a :: b :: r => rw [wordsE]; split <;> (simp; try omega)

/-- The brackets that are wanted. -/
theorem words_in {e : Ex} {L : Nat} (h : bindsK e.kind < L) : wordsE e L = (4, [40]) :: (wordsE e 1 ++ [(4, [41])]) := by
  obtain ⟨k, t, n, kids⟩ := e
  have h1 : ¬ bindsK k < 1 := by unfold bindsK; (repeat' split) <;> omega
  have h2 : bindsK k < L := h
  match kids with
  | [] => rw [wordsE, wordsE, if_pos h2, if_neg h1]; rfl
  | [a] =>
    rw [wordsE, wordsE]
    by_cases hk : k = 6
    · rw [if_pos hk, if_pos hk, if_pos h2, if_neg h1]
    · rw [if_neg hk, if_neg hk, if_pos h2, if_neg h1]
  | a :: b :: r => rw [wordsE, wordsE, if_pos h2, if_neg h1]

theorem words_out {e : Ex} {L L' : Nat} (h : ¬ bindsK e.kind < L) (h' : ¬ bindsK e.kind < L') : wordsE e L = wordsE e L' := by
  obtain ⟨k, t, n, kids⟩ := e
  have h1 : ¬ bindsK k < L := h
  have h2 : ¬ bindsK k < L' := h'
  match kids with
  | [] => rw [wordsE, wordsE, if_neg h1, if_neg h2]
  | [a] =>
    rw [wordsE, wordsE]
    by_cases hk : k = 6
    · rw [if_pos hk, if_pos hk, if_neg h1, if_neg h2]
    · rw [if_neg hk, if_neg hk, if_neg h1, if_neg h2]
  | a :: b :: r => rw [wordsE, wordsE, if_neg h1, if_neg h2]

/-- Nothing of strength L or more goes on here. -/
def Stop (L : Nat) (rest : List W) : Prop := ∀ x r, rest = x :: r → (∀ b, L ≤ b → b ≤ 6 → nextK x b = none) ∧ (L ≤ 4 → isW x wIs = false)

theorem Stop.mono {L L' : Nat} {rest : List W} (h : Stop L rest) (hl : L ≤ L') : Stop L' rest := fun x r e =>
  ⟨fun b hb hb' => (h x r e).1 b (by omega) hb', fun h4 => (h x r e).2 (by omega)⟩
theorem stop_nil (L : Nat) : Stop L [] := fun _ _ e => by cases e

theorem loop_stop {f L : Nat} {e : Ex} {rest : List W} (h : Stop L rest) (hL : L ≤ 6) : loopP f L e rest = (e, rest) := by
  cases f with
  | zero => rw [loopP]
  | succ f =>
    cases rest with
    | nil => rw [loopP]
    | cons x r =>
      obtain ⟨h1, h2⟩ := h x r rfl
      rw [loopP]
      rw [if_neg (by rintro ⟨rfl, h3, _⟩; rw [h2 (by omega)] at h3; cases h3), h1 L (Nat.le_refl _) hL]

def RTat (e : Ex) (L : Nat) : Prop := ∀ rest f, enough f L (wordsE e L ++ rest) → Stop L rest → anyP f L (wordsE e L ++ rest) = some (e, rest)
def Aat (e : Ex) (L : Nat) : Prop := ∀ rest f, enough f L (wordsE e L ++ rest) → Stop (L + 1) rest → ∃ f', enoughL f' L rest ∧ anyP f L (wordsE e L ++ rest) = some (loopP f' L e rest)

/-- One level down, where e is no sum of that level itself. -/
theorem step_down {e : Ex} {L : Nat} (hL : L ≤ 6) (hw : wordsE e L = wordsE e (L + 1)) (hn : L = 3 → ∀ rest, hdW (wordsE e L ++ rest) wNot = false) (h : RTat e (L + 1)) : Aat e L := by
  intro rest f hf hs
  have hp := words_pos e L
  unfold enough at hf
  rw [List.length_append] at hf
  obtain ⟨f, rfl⟩ : ∃ g, f = g + 1 := ⟨f - 1, by omega⟩
  refine ⟨f, by unfold enoughL; omega, ?_⟩
  rw [anyP, if_neg (by omega), if_neg (by rintro ⟨h3, h4⟩; rw [hn h3 rest] at h4; cases h4), hw]
  have := h rest f (by unfold enough; rw [← hw, List.length_append]; omega) hs
  rw [this]

theorem rt_of_a {e : Ex} {L : Nat} (hL : L ≤ 6) (h : Aat e L) : RTat e L := by
  intro rest f hf hs
  obtain ⟨f', _, h2⟩ := h rest f hf (hs.mono (by omega))
  rw [h2, loop_stop hs hL]

end Go.Proofs.YtgnillmhpockkaaGreatDoor

namespace Go.Proofs.YtgnillmhpockkaaGreatDoor

theorem binds_range (k : Int) : 1 ≤ bindsK k ∧ bindsK k ≤ 7 := by unfold bindsK; (repeat' split) <;> omega

/-- A sign of two kids, and no other. -/
theorem sign_next : ∀ k ∈ ([8, 9, 10, 11, 12, 13, 14, 15, 16, 17, 18] : List Int), ∀ b, b < 7 → nextK (signW k) b = if b = bindsK k then some k else none := by decide
theorem sign_is : ∀ k ∈ ([8, 9, 10, 11, 12, 13, 14, 15, 16, 17, 18] : List Int), isW (signW k) wIs = false := by decide
theorem shut_next : ∀ b, b < 7 → nextK (4, [41]) b = none := by decide
theorem is_next : ∀ b, b < 7 → nextK (0, wIs) b = none := by decide

theorem two_mem {k : Int} (h : kidsK k = 2) : k ∈ ([8, 9, 10, 11, 12, 13, 14, 15, 16, 17, 18] : List Int) := by
  unfold kidsK at h
  have : 8 ≤ k ∧ k ≤ 18 := by
    split at h
    · omega
    · split at h
      · omega
      · split at h <;> omega
  have hc : k = 8 ∨ k = 9 ∨ k = 10 ∨ k = 11 ∨ k = 12 ∨ k = 13 ∨ k = 14 ∨ k = 15 ∨ k = 16 ∨ k = 17 ∨ k = 18 := by omega
  rcases hc with rfl | rfl | rfl | rfl | rfl | rfl | rfl | rfl | rfl | rfl | rfl <;> decide

theorem stop_sign {k : Int} (hk : k ∈ ([8, 9, 10, 11, 12, 13, 14, 15, 16, 17, 18] : List Int)) (r : List W) : Stop (bindsK k + 1) (signW k :: r) := by
  intro x q e
  cases e
  refine ⟨fun b hb hb' => ?_, fun _ => sign_is k hk⟩
  rw [sign_next k hk b (by omega), if_neg (by omega)]

theorem stop_shut (L : Nat) (r : List W) : Stop L ((4, [41]) :: r) := by
  intro x q e
  cases e
  exact ⟨fun b _ hb' => shut_next b (by omega), fun _ => by decide⟩

theorem stop_is (r : List W) : Stop 5 ((0, wIs) :: r) := by
  intro x q e
  cases e
  exact ⟨fun b _ hb' => is_next b (by omega), fun h => by omega⟩

/-- The words of e do not begin with a not, unless e is one. -/
theorem head_not : ∀ (n : Nat) (e : Ex), e.nodes ≤ n → shapeE e = true → 4 ≤ bindsK e.kind → ∀ rest, hdW (wordsE e 1 ++ rest) wNot = false := by
  intro n
  induction n with
  | zero => intro e h; rw [Ex.nodes_eq] at h; omega
  | succ n ih =>
    intro e hn hs hb rest
    obtain ⟨k, t, m, kids⟩ := e
    rw [Ex.nodes_eq] at hn
    have hb' : 4 ≤ bindsK k := hb
    have h1 : ¬ bindsK k < 1 := by omega
    rw [shapeE, Bool.and_eq_true] at hs
    have inner : ∀ (a : Ex) (L : Nat) (q : List W), 4 ≤ L → a.nodes ≤ n → shapeE a = true → hdW (wordsE a L ++ q) wNot = false := fun a L q hL ha hsa => by
      by_cases hp : bindsK a.kind < L
      · rw [words_in hp]; rfl
      · rw [words_out hp (show ¬ bindsK a.kind < 1 by omega)]
        exact ih a ha hsa (by omega) q
    match kids, hs, hn with
    | [], hs, _ =>
      rw [wordsE, if_neg h1]
      have hn1 := hs.1
      show isW (leafW k t m) wNot = false
      unfold leafW
      split
      · rename_i hk0
        split
        · rename_i hpl
          rw [Bool.and_eq_true, Bool.not_eq_true'] at hpl
          unfold isW
          cases hq : (t.data.toList == wNot) with
          | false => simp [hq]
          | true =>
            have : t.data.toList = wNot := by simpa using hq
            rw [this] at hpl
            exact absurd hpl.2 (by decide)
        · rfl
      · split
        · rfl
        · split
          · rfl
          · split
            · rfl
            · split <;> rfl
    | [a], hs, hn =>
      have hsa : shapeE a = true := by have := hs.2; rw [shapeL, Bool.and_eq_true] at this; exact this.1
      have hna : a.nodes ≤ n := by change 1 + nodesL [a] ≤ n + 1 at hn; rw [nodesL, nodesL] at hn; omega
      rw [wordsE]
      by_cases hk : k = 6
      · subst hk; exact absurd hb' (by decide)
      · rw [if_neg hk, if_neg h1, List.append_assoc]
        exact inner a 5 _ (by omega) hna hsa
    | a :: b :: r, hs, hn =>
      have hsa : shapeE a = true := by have := hs.2; rw [shapeL, Bool.and_eq_true] at this; exact this.1
      have hna : a.nodes ≤ n := by change 1 + nodesL (a :: b :: r) ≤ n + 1 at hn; rw [nodesL] at hn; omega
      rw [wordsE, if_neg h1, List.append_assoc]
      exact inner a _ _ (by unfold firstK; split <;> omega) hna hsa

/-- From the strength of e itself to every one. -/
theorem all_levels {e : Ex} (hs : shapeE e = true) (own : RTat e (bindsK e.kind)) : ∀ L, 1 ≤ L → L ≤ 7 → RTat e L := by
  have hr := binds_range e.kind
  have notIn : ∀ L, bindsK e.kind < L → ∀ rest, hdW (wordsE e L ++ rest) wNot = false := fun L h rest => by rw [words_in h]; rfl
  have down : ∀ d L, L + d = bindsK e.kind → 1 ≤ L → RTat e L := by
    intro d
    induction d with
    | zero => intro L h _; have : L = bindsK e.kind := by omega
              rw [this]; exact own
    | succ d ih =>
      intro L h hL
      refine rt_of_a (by omega) (step_down (by omega) (words_out (by omega) (by omega)) ?_ (ih (L + 1) (by omega) (by omega)))
      intro h3 rest
      rw [words_out (L := L) (L' := 1) (by omega) (by omega)]
      exact head_not _ e (Nat.le_refl _) hs (by omega) rest
  have one : RTat e 1 := down (bindsK e.kind - 1) 1 (by omega) (Nat.le_refl _)
  have top : bindsK e.kind < 7 → RTat e 7 := by
    intro h rest f hf _
    rw [words_in h] at hf ⊢
    unfold enough at hf
    simp only [List.cons_append, List.append_assoc, List.length_cons, List.length_append, List.length_nil] at hf ⊢
    obtain ⟨f, rfl⟩ : ∃ g, f = g + 2 := ⟨f - 2, by omega⟩
    rw [anyP, if_pos rfl, atomP, if_neg (by decide), if_neg (by decide), if_neg (by decide), if_neg (by decide), if_neg (by decide), if_neg (by decide), if_pos (by decide)]
    have h2 := one ((4, [41]) :: ([] ++ rest)) f (by unfold enough; simp only [List.length_append, List.length_cons, List.nil_append]; omega) (stop_shut 1 _)
    simp only [List.nil_append] at h2 ⊢
    rw [h2]
    rfl
  have up : ∀ d L, L + d = 7 → bindsK e.kind < L → RTat e L := by
    intro d
    induction d with
    | zero => intro L h hb; have : L = 7 := by omega
              subst this; exact top hb
    | succ d ih =>
      intro L h hb
      exact rt_of_a (by omega) (step_down (by omega) (by rw [words_in hb, words_in (show bindsK e.kind < L + 1 by omega)]) (fun _ => notIn L hb) (ih (L + 1) (by omega) (by omega)))
  intro L h1 h7
  by_cases h : L ≤ bindsK e.kind
  · exact down (bindsK e.kind - L) L (by omega) h1
  · exact up (7 - L) L (by omega) (by omega)

/-- .. and ahead of more of that strength. -/
theorem all_sums {e : Ex} (hall : ∀ L, 1 ≤ L → L ≤ 7 → RTat e L) {L : Nat} (h1 : 1 ≤ L) (h6 : L ≤ 6) (h3 : L ≠ 3) (hne : L ≠ bindsK e.kind) : Aat e L := by
  refine step_down h6 ?_ (fun h => absurd h h3) (hall (L + 1) (by omega) (by omega))
  by_cases hb : bindsK e.kind < L
  · rw [words_in hb, words_in (show bindsK e.kind < L + 1 by omega)]
  · exact words_out hb (by omega)

end Go.Proofs.YtgnillmhpockkaaGreatDoor

namespace Go.Proofs.YtgnillmhpockkaaGreatDoor

theorem txt_data (t : ByteArray) : txt t.data.toList = t := by
  obtain ⟨⟨l⟩⟩ := t
  rfl

theorem txt_empty {t : ByteArray} (h : t.toList.isEmpty = true) : t = txt [] := by
  have : t.data.toList = [] := by rw [← Lib.toList_data]; exact List.isEmpty_iff.1 h
  rw [← txt_data t, this]

theorem zero_kids {k : Int} (h : kidsK k = 0) : k = 0 ∨ k = 1 ∨ k = 2 ∨ k = 3 ∨ k = 4 ∨ k = 5 := by
  unfold kidsK at h
  split at h
  · omega
  · split at h
    · omega
    · split at h <;> omega

theorem one_kid {k : Int} (h : kidsK k = 1) : k = 6 ∨ k = 7 := by
  unfold kidsK at h
  split at h
  · omega
  · split at h
    · omega
    · split at h <;> omega

/-- A leaf is read from its word. -/
theorem leaf_back {k : Int} {t : ByteArray} {n : Int} (h : node1 k t n 0 = true) (f : Nat) (rest : List W) : atomP (f + 1) (leafW k t n :: rest) = some (.mk k t n [], rest) := by
  unfold node1 at h
  simp only [Bool.and_eq_true] at h
  obtain ⟨⟨hk, ht⟩, hn⟩ := h
  have hk0 : kidsK k = 0 := by simpa using (of_decide_eq_true hk).symm
  rcases zero_kids hk0 with rfl | rfl | rfl | rfl | rfl | rfl
  · have hn0 : n = 0 := by simpa using hn
    subst hn0
    unfold leafW
    rw [if_pos rfl]
    split
    · rename_i hp
      rw [Bool.and_eq_true, Bool.not_eq_true'] at hp
      rw [atomP, if_neg (by simp), if_neg (by simp), if_pos (.inr ⟨rfl, hp.2⟩)]
      rw [leaf, txt_data]
    · rw [atomP, if_neg (by simp), if_neg (by simp), if_pos (.inl rfl)]
      rw [leaf, txt_data]
  · have hn0 : 0 ≤ n ∧ n ≤ 999999999 := by simpa using hn
    have ht0 : t = txt [] := txt_empty (by simpa using ht)
    subst ht0
    unfold leafW
    rw [if_neg (by decide), if_pos rfl, atomP, if_pos rfl, readD_inB n hn0.1 hn0.2]
    rfl
  · have hn0 : n = 0 := by simpa using hn
    subst hn0
    unfold leafW
    rw [if_neg (by decide), if_neg (by decide), if_pos rfl, atomP, if_neg (by simp), if_pos rfl]
    rw [leaf, txt_data]
  · have hn0 : n = 0 := by simpa using hn
    have ht0 : t = txt [] := txt_empty (by simpa using ht)
    subst hn0 ht0
    rfl
  · have hn0 : n = 0 := by simpa using hn
    have ht0 : t = txt [] := txt_empty (by simpa using ht)
    subst hn0 ht0
    rfl
  · have hn0 : n = 0 := by simpa using hn
    have ht0 : t = txt [] := txt_empty (by simpa using ht)
    subst hn0 ht0
    rfl

theorem inner_text {k : Int} {t : ByteArray} {n : Int} {m : Nat} (h : node1 k t n m = true) (hk : 6 ≤ k) : t = txt [] ∧ n = 0 := by
  unfold node1 at h
  simp only [Bool.and_eq_true] at h
  obtain ⟨⟨_, ht⟩, hn⟩ := h
  rw [if_neg (by omega), if_neg (by omega)] at ht
  rw [if_neg (by omega)] at hn
  exact ⟨txt_empty ht, of_decide_eq_true hn⟩

theorem arity {k : Int} {t : ByteArray} {n : Int} {m : Nat} (h : node1 k t n m = true) : kidsK k = m := by
  unfold node1 at h
  simp only [Bool.and_eq_true] at h
  exact (of_decide_eq_true h.1.1).symm

theorem two_binds {k : Int} (h : k ∈ ([8, 9, 10, 11, 12, 13, 14, 15, 16, 17, 18] : List Int)) : bindsK k ≤ 6 ∧ bindsK k ≠ 3 := by
  have : ∀ k ∈ ([8, 9, 10, 11, 12, 13, 14, 15, 16, 17, 18] : List Int), bindsK k ≤ 6 ∧ bindsK k ≠ 3 := by decide
  exact this k h

theorem read_back : ∀ (n : Nat) (e : Ex), e.nodes ≤ n → shapeE e = true → (∀ L, 1 ≤ L → L ≤ 7 → RTat e L) ∧ (∀ L, 1 ≤ L → L ≤ 6 → L ≠ 3 → L ≠ 4 → Aat e L) := by
  intro n
  induction n with
  | zero => intro e h; rw [Ex.nodes_eq] at h; omega
  | succ n ih =>
    intro e hn hs
    suffices H : RTat e (bindsK e.kind) ∧ (bindsK e.kind ≤ 6 → bindsK e.kind ≠ 3 → bindsK e.kind ≠ 4 → Aat e (bindsK e.kind)) by
      have hall := all_levels hs H.1
      refine ⟨hall, fun L h1 h6 h3 h4 => ?_⟩
      by_cases he : L = bindsK e.kind
      · subst he; exact H.2 h6 h3 h4
      · exact all_sums hall h1 h6 h3 he
    obtain ⟨k, t, m, kids⟩ := e
    rw [Ex.nodes_eq] at hn
    have hs0 := hs
    rw [shapeE, Bool.and_eq_true] at hs
    obtain ⟨h1, hl⟩ := hs
    match kids, h1, hl, hn, hs0 with
    | [], h1, _, _, _ =>
      have hk := zero_kids (arity h1)
      have hb : bindsK k = 7 := by rcases hk with rfl | rfl | rfl | rfl | rfl | rfl <;> rfl
      show RTat _ (bindsK k) ∧ _
      rw [hb]
      refine ⟨fun rest f hf _ => ?_, fun h => by have : bindsK k ≤ 6 := h; omega⟩
      rw [wordsE, hb, if_neg (by omega)]
      unfold enough at hf
      obtain ⟨f, rfl⟩ : ∃ g, f = g + 2 := ⟨f - 2, by simp only [List.length_append] at hf; have := words_pos (.mk k t m []) 7; omega⟩
      rw [anyP, if_pos rfl]
      exact leaf_back h1 f rest
    | [a], h1, hl, hn, _ =>
      have hsa : shapeE a = true := by rw [shapeL, Bool.and_eq_true] at hl; exact hl.1
      have hna : a.nodes ≤ n := by change 1 + nodesL [a] ≤ n + 1 at hn; rw [nodesL, nodesL] at hn; omega
      obtain ⟨ha, _⟩ := ih a hna hsa
      have hk := one_kid (arity h1)
      obtain ⟨rfl, rfl⟩ := inner_text h1 (by omega)
      rcases hk with rfl | rfl
      · show RTat _ 3 ∧ _
        refine ⟨fun rest f hf hst => ?_, fun _ h3 => absurd rfl h3⟩
        have hw : wordsE (.mk 6 (txt []) 0 [a]) 3 = (0, wNot) :: wordsE a 3 := by rw [wordsE, if_pos rfl, if_neg (by decide)]
        rw [hw] at hf ⊢
        unfold enough at hf
        simp only [List.cons_append, List.length_cons, List.length_append] at hf
        obtain ⟨f, rfl⟩ : ∃ g, f = g + 1 := ⟨f - 1, by omega⟩
        rw [List.cons_append, anyP, if_neg (by omega), if_pos ⟨rfl, rfl⟩, List.tail_cons, ha 3 (by omega) (by omega) rest f (by unfold enough; rw [List.length_append]; omega) hst]
        rfl
      · show RTat _ 4 ∧ _
        refine ⟨fun rest f hf hst => ?_, fun _ _ h4 => absurd rfl h4⟩
        have hw : wordsE (.mk 7 (txt []) 0 [a]) 4 = wordsE a 5 ++ [(0, wIs), (0, wNull)] := by rw [wordsE, if_neg (by decide), if_neg (by decide)]
        rw [hw] at hf ⊢
        unfold enough at hf
        simp only [List.append_assoc, List.cons_append, List.nil_append, List.length_cons, List.length_append] at hf ⊢
        obtain ⟨f, rfl⟩ : ∃ g, f = g + 2 := ⟨f - 2, by omega⟩
        rw [anyP, if_neg (by omega), if_neg (by omega), ha 5 (by omega) (by omega) _ (f + 1) (by unfold enough; simp only [List.length_append, List.length_cons]; omega) (stop_is _)]
        show some (loopP (f + 1) 4 a _) = _
        rw [loopP, if_pos ⟨rfl, rfl, rfl⟩]
        rfl
    | [a, b], h1, hl, hn, _ =>
      have hsa : shapeE a = true := by rw [shapeL, Bool.and_eq_true] at hl; exact hl.1
      have hsb : shapeE b = true := by rw [shapeL, shapeL, Bool.and_eq_true, Bool.and_eq_true] at hl; exact hl.2.1
      have hnn : a.nodes ≤ n ∧ b.nodes ≤ n := by
        change 1 + nodesL [a, b] ≤ n + 1 at hn
        rw [nodesL, nodesL, nodesL] at hn
        omega
      obtain ⟨ha, hA⟩ := ih a hnn.1 hsa
      obtain ⟨hb, _⟩ := ih b hnn.2 hsb
      have hk := two_mem (arity h1)
      obtain ⟨rfl, rfl⟩ := inner_text h1 (by have : ∀ k ∈ ([8, 9, 10, 11, 12, 13, 14, 15, 16, 17, 18] : List Int), 6 ≤ k := by decide
                                             exact this k hk)
      obtain ⟨hb6, hb3⟩ := two_binds hk
      have hr := binds_range k
      show RTat _ (bindsK k) ∧ (bindsK k ≤ 6 → bindsK k ≠ 3 → bindsK k ≠ 4 → Aat _ (bindsK k))
      have hw : wordsE (.mk k (txt []) 0 [a, b]) (bindsK k) = wordsE a (firstK k) ++ signW k :: wordsE b (bindsK k + 1) := by rw [wordsE, if_neg (by omega)]
      have hnx := sign_next k hk (bindsK k) (by omega)
      rw [if_pos rfl] at hnx
      have his := sign_is k hk
      by_cases h4 : bindsK k = 4
      · refine ⟨fun rest f hf hst => ?_, fun _ _ h => absurd h4 h⟩
        have hfk : firstK k = 5 := by unfold firstK; rw [if_pos h4]
        rw [hw, hfk] at hf ⊢
        rw [h4] at hf hst hnx ⊢
        unfold enough at hf
        simp only [List.append_assoc, List.cons_append, List.length_cons, List.length_append, show (4 : Nat) + 1 = 5 from rfl] at hf ⊢
        obtain ⟨f, rfl⟩ : ∃ g, f = g + 2 := ⟨f - 2, by omega⟩
        have hs5 : Stop 5 (signW k :: (wordsE b 5 ++ rest)) := by have := stop_sign hk (wordsE b 5 ++ rest); rw [h4] at this; exact this
        rw [anyP, if_neg (by omega), if_neg (by omega), ha 5 (by omega) (by omega) _ (f + 1) (by unfold enough; simp only [List.length_append, List.length_cons]; omega) hs5]
        show some (loopP (f + 1) 4 a _) = _
        rw [loopP, if_neg (by rintro ⟨_, h, _⟩; rw [his] at h; cases h), hnx]
        show some (match anyP f 5 (wordsE b 5 ++ rest) with | none => _ | some (s, r'') => _) = _
        rw [hb 5 (by omega) (by omega) rest f (by unfold enough; rw [List.length_append]; omega) (hst.mono (by omega))]
        rfl
      · have hfk : firstK k = bindsK k := by unfold firstK; rw [if_neg h4]
        have HA : Aat (.mk k (txt []) 0 [a, b]) (bindsK k) := by
          intro rest f hf hst
          rw [hw, hfk] at hf ⊢
          simp only [List.append_assoc, List.cons_append] at hf ⊢
          obtain ⟨f', hf', hp⟩ := hA (bindsK k) hr.1 hb6 hb3 h4 (signW k :: (wordsE b (bindsK k + 1) ++ rest)) f hf (stop_sign hk _)
          unfold enoughL at hf'
          simp only [List.length_cons, List.length_append] at hf'
          have hbp := words_pos b (bindsK k + 1)
          obtain ⟨f', rfl⟩ : ∃ g, f' = g + 1 := ⟨f' - 1, by omega⟩
          refine ⟨f', by unfold enoughL; omega, ?_⟩
          rw [hp, loopP, if_neg (by rintro ⟨h, _⟩; exact h4 h), hnx]
          show some (match anyP f' (bindsK k + 1) (wordsE b (bindsK k + 1) ++ rest) with | none => _ | some (s, r'') => _) = _
          rw [hb (bindsK k + 1) (by omega) (by omega) rest f' (by unfold enough; rw [List.length_append]; omega) hst]
          show some (if bindsK k = 4 then _ else _) = _
          rw [if_neg h4]
          rfl
        exact ⟨rt_of_a hb6 HA, fun _ _ _ => HA⟩
    | a :: b :: c :: r, h1, _, _, _ =>
      have := arity h1
      unfold kidsK at this
      simp only [List.length_cons] at this
      split at this
      · omega
      · split at this
        · omega
        · split at this <;> omega

end Go.Proofs.YtgnillmhpockkaaGreatDoor
